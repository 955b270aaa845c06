/-
  What the proofs of this seat's statements share (PartS, PartT, PartD).
-/
import Derived.Test.YtpjpbemgjniljaaDoorU12
import Derived.Test.YtpjpbemgjniljaaDoorU7
import Derived.Test.YtpjpbemgjniljaaDoorU5
import Derived.Test.YtpjpbemgjniljaaDoorU8

namespace Go.Proofs.YtpjpbemgjniljaaDoor
open Go.RowKit

theorem bit_val {x : Int} {k : Nat} (h0 : 0 ≤ x) : (x / (2 : Int) ^ k).tmod 2 = if hasW x k = true then 1 else 0 := by
  obtain ⟨m, rfl⟩ : ∃ m : Nat, x = m := ⟨x.toNat, by omega⟩
  have e : (2 : Int) ^ k = ((2 ^ k : Nat) : Int) := by push_cast; rfl
  have e2 : hasW (m : Int) k = decide (m / 2 ^ k % 2 = 1) := by unfold hasW; rw [Int.toNat_natCast, Nat.testBit_eq_decide_div_mod_eq]
  rw [e2, e, show ((m : Int) / ((2 ^ k : Nat) : Int)).tmod 2 = ((m / 2 ^ k % 2 : Nat) : Int) by rw [← Int.natCast_ediv]; rfl]
  rcases Nat.mod_two_eq_zero_or_one (m / 2 ^ k) with h | h <;> rw [h] <;> rfl
def cntTo (xs : List Int) (k j : Nat) : Nat := ((xs.take j).filter fun x => hasW x k).length
theorem cnt_next {xs : List Int} {j : Nat} {x : Int} (hx : Hid (xs[j]? = some x)) (k : Nat) : cntTo xs k (j + 1) = cntTo xs k j + if hasW x k = true then 1 else 0 := by
  unfold cntTo
  rw [take_snoc hx, List.filter_append, List.length_append]
  by_cases h : hasW x k = true
  · simp [h]
  · simp [h]
theorem cnt_le (xs : List Int) (k j : Nat) : cntTo xs k j ≤ j := by
  unfold cntTo
  refine Nat.le_trans (List.length_filter_le _ _) ?_
  rw [List.length_take]; omega
def OneTo (xs : List Int) (k : Nat) : Prop := ∀ v, v < k → (xs.filter fun x => hasW x v).length = 1
theorem one_zero (xs : List Int) : OneTo xs 0 := fun _ h => by omega
theorem one_next {xs : List Int} {k : Nat} (h : OneTo xs k) (hk : (xs.filter fun x => hasW x k).length = 1) : OneTo xs (k + 1) := fun v hv => by
  by_cases e : v = k
  · rw [e]; exact hk
  · exact h v (by omega)
theorem one_end {t : Int} {xs : List Int} (ho : issueOkB t xs = true) (h : OneTo xs (nWorlds t)) : isPartB t xs = true := by
  unfold isPartB
  rw [ho, Bool.true_and, List.all_eq_true]
  intro w hw
  rw [decide_eq_true_eq]
  exact h w (List.mem_range.1 hw)
theorem one_miss {t : Int} {xs : List Int} {k : Nat} (hk : k < nWorlds t) (h : (xs.filter fun x => hasW x k).length ≠ 1) : isPartB t xs = false := by
  unfold isPartB
  rw [Bool.and_eq_false_iff]
  right
  rw [List.all_eq_false]
  exact ⟨k, List.mem_range.2 hk, by rw [decide_eq_true_eq]; exact h⟩

def partsTo (t : Int) (xs : List Int) (k : Nat) : List Int := (List.range k).map (partOf t xs)
theorem partsTo_next (t : Int) (xs : List Int) (k : Nat) : partsTo t xs (k + 1) = partsTo t xs k ++ [partOf t xs k] := by unfold partsTo; rw [List.range_succ, List.map_append]; rfl
theorem partsTo_len (t : Int) (xs : List Int) (k : Nat) : (partsTo t xs k).length = k := by unfold partsTo; rw [List.length_map, List.length_range]
/-- What the model has of a part behind v worlds. -/
def upTo (xs : List Int) (u v : Nat) : Nat := setOfW (fun z => sameIn xs z u) v
theorem upTo_next (xs : List Int) (u v : Nat) : upTo xs u (v + 1) = upTo xs u v + if sameIn xs v u = true then 2 ^ v else 0 := rfl
theorem upTo_lt (xs : List Int) (u v : Nat) : upTo xs u v < 2 ^ v := setOfW_lt _ v
def sameTo (xs : List Int) (v u j : Nat) : Bool := sameIn (xs.take j) v u

set_option maxRecDepth 100000 in
set_option maxHeartbeats 8000000 in
theorem sParts (t : Int) (A : Option Addr) (n c : Nat) (xs : List Int) (w : World) (h1 : 1 ≤ t) (h3 : t ≤ 3) (hs : ∀ x ∈ xs, setOkB t x = true) (ha : Row w A n c xs) :
    Calls Tryd.prog 59 #[.int .i64 t, .slice A n c] w (OwnL (tidyL (partsX t xs)) w) := by
  have HA := Lib.hid ha
  obtain rfl := ha.hn
  have hl := ha.hl
  have HR := Lib.hid (sets_range hs)
  have HRP : Hid (∀ x ∈ partsX t xs, 0 ≤ x ∧ x < 256) := sets_range (parts_sets h1 h3)
  clear ha hs
  have ht : t = 1 ∨ t = 2 ∨ t = 3 := by omega
  clear h1 h3
  rcases ht with rfl | rfl | rfl
  · have HEND : Hid (partsTo 1 xs 2 = partsX 1 xs) := rfl
    have HPE : Hid (∀ u, partOf 1 xs u = (upTo xs u 2 : Int)) := fun u => rfl
    go_enter Tryd.func59, Tryd.ntmps59
    go_wp2_with fail
    go_loopw [5, 6] (fun v i wr => ∃ k : Nat, k ≤ 2 ∧ i = .int .i64 k ∧ Owns wr w.heap.size v (partsTo 1 xs k) ∧ Below w.heap.size w wr) (fun _ i _ => 2 - (Go.RowKit.intOf i).toNat)
    case atStart => exact ⟨0, Nat.zero_le _, rfl, Owns.lit w w.heap.size [] (Nat.le_refl _) (by simp [maxLen]), (Below.refl _ _).alloc (Nat.le_refl _) _⟩
    case round =>
      obtain ⟨k, hk, rfl, hown, hbel⟩ := hrel
      obtain ⟨W0, rfl⟩ : ∃ W, W = wr := ⟨_, rfl⟩
      have HO := Lib.hid hown
      have HB := Lib.hid hbel
      have hsz := hbel.size
      have HPL := Lib.hid (partsTo_len 1 xs k)
      have HNX := Lib.hid (partsTo_next 1 xs k)
      clear hown hbel
      by_cases hkt : k < 2
      · go_wp2_with fail
        go_loopw [7, 8] (fun s i wr => ∃ v : Nat, v ≤ 2 ∧ i = .int .i64 v ∧ s = .int .i64 (upTo xs k v) ∧ ∃ q, wr = W0.drewN q) (fun _ i _ => 2 - (Go.RowKit.intOf i).toNat)
        case atStart => exact ⟨0, Nat.zero_le _, rfl, rfl, 0, rfl⟩
        case round =>
          obtain ⟨v, hv, rfl, rfl, q, rfl⟩ := hrel
          have hup := upTo_lt xs k v
          have hunx := upTo_next xs k v
          by_cases hvt : v < 2
          · have hwp := wrap_pow6p (k := v) (by omega)
            have HWP := Lib.hid hwp
            have hw8 : 2 ^ v < 256 := Nat.lt_of_le_of_lt (Nat.pow_le_pow_right (by omega) (show v ≤ 7 by omega)) (by decide)
            obtain ⟨up, HUP⟩ : ∃ u, Hid (upTo xs k v = u) := ⟨_, rfl⟩
            rw [HUP.out] at hup hunx ⊢
            have HUN := Lib.hid hunx
            clear hunx hwp
            go_wp2_with fail
            go_loopw [9, 10] (fun s i wr => ∃ j : Nat, j ≤ xs.length ∧ i = .int .i64 j ∧ s = .bool (sameTo xs v k j) ∧ ∃ q, wr = W0.drewN q) (fun _ i _ => xs.length - (Go.RowKit.intOf i).toNat)
            case atStart => exact ⟨0, Nat.zero_le _, rfl, rfl, q, rfl⟩
            case round =>
              obtain ⟨j, hj, rfl, rfl, q2, rfl⟩ := hrel
              by_cases hjt : j < xs.length
              · obtain ⟨b, off, x, rfl, hcell, hx, _⟩ := (HA.out.hA.below HB.out).elem hjt
                obtain ⟨hx0, hx1⟩ := HR.out x (elem_mem hx)
                have hnx := same_next hx v k
                rcases hy : sameTo xs v k j with _ | _
                · have HN : Hid (sameTo xs v k (j + 1) = false) := by unfold sameTo at hy; unfold Hid sameTo; rw [hnx, hy]; rfl
                  clear hnx hy
                  go_wp2_with fail
                  go_quiet (fail)
                  go_wp2_with fail
                  go_roundw
                  case rel => exact ⟨j + 1, by omega, by go_num, by rw [HN.out], _, rfl⟩
                  case measure => simp [Go.RowKit.intOf]; omega
                · obtain ⟨z, HZ⟩ : ∃ z, Hid ((hasW x v == hasW x k) = z) := ⟨_, rfl⟩
                  have HN : Hid (sameTo xs v k (j + 1) = z) := by unfold sameTo at hy; unfold Hid sameTo; rw [hnx, hy, HZ.out]; rfl
                  have hcmp : ((x / (2 : Int) ^ v).tmod 2 == (x / (2 : Int) ^ k).tmod 2) = z := by
                    rw [bit_val hx0, bit_val hx0, ← HZ.out]
                    cases hasW x v <;> cases hasW x k <;> rfl
                  clear hnx hy
                  go_wp2_with fail
                  go_quiet (fail)
                  go_wp2_with fail
                  go_roundw
                  case rel => exact ⟨j + 1, by omega, by go_num, by rw [HN.out], _, rfl⟩
                  case measure => simp [Go.RowKit.intOf]; omega
              · obtain rfl : j = xs.length := by omega
                have HS : Hid (sameTo xs v k xs.length = sameIn xs v k) := by unfold Hid sameTo; rw [List.take_length]
                rw [HS.out]
                have hwp := HWP.out
                rcases hy : sameIn xs v k with _ | _
                · have HN : Hid (upTo xs k (v + 1) = up) := by unfold Hid; rw [HUN.out, hy]; simp
                  clear hy hwp
                  go_wp2_with fail
                  go_roundw
                  case rel => exact ⟨v + 1, by omega, by go_num, by rw [HN.out], _, rfl⟩
                  case measure => simp [Go.RowKit.intOf]; omega
                · have HN : Hid (upTo xs k (v + 1) = up + 2 ^ v) := by unfold Hid; rw [HUN.out, hy]; simp
                  clear hy
                  obtain ⟨pw, HPW⟩ : ∃ p : Nat, Hid ((2 : Nat) ^ v = p) := ⟨2 ^ v, rfl⟩
                  rw [HPW.out] at hwp hw8 hup HN
                  go_wp2_with fail
                  go_roundw
                  case rel => exact ⟨v + 1, by omega, by go_num, by rw [HN.out]; go_num, _, rfl⟩
                  case measure => simp [Go.RowKit.intOf]; omega
          · obtain rfl : v = 2 := by omega
            have HPK := Lib.hid (HPE.out k)
            rw [HPK.out] at HNX
            obtain ⟨up, HUP⟩ : ∃ u, Hid (upTo xs k 2 = u) := ⟨_, rfl⟩
            rw [HUP.out] at HNX ⊢
            have hpl : (partsTo 1 xs k).length ≤ 8 := by have := HPL.out; omega
            have HOQ : Hid (Owns (W0.drewN q) w.heap.size u5 (partsTo 1 xs k)) := HO.out
            have HBQ : Hid (Below w.heap.size w (W0.drewN q)) := bel_drewN HB.out q
            have hszq : w.heap.size ≤ (W0.drewN q).heap.size := HB.out.size
            go_wp2_with (at_builtin; refine wp_append1 (W := W0.drewN q) rfl _ _ rfl w.heap.size u5 (partsTo 1 xs k) rfl HOQ.out (up : Int) rfl (by omega) (by exact hszq) ?_; intro v' w' hown' hgrow)
            have hb' := below_append HBQ.out hszq HOQ.out (Nat.le_refl _) hgrow
            go_roundw
            case rel => exact ⟨k + 1, by omega, by go_num, by rw [HNX.out]; exact hown', hb'⟩
            case measure => simp [Go.RowKit.intOf]; omega
      · obtain rfl : k = 2 := by omega
        rw [HEND.out] at HO HPL
        obtain ⟨l, HLL⟩ : ∃ l, Hid (partsX 1 xs = l) := ⟨_, rfl⟩
        rw [HLL.out] at HO HPL HRP ⊢
        obtain ⟨A1, c1, rfl, _, _, hn1, _⟩ := HO.out.form
        have HN1 := Lib.hid hn1
        have hpl : l.length ≤ 8 := by have := HPL.out; omega
        clear hn1
        go_wp2_with fail
        refine (sTidy _ _ _ l _ rfl (by omega) HRP.out HN1.out).mono ?_
        rintro e w4 ⟨v, rfl, ho, hb⟩
        have HO4 := Lib.hid ho
        have HB4 := Lib.hid (bel_trans HB.out hb)
        clear ho hb
        go_wp2_with fail
        go_ret
        exact ⟨_, rfl, by rw [HLL.out]; exact HO4.out.base hsz, HB4.out⟩
  · have HEND : Hid (partsTo 2 xs 4 = partsX 2 xs) := rfl
    have HPE : Hid (∀ u, partOf 2 xs u = (upTo xs u 4 : Int)) := fun u => rfl
    go_enter Tryd.func59, Tryd.ntmps59
    go_wp2_with fail
    go_loopw [5, 6] (fun v i wr => ∃ k : Nat, k ≤ 4 ∧ i = .int .i64 k ∧ Owns wr w.heap.size v (partsTo 2 xs k) ∧ Below w.heap.size w wr) (fun _ i _ => 4 - (Go.RowKit.intOf i).toNat)
    case atStart => exact ⟨0, Nat.zero_le _, rfl, Owns.lit w w.heap.size [] (Nat.le_refl _) (by simp [maxLen]), (Below.refl _ _).alloc (Nat.le_refl _) _⟩
    case round =>
      obtain ⟨k, hk, rfl, hown, hbel⟩ := hrel
      obtain ⟨W0, rfl⟩ : ∃ W, W = wr := ⟨_, rfl⟩
      have HO := Lib.hid hown
      have HB := Lib.hid hbel
      have hsz := hbel.size
      have HPL := Lib.hid (partsTo_len 2 xs k)
      have HNX := Lib.hid (partsTo_next 2 xs k)
      clear hown hbel
      by_cases hkt : k < 4
      · go_wp2_with fail
        go_loopw [7, 8] (fun s i wr => ∃ v : Nat, v ≤ 4 ∧ i = .int .i64 v ∧ s = .int .i64 (upTo xs k v) ∧ ∃ q, wr = W0.drewN q) (fun _ i _ => 4 - (Go.RowKit.intOf i).toNat)
        case atStart => exact ⟨0, Nat.zero_le _, rfl, rfl, 0, rfl⟩
        case round =>
          obtain ⟨v, hv, rfl, rfl, q, rfl⟩ := hrel
          have hup := upTo_lt xs k v
          have hunx := upTo_next xs k v
          by_cases hvt : v < 4
          · have hwp := wrap_pow6p (k := v) (by omega)
            have HWP := Lib.hid hwp
            have hw8 : 2 ^ v < 256 := Nat.lt_of_le_of_lt (Nat.pow_le_pow_right (by omega) (show v ≤ 7 by omega)) (by decide)
            obtain ⟨up, HUP⟩ : ∃ u, Hid (upTo xs k v = u) := ⟨_, rfl⟩
            rw [HUP.out] at hup hunx ⊢
            have HUN := Lib.hid hunx
            clear hunx hwp
            go_wp2_with fail
            go_loopw [9, 10] (fun s i wr => ∃ j : Nat, j ≤ xs.length ∧ i = .int .i64 j ∧ s = .bool (sameTo xs v k j) ∧ ∃ q, wr = W0.drewN q) (fun _ i _ => xs.length - (Go.RowKit.intOf i).toNat)
            case atStart => exact ⟨0, Nat.zero_le _, rfl, rfl, q, rfl⟩
            case round =>
              obtain ⟨j, hj, rfl, rfl, q2, rfl⟩ := hrel
              by_cases hjt : j < xs.length
              · obtain ⟨b, off, x, rfl, hcell, hx, _⟩ := (HA.out.hA.below HB.out).elem hjt
                obtain ⟨hx0, hx1⟩ := HR.out x (elem_mem hx)
                have hnx := same_next hx v k
                rcases hy : sameTo xs v k j with _ | _
                · have HN : Hid (sameTo xs v k (j + 1) = false) := by unfold sameTo at hy; unfold Hid sameTo; rw [hnx, hy]; rfl
                  clear hnx hy
                  go_wp2_with fail
                  go_quiet (fail)
                  go_wp2_with fail
                  go_roundw
                  case rel => exact ⟨j + 1, by omega, by go_num, by rw [HN.out], _, rfl⟩
                  case measure => simp [Go.RowKit.intOf]; omega
                · obtain ⟨z, HZ⟩ : ∃ z, Hid ((hasW x v == hasW x k) = z) := ⟨_, rfl⟩
                  have HN : Hid (sameTo xs v k (j + 1) = z) := by unfold sameTo at hy; unfold Hid sameTo; rw [hnx, hy, HZ.out]; rfl
                  have hcmp : ((x / (2 : Int) ^ v).tmod 2 == (x / (2 : Int) ^ k).tmod 2) = z := by
                    rw [bit_val hx0, bit_val hx0, ← HZ.out]
                    cases hasW x v <;> cases hasW x k <;> rfl
                  clear hnx hy
                  go_wp2_with fail
                  go_quiet (fail)
                  go_wp2_with fail
                  go_roundw
                  case rel => exact ⟨j + 1, by omega, by go_num, by rw [HN.out], _, rfl⟩
                  case measure => simp [Go.RowKit.intOf]; omega
              · obtain rfl : j = xs.length := by omega
                have HS : Hid (sameTo xs v k xs.length = sameIn xs v k) := by unfold Hid sameTo; rw [List.take_length]
                rw [HS.out]
                have hwp := HWP.out
                rcases hy : sameIn xs v k with _ | _
                · have HN : Hid (upTo xs k (v + 1) = up) := by unfold Hid; rw [HUN.out, hy]; simp
                  clear hy hwp
                  go_wp2_with fail
                  go_roundw
                  case rel => exact ⟨v + 1, by omega, by go_num, by rw [HN.out], _, rfl⟩
                  case measure => simp [Go.RowKit.intOf]; omega
                · have HN : Hid (upTo xs k (v + 1) = up + 2 ^ v) := by unfold Hid; rw [HUN.out, hy]; simp
                  clear hy
                  obtain ⟨pw, HPW⟩ : ∃ p : Nat, Hid ((2 : Nat) ^ v = p) := ⟨2 ^ v, rfl⟩
                  rw [HPW.out] at hwp hw8 hup HN
                  go_wp2_with fail
                  go_roundw
                  case rel => exact ⟨v + 1, by omega, by go_num, by rw [HN.out]; go_num, _, rfl⟩
                  case measure => simp [Go.RowKit.intOf]; omega
          · obtain rfl : v = 4 := by omega
            have HPK := Lib.hid (HPE.out k)
            rw [HPK.out] at HNX
            obtain ⟨up, HUP⟩ : ∃ u, Hid (upTo xs k 4 = u) := ⟨_, rfl⟩
            rw [HUP.out] at HNX ⊢
            have hpl : (partsTo 2 xs k).length ≤ 8 := by have := HPL.out; omega
            have HOQ : Hid (Owns (W0.drewN q) w.heap.size u5 (partsTo 2 xs k)) := HO.out
            have HBQ : Hid (Below w.heap.size w (W0.drewN q)) := bel_drewN HB.out q
            have hszq : w.heap.size ≤ (W0.drewN q).heap.size := HB.out.size
            go_wp2_with (at_builtin; refine wp_append1 (W := W0.drewN q) rfl _ _ rfl w.heap.size u5 (partsTo 2 xs k) rfl HOQ.out (up : Int) rfl (by omega) (by exact hszq) ?_; intro v' w' hown' hgrow)
            have hb' := below_append HBQ.out hszq HOQ.out (Nat.le_refl _) hgrow
            go_roundw
            case rel => exact ⟨k + 1, by omega, by go_num, by rw [HNX.out]; exact hown', hb'⟩
            case measure => simp [Go.RowKit.intOf]; omega
      · obtain rfl : k = 4 := by omega
        rw [HEND.out] at HO HPL
        obtain ⟨l, HLL⟩ : ∃ l, Hid (partsX 2 xs = l) := ⟨_, rfl⟩
        rw [HLL.out] at HO HPL HRP ⊢
        obtain ⟨A1, c1, rfl, _, _, hn1, _⟩ := HO.out.form
        have HN1 := Lib.hid hn1
        have hpl : l.length ≤ 8 := by have := HPL.out; omega
        clear hn1
        go_wp2_with fail
        refine (sTidy _ _ _ l _ rfl (by omega) HRP.out HN1.out).mono ?_
        rintro e w4 ⟨v, rfl, ho, hb⟩
        have HO4 := Lib.hid ho
        have HB4 := Lib.hid (bel_trans HB.out hb)
        clear ho hb
        go_wp2_with fail
        go_ret
        exact ⟨_, rfl, by rw [HLL.out]; exact HO4.out.base hsz, HB4.out⟩
  · have HEND : Hid (partsTo 3 xs 8 = partsX 3 xs) := rfl
    have HPE : Hid (∀ u, partOf 3 xs u = (upTo xs u 8 : Int)) := fun u => rfl
    go_enter Tryd.func59, Tryd.ntmps59
    go_wp2_with fail
    go_loopw [5, 6] (fun v i wr => ∃ k : Nat, k ≤ 8 ∧ i = .int .i64 k ∧ Owns wr w.heap.size v (partsTo 3 xs k) ∧ Below w.heap.size w wr) (fun _ i _ => 8 - (Go.RowKit.intOf i).toNat)
    case atStart => exact ⟨0, Nat.zero_le _, rfl, Owns.lit w w.heap.size [] (Nat.le_refl _) (by simp [maxLen]), (Below.refl _ _).alloc (Nat.le_refl _) _⟩
    case round =>
      obtain ⟨k, hk, rfl, hown, hbel⟩ := hrel
      obtain ⟨W0, rfl⟩ : ∃ W, W = wr := ⟨_, rfl⟩
      have HO := Lib.hid hown
      have HB := Lib.hid hbel
      have hsz := hbel.size
      have HPL := Lib.hid (partsTo_len 3 xs k)
      have HNX := Lib.hid (partsTo_next 3 xs k)
      clear hown hbel
      by_cases hkt : k < 8
      · go_wp2_with fail
        go_loopw [7, 8] (fun s i wr => ∃ v : Nat, v ≤ 8 ∧ i = .int .i64 v ∧ s = .int .i64 (upTo xs k v) ∧ ∃ q, wr = W0.drewN q) (fun _ i _ => 8 - (Go.RowKit.intOf i).toNat)
        case atStart => exact ⟨0, Nat.zero_le _, rfl, rfl, 0, rfl⟩
        case round =>
          obtain ⟨v, hv, rfl, rfl, q, rfl⟩ := hrel
          have hup := upTo_lt xs k v
          have hunx := upTo_next xs k v
          by_cases hvt : v < 8
          · have hwp := wrap_pow6p (k := v) (by omega)
            have HWP := Lib.hid hwp
            have hw8 : 2 ^ v < 256 := Nat.lt_of_le_of_lt (Nat.pow_le_pow_right (by omega) (show v ≤ 7 by omega)) (by decide)
            obtain ⟨up, HUP⟩ : ∃ u, Hid (upTo xs k v = u) := ⟨_, rfl⟩
            rw [HUP.out] at hup hunx ⊢
            have HUN := Lib.hid hunx
            clear hunx hwp
            go_wp2_with fail
            go_loopw [9, 10] (fun s i wr => ∃ j : Nat, j ≤ xs.length ∧ i = .int .i64 j ∧ s = .bool (sameTo xs v k j) ∧ ∃ q, wr = W0.drewN q) (fun _ i _ => xs.length - (Go.RowKit.intOf i).toNat)
            case atStart => exact ⟨0, Nat.zero_le _, rfl, rfl, q, rfl⟩
            case round =>
              obtain ⟨j, hj, rfl, rfl, q2, rfl⟩ := hrel
              by_cases hjt : j < xs.length
              · obtain ⟨b, off, x, rfl, hcell, hx, _⟩ := (HA.out.hA.below HB.out).elem hjt
                obtain ⟨hx0, hx1⟩ := HR.out x (elem_mem hx)
                have hnx := same_next hx v k
                rcases hy : sameTo xs v k j with _ | _
                · have HN : Hid (sameTo xs v k (j + 1) = false) := by unfold sameTo at hy; unfold Hid sameTo; rw [hnx, hy]; rfl
                  clear hnx hy
                  go_wp2_with fail
                  go_quiet (fail)
                  go_wp2_with fail
                  go_roundw
                  case rel => exact ⟨j + 1, by omega, by go_num, by rw [HN.out], _, rfl⟩
                  case measure => simp [Go.RowKit.intOf]; omega
                · obtain ⟨z, HZ⟩ : ∃ z, Hid ((hasW x v == hasW x k) = z) := ⟨_, rfl⟩
                  have HN : Hid (sameTo xs v k (j + 1) = z) := by unfold sameTo at hy; unfold Hid sameTo; rw [hnx, hy, HZ.out]; rfl
                  have hcmp : ((x / (2 : Int) ^ v).tmod 2 == (x / (2 : Int) ^ k).tmod 2) = z := by
                    rw [bit_val hx0, bit_val hx0, ← HZ.out]
                    cases hasW x v <;> cases hasW x k <;> rfl
                  clear hnx hy
                  go_wp2_with fail
                  go_quiet (fail)
                  go_wp2_with fail
                  go_roundw
                  case rel => exact ⟨j + 1, by omega, by go_num, by rw [HN.out], _, rfl⟩
                  case measure => simp [Go.RowKit.intOf]; omega
              · obtain rfl : j = xs.length := by omega
                have HS : Hid (sameTo xs v k xs.length = sameIn xs v k) := by unfold Hid sameTo; rw [List.take_length]
                rw [HS.out]
                have hwp := HWP.out
                rcases hy : sameIn xs v k with _ | _
                · have HN : Hid (upTo xs k (v + 1) = up) := by unfold Hid; rw [HUN.out, hy]; simp
                  clear hy hwp
                  go_wp2_with fail
                  go_roundw
                  case rel => exact ⟨v + 1, by omega, by go_num, by rw [HN.out], _, rfl⟩
                  case measure => simp [Go.RowKit.intOf]; omega
                · have HN : Hid (upTo xs k (v + 1) = up + 2 ^ v) := by unfold Hid; rw [HUN.out, hy]; simp
                  clear hy
                  obtain ⟨pw, HPW⟩ : ∃ p : Nat, Hid ((2 : Nat) ^ v = p) := ⟨2 ^ v, rfl⟩
                  rw [HPW.out] at hwp hw8 hup HN
                  go_wp2_with fail
                  go_roundw
                  case rel => exact ⟨v + 1, by omega, by go_num, by rw [HN.out]; go_num, _, rfl⟩
                  case measure => simp [Go.RowKit.intOf]; omega
          · obtain rfl : v = 8 := by omega
            have HPK := Lib.hid (HPE.out k)
            rw [HPK.out] at HNX
            obtain ⟨up, HUP⟩ : ∃ u, Hid (upTo xs k 8 = u) := ⟨_, rfl⟩
            rw [HUP.out] at HNX ⊢
            have hpl : (partsTo 3 xs k).length ≤ 8 := by have := HPL.out; omega
            have HOQ : Hid (Owns (W0.drewN q) w.heap.size u5 (partsTo 3 xs k)) := HO.out
            have HBQ : Hid (Below w.heap.size w (W0.drewN q)) := bel_drewN HB.out q
            have hszq : w.heap.size ≤ (W0.drewN q).heap.size := HB.out.size
            go_wp2_with (at_builtin; refine wp_append1 (W := W0.drewN q) rfl _ _ rfl w.heap.size u5 (partsTo 3 xs k) rfl HOQ.out (up : Int) rfl (by omega) (by exact hszq) ?_; intro v' w' hown' hgrow)
            have hb' := below_append HBQ.out hszq HOQ.out (Nat.le_refl _) hgrow
            go_roundw
            case rel => exact ⟨k + 1, by omega, by go_num, by rw [HNX.out]; exact hown', hb'⟩
            case measure => simp [Go.RowKit.intOf]; omega
      · obtain rfl : k = 8 := by omega
        rw [HEND.out] at HO HPL
        obtain ⟨l, HLL⟩ : ∃ l, Hid (partsX 3 xs = l) := ⟨_, rfl⟩
        rw [HLL.out] at HO HPL HRP ⊢
        obtain ⟨A1, c1, rfl, _, _, hn1, _⟩ := HO.out.form
        have HN1 := Lib.hid hn1
        have hpl : l.length ≤ 8 := by have := HPL.out; omega
        clear hn1
        go_wp2_with fail
        refine (sTidy _ _ _ l _ rfl (by omega) HRP.out HN1.out).mono ?_
        rintro e w4 ⟨v, rfl, ho, hb⟩
        have HO4 := Lib.hid ho
        have HB4 := Lib.hid (bel_trans HB.out hb)
        clear ho hb
        go_wp2_with fail
        go_ret
        exact ⟨_, rfl, by rw [HLL.out]; exact HO4.out.base hsz, HB4.out⟩
theorem sParts_is {t : Int} {xs l : List Int} (h : Hid (tidyL (partsX t xs) = l)) {A : Option Addr} {n c : Nat} {w : World} (h1 : 1 ≤ t) (h3 : t ≤ 3) (hs : ∀ x ∈ xs, setOkB t x = true) (ha : Row w A n c xs) :
    Calls Tryd.prog 59 #[.int .i64 t, .slice A n c] w (OwnL l w) := by
  have := sParts t A n c xs w h1 h3 hs ha
  rw [h.out] at this; exact this
end Go.Proofs.YtpjpbemgjniljaaDoor

namespace Go.Proofs.YtpjpbemgjniljaaDoor
open Go.RowKit

theorem state_miss {t : Int} {xs : List Int} {k : Nat} {x : Int} (hx : Hid (xs[k]? = some x)) (h : setOkB t x = false) : stateB t xs = false := by
  unfold stateB
  have : xs.all (setOkB t) = false := by rw [List.all_eq_false]; exact ⟨x, elem_mem hx, by rw [h]; simp⟩
  rw [this]; rfl
def allTo6 (t : Int) (xs : List Int) (k : Nat) : Prop := ∀ i x, i < k → xs[i]? = some x → setOkB t x = true
theorem allTo6_next {t : Int} {xs : List Int} {k : Nat} {x : Int} (h : allTo6 t xs k) (hx : Hid (xs[k]? = some x)) (hs : setOkB t x = true) : allTo6 t xs (k + 1) := fun i y hi hy => by
  by_cases e : i = k
  · subst e
    have := hx.out
    rw [this] at hy; cases hy; exact hs
  · exact h i y (by omega) hy
theorem allTo6_end {t : Int} {xs : List Int} (h : allTo6 t xs xs.length) : ∀ x ∈ xs, setOkB t x = true := fun x hx => by
  obtain ⟨i, hi, rfl⟩ := List.mem_iff_getElem.1 hx
  exact h i _ hi (List.getElem?_eq_getElem hi)
theorem state_end {t : Int} {xs : List Int} (h : ∀ x ∈ xs, setOkB t x = true) : stateB t xs = (inB t 1 3 && decide (xs.length ≤ 70)) := by
  unfold stateB
  rw [List.all_eq_true.2 h, Bool.true_and]; rfl
theorem sIn_is6 {n a b : Int} {v : Bool} (h : Hid (inB n a b = v)) (w : World) : Calls Tryd.prog 27 #[.int .i64 n, .int .i64 a, .int .i64 b] w fun e w' => e = .returned (.bool v) ∧ w = w' :=
  (sIn n a b w).mono fun _ _ ⟨he, hw⟩ => ⟨he.trans (ret_bool h.out), hw⟩
set_option maxRecDepth 100000 in
set_option maxHeartbeats 4000000 in
theorem sAsksOf (t : Int) (A : Option Addr) (n c : Nat) (xs : List Int) (w : World) (ha : Row w A n c xs) : Calls Tryd.prog 45 #[.int .i64 t, .slice A n c] w (OwnL (asksL t xs) w) := by
  have HA := Lib.hid ha
  obtain rfl := ha.hn
  have hl := ha.hl
  clear ha
  obtain ⟨l, HL⟩ : ∃ l, Hid (asksL t xs = l) := ⟨_, rfl⟩
  have HNO : Hid (stateB t xs = false → l = []) := fun h => by rw [← HL.out]; exact asks_no h
  have HYES : Hid (stateB t xs = true → tidyL (partsX t xs) = l) := fun h => by rw [← HL.out, asks_state, if_pos h]
  rw [HL.out]
  go_enter Tryd.func45, Tryd.ntmps45
  go_wp2_with fail
  go_loop [5] (fun i => ∃ k : Nat, k ≤ xs.length ∧ i = .int .i64 k ∧ Hid (allTo6 t xs k)) (fun i => xs.length - (Go.RowKit.intOf i).toNat)
  case atStart => exact ⟨0, Nat.zero_le _, rfl, fun _ _ h => by omega⟩
  case round =>
    obtain ⟨k, hk, rfl, hall⟩ := hrel
    by_cases hlt : k < xs.length
    · obtain ⟨b, off, x, rfl, hcell, hx, _⟩ := HA.out.hA.elem hlt
      rcases hy : setOkB t x with _ | _
      · have HY := Lib.hid hy
        have HN := Lib.hid (HNO.out (state_miss hx hy))
        clear hy
        go_wp2_with fail
        refine (sSetOk_is HY _).mono ?_
        rintro e w' ⟨rfl, rfl⟩
        go_wp2_with fail
        go_ret
        exact ⟨_, rfl, by rw [HN.out]; exact Owns.lit _ _ [] (Nat.le_refl _) (by simp [maxLen]), (Below.refl _ _).alloc (Nat.le_refl _) _⟩
      · have HY := Lib.hid hy
        have HN := Lib.hid (allTo6_next hall.out hx hy)
        clear hy
        go_wp2_with fail
        refine (sSetOk_is HY _).mono ?_
        rintro e w' ⟨rfl, rfl⟩
        go_wp2_with fail
        go_round
        case rel => exact ⟨k + 1, by omega, by go_num, HN⟩
        case measure => simp [Go.RowKit.intOf]; omega
    · obtain rfl : k = xs.length := by omega
      have hal := allTo6_end hall.out
      have hst := state_end hal
      have HAL := Lib.hid hal
      clear hal
      rcases hi : inB t 1 3 with _ | _
      · have HI := Lib.hid hi
        have HN := Lib.hid (HNO.out (by rw [hst, hi]; rfl))
        clear hi hst
        go_wp2_with fail
        refine (sIn_is6 HI _).mono ?_
        rintro e w' ⟨rfl, rfl⟩
        go_wp2_with fail
        go_ret
        exact ⟨_, rfl, by rw [HN.out]; exact Owns.lit _ _ [] (Nat.le_refl _) (by simp [maxLen]), (Below.refl _ _).alloc (Nat.le_refl _) _⟩
      · have HI := Lib.hid hi
        by_cases h7 : xs.length ≤ 70
        · have hd : decide ((70 : Int) < (xs.length : Int)) = false := decide_eq_false (by omega)
          have h13 : 1 ≤ t ∧ t ≤ 3 := by unfold inB at hi; exact of_decide_eq_true hi
          have HF := Lib.hid (HYES.out (by rw [hst, hi, decide_eq_true h7]; rfl))
          clear hi hst
          go_wp2_with fail
          refine (sIn_is6 HI _).mono ?_
          rintro e w' ⟨rfl, rfl⟩
          go_wp2_with fail
          refine (sParts_is HF h13.1 h13.2 HAL.out HA.out).mono ?_
          rintro e w1 ⟨v, rfl, ho, hb⟩
          go_wp2_with fail
          go_ret
          exact ⟨_, rfl, ho, hb⟩
        · have hd : decide ((70 : Int) < (xs.length : Int)) = true := decide_eq_true (by omega)
          have HN := Lib.hid (HNO.out (by rw [hst, decide_eq_false h7, Bool.and_false]))
          clear hi hst
          go_wp2_with fail
          refine (sIn_is6 HI _).mono ?_
          rintro e w' ⟨rfl, rfl⟩
          go_wp2_with fail
          go_ret
          exact ⟨_, rfl, by rw [HN.out]; exact Owns.lit _ _ [] (Nat.le_refl _) (by simp [maxLen]), (Below.refl _ _).alloc (Nat.le_refl _) _⟩
theorem sAsksOf_is {t : Int} {xs l : List Int} (h : Hid (asksL t xs = l)) {A : Option Addr} {n c : Nat} {w : World} (ha : Row w A n c xs) : Calls Tryd.prog 45 #[.int .i64 t, .slice A n c] w (OwnL l w) := by
  have := sAsksOf t A n c xs w ha
  rw [h.out] at this; exact this

theorem answer_no {t u : Int} {xs : List Int} (h : isPartB t xs = false) : answerI t xs u = -1 := by unfold answerI; rw [h]; rfl
theorem answer_out {t u : Int} {xs : List Int} (h : inB u 0 (worldsOf t - 1) = false) : answerI t xs u = -1 := by
  unfold answerI
  unfold inB at h
  have := of_decide_eq_false h
  rw [decide_eq_false (by omega), Bool.and_false]; rfl
theorem answer_at {t : Int} {xs : List Int} {u k : Nat} {x : Int} (h : isPartB t xs = true) (hu : (u : Int) < worldsOf t) (hx : Hid (xs[k]? = some x)) (hn : ∀ i y, i < k → xs[i]? = some y → hasW y u = false) (hy : hasW x u = true) : answerI t xs u = x := by
  unfold answerI
  rw [h, decide_eq_true (by omega), Int.toNat_natCast]
  have : (xs.find? fun x => hasW x u) = some x := by
    rw [List.find?_eq_some_iff_getElem]
    have hlt := elem_lt hx
    refine ⟨hy, k, hlt, ?_, fun j hj => ?_⟩
    · have := hx.out
      rw [List.getElem?_eq_getElem hlt] at this
      exact Option.some.inj this
    · have := hn j _ hj (List.getElem?_eq_getElem (by omega))
      simpa using this
  show (xs.find? fun x => hasW x u).getD (-1) = x
  rw [this]; rfl
theorem answer_none {t : Int} {xs : List Int} {u : Nat} (h : isPartB t xs = true) (hu : u < nWorlds t) : ¬ ∀ i y, i < xs.length → xs[i]? = some y → hasW y u = false := fun hn => by
  obtain ⟨x, hx, hw, _⟩ := part_unique h hu
  obtain ⟨i, hi, rfl⟩ := List.mem_iff_getElem.1 hx
  rw [hn i _ hi (List.getElem?_eq_getElem hi)] at hw; cases hw
theorem sBoth6 {a b g : Int} (h : Hid (andI a b = g)) (ha : 0 ≤ a) (ha2 : a < 256) (hb : 0 ≤ b) (hb2 : b < 256) (w : World) :
    Calls Tryd.prog 39 #[.int .i64 a, .int .i64 b] w fun e w' => e = .returned (.int .i64 g) ∧ ∃ n, w' = w.drewN n :=
  (sBothS a b ha ha2 hb hb2 w).mono fun _ _ ⟨he, hw⟩ => ⟨he.trans (ret_int h.out), hw⟩
def outTo (a b : List Int) (k : Nat) : List Int := (a.take k).map fun x => joinN (a ++ b) (a ++ b).length x
theorem outTo_next {a b : List Int} {k : Nat} {x : Int} (hx : Hid (a[k]? = some x)) : outTo a b (k + 1) = outTo a b k ++ [joinN (a ++ b) (a ++ b).length x] := by unfold outTo; rw [take_snoc hx, List.map_append]; rfl
theorem outTo_len (a b : List Int) (k : Nat) : (outTo a b k).length ≤ a.length := by unfold outTo; rw [List.length_map, List.length_take]; omega
theorem coarser_nil (w : World) : Owns (w.alloc (.cells #[] 3)) w.heap.size (.slice (some ⟨w.heap.size, 0, none⟩) 0 0) [] := Owns.lit _ _ [] (Nat.le_refl _) (by simp [maxLen])
end Go.Proofs.YtpjpbemgjniljaaDoor

namespace Go.Proofs.YtpjpbemgjniljaaDoor
open Go.RowKit

def AskPost (g u : Nat) (w : World) (e : Ending) (w' : World) : Prop :=
  ∃ (v : Value) (xs : List Int), e = .returned v ∧ Owns w' w.heap.size v xs ∧ xs.length ≤ 257 ∧ Rd w' g u ∧ w.grownBy w' (some g)
set_option maxRecDepth 100000 in
set_option maxHeartbeats 4000000 in
theorem asked_any (g u : Nat) (t n : Int) (w : World) (hn : n ≤ 1048576) (hn0 : 0 ≤ n) (hu : u ≤ 700000) (hR : Rd w g u) :
    Calls Tryd.prog 26 #[.pointer (some ⟨g, 0, none⟩), .int .i64 t, .int .i64 n] w (AskPost g (u + 100) w) := by
  have HR := Lib.hid hR
  have HLT := Lib.hid hR.lt
  have HL := Lib.hid (Owns.lit w w.heap.size [] (Nat.le_refl _) (by simp [maxLen]))
  clear hR
  go_enter Tryd.func26, Tryd.ntmps26
  go_wp2_with fail
  refine (pick_any g u _ _ (by omega) (by omega) (by omega) (by exact HR.out.alloc _)).mono ?_
  rintro e w1 ⟨k0, rfl, hk0, hk1, hr, hg⟩
  have hkk := hk1 (by omega)
  have HR1 := Lib.hid hr
  have HG1 := Lib.hid ((grown_alloc (World.grownBy.refl w (some g)) _).trans hg)
  have HO1 := Lib.hid (owns_grown HL.out hg HLT.out)
  clear hr hg hk1 HL
  go_wp2_with fail
  go_loopw [7, 8] (fun v q wr => ∃ (k : Nat) (ys : List Int), k ≤ 4 ∧ q = .int .i64 k ∧ Hid (ys.length + k ≤ 4) ∧ Owns wr w.heap.size v ys ∧ Rd wr g (u + 1 + 8 * ys.length) ∧ w.grownBy wr (some g)) (fun _ q _ => (Go.RowKit.intOf q).toNat)
  case atStart => exact ⟨k0.toNat, [], by omega, by rw [show ((k0.toNat : Nat) : Int) = k0 by omega], by unfold Hid; simp; omega, HO1.out, HR1.out, HG1.out⟩
  case round =>
    obtain ⟨k, ys, hk, rfl, hlen, hown, hrd, hgr⟩ := hrel
    have HOW := Lib.hid hown
    have HRD := Lib.hid hrd
    have HGR := Lib.hid hgr
    clear hown hrd hgr
    by_cases hpos : 0 < k
    · have hlen2 := hlen.out
      have hgt : decide ((0 : Int) < (k : Int)) = true := by simp; omega
      go_wp2_with fail
      refine (set_any g _ t 0 _ (by omega) (by omega) (by omega) HRD.out).mono ?_
      rintro e w2 ⟨x, rfl, hx0, hx1, hr, hg⟩
      have HR2 := Lib.hid hr
      have HG2 := Lib.hid (HGR.out.trans hg)
      have HO2 := Lib.hid (owns_grown HOW.out hg HLT.out)
      have hs2 : w.heap.size ≤ w2.heap.size := HG2.out.size
      clear hr hg
      go_wp2_with (at_builtin; refine wp_append1 (W := w2) rfl _ _ rfl w.heap.size u7 ys rfl HO2.out x rfl (by omega) hs2 ?_; intro v' w' hown' hgrow)
      have hfin := rd_append HR2.out HG2.out HO2.out (Nat.le_refl _) HLT.out hgrow
      go_roundw
      case rel =>
        refine ⟨k - 1, ys ++ [x], by omega, by rw [show ((k - 1 : Nat) : Int) = (k : Int) - 1 by omega], by unfold Hid; simp; omega, hown', ?_, hfin.2⟩
        exact hfin.1.more (by simp; omega)
      case measure => simp [Go.RowKit.intOf]; omega
    · obtain rfl : k = 0 := by omega
      have hlen2 := hlen.out
      obtain ⟨A1, c1, rfl, _, _, _, _⟩ := HOW.out.form
      have HRW := Lib.hid (Owns.row HOW.out (by omega))
      have hszr := HGR.out.size
      go_wp2_with fail
      refine (odd_any g _ n _ hn hn0 (by omega) HRD.out).mono ?_
      rintro e w3 ⟨b, rfl, hr, hg⟩
      have HR3 := Lib.hid hr
      have HG3 := Lib.hid (HGR.out.trans hg)
      have HO3 := Lib.hid (owns_grown HOW.out hg HLT.out)
      have hs3 : w.heap.size ≤ w3.heap.size := HG3.out.size
      clear hr hg
      cases b
      · go_wp2_with fail
        have HRW3 := Lib.hid (Owns.row HO3.out (by omega))
        refine (sAsksOf t _ _ _ _ _ HRW3.out).mono ?_
        rintro e w4 ⟨v, rfl, ho, hb⟩
        have hal := asks_len t ys
        have HO4 := Lib.hid (ho.base (base' := w.heap.size) hs3)
        have HR4 := Lib.hid (HR3.out.below hb)
        have HG4 := Lib.hid (grown_below HG3.out hb)
        clear ho hb
        go_wp2_with fail
        go_ret
        exact ⟨_, _, rfl, HO4.out, by omega, HR4.out.more (by omega), HG4.out⟩
      · go_wp2_with fail
        refine (issue_any g _ t _ _ (by omega) (by omega) (by omega) HR3.out).mono ?_
        rintro e w4 ⟨v, xs, rfl, ho, hlen4, _, hr, hg⟩
        have HO4 := Lib.hid (ho.base (base' := w.heap.size) hs3)
        have HR4 := Lib.hid hr
        have HG4 := Lib.hid (HG3.out.trans hg)
        clear ho hr hg
        go_wp2_with fail
        go_ret
        exact ⟨_, xs, rfl, HO4.out, hlen4, HR4.out.more (by omega), HG4.out⟩

def DrawA (w : World) (e : Ending) (w' : World) : Prop :=
  ∃ (t : Int) (v : Value) (xs : List Int), e = .returned (.tuple #[.int .i64 t, v]) ∧ -1 ≤ t ∧ t ≤ 4 ∧ Owns w' w.heap.size v xs ∧ xs.length ≤ 257 ∧ Below w.heap.size w w'
def DrawAA (w : World) (e : Ending) (w' : World) : Prop :=
  ∃ (t : Int) (v : Value) (xs : List Int) (v2 : Value) (ys : List Int), e = .returned (.tuple #[.int .i64 t, v, v2]) ∧ -1 ≤ t ∧ t ≤ 4 ∧ Owns w' w.heap.size v xs ∧ xs.length ≤ 257 ∧ Owns w' w.heap.size v2 ys ∧ ys.length ≤ 257 ∧ Below w.heap.size w w'
def DrawAU (w : World) (e : Ending) (w' : World) : Prop :=
  ∃ (t : Int) (v : Value) (xs : List Int) (u : Int), e = .returned (.tuple #[.int .i64 t, v, .int .i64 u]) ∧ -1 ≤ t ∧ t ≤ 4 ∧ Owns w' w.heap.size v xs ∧ xs.length ≤ 257 ∧ -1 ≤ u ∧ u ≤ 9 ∧ Below w.heap.size w w'
def DrawN (w : World) (e : Ending) (w' : World) : Prop := ∃ t : Int, e = .returned (.int .i64 t) ∧ 0 ≤ t ∧ t ≤ 4 ∧ Below w.heap.size w w'

theorem worlds_cases (t : Int) : worldsOf t = 2 ∨ worldsOf t = 4 ∨ worldsOf t = 8 ∨ worldsOf t = -1 := by
  by_cases h : 1 ≤ t ∧ t ≤ 3
  · have : t = 1 ∨ t = 2 ∨ t = 3 := by omega
    rcases this with rfl | rfl | rfl
    · exact .inl rfl
    · exact .inr (.inl rfl)
    · exact .inr (.inr (.inl rfl))
  · exact .inr (.inr (.inr (worldsOf_bad (by omega))))
end Go.Proofs.YtpjpbemgjniljaaDoor
