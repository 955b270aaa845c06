/-
  What the proofs of this seat's statements share (PartS).
-/
import Derived.Test.YtkjjpleedobkdaaU11
import Derived.Test.YtkjjpleedobkdaaU7

namespace Go.Proofs.Ytkjjpleedobkdaa
open Go.RowKit

theorem bit_val {x : Int} {k : Nat} (h0 : 0 ≤ x) : (x / (2 : Int) ^ k).tmod 2 = if hasW x k = true then 1 else 0 := by
  obtain ⟨m, rfl⟩ : ∃ m : Nat, x = m := ⟨x.toNat, by omega⟩
  have e : (2 : Int) ^ k = ((2 ^ k : Nat) : Int) := by push_cast; rfl
  have e2 : hasW (m : Int) k = decide (m / 2 ^ k % 2 = 1) := by unfold hasW; rw [Int.toNat_natCast, Nat.testBit_eq_decide_div_mod_eq]
  rw [e2, e, show ((m : Int) / ((2 ^ k : Nat) : Int)).tmod 2 = ((m / 2 ^ k % 2 : Nat) : Int) by rw [← Int.natCast_ediv]; rfl]
  rcases Nat.mod_two_eq_zero_or_one (m / 2 ^ k) with h | h <;> rw [h] <;> rfl
def cntTo (xs : List Int) (k j : Nat) : Nat := ((xs.take j).filter fun x => hasW x k).length
theorem cnt_next {xs : List Int} {j : Nat} {x : Int} (hx : Hid (xs[j]? = some x)) (k : Nat) : cntTo xs k (j + 1) = cntTo xs k j + if hasW x k = true then 1 else 0 := by
  unfold cntTo
  rw [take_snoc hx, List.filter_append, List.length_append]
  by_cases h : hasW x k = true
  · simp [h]
  · simp [h]
theorem cnt_le (xs : List Int) (k j : Nat) : cntTo xs k j ≤ j := by
  unfold cntTo
  refine Nat.le_trans (List.length_filter_le _ _) ?_
  rw [List.length_take]; omega
def OneTo (xs : List Int) (k : Nat) : Prop := ∀ v, v < k → (xs.filter fun x => hasW x v).length = 1
theorem one_zero (xs : List Int) : OneTo xs 0 := fun _ h => by omega
theorem one_next {xs : List Int} {k : Nat} (h : OneTo xs k) (hk : (xs.filter fun x => hasW x k).length = 1) : OneTo xs (k + 1) := fun v hv => by
  by_cases e : v = k
  · rw [e]; exact hk
  · exact h v (by omega)
theorem one_end {t : Int} {xs : List Int} (ho : issueOkB t xs = true) (h : OneTo xs (nWorlds t)) : isPartB t xs = true := by
  unfold isPartB
  rw [ho, Bool.true_and, List.all_eq_true]
  intro w hw
  rw [decide_eq_true_eq]
  exact h w (List.mem_range.1 hw)
theorem one_miss {t : Int} {xs : List Int} {k : Nat} (hk : k < nWorlds t) (h : (xs.filter fun x => hasW x k).length ≠ 1) : isPartB t xs = false := by
  unfold isPartB
  rw [Bool.and_eq_false_iff]
  right
  rw [List.all_eq_false]
  exact ⟨k, List.mem_range.2 hk, by rw [decide_eq_true_eq]; exact h⟩

set_option maxRecDepth 100000 in
set_option maxHeartbeats 4000000 in
theorem sIsPart (t : Int) (A : Option Addr) (n c : Nat) (xs : List Int) (w : World) (ha : Row w A n c xs) :
    Calls Try.prog 15 #[.int .i64 t, .slice A n c] w fun e w' => e = .returned (.bool (isPartB t xs)) ∧ ∃ m, w' = w.drewN m := by
  have HA := Lib.hid ha
  obtain rfl := ha.hn
  have hl := ha.hl
  clear ha
  rcases h1 : issueOkB t xs with _ | _
  · have H1 := Lib.hid h1
    have HF : Hid (isPartB t xs = false) := by unfold Hid isPartB; rw [h1]; rfl
    clear h1
    go_enter Try.func15, Try.ntmps15
    go_wp2_with fail
    refine (sIssueOk_is H1 _ _ _ _ rfl hl HA.out.hA).mono ?_
    rintro e w' ⟨rfl, m, rfl⟩
    go_wp2_with fail
    go_ret
    exact ⟨ret_bool HF.out.symm, _, rfl⟩
  · have H1 := Lib.hid h1
    obtain ⟨ht1, ht3⟩ := issue_things h1
    have HR := Lib.hid (issue_range h1)
    have HMISS : Hid (∀ k, k < nWorlds t → (xs.filter fun x => hasW x k).length ≠ 1 → isPartB t xs = false) := fun k hk h => one_miss hk h
    have HEND : Hid (OneTo xs (nWorlds t) → isPartB t xs = true) := one_end h1
    obtain ⟨res, HRES⟩ : ∃ b, Hid (isPartB t xs = b) := ⟨_, rfl⟩
    rw [HRES.out] at HMISS HEND ⊢
    clear h1
    have ht : t = 1 ∨ t = 2 ∨ t = 3 := by omega
    clear ht1 ht3
    rcases ht with rfl | rfl | rfl
    · have HNW : Hid (nWorlds 1 = 2) := rfl
      rw [HNW.out] at HMISS HEND
      go_enter Try.func15, Try.ntmps15
      go_wp2_with fail
      refine (sIssueOk_is H1 _ _ _ _ rfl hl HA.out.hA).mono ?_
      rintro e w' ⟨rfl, m, rfl⟩
      go_wp2_with fail
      go_loop [5] (fun i => ∃ k : Nat, k ≤ 2 ∧ i = .int .i64 k ∧ Hid (OneTo xs k)) (fun i => 2 - (intOf i).toNat)
      case atStart => exact ⟨0, Nat.zero_le _, rfl, one_zero xs⟩
      case round =>
        obtain ⟨k, hk, rfl, hone⟩ := hrel
        by_cases hkt : k < 2
        · go_wp2_with fail
          go_loop [6, 7] (fun s i => ∃ j : Nat, j ≤ xs.length ∧ i = .int .i64 j ∧ s = .int .i64 (cntTo xs k j)) (fun _ i => xs.length - (intOf i).toNat)
          case atStart => exact ⟨0, Nat.zero_le _, rfl, rfl⟩
          case round =>
            obtain ⟨j, hj, rfl, rfl⟩ := hrel
            have hcl := cnt_le xs k j
            by_cases hjt : j < xs.length
            · obtain ⟨b, off, x, rfl, hcell, hx, _⟩ := HA.out.hA.elem hjt
              obtain ⟨hx0, hx1⟩ := HR.out x (elem_mem hx)
              have hnx := cnt_next hx k
              have hbv := bit_val (k := k) hx0
              obtain ⟨q, HQ⟩ : ∃ q, Hid (cntTo xs k j = q) := ⟨_, rfl⟩
              rw [HQ.out] at hcl hnx ⊢
              by_cases hh : hasW x k = true
              · rw [if_pos hh] at hnx hbv
                have HN := Lib.hid hnx
                clear hnx hh
                go_wp2_with fail
                go_round
                case rel => exact ⟨j + 1, by omega, by go_num, by rw [HN.out]; go_num⟩
                case measure => simp [intOf]; omega
              · rw [if_neg hh] at hnx hbv
                have HN := Lib.hid hnx
                clear hnx hh
                go_wp2_with fail
                go_round
                case rel => exact ⟨j + 1, by omega, by go_num, by rw [HN.out]; go_num⟩
                case measure => simp [intOf]; omega
            · obtain rfl : j = xs.length := by omega
              have HC : Hid (cntTo xs k xs.length = (xs.filter fun x => hasW x k).length) := by unfold Hid cntTo; rw [List.take_length]
              obtain ⟨q, HQ⟩ : ∃ q, Hid (cntTo xs k xs.length = q) := ⟨_, rfl⟩
              rw [HQ.out] at HC hcl ⊢
              by_cases hq : q = 1
              · have HN := Lib.hid (one_next hone.out (HC.out.symm.trans hq))
                have hd : ((q : Int) != 1) = false := by rw [hq]; rfl
                clear hq
                go_wp2_with fail
                go_round
                case rel => exact ⟨k + 1, by omega, by go_num, HN⟩
                case measure => simp [intOf]; omega
              · have HN := Lib.hid (HMISS.out k hkt (fun e => hq (HC.out.trans e)))
                have hd : ((q : Int) != 1) = true := by rw [bne_iff_ne]; omega
                clear hq
                go_wp2_with fail
                go_ret
                exact ⟨ret_bool HN.out.symm, _, rfl⟩
        · obtain rfl : k = 2 := by omega
          have HN := Lib.hid (HEND.out hone.out)
          go_wp2_with fail
          go_ret
          exact ⟨ret_bool HN.out.symm, _, rfl⟩
    · have HNW : Hid (nWorlds 2 = 4) := rfl
      rw [HNW.out] at HMISS HEND
      go_enter Try.func15, Try.ntmps15
      go_wp2_with fail
      refine (sIssueOk_is H1 _ _ _ _ rfl hl HA.out.hA).mono ?_
      rintro e w' ⟨rfl, m, rfl⟩
      go_wp2_with fail
      go_loop [5] (fun i => ∃ k : Nat, k ≤ 4 ∧ i = .int .i64 k ∧ Hid (OneTo xs k)) (fun i => 4 - (intOf i).toNat)
      case atStart => exact ⟨0, Nat.zero_le _, rfl, one_zero xs⟩
      case round =>
        obtain ⟨k, hk, rfl, hone⟩ := hrel
        by_cases hkt : k < 4
        · go_wp2_with fail
          go_loop [6, 7] (fun s i => ∃ j : Nat, j ≤ xs.length ∧ i = .int .i64 j ∧ s = .int .i64 (cntTo xs k j)) (fun _ i => xs.length - (intOf i).toNat)
          case atStart => exact ⟨0, Nat.zero_le _, rfl, rfl⟩
          case round =>
            obtain ⟨j, hj, rfl, rfl⟩ := hrel
            have hcl := cnt_le xs k j
            by_cases hjt : j < xs.length
            · obtain ⟨b, off, x, rfl, hcell, hx, _⟩ := HA.out.hA.elem hjt
              obtain ⟨hx0, hx1⟩ := HR.out x (elem_mem hx)
              have hnx := cnt_next hx k
              have hbv := bit_val (k := k) hx0
              obtain ⟨q, HQ⟩ : ∃ q, Hid (cntTo xs k j = q) := ⟨_, rfl⟩
              rw [HQ.out] at hcl hnx ⊢
              by_cases hh : hasW x k = true
              · rw [if_pos hh] at hnx hbv
                have HN := Lib.hid hnx
                clear hnx hh
                go_wp2_with fail
                go_round
                case rel => exact ⟨j + 1, by omega, by go_num, by rw [HN.out]; go_num⟩
                case measure => simp [intOf]; omega
              · rw [if_neg hh] at hnx hbv
                have HN := Lib.hid hnx
                clear hnx hh
                go_wp2_with fail
                go_round
                case rel => exact ⟨j + 1, by omega, by go_num, by rw [HN.out]; go_num⟩
                case measure => simp [intOf]; omega
            · obtain rfl : j = xs.length := by omega
              have HC : Hid (cntTo xs k xs.length = (xs.filter fun x => hasW x k).length) := by unfold Hid cntTo; rw [List.take_length]
              obtain ⟨q, HQ⟩ : ∃ q, Hid (cntTo xs k xs.length = q) := ⟨_, rfl⟩
              rw [HQ.out] at HC hcl ⊢
              by_cases hq : q = 1
              · have HN := Lib.hid (one_next hone.out (HC.out.symm.trans hq))
                have hd : ((q : Int) != 1) = false := by rw [hq]; rfl
                clear hq
                go_wp2_with fail
                go_round
                case rel => exact ⟨k + 1, by omega, by go_num, HN⟩
                case measure => simp [intOf]; omega
              · have HN := Lib.hid (HMISS.out k hkt (fun e => hq (HC.out.trans e)))
                have hd : ((q : Int) != 1) = true := by rw [bne_iff_ne]; omega
                clear hq
                go_wp2_with fail
                go_ret
                exact ⟨ret_bool HN.out.symm, _, rfl⟩
        · obtain rfl : k = 4 := by omega
          have HN := Lib.hid (HEND.out hone.out)
          go_wp2_with fail
          go_ret
          exact ⟨ret_bool HN.out.symm, _, rfl⟩
    · have HNW : Hid (nWorlds 3 = 8) := rfl
      rw [HNW.out] at HMISS HEND
      go_enter Try.func15, Try.ntmps15
      go_wp2_with fail
      refine (sIssueOk_is H1 _ _ _ _ rfl hl HA.out.hA).mono ?_
      rintro e w' ⟨rfl, m, rfl⟩
      go_wp2_with fail
      go_loop [5] (fun i => ∃ k : Nat, k ≤ 8 ∧ i = .int .i64 k ∧ Hid (OneTo xs k)) (fun i => 8 - (intOf i).toNat)
      case atStart => exact ⟨0, Nat.zero_le _, rfl, one_zero xs⟩
      case round =>
        obtain ⟨k, hk, rfl, hone⟩ := hrel
        by_cases hkt : k < 8
        · go_wp2_with fail
          go_loop [6, 7] (fun s i => ∃ j : Nat, j ≤ xs.length ∧ i = .int .i64 j ∧ s = .int .i64 (cntTo xs k j)) (fun _ i => xs.length - (intOf i).toNat)
          case atStart => exact ⟨0, Nat.zero_le _, rfl, rfl⟩
          case round =>
            obtain ⟨j, hj, rfl, rfl⟩ := hrel
            have hcl := cnt_le xs k j
            by_cases hjt : j < xs.length
            · obtain ⟨b, off, x, rfl, hcell, hx, _⟩ := HA.out.hA.elem hjt
              obtain ⟨hx0, hx1⟩ := HR.out x (elem_mem hx)
              have hnx := cnt_next hx k
              have hbv := bit_val (k := k) hx0
              obtain ⟨q, HQ⟩ : ∃ q, Hid (cntTo xs k j = q) := ⟨_, rfl⟩
              rw [HQ.out] at hcl hnx ⊢
              by_cases hh : hasW x k = true
              · rw [if_pos hh] at hnx hbv
                have HN := Lib.hid hnx
                clear hnx hh
                go_wp2_with fail
                go_round
                case rel => exact ⟨j + 1, by omega, by go_num, by rw [HN.out]; go_num⟩
                case measure => simp [intOf]; omega
              · rw [if_neg hh] at hnx hbv
                have HN := Lib.hid hnx
                clear hnx hh
                go_wp2_with fail
                go_round
                case rel => exact ⟨j + 1, by omega, by go_num, by rw [HN.out]; go_num⟩
                case measure => simp [intOf]; omega
            · obtain rfl : j = xs.length := by omega
              have HC : Hid (cntTo xs k xs.length = (xs.filter fun x => hasW x k).length) := by unfold Hid cntTo; rw [List.take_length]
              obtain ⟨q, HQ⟩ : ∃ q, Hid (cntTo xs k xs.length = q) := ⟨_, rfl⟩
              rw [HQ.out] at HC hcl ⊢
              by_cases hq : q = 1
              · have HN := Lib.hid (one_next hone.out (HC.out.symm.trans hq))
                have hd : ((q : Int) != 1) = false := by rw [hq]; rfl
                clear hq
                go_wp2_with fail
                go_round
                case rel => exact ⟨k + 1, by omega, by go_num, HN⟩
                case measure => simp [intOf]; omega
              · have HN := Lib.hid (HMISS.out k hkt (fun e => hq (HC.out.trans e)))
                have hd : ((q : Int) != 1) = true := by rw [bne_iff_ne]; omega
                clear hq
                go_wp2_with fail
                go_ret
                exact ⟨ret_bool HN.out.symm, _, rfl⟩
        · obtain rfl : k = 8 := by omega
          have HN := Lib.hid (HEND.out hone.out)
          go_wp2_with fail
          go_ret
          exact ⟨ret_bool HN.out.symm, _, rfl⟩
theorem sIsPart_is {t : Int} {xs : List Int} {b : Bool} (h : Hid (isPartB t xs = b)) {A : Option Addr} {n c : Nat} {w : World} (ha : Row w A n c xs) :
    Calls Try.prog 15 #[.int .i64 t, .slice A n c] w fun e w' => e = .returned (.bool b) ∧ ∃ m, w' = w.drewN m :=
  (sIsPart t A n c xs w ha).mono fun _ _ ⟨he, hw⟩ => ⟨he.trans (ret_bool h.out), hw⟩

def partsTo (t : Int) (xs : List Int) (k : Nat) : List Int := (List.range k).map (partOf t xs)
theorem partsTo_next (t : Int) (xs : List Int) (k : Nat) : partsTo t xs (k + 1) = partsTo t xs k ++ [partOf t xs k] := by unfold partsTo; rw [List.range_succ, List.map_append]; rfl
theorem partsTo_len (t : Int) (xs : List Int) (k : Nat) : (partsTo t xs k).length = k := by unfold partsTo; rw [List.length_map, List.length_range]
/-- What the model has of a part behind v worlds. -/
def upTo (xs : List Int) (u v : Nat) : Nat := setOfW (fun z => sameIn xs z u) v
theorem upTo_next (xs : List Int) (u v : Nat) : upTo xs u (v + 1) = upTo xs u v + if sameIn xs v u = true then 2 ^ v else 0 := rfl
theorem upTo_lt (xs : List Int) (u v : Nat) : upTo xs u v < 2 ^ v := setOfW_lt _ v
def sameTo (xs : List Int) (v u j : Nat) : Bool := sameIn (xs.take j) v u

set_option maxRecDepth 100000 in
set_option maxHeartbeats 8000000 in
theorem sParts (t : Int) (A : Option Addr) (n c : Nat) (xs : List Int) (w : World) (h1 : 1 ≤ t) (h3 : t ≤ 3) (hs : ∀ x ∈ xs, setOkB t x = true) (ha : Row w A n c xs) :
    Calls Try.prog 61 #[.int .i64 t, .slice A n c] w (OwnL (tidyL (partsX t xs)) w) := by
  have HA := Lib.hid ha
  obtain rfl := ha.hn
  have hl := ha.hl
  have HR := Lib.hid (sets_range hs)
  have HRP : Hid (∀ x ∈ partsX t xs, 0 ≤ x ∧ x < 256) := sets_range (parts_sets h1 h3)
  clear ha hs
  have ht : t = 1 ∨ t = 2 ∨ t = 3 := by omega
  clear h1 h3
  rcases ht with rfl | rfl | rfl
  · have HEND : Hid (partsTo 1 xs 2 = partsX 1 xs) := rfl
    have HPE : Hid (∀ u, partOf 1 xs u = (upTo xs u 2 : Int)) := fun u => rfl
    go_enter Try.func61, Try.ntmps61
    go_wp2_with fail
    go_loopw [5, 6] (fun v i wr => ∃ k : Nat, k ≤ 2 ∧ i = .int .i64 k ∧ Owns wr w.heap.size v (partsTo 1 xs k) ∧ Below w.heap.size w wr) (fun _ i _ => 2 - (Go.RowKit.intOf i).toNat)
    case atStart => exact ⟨0, Nat.zero_le _, rfl, Owns.lit w w.heap.size [] (Nat.le_refl _) (by simp [maxLen]), (Below.refl _ _).alloc (Nat.le_refl _) _⟩
    case round =>
      obtain ⟨k, hk, rfl, hown, hbel⟩ := hrel
      obtain ⟨W0, rfl⟩ : ∃ W, W = wr := ⟨_, rfl⟩
      have HO := Lib.hid hown
      have HB := Lib.hid hbel
      have hsz := hbel.size
      have HPL := Lib.hid (partsTo_len 1 xs k)
      have HNX := Lib.hid (partsTo_next 1 xs k)
      clear hown hbel
      by_cases hkt : k < 2
      · go_wp2_with fail
        go_loopw [7, 8] (fun s i wr => ∃ v : Nat, v ≤ 2 ∧ i = .int .i64 v ∧ s = .int .i64 (upTo xs k v) ∧ ∃ q, wr = W0.drewN q) (fun _ i _ => 2 - (Go.RowKit.intOf i).toNat)
        case atStart => exact ⟨0, Nat.zero_le _, rfl, rfl, 0, rfl⟩
        case round =>
          obtain ⟨v, hv, rfl, rfl, q, rfl⟩ := hrel
          have hup := upTo_lt xs k v
          have hunx := upTo_next xs k v
          by_cases hvt : v < 2
          · have hwp := wrap_pow6p (k := v) (by omega)
            have HWP := Lib.hid hwp
            have hw8 : 2 ^ v < 256 := Nat.lt_of_le_of_lt (Nat.pow_le_pow_right (by omega) (show v ≤ 7 by omega)) (by decide)
            obtain ⟨up, HUP⟩ : ∃ u, Hid (upTo xs k v = u) := ⟨_, rfl⟩
            rw [HUP.out] at hup hunx ⊢
            have HUN := Lib.hid hunx
            clear hunx hwp
            go_wp2_with fail
            go_loopw [9, 10] (fun s i wr => ∃ j : Nat, j ≤ xs.length ∧ i = .int .i64 j ∧ s = .bool (sameTo xs v k j) ∧ ∃ q, wr = W0.drewN q) (fun _ i _ => xs.length - (Go.RowKit.intOf i).toNat)
            case atStart => exact ⟨0, Nat.zero_le _, rfl, rfl, q, rfl⟩
            case round =>
              obtain ⟨j, hj, rfl, rfl, q2, rfl⟩ := hrel
              by_cases hjt : j < xs.length
              · obtain ⟨b, off, x, rfl, hcell, hx, _⟩ := (HA.out.hA.below HB.out).elem hjt
                obtain ⟨hx0, hx1⟩ := HR.out x (elem_mem hx)
                have hnx := same_next hx v k
                rcases hy : sameTo xs v k j with _ | _
                · have HN : Hid (sameTo xs v k (j + 1) = false) := by unfold sameTo at hy; unfold Hid sameTo; rw [hnx, hy]; rfl
                  clear hnx hy
                  go_wp2_with fail
                  go_quiet (fail)
                  go_wp2_with fail
                  go_roundw
                  case rel => exact ⟨j + 1, by omega, by go_num, by rw [HN.out], _, rfl⟩
                  case measure => simp [Go.RowKit.intOf]; omega
                · obtain ⟨z, HZ⟩ : ∃ z, Hid ((hasW x v == hasW x k) = z) := ⟨_, rfl⟩
                  have HN : Hid (sameTo xs v k (j + 1) = z) := by unfold sameTo at hy; unfold Hid sameTo; rw [hnx, hy, HZ.out]; rfl
                  have hcmp : ((x / (2 : Int) ^ v).tmod 2 == (x / (2 : Int) ^ k).tmod 2) = z := by
                    rw [bit_val hx0, bit_val hx0, ← HZ.out]
                    cases hasW x v <;> cases hasW x k <;> rfl
                  clear hnx hy
                  go_wp2_with fail
                  go_quiet (fail)
                  go_wp2_with fail
                  go_roundw
                  case rel => exact ⟨j + 1, by omega, by go_num, by rw [HN.out], _, rfl⟩
                  case measure => simp [Go.RowKit.intOf]; omega
              · obtain rfl : j = xs.length := by omega
                have HS : Hid (sameTo xs v k xs.length = sameIn xs v k) := by unfold Hid sameTo; rw [List.take_length]
                rw [HS.out]
                have hwp := HWP.out
                rcases hy : sameIn xs v k with _ | _
                · have HN : Hid (upTo xs k (v + 1) = up) := by unfold Hid; rw [HUN.out, hy]; simp
                  clear hy hwp
                  go_wp2_with fail
                  go_roundw
                  case rel => exact ⟨v + 1, by omega, by go_num, by rw [HN.out], _, rfl⟩
                  case measure => simp [Go.RowKit.intOf]; omega
                · have HN : Hid (upTo xs k (v + 1) = up + 2 ^ v) := by unfold Hid; rw [HUN.out, hy]; simp
                  clear hy
                  obtain ⟨pw, HPW⟩ : ∃ p : Nat, Hid ((2 : Nat) ^ v = p) := ⟨2 ^ v, rfl⟩
                  rw [HPW.out] at hwp hw8 hup HN
                  go_wp2_with fail
                  go_roundw
                  case rel => exact ⟨v + 1, by omega, by go_num, by rw [HN.out]; go_num, _, rfl⟩
                  case measure => simp [Go.RowKit.intOf]; omega
          · obtain rfl : v = 2 := by omega
            have HPK := Lib.hid (HPE.out k)
            rw [HPK.out] at HNX
            obtain ⟨up, HUP⟩ : ∃ u, Hid (upTo xs k 2 = u) := ⟨_, rfl⟩
            rw [HUP.out] at HNX ⊢
            have hpl : (partsTo 1 xs k).length ≤ 8 := by have := HPL.out; omega
            have HOQ : Hid (Owns (W0.drewN q) w.heap.size u5 (partsTo 1 xs k)) := HO.out
            have HBQ : Hid (Below w.heap.size w (W0.drewN q)) := bel_drewN HB.out q
            have hszq : w.heap.size ≤ (W0.drewN q).heap.size := HB.out.size
            go_wp2_with (at_builtin; refine wp_append1 (W := W0.drewN q) rfl _ _ rfl w.heap.size u5 (partsTo 1 xs k) rfl HOQ.out (up : Int) rfl (by omega) (by exact hszq) ?_; intro v' w' hown' hgrow)
            have hb' := below_append HBQ.out hszq HOQ.out (Nat.le_refl _) hgrow
            go_roundw
            case rel => exact ⟨k + 1, by omega, by go_num, by rw [HNX.out]; exact hown', hb'⟩
            case measure => simp [Go.RowKit.intOf]; omega
      · obtain rfl : k = 2 := by omega
        rw [HEND.out] at HO HPL
        obtain ⟨l, HLL⟩ : ∃ l, Hid (partsX 1 xs = l) := ⟨_, rfl⟩
        rw [HLL.out] at HO HPL HRP ⊢
        obtain ⟨A1, c1, rfl, _, _, hn1, _⟩ := HO.out.form
        have HN1 := Lib.hid hn1
        have hpl : l.length ≤ 8 := by have := HPL.out; omega
        clear hn1
        go_wp2_with fail
        refine (sTidy _ _ _ l _ rfl (by omega) HRP.out HN1.out).mono ?_
        rintro e w4 ⟨v, rfl, ho, hb⟩
        have HO4 := Lib.hid ho
        have HB4 := Lib.hid (bel_trans HB.out hb)
        clear ho hb
        go_wp2_with fail
        go_ret
        exact ⟨_, rfl, by rw [HLL.out]; exact HO4.out.base hsz, HB4.out⟩
  · have HEND : Hid (partsTo 2 xs 4 = partsX 2 xs) := rfl
    have HPE : Hid (∀ u, partOf 2 xs u = (upTo xs u 4 : Int)) := fun u => rfl
    go_enter Try.func61, Try.ntmps61
    go_wp2_with fail
    go_loopw [5, 6] (fun v i wr => ∃ k : Nat, k ≤ 4 ∧ i = .int .i64 k ∧ Owns wr w.heap.size v (partsTo 2 xs k) ∧ Below w.heap.size w wr) (fun _ i _ => 4 - (Go.RowKit.intOf i).toNat)
    case atStart => exact ⟨0, Nat.zero_le _, rfl, Owns.lit w w.heap.size [] (Nat.le_refl _) (by simp [maxLen]), (Below.refl _ _).alloc (Nat.le_refl _) _⟩
    case round =>
      obtain ⟨k, hk, rfl, hown, hbel⟩ := hrel
      obtain ⟨W0, rfl⟩ : ∃ W, W = wr := ⟨_, rfl⟩
      have HO := Lib.hid hown
      have HB := Lib.hid hbel
      have hsz := hbel.size
      have HPL := Lib.hid (partsTo_len 2 xs k)
      have HNX := Lib.hid (partsTo_next 2 xs k)
      clear hown hbel
      by_cases hkt : k < 4
      · go_wp2_with fail
        go_loopw [7, 8] (fun s i wr => ∃ v : Nat, v ≤ 4 ∧ i = .int .i64 v ∧ s = .int .i64 (upTo xs k v) ∧ ∃ q, wr = W0.drewN q) (fun _ i _ => 4 - (Go.RowKit.intOf i).toNat)
        case atStart => exact ⟨0, Nat.zero_le _, rfl, rfl, 0, rfl⟩
        case round =>
          obtain ⟨v, hv, rfl, rfl, q, rfl⟩ := hrel
          have hup := upTo_lt xs k v
          have hunx := upTo_next xs k v
          by_cases hvt : v < 4
          · have hwp := wrap_pow6p (k := v) (by omega)
            have HWP := Lib.hid hwp
            have hw8 : 2 ^ v < 256 := Nat.lt_of_le_of_lt (Nat.pow_le_pow_right (by omega) (show v ≤ 7 by omega)) (by decide)
            obtain ⟨up, HUP⟩ : ∃ u, Hid (upTo xs k v = u) := ⟨_, rfl⟩
            rw [HUP.out] at hup hunx ⊢
            have HUN := Lib.hid hunx
            clear hunx hwp
            go_wp2_with fail
            go_loopw [9, 10] (fun s i wr => ∃ j : Nat, j ≤ xs.length ∧ i = .int .i64 j ∧ s = .bool (sameTo xs v k j) ∧ ∃ q, wr = W0.drewN q) (fun _ i _ => xs.length - (Go.RowKit.intOf i).toNat)
            case atStart => exact ⟨0, Nat.zero_le _, rfl, rfl, q, rfl⟩
            case round =>
              obtain ⟨j, hj, rfl, rfl, q2, rfl⟩ := hrel
              by_cases hjt : j < xs.length
              · obtain ⟨b, off, x, rfl, hcell, hx, _⟩ := (HA.out.hA.below HB.out).elem hjt
                obtain ⟨hx0, hx1⟩ := HR.out x (elem_mem hx)
                have hnx := same_next hx v k
                rcases hy : sameTo xs v k j with _ | _
                · have HN : Hid (sameTo xs v k (j + 1) = false) := by unfold sameTo at hy; unfold Hid sameTo; rw [hnx, hy]; rfl
                  clear hnx hy
                  go_wp2_with fail
                  go_quiet (fail)
                  go_wp2_with fail
                  go_roundw
                  case rel => exact ⟨j + 1, by omega, by go_num, by rw [HN.out], _, rfl⟩
                  case measure => simp [Go.RowKit.intOf]; omega
                · obtain ⟨z, HZ⟩ : ∃ z, Hid ((hasW x v == hasW x k) = z) := ⟨_, rfl⟩
                  have HN : Hid (sameTo xs v k (j + 1) = z) := by unfold sameTo at hy; unfold Hid sameTo; rw [hnx, hy, HZ.out]; rfl
                  have hcmp : ((x / (2 : Int) ^ v).tmod 2 == (x / (2 : Int) ^ k).tmod 2) = z := by
                    rw [bit_val hx0, bit_val hx0, ← HZ.out]
                    cases hasW x v <;> cases hasW x k <;> rfl
                  clear hnx hy
                  go_wp2_with fail
                  go_quiet (fail)
                  go_wp2_with fail
                  go_roundw
                  case rel => exact ⟨j + 1, by omega, by go_num, by rw [HN.out], _, rfl⟩
                  case measure => simp [Go.RowKit.intOf]; omega
              · obtain rfl : j = xs.length := by omega
                have HS : Hid (sameTo xs v k xs.length = sameIn xs v k) := by unfold Hid sameTo; rw [List.take_length]
                rw [HS.out]
                have hwp := HWP.out
                rcases hy : sameIn xs v k with _ | _
                · have HN : Hid (upTo xs k (v + 1) = up) := by unfold Hid; rw [HUN.out, hy]; simp
                  clear hy hwp
                  go_wp2_with fail
                  go_roundw
                  case rel => exact ⟨v + 1, by omega, by go_num, by rw [HN.out], _, rfl⟩
                  case measure => simp [Go.RowKit.intOf]; omega
                · have HN : Hid (upTo xs k (v + 1) = up + 2 ^ v) := by unfold Hid; rw [HUN.out, hy]; simp
                  clear hy
                  obtain ⟨pw, HPW⟩ : ∃ p : Nat, Hid ((2 : Nat) ^ v = p) := ⟨2 ^ v, rfl⟩
                  rw [HPW.out] at hwp hw8 hup HN
                  go_wp2_with fail
                  go_roundw
                  case rel => exact ⟨v + 1, by omega, by go_num, by rw [HN.out]; go_num, _, rfl⟩
                  case measure => simp [Go.RowKit.intOf]; omega
          · obtain rfl : v = 4 := by omega
            have HPK := Lib.hid (HPE.out k)
            rw [HPK.out] at HNX
            obtain ⟨up, HUP⟩ : ∃ u, Hid (upTo xs k 4 = u) := ⟨_, rfl⟩
            rw [HUP.out] at HNX ⊢
            have hpl : (partsTo 2 xs k).length ≤ 8 := by have := HPL.out; omega
            have HOQ : Hid (Owns (W0.drewN q) w.heap.size u5 (partsTo 2 xs k)) := HO.out
            have HBQ : Hid (Below w.heap.size w (W0.drewN q)) := bel_drewN HB.out q
            have hszq : w.heap.size ≤ (W0.drewN q).heap.size := HB.out.size
            go_wp2_with (at_builtin; refine wp_append1 (W := W0.drewN q) rfl _ _ rfl w.heap.size u5 (partsTo 2 xs k) rfl HOQ.out (up : Int) rfl (by omega) (by exact hszq) ?_; intro v' w' hown' hgrow)
            have hb' := below_append HBQ.out hszq HOQ.out (Nat.le_refl _) hgrow
            go_roundw
            case rel => exact ⟨k + 1, by omega, by go_num, by rw [HNX.out]; exact hown', hb'⟩
            case measure => simp [Go.RowKit.intOf]; omega
      · obtain rfl : k = 4 := by omega
        rw [HEND.out] at HO HPL
        obtain ⟨l, HLL⟩ : ∃ l, Hid (partsX 2 xs = l) := ⟨_, rfl⟩
        rw [HLL.out] at HO HPL HRP ⊢
        obtain ⟨A1, c1, rfl, _, _, hn1, _⟩ := HO.out.form
        have HN1 := Lib.hid hn1
        have hpl : l.length ≤ 8 := by have := HPL.out; omega
        clear hn1
        go_wp2_with fail
        refine (sTidy _ _ _ l _ rfl (by omega) HRP.out HN1.out).mono ?_
        rintro e w4 ⟨v, rfl, ho, hb⟩
        have HO4 := Lib.hid ho
        have HB4 := Lib.hid (bel_trans HB.out hb)
        clear ho hb
        go_wp2_with fail
        go_ret
        exact ⟨_, rfl, by rw [HLL.out]; exact HO4.out.base hsz, HB4.out⟩
  · have HEND : Hid (partsTo 3 xs 8 = partsX 3 xs) := rfl
    have HPE : Hid (∀ u, partOf 3 xs u = (upTo xs u 8 : Int)) := fun u => rfl
    go_enter Try.func61, Try.ntmps61
    go_wp2_with fail
    go_loopw [5, 6] (fun v i wr => ∃ k : Nat, k ≤ 8 ∧ i = .int .i64 k ∧ Owns wr w.heap.size v (partsTo 3 xs k) ∧ Below w.heap.size w wr) (fun _ i _ => 8 - (Go.RowKit.intOf i).toNat)
    case atStart => exact ⟨0, Nat.zero_le _, rfl, Owns.lit w w.heap.size [] (Nat.le_refl _) (by simp [maxLen]), (Below.refl _ _).alloc (Nat.le_refl _) _⟩
    case round =>
      obtain ⟨k, hk, rfl, hown, hbel⟩ := hrel
      obtain ⟨W0, rfl⟩ : ∃ W, W = wr := ⟨_, rfl⟩
      have HO := Lib.hid hown
      have HB := Lib.hid hbel
      have hsz := hbel.size
      have HPL := Lib.hid (partsTo_len 3 xs k)
      have HNX := Lib.hid (partsTo_next 3 xs k)
      clear hown hbel
      by_cases hkt : k < 8
      · go_wp2_with fail
        go_loopw [7, 8] (fun s i wr => ∃ v : Nat, v ≤ 8 ∧ i = .int .i64 v ∧ s = .int .i64 (upTo xs k v) ∧ ∃ q, wr = W0.drewN q) (fun _ i _ => 8 - (Go.RowKit.intOf i).toNat)
        case atStart => exact ⟨0, Nat.zero_le _, rfl, rfl, 0, rfl⟩
        case round =>
          obtain ⟨v, hv, rfl, rfl, q, rfl⟩ := hrel
          have hup := upTo_lt xs k v
          have hunx := upTo_next xs k v
          by_cases hvt : v < 8
          · have hwp := wrap_pow6p (k := v) (by omega)
            have HWP := Lib.hid hwp
            have hw8 : 2 ^ v < 256 := Nat.lt_of_le_of_lt (Nat.pow_le_pow_right (by omega) (show v ≤ 7 by omega)) (by decide)
            obtain ⟨up, HUP⟩ : ∃ u, Hid (upTo xs k v = u) := ⟨_, rfl⟩
            rw [HUP.out] at hup hunx ⊢
            have HUN := Lib.hid hunx
            clear hunx hwp
            go_wp2_with fail
            go_loopw [9, 10] (fun s i wr => ∃ j : Nat, j ≤ xs.length ∧ i = .int .i64 j ∧ s = .bool (sameTo xs v k j) ∧ ∃ q, wr = W0.drewN q) (fun _ i _ => xs.length - (Go.RowKit.intOf i).toNat)
            case atStart => exact ⟨0, Nat.zero_le _, rfl, rfl, q, rfl⟩
            case round =>
              obtain ⟨j, hj, rfl, rfl, q2, rfl⟩ := hrel
              by_cases hjt : j < xs.length
              · obtain ⟨b, off, x, rfl, hcell, hx, _⟩ := (HA.out.hA.below HB.out).elem hjt
                obtain ⟨hx0, hx1⟩ := HR.out x (elem_mem hx)
                have hnx := same_next hx v k
                rcases hy : sameTo xs v k j with _ | _
                · have HN : Hid (sameTo xs v k (j + 1) = false) := by unfold sameTo at hy; unfold Hid sameTo; rw [hnx, hy]; rfl
                  clear hnx hy
                  go_wp2_with fail
                  go_quiet (fail)
                  go_wp2_with fail
                  go_roundw
                  case rel => exact ⟨j + 1, by omega, by go_num, by rw [HN.out], _, rfl⟩
                  case measure => simp [Go.RowKit.intOf]; omega
                · obtain ⟨z, HZ⟩ : ∃ z, Hid ((hasW x v == hasW x k) = z) := ⟨_, rfl⟩
                  have HN : Hid (sameTo xs v k (j + 1) = z) := by unfold sameTo at hy; unfold Hid sameTo; rw [hnx, hy, HZ.out]; rfl
                  have hcmp : ((x / (2 : Int) ^ v).tmod 2 == (x / (2 : Int) ^ k).tmod 2) = z := by
                    rw [bit_val hx0, bit_val hx0, ← HZ.out]
                    cases hasW x v <;> cases hasW x k <;> rfl
                  clear hnx hy
                  go_wp2_with fail
                  go_quiet (fail)
                  go_wp2_with fail
                  go_roundw
                  case rel => exact ⟨j + 1, by omega, by go_num, by rw [HN.out], _, rfl⟩
                  case measure => simp [Go.RowKit.intOf]; omega
              · obtain rfl : j = xs.length := by omega
                have HS : Hid (sameTo xs v k xs.length = sameIn xs v k) := by unfold Hid sameTo; rw [List.take_length]
                rw [HS.out]
                have hwp := HWP.out
                rcases hy : sameIn xs v k with _ | _
                · have HN : Hid (upTo xs k (v + 1) = up) := by unfold Hid; rw [HUN.out, hy]; simp
                  clear hy hwp
                  go_wp2_with fail
                  go_roundw
                  case rel => exact ⟨v + 1, by omega, by go_num, by rw [HN.out], _, rfl⟩
                  case measure => simp [Go.RowKit.intOf]; omega
                · have HN : Hid (upTo xs k (v + 1) = up + 2 ^ v) := by unfold Hid; rw [HUN.out, hy]; simp
                  clear hy
                  obtain ⟨pw, HPW⟩ : ∃ p : Nat, Hid ((2 : Nat) ^ v = p) := ⟨2 ^ v, rfl⟩
                  rw [HPW.out] at hwp hw8 hup HN
                  go_wp2_with fail
                  go_roundw
                  case rel => exact ⟨v + 1, by omega, by go_num, by rw [HN.out]; go_num, _, rfl⟩
                  case measure => simp [Go.RowKit.intOf]; omega
          · obtain rfl : v = 8 := by omega
            have HPK := Lib.hid (HPE.out k)
            rw [HPK.out] at HNX
            obtain ⟨up, HUP⟩ : ∃ u, Hid (upTo xs k 8 = u) := ⟨_, rfl⟩
            rw [HUP.out] at HNX ⊢
            have hpl : (partsTo 3 xs k).length ≤ 8 := by have := HPL.out; omega
            have HOQ : Hid (Owns (W0.drewN q) w.heap.size u5 (partsTo 3 xs k)) := HO.out
            have HBQ : Hid (Below w.heap.size w (W0.drewN q)) := bel_drewN HB.out q
            have hszq : w.heap.size ≤ (W0.drewN q).heap.size := HB.out.size
            go_wp2_with (at_builtin; refine wp_append1 (W := W0.drewN q) rfl _ _ rfl w.heap.size u5 (partsTo 3 xs k) rfl HOQ.out (up : Int) rfl (by omega) (by exact hszq) ?_; intro v' w' hown' hgrow)
            have hb' := below_append HBQ.out hszq HOQ.out (Nat.le_refl _) hgrow
            go_roundw
            case rel => exact ⟨k + 1, by omega, by go_num, by rw [HNX.out]; exact hown', hb'⟩
            case measure => simp [Go.RowKit.intOf]; omega
      · obtain rfl : k = 8 := by omega
        rw [HEND.out] at HO HPL
        obtain ⟨l, HLL⟩ : ∃ l, Hid (partsX 3 xs = l) := ⟨_, rfl⟩
        rw [HLL.out] at HO HPL HRP ⊢
        obtain ⟨A1, c1, rfl, _, _, hn1, _⟩ := HO.out.form
        have HN1 := Lib.hid hn1
        have hpl : l.length ≤ 8 := by have := HPL.out; omega
        clear hn1
        go_wp2_with fail
        refine (sTidy _ _ _ l _ rfl (by omega) HRP.out HN1.out).mono ?_
        rintro e w4 ⟨v, rfl, ho, hb⟩
        have HO4 := Lib.hid ho
        have HB4 := Lib.hid (bel_trans HB.out hb)
        clear ho hb
        go_wp2_with fail
        go_ret
        exact ⟨_, rfl, by rw [HLL.out]; exact HO4.out.base hsz, HB4.out⟩
theorem sParts_is {t : Int} {xs l : List Int} (h : Hid (tidyL (partsX t xs) = l)) {A : Option Addr} {n c : Nat} {w : World} (h1 : 1 ≤ t) (h3 : t ≤ 3) (hs : ∀ x ∈ xs, setOkB t x = true) (ha : Row w A n c xs) :
    Calls Try.prog 61 #[.int .i64 t, .slice A n c] w (OwnL l w) := by
  have := sParts t A n c xs w h1 h3 hs ha
  rw [h.out] at this; exact this
end Go.Proofs.Ytkjjpleedobkdaa
