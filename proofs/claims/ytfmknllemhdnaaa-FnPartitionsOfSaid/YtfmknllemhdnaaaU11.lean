/-
  What the proofs of this seat's statements share (PartI, PartJ, PartK, LstM, LstN, RowR).
-/
import Derived.Lib.BitFns
import Derived.Test.YtfmknllemhdnaaaU10
import Derived.Test.YtfmknllemhdnaaaU6
import Derived.Test.YtfmknllemhdnaaaU4
import Derived.Test.YtfmknllemhdnaaaU3

namespace Go.Proofs.Ytfmknllemhdnaaa
open Go.RowKit

/-- What hands back a slice of numbers of its own. -/
def OwnL (l : List Int) (w : World) (e : Ending) (w' : World) : Prop := ∃ v, e = .returned v ∧ Owns w' w.heap.size v l ∧ Below w.heap.size w w'
theorem wrap_pow6p {k : Nat} (h : k < 8) : wrap64 ((2 : Int) ^ k) = ((2 ^ k : Nat) : Int) := by
  have : 2 ^ k ≤ 2 ^ 7 := Nat.pow_le_pow_right (by omega) (by omega)
  have e : (2 : Int) ^ k = ((2 ^ k : Nat) : Int) := by push_cast; rfl
  rw [e]
  obtain ⟨p, hp⟩ : ∃ p, 2 ^ k = p := ⟨_, rfl⟩
  rw [hp] at this ⊢
  exact IntWalk.wrap64_in _ ⟨by omega, by omega⟩
theorem and_zero {u x : Int} (hu : 0 ≤ u) (hu2 : u < 256) (hx : 0 ≤ x) (hx2 : x < 256) (b : Bool) (h : decide (andI u x = 0) = b) : (bits .and .i64 u x != 0) = !b := by
  rw [bits_and u x hu (by omega) hx (by omega), ← h, bne]; rfl
theorem andI_comm6 (a b : Int) : andI a b = andI b a := by unfold andI; rw [Nat.and_comm]
theorem iWithin_is6 {a b : Int} {v : Bool} (h : Hid (withinB a b = v)) (ha : 0 ≤ a) (ha2 : a < 256) (hb : 0 ≤ b) (hb2 : b < 256) (w : World) :
    Calls Try.prog 48 #[.int .i64 a, .int .i64 b] w fun e w' => e = .returned (.bool v) ∧ w = w' :=
  (iWithin a b ha (by omega) hb (by omega) w).mono fun _ _ ⟨he, hw⟩ => ⟨he.trans (ret_bool h.out), hw⟩
theorem bits_less {a b : Int} (ha : 0 ≤ a) (ha2 : a < 256) (hb : 0 ≤ b) (hb2 : b < 256) : 0 ≤ bits .andNot .i64 a b ∧ ∀ v, hasW (bits .andNot .i64 a b) v = (hasW a v && !hasW b v) := by
  obtain ⟨a, rfl⟩ : ∃ m : Nat, a = m := ⟨a.toNat, by omega⟩
  obtain ⟨b, rfl⟩ : ∃ m : Nat, b = m := ⟨b.toNat, by omega⟩
  have e : bits .andNot .i64 (a : Int) (b : Int) = ((a &&& (2 ^ 64 - (b + 1)) : Nat) : Int) := by
    have hx : a &&& (2 ^ 64 - (b + 1)) ≤ a := Nat.and_le_left
    show IntKind.i64.wrap ((BitVec.ofInt 64 (a : Int) &&& ~~~BitVec.ofInt 64 (b : Int)).toNat : Int) = _
    rw [BitVec.toNat_and, BitVec.toNat_not, BitVec.ofInt_natCast, BitVec.ofInt_natCast, BitVec.toNat_ofNat, BitVec.toNat_ofNat, Nat.mod_eq_of_lt (by omega), Nat.mod_eq_of_lt (by omega), IntKind.wrap_i64,
      show 2 ^ 64 - 1 - b = 2 ^ 64 - (b + 1) by omega]
    omega
  rw [e]
  refine ⟨Int.natCast_nonneg _, fun v => ?_⟩
  unfold hasW
  rw [Int.toNat_natCast, Int.toNat_natCast, Int.toNat_natCast, Nat.testBit_and, Nat.testBit_two_pow_sub_succ (show b < 2 ^ 64 by omega)]
  by_cases hv : v < 64
  · simp [hv]
  · have : a.testBit v = false := Nat.testBit_lt_two_pow (by
      have : 2 ^ 8 ≤ 2 ^ v := Nat.pow_le_pow_right (by omega) (by omega)
      omega)
    rw [this]; rfl

set_option maxRecDepth 100000 in
set_option maxHeartbeats 4000000 in
theorem iIsPart (t : Int) (A : Option Addr) (n c : Nat) (xs : List Int) (w : World) (ha : Row w A n c xs) :
    Calls Try.prog 20 #[.int .i64 t, .slice A n c] w fun e w' => e = .returned (.bool (isPartB t xs)) ∧ ∃ m, w' = w.drewN m := by
  have HA := Lib.hid ha
  obtain rfl := ha.hn
  have hl := ha.hl
  have hc := ha.hc
  rcases h1 : issueOkB t xs with _ | _
  · have H1 := Lib.hid h1
    have HF : Hid (isPartB t xs = false) := by unfold Hid isPartB; rw [h1]; rfl
    clear h1 ha
    go_enter Try.func20, Try.ntmps20
    go_wp2_with fail
    refine (iIssueOk_is H1 _ _ _ _ rfl hl hc HA.out.hm HA.out.hA).mono ?_
    rintro e w' ⟨rfl, m, rfl⟩
    go_wp2_with fail
    go_ret
    exact ⟨ret_bool HF.out.symm, _, rfl⟩
  · have H1 := Lib.hid h1
    obtain ⟨ht1, ht3⟩ := issue_things h1
    have hsets := issue_sets h1
    have HS : Hid (∀ (k : Nat) (x : Int), Hid (xs[k]? = some x) → 0 ≤ unionI (xs.take k) ∧ unionI (xs.take k) < 256 ∧ 0 ≤ x ∧ x < 256 ∧ unionI (xs.take (k + 1)) = orI (unionI (xs.take k)) x) := fun k x hx => by
      have := setOkB_lt (hsets x (elem_mem hx))
      obtain ⟨hg1, hg2⟩ := union_take_range (Lib.hid (issue_range h1)) k
      exact ⟨hg1, hg2, this.2.2.1, this.2.2.2.2, union_take6 hx⟩
    have HMISS : Hid (∀ (k : Nat) (x : Int), Hid (xs[k]? = some x) → apartTo xs k → andI (unionI (xs.take k)) x ≠ 0 → isPartB t xs = false) := fun k x hx ha hn => part_miss ht1 ht3 hsets hx ha hn
    have HEND : Hid (apartTo xs xs.length → isPartB t xs = decide (unionI xs = allOf t)) := part_end h1
    obtain ⟨res, HRES⟩ : ∃ b, Hid (isPartB t xs = b) := ⟨_, rfl⟩
    rw [HRES.out] at HMISS HEND ⊢
    clear h1 ha hsets
    have ht : t = 1 ∨ t = 2 ∨ t = 3 := by omega
    clear ht1 ht3
    rcases ht with rfl | rfl | rfl
    · have HALL : Hid (allOf 1 = 3) := rfl
      rw [HALL.out] at HEND
      go_enter Try.func20, Try.ntmps20
      go_wp2_with fail
      refine (iIssueOk_is H1 _ _ _ _ rfl hl hc HA.out.hm HA.out.hA).mono ?_
      rintro e w' ⟨rfl, m, rfl⟩
      go_wp2_with fail
      go_loop [5, 14] (fun v i => ∃ k : Nat, k ≤ xs.length ∧ i = .int .i64 k ∧ v = .int .i64 (unionI (xs.take k)) ∧ Hid (apartTo xs k)) (fun _ i => xs.length - (Go.RowKit.intOf i).toNat)
      case atStart => exact ⟨0, Nat.zero_le _, rfl, rfl, apart_zero xs⟩
      case round =>
        obtain ⟨k, hk, rfl, rfl, hap⟩ := hrel
        by_cases hlt : k < xs.length
        · obtain ⟨b, off, x, rfl, hcell, hx, _⟩ := HA.out.hA.elem hlt
          obtain ⟨hu0, hu1, hx0, hx1, hu2⟩ := HS.out k x hx
          by_cases hz : andI (unionI (xs.take k)) x = 0
          · have hb := and_zero hu0 hu1 hx0 hx1 true (decide_eq_true hz)
            have HN := Lib.hid (apart_next hap.out hx hz)
            have HU : Hid (unionI (xs.take (k + 1)) = bits .or .i64 (unionI (xs.take k)) x) := by unfold Hid; rw [hu2, bits_or _ _ hu0 (by omega) hx0 (by omega)]
            clear hu2 hz
            go_wp2_with fail
            go_round
            case rel => exact ⟨k + 1, by omega, by go_num, by rw [HU.out], HN⟩
            case measure => simp [Go.RowKit.intOf]; omega
          · have hb := and_zero hu0 hu1 hx0 hx1 false (decide_eq_false hz)
            have HR := Lib.hid (HMISS.out k x hx hap.out hz)
            clear hu2 hz
            go_wp2_with fail
            go_ret
            exact ⟨ret_bool HR.out.symm, _, rfl⟩
        · obtain rfl : k = xs.length := by omega
          have HR := Lib.hid (HEND.out hap.out)
          have HT : Hid (xs.take xs.length = xs) := List.take_length
          rw [HT.out]
          go_wp2_with fail
          refine (iWorldsOf _ _).mono ?_
          rintro e w' ⟨rfl, rfl⟩
          simp only [worldsOf]
          go_wp2_with fail
          go_ret
          refine ⟨ret_bool ?_, _, rfl⟩
          rw [HR.out]
          rw [Bool.eq_iff_iff]; simp
    · have HALL : Hid (allOf 2 = 15) := rfl
      rw [HALL.out] at HEND
      go_enter Try.func20, Try.ntmps20
      go_wp2_with fail
      refine (iIssueOk_is H1 _ _ _ _ rfl hl hc HA.out.hm HA.out.hA).mono ?_
      rintro e w' ⟨rfl, m, rfl⟩
      go_wp2_with fail
      go_loop [5, 14] (fun v i => ∃ k : Nat, k ≤ xs.length ∧ i = .int .i64 k ∧ v = .int .i64 (unionI (xs.take k)) ∧ Hid (apartTo xs k)) (fun _ i => xs.length - (Go.RowKit.intOf i).toNat)
      case atStart => exact ⟨0, Nat.zero_le _, rfl, rfl, apart_zero xs⟩
      case round =>
        obtain ⟨k, hk, rfl, rfl, hap⟩ := hrel
        by_cases hlt : k < xs.length
        · obtain ⟨b, off, x, rfl, hcell, hx, _⟩ := HA.out.hA.elem hlt
          obtain ⟨hu0, hu1, hx0, hx1, hu2⟩ := HS.out k x hx
          by_cases hz : andI (unionI (xs.take k)) x = 0
          · have hb := and_zero hu0 hu1 hx0 hx1 true (decide_eq_true hz)
            have HN := Lib.hid (apart_next hap.out hx hz)
            have HU : Hid (unionI (xs.take (k + 1)) = bits .or .i64 (unionI (xs.take k)) x) := by unfold Hid; rw [hu2, bits_or _ _ hu0 (by omega) hx0 (by omega)]
            clear hu2 hz
            go_wp2_with fail
            go_round
            case rel => exact ⟨k + 1, by omega, by go_num, by rw [HU.out], HN⟩
            case measure => simp [Go.RowKit.intOf]; omega
          · have hb := and_zero hu0 hu1 hx0 hx1 false (decide_eq_false hz)
            have HR := Lib.hid (HMISS.out k x hx hap.out hz)
            clear hu2 hz
            go_wp2_with fail
            go_ret
            exact ⟨ret_bool HR.out.symm, _, rfl⟩
        · obtain rfl : k = xs.length := by omega
          have HR := Lib.hid (HEND.out hap.out)
          have HT : Hid (xs.take xs.length = xs) := List.take_length
          rw [HT.out]
          go_wp2_with fail
          refine (iWorldsOf _ _).mono ?_
          rintro e w' ⟨rfl, rfl⟩
          simp only [worldsOf]
          go_wp2_with fail
          go_ret
          refine ⟨ret_bool ?_, _, rfl⟩
          rw [HR.out]
          rw [Bool.eq_iff_iff]; simp
    · have HALL : Hid (allOf 3 = 255) := rfl
      rw [HALL.out] at HEND
      go_enter Try.func20, Try.ntmps20
      go_wp2_with fail
      refine (iIssueOk_is H1 _ _ _ _ rfl hl hc HA.out.hm HA.out.hA).mono ?_
      rintro e w' ⟨rfl, m, rfl⟩
      go_wp2_with fail
      go_loop [5, 14] (fun v i => ∃ k : Nat, k ≤ xs.length ∧ i = .int .i64 k ∧ v = .int .i64 (unionI (xs.take k)) ∧ Hid (apartTo xs k)) (fun _ i => xs.length - (Go.RowKit.intOf i).toNat)
      case atStart => exact ⟨0, Nat.zero_le _, rfl, rfl, apart_zero xs⟩
      case round =>
        obtain ⟨k, hk, rfl, rfl, hap⟩ := hrel
        by_cases hlt : k < xs.length
        · obtain ⟨b, off, x, rfl, hcell, hx, _⟩ := HA.out.hA.elem hlt
          obtain ⟨hu0, hu1, hx0, hx1, hu2⟩ := HS.out k x hx
          by_cases hz : andI (unionI (xs.take k)) x = 0
          · have hb := and_zero hu0 hu1 hx0 hx1 true (decide_eq_true hz)
            have HN := Lib.hid (apart_next hap.out hx hz)
            have HU : Hid (unionI (xs.take (k + 1)) = bits .or .i64 (unionI (xs.take k)) x) := by unfold Hid; rw [hu2, bits_or _ _ hu0 (by omega) hx0 (by omega)]
            clear hu2 hz
            go_wp2_with fail
            go_round
            case rel => exact ⟨k + 1, by omega, by go_num, by rw [HU.out], HN⟩
            case measure => simp [Go.RowKit.intOf]; omega
          · have hb := and_zero hu0 hu1 hx0 hx1 false (decide_eq_false hz)
            have HR := Lib.hid (HMISS.out k x hx hap.out hz)
            clear hu2 hz
            go_wp2_with fail
            go_ret
            exact ⟨ret_bool HR.out.symm, _, rfl⟩
        · obtain rfl : k = xs.length := by omega
          have HR := Lib.hid (HEND.out hap.out)
          have HT : Hid (xs.take xs.length = xs) := List.take_length
          rw [HT.out]
          go_wp2_with fail
          refine (iWorldsOf _ _).mono ?_
          rintro e w' ⟨rfl, rfl⟩
          simp only [worldsOf]
          go_wp2_with fail
          go_ret
          refine ⟨ret_bool ?_, _, rfl⟩
          rw [HR.out]
          rw [Bool.eq_iff_iff]; simp
theorem iIsPart_is {t : Int} {xs : List Int} {b : Bool} (h : Hid (isPartB t xs = b)) {A : Option Addr} {n c : Nat} {w : World} (ha : Row w A n c xs) :
    Calls Try.prog 20 #[.int .i64 t, .slice A n c] w fun e w' => e = .returned (.bool b) ∧ ∃ m, w' = w.drewN m :=
  (iIsPart t A n c xs w ha).mono fun _ _ ⟨he, hw⟩ => ⟨he.trans (ret_bool h.out), hw⟩

def stateB (t : Int) (xs : List Int) : Bool := xs.all (setOkB t) && decide (1 ≤ t ∧ t ≤ 3) && decide (xs.length ≤ 70)
theorem asks_state (t : Int) (xs : List Int) : asksL t xs = if stateB t xs = true then tidyL (partsX t xs) else [] := rfl
theorem state_empty (t : Int) : stateB t [] = decide (0 < worldsOf t) := by
  unfold stateB
  by_cases h : 1 ≤ t ∧ t ≤ 3
  · have : t = 1 ∨ t = 2 ∨ t = 3 := by omega
    rcases this with rfl | rfl | rfl <;> rfl
  · rw [decide_eq_false h, worldsOf_bad (by omega)]; rfl
theorem state_parts {t : Int} {xs : List Int} (h : 0 < xs.length) : stateB t xs = partsOkB t xs := by
  unfold stateB partsOkB
  cases xs with
  | nil => simp at h
  | cons x r =>
    cases hx : setOkB t x
    · simp [hx]
    · have := setOkB_lt hx
      rw [Bool.eq_iff_iff]
      simp only [Bool.and_eq_true, decide_eq_true_eq, List.length_cons]
      constructor
      · rintro ⟨⟨h1, _⟩, h3⟩; simp_all
      · intro h2; simp_all
theorem state_of {t : Int} {xs : List Int} (h : stateB t xs = true) : 1 ≤ t ∧ t ≤ 3 ∧ (∀ x ∈ xs, setOkB t x = true) ∧ xs.length ≤ 70 := by
  unfold stateB at h
  simp only [Bool.and_eq_true, decide_eq_true_eq, List.all_eq_true] at h
  exact ⟨h.1.2.1, h.1.2.2, h.1.1, h.2⟩
theorem part_zero (t : Int) (h1 : 1 ≤ t) (h3 : t ≤ 3) (w : Nat) : partOf t [] w = allOf t := by
  refine has_ext (Int.natCast_nonneg _) (allOf_lt t).1 fun v => ?_
  rw [part_has]
  by_cases hv : v < nWorlds t
  · rw [decide_eq_true hv, has_all h1 h3 hv]; rfl
  · rw [decide_eq_false hv]
    cases e : hasW (allOf t) v
    · rfl
    · exact absurd (has_lt h1 h3 (allOf_lt t).1 (Int.le_refl _) e) hv
theorem same_next {xs : List Int} {k : Nat} {x : Int} (hx : Hid (xs[k]? = some x)) (v w : Nat) : sameIn (xs.take (k + 1)) v w = (sameIn (xs.take k) v w && (hasW x v == hasW x w)) := by
  unfold sameIn; rw [take_snoc hx, List.all_append]; simp
theorem part_yes {t : Int} {xs : List Int} {k w : Nat} {x : Int} (h1 : 1 ≤ t) (h3 : t ≤ 3) (hx : Hid (xs[k]? = some x)) (hs : setOkB t x = true) (hw : hasW x w = true) : bits .and .i64 (partOf t (xs.take k) w) x = partOf t (xs.take (k + 1)) w := by
  have hp := setOkB_lt (part_ok (sets := xs.take k) h1 h3 w)
  have hx2 := setOkB_lt hs
  rw [bits_and _ _ hp.2.2.1 (by omega) hx2.2.2.1 (by omega)]
  refine has_ext (andI_nonneg _ _) (Int.natCast_nonneg _) fun v => ?_
  rw [has_and, part_has, part_has, same_next hx, hw, Bool.and_assoc]
  congr 2
  cases hasW x v <;> rfl
theorem part_not {t : Int} {xs : List Int} {k w : Nat} {x : Int} (h1 : 1 ≤ t) (h3 : t ≤ 3) (hx : Hid (xs[k]? = some x)) (hs : setOkB t x = true) (hw : hasW x w = false) : bits .andNot .i64 (partOf t (xs.take k) w) x = partOf t (xs.take (k + 1)) w := by
  have hp := setOkB_lt (part_ok (sets := xs.take k) h1 h3 w)
  have hx2 := setOkB_lt hs
  obtain ⟨h0, hb⟩ := bits_less hp.2.2.1 (by omega) hx2.2.2.1 (by omega)
  refine has_ext h0 (Int.natCast_nonneg _) fun v => ?_
  rw [hb, part_has, part_has, same_next hx, hw, Bool.and_assoc]
  congr 2
  cases hasW x v <;> rfl

/-- How far the program's joining has come. -/
def JoinTo (sets : List Int) (x0 y z : Int) : Prop := (y = 0 ∧ z = x0) ∨ ∃ n, y = joinN sets n x0 ∧ z = joinStep sets y
theorem JoinTo.start (sets : List Int) (x0 : Int) : JoinTo sets x0 0 x0 := .inl ⟨rfl, rfl⟩
theorem JoinTo.at_ {sets : List Int} {x0 y z : Int} (h : JoinTo sets x0 y z) : ∃ n, z = joinN sets n x0 := by
  rcases h with ⟨_, rfl⟩ | ⟨n, rfl, rfl⟩
  · exact ⟨0, rfl⟩
  · exact ⟨n + 1, (joinN_succ sets n x0).symm⟩
theorem JoinTo.next {sets : List Int} {x0 y z : Int} (h : JoinTo sets x0 y z) : JoinTo sets x0 z (joinStep sets z) := by
  obtain ⟨n, hn⟩ := h.at_
  exact .inr ⟨n, hn, rfl⟩
theorem JoinTo.done {sets : List Int} {x0 z : Int} (h0 : 0 < x0) (hp : ∀ s ∈ sets, 0 ≤ s) (h : JoinTo sets x0 z z) : z = leadI sets x0 := by
  rcases h with ⟨h1, h2⟩ | ⟨n, h1, h2⟩
  · omega
  · exact lead_fix (by omega) hp ⟨n, h1⟩ h2.symm
def passes6 (z y : Int) : Nat := 2 * (256 - z.toNat) + if z = y then 0 else 1
theorem within_le6 {a b : Int} (_ha : 0 ≤ a) (hb : 0 ≤ b) (h : withinB a b = true) : a ≤ b := by
  have := of_decide_eq_true h
  have h2 := andI_le' a b hb
  omega
theorem passes6_less {sets : List Int} {y z : Int} (hz : 0 ≤ z) (hz2 : joinStep sets z < 256) (hne : z ≠ y) : passes6 (joinStep sets z) z < passes6 z y := by
  have hle := within_le6 hz (join_pos sets z hz) (join_ge sets z hz)
  unfold passes6
  rw [if_neg hne]
  split
  · rename_i e; rw [e]; omega
  · omega

end Go.Proofs.Ytfmknllemhdnaaa

namespace Go.Proofs.Ytfmknllemhdnaaa
open Go.RowKit

theorem len_top : ∀ n : Fin 256, ∀ k : Fin 8, decide (Lib.bitLen n.val = k.val + 1) = decide (2 ^ k.val ≤ n.val ∧ n.val < 2 ^ (k.val + 1)) := by decide +kernel
theorem len_last {x : Int} {k : Nat} (h0 : 0 ≤ x) (h1 : x < 256) (hk : k < 8) : ((Lib.bitLen x.toNat : Int) == (k : Int) + 1) = lastB x k := by
  have := len_top ⟨x.toNat, by omega⟩ ⟨k, hk⟩
  rw [decide_eq_decide] at this
  unfold lastB
  rw [Bool.eq_iff_iff, beq_iff_eq, decide_eq_true_eq]
  constructor
  · intro h
    have := this.1 (by show Lib.bitLen x.toNat = k + 1; omega)
    simp only at this
    omega
  · intro h
    have := this.2 (by show 2 ^ k ≤ x.toNat ∧ x.toNat < 2 ^ (k + 1); omega)
    simp only at this
    omega
theorem iBitsLen {x : Int} {m : Int} (h : Hid ((Lib.bitLen x.toNat : Int) = m)) (h0 : 0 ≤ x) (h1 : x < 256) (w : World) : Calls Try.prog 56 #[.int .u64 x] w fun e w' => e = .returned (.int .i64 m) ∧ w = w' :=
  (Try.bits_Len x w h0 (by omega)).mono fun _ _ ⟨he, hw⟩ => ⟨he.trans (ret_int h.out), hw.symm⟩

end Go.Proofs.Ytfmknllemhdnaaa

namespace Go.Proofs.Ytfmknllemhdnaaa
open Go.RowKit

theorem asks_yes {t : Int} {xs : List Int} (h : stateB t xs = true) : asksL t xs = tidyL (partsP t (partOf t xs)) := by rw [asks_state, if_pos h, partsX_eq]
theorem asks_no {t : Int} {xs : List Int} (h : stateB t xs = false) : asksL t xs = [] := by rw [asks_state, if_neg (by rw [h]; simp)]
theorem asks_len (t : Int) (xs : List Int) : (asksL t xs).length ≤ 8 := by
  cases h : stateB t xs
  · rw [asks_no h]; exact Nat.zero_le _
  · obtain ⟨h1, h3, _⟩ := state_of h
    rw [asks_yes h, ← parted_tidy h1 h3 (partOf_pmap h1 h3)]
    refine Nat.le_trans (partedTo_len _ _) ?_
    have : t = 1 ∨ t = 2 ∨ t = 3 := by omega
    rcases this with rfl | rfl | rfl <;> decide
theorem coarser_no {t : Int} {a b : List Int} (h : (isPartB t a && isPartB t b) = false) : coarserL t a b = [] := by unfold coarserL; rw [h]; rfl
theorem coarser_len (t : Int) (a b : List Int) : (coarserL t a b).length ≤ 8 := by
  cases h : (isPartB t a && isPartB t b)
  · rw [coarser_no h]; exact Nat.zero_le _
  · rw [Bool.and_eq_true] at h
    obtain ⟨h1, h3⟩ := part_things h.1
    rw [coarser_eq h.1 h.2, ← parted_tidy h1 h3 (two_pmap h.1 h.2)]
    refine Nat.le_trans (partedTo_len _ _) ?_
    have : t = 1 ∨ t = 2 ∨ t = 3 := by omega
    rcases this with rfl | rfl | rfl <;> decide
theorem box_cells (w : World) (u v : Value) (a b : TypeId) : ((w.alloc (.cells #[u] a)).alloc (.cells #[v] b)).cell? ⟨w.heap.size, 0, none⟩ = some u ∧ ((w.alloc (.cells #[u] a)).alloc (.cells #[v] b)).cell? ⟨w.heap.size + 1, 0, none⟩ = some v := by
  constructor
  · rw [World.cell?_alloc_past _ _ _ (by simp), World.cell?_alloc_at _ _ _ _ rfl]; rfl
  · rw [World.cell?_alloc_at _ _ _ _ (by simp)]; rfl

theorem box_slice (W : World) (v : Value) (t : TypeId) : (W.alloc (.cells #[v] t)).cell? ⟨W.heap.size, 0, none⟩ = some v := by rw [World.cell?_alloc_at _ _ _ _ rfl]; rfl
def answerI (t : Int) (xs : List Int) (u : Int) : Int := if (isPartB t xs && decide (0 ≤ u ∧ u < worldsOf t)) = true then (xs.find? fun x => hasW x u.toNat).getD (-1) else -1
theorem find_at {xs : List Int} {p : Int → Bool} {x : Int} (h : xs.find? p = some x) : ∃ j : Nat, xs[j]? = some x ∧ p x = true ∧ ∀ i y, i < j → xs[i]? = some y → p y = false := by
  rw [List.find?_eq_some_iff_getElem] at h
  obtain ⟨hp, j, hj, e, hm⟩ := h
  refine ⟨j, by rw [List.getElem?_eq_getElem hj, e], hp, fun i y hi hy => ?_⟩
  have hil : i < xs.length := by omega
  rw [List.getElem?_eq_getElem hil] at hy
  cases hy
  simpa using hm i hi
theorem iWorldsOf_is {t v : Int} (h : Hid (worldsOf t = v)) (w : World) : Calls Try.prog 25 #[.int .i64 t] w fun e w' => e = .returned (.int .i64 v) ∧ w = w' :=
  (iWorldsOf t w).mono fun _ _ ⟨he, hw⟩ => ⟨he.trans (ret_int h.out), hw⟩
theorem quiet_eqp {P : Program} {f : FuncId} {args : Array Value} {w : World} {n : Nat} {v : Value} (h : Calls P f args (w.drewN n) fun e w' => e = .returned v ∧ w.drewN n = w') :
    Calls P f args (w.drewN n) fun e w'' => e = .returned v ∧ ∃ m, w'' = w.drewN m := h.mono fun _ _ ⟨he, hm⟩ => ⟨he, n, hm.symm⟩
theorem box_one (w : World) (v : Value) (t : TypeId) : (w.alloc (.cells #[v] t)).cell? ⟨w.heap.size, 0, none⟩ = some v := by rw [World.cell?_alloc_at _ _ _ _ rfl]; rfl
end Go.Proofs.Ytfmknllemhdnaaa

namespace Go.Proofs.Ytfmknllemhdnaaa
open Go.RowKit

def lessB : List Int → List Int → Bool
  | [], [] => false
  | [], _ :: _ => true
  | _ :: _, [] => false
  | x :: xs, y :: ys => if x = y then lessB xs ys else decide (x < y)
/-- No set of the row is within the set, or the other way round. -/
def freeB (hv : List Int) (f : Int) : Bool := hv.all fun x => !(withinB x f || withinB f x)
/-- What the model's recursion tells: the issues that begin with hv, of k sets more. -/
def issuesM (S : Nat) : Nat → List Int → List (List Int)
  | 0, hv => if hv = [] then [] else [hv]
  | k + 1, hv => issuesM S k hv ++ if freeB hv ((S - (k + 1) : Nat) : Int) = true then issuesM S k (hv ++ [((S - (k + 1) : Nat) : Int)]) else []
def swapL (zs : List (List Int)) (j : Nat) : List (List Int) := (zs.set (j + 1) (zs.getD j [])).set j (zs.getD (j + 1) [])
/-- One row sinks to its place. -/
def sinkL : Nat → List (List Int) → List (List Int)
  | 0, zs => zs
  | j + 1, zs => if lessB (zs.getD (j + 1) []) (zs.getD j []) = true then sinkL j (swapL zs j) else zs
def sortTo (zs : List (List Int)) : Nat → List (List Int)
  | 0 => zs
  | k + 1 => sinkL (k + 1) (sortTo zs k)
def sortL (zs : List (List Int)) : List (List Int) := sortTo zs (zs.length - 1)
def issuesOfL (t : Int) : List (List Int) := if t = 1 then sortL (issuesM 4 4 []) else if t = 2 then sortL (issuesM 16 16 []) else []
theorem swap_len (zs : List (List Int)) (j : Nat) : (swapL zs j).length = zs.length := by unfold swapL; rw [List.length_set, List.length_set]
theorem sink_len : ∀ (j : Nat) (zs : List (List Int)), (sinkL j zs).length = zs.length
  | 0, _ => rfl
  | j + 1, zs => by
    unfold sinkL; split
    · rw [sink_len j, swap_len]
    · rfl
theorem sortTo_len (zs : List (List Int)) : ∀ k, (sortTo zs k).length = zs.length
  | 0 => rfl
  | k + 1 => by unfold sortTo; rw [sink_len, sortTo_len zs k]
theorem issuesM_len (S : Nat) : ∀ k hv, (issuesM S k hv).length ≤ 2 ^ k
  | 0, hv => by unfold issuesM; split <;> simp
  | k + 1, hv => by
    have h1 := issuesM_len S k hv
    have h2 := issuesM_len S k (hv ++ [((S - (k + 1) : Nat) : Int)])
    unfold issuesM
    rw [List.length_append, Nat.pow_succ]
    split
    · omega
    · simp; omega
/-- Each row is short. -/
theorem issuesM_rows (S : Nat) : ∀ k hv, ∀ r ∈ issuesM S k hv, r.length ≤ hv.length + k
  | 0, hv, r, h => by
    unfold issuesM at h
    split at h
    · cases h
    · rw [List.mem_singleton] at h; rw [h]; omega
  | k + 1, hv, r, h => by
    unfold issuesM at h
    rw [List.mem_append] at h
    rcases h with h | h
    · have := issuesM_rows S k hv r h; omega
    · split at h
      · have := issuesM_rows S k _ r h
        rw [List.length_append, List.length_cons, List.length_nil] at this; omega
      · cases h
/-- Behind a first set there is one at least. -/
theorem issuesM_some (S : Nat) : ∀ k hv, hv ≠ [] → 1 ≤ (issuesM S k hv).length
  | 0, hv, h => by unfold issuesM; rw [if_neg h]; simp
  | k + 1, hv, h => by
    have := issuesM_some S k hv h
    unfold issuesM
    rw [List.length_append]; omega
theorem free_snoc {hv : List Int} {k : Nat} {x f : Int} (hx : Hid (hv[k]? = some x)) : freeB (hv.take (k + 1)) f = (freeB (hv.take k) f && !(withinB x f || withinB f x)) := by
  unfold freeB
  rw [List.take_succ_eq_append_getElem (List.getElem?_eq_some_iff.1 hx.out).1, (List.getElem?_eq_some_iff.1 hx.out).2, List.all_append]; simp
theorem free_miss {hv : List Int} {k : Nat} {x f : Int} (hx : Hid (hv[k]? = some x)) (h : (withinB x f || withinB f x) = true) : freeB hv f = false := by
  unfold freeB
  rw [List.all_eq_false]
  exact ⟨x, List.mem_of_getElem? hx.out, by rw [h]; simp⟩
theorem less_at {xs ys : List Int} {k : Nat} {x y : Int} (he : xs.take k = ys.take k) (hx : xs[k]? = some x) (hy : ys[k]? = some y) (hne : x ≠ y) : lessB xs ys = decide (x < y) := by
  induction k generalizing xs ys with
  | zero =>
    cases xs with
    | nil => simp at hx
    | cons a xs =>
      cases ys with
      | nil => simp at hy
      | cons b ys =>
        simp at hx hy
        subst hx hy
        unfold lessB; rw [if_neg hne]
  | succ k ih =>
    cases xs with
    | nil => simp at hx
    | cons a xs =>
      cases ys with
      | nil => simp at hy
      | cons b ys =>
        simp at hx hy he
        unfold lessB; rw [if_pos he.1]
        exact ih he.2 hx hy
theorem less_end {xs ys : List Int} {k : Nat} (he : xs.take k = ys.take k) (hk : k = xs.length ∨ k = ys.length) (h1 : k ≤ xs.length) (h2 : k ≤ ys.length) : lessB xs ys = decide (xs.length < ys.length) := by
  induction k generalizing xs ys with
  | zero =>
    cases xs with
    | nil => cases ys <;> simp [lessB]
    | cons a xs =>
      cases ys with
      | nil => simp [lessB]
      | cons b ys => rcases hk with h | h <;> simp at h
  | succ k ih =>
    cases xs with
    | nil => simp at h1
    | cons a xs =>
      cases ys with
      | nil => simp at h2
      | cons b ys =>
        simp at he h1 h2
        unfold lessB; rw [if_pos he.1, ih he.2 (by rcases hk with h | h <;> simp at h <;> omega) h1 h2]
        simp
end Go.Proofs.Ytfmknllemhdnaaa

namespace Go.Proofs.Ytfmknllemhdnaaa
open Go.RowKit

/-- A row put into a list that is sorted the other way round. -/
def insL (x : List Int) : List (List Int) → List (List Int)
  | [] => [x]
  | y :: ys => if lessB x y = true then y :: insL x ys else x :: y :: ys
theorem sink_ins (x : List Int) (rest : List (List Int)) : ∀ acc : List (List Int), sinkL acc.length (acc.reverse ++ x :: rest) = (insL x acc).reverse ++ rest
  | [] => rfl
  | y :: ys => by
    have e : (y :: ys).reverse ++ x :: rest = ys.reverse ++ y :: x :: rest := by simp
    have h1 : (ys.reverse ++ y :: x :: rest).getD (ys.length + 1) [] = x := by
      rw [List.getD_eq_getElem?_getD, List.getElem?_append_right (by simp)]
      simp
    have h2 : (ys.reverse ++ y :: x :: rest).getD ys.length [] = y := by
      rw [List.getD_eq_getElem?_getD, List.getElem?_append_right (by simp)]
      simp
    rw [e]
    show sinkL (ys.length + 1) (ys.reverse ++ y :: x :: rest) = _
    unfold sinkL
    rw [h1, h2]
    unfold insL
    by_cases h : lessB x y = true
    · rw [if_pos h, if_pos h]
      have hs : swapL (ys.reverse ++ y :: x :: rest) ys.length = ys.reverse ++ x :: y :: rest := by
        unfold swapL
        rw [h1, h2, List.set_append_right _ _ (by simp), List.set_append_right _ _ (by simp)]
        simp
      rw [hs, sink_ins x (y :: rest) ys]
      simp
    · rw [if_neg h, if_neg h]
      simp
theorem ins_len (x : List Int) : ∀ acc : List (List Int), (insL x acc).length = acc.length + 1
  | [] => rfl
  | y :: ys => by
    unfold insL
    split
    · rw [List.length_cons, ins_len x ys, List.length_cons]
    · rfl
def accL (zs : List (List Int)) : List (List Int) := zs.foldl (fun acc x => insL x acc) []
theorem acc_len (zs : List (List Int)) : (accL zs).length = zs.length := by
  have key : ∀ (zs acc : List (List Int)), (zs.foldl (fun acc x => insL x acc) acc).length = acc.length + zs.length := by
    intro zs
    induction zs with
    | nil => intro acc; rfl
    | cons z zs ih => intro acc; rw [List.foldl_cons, ih, ins_len, List.length_cons]; omega
  have := key zs []
  unfold accL
  rw [this]; simp
theorem sortTo_acc (zs : List (List Int)) : ∀ k, k < zs.length → sortTo zs k = (accL (zs.take (k + 1))).reverse ++ zs.drop (k + 1)
  | 0, h => by
    cases zs with
    | nil => simp at h
    | cons z zs => rfl
  | k + 1, h => by
    unfold sortTo
    rw [sortTo_acc zs k (by omega)]
    have hd : zs.drop (k + 1) = zs[k + 1] :: zs.drop (k + 1 + 1) := List.drop_eq_getElem_cons h
    have hl : (accL (zs.take (k + 1))).length = k + 1 := by rw [acc_len, List.length_take]; omega
    rw [hd]
    have := sink_ins zs[k + 1] (zs.drop (k + 1 + 1)) (accL (zs.take (k + 1)))
    rw [hl] at this
    rw [this]
    have ht : zs.take (k + 1 + 1) = zs.take (k + 1) ++ [zs[k + 1]] := List.take_succ_eq_append_getElem h
    rw [ht]
    unfold accL
    rw [List.foldl_append]
    rfl
theorem sort_acc (zs : List (List Int)) : sortL zs = (accL zs).reverse := by
  unfold sortL
  cases zs with
  | nil => rfl
  | cons z zs =>
    rw [sortTo_acc _ _ (by simp)]
    simp
/-- No set of a row is within a set that is greater than all of them. -/
def apartR (row : List Int) (s : Int) : Bool := row.all fun x => !withinB x s
/-- The rows that the program lists: those that begin with a row, so many sets being left. -/
def growP (lim : Nat) : Nat → List Int → List (List Int)
  | 0, _ => []
  | k + 1, row => (if apartR row ((lim - (k + 1) : Nat) : Int) = true then (row ++ [((lim - (k + 1) : Nat) : Int)]) :: growP lim k (row ++ [((lim - (k + 1) : Nat) : Int)]) else []) ++ growP lim k row
theorem list_one : (accL (issuesM 4 4 [])).reverse = growP 4 4 [] := by decide +kernel
set_option maxRecDepth 1000000 in
theorem list_two : (accL (issuesM 16 16 [])).reverse = growP 16 16 [] := by decide +kernel
theorem issues_grow (t : Int) : issuesOfL t = if t = 1 then growP 4 4 [] else if t = 2 then growP 16 16 [] else [] := by
  unfold issuesOfL
  rw [sort_acc, sort_acc, list_one, list_two]
theorem grow_two : (growP 16 16 []).length = 167 := by decide +kernel
theorem grow_one : (growP 4 4 []).length = 5 := by decide +kernel
end Go.Proofs.Ytfmknllemhdnaaa

namespace Go.Proofs.Ytfmknllemhdnaaa
open Go.RowKit

/-- The values vs are slices of the call's own that read as xss; none of them lies in block o. -/
def Sees (w : World) (base : Nat) (o : Option Nat) (vs : List Value) (xss : List (List Int)) : Prop :=
  vs.length = xss.length ∧ ∀ (i : Nat) (xs : List Int), xss[i]? = some xs → ∃ v, vs[i]? = some v ∧ Owns w base v xs ∧ xs.length ≤ 300 ∧ (v.ownBlock = none ∨ v.ownBlock ≠ o)
structure OwnsR (w : World) (base : Nat) (v : Value) (vs : List Value) (xss : List (List Int)) : Prop where
  row : w.ownsRow base 29 1 v vs.length vs
  sees : Sees w base v.ownBlock vs xss
theorem rowrow_info : (Try.prog.info? 29).map (fun i => (i.zero, i.size, i.bytes)) = some (some (.slice none 0 0), 1, 24) := by kernel_rfl
theorem OwnsR.nil (w : World) (base : Nat) : OwnsR w base (.slice none 0 0) [] [] := ⟨World.ownsRow_nil w base _ 1, rfl, fun i xs h => by simp at h⟩
theorem OwnsR.lit (w : World) (base : Nat) (hb : base ≤ w.heap.size) : OwnsR (w.alloc (.cells #[] 29)) base (.slice (some ⟨w.heap.size, 0, none⟩) 0 0) [] [] :=
  ⟨World.ownsRow_lit (base := base) (e := 29) (size := 1) w #[] 0 hb (by simp [maxLen]) (by simp), rfl, fun i xs h => by simp at h⟩
theorem Sees.below {w w' : World} {base : Nat} {o : Option Nat} {vs : List Value} {xss : List (List Int)} (h : Sees w base o vs xss) (hb : Below w.heap.size w w') : Sees w' base o vs xss :=
  ⟨h.1, fun i xs hx => by obtain ⟨v, h1, h2, h3⟩ := h.2 i xs hx; exact ⟨v, h1, h2.below hb, h3⟩⟩
theorem OwnsR.below {w w' : World} {base : Nat} {v : Value} {vs : List Value} {xss : List (List Int)} (h : OwnsR w base v vs xss) (hb : Below w.heap.size w w') : OwnsR w' base v vs xss :=
  ⟨World.ownsRow.kept (row := none) h.row ⟨hb.os, hb.tape, hb.output, hb.size, fun k hk _ => hb.block k hk⟩ (by cases v.ownBlock <;> simp), h.sees.below hb⟩
theorem OwnsR.drewN {w : World} {base : Nat} {v : Value} {vs : List Value} {xss : List (List Int)} (h : OwnsR w base v vs xss) (n : Nat) : OwnsR (w.drewN n) base v vs xss := ⟨h.row, h.sees.1, fun i xs hx => by obtain ⟨v, h1, h2, h3⟩ := h.sees.2 i xs hx; exact ⟨v, h1, h2, h3⟩⟩
theorem OwnsR.base {w : World} {base base' : Nat} {v : Value} {vs : List Value} {xss : List (List Int)} (h : OwnsR w base v vs xss) (hb : base' ≤ base) : OwnsR w base' v vs xss := by
  refine ⟨⟨h.row.1, ?_⟩, h.sees.1, fun i xs hx => ?_⟩
  · rcases h.row.2 with h | ⟨g, cap, cur, h1, h2, h3⟩
    · exact .inl h
    · exact .inr ⟨g, cap, cur, h1, by omega, h3⟩
  · obtain ⟨v, h1, h2, h3⟩ := h.sees.2 i xs hx
    exact ⟨v, h1, h2.base hb, h3⟩
theorem OwnsR.len {w : World} {base : Nat} {v : Value} {vs : List Value} {xss : List (List Int)} (h : OwnsR w base v vs xss) : vs.length = xss.length := h.sees.1
/-- The slice's form; what its cells hold. -/
theorem OwnsR.form {w : World} {base : Nat} {v : Value} {vs : List Value} {xss : List (List Int)} (h : OwnsR w base v vs xss) :
    ∃ A c, v = .slice A xss.length c ∧ xss.length ≤ c ∧ c ≤ maxLen ∧ ∀ ad, A = some ad → base ≤ ad.block ∧ ad.block < w.heap.size := by
  rcases h.row.2 with ⟨rfl, hl⟩ | ⟨g, cap, cur, rfl, hb, hg, hn, hm, _, _⟩
  · exact ⟨none, 0, by rw [← h.len, hl], by rw [← h.len, hl]; exact Nat.le_refl _, by simp [maxLen], fun ad h => by cases h⟩
  · have hlt : g < w.heap.size := (Array.getElem?_eq_some_iff.1 hg).1
    exact ⟨some ⟨g, 0, none⟩, cap, by rw [h.len], by rw [← h.len]; exact hn, hm, fun ad h => by cases h; exact ⟨hb, hlt⟩⟩
/-- One row: its address, its cell, how it reads. -/
theorem OwnsR.elem {w : World} {base n c : Nat} {A : Option Addr} {vs : List Value} {xss : List (List Int)} (h : OwnsR w base (.slice A n c) vs xss) {i : Nat} (hi : i < xss.length) :
    ∃ g off Ai ci xs, A = some ⟨g, off, none⟩ ∧ w.cell? ⟨g, off + i, none⟩ = some (.slice Ai xs.length ci) ∧ Hid (xss[i]? = some xs) ∧ Hid (Row w Ai xs.length ci xs) := by
  rcases h.row.2 with ⟨hv, hl⟩ | ⟨g, cap, cur, hv, hb, hg, hn, hm, hcs, ht⟩
  · have := h.len; omega
  · simp only [Value.slice.injEq] at hv
    obtain ⟨rfl, _, rfl⟩ := hv
    obtain ⟨v, h1, h2, h3, _⟩ := h.sees.2 i xss[i] (List.getElem?_eq_getElem hi)
    obtain ⟨Ai, ci, rfl, _, _, _, _⟩ := h2.form
    refine ⟨g, 0, Ai, ci, xss[i], rfl, ?_, List.getElem?_eq_getElem hi, Owns.row h2 (by omega)⟩
    rw [Nat.mul_one] at ht
    have hil : i < vs.length := by rw [h.len]; exact hi
    have e : cur[i]? = some (.slice Ai xss[i].length ci) := by
      have h4 : (cur.toList.take vs.length)[i]? = vs[i]? := by rw [ht]
      rw [List.getElem?_take_of_lt hil, h1] at h4
      simpa using h4
    simp [World.cell?, hg, e]

theorem wp_appendR4 {W : World} {ops : Array Oper} {rest : List Oper} {o : Oper} {a : Act} {Q : Exit → Act → World → Prop} (hgd : o.guard = none) (s x : Operand)
    (ho : o.op = .call { callee := .builtin .append, args := #[s, x], argTypes := #[24, 24] }) (base : Nat) (v : Value) (vs : List Value) (xss : List (List Int)) (hs : a.eval s = v) (hown : OwnsR W base v vs xss)
    (y : Value) (ys : List Int) (hy : Owns W base y ys) (hyl : ys.length ≤ 300) (hyo : y.ownBlock = none ∨ y.ownBlock ≠ v.ownBlock) (hx : a.eval x = .slice (some ⟨W.heap.size, 0, none⟩) 1 1) (hl : xss.length ≤ 1048576) (hb : base ≤ W.heap.size)
    (h : ∀ v' w', OwnsR w' base v' (vs ++ [y]) (xss ++ [ys]) → (W.alloc (.cells #[y] 29)).grownBy w' v.ownBlock → (v'.ownBlock = v.ownBlock ∨ v'.ownBlock = some (W.heap.size + 1)) → wpList Try.prog ops Q rest (a.put o.dst v') w') :
    wpList Try.prog ops Q (o :: rest) a (W.alloc (.cells #[y] 29)) := by
  obtain ⟨i0, hi0, hz0, hz1, hz2⟩ := info_parts rowrow_info
  obtain ⟨Ay, cy, rfl, _, _, _, hya⟩ := hy.form
  have hlen := hown.len
  refine wpList_append_own_at _ hgd s x 24 ho base 29 i0 (.slice none 0 0) 1 24 Try.underlying24 hi0 hz0 hz1 hz2 rfl (by decide) v vs.length vs hs (World.ownsRow.alloc hown.row _)
    ⟨W.heap.size, 0, none⟩ 1 1 [.slice Ay ys.length cy] hx rfl (cell_one_new _ _ _) (fun u hu => by rw [List.mem_singleton] at hu; subst hu; rfl) (by simp only [maxLen]; omega) (by omega) (by rw [World.size_alloc]; omega) ?_
  intro v' w' h1 h2 _ h4
  refine h v' w' ⟨by simpa using h1, by simp [hlen], fun i xs hi => ?_⟩ h2 (by rw [← World.size_alloc W (.cells #[.slice Ay ys.length cy] 29)]; exact h4)
  have hal : ∀ {u : Value} {us : List Int}, Owns W base u us → (u.ownBlock = none ∨ u.ownBlock ≠ v.ownBlock) → Owns w' base u us ∧ (u.ownBlock = none ∨ u.ownBlock ≠ v'.ownBlock) := fun {u us} hu hne => by
    refine ⟨(hu.below ((Below.refl _ _).alloc (Nat.le_refl _) _)).kept h2 hne, ?_⟩
    rcases hne with hn | hn
    · exact .inl hn
    · rcases h4 with h4 | h4
      · rw [h4]; exact .inr hn
      · right
        intro e
        rw [h4, World.size_alloc] at e
        have := (World.ownsRow.lt hu _ e).2
        omega
  by_cases hil : i < xss.length
  · rw [List.getElem?_append_left hil] at hi
    obtain ⟨u, g1, g2, g3, g4⟩ := hown.sees.2 i xs hi
    obtain ⟨g5, g6⟩ := hal g2 g4
    exact ⟨u, by rw [List.getElem?_append_left (by omega)]; exact g1, g5, g3, g6⟩
  · rw [List.getElem?_append_right (by omega)] at hi
    have hi0 : i - xss.length = 0 := by
      rcases Nat.eq_zero_or_pos (i - xss.length) with h | h
      · exact h
      · rw [List.getElem?_eq_none (by simp only [List.length_cons, List.length_nil]; omega)] at hi; cases hi
    rw [hi0] at hi
    cases hi
    obtain ⟨g5, g6⟩ := hal hy hyo
    exact ⟨_, by rw [List.getElem?_append_right (by omega), hlen, hi0]; rfl, g5, hyl, g6⟩
theorem wp_appendR {W : World} {ops : Array Oper} {rest : List Oper} {o : Oper} {a : Act} {Q : Exit → Act → World → Prop} (hgd : o.guard = none) (s x : Operand)
    (ho : o.op = .call { callee := .builtin .append, args := #[s, x], argTypes := #[24, 24] }) (base : Nat) (v : Value) (vs : List Value) (xss : List (List Int)) (hs : a.eval s = v) (hown : OwnsR W base v vs xss)
    (y : Value) (ys : List Int) (hy : Owns W base y ys) (hyl : ys.length ≤ 300) (hyo : y.ownBlock = none ∨ y.ownBlock ≠ v.ownBlock) (hx : a.eval x = .slice (some ⟨W.heap.size, 0, none⟩) 1 1) (hl : xss.length ≤ 1048576) (hb : base ≤ W.heap.size)
    (h : ∀ v' w', OwnsR w' base v' (vs ++ [y]) (xss ++ [ys]) → (W.alloc (.cells #[y] 29)).grownBy w' v.ownBlock → wpList Try.prog ops Q rest (a.put o.dst v') w') :
    wpList Try.prog ops Q (o :: rest) a (W.alloc (.cells #[y] 29)) :=
  wp_appendR4 hgd s x ho base v vs xss hs hown y ys hy hyl hyo hx hl hb fun v' w' h1 h2 _ => h v' w' h1 h2
theorem below_appendR {B : Nat} {a W w' : World} {base : Nat} {v : Value} {vs : List Value} {xss : List (List Int)} {o : Obj} (h : Below B a W) (hB : B ≤ W.heap.size) (hown : OwnsR W base v vs xss) (hbase : B ≤ base) (hg : (W.alloc o).grownBy w' v.ownBlock) : Below B a w' :=
  (h.alloc hB o).grown hg (by simp; omega) fun k e => by have := (World.ownsRow.lt hown.row k e).1; omega
/-- A new row is not in a row's block that was there before. -/
theorem new_row {w w1 : World} {base : Nat} {v y : Value} {vs : List Value} {xss : List (List Int)} {ys : List Int} (h : OwnsR w base v vs xss) (hy : Owns w1 w.heap.size y ys) : y.ownBlock = none ∨ y.ownBlock ≠ v.ownBlock := by
  cases e : y.ownBlock with
  | none => exact .inl rfl
  | some k =>
    right
    intro e2
    have h1 := (World.ownsRow.lt hy k e).1
    have h2 := (World.ownsRow.lt h.row k e2.symm).2
    omega
end Go.Proofs.Ytfmknllemhdnaaa
