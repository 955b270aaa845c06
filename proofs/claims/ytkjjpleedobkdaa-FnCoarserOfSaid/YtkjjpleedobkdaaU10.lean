/-
  What the proofs of this seat's statements share (PartI).
-/
import Derived.Test.YtkjjpleedobkdaaU9
import Derived.Test.YtkjjpleedobkdaaU7

namespace Go.Proofs.Ytkjjpleedobkdaa
open Go.RowKit

/-- What hands back a slice of numbers of its own. -/
def OwnL (l : List Int) (w : World) (e : Ending) (w' : World) : Prop := ∃ v, e = .returned v ∧ Owns w' w.heap.size v l ∧ Below w.heap.size w w'
theorem wrap_pow6p {k : Nat} (h : k < 8) : wrap64 ((2 : Int) ^ k) = ((2 ^ k : Nat) : Int) := by
  have : 2 ^ k ≤ 2 ^ 7 := Nat.pow_le_pow_right (by omega) (by omega)
  have e : (2 : Int) ^ k = ((2 ^ k : Nat) : Int) := by push_cast; rfl
  rw [e]
  obtain ⟨p, hp⟩ : ∃ p, 2 ^ k = p := ⟨_, rfl⟩
  rw [hp] at this ⊢
  exact IntWalk.wrap64_in _ ⟨by omega, by omega⟩
theorem and_zero {u x : Int} (hu : 0 ≤ u) (hu2 : u < 256) (hx : 0 ≤ x) (hx2 : x < 256) (b : Bool) (h : decide (andI u x = 0) = b) : (bits .and .i64 u x != 0) = !b := by
  rw [bits_and u x hu (by omega) hx (by omega), ← h, bne]; rfl
theorem andI_comm6 (a b : Int) : andI a b = andI b a := by unfold andI; rw [Nat.and_comm]
theorem iWithin_is6 {a b : Int} {v : Bool} (h : Hid (withinB a b = v)) (ha : 0 ≤ a) (ha2 : a < 256) (hb : 0 ≤ b) (hb2 : b < 256) (w : World) :
    Calls Try.prog 69 #[.int .i64 a, .int .i64 b] w fun e w' => e = .returned (.bool v) ∧ w = w' :=
  (iWithin a b ha (by omega) hb (by omega) w).mono fun _ _ ⟨he, hw⟩ => ⟨he.trans (ret_bool h.out), hw⟩
theorem bits_less {a b : Int} (ha : 0 ≤ a) (ha2 : a < 256) (hb : 0 ≤ b) (hb2 : b < 256) : 0 ≤ bits .andNot .i64 a b ∧ ∀ v, hasW (bits .andNot .i64 a b) v = (hasW a v && !hasW b v) := by
  obtain ⟨a, rfl⟩ : ∃ m : Nat, a = m := ⟨a.toNat, by omega⟩
  obtain ⟨b, rfl⟩ : ∃ m : Nat, b = m := ⟨b.toNat, by omega⟩
  have e : bits .andNot .i64 (a : Int) (b : Int) = ((a &&& (2 ^ 64 - (b + 1)) : Nat) : Int) := by
    have hx : a &&& (2 ^ 64 - (b + 1)) ≤ a := Nat.and_le_left
    show IntKind.i64.wrap ((BitVec.ofInt 64 (a : Int) &&& ~~~BitVec.ofInt 64 (b : Int)).toNat : Int) = _
    rw [BitVec.toNat_and, BitVec.toNat_not, BitVec.ofInt_natCast, BitVec.ofInt_natCast, BitVec.toNat_ofNat, BitVec.toNat_ofNat, Nat.mod_eq_of_lt (by omega), Nat.mod_eq_of_lt (by omega), IntKind.wrap_i64,
      show 2 ^ 64 - 1 - b = 2 ^ 64 - (b + 1) by omega]
    omega
  rw [e]
  refine ⟨Int.natCast_nonneg _, fun v => ?_⟩
  unfold hasW
  rw [Int.toNat_natCast, Int.toNat_natCast, Int.toNat_natCast, Nat.testBit_and, Nat.testBit_two_pow_sub_succ (show b < 2 ^ 64 by omega)]
  by_cases hv : v < 64
  · simp [hv]
  · have : a.testBit v = false := Nat.testBit_lt_two_pow (by
      have : 2 ^ 8 ≤ 2 ^ v := Nat.pow_le_pow_right (by omega) (by omega)
      omega)
    rw [this]; rfl

set_option maxRecDepth 100000 in
set_option maxHeartbeats 4000000 in
theorem iIsPart (t : Int) (A : Option Addr) (n c : Nat) (xs : List Int) (w : World) (ha : Row w A n c xs) :
    Calls Try.prog 14 #[.int .i64 t, .slice A n c] w fun e w' => e = .returned (.bool (isPartB t xs)) ∧ ∃ m, w' = w.drewN m := by
  have HA := Lib.hid ha
  obtain rfl := ha.hn
  have hl := ha.hl
  have hc := ha.hc
  rcases h1 : issueOkB t xs with _ | _
  · have H1 := Lib.hid h1
    have HF : Hid (isPartB t xs = false) := by unfold Hid isPartB; rw [h1]; rfl
    clear h1 ha
    go_enter Try.func14, Try.ntmps14
    go_wp2_with fail
    refine (iIssueOk_is H1 _ _ _ _ rfl hl hc HA.out.hm HA.out.hA).mono ?_
    rintro e w' ⟨rfl, m, rfl⟩
    go_wp2_with fail
    go_ret
    exact ⟨ret_bool HF.out.symm, _, rfl⟩
  · have H1 := Lib.hid h1
    obtain ⟨ht1, ht3⟩ := issue_things h1
    have hsets := issue_sets h1
    have HS : Hid (∀ (k : Nat) (x : Int), Hid (xs[k]? = some x) → 0 ≤ unionI (xs.take k) ∧ unionI (xs.take k) < 256 ∧ 0 ≤ x ∧ x < 256 ∧ unionI (xs.take (k + 1)) = orI (unionI (xs.take k)) x) := fun k x hx => by
      have := setOkB_lt (hsets x (elem_mem hx))
      obtain ⟨hg1, hg2⟩ := union_take_range (Lib.hid (issue_range h1)) k
      exact ⟨hg1, hg2, this.2.2.1, this.2.2.2.2, union_take6 hx⟩
    have HMISS : Hid (∀ (k : Nat) (x : Int), Hid (xs[k]? = some x) → apartTo xs k → andI (unionI (xs.take k)) x ≠ 0 → isPartB t xs = false) := fun k x hx ha hn => part_miss ht1 ht3 hsets hx ha hn
    have HEND : Hid (apartTo xs xs.length → isPartB t xs = decide (unionI xs = allOf t)) := part_end h1
    obtain ⟨res, HRES⟩ : ∃ b, Hid (isPartB t xs = b) := ⟨_, rfl⟩
    rw [HRES.out] at HMISS HEND ⊢
    clear h1 ha hsets
    have ht : t = 1 ∨ t = 2 ∨ t = 3 := by omega
    clear ht1 ht3
    rcases ht with rfl | rfl | rfl
    · have HALL : Hid (allOf 1 = 3) := rfl
      rw [HALL.out] at HEND
      go_enter Try.func14, Try.ntmps14
      go_wp2_with fail
      refine (iIssueOk_is H1 _ _ _ _ rfl hl hc HA.out.hm HA.out.hA).mono ?_
      rintro e w' ⟨rfl, m, rfl⟩
      go_wp2_with fail
      go_loop [5, 14] (fun v i => ∃ k : Nat, k ≤ xs.length ∧ i = .int .i64 k ∧ v = .int .i64 (unionI (xs.take k)) ∧ Hid (apartTo xs k)) (fun _ i => xs.length - (intOf i).toNat)
      case atStart => exact ⟨0, Nat.zero_le _, rfl, rfl, apart_zero xs⟩
      case round =>
        obtain ⟨k, hk, rfl, rfl, hap⟩ := hrel
        by_cases hlt : k < xs.length
        · obtain ⟨b, off, x, rfl, hcell, hx, _⟩ := HA.out.hA.elem hlt
          obtain ⟨hu0, hu1, hx0, hx1, hu2⟩ := HS.out k x hx
          by_cases hz : andI (unionI (xs.take k)) x = 0
          · have hb := and_zero hu0 hu1 hx0 hx1 true (decide_eq_true hz)
            have HN := Lib.hid (apart_next hap.out hx hz)
            have HU : Hid (unionI (xs.take (k + 1)) = bits .or .i64 (unionI (xs.take k)) x) := by unfold Hid; rw [hu2, bits_or _ _ hu0 (by omega) hx0 (by omega)]
            clear hu2 hz
            go_wp2_with fail
            go_round
            case rel => exact ⟨k + 1, by omega, by go_num, by rw [HU.out], HN⟩
            case measure => simp [intOf]; omega
          · have hb := and_zero hu0 hu1 hx0 hx1 false (decide_eq_false hz)
            have HR := Lib.hid (HMISS.out k x hx hap.out hz)
            clear hu2 hz
            go_wp2_with fail
            go_ret
            exact ⟨ret_bool HR.out.symm, _, rfl⟩
        · obtain rfl : k = xs.length := by omega
          have HR := Lib.hid (HEND.out hap.out)
          have HT : Hid (xs.take xs.length = xs) := List.take_length
          rw [HT.out]
          go_wp2_with fail
          refine (iWorldsOf _ _).mono ?_
          rintro e w' ⟨rfl, rfl⟩
          simp only [worldsOf]
          go_wp2_with fail
          go_ret
          refine ⟨ret_bool ?_, _, rfl⟩
          rw [HR.out]
          rw [Bool.eq_iff_iff]; simp
    · have HALL : Hid (allOf 2 = 15) := rfl
      rw [HALL.out] at HEND
      go_enter Try.func14, Try.ntmps14
      go_wp2_with fail
      refine (iIssueOk_is H1 _ _ _ _ rfl hl hc HA.out.hm HA.out.hA).mono ?_
      rintro e w' ⟨rfl, m, rfl⟩
      go_wp2_with fail
      go_loop [5, 14] (fun v i => ∃ k : Nat, k ≤ xs.length ∧ i = .int .i64 k ∧ v = .int .i64 (unionI (xs.take k)) ∧ Hid (apartTo xs k)) (fun _ i => xs.length - (intOf i).toNat)
      case atStart => exact ⟨0, Nat.zero_le _, rfl, rfl, apart_zero xs⟩
      case round =>
        obtain ⟨k, hk, rfl, rfl, hap⟩ := hrel
        by_cases hlt : k < xs.length
        · obtain ⟨b, off, x, rfl, hcell, hx, _⟩ := HA.out.hA.elem hlt
          obtain ⟨hu0, hu1, hx0, hx1, hu2⟩ := HS.out k x hx
          by_cases hz : andI (unionI (xs.take k)) x = 0
          · have hb := and_zero hu0 hu1 hx0 hx1 true (decide_eq_true hz)
            have HN := Lib.hid (apart_next hap.out hx hz)
            have HU : Hid (unionI (xs.take (k + 1)) = bits .or .i64 (unionI (xs.take k)) x) := by unfold Hid; rw [hu2, bits_or _ _ hu0 (by omega) hx0 (by omega)]
            clear hu2 hz
            go_wp2_with fail
            go_round
            case rel => exact ⟨k + 1, by omega, by go_num, by rw [HU.out], HN⟩
            case measure => simp [intOf]; omega
          · have hb := and_zero hu0 hu1 hx0 hx1 false (decide_eq_false hz)
            have HR := Lib.hid (HMISS.out k x hx hap.out hz)
            clear hu2 hz
            go_wp2_with fail
            go_ret
            exact ⟨ret_bool HR.out.symm, _, rfl⟩
        · obtain rfl : k = xs.length := by omega
          have HR := Lib.hid (HEND.out hap.out)
          have HT : Hid (xs.take xs.length = xs) := List.take_length
          rw [HT.out]
          go_wp2_with fail
          refine (iWorldsOf _ _).mono ?_
          rintro e w' ⟨rfl, rfl⟩
          simp only [worldsOf]
          go_wp2_with fail
          go_ret
          refine ⟨ret_bool ?_, _, rfl⟩
          rw [HR.out]
          rw [Bool.eq_iff_iff]; simp
    · have HALL : Hid (allOf 3 = 255) := rfl
      rw [HALL.out] at HEND
      go_enter Try.func14, Try.ntmps14
      go_wp2_with fail
      refine (iIssueOk_is H1 _ _ _ _ rfl hl hc HA.out.hm HA.out.hA).mono ?_
      rintro e w' ⟨rfl, m, rfl⟩
      go_wp2_with fail
      go_loop [5, 14] (fun v i => ∃ k : Nat, k ≤ xs.length ∧ i = .int .i64 k ∧ v = .int .i64 (unionI (xs.take k)) ∧ Hid (apartTo xs k)) (fun _ i => xs.length - (intOf i).toNat)
      case atStart => exact ⟨0, Nat.zero_le _, rfl, rfl, apart_zero xs⟩
      case round =>
        obtain ⟨k, hk, rfl, rfl, hap⟩ := hrel
        by_cases hlt : k < xs.length
        · obtain ⟨b, off, x, rfl, hcell, hx, _⟩ := HA.out.hA.elem hlt
          obtain ⟨hu0, hu1, hx0, hx1, hu2⟩ := HS.out k x hx
          by_cases hz : andI (unionI (xs.take k)) x = 0
          · have hb := and_zero hu0 hu1 hx0 hx1 true (decide_eq_true hz)
            have HN := Lib.hid (apart_next hap.out hx hz)
            have HU : Hid (unionI (xs.take (k + 1)) = bits .or .i64 (unionI (xs.take k)) x) := by unfold Hid; rw [hu2, bits_or _ _ hu0 (by omega) hx0 (by omega)]
            clear hu2 hz
            go_wp2_with fail
            go_round
            case rel => exact ⟨k + 1, by omega, by go_num, by rw [HU.out], HN⟩
            case measure => simp [intOf]; omega
          · have hb := and_zero hu0 hu1 hx0 hx1 false (decide_eq_false hz)
            have HR := Lib.hid (HMISS.out k x hx hap.out hz)
            clear hu2 hz
            go_wp2_with fail
            go_ret
            exact ⟨ret_bool HR.out.symm, _, rfl⟩
        · obtain rfl : k = xs.length := by omega
          have HR := Lib.hid (HEND.out hap.out)
          have HT : Hid (xs.take xs.length = xs) := List.take_length
          rw [HT.out]
          go_wp2_with fail
          refine (iWorldsOf _ _).mono ?_
          rintro e w' ⟨rfl, rfl⟩
          simp only [worldsOf]
          go_wp2_with fail
          go_ret
          refine ⟨ret_bool ?_, _, rfl⟩
          rw [HR.out]
          rw [Bool.eq_iff_iff]; simp
theorem iIsPart_is {t : Int} {xs : List Int} {b : Bool} (h : Hid (isPartB t xs = b)) {A : Option Addr} {n c : Nat} {w : World} (ha : Row w A n c xs) :
    Calls Try.prog 14 #[.int .i64 t, .slice A n c] w fun e w' => e = .returned (.bool b) ∧ ∃ m, w' = w.drewN m :=
  (iIsPart t A n c xs w ha).mono fun _ _ ⟨he, hw⟩ => ⟨he.trans (ret_bool h.out), hw⟩

def stateB (t : Int) (xs : List Int) : Bool := xs.all (setOkB t) && decide (1 ≤ t ∧ t ≤ 3) && decide (xs.length ≤ 70)
theorem asks_state (t : Int) (xs : List Int) : asksL t xs = if stateB t xs = true then tidyL (partsX t xs) else [] := rfl
theorem state_empty (t : Int) : stateB t [] = decide (0 < worldsOf t) := by
  unfold stateB
  by_cases h : 1 ≤ t ∧ t ≤ 3
  · have : t = 1 ∨ t = 2 ∨ t = 3 := by omega
    rcases this with rfl | rfl | rfl <;> rfl
  · rw [decide_eq_false h, worldsOf_bad (by omega)]; rfl
theorem state_parts {t : Int} {xs : List Int} (h : 0 < xs.length) : stateB t xs = partsOkB t xs := by
  unfold stateB partsOkB
  cases xs with
  | nil => simp at h
  | cons x r =>
    cases hx : setOkB t x
    · simp [hx]
    · have := setOkB_lt hx
      rw [Bool.eq_iff_iff]
      simp only [Bool.and_eq_true, decide_eq_true_eq, List.length_cons]
      constructor
      · rintro ⟨⟨h1, _⟩, h3⟩; simp_all
      · intro h2; simp_all
theorem state_of {t : Int} {xs : List Int} (h : stateB t xs = true) : 1 ≤ t ∧ t ≤ 3 ∧ (∀ x ∈ xs, setOkB t x = true) ∧ xs.length ≤ 70 := by
  unfold stateB at h
  simp only [Bool.and_eq_true, decide_eq_true_eq, List.all_eq_true] at h
  exact ⟨h.1.2.1, h.1.2.2, h.1.1, h.2⟩
set_option maxHeartbeats 1000000 in
theorem iStatementsOk (t : Int) (A : Option Addr) (n c : Nat) (xs : List Int) (w : World) (ha : Row w A n c xs) :
    Calls Try.prog 55 #[.int .i64 t, .slice A n c] w fun e w' => e = .returned (.bool (stateB t xs)) ∧ w = w' := by
  have HA := Lib.hid ha
  obtain rfl := ha.hn
  have hl := ha.hl
  by_cases h0 : xs.length = 0
  · have hx : xs = [] := List.eq_nil_of_length_eq_zero h0
    subst hx
    rw [state_empty]
    clear ha h0 hl
    obtain ⟨v, HV⟩ : ∃ v, Hid (worldsOf t = v) := ⟨_, rfl⟩
    rw [HV.out]
    have hw := iWorldsOf t w
    rw [HV.out] at hw
    have HW := Lib.hid hw
    clear hw
    go_enter Try.func55, Try.ntmps55
    go_wp2_with fail
    refine HW.out.mono ?_
    rintro e w' ⟨rfl, rfl⟩
    go_wp2_with fail
    go_ret
    exact ⟨by first | rfl | (congr 2), rfl⟩
  · rw [state_parts (by omega)]
    have hd : ((xs.length : Int) == 0) = false := by simpa using h0
    clear ha h0
    go_enter Try.func55, Try.ntmps55
    go_wp2_with fail
    refine (iPartsOk _ _ _ _ _ _ rfl hl HA.out.hA).mono ?_
    rintro e w' ⟨rfl, rfl⟩
    go_wp2_with fail
    go_ret
    exact ⟨rfl, rfl⟩
theorem iStatementsOk_is {t : Int} {xs : List Int} {b : Bool} (h : Hid (stateB t xs = b)) {A : Option Addr} {n c : Nat} {w : World} (ha : Row w A n c xs) :
    Calls Try.prog 55 #[.int .i64 t, .slice A n c] w fun e w' => e = .returned (.bool b) ∧ w = w' :=
  (iStatementsOk t A n c xs w ha).mono fun _ _ ⟨he, hw⟩ => ⟨he.trans (ret_bool h.out), hw⟩

theorem part_zero (t : Int) (h1 : 1 ≤ t) (h3 : t ≤ 3) (w : Nat) : partOf t [] w = allOf t := by
  refine has_ext (Int.natCast_nonneg _) (allOf_lt t).1 fun v => ?_
  rw [part_has]
  by_cases hv : v < nWorlds t
  · rw [decide_eq_true hv, has_all h1 h3 hv]; rfl
  · rw [decide_eq_false hv]
    cases e : hasW (allOf t) v
    · rfl
    · exact absurd (has_lt h1 h3 (allOf_lt t).1 (Int.le_refl _) e) hv
theorem same_next {xs : List Int} {k : Nat} {x : Int} (hx : Hid (xs[k]? = some x)) (v w : Nat) : sameIn (xs.take (k + 1)) v w = (sameIn (xs.take k) v w && (hasW x v == hasW x w)) := by
  unfold sameIn; rw [take_snoc hx, List.all_append]; simp
theorem part_yes {t : Int} {xs : List Int} {k w : Nat} {x : Int} (h1 : 1 ≤ t) (h3 : t ≤ 3) (hx : Hid (xs[k]? = some x)) (hs : setOkB t x = true) (hw : hasW x w = true) : bits .and .i64 (partOf t (xs.take k) w) x = partOf t (xs.take (k + 1)) w := by
  have hp := setOkB_lt (part_ok (sets := xs.take k) h1 h3 w)
  have hx2 := setOkB_lt hs
  rw [bits_and _ _ hp.2.2.1 (by omega) hx2.2.2.1 (by omega)]
  refine has_ext (andI_nonneg _ _) (Int.natCast_nonneg _) fun v => ?_
  rw [has_and, part_has, part_has, same_next hx, hw, Bool.and_assoc]
  congr 2
  cases hasW x v <;> rfl
theorem part_not {t : Int} {xs : List Int} {k w : Nat} {x : Int} (h1 : 1 ≤ t) (h3 : t ≤ 3) (hx : Hid (xs[k]? = some x)) (hs : setOkB t x = true) (hw : hasW x w = false) : bits .andNot .i64 (partOf t (xs.take k) w) x = partOf t (xs.take (k + 1)) w := by
  have hp := setOkB_lt (part_ok (sets := xs.take k) h1 h3 w)
  have hx2 := setOkB_lt hs
  obtain ⟨h0, hb⟩ := bits_less hp.2.2.1 (by omega) hx2.2.2.1 (by omega)
  refine has_ext h0 (Int.natCast_nonneg _) fun v => ?_
  rw [hb, part_has, part_has, same_next hx, hw, Bool.and_assoc]
  congr 2
  cases hasW x v <;> rfl

set_option maxRecDepth 100000 in
set_option maxHeartbeats 4000000 in
theorem iNotTold (t : Int) (A : Option Addr) (n c : Nat) (xs : List Int) (v : Nat) (w : World) (h1 : 1 ≤ t) (h3 : t ≤ 3) (hv : v < nWorlds t) (hs : ∀ x ∈ xs, setOkB t x = true) (ha : Row w A n c xs) :
    Calls Try.prog 58 #[.int .i64 t, .slice A n c, .int .i64 v] w fun e w' => e = .returned (.int .i64 (partOf t xs v)) ∧ w = w' := by
  have HA := Lib.hid ha
  obtain rfl := ha.hn
  have hl := ha.hl
  have HZ := Lib.hid (part_zero t h1 h3 v)
  have HY : Hid (∀ (k : Nat) (x : Int), Hid (xs[k]? = some x) → hasW x v = true → bits .and .i64 (partOf t (xs.take k) v) x = partOf t (xs.take (k + 1)) v) := fun k x hx hw => part_yes h1 h3 hx (hs x (elem_mem hx)) hw
  have HN : Hid (∀ (k : Nat) (x : Int), Hid (xs[k]? = some x) → hasW x v = false → bits .andNot .i64 (partOf t (xs.take k) v) x = partOf t (xs.take (k + 1)) v) := fun k x hx hw => part_not h1 h3 hx (hs x (elem_mem hx)) hw
  have HX : Hid (∀ (k : Nat) (x : Int), Hid (xs[k]? = some x) → 0 ≤ x ∧ x < 256 ∧ withinB (worldS v) x = hasW x v) := fun k x hx => by
    have := setOkB_lt (hs x (elem_mem hx))
    exact ⟨this.2.2.1, this.2.2.2.2, by rw [Bool.eq_iff_iff]; exact world_within v⟩
  have HE : Hid (partOf t (xs.take xs.length) v = partOf t xs v) := by unfold Hid; rw [List.take_length]
  have hv8 : v < 8 := by
    have : t = 1 ∨ t = 2 ∨ t = 3 := by omega
    rcases this with rfl | rfl | rfl
    · exact Nat.lt_trans hv (by decide)
    · exact Nat.lt_trans hv (by decide)
    · exact hv
  have hwp := wrap_pow6p hv8
  have hw8 : 2 ^ v < 256 := Nat.lt_of_le_of_lt (Nat.pow_le_pow_right (by omega) (show v ≤ 7 by omega)) (by decide)
  clear ha hs hv
  have ht : t = 1 ∨ t = 2 ∨ t = 3 := by omega
  clear h1 h3
  rcases ht with rfl | rfl | rfl
  · have HALL : Hid (allOf 1 = 3) := rfl
    rw [HALL.out] at HZ
    go_enter Try.func58, Try.ntmps58
    go_wp2_with fail
    refine (iWorldsOf _ _).mono ?_
    rintro e w' ⟨rfl, rfl⟩
    simp only [worldsOf]
    go_wp2_with fail
    go_loop [7, 16] (fun s i => ∃ k : Nat, k ≤ xs.length ∧ i = .int .i64 k ∧ s = .int .i64 (partOf 1 (xs.take k) v)) (fun _ i => xs.length - (intOf i).toNat)
    case atStart => exact ⟨0, Nat.zero_le _, rfl, by rw [List.take_zero, HZ.out]⟩
    case round =>
      obtain ⟨k, hk, rfl, rfl⟩ := hrel
      by_cases hlt : k < xs.length
      · obtain ⟨b, off, x, rfl, hcell, hx, _⟩ := HA.out.hA.elem hlt
        obtain ⟨hx0, hx1, hxw⟩ := HX.out k x hx
        rcases hy : hasW x v with _ | _
        · rw [hy] at hxw
          have HW := Lib.hid hxw
          have HU := Lib.hid (HN.out k x hx hy)
          clear hxw hy
          go_wp2_with fail
          refine (iWithin_is6 HW (Int.natCast_nonneg _) (by unfold worldS; omega) hx0 hx1 _).mono ?_
          rintro e w' ⟨rfl, rfl⟩
          go_wp2_with fail
          go_round
          case rel => exact ⟨k + 1, by omega, by go_num, by rw [← HU.out]⟩
          case measure => simp [intOf]; omega
        · rw [hy] at hxw
          have HW := Lib.hid hxw
          have HU := Lib.hid (HY.out k x hx hy)
          clear hxw hy
          go_wp2_with fail
          refine (iWithin_is6 HW (Int.natCast_nonneg _) (by unfold worldS; omega) hx0 hx1 _).mono ?_
          rintro e w' ⟨rfl, rfl⟩
          go_wp2_with fail
          go_round
          case rel => exact ⟨k + 1, by omega, by go_num, by rw [← HU.out]⟩
          case measure => simp [intOf]; omega
      · obtain rfl : k = xs.length := by omega
        rw [HE.out]
        go_wp2_with fail
        go_ret
        exact ⟨rfl, rfl⟩
  · have HALL : Hid (allOf 2 = 15) := rfl
    rw [HALL.out] at HZ
    go_enter Try.func58, Try.ntmps58
    go_wp2_with fail
    refine (iWorldsOf _ _).mono ?_
    rintro e w' ⟨rfl, rfl⟩
    simp only [worldsOf]
    go_wp2_with fail
    go_loop [7, 16] (fun s i => ∃ k : Nat, k ≤ xs.length ∧ i = .int .i64 k ∧ s = .int .i64 (partOf 2 (xs.take k) v)) (fun _ i => xs.length - (intOf i).toNat)
    case atStart => exact ⟨0, Nat.zero_le _, rfl, by rw [List.take_zero, HZ.out]⟩
    case round =>
      obtain ⟨k, hk, rfl, rfl⟩ := hrel
      by_cases hlt : k < xs.length
      · obtain ⟨b, off, x, rfl, hcell, hx, _⟩ := HA.out.hA.elem hlt
        obtain ⟨hx0, hx1, hxw⟩ := HX.out k x hx
        rcases hy : hasW x v with _ | _
        · rw [hy] at hxw
          have HW := Lib.hid hxw
          have HU := Lib.hid (HN.out k x hx hy)
          clear hxw hy
          go_wp2_with fail
          refine (iWithin_is6 HW (Int.natCast_nonneg _) (by unfold worldS; omega) hx0 hx1 _).mono ?_
          rintro e w' ⟨rfl, rfl⟩
          go_wp2_with fail
          go_round
          case rel => exact ⟨k + 1, by omega, by go_num, by rw [← HU.out]⟩
          case measure => simp [intOf]; omega
        · rw [hy] at hxw
          have HW := Lib.hid hxw
          have HU := Lib.hid (HY.out k x hx hy)
          clear hxw hy
          go_wp2_with fail
          refine (iWithin_is6 HW (Int.natCast_nonneg _) (by unfold worldS; omega) hx0 hx1 _).mono ?_
          rintro e w' ⟨rfl, rfl⟩
          go_wp2_with fail
          go_round
          case rel => exact ⟨k + 1, by omega, by go_num, by rw [← HU.out]⟩
          case measure => simp [intOf]; omega
      · obtain rfl : k = xs.length := by omega
        rw [HE.out]
        go_wp2_with fail
        go_ret
        exact ⟨rfl, rfl⟩
  · have HALL : Hid (allOf 3 = 255) := rfl
    rw [HALL.out] at HZ
    go_enter Try.func58, Try.ntmps58
    go_wp2_with fail
    refine (iWorldsOf _ _).mono ?_
    rintro e w' ⟨rfl, rfl⟩
    simp only [worldsOf]
    go_wp2_with fail
    go_loop [7, 16] (fun s i => ∃ k : Nat, k ≤ xs.length ∧ i = .int .i64 k ∧ s = .int .i64 (partOf 3 (xs.take k) v)) (fun _ i => xs.length - (intOf i).toNat)
    case atStart => exact ⟨0, Nat.zero_le _, rfl, by rw [List.take_zero, HZ.out]⟩
    case round =>
      obtain ⟨k, hk, rfl, rfl⟩ := hrel
      by_cases hlt : k < xs.length
      · obtain ⟨b, off, x, rfl, hcell, hx, _⟩ := HA.out.hA.elem hlt
        obtain ⟨hx0, hx1, hxw⟩ := HX.out k x hx
        rcases hy : hasW x v with _ | _
        · rw [hy] at hxw
          have HW := Lib.hid hxw
          have HU := Lib.hid (HN.out k x hx hy)
          clear hxw hy
          go_wp2_with fail
          refine (iWithin_is6 HW (Int.natCast_nonneg _) (by unfold worldS; omega) hx0 hx1 _).mono ?_
          rintro e w' ⟨rfl, rfl⟩
          go_wp2_with fail
          go_round
          case rel => exact ⟨k + 1, by omega, by go_num, by rw [← HU.out]⟩
          case measure => simp [intOf]; omega
        · rw [hy] at hxw
          have HW := Lib.hid hxw
          have HU := Lib.hid (HY.out k x hx hy)
          clear hxw hy
          go_wp2_with fail
          refine (iWithin_is6 HW (Int.natCast_nonneg _) (by unfold worldS; omega) hx0 hx1 _).mono ?_
          rintro e w' ⟨rfl, rfl⟩
          go_wp2_with fail
          go_round
          case rel => exact ⟨k + 1, by omega, by go_num, by rw [← HU.out]⟩
          case measure => simp [intOf]; omega
      · obtain rfl : k = xs.length := by omega
        rw [HE.out]
        go_wp2_with fail
        go_ret
        exact ⟨rfl, rfl⟩

/-- How far the program's joining has come. -/
def JoinTo (sets : List Int) (x0 y z : Int) : Prop := (y = 0 ∧ z = x0) ∨ ∃ n, y = joinN sets n x0 ∧ z = joinStep sets y
theorem JoinTo.start (sets : List Int) (x0 : Int) : JoinTo sets x0 0 x0 := .inl ⟨rfl, rfl⟩
theorem JoinTo.at_ {sets : List Int} {x0 y z : Int} (h : JoinTo sets x0 y z) : ∃ n, z = joinN sets n x0 := by
  rcases h with ⟨_, rfl⟩ | ⟨n, rfl, rfl⟩
  · exact ⟨0, rfl⟩
  · exact ⟨n + 1, (joinN_succ sets n x0).symm⟩
theorem JoinTo.next {sets : List Int} {x0 y z : Int} (h : JoinTo sets x0 y z) : JoinTo sets x0 z (joinStep sets z) := by
  obtain ⟨n, hn⟩ := h.at_
  exact .inr ⟨n, hn, rfl⟩
theorem JoinTo.done {sets : List Int} {x0 z : Int} (h0 : 0 < x0) (hp : ∀ s ∈ sets, 0 ≤ s) (h : JoinTo sets x0 z z) : z = leadI sets x0 := by
  rcases h with ⟨h1, h2⟩ | ⟨n, h1, h2⟩
  · omega
  · exact lead_fix (by omega) hp ⟨n, h1⟩ h2.symm
def passes6 (z y : Int) : Nat := 2 * (256 - z.toNat) + if z = y then 0 else 1
theorem within_le6 {a b : Int} (_ha : 0 ≤ a) (hb : 0 ≤ b) (h : withinB a b = true) : a ≤ b := by
  have := of_decide_eq_true h
  have h2 := andI_le' a b hb
  omega
theorem passes6_less {sets : List Int} {y z : Int} (hz : 0 ≤ z) (hz2 : joinStep sets z < 256) (hne : z ≠ y) : passes6 (joinStep sets z) z < passes6 z y := by
  have hle := within_le6 hz (join_pos sets z hz) (join_ge sets z hz)
  unfold passes6
  rw [if_neg hne]
  split
  · rename_i e; rw [e]; omega
  · omega

set_option maxRecDepth 100000 in
set_option maxHeartbeats 8000000 in
theorem iJoined (A : Option Addr) (n c : Nat) (xs : List Int) (v : Nat) (w : World) (hv8 : v < 8) (hr : ∀ x ∈ xs, setOkB 3 x = true) (ha : Row w A n c xs) :
    Calls Try.prog 72 #[.slice A n c, .int .i64 v] w fun e w' => e = .returned (.int .i64 (leadP xs v)) ∧ w = w' := by
  have HA := Lib.hid ha
  obtain rfl := ha.hn
  have hl := ha.hl
  have hp : ∀ s ∈ xs, 0 ≤ s := fun s h => (setOkB_lt (hr s h)).2.2.1
  have hw8 : 2 ^ v < 256 := Nat.lt_of_le_of_lt (Nat.pow_le_pow_right (by omega) (show v ≤ 7 by omega)) (by decide)
  have hp0 : 0 < 2 ^ v := Nat.two_pow_pos v
  have h0ok : setOkB 3 (worldS v) = true := world_set (by omega) (by omega) hv8
  have HDONE : Hid (∀ z, JoinTo xs (worldS v) z z → z = leadP xs v) := fun z h => h.done (by unfold worldS; omega) hp
  have HOK : Hid (∀ y z, JoinTo xs (worldS v) y z → setOkB 3 z = true) := fun y z h => by
    obtain ⟨m, rfl⟩ := h.at_
    exact joinN_ok hr m _ h0ok
  have HTO : Hid (∀ z k, setOkB 3 z = true → setOkB 3 (joinStep (xs.take k) z) = true) := fun z k h => join_ok _ _ (fun s hs => hr s (List.mem_of_mem_take hs)) h
  have HX : Hid (∀ (k : Nat) (x : Int), Hid (xs[k]? = some x) → 0 ≤ x ∧ x < 256) := fun k x hx => by
    have := setOkB_lt (hr x (elem_mem hx))
    exact ⟨this.2.2.1, this.2.2.2.2⟩
  have HPL : Hid (∀ y z, setOkB 3 z = true → z ≠ y → passes6 (joinStep xs z) z < passes6 z y) := fun y z hz hne => by
    have h1 := setOkB_lt hz
    have h2 := setOkB_lt (join_ok xs z hr hz)
    exact passes6_less h1.2.2.1 h2.2.2.2.2 hne
  obtain ⟨res, HRES⟩ : ∃ b, Hid (leadP xs v = b) := ⟨_, rfl⟩
  rw [HRES.out] at HDONE ⊢
  have hwp := wrap_pow6p hv8
  have HWP := Lib.hid hwp
  clear ha hr hp h0ok
  go_enter Try.func72, Try.ntmps72
  go_wp2_with fail
  go_loop [5, 6] (fun zv yv => ∃ z y : Int, zv = .int .i64 z ∧ yv = .int .i64 y ∧ Hid (JoinTo xs (worldS v) y z)) (fun zv yv => passes6 (intOf zv) (intOf yv))
  case atStart => exact ⟨worldS v, 0, by first | rfl | (rw [HWP.out]; rfl), rfl, JoinTo.start _ _⟩
  case round =>
    obtain ⟨z, y, rfl, rfl, hj⟩ := hrel
    have hz := HOK.out y z hj.out
    clear hwp
    by_cases hzy : z = y
    · subst hzy
      have HR := Lib.hid (HDONE.out z hj.out)
      clear hz
      go_wp2_with fail
      go_ret
      exact ⟨ret_int HR.out, rfl⟩
    · have hd : (z != y) = true := by simpa using hzy
      have HN := Lib.hid hj.out.next
      have HM := Lib.hid (HPL.out y z hz hzy)
      have HZ := Lib.hid hz
      clear hzy hz
      go_wp2_with fail
      clear hd
      go_loop [5, 17] (fun xv i => ∃ k : Nat, k ≤ xs.length ∧ i = .int .i64 k ∧ xv = .int .i64 (joinStep (xs.take k) z)) (fun _ i => xs.length - (intOf i).toNat)
      case atStart => exact ⟨0, Nat.zero_le _, rfl, rfl⟩
      case round =>
        obtain ⟨k, hk, rfl, rfl⟩ := hrel
        by_cases hlt : k < xs.length
        · obtain ⟨b, off, x, rfl, hcell, hx, _⟩ := HA.out.hA.elem hlt
          obtain ⟨hx0, hx1⟩ := HX.out k x hx
          have hq := setOkB_lt (HTO.out z k HZ.out)
          have hq0 := hq.2.2.1
          have hq1 := hq.2.2.2.2
          have hnx := joinTo_next hx z
          obtain ⟨q, HQ⟩ : ∃ q, Hid (joinStep (xs.take k) z = q) := ⟨_, rfl⟩
          rw [HQ.out] at hq0 hq1 hnx ⊢
          unfold joinF at hnx
          clear hq
          by_cases hm : andI q x = 0
          · have hb := and_zero hx0 hx1 hq0 hq1 true (decide_eq_true (by rw [andI_comm6]; exact hm))
            rw [if_pos hm] at hnx
            have HNX := Lib.hid hnx
            clear hnx hm
            go_wp2_with fail
            go_round
            case rel => exact ⟨k + 1, by omega, by go_num, by rw [HNX.out]⟩
            case measure => simp [intOf]; omega
          · have hb := and_zero hx0 hx1 hq0 hq1 false (decide_eq_false (by rw [andI_comm6]; exact hm))
            rw [if_neg hm, ← bits_or q x hq0 (by omega) hx0 (by omega)] at hnx
            have HNX := Lib.hid hnx
            clear hnx hm
            go_wp2_with fail
            go_round
            case rel => exact ⟨k + 1, by omega, by go_num, by rw [HNX.out]⟩
            case measure => simp [intOf]; omega
        · obtain rfl : k = xs.length := by omega
          have HT : Hid (xs.take xs.length = xs) := List.take_length
          rw [HT.out]
          go_wp2_with fail
          go_round
          case rel => exact ⟨_, z, rfl, rfl, HN⟩
          case measure => simpa [intOf] using HM.out
end Go.Proofs.Ytkjjpleedobkdaa
