/-
  What the proofs of this seat's statements share (MathR, MathS, MathT, MathW).
-/
import Derived.Test.YtmdogidflaplkaaU18
import Derived.Test.YtmdogidflaplkaaU12

namespace Go.Proofs.Ytmdogidflaplkaa
open Go.RowKit

def needI (t : Int) (x : Ld) : Int := (setOfW (needW t x) (nWorlds t) : Int)
def leftI (t : Int) (x : Ld) : Int := (setOfW (fun w => needW t x w && leftW t x w) (nWorlds t) : Int)
theorem has_or8 {a b : Int} {w : Nat} : hasW (orI a b) w = (hasW a w || hasW b w) := by
  unfold hasW orI
  rw [Int.toNat_natCast, Nat.testBit_or]
section
variable {t : Int} (h1 : 1 ≤ t) (h3 : t ≤ 3)
include h1 h3
theorem worlds8 : nWorlds t ≤ 8 := by
  have : t = 1 ∨ t = 2 ∨ t = 3 := by omega
  rcases this with rfl | rfl | rfl <;> decide
theorem has_all8 (w : Nat) : hasW (allOf t) w = decide (w < nWorlds t) := by
  have h := (nW_pos h1 h3).2
  have hp : 1 ≤ 2 ^ nWorlds t := Nat.one_le_two_pow
  unfold hasW
  rw [show (allOf t).toNat = 2 ^ nWorlds t - 1 by omega, Nat.testBit_two_pow_sub_one]
theorem set_range (p : Nat → Bool) : 0 ≤ (setOfW p (nWorlds t) : Int) ∧ (setOfW p (nWorlds t) : Int) ≤ allOf t := by
  have h := (nW_pos h1 h3).2
  have hl := setOfW_lt p (nWorlds t)
  exact ⟨Int.natCast_nonneg _, by omega⟩
omit h1 h3 in
theorem has_set (p : Nat → Bool) (w : Nat) : hasW (setOfW p (nWorlds t) : Int) w = (decide (w < nWorlds t) && p w) := by
  unfold hasW
  rw [Int.toNat_natCast, setOfW_bit]
theorem sub_need (x : Ld) {s : Int} (hs : 0 ≤ s) (hs2 : s ≤ allOf t) : withinB s (needI t x) = true ↔ SubW s (needW t x) := by
  rw [within_has hs]
  refine ⟨fun h w hw => ?_, fun h w hw => ?_⟩
  · have := h w hw
    unfold needI at this
    rw [has_set, Bool.and_eq_true] at this
    exact this.2
  · unfold needI
    rw [has_set, h w hw, decide_eq_true (has_lt h1 h3 hs hs2 hw)]
    rfl
theorem chg_is (x : Ld) {s : Int} (hs : 0 ≤ s) (hs2 : s ≤ allOf t) : chgI t x s = if withinB s (needI t x) = true then some (andI s (leftI t x)) else none := by
  have hal := (allOf_lt t).2
  obtain ⟨g1, g2⟩ := chg_spec t x s hs (by omega)
  by_cases h : withinB s (needI t x) = true
  · have hn := (sub_need h1 h3 x hs hs2).1 h
    rw [if_pos h, g1 hn]
    refine congrArg some (has_ext (andI_nonneg _ _) (andI_nonneg _ _) fun w => ?_)
    rw [has_cut hs (by omega), has_and]
    cases hw : hasW s w
    · rfl
    · unfold leftI
      rw [has_set, decide_eq_true (has_lt h1 h3 hs hs2 hw), hn w hw]
      simp
  · rw [if_neg h, g2 fun hn => h ((sub_need h1 h3 x hs hs2).2 hn)]
/-- Of each set within, it leaves what this has in common with what is left. -/
theorem chg_less (x : Ld) {s m : Int} (hs : 0 ≤ s) (hs2 : s ≤ allOf t) (hn : withinB s (needI t x) = true) : chgI t x (andI s m) = some (andI (andI s m) (andI s (leftI t x))) := by
  have hb1 := andI_nonneg s m
  have hb2 := andI_le s m hs
  have hn2 : withinB (andI s m) (needI t x) = true := by
    rw [within_has hb1]
    intro w hw
    rw [has_and, Bool.and_eq_true] at hw
    exact (within_has hs).1 hn w hw.1
  rw [chg_is h1 h3 x hb1 (by omega), if_pos hn2]
  refine congrArg some (has_ext (andI_nonneg _ _) (andI_nonneg _ _) fun w => ?_)
  simp only [has_and]
  cases hasW s w <;> cases hasW m w <;> simp
omit h1 h3 in
theorem need_no (x : Ld) : needI t (.no x) = needI t x := rfl
theorem left_thing : leftI t (.thing 0) = letterSet t 0 := by
  have hl := letter_ok h1 h3 0
  have hb := setOkB_lt hl
  refine has_ext (set_range h1 h3 _).1 hb.2.2.1 fun w => ?_
  unfold leftI
  rw [has_set]
  cases hw : hasW (letterSet t 0) w
  · simp [leftW, hw]
  · rw [decide_eq_true (has_lt h1 h3 hb.2.2.1 hb.2.2.2.1 hw)]; simp [needW, leftW, hw]
/-- And and if let the first one speak. -/
theorem need_two (x : Ld) : needI t (.and_ (.thing 0) x) = orI (allOf t - leftI t (.thing 0)) (needI t x) ∧ needI t (.if_ (.thing 0) x) = orI (allOf t - leftI t (.thing 0)) (needI t x) ∧ needI t (.and_ x (.thing 0)) = needI t x := by
  have hal := allOf_lt t
  have hr := set_range h1 h3 (needW t x)
  have hb := setOkB_lt (letter_ok h1 h3 0)
  obtain ⟨d1, d2⟩ := has_less (r := letterSet t 0) hal.1 hb.2.2.1 fun w hw => by rw [has_all8 h1 h3, decide_eq_true (has_lt h1 h3 hb.2.2.1 hb.2.2.2.1 hw)]
  have key : ∀ w, (decide (w < nWorlds t) && needW t (.and_ (.thing 0) x) w) = hasW (orI (allOf t - leftI t (.thing 0)) (needI t x)) w := fun w => by
    rw [left_thing h1 h3, has_or8, d2, has_all8 h1 h3]
    unfold needI
    rw [has_set]
    simp only [needW, leftW, Bool.true_and]
    cases decide (w < nWorlds t) <;> cases hasW (letterSet t 0) w <;> rfl
  refine ⟨has_ext (set_range h1 h3 _).1 (orI_nonneg _ _) fun w => ?_, has_ext (set_range h1 h3 _).1 (orI_nonneg _ _) fun w => ?_, has_ext (set_range h1 h3 _).1 hr.1 fun w => ?_⟩
  · rw [← key]; exact has_set _ w
  · rw [← key]; exact has_set _ w
  · rw [show hasW (needI t (.and_ x (.thing 0))) w = _ from has_set _ w, show hasW (needI t x) w = _ from has_set _ w]
    simp [needW]
/-- What is left is needed; a not leaves the rest. -/
theorem left_laws (x : Ld) : withinB (leftI t x) (needI t x) = true ∧ leftI t (.no x) = needI t x - leftI t x := by
  have hl := set_range h1 h3 (fun w => needW t x w && leftW t x w)
  have hn := set_range h1 h3 (needW t x)
  have hsub : ∀ w, hasW (leftI t x) w = true → hasW (needI t x) w = true := fun w hw => by
    unfold leftI at hw
    unfold needI
    rw [has_set] at hw ⊢
    simp only [Bool.and_eq_true] at hw ⊢
    exact ⟨hw.1, hw.2.1⟩
  refine ⟨(within_has hl.1).2 hsub, ?_⟩
  obtain ⟨d1, d2⟩ := has_less (s := needI t x) (r := leftI t x) hn.1 hl.1 hsub
  refine has_ext (set_range h1 h3 _).1 d1 fun w => ?_
  rw [d2, show hasW (leftI t (.no x)) w = _ from has_set _ w, show hasW (needI t x) w = _ from has_set _ w, show hasW (leftI t x) w = _ from has_set _ w]
  simp only [needW, leftW]
  cases decide (w < nWorlds t) <;> cases needW t x w <;> cases leftW t x w <;> rfl
/-- What was told is no longer taken for granted. -/
theorem need_told (x : Ld) (h : needI t x = allOf t) : needI t (.and_ x (.pre x (.thing 0))) = allOf t := by
  refine has_ext (set_range h1 h3 _).1 (allOf_lt t).1 fun w => ?_
  have hw := congrArg (fun s => hasW s w) h
  simp only [show hasW (needI t x) w = _ from has_set _ w, has_all8 h1 h3] at hw
  rw [show hasW (needI t (.and_ x (.pre x (.thing 0)))) w = _ from has_set _ w, has_all8 h1 h3]
  simp only [needW]
  revert hw
  cases decide (w < nWorlds t) <;> cases needW t x w <;> cases leftW t x w <;> simp
end
end Go.Proofs.Ytmdogidflaplkaa

namespace Go.Proofs.Ytmdogidflaplkaa
open Go.RowKit

/-- The sentence of chapter 3 that it is, if it has no square brackets. -/
def senL : Ld → Option Sen
  | .one => some .one
  | .zero => some .zero
  | .thing i => some (.thing i)
  | .no x => (senL x).map .no
  | .pre _ _ => none
  | .and_ x y => (senL x).bind fun a => (senL y).map fun b => .and_ a b
  | .or_ x y => (senL x).bind fun a => (senL y).map fun b => .or_ a b
  | .if_ x y => (senL x).bind fun a => (senL y).map fun b => .if_ a b
theorem two_some {f : Sen → Sen → Sen} {a b : Option Sen} {z : Sen} (h : (a.bind fun x => b.map fun y => f x y) = some z) : ∃ x y, a = some x ∧ b = some y ∧ z = f x y := by
  cases a with
  | none => cases h
  | some x =>
    cases b with
    | none => cases h
    | some y => cases h; exact ⟨x, y, rfl, rfl, rfl⟩
theorem senL_text (t : Int) : ∀ (x : Ld) (y : Sen), senL x = some y → textS y = textD x ∧ senOk t y = ldOk t x ∧ ∀ w, needW t x w = true
  | .one, _, h => by cases h; exact ⟨rfl, rfl, fun _ => rfl⟩
  | .zero, _, h => by cases h; exact ⟨rfl, rfl, fun _ => rfl⟩
  | .thing _, _, h => by cases h; exact ⟨rfl, rfl, fun _ => rfl⟩
  | .no x, y, h => by
    obtain ⟨a, ha, rfl⟩ := Option.map_eq_some_iff.1 h
    obtain ⟨g1, g2, g3⟩ := senL_text t x a ha
    exact ⟨by simp [textS, textD, g1], by simp [senOk, ldOk, g2], fun w => by simp [needW, g3]⟩
  | .pre _ _, _, h => by cases h
  | .and_ x y, z, h => by
    obtain ⟨a, b, ha, hb, rfl⟩ := two_some h
    obtain ⟨g1, g2, g3⟩ := senL_text t x a ha
    obtain ⟨k1, k2, k3⟩ := senL_text t y b hb
    exact ⟨by simp [textS, textD, g1, k1], by simp [senOk, ldOk, g2, k2], fun w => by simp [needW, g3, k3]⟩
  | .or_ x y, z, h => by
    obtain ⟨a, b, ha, hb, rfl⟩ := two_some h
    obtain ⟨g1, g2, g3⟩ := senL_text t x a ha
    obtain ⟨k1, k2, k3⟩ := senL_text t y b hb
    exact ⟨by simp [textS, textD, g1, k1], by simp [senOk, ldOk, g2, k2], fun w => by simp [needW, g3, k3]⟩
  | .if_ x y, z, h => by
    obtain ⟨a, b, ha, hb, rfl⟩ := two_some h
    obtain ⟨g1, g2, g3⟩ := senL_text t x a ha
    obtain ⟨k1, k2, k3⟩ := senL_text t y b hb
    exact ⟨by simp [textS, textD, g1, k1], by simp [senOk, ldOk, g2, k2], fun w => by simp [needW, g3, k3]⟩
/-- With square brackets, a text has one. -/
theorem senL_none : ∀ x : Ld, senL x = none → 91 ∈ textD x
  | .one, h => by cases h
  | .zero, h => by cases h
  | .thing _, h => by cases h
  | .no x, h => by
    have : senL x = none := by cases e : senL x with
      | none => rfl
      | some a => simp [senL, e] at h
    simp [textD, senL_none x this]
  | .pre _ _, _ => by simp [textD]
  | .and_ x y, h => by
    cases e : senL x with
    | none => simp [textD, senL_none x e]
    | some a =>
      cases e2 : senL y with
      | none => simp [textD, senL_none y e2]
      | some b => simp [senL, e, e2] at h
  | .or_ x y, h => by
    cases e : senL x with
    | none => simp [textD, senL_none x e]
    | some a =>
      cases e2 : senL y with
      | none => simp [textD, senL_none y e2]
      | some b => simp [senL, e, e2] at h
  | .if_ x y, h => by
    cases e : senL x with
    | none => simp [textD, senL_none x e]
    | some a =>
      cases e2 : senL y with
      | none => simp [textD, senL_none y e2]
      | some b => simp [senL, e, e2] at h
theorem textS_no (t : Int) (h3 : t ≤ 3) : ∀ y : Sen, senOk t y = true → 91 ∉ textS y
  | .one, _ => by simp [textS]
  | .zero, _ => by simp [textS]
  | .thing i, h => by simp [textS]; omega
  | .no x, h => by simp [textS]; exact textS_no t h3 x h
  | .ask x, h => by simp [textS]; exact textS_no t h3 x h
  | .and_ x y, h => by
    simp only [senOk, Bool.and_eq_true] at h
    simp [textS, textS_no t h3 x h.1, textS_no t h3 y h.2]
  | .or_ x y, h => by
    simp only [senOk, Bool.and_eq_true] at h
    simp [textS, textS_no t h3 x h.1, textS_no t h3 y h.2]
  | .if_ x y, h => by
    simp only [senOk, Bool.and_eq_true] at h
    simp [textS, textS_no t h3 x h.1, textS_no t h3 y h.2]
/-- A text that is both is the same sentence. -/
theorem both_read {t : Int} {l : List Nat} {x : Ld} {y : Sen} (hx : ldOf t l = some x) (hy : senOf t l = some y) : senL x = some y := by
  obtain ⟨h1, h3, hl, ho, rfl⟩ := ldOf_iff.1 hx
  obtain ⟨_, _, _, hs, e⟩ := senOf_iff.1 hy
  cases hn : senL x with
  | none =>
    have := senL_none x hn
    rw [e] at this
    exact absurd this (textS_no t h3 y hs)
  | some z =>
    obtain ⟨g1, g2, _⟩ := senL_text t x z hn
    have h4 : senOf t (textD x) = some z := senOf_iff.2 ⟨h1, h3, hl, by rw [g2]; exact ho, g1.symm⟩
    rw [h4] at hy
    exact hy
theorem world_bit (w v : Nat) : hasW (worldS w) v = decide (v = w) := by
  unfold hasW worldS
  rw [Int.toNat_natCast, Nat.testBit_two_pow]
  by_cases h : w = v
  · subst h; simp
  · rw [decide_eq_false h, decide_eq_false (fun e => h e.symm)]
theorem holds_none {t : Int} (h1 : 1 ≤ t) (h3 : t ≤ 3) (y : Sen) : holdsS t y 0 = true := by
  rw [support_settle h1 h3 y 0 (Int.le_refl 0) (allOf_lt t).1]
  have hne := (issue_ne (sen_issue h1 h3 y)).1
  cases hi : issueS t y with
  | nil => rw [hi] at hne; simp at hne
  | cons a r => exact any_iff.2 ⟨a, List.mem_cons_self, within_zero a⟩
/-- Within one world: that world, or none. -/
theorem in_world {w u : Nat} (h : withinB (u : Int) (worldS w) = true) : u = 0 ∨ (u : Int) = worldS w := by
  rw [within_has (Int.natCast_nonneg u)] at h
  cases hb : hasW (u : Int) w
  · left
    have : (u : Int) = 0 := has_ext (Int.natCast_nonneg u) (Int.le_refl 0) fun v => by
      cases hv : hasW (u : Int) v
      · simp [hasW]
      · have := h v hv
        rw [world_bit, decide_eq_true_eq] at this
        subst this
        rw [hb] at hv; cases hv
    omega
  · right
    refine has_ext (Int.natCast_nonneg u) (worldS_nonneg w) fun v => ?_
    cases hv : hasW (u : Int) v
    · rw [world_bit]
      symm
      apply decide_eq_false
      rintro rfl
      rw [hb] at hv; cases hv
    · exact (h v hv).symm
theorem left_holds {t : Int} (h1 : 1 ≤ t) (h3 : t ≤ 3) {w : Nat} (hw : w < nWorlds t) : ∀ (x : Ld) (y : Sen), senL x = some y → leftW t x w = holdsS t y (worldS w)
  | .one, _, h => by cases h; rfl
  | .zero, _, h => by
    cases h
    show false = decide (worldS w = 0)
    symm
    apply decide_eq_false
    intro e
    have := world_bit w w
    rw [e] at this
    simp [hasW] at this
  | .thing i, _, h => by
    cases h
    show hasW (letterSet t i) w = withinB (worldS w) (letterSet t i)
    rw [Bool.eq_iff_iff]
    exact (world_within w).symm
  | .no x, z, h => by
    obtain ⟨a, ha, rfl⟩ := Option.map_eq_some_iff.1 h
    have ih := left_holds h1 h3 hw x a ha
    show (!leftW t x w) = (List.range (nWorlds t)).all fun v => !hasW (worldS w) v || !holdsS t a (worldS v)
    rw [ih, Bool.eq_iff_iff, List.all_eq_true]
    constructor
    · intro h v _
      rw [world_bit]
      by_cases e : v = w
      · subst e; rw [h]; simp
      · simp [e]
    · intro h
      have := h w (List.mem_range.2 hw)
      rw [world_bit] at this
      simpa using this
  | .pre _ _, _, h => by cases h
  | .and_ x y, z, h => by
    obtain ⟨a, b, ha, hb, rfl⟩ := two_some h
    show (leftW t x w && leftW t y w) = (holdsS t a (worldS w) && holdsS t b (worldS w))
    rw [left_holds h1 h3 hw x a ha, left_holds h1 h3 hw y b hb]
  | .or_ x y, z, h => by
    obtain ⟨a, b, ha, hb, rfl⟩ := two_some h
    show (leftW t x w || leftW t y w) = (holdsS t a (worldS w) || holdsS t b (worldS w))
    rw [left_holds h1 h3 hw x a ha, left_holds h1 h3 hw y b hb]
  | .if_ x y, z, h => by
    obtain ⟨a, b, ha, hb, rfl⟩ := two_some h
    show (!leftW t x w || leftW t y w) = (List.range ((worldS w).toNat + 1)).all fun u : Nat => !withinB (u : Int) (worldS w) || !holdsS t a (u : Int) || holdsS t b (u : Int)
    rw [left_holds h1 h3 hw x a ha, left_holds h1 h3 hw y b hb, Bool.eq_iff_iff, List.all_eq_true]
    constructor
    · intro h u _
      cases hu : withinB (u : Int) (worldS w)
      · rfl
      · rcases in_world hu with rfl | e
        · rw [show ((0 : Nat) : Int) = 0 from rfl, holds_none h1 h3 b]; simp
        · rw [e]; simpa using h
    · intro h
      have hp := worldS_nonneg w
      have := h (worldS w).toNat (List.mem_range.2 (by omega))
      rw [Int.toNat_of_nonneg hp, within_refl _ hp] at this
      simpa using this
theorem trueTo_set (t : Int) (y : Sen) : ∀ k, trueTo t y k = setOfW (fun w => holdsS t y (worldS w)) k
  | 0 => rfl
  | k + 1 => by
    unfold trueTo setOfW
    rw [trueTo_set t y k]
/-- For a sentence without square brackets what is left is where it is true, and nothing is needed. -/
theorem left_true {t : Int} {x : Ld} {y : Sen} (h1 : 1 ≤ t) (h3 : t ≤ 3) (h : senL x = some y) : leftI t x = (trueTo t y (nWorlds t) : Int) ∧ needI t x = allOf t := by
  obtain ⟨_, _, hn⟩ := senL_text t x y h
  constructor
  · rw [trueTo_set]
    refine has_ext (set_range h1 h3 _).1 (set_range h1 h3 _).1 fun w => ?_
    rw [has_set, show hasW (leftI t x) w = _ from has_set _ w, hn w]
    by_cases hw : w < nWorlds t
    · rw [left_holds h1 h3 hw x y h]; simp
    · simp [hw]
  · refine has_ext (set_range h1 h3 _).1 (allOf_lt t).1 fun w => ?_
    rw [show hasW (needI t x) w = _ from has_set _ w, hn w, has_all8 h1 h3]; simp
end Go.Proofs.Ytmdogidflaplkaa

namespace Go.Proofs.Ytmdogidflaplkaa
open Go.RowKit

def valV (t : Int) (x : Ld) (v : Int) : Int := if v < 0 then -1 else (chgI t x v).getD (-1)
theorem chg_range {t : Int} {x : Ld} {s u : Int} (hs : 0 ≤ s) (h8 : s < 256) (h : chgI t x s = some u) : 0 ≤ u ∧ u ≤ s := by
  obtain ⟨g1, g2⟩ := chg_spec t x s hs h8
  by_cases hn : SubW s (needW t x)
  · rw [g1 hn] at h
    cases h
    exact ⟨andI_nonneg _ _, andI_le _ _ hs⟩
  · rw [g2 hn] at h; cases h
theorem val_range (t : Int) (x : Ld) {v : Int} (h8 : v < 256) : -1 ≤ valV t x v ∧ valV t x v ≤ max v (-1) := by
  unfold valV
  split
  · omega
  · cases h : chgI t x v with
    | none => simp; omega
    | some u => have := chg_range (by omega) h8 h; simp; omega
theorem val_some {t : Int} {x : Ld} {v u : Int} (hv : 0 ≤ v) (h : chgI t x v = some u) : valV t x v = u := by unfold valV; rw [if_neg (by omega), h]; rfl
theorem val_none {t : Int} {x : Ld} {v : Int} (h : chgI t x v = none) : valV t x v = -1 := by unfold valV; rw [h]; split <;> rfl
theorem val_bad {t : Int} {x : Ld} {v : Int} (h : v < 0) : valV t x v = -1 := by unfold valV; rw [if_pos h]
theorem val_one {t v : Int} (h : -1 ≤ v) : valV t .one v = v := by
  unfold valV chgI; split
  · omega
  · rfl
theorem val_zero {t v : Int} (h : -1 ≤ v) : valV t .zero v = min v 0 := by
  unfold valV chgI; split
  · omega
  · simp; omega
theorem val_thing {t v : Int} {i : Nat} : valV t (.thing i) v = if v < 0 then -1 else andI v (letterSet t i) := rfl
theorem val_no {t v : Int} {x : Ld} (h8 : v < 256) : valV t (.no x) v = if valV t x v < 0 then -1 else v - valV t x v := by
  by_cases hv : v < 0
  · rw [val_bad hv, val_bad hv]; rfl
  · cases h : chgI t x v with
    | none => rw [val_none h, val_none (show chgI t (.no x) v = none by show (chgI t x v).map _ = _; rw [h]; rfl)]; rfl
    | some u =>
      have := chg_range (by omega) h8 h
      rw [val_some (by omega) h, if_neg (by omega)]
      exact val_some (by omega) (by show (chgI t x v).map _ = _; rw [h]; rfl)
theorem val_pre {t v : Int} {x y : Ld} (_hv1 : -1 ≤ v) : valV t (.pre x y) v = if valV t x v = v then valV t y v else -1 := by
  by_cases hv : v < 0
  · rw [val_bad hv, val_bad hv, val_bad hv]; split <;> rfl
  · cases h : chgI t x v with
    | none =>
      rw [val_none h, if_neg (by omega)]
      exact val_none (by show (chgI t x v).bind _ = _; rw [h]; rfl)
    | some u =>
      rw [val_some (by omega) h]
      have e : chgI t (.pre x y) v = if u = v then chgI t y v else none := by show (chgI t x v).bind _ = _; rw [h]; rfl
      by_cases hu : u = v
      · rw [if_pos hu] at e ⊢
        unfold valV
        rw [e]
      · rw [if_neg hu] at e ⊢
        exact val_none e
theorem val_and {t v : Int} {x y : Ld} (h8 : v < 256) : valV t (.and_ x y) v = valV t y (valV t x v) := by
  by_cases hv : v < 0
  · rw [val_bad hv, val_bad hv, val_bad (by omega)]
  · cases h : chgI t x v with
    | none =>
      rw [val_none h, val_bad (v := -1) (by omega)]
      exact val_none (x := .and_ x y) (by show (chgI t x v).bind _ = _; rw [h]; rfl)
    | some u =>
      have := chg_range (by omega) h8 h
      rw [val_some (by omega) h]
      have e : chgI t (.and_ x y) v = chgI t y u := by show (chgI t x v).bind _ = _; rw [h]; rfl
      unfold valV
      rw [e, if_neg hv, if_neg (by omega)]
theorem val_or {t v : Int} {x y : Ld} (h8 : v < 256) : valV t (.or_ x y) v = if valV t x v < 0 ∨ valV t y (v - valV t x v) < 0 then -1 else valV t x v + valV t y (v - valV t x v) := by
  by_cases hv : v < 0
  · rw [val_bad hv, val_bad hv, if_pos (.inl (by omega))]
  · cases h : chgI t x v with
    | none =>
      rw [val_none h, if_pos (.inl (by omega))]
      exact val_none (by show (chgI t x v).bind _ = _; rw [h]; rfl)
    | some u =>
      have hu := chg_range (by omega) h8 h
      rw [val_some (by omega) h]
      cases h2 : chgI t y (v - u) with
      | none =>
        rw [val_none h2, if_pos (.inr (by omega))]
        exact val_none (by show (chgI t x v).bind _ = _; rw [h]; show (chgI t y (v - u)).map _ = _; rw [h2]; rfl)
      | some z =>
        have hz := chg_range (by omega) (by omega) h2
        rw [val_some (by omega) h2, if_neg (by omega)]
        exact val_some (by omega) (by show (chgI t x v).bind _ = _; rw [h]; show (chgI t y (v - u)).map _ = _; rw [h2]; rfl)
theorem val_if {t v : Int} {x y : Ld} (h8 : v < 256) : valV t (.if_ x y) v = if valV t x v < 0 ∨ valV t y (valV t x v) < 0 then -1 else v - (valV t x v - valV t y (valV t x v)) := by
  by_cases hv : v < 0
  · rw [val_bad hv, val_bad hv, if_pos (.inl (by omega))]
  · cases h : chgI t x v with
    | none =>
      rw [val_none h, if_pos (.inl (by omega))]
      exact val_none (by show (chgI t x v).bind _ = _; rw [h]; rfl)
    | some u =>
      have hu := chg_range (by omega) h8 h
      rw [val_some (by omega) h]
      cases h2 : chgI t y u with
      | none =>
        rw [val_none h2, if_pos (.inr (by omega))]
        exact val_none (by show (chgI t x v).bind _ = _; rw [h]; show (chgI t y u).map _ = _; rw [h2]; rfl)
      | some z =>
        have hz := chg_range (by omega) (by omega) h2
        rw [val_some (by omega) h2, if_neg (by omega)]
        exact val_some (by omega) (by show (chgI t x v).bind _ = _; rw [h]; show (chgI t y u).map _ = _; rw [h2]; rfl)
/-- One world alone. -/
theorem chg_world {t : Int} (h1 : 1 ≤ t) (h3 : t ≤ 3) (x : Ld) {w : Nat} (hw : w < nWorlds t) : chgI t x (worldS w) = if needW t x w = true then some (if leftW t x w = true then worldS w else 0) else none := by
  have hb := world_ok h1 h3 hw
  have hal := (allOf_lt t).2
  obtain ⟨g1, g2⟩ := chg_spec t x (worldS w) hb.1 (by omega)
  have hs : SubW (worldS w) (needW t x) ↔ needW t x w = true := by
    refine ⟨fun h => h w (by rw [world_bit]; simp), fun h v hv => ?_⟩
    rw [world_bit, decide_eq_true_eq] at hv
    subst hv
    exact h
  by_cases hn : needW t x w = true
  · rw [if_pos hn, g1 (hs.2 hn)]
    refine congrArg some (has_ext (andI_nonneg _ _) (by split <;> omega) fun v => ?_)
    rw [has_cut hb.1 (by omega), world_bit]
    by_cases e : v = w
    · subst e
      cases hl : leftW t x v
      · simp [hasW]
      · simp [world_bit]
    · rw [decide_eq_false e]
      cases hl : leftW t x w
      · simp [hasW]
      · simp [world_bit, e]
  · rw [if_neg hn, g2 fun h => hn (hs.1 h)]
/-- The loaded sentence of a text; what the four functions of chapter 8 tell of it. -/
def ldT (t : Int) (s : ByteArray) : Option Ld := ldOf t (bytesN s)
def loadedT (t : Int) (s : ByteArray) : Bool := (ldT t s).isSome
def changedT (t v : Int) (s : ByteArray) : Option Int := match ldT t s with | some x => if setOkB t v = true then chgI t x v else none | none => none
def neededT (t : Int) (s : ByteArray) : Int := match ldT t s with | some x => needI t x | none => -1
def leftT (t : Int) (s : ByteArray) : Int := match ldT t s with | some x => leftI t x | none => -1
def neutralT (t : Int) (s : ByteArray) : Bool := match ldT t s with | some x => decide (needI t x = allOf t) | none => false
end Go.Proofs.Ytmdogidflaplkaa

namespace Go.Proofs.Ytmdogidflaplkaa
open Go.RowKit

structure Dd where
  kind : Int
  text : List UInt8
  deriving DecidableEq
def tellU : List UInt8 := [116, 101, 108, 108, 32]
def askU : List UInt8 := [97, 115, 107, 32]
def backU : List UInt8 := [98, 97, 99, 107]
/-- A byte from the space on up to the tilde. -/
def inkU (c : UInt8) : Bool := decide (32 ≤ c) && decide (c ≤ 126)
def plainU (l : List UInt8) : Bool := !l.isEmpty && l.all inkU
/-- The text of a deed; nothing where there is none. -/
def deedU (d : Dd) : List UInt8 :=
  if d.kind = 0 ∧ plainU d.text = true then tellU ++ d.text
  else if d.kind = 1 ∧ plainU d.text = true then askU ++ d.text
  else if d = ⟨2, []⟩ then backU else []
/-- The deed of a text. -/
def readU (l : List UInt8) : Option Dd :=
  if l = backU then some ⟨2, []⟩
  else if l.take 5 = tellU ∧ plainU (l.drop 5) = true then some ⟨0, l.drop 5⟩
  else if l.take 4 = askU ∧ plainU (l.drop 4) = true then some ⟨1, l.drop 4⟩
  else none
theorem deed_read {d : Dd} (h : deedU d ≠ []) : readU (deedU d) = some d := by
  obtain ⟨k, x⟩ := d
  unfold deedU at h ⊢
  by_cases h0 : k = 0 ∧ plainU x = true
  · rw [if_pos h0]
    unfold readU
    rw [if_neg (by simp [tellU, backU]), if_pos ⟨by simp [tellU], by simpa [tellU] using h0.2⟩]
    simp [tellU, h0.1]
  · rw [if_neg h0] at h ⊢
    by_cases h1 : k = 1 ∧ plainU x = true
    · rw [if_pos h1]
      unfold readU
      rw [if_neg (by simp [askU, backU]), if_neg (by simp [askU, tellU]), if_pos ⟨by simp [askU], by simpa [askU] using h1.2⟩]
      simp [askU, h1.1]
    · rw [if_neg h1] at h ⊢
      by_cases h2 : (⟨k, x⟩ : Dd) = ⟨2, []⟩
      · rw [if_pos h2, h2]
        rfl
      · rw [if_neg h2] at h
        exact absurd rfl h
theorem read_deed {l : List UInt8} {d : Dd} (h : readU l = some d) : deedU d = l ∧ l ≠ [] := by
  unfold readU at h
  split at h
  · rename_i e
    cases h; subst e; exact ⟨rfl, by decide⟩
  split at h
  · rename_i e
    cases h
    have : l = tellU ++ l.drop 5 := by rw [← e.1, List.take_append_drop]
    refine ⟨?_, fun hn => by rw [hn] at e; simp [tellU] at e⟩
    unfold deedU
    rw [if_pos ⟨rfl, e.2⟩]
    exact this.symm
  split at h
  · rename_i e
    cases h
    have : l = askU ++ l.drop 4 := by rw [← e.1, List.take_append_drop]
    refine ⟨?_, fun hn => by rw [hn] at e; simp [askU] at e⟩
    unfold deedU
    rw [if_neg (by simp), if_pos ⟨rfl, e.2⟩]
    exact this.symm
  · cases h
theorem readU_iff {l : List UInt8} {d : Dd} : readU l = some d ↔ deedU d = l ∧ l ≠ [] :=
  ⟨read_deed, fun ⟨h, hn⟩ => by subst h; exact deed_read hn⟩
theorem tell_ink : ∀ c ∈ tellU, inkU c = true := by decide
theorem ask_ink : ∀ c ∈ askU, inkU c = true := by decide
theorem back_ink : ∀ c ∈ backU, inkU c = true := by decide
/-- The bytes of a deed's text are no newlines. -/
theorem deed_ink (d : Dd) : ∀ c ∈ deedU d, inkU c = true := by
  intro c hc
  unfold deedU at hc
  split at hc
  · rename_i h
    rcases List.mem_append.1 hc with hc | hc
    · exact tell_ink c hc
    · have := h.2
      unfold plainU at this
      rw [Bool.and_eq_true] at this
      exact List.all_eq_true.1 this.2 c hc
  split at hc
  · rename_i h
    rcases List.mem_append.1 hc with hc | hc
    · exact ask_ink c hc
    · have := h.2
      unfold plainU at this
      rw [Bool.and_eq_true] at this
      exact List.all_eq_true.1 this.2 c hc
  split at hc
  · exact back_ink c hc
  · cases hc
theorem deed_nonl {d : Dd} : (10 : UInt8) ∉ deedU d := fun h => by have := deed_ink d 10 h; revert this; decide
/-- With a newline behind it a text is refused. -/
theorem read_nl (l : List UInt8) : readU (l ++ [10]) = none := by
  cases h : readU (l ++ [10]) with
  | none => rfl
  | some d => exact absurd (by rw [(read_deed h).1]; simp) (deed_nonl (d := d))
theorem readU_nil : readU [] = none := by
  cases h : readU [] with
  | none => rfl
  | some d => exact absurd rfl (read_deed h).2

/-! Journals. -/
def journalU (ds : List Dd) : List UInt8 := if ds.any (fun d => (deedU d).isEmpty) then [] else ds.flatMap fun d => deedU d ++ [10]
/-- What is read of the first bytes: the deeds, where the line begins that is not at its end yet, and whether a line was refused. -/
def jStep (s : List UInt8) (k : Nat) (p : List Dd × Nat × Bool) : List Dd × Nat × Bool :=
  if p.2.2 = true then p
  else if s[k]? = some 10 then
    match readU ((s.take k).drop p.2.1) with
    | some d => (p.1 ++ [d], k + 1, false)
    | none => (p.1, p.2.1, true)
  else p
def jTo (s : List UInt8) : Nat → List Dd × Nat × Bool
  | 0 => ([], 0, false)
  | k + 1 => jStep s k (jTo s k)
def readJ (s : List UInt8) : List Dd × Nat := ((jTo s s.length).1, (jTo s s.length).2.1)
theorem jStep_stop {s : List UInt8} {k : Nat} {p : List Dd × Nat × Bool} (h : p.2.2 = true) : jStep s k p = p := by unfold jStep; rw [if_pos h]
/-- The bytes behind do not matter. -/
theorem jTo_take (s : List UInt8) : ∀ (k n : Nat), k ≤ n → jTo (s.take n) k = jTo s k
  | 0, _, _ => rfl
  | k + 1, n, h => by
    have ih := jTo_take s k n (by omega)
    show jStep (s.take n) k (jTo (s.take n) k) = jStep s k (jTo s k)
    rw [ih]
    unfold jStep
    rw [List.getElem?_take_of_lt (by omega), List.take_take, Nat.min_eq_left (by omega)]
theorem jStep_from (s : List UInt8) (k : Nat) {p : List Dd × Nat × Bool} (h : p.2.1 ≤ k) : (jStep s k p).2.1 ≤ k + 1 ∧ p.1 <+: (jStep s k p).1 ∧ p.2.1 ≤ (jStep s k p).2.1 := by
  unfold jStep
  split
  · exact ⟨by omega, List.prefix_refl _, Nat.le_refl _⟩
  split
  · split
    · exact ⟨Nat.le_refl _, List.prefix_append _ _, by show p.2.1 ≤ k + 1; omega⟩
    · exact ⟨by show p.2.1 ≤ k + 1; omega, List.prefix_refl _, Nat.le_refl _⟩
  · exact ⟨by omega, List.prefix_refl _, Nat.le_refl _⟩
theorem jTo_from (s : List UInt8) : ∀ k, (jTo s k).2.1 ≤ k
  | 0 => Nat.le_refl _
  | k + 1 => (jStep_from s k (jTo_from s k)).1
/-- More bytes, more deeds; none is taken back. -/
theorem jTo_mono (s : List UInt8) (k : Nat) : ∀ m, (jTo s k).1 <+: (jTo s (k + m)).1 ∧ (jTo s k).2.1 ≤ (jTo s (k + m)).2.1
  | 0 => ⟨List.prefix_refl _, Nat.le_refl _⟩
  | m + 1 => by
    obtain ⟨h1, h2⟩ := jTo_mono s k m
    obtain ⟨_, h3, h4⟩ := jStep_from s (k + m) (jTo_from s (k + m))
    exact ⟨h1.trans h3, Nat.le_trans h2 h4⟩
/-- Of any beginning of the text the first ones of these deeds are read. -/
theorem readJ_cut (s : List UInt8) {k : Nat} (hk : k ≤ s.length) : (readJ (s.take k)).1 <+: (readJ s).1 ∧ (readJ (s.take k)).2 ≤ k := by
  unfold readJ
  rw [List.length_take, Nat.min_eq_left hk, jTo_take s k k (Nat.le_refl _)]
  have h := jTo_mono s k (s.length - k)
  rw [show k + (s.length - k) = s.length by omega] at h
  exact ⟨h.1, jTo_from s k⟩
/-- The lines that were read are the text of their deeds. -/
def linesU (ds : List Dd) : List UInt8 := ds.flatMap fun d => deedU d ++ [10]
theorem lines_snoc (ds : List Dd) (d : Dd) : linesU (ds ++ [d]) = linesU ds ++ (deedU d ++ [10]) := by unfold linesU; simp
theorem journal_lines {ds : List Dd} (h : ∀ d ∈ ds, deedU d ≠ []) : journalU ds = linesU ds := by
  unfold journalU
  rw [if_neg]
  · rfl
  · intro hc
    obtain ⟨d, hd, he⟩ := List.any_eq_true.1 hc
    exact h d hd (List.isEmpty_iff.1 he)
theorem jStep_lines (s : List UInt8) (k : Nat) {p : List Dd × Nat × Bool} (hf : p.2.1 ≤ k) (h1 : linesU p.1 = s.take p.2.1) (h2 : ∀ d ∈ p.1, deedU d ≠ []) :
    linesU (jStep s k p).1 = s.take (jStep s k p).2.1 ∧ ∀ d ∈ (jStep s k p).1, deedU d ≠ [] := by
  unfold jStep
  split
  · exact ⟨h1, h2⟩
  split
  · rename_i hn
    split
    · rename_i d hd
      have e := read_deed hd
      refine ⟨?_, fun x hx => ?_⟩
      · show linesU (p.1 ++ [d]) = s.take (k + 1)
        rw [lines_snoc, h1, e.1, List.take_add_one, hn]
        have : s.take p.2.1 = (s.take k).take p.2.1 := by rw [List.take_take, Nat.min_eq_left hf]
        rw [this, ← List.append_assoc, List.take_append_drop]
        rfl
      · rcases List.mem_append.1 hx with hx | hx
        · exact h2 x hx
        · obtain rfl := List.mem_singleton.1 hx
          rw [e.1]; exact e.2
    · exact ⟨h1, h2⟩
  · exact ⟨h1, h2⟩
theorem jTo_lines (s : List UInt8) : ∀ k, linesU (jTo s k).1 = s.take (jTo s k).2.1 ∧ ∀ d ∈ (jTo s k).1, deedU d ≠ []
  | 0 => ⟨rfl, fun d h => by cases h⟩
  | k + 1 => by
    obtain ⟨h1, h2⟩ := jTo_lines s k
    exact jStep_lines s k (jTo_from s k) h1 h2
/-- JournalText of the deeds is what was read. -/
theorem readJ_text (s : List UInt8) : journalU (readJ s).1 = s.take (readJ s).2 ∧ (readJ s).2 ≤ s.length := by
  obtain ⟨h1, h2⟩ := jTo_lines s s.length
  exact ⟨(journal_lines h2).trans h1, jTo_from s _⟩
/-- Journals are read. -/
theorem jTo_idle (s : List UInt8) (a : Nat) (p : List Dd × Nat × Bool) (ha : jTo s a = p) : ∀ m, (∀ i, a ≤ i → i < a + m → s[i]? ≠ some 10) → jTo s (a + m) = p
  | 0, _ => ha
  | m + 1, h => by
    have ih := jTo_idle s a p ha m fun i h1 h2 => h i h1 (by omega)
    show jStep s (a + m) (jTo s (a + m)) = p
    rw [ih]
    unfold jStep
    split
    · rfl
    · rw [if_neg (h (a + m) (by omega) (by omega))]
theorem jTo_journal (es : List Dd) : ∀ (fs ds : List Dd), (∀ d ∈ ds, deedU d ≠ []) → jTo (linesU fs ++ linesU (ds ++ es)) (linesU fs).length = (fs, (linesU fs).length, false) → jTo (linesU fs ++ linesU (ds ++ es)) (linesU (fs ++ ds)).length = (fs ++ ds, (linesU (fs ++ ds)).length, false)
  | fs, [], _, h => by rw [List.append_nil]; exact h
  | fs, d :: ds, hall, h => by
    have hd := hall d (by simp)
    have e : linesU fs ++ linesU (d :: ds ++ es) = linesU (fs ++ [d]) ++ linesU (ds ++ es) := by unfold linesU; simp
    have hl : (linesU (fs ++ [d])).length = (linesU fs).length + (deedU d).length + 1 := by rw [lines_snoc]; simp; omega
    have key : jTo (linesU (fs ++ [d]) ++ linesU (ds ++ es)) (linesU (fs ++ [d])).length = (fs ++ [d], (linesU (fs ++ [d])).length, false) := by
      rw [e] at h
      generalize hs : linesU (fs ++ [d]) ++ linesU (ds ++ es) = s at h ⊢
      have hs2 : s = linesU fs ++ (deedU d ++ (10 :: linesU (ds ++ es))) := by rw [← hs]; unfold linesU; simp
      have h1 := jTo_idle s _ _ h (deedU d).length fun i h1 h2 hn => by
        rw [hs2, List.getElem?_append_right (by omega), List.getElem?_append_left (by omega)] at hn
        exact deed_nonl (d := d) (List.mem_of_getElem? hn)
      rw [hl]
      show jStep s _ (jTo s _) = _
      rw [h1]
      unfold jStep
      rw [if_neg (by simp), if_pos (by rw [hs2, List.getElem?_append_right (by omega), List.getElem?_append_right (by omega)]; simp)]
      have h3 : (s.take ((linesU fs).length + (deedU d).length)).drop (linesU fs).length = deedU d := by
        rw [hs2, ← List.append_assoc, ← List.length_append, List.take_left, List.drop_left]
      rw [h3, deed_read hd]
    rw [e]
    have ih := jTo_journal es (fs ++ [d]) ds (fun x hx => hall x (by simp [hx])) key
    rw [show fs ++ d :: ds = (fs ++ [d]) ++ ds by simp]
    exact ih
theorem journal_read {ds : List Dd} (h : journalU ds ≠ []) : readJ (journalU ds) = (ds, (journalU ds).length) := by
  have hall : ∀ d ∈ ds, deedU d ≠ [] := fun d hd he => by
    unfold journalU at h
    rw [if_pos (List.any_eq_true.2 ⟨d, hd, by rw [he]; rfl⟩)] at h
    exact h rfl
  rw [journal_lines hall]
  have := jTo_journal [] [] ds hall rfl
  rw [List.append_nil, show linesU [] = [] from rfl, List.nil_append, List.nil_append] at this
  unfold readJ
  rw [this]
end Go.Proofs.Ytmdogidflaplkaa
