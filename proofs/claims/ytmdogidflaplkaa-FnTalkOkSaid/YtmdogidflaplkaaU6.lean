/-
  What the proofs of this seat's statements share (MathD, TogI).
-/
import Derived.Test.YtmdogidflaplkaaU5

namespace Go.Proofs.Ytmdogidflaplkaa
open Go.RowKit

theorem tidy_sub {xs : List Int} (hr : ∀ x ∈ xs, 0 ≤ x ∧ x < 256) : ∀ x ∈ tidyL xs, x ∈ xs := fun x hx => ((tidy_mem hr x).1 hx).1
theorem tidy_over {xs : List Int} (hr : ∀ x ∈ xs, 0 ≤ x ∧ x < 256) {x : Int} (hx : x ∈ xs) : ∃ z ∈ tidyL xs, withinB x z = true := by
  obtain ⟨ys, hs, hm⟩ : ∃ ys : List Int, ys.Pairwise (· ≤ ·) ∧ (∀ x, x ∈ ys ↔ x ∈ xs) := by
    refine ⟨xs.mergeSort (fun a b => decide (a ≤ b)), ?_, fun x => List.mem_mergeSort⟩
    have := List.pairwise_mergeSort (le := fun a b : Int => decide (a ≤ b)) (fun a b c h1 h2 => by simp only [decide_eq_true_eq] at *; omega) (fun a b => by simp only [Bool.or_eq_true, decide_eq_true_eq]; omega) xs
    exact this.imp (fun h => by simpa using h)
  have h0 : ∀ y ∈ ys, 0 ≤ y := fun y hy => (hr y ((hm y).1 hy)).1
  have hc := great_cover ys h0 x ((hm x).2 hx)
  rw [great_tidy hr hs hm] at hc
  exact any_iff.1 hc
/-- Who is within one of the sets is within one of the greatest ones. -/
theorem tidy_any {xs : List Int} (hr : ∀ x ∈ xs, 0 ≤ x ∧ x < 256) {s : Int} (hs : 0 ≤ s) : anyWithin s (tidyL xs) = anyWithin s xs := by
  rw [Bool.eq_iff_iff, any_iff, any_iff]
  constructor
  · rintro ⟨x, hx, hw⟩; exact ⟨x, tidy_sub hr x hx, hw⟩
  · rintro ⟨x, hx, hw⟩
    obtain ⟨z, hz, hxz⟩ := tidy_over hr hx
    exact ⟨z, hz, within_trans hs (hr x hx).1 hw hxz⟩
theorem sets_range {t : Int} {xs : List Int} (h : ∀ x ∈ xs, setOkB t x = true) : ∀ x ∈ xs, 0 ≤ x ∧ x < 256 := fun x hx => by have := setOkB_lt (h x hx); omega
theorem tidy_ok {t : Int} {xs : List Int} (hne : xs ≠ []) (h : ∀ x ∈ xs, setOkB t x = true) : issueOkB t (tidyL xs) = true := by
  have hr := sets_range h
  have hp : pairB (tidyL xs) = true := pair_iff (tidy_asc xs) fun x hx y hy => ((tidy_mem hr x).1 hx).2 y ((tidy_mem hr y).1 hy).1
  have hr2 : ∀ x ∈ tidyL xs, 0 ≤ x ∧ x < 256 := fun x hx => hr x (tidy_sub hr x hx)
  obtain ⟨x, hx⟩ := List.exists_mem_of_ne_nil xs hne
  obtain ⟨z, hz, _⟩ := tidy_over hr hx
  unfold issueOkB partsOkB
  simp only [Bool.and_eq_true, decide_eq_true_eq, List.all_eq_true]
  exact ⟨⟨⟨List.length_pos_of_mem hz, apart_bound hr2 hp⟩, fun y hy => h y (tidy_sub hr y hy)⟩, hp⟩
theorem issue_nonempty {t : Int} {xs : List Int} (h : issueOkB t xs = true) : xs ≠ [] := by
  have := issue_ne h; intro e; subst e; simp at this
/-- Two issues with the same sets within are the same. -/
theorem any_ext {t : Int} {xs ys : List Int} (hx : issueOkB t xs = true) (hy : issueOkB t ys = true) (h : ∀ s, 0 ≤ s → s ≤ allOf t → anyWithin s xs = anyWithin s ys) : xs = ys := by
  obtain ⟨h1, h3⟩ := issue_things hx
  refine settles_same hx hy fun k hk0 hk => ?_
  unfold settlesB
  rw [hx, hy, setOk_of h1 h3 hk0 hk, h k hk0 hk]
theorem settles_any {t : Int} {xs : List Int} (hx : issueOkB t xs = true) {k : Int} (hk0 : 0 ≤ k) (hk : k ≤ allOf t) : settlesB t xs k = anyWithin k xs := by
  obtain ⟨h1, h3⟩ := issue_things hx
  unfold settlesB
  rw [hx, setOk_of h1 h3 hk0 hk]; rfl
theorem within_andI_left (a b : Int) : withinB (andI a b) a = true := by
  rw [within_iff (andI_nonneg _ _)]; intro i hi
  change ((((a.toNat &&& b.toNat : Nat) : Int)).toNat).testBit i = true at hi
  rw [Int.toNat_natCast, Nat.testBit_and, Bool.and_eq_true] at hi; exact hi.1
theorem within_andI_right (a b : Int) : withinB (andI a b) b = true := by
  rw [within_iff (andI_nonneg _ _)]; intro i hi
  change ((((a.toNat &&& b.toNat : Nat) : Int)).toNat).testBit i = true at hi
  rw [Int.toNat_natCast, Nat.testBit_and, Bool.and_eq_true] at hi; exact hi.2
theorem within_andI {c a b : Int} (hc : 0 ≤ c) (h1 : withinB c a = true) (h2 : withinB c b = true) : withinB c (andI a b) = true := by
  rw [within_iff hc] at *
  intro i hi
  show ((((a.toNat &&& b.toNat : Nat) : Int)).toNat).testBit i = true
  rw [Int.toNat_natCast, Nat.testBit_and, h1 i hi, h2 i hi]; rfl
theorem any_down {s u : Int} {xs : List Int} (hu : 0 ≤ u) (hs : 0 ≤ s) (h : withinB u s = true) (ha : anyWithin s xs = true) : anyWithin u xs = true := by
  obtain ⟨x, hx, hw⟩ := any_iff.1 ha
  exact any_iff.2 ⟨x, hx, within_trans hu hs h hw⟩
theorem andI_ok {t a b : Int} (ha : setOkB t a = true) : setOkB t (andI a b) = true := by
  have := setOkB_lt ha
  exact setOk_of this.1 this.2.1 (andI_nonneg _ _) (Int.le_trans (andI_le a b this.2.2.1) this.2.2.2.1)

def bothX (a b : List Int) : List Int := a.flatMap fun x => b.map fun y => andI x y
def bothL (t : Int) (a b : List Int) : List Int := if (issueOkB t a && issueOkB t b) = true then tidyL (bothX a b) else []
def eitherL (t : Int) (a b : List Int) : List Int := if (issueOkB t a && issueOkB t b) = true then tidyL (a ++ b) else []
def goodB (a b : List Int) (s : Int) : Bool := a.all fun x => anyWithin (andI s x) b
def ifTo (a b : List Int) (k : Nat) : List Int := ((List.range k).map fun n : Nat => (n : Int)).filter (goodB a b)
def ifL (t : Int) (a b : List Int) : List Int := if (issueOkB t a && issueOkB t b) = true then tidyL (ifTo a b (allOf t + 1).toNat) else []
def notL (t : Int) (a : List Int) : List Int := if issueOkB t a = true then ifL t a [0] else []
def whetherL (t : Int) (a : List Int) : List Int := if issueOkB t a = true then eitherL t a (notL t a) else []
def followsB (t : Int) (a b : List Int) : Bool := issueOkB t a && issueOkB t b && a.all fun x => anyWithin x b

section
variable {t : Int} {a b c : List Int}
theorem mem_bothX {s : Int} : s ∈ bothX a b ↔ ∃ x ∈ a, ∃ y ∈ b, andI x y = s := by unfold bothX; simp [List.mem_flatMap]
theorem bothX_sets (ha : issueOkB t a = true) : ∀ s ∈ bothX a b, setOkB t s = true := by
  intro s hs
  obtain ⟨x, hx, y, _, rfl⟩ := mem_bothX.1 hs
  exact andI_ok (issue_sets ha x hx)
theorem bothX_any (s : Int) (hs : 0 ≤ s) : anyWithin s (bothX a b) = (anyWithin s a && anyWithin s b) := by
  rw [Bool.eq_iff_iff, Bool.and_eq_true, any_iff, any_iff, any_iff]
  constructor
  · rintro ⟨z, hz, hw⟩
    obtain ⟨x, hx, y, hy, rfl⟩ := mem_bothX.1 hz
    exact ⟨⟨x, hx, within_trans hs (andI_nonneg _ _) hw (within_andI_left _ _)⟩, y, hy, within_trans hs (andI_nonneg _ _) hw (within_andI_right _ _)⟩
  · rintro ⟨⟨x, hx, h1⟩, y, hy, h2⟩
    exact ⟨_, mem_bothX.2 ⟨x, hx, y, hy, rfl⟩, within_andI hs h1 h2⟩
theorem both_eq (ha : issueOkB t a = true) (hb : issueOkB t b = true) : bothL t a b = tidyL (bothX a b) := by unfold bothL; rw [ha, hb]; rfl
theorem both_ok (ha : issueOkB t a = true) (hb : issueOkB t b = true) : issueOkB t (bothL t a b) = true := by
  rw [both_eq ha hb]
  refine tidy_ok (fun e => ?_) (bothX_sets ha)
  obtain ⟨x, hx⟩ := List.exists_mem_of_ne_nil a (issue_nonempty ha)
  obtain ⟨y, hy⟩ := List.exists_mem_of_ne_nil b (issue_nonempty hb)
  have := mem_bothX.2 ⟨x, hx, y, hy, rfl⟩
  rw [e] at this; cases this
theorem both_any (ha : issueOkB t a = true) (hb : issueOkB t b = true) {s : Int} (hs : 0 ≤ s) : anyWithin s (bothL t a b) = (anyWithin s a && anyWithin s b) := by
  rw [both_eq ha hb, tidy_any (sets_range (bothX_sets ha)) hs, bothX_any s hs]

theorem either_eq (ha : issueOkB t a = true) (hb : issueOkB t b = true) : eitherL t a b = tidyL (a ++ b) := by unfold eitherL; rw [ha, hb]; rfl
theorem eitherX_sets (ha : issueOkB t a = true) (hb : issueOkB t b = true) : ∀ s ∈ a ++ b, setOkB t s = true := by
  intro s hs
  rcases List.mem_append.1 hs with h | h
  · exact issue_sets ha s h
  · exact issue_sets hb s h
theorem either_ok (ha : issueOkB t a = true) (hb : issueOkB t b = true) : issueOkB t (eitherL t a b) = true := by
  rw [either_eq ha hb]
  refine tidy_ok (fun e => ?_) (eitherX_sets ha hb)
  exact issue_nonempty ha (List.append_eq_nil_iff.1 e).1
theorem either_any (ha : issueOkB t a = true) (hb : issueOkB t b = true) {s : Int} (hs : 0 ≤ s) : anyWithin s (eitherL t a b) = (anyWithin s a || anyWithin s b) := by
  rw [either_eq ha hb, tidy_any (sets_range (eitherX_sets ha hb)) hs]
  unfold anyWithin; rw [List.any_append]

theorem good_iff {s : Int} : goodB a b s = true ↔ ∀ u, 0 ≤ u → withinB u s = true → anyWithin u a = true → anyWithin u b = true := by
  unfold goodB
  rw [List.all_eq_true]
  constructor
  · intro h u hu hus hua
    obtain ⟨x, hx, hw⟩ := any_iff.1 hua
    exact any_down hu (andI_nonneg _ _) (within_andI hu hus hw) (h x hx)
  · intro h x hx
    exact h _ (andI_nonneg _ _) (within_andI_left _ _) (any_iff.2 ⟨x, hx, within_andI_right _ _⟩)
theorem good_down {s u : Int} (hu : 0 ≤ u) (h : withinB u s = true) (hg : goodB a b s = true) : goodB a b u = true := by
  unfold goodB at *
  rw [List.all_eq_true] at *
  intro x hx
  refine any_down (andI_nonneg _ _) (andI_nonneg _ _) (within_andI (andI_nonneg _ _) (within_trans (andI_nonneg _ _) hu (within_andI_left _ _) h) (within_andI_right _ _)) (hg x hx)
theorem mem_ifTo {k : Nat} {s : Int} : s ∈ ifTo a b k ↔ (0 ≤ s ∧ s < k ∧ goodB a b s = true) := by
  unfold ifTo
  rw [List.mem_filter, List.mem_map]
  constructor
  · rintro ⟨⟨n, hn, rfl⟩, h⟩
    rw [List.mem_range] at hn
    exact ⟨by omega, by omega, h⟩
  · rintro ⟨h0, h1, h⟩
    exact ⟨⟨s.toNat, by rw [List.mem_range]; omega, by omega⟩, h⟩
theorem issue_pos (ha : issueOkB t a = true) : ∀ x ∈ a, 0 ≤ x := fun x hx => (issue_range ha x hx).1
theorem if_eq (ha : issueOkB t a = true) (hb : issueOkB t b = true) : ifL t a b = tidyL (ifTo a b (allOf t + 1).toNat) := by unfold ifL; rw [ha, hb]; rfl
theorem ifX_sets (ha : issueOkB t a = true) : ∀ s ∈ ifTo a b (allOf t + 1).toNat, setOkB t s = true := by
  intro s hs
  obtain ⟨h0, h1, _⟩ := mem_ifTo.1 hs
  obtain ⟨h2, h3⟩ := issue_things ha
  exact setOk_of h2 h3 h0 (by have := allOf_lt t; omega)
theorem good_zero (hb : issueOkB t b = true) : goodB a b 0 = true := by
  unfold goodB; rw [List.all_eq_true]; intro x _
  obtain ⟨y, hy⟩ := List.exists_mem_of_ne_nil b (issue_nonempty hb)
  exact any_iff.2 ⟨y, hy, by have e : andI 0 x = 0 := by unfold andI; simp
                             rw [e]; exact within_zero y⟩
theorem if_ok (ha : issueOkB t a = true) (hb : issueOkB t b = true) : issueOkB t (ifL t a b) = true := by
  rw [if_eq ha hb]
  refine tidy_ok (fun e => ?_) (ifX_sets ha)
  have := mem_ifTo (a := a) (b := b) (k := (allOf t + 1).toNat) (s := 0)
  rw [e] at this
  exact absurd (this.2 ⟨by omega, by have := allOf_lt t; omega, good_zero hb⟩) (by simp)
theorem if_any (ha : issueOkB t a = true) (hb : issueOkB t b = true) {s : Int} (hs : 0 ≤ s) (hs2 : s ≤ allOf t) : anyWithin s (ifL t a b) = goodB a b s := by
  rw [if_eq ha hb, tidy_any (sets_range (ifX_sets ha)) hs, Bool.eq_iff_iff, any_iff]
  constructor
  · rintro ⟨z, hz, hw⟩
    obtain ⟨h0, _, hg⟩ := mem_ifTo.1 hz
    exact good_down hs hw hg
  · intro hg
    exact ⟨s, mem_ifTo.2 ⟨hs, by omega, hg⟩, within_refl s hs⟩

/-- Follows, said of all sets. -/
theorem follows_iff (ha : issueOkB t a = true) (hb : issueOkB t b = true) : followsB t a b = true ↔ ∀ s, 0 ≤ s → s ≤ allOf t → anyWithin s a = true → anyWithin s b = true := by
  unfold followsB
  rw [ha, hb, Bool.true_and, Bool.true_and, List.all_eq_true]
  constructor
  · intro h s hs _ hsa
    obtain ⟨x, hx, hw⟩ := any_iff.1 hsa
    exact any_down hs (issue_pos ha x hx) hw (h x hx)
  · intro h x hx
    have := setOkB_lt (issue_sets ha x hx)
    exact h x this.2.2.1 this.2.2.2.1 (any_iff.2 ⟨x, hx, within_refl x this.2.2.1⟩)

/-! The laws. -/
theorem law_both (ha : issueOkB t a = true) (hb : issueOkB t b = true) {k : Int} (h0 : 0 ≤ k) (hk : k ≤ allOf t) : settlesB t (bothL t a b) k = (settlesB t a k && settlesB t b k) := by
  rw [settles_any (both_ok ha hb) h0 hk, settles_any ha h0 hk, settles_any hb h0 hk, both_any ha hb h0]
theorem law_either (ha : issueOkB t a = true) (hb : issueOkB t b = true) {k : Int} (h0 : 0 ≤ k) (hk : k ≤ allOf t) : settlesB t (eitherL t a b) k = (settlesB t a k || settlesB t b k) := by
  rw [settles_any (either_ok ha hb) h0 hk, settles_any ha h0 hk, settles_any hb h0 hk, either_any ha hb h0]
theorem law_absorb (ha : issueOkB t a = true) (hb : issueOkB t b = true) : bothL t a (eitherL t a b) = a := by
  refine any_ext (both_ok ha (either_ok ha hb)) ha fun s h0 _ => ?_
  rw [both_any ha (either_ok ha hb) h0, either_any ha hb h0]
  cases anyWithin s a <;> simp
theorem law_carry (ha : issueOkB t a = true) (hb : issueOkB t b = true) (hc : issueOkB t c = true) : followsB t c (ifL t a b) = followsB t (bothL t c a) b := by
  rw [Bool.eq_iff_iff, follows_iff hc (if_ok ha hb), follows_iff (both_ok hc ha) hb]
  constructor
  · intro h s h0 hs hsb
    rw [both_any hc ha h0, Bool.and_eq_true] at hsb
    have := h s h0 hs hsb.1
    rw [if_any ha hb h0 hs, good_iff] at this
    exact this s h0 (within_refl s h0) hsb.2
  · intro h s h0 hs hsc
    rw [if_any ha hb h0 hs, good_iff]
    intro u hu hus hua
    have hu2 : u ≤ allOf t := Int.le_trans (within_le hus h0) hs
    refine h u hu hu2 ?_
    rw [both_any hc ha hu, Bool.and_eq_true]
    exact ⟨any_down hu h0 hus hsc, hua⟩
theorem law_ifEither (ha : issueOkB t a = true) (hb : issueOkB t b = true) (hc : issueOkB t c = true) (h1 : a.length ≤ 1) : ifL t a (eitherL t b c) = eitherL t (ifL t a b) (ifL t a c) := by
  refine any_ext (if_ok ha (either_ok hb hc)) (either_ok (if_ok ha hb) (if_ok ha hc)) fun s h0 hs => ?_
  rw [if_any ha (either_ok hb hc) h0 hs, either_any (if_ok ha hb) (if_ok ha hc) h0, if_any ha hb h0 hs, if_any ha hc h0 hs]
  have hne := issue_ne ha
  match a, hne, h1 with
  | [x], _, _ =>
    unfold goodB
    simp only [List.all_cons, List.all_nil, Bool.and_true]
    exact either_any hb hc (andI_nonneg _ _)
theorem all_pow (h1 : 1 ≤ t) (h3 : t ≤ 3) : ∃ n : Nat, n ≤ 8 ∧ allOf t = (2 ^ n : Nat) - 1 := by
  have : t = 1 ∨ t = 2 ∨ t = 3 := by omega
  rcases this with rfl | rfl | rfl
  · exact ⟨2, by omega, rfl⟩
  · exact ⟨4, by omega, rfl⟩
  · exact ⟨8, by omega, rfl⟩
/-- Within the rest is: nothing in common. -/
theorem comp_within {s g : Int} (h1 : 1 ≤ t) (h3 : t ≤ 3) (hs : 0 ≤ s) (hs2 : s ≤ allOf t) (hg : 0 ≤ g) (hg2 : g ≤ allOf t) : withinB s (allOf t - g) = true ↔ andI s g = 0 := by
  obtain ⟨n, _, hn⟩ := all_pow h1 h3
  rw [hn] at hs2 hg2 ⊢
  rw [within_iff hs]
  have hsl : s.toNat < 2 ^ n := by omega
  have hgl : g.toNat < 2 ^ n := by omega
  have e : (((2 ^ n : Nat) : Int) - 1 - g).toNat = 2 ^ n - (g.toNat + 1) := by omega
  rw [e]
  constructor
  · intro h
    have : s.toNat &&& g.toNat = 0 := by
      apply Nat.eq_of_testBit_eq
      intro i
      rw [Nat.testBit_and, Nat.zero_testBit]
      cases hi : s.toNat.testBit i
      · rfl
      · have := h i hi
        rw [Nat.testBit_two_pow_sub_succ hgl, Bool.and_eq_true] at this
        cases hgi : g.toNat.testBit i
        · rfl
        · rw [hgi] at this; simp at this
    unfold andI; omega
  · intro h i hi
    have h : s.toNat &&& g.toNat = 0 := by unfold andI at h; omega
    have h2 := congrArg (fun x => x.testBit i) h
    simp only [Nat.testBit_and, hi, Bool.true_and, Nat.zero_testBit] at h2
    rw [Nat.testBit_two_pow_sub_succ hgl, h2]
    have : i < n := by
      rcases Nat.lt_or_ge i n with h | h
      · exact h
      · rw [Nat.testBit_lt_two_pow (Nat.lt_of_lt_of_le hsl (Nat.pow_le_pow_right (by omega) h))] at hi; cases hi
    simp [this]
theorem within_nothing {s : Int} (hs : 0 ≤ s) : withinB s 0 = true ↔ s = 0 := by
  constructor
  · intro h; have := within_le h (by omega); omega
  · rintro rfl; exact within_refl 0 (by omega)
theorem union_all (ha : issueOkB t a = true) : 0 ≤ unionI a ∧ unionI a ≤ allOf t := by
  have := setOkB_lt (union_ok ha); omega
/-- Nothing in common with what is granted is: nothing but the empty set settles it within. -/
theorem not_good (ha : issueOkB t a = true) {s : Int} : goodB a [0] s = true ↔ andI s (unionI a) = 0 := by
  have hp := issue_pos ha
  have hu := union_all ha
  rw [good_iff]
  constructor
  · intro h
    have key : ∀ x ∈ a, andI s x = 0 := fun x hx => by
      have := h _ (andI_nonneg _ _) (within_andI_left s x) (any_iff.2 ⟨x, hx, within_andI_right _ _⟩)
      obtain ⟨z, hz, hw⟩ := any_iff.1 this
      rw [List.mem_singleton] at hz; subst hz
      exact (within_nothing (andI_nonneg _ _)).1 hw
    -- what is granted is within the rest
    obtain ⟨h1, h3⟩ := issue_things ha
    have hw : withinB (unionI a) (allOf 3 - andI s (allOf 3)) = true := by
      refine union_least hp fun x hx => ?_
      have hx2 := issue_range ha x hx
      rw [comp_within (t := 3) (by omega) (by omega) hx2.1 (by have : allOf 3 = 255 := rfl; omega) (andI_nonneg _ _) (andI_le' _ _ (by decide))]
      have := key x hx
      have h2 : withinB (andI x (andI s (allOf 3))) (andI s x) = true := within_andI (andI_nonneg _ _) (within_trans (andI_nonneg _ _) (andI_nonneg _ _) (within_andI_right _ _) (within_andI_left _ _)) (within_andI_left _ _)
      rw [this] at h2
      exact (within_nothing (andI_nonneg _ _)).1 h2
    have hur := union_range (issue_range ha)
    rw [comp_within (t := 3) (by omega) (by omega) hu.1 (by have : allOf 3 = 255 := rfl; omega) (andI_nonneg _ _) (andI_le' _ _ (by decide))] at hw
    have h4 : withinB (andI s (unionI a)) (andI (unionI a) (andI s (allOf 3))) = true := by
      refine within_andI (andI_nonneg _ _) (within_andI_right _ _) (within_andI (andI_nonneg _ _) (within_andI_left _ _) ?_)
      refine within_trans (andI_nonneg _ _) hu.1 (within_andI_right _ _) ?_
      exact (within_all (t := 3) (by omega) (by omega) hu.1).2 (by have : allOf 3 = 255 := rfl; omega)
    rw [hw] at h4
    exact (within_nothing (andI_nonneg _ _)).1 h4
  · intro h u hu0 hus hua
    obtain ⟨x, hx, hw⟩ := any_iff.1 hua
    have h5 : withinB u (andI s (unionI a)) = true := within_andI hu0 hus (within_trans hu0 (hp x hx) hw (mem_union hp hx))
    rw [h] at h5
    exact any_iff.2 ⟨0, by simp, h5⟩
theorem zero_issue (h1 : 1 ≤ t) (h3 : t ≤ 3) : issueOkB t [0] = true := issue_one (setOk_of h1 h3 (by omega) (allOf_lt t).1)
theorem rest_ok (ha : issueOkB t a = true) : setOkB t (allOf t - unionI a) = true := by
  obtain ⟨h1, h3⟩ := issue_things ha
  have := union_all ha
  exact setOk_of h1 h3 (by omega) (by omega)
theorem not_eq (ha : issueOkB t a = true) : notL t a = ifL t a [0] := by unfold notL; rw [ha]; rfl
theorem not_ok (ha : issueOkB t a = true) : issueOkB t (notL t a) = true := by
  obtain ⟨h1, h3⟩ := issue_things ha
  rw [not_eq ha]; exact if_ok ha (zero_issue h1 h3)
theorem any_one (s g : Int) : anyWithin s [g] = withinB s g := by unfold anyWithin; simp
theorem law_not (ha : issueOkB t a = true) : notL t a = [allOf t - unionI a] := by
  obtain ⟨h1, h3⟩ := issue_things ha
  have hu := union_all ha
  refine any_ext (not_ok ha) (issue_one (rest_ok ha)) fun s h0 hs => ?_
  rw [not_eq ha, if_any ha (zero_issue h1 h3) h0 hs, any_one, Bool.eq_iff_iff, not_good ha, comp_within h1 h3 h0 hs hu.1 hu.2]
theorem union_one {g : Int} (h : 0 ≤ g) : unionI [g] = g := by unfold unionI orI; simp; omega
theorem law_notnot (ha : issueOkB t a = true) : notL t (notL t a) = [unionI a] := by
  have hu := union_all ha
  rw [law_not (not_ok ha), law_not ha, union_one (by omega)]
  congr 1; omega

theorem union_tidy {xs : List Int} (hr : ∀ x ∈ xs, 0 ≤ x ∧ x < 256) : unionI (tidyL xs) = unionI xs := by
  have hp : ∀ x ∈ xs, 0 ≤ x := fun x hx => (hr x hx).1
  have hpt : ∀ x ∈ tidyL xs, 0 ≤ x := fun x hx => hp x (tidy_sub hr x hx)
  have h1 := union_range hr
  have h2 := union_range (xs := tidyL xs) fun x hx => hr x (tidy_sub hr x hx)
  refine within_anti h2.1 h1.1 (union_least hpt fun x hx => mem_union hp (tidy_sub hr x hx)) (union_least hp fun x hx => ?_)
  obtain ⟨z, hz, hw⟩ := tidy_over hr hx
  exact within_trans (hp x hx) (hpt z hz) hw (mem_union hpt hz)
theorem fold_bit : ∀ (xs : List Int) (s : Int) (i : Nat), (xs.foldl orI s).toNat.testBit i = (s.toNat.testBit i || xs.any fun x => x.toNat.testBit i)
  | [], s, i => by simp
  | x :: r, s, i => by
    rw [List.foldl_cons, fold_bit r, List.any_cons]
    show ((((s.toNat ||| x.toNat : Nat) : Int)).toNat.testBit i || _) = _
    rw [Int.toNat_natCast, Nat.testBit_or, Bool.or_assoc]
theorem union_bit (xs : List Int) (i : Nat) : (unionI xs).toNat.testBit i = xs.any fun x => x.toNat.testBit i := by
  unfold unionI; rw [fold_bit]; simp
theorem law_granted_both (ha : issueOkB t a = true) (hb : issueOkB t b = true) : unionI (bothL t a b) = andI (unionI a) (unionI b) := by
  rw [both_eq ha hb, union_tidy (sets_range (bothX_sets ha))]
  have hx := union_range (sets_range (bothX_sets (b := b) ha))
  have : (unionI (bothX a b)).toNat = (unionI a).toNat &&& (unionI b).toNat := by
    apply Nat.eq_of_testBit_eq
    intro i
    rw [union_bit, Nat.testBit_and, union_bit, union_bit, Bool.eq_iff_iff, Bool.and_eq_true, List.any_eq_true, List.any_eq_true, List.any_eq_true]
    constructor
    · rintro ⟨z, hz, hi⟩
      obtain ⟨x, hx, y, hy, rfl⟩ := mem_bothX.1 hz
      change ((((x.toNat &&& y.toNat : Nat) : Int)).toNat).testBit i = true at hi
      rw [Int.toNat_natCast, Nat.testBit_and, Bool.and_eq_true] at hi
      exact ⟨⟨x, hx, hi.1⟩, y, hy, hi.2⟩
    · rintro ⟨⟨x, hx, h1⟩, y, hy, h2⟩
      refine ⟨_, mem_bothX.2 ⟨x, hx, y, hy, rfl⟩, ?_⟩
      show ((((x.toNat &&& y.toNat : Nat) : Int)).toNat).testBit i = true
      rw [Int.toNat_natCast, Nat.testBit_and, h1, h2]; rfl
  unfold andI; omega
theorem whether_eq (ha : issueOkB t a = true) : whetherL t a = eitherL t a (notL t a) := by unfold whetherL; rw [ha]; rfl
theorem whether_ok (ha : issueOkB t a = true) : issueOkB t (whetherL t a) = true := by rw [whether_eq ha]; exact either_ok ha (not_ok ha)
theorem or_rest {g : Int} (h1 : 1 ≤ t) (h3 : t ≤ 3) (hg : 0 ≤ g) (hg2 : g ≤ allOf t) : orI g (allOf t - g) = allOf t := by
  obtain ⟨n, hn8, hn⟩ := all_pow h1 h3
  have hal := (allOf_lt t).2
  have hz : andI g (allOf t - g) = 0 := by
    have := (comp_within (s := allOf t - g) (g := g) h1 h3 (by omega) (by omega) hg hg2).1 (within_refl _ (by omega))
    unfold andI at *; rw [Nat.and_comm]; exact this
  have := orI_eq g (allOf t - g) hg (by omega) (by omega) (by omega)
  omega
theorem law_whether_all (ha : issueOkB t a = true) : unionI (whetherL t a) = allOf t := by
  obtain ⟨h1, h3⟩ := issue_things ha
  have hu := union_all ha
  rw [whether_eq ha, either_eq ha (not_ok ha), union_tidy (sets_range (eitherX_sets ha (not_ok ha))), law_not ha]
  unfold unionI
  rw [List.foldl_append]
  show orI (unionI a) _ = _
  exact or_rest h1 h3 hu.1 hu.2
theorem law_whether_twice (ha : issueOkB t a = true) : whetherL t (whetherL t a) = whetherL t a := by
  have hw := whether_ok ha
  rw [whether_eq hw, law_not hw, law_whether_all ha]
  have hz : issueOkB t [allOf t - allOf t] = true := by
    obtain ⟨h1, h3⟩ := issue_things ha
    rw [show allOf t - allOf t = 0 by omega]; exact zero_issue h1 h3
  refine any_ext (either_ok hw hz) hw fun s h0 _ => ?_
  rw [either_any hw hz h0, any_one, show allOf t - allOf t = 0 by omega]
  cases h : anyWithin s (whetherL t a)
  · cases h2 : withinB s 0
    · rfl
    · rw [(within_nothing h0).1 h2] at h
      obtain ⟨y, hy⟩ := List.exists_mem_of_ne_nil _ (issue_nonempty hw)
      rw [any_iff.2 ⟨y, hy, within_zero y⟩] at h; cases h
  · rfl
theorem law_whether_follows (ha : issueOkB t a = true) : followsB t a (whetherL t a) = true := by
  rw [follows_iff ha (whether_ok ha), whether_eq ha]
  intro s h0 _ h
  rw [either_any ha (not_ok ha) h0, h]; rfl
theorem law_follows_both (ha : issueOkB t a = true) (hb : issueOkB t b = true) : decide (bothL t a b = a) = followsB t a b := by
  rw [Bool.eq_iff_iff, decide_eq_true_eq, follows_iff ha hb]
  constructor
  · intro h s h0 _ hs
    have := both_any ha hb h0
    rw [h, hs] at this
    simpa using this.symm
  · intro h
    refine any_ext (both_ok ha hb) ha fun s h0 hs => ?_
    rw [both_any ha hb h0]
    cases hsa : anyWithin s a
    · rfl
    · rw [h s h0 hs hsa]; rfl
theorem law_follows_if (ha : issueOkB t a = true) (hb : issueOkB t b = true) : settlesB t (ifL t a b) (allOf t) = followsB t a b := by
  have hal := allOf_lt t
  obtain ⟨h1, h3⟩ := issue_things ha
  rw [settles_any (if_ok ha hb) hal.1 (Int.le_refl _), if_any ha hb hal.1 (Int.le_refl _), Bool.eq_iff_iff, good_iff, follows_iff ha hb]
  constructor
  · exact fun h s h0 hs hsa => h s h0 ((within_all h1 h3 h0).2 hs) hsa
  · exact fun h u hu hw hua => h u hu (within_le hw hal.1) hua
end
end Go.Proofs.Ytmdogidflaplkaa

namespace Go.Proofs.Ytmdogidflaplkaa
open Go.RowKit

/-- A slice of numbers that came in: its length, its capacity, what it reads as. -/
structure Row (w : World) (A : Option Addr) (n c : Nat) (xs : List Int) : Prop where
  hn : n = xs.length
  hl : n ≤ 1048576
  hc : n ≤ c
  hm : c ≤ maxLen
  hA : Nums .i64 w A xs
theorem Row.below {w w' : World} {A : Option Addr} {n c : Nat} {xs : List Int} (h : Row w A n c xs) (hb : Below w.heap.size w w') : Row w' A n c xs := ⟨h.hn, h.hl, h.hc, h.hm, h.hA.below hb⟩

theorem Row.drewN {w : World} {A : Option Addr} {n c : Nat} {xs : List Int} (h : Row w A n c xs) (m : Nat) : Row (w.drewN m) A n c xs := ⟨h.hn, h.hl, h.hc, h.hm, h.hA⟩

def okTwo (t : Int) (a b : List Int) : Bool := issueOkB t a && issueOkB t b
set_option maxHeartbeats 1000000 in
theorem iIssuesOk (t : Int) (A B : Option Addr) (na ca nb cb : Nat) (a b : List Int) (w : World) (ha : Row w A na ca a) (hb : Row w B nb cb b) :
    Calls Try.prog 89 #[.int .i64 t, .slice A na ca, .slice B nb cb] w fun e w' => e = .returned (.bool (okTwo t a b)) ∧ ∃ n, w' = w.drewN n := by
  have HA := Lib.hid ha
  have HB := Lib.hid hb
  clear ha hb
  obtain ⟨x, HX⟩ : ∃ x, Hid (issueOkB t a = x) := ⟨_, rfl⟩
  obtain ⟨y, HY⟩ : ∃ y, Hid (issueOkB t b = y) := ⟨_, rfl⟩
  have HF : Hid (okTwo t a b = (x && y)) := by unfold Hid okTwo; rw [HX.out, HY.out]
  cases x
  · go_enter Try.func89, Try.ntmps89
    go_wp2_with fail
    refine (iIssueOk_is HX _ _ _ _ HA.out.hn HA.out.hl HA.out.hc HA.out.hm HA.out.hA).mono ?_
    rintro e w' ⟨rfl, m1, rfl⟩
    go_wp2_with fail
    go_ret
    exact ⟨ret_bool HF.out.symm, _, rfl⟩
  · go_enter Try.func89, Try.ntmps89
    go_wp2_with fail
    refine (iIssueOk_is HX _ _ _ _ HA.out.hn HA.out.hl HA.out.hc HA.out.hm HA.out.hA).mono ?_
    rintro e w' ⟨rfl, m2, rfl⟩
    go_wp2_with fail
    refine (iIssueOk_is HY _ _ _ _ HB.out.hn HB.out.hl HB.out.hc HB.out.hm (by exact HB.out.hA)).mono ?_
    rintro e w' ⟨rfl, m3, rfl⟩
    go_wp2_with fail
    go_ret
    exact ⟨ret_bool (by rw [HF.out]; rfl), _, rfl⟩
theorem iIssuesOk_is {t : Int} {a b : List Int} {x : Bool} (h : Hid (okTwo t a b = x)) {A B : Option Addr} {na ca nb cb : Nat} {w : World} (ha : Row w A na ca a) (hb : Row w B nb cb b) :
    Calls Try.prog 89 #[.int .i64 t, .slice A na ca, .slice B nb cb] w fun e w' => e = .returned (.bool x) ∧ ∃ n, w' = w.drewN n :=
  (iIssuesOk t A B na ca nb cb a b w ha hb).mono fun _ _ ⟨he, hw⟩ => ⟨he.trans (ret_bool h.out), hw⟩
theorem okTwo_ok {t : Int} {a b : List Int} (h : okTwo t a b = true) : issueOkB t a = true ∧ issueOkB t b = true := by unfold okTwo at h; rwa [Bool.and_eq_true] at h

theorem iWithinAny_is {s : Int} {xs : List Int} {v : Bool} (h : Hid (anyWithin s xs = v)) (A : Option Addr) (n c : Nat) (w : World) (hn : n = xs.length) (hs : 0 ≤ s) (hs2 : s < 256) (hr : ∀ x ∈ xs, 0 ≤ x ∧ x < 256) (hl : n ≤ 1048576) (hA : Nums .i64 w A xs) :
    Calls Try.prog 65 #[.int .i64 s, .slice A n c] w fun e w' => e = .returned (.bool v) ∧ w = w' :=
  (iWithinAny s A n c xs w hn hs hs2 hr hl hA).mono fun _ _ ⟨he, hw⟩ => ⟨he.trans (ret_bool h.out), hw⟩

theorem good_nil (b : List Int) (s : Int) : goodB [] b s = true := rfl
theorem good_snoc {a b : List Int} {s x : Int} {k : Nat} (hx : Hid (a[k]? = some x)) : goodB (a.take (k + 1)) b s = (goodB (a.take k) b s && anyWithin (andI s x) b) := by
  unfold goodB; rw [take_snoc hx, List.all_append]; simp
theorem good_miss {a b : List Int} {s x : Int} {k : Nat} (hx : Hid (a[k]? = some x)) (h : anyWithin (andI s x) b = false) : goodB a b s = false := by
  unfold goodB; rw [List.all_eq_false]; exact ⟨x, elem_mem hx, by rw [h]; simp⟩

set_option maxHeartbeats 1000000 in
theorem iCarries (s : Int) (A B : Option Addr) (na ca nb cb : Nat) (a b : List Int) (w : World) (hs : 0 ≤ s) (hs2 : s < 256) (ha : Row w A na ca a) (hb : Row w B nb cb b) (hra : ∀ x ∈ a, 0 ≤ x ∧ x < 256) (hrb : ∀ x ∈ b, 0 ≤ x ∧ x < 256) :
    Calls Try.prog 92 #[.int .i64 s, .slice A na ca, .slice B nb cb] w fun e w' => e = .returned (.bool (goodB a b s)) ∧ w = w' := by
  have HA := Lib.hid ha
  have HB := Lib.hid hb
  have HRA := Lib.hid hra
  have HRB := Lib.hid hrb
  obtain rfl := ha.hn
  have hla := ha.hl
  clear ha hb hra hrb
  go_enter Try.func92, Try.ntmps92
  go_wp2
  go_loop [11] (fun i => ∃ k : Nat, k ≤ a.length ∧ i = .int .i64 k ∧ Hid (goodB (a.take k) b s = true)) (fun i => a.length - (Go.RowKit.intOf i).toNat)
  case atStart => exact ⟨0, Nat.zero_le _, rfl, rfl⟩
  case round =>
    obtain ⟨k, hk, rfl, hsofar⟩ := hrel
    by_cases hlt : k < a.length
    · obtain ⟨bb, off, x, rfl, hcell, hx, _⟩ := HA.out.hA.elem hlt
      obtain ⟨he1, he2⟩ := HRA.out x (elem_mem hx)
      have HBI := Lib.hid (bits_and s x hs (by omega) he1 (by omega))
      have hand0 := andI_nonneg s x
      have hand1 := andI_le s x hs
      rcases hw : anyWithin (andI s x) b with _ | _
      · have HW := Lib.hid hw
        clear hw
        go_wp2_with fail
        rw [HBI.out]
        refine (iWithinAny_is HW _ _ _ _ HB.out.hn hand0 (by omega) HRB.out HB.out.hl HB.out.hA).mono ?_
        rintro e w' ⟨rfl, rfl⟩
        go_wp2_with fail
        go_ret
        exact ⟨ret_bool (by rw [good_miss hx HW.out]), rfl⟩
      · have HW := Lib.hid hw
        clear hw
        go_wp2_with fail
        rw [HBI.out]
        refine (iWithinAny_is HW _ _ _ _ HB.out.hn hand0 (by omega) HRB.out HB.out.hl HB.out.hA).mono ?_
        rintro e w' ⟨rfl, rfl⟩
        go_wp2_with fail
        go_round
        case rel => exact ⟨k + 1, by omega, by go_num, by unfold Hid; rw [good_snoc hx, hsofar.out, HW.out]; rfl⟩
        case measure => simp [Go.RowKit.intOf]; omega
    · obtain rfl : k = a.length := by omega
      go_wp2
      go_ret
      exact ⟨ret_bool (by rw [← hsofar.out, List.take_length]), rfl⟩

set_option maxHeartbeats 1000000 in
theorem sL2Settles (A : Option Addr) (n c : Nat) (xs : List Int) (s : Int) (w : World) (hn : n = xs.length) (hs : 0 ≤ s) (hs2 : s < 256) (hr : ∀ x ∈ xs, 0 ≤ x ∧ x < 256) (hl : n ≤ 1048576) (hA : Nums .i64 w A xs) :
    Calls Try.prog 60 #[.slice A n c, .int .i64 s] w fun e w' => e = .returned (.bool (anyWithin s xs)) ∧ ∃ n, w' = w.drewN n := by
  subst hn
  have HA := Lib.hid hA
  have HR := Lib.hid hr
  clear hA hr
  go_enter Try.func60, Try.ntmps60
  go_wp2
  go_loopw [5] (fun i wr => ∃ k : Nat, k ≤ xs.length ∧ i = .int .i64 k ∧ Hid (anyWithin s (xs.take k) = false) ∧ ∃ n, wr = w.drewN n) (fun i _ => xs.length - (Go.RowKit.intOf i).toNat)
  case atStart => exact ⟨0, Nat.zero_le _, rfl, rfl, 0, rfl⟩
  case round =>
    obtain ⟨k, hk, rfl, hsofar, n, rfl⟩ := hrel
    by_cases hlt : k < xs.length
    · obtain ⟨b, off, x, rfl, hcell, hx, _⟩ := HA.out.elem hlt
      obtain ⟨he1, he2⟩ := HR.out x (elem_mem hx)
      rcases hw : withinB s x with _ | _
      · have HW := Lib.hid hw
        clear hw
        go_wp2_with fail
        refine (sWithin_is HW hs hs2 he1 he2 _).mono ?_
        rintro e w' ⟨rfl, m1, rfl⟩
        go_wp2_with fail
        go_roundw
        case rel => exact ⟨k + 1, by omega, by go_num, by unfold Hid; rw [anyWithin_snoc hx, hsofar.out, HW.out]; rfl, _, rfl⟩
        case measure => simp [Go.RowKit.intOf]; omega
      · have HW := Lib.hid hw
        clear hw
        go_wp2_with fail
        refine (sWithin_is HW hs hs2 he1 he2 _).mono ?_
        rintro e w' ⟨rfl, m2, rfl⟩
        go_wp2_with fail
        go_ret
        exact ⟨ret_bool (by rw [anyWithin_hit hx HW.out]), _, rfl⟩
    · obtain rfl : k = xs.length := by omega
      have HN : Hid (anyWithin s xs = false) := by unfold Hid; rw [← hsofar.out, List.take_length]
      clear hsofar
      go_wp2
      go_ret
      exact ⟨ret_bool (by rw [HN.out]), _, rfl⟩
theorem sL2Settles_is {s : Int} {xs : List Int} {v : Bool} (h : Hid (anyWithin s xs = v)) (A : Option Addr) (n c : Nat) (w : World) (hn : n = xs.length) (hs : 0 ≤ s) (hs2 : s < 256) (hr : ∀ x ∈ xs, 0 ≤ x ∧ x < 256) (hl : n ≤ 1048576) (hA : Nums .i64 w A xs) :
    Calls Try.prog 60 #[.slice A n c, .int .i64 s] w fun e w' => e = .returned (.bool v) ∧ ∃ n, w' = w.drewN n :=
  (sL2Settles A n c xs s w hn hs hs2 hr hl hA).mono fun _ _ ⟨he, hw⟩ => ⟨he.trans (ret_bool h.out), hw⟩

theorem follows_eq {t : Int} {a b : List Int} : followsB t a b = (okTwo t a b && a.all fun x => anyWithin x b) := rfl
theorem allAny_snoc {a b : List Int} {x : Int} {k : Nat} (hx : Hid (a[k]? = some x)) : ((a.take (k + 1)).all fun x => anyWithin x b) = (((a.take k).all fun x => anyWithin x b) && anyWithin x b) := by
  rw [take_snoc hx, List.all_append]; simp
theorem allAny_miss {a b : List Int} {x : Int} {k : Nat} (hx : Hid (a[k]? = some x)) (h : anyWithin x b = false) : (a.all fun x => anyWithin x b) = false := by
  rw [List.all_eq_false]; exact ⟨x, elem_mem hx, by rw [h]; simp⟩

end Go.Proofs.Ytmdogidflaplkaa
