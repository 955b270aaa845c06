/-
  What the proofs of this seat's statements share (MathD, TogI, TogJ, TogK).
-/
import Derived.Lib.AppendZeros
import Derived.Test.YtmdogidflaplkaaGreatU5

namespace Go.Proofs.YtmdogidflaplkaaGreat
open Go.RowKit

theorem tidy_sub {xs : List Int} (hr : ∀ x ∈ xs, 0 ≤ x ∧ x < 256) : ∀ x ∈ tidyL xs, x ∈ xs := fun x hx => ((tidy_mem hr x).1 hx).1
theorem tidy_over {xs : List Int} (hr : ∀ x ∈ xs, 0 ≤ x ∧ x < 256) {x : Int} (hx : x ∈ xs) : ∃ z ∈ tidyL xs, withinB x z = true := by
  obtain ⟨ys, hs, hm⟩ : ∃ ys : List Int, ys.Pairwise (· ≤ ·) ∧ (∀ x, x ∈ ys ↔ x ∈ xs) := by
    refine ⟨xs.mergeSort (fun a b => decide (a ≤ b)), ?_, fun x => List.mem_mergeSort⟩
    have := List.pairwise_mergeSort (le := fun a b : Int => decide (a ≤ b)) (fun a b c h1 h2 => by simp only [decide_eq_true_eq] at *; omega) (fun a b => by simp only [Bool.or_eq_true, decide_eq_true_eq]; omega) xs
    exact this.imp (fun h => by simpa using h)
  have h0 : ∀ y ∈ ys, 0 ≤ y := fun y hy => (hr y ((hm y).1 hy)).1
  have hc := great_cover ys h0 x ((hm x).2 hx)
  rw [great_tidy hr hs hm] at hc
  exact any_iff.1 hc
/-- Who is within one of the sets is within one of the greatest ones. -/
theorem tidy_any {xs : List Int} (hr : ∀ x ∈ xs, 0 ≤ x ∧ x < 256) {s : Int} (hs : 0 ≤ s) : anyWithin s (tidyL xs) = anyWithin s xs := by
  rw [Bool.eq_iff_iff, any_iff, any_iff]
  constructor
  · rintro ⟨x, hx, hw⟩; exact ⟨x, tidy_sub hr x hx, hw⟩
  · rintro ⟨x, hx, hw⟩
    obtain ⟨z, hz, hxz⟩ := tidy_over hr hx
    exact ⟨z, hz, within_trans hs (hr x hx).1 hw hxz⟩
theorem sets_range {t : Int} {xs : List Int} (h : ∀ x ∈ xs, setOkB t x = true) : ∀ x ∈ xs, 0 ≤ x ∧ x < 256 := fun x hx => by have := setOkB_lt (h x hx); omega
theorem tidy_ok {t : Int} {xs : List Int} (hne : xs ≠ []) (h : ∀ x ∈ xs, setOkB t x = true) : issueOkB t (tidyL xs) = true := by
  have hr := sets_range h
  have hp : pairB (tidyL xs) = true := pair_iff (tidy_asc xs) fun x hx y hy => ((tidy_mem hr x).1 hx).2 y ((tidy_mem hr y).1 hy).1
  have hr2 : ∀ x ∈ tidyL xs, 0 ≤ x ∧ x < 256 := fun x hx => hr x (tidy_sub hr x hx)
  obtain ⟨x, hx⟩ := List.exists_mem_of_ne_nil xs hne
  obtain ⟨z, hz, _⟩ := tidy_over hr hx
  unfold issueOkB partsOkB
  simp only [Bool.and_eq_true, decide_eq_true_eq, List.all_eq_true]
  exact ⟨⟨⟨List.length_pos_of_mem hz, apart_bound hr2 hp⟩, fun y hy => h y (tidy_sub hr y hy)⟩, hp⟩
theorem issue_nonempty {t : Int} {xs : List Int} (h : issueOkB t xs = true) : xs ≠ [] := by
  have := issue_ne h; intro e; subst e; simp at this
/-- Two issues with the same sets within are the same. -/
theorem any_ext {t : Int} {xs ys : List Int} (hx : issueOkB t xs = true) (hy : issueOkB t ys = true) (h : ∀ s, 0 ≤ s → s ≤ allOf t → anyWithin s xs = anyWithin s ys) : xs = ys := by
  obtain ⟨h1, h3⟩ := issue_things hx
  refine settles_same hx hy fun k hk0 hk => ?_
  unfold settlesB
  rw [hx, hy, setOk_of h1 h3 hk0 hk, h k hk0 hk]
theorem settles_any {t : Int} {xs : List Int} (hx : issueOkB t xs = true) {k : Int} (hk0 : 0 ≤ k) (hk : k ≤ allOf t) : settlesB t xs k = anyWithin k xs := by
  obtain ⟨h1, h3⟩ := issue_things hx
  unfold settlesB
  rw [hx, setOk_of h1 h3 hk0 hk]; rfl
theorem within_andI_left (a b : Int) : withinB (andI a b) a = true := by
  rw [within_iff (andI_nonneg _ _)]; intro i hi
  change ((((a.toNat &&& b.toNat : Nat) : Int)).toNat).testBit i = true at hi
  rw [Int.toNat_natCast, Nat.testBit_and, Bool.and_eq_true] at hi; exact hi.1
theorem within_andI_right (a b : Int) : withinB (andI a b) b = true := by
  rw [within_iff (andI_nonneg _ _)]; intro i hi
  change ((((a.toNat &&& b.toNat : Nat) : Int)).toNat).testBit i = true at hi
  rw [Int.toNat_natCast, Nat.testBit_and, Bool.and_eq_true] at hi; exact hi.2
theorem within_andI {c a b : Int} (hc : 0 ≤ c) (h1 : withinB c a = true) (h2 : withinB c b = true) : withinB c (andI a b) = true := by
  rw [within_iff hc] at *
  intro i hi
  show ((((a.toNat &&& b.toNat : Nat) : Int)).toNat).testBit i = true
  rw [Int.toNat_natCast, Nat.testBit_and, h1 i hi, h2 i hi]; rfl
theorem any_down {s u : Int} {xs : List Int} (hu : 0 ≤ u) (hs : 0 ≤ s) (h : withinB u s = true) (ha : anyWithin s xs = true) : anyWithin u xs = true := by
  obtain ⟨x, hx, hw⟩ := any_iff.1 ha
  exact any_iff.2 ⟨x, hx, within_trans hu hs h hw⟩
theorem andI_ok {t a b : Int} (ha : setOkB t a = true) : setOkB t (andI a b) = true := by
  have := setOkB_lt ha
  exact setOk_of this.1 this.2.1 (andI_nonneg _ _) (Int.le_trans (andI_le a b this.2.2.1) this.2.2.2.1)

def bothX (a b : List Int) : List Int := a.flatMap fun x => b.map fun y => andI x y
def bothL (t : Int) (a b : List Int) : List Int := if (issueOkB t a && issueOkB t b) = true then tidyL (bothX a b) else []
def eitherL (t : Int) (a b : List Int) : List Int := if (issueOkB t a && issueOkB t b) = true then tidyL (a ++ b) else []
def goodB (a b : List Int) (s : Int) : Bool := a.all fun x => anyWithin (andI s x) b
def ifTo (a b : List Int) (k : Nat) : List Int := ((List.range k).map fun n : Nat => (n : Int)).filter (goodB a b)
def ifL (t : Int) (a b : List Int) : List Int := if (issueOkB t a && issueOkB t b) = true then tidyL (ifTo a b (allOf t + 1).toNat) else []
def notL (t : Int) (a : List Int) : List Int := if issueOkB t a = true then ifL t a [0] else []
def whetherL (t : Int) (a : List Int) : List Int := if issueOkB t a = true then eitherL t a (notL t a) else []
section
variable {t : Int} {a b c : List Int}
theorem mem_bothX {s : Int} : s ∈ bothX a b ↔ ∃ x ∈ a, ∃ y ∈ b, andI x y = s := by unfold bothX; simp [List.mem_flatMap]
theorem bothX_sets (ha : issueOkB t a = true) : ∀ s ∈ bothX a b, setOkB t s = true := by
  intro s hs
  obtain ⟨x, hx, y, _, rfl⟩ := mem_bothX.1 hs
  exact andI_ok (issue_sets ha x hx)
theorem bothX_any (s : Int) (hs : 0 ≤ s) : anyWithin s (bothX a b) = (anyWithin s a && anyWithin s b) := by
  rw [Bool.eq_iff_iff, Bool.and_eq_true, any_iff, any_iff, any_iff]
  constructor
  · rintro ⟨z, hz, hw⟩
    obtain ⟨x, hx, y, hy, rfl⟩ := mem_bothX.1 hz
    exact ⟨⟨x, hx, within_trans hs (andI_nonneg _ _) hw (within_andI_left _ _)⟩, y, hy, within_trans hs (andI_nonneg _ _) hw (within_andI_right _ _)⟩
  · rintro ⟨⟨x, hx, h1⟩, y, hy, h2⟩
    exact ⟨_, mem_bothX.2 ⟨x, hx, y, hy, rfl⟩, within_andI hs h1 h2⟩
theorem both_eq (ha : issueOkB t a = true) (hb : issueOkB t b = true) : bothL t a b = tidyL (bothX a b) := by unfold bothL; rw [ha, hb]; rfl
theorem both_ok (ha : issueOkB t a = true) (hb : issueOkB t b = true) : issueOkB t (bothL t a b) = true := by
  rw [both_eq ha hb]
  refine tidy_ok (fun e => ?_) (bothX_sets ha)
  obtain ⟨x, hx⟩ := List.exists_mem_of_ne_nil a (issue_nonempty ha)
  obtain ⟨y, hy⟩ := List.exists_mem_of_ne_nil b (issue_nonempty hb)
  have := mem_bothX.2 ⟨x, hx, y, hy, rfl⟩
  rw [e] at this; cases this
theorem both_any (ha : issueOkB t a = true) (hb : issueOkB t b = true) {s : Int} (hs : 0 ≤ s) : anyWithin s (bothL t a b) = (anyWithin s a && anyWithin s b) := by
  rw [both_eq ha hb, tidy_any (sets_range (bothX_sets ha)) hs, bothX_any s hs]

theorem either_eq (ha : issueOkB t a = true) (hb : issueOkB t b = true) : eitherL t a b = tidyL (a ++ b) := by unfold eitherL; rw [ha, hb]; rfl
theorem eitherX_sets (ha : issueOkB t a = true) (hb : issueOkB t b = true) : ∀ s ∈ a ++ b, setOkB t s = true := by
  intro s hs
  rcases List.mem_append.1 hs with h | h
  · exact issue_sets ha s h
  · exact issue_sets hb s h
theorem either_ok (ha : issueOkB t a = true) (hb : issueOkB t b = true) : issueOkB t (eitherL t a b) = true := by
  rw [either_eq ha hb]
  refine tidy_ok (fun e => ?_) (eitherX_sets ha hb)
  exact issue_nonempty ha (List.append_eq_nil_iff.1 e).1
theorem either_any (ha : issueOkB t a = true) (hb : issueOkB t b = true) {s : Int} (hs : 0 ≤ s) : anyWithin s (eitherL t a b) = (anyWithin s a || anyWithin s b) := by
  rw [either_eq ha hb, tidy_any (sets_range (eitherX_sets ha hb)) hs]
  unfold anyWithin; rw [List.any_append]

theorem good_iff {s : Int} : goodB a b s = true ↔ ∀ u, 0 ≤ u → withinB u s = true → anyWithin u a = true → anyWithin u b = true := by
  unfold goodB
  rw [List.all_eq_true]
  constructor
  · intro h u hu hus hua
    obtain ⟨x, hx, hw⟩ := any_iff.1 hua
    exact any_down hu (andI_nonneg _ _) (within_andI hu hus hw) (h x hx)
  · intro h x hx
    exact h _ (andI_nonneg _ _) (within_andI_left _ _) (any_iff.2 ⟨x, hx, within_andI_right _ _⟩)
theorem good_down {s u : Int} (hu : 0 ≤ u) (h : withinB u s = true) (hg : goodB a b s = true) : goodB a b u = true := by
  unfold goodB at *
  rw [List.all_eq_true] at *
  intro x hx
  refine any_down (andI_nonneg _ _) (andI_nonneg _ _) (within_andI (andI_nonneg _ _) (within_trans (andI_nonneg _ _) hu (within_andI_left _ _) h) (within_andI_right _ _)) (hg x hx)
theorem mem_ifTo {k : Nat} {s : Int} : s ∈ ifTo a b k ↔ (0 ≤ s ∧ s < k ∧ goodB a b s = true) := by
  unfold ifTo
  rw [List.mem_filter, List.mem_map]
  constructor
  · rintro ⟨⟨n, hn, rfl⟩, h⟩
    rw [List.mem_range] at hn
    exact ⟨by omega, by omega, h⟩
  · rintro ⟨h0, h1, h⟩
    exact ⟨⟨s.toNat, by rw [List.mem_range]; omega, by omega⟩, h⟩
theorem issue_pos (ha : issueOkB t a = true) : ∀ x ∈ a, 0 ≤ x := fun x hx => (issue_range ha x hx).1
theorem if_eq (ha : issueOkB t a = true) (hb : issueOkB t b = true) : ifL t a b = tidyL (ifTo a b (allOf t + 1).toNat) := by unfold ifL; rw [ha, hb]; rfl
theorem ifX_sets (ha : issueOkB t a = true) : ∀ s ∈ ifTo a b (allOf t + 1).toNat, setOkB t s = true := by
  intro s hs
  obtain ⟨h0, h1, _⟩ := mem_ifTo.1 hs
  obtain ⟨h2, h3⟩ := issue_things ha
  exact setOk_of h2 h3 h0 (by have := allOf_lt t; omega)
theorem good_zero (hb : issueOkB t b = true) : goodB a b 0 = true := by
  unfold goodB; rw [List.all_eq_true]; intro x _
  obtain ⟨y, hy⟩ := List.exists_mem_of_ne_nil b (issue_nonempty hb)
  exact any_iff.2 ⟨y, hy, by have e : andI 0 x = 0 := by unfold andI; simp
                             rw [e]; exact within_zero y⟩
theorem if_ok (ha : issueOkB t a = true) (hb : issueOkB t b = true) : issueOkB t (ifL t a b) = true := by
  rw [if_eq ha hb]
  refine tidy_ok (fun e => ?_) (ifX_sets ha)
  have := mem_ifTo (a := a) (b := b) (k := (allOf t + 1).toNat) (s := 0)
  rw [e] at this
  exact absurd (this.2 ⟨by omega, by have := allOf_lt t; omega, good_zero hb⟩) (by simp)
theorem if_any (ha : issueOkB t a = true) (hb : issueOkB t b = true) {s : Int} (hs : 0 ≤ s) (hs2 : s ≤ allOf t) : anyWithin s (ifL t a b) = goodB a b s := by
  rw [if_eq ha hb, tidy_any (sets_range (ifX_sets ha)) hs, Bool.eq_iff_iff, any_iff]
  constructor
  · rintro ⟨z, hz, hw⟩
    obtain ⟨h0, _, hg⟩ := mem_ifTo.1 hz
    exact good_down hs hw hg
  · intro hg
    exact ⟨s, mem_ifTo.2 ⟨hs, by omega, hg⟩, within_refl s hs⟩

/-! The laws. -/
theorem all_pow (h1 : 1 ≤ t) (h3 : t ≤ 3) : ∃ n : Nat, n ≤ 8 ∧ allOf t = (2 ^ n : Nat) - 1 := by
  have : t = 1 ∨ t = 2 ∨ t = 3 := by omega
  rcases this with rfl | rfl | rfl
  · exact ⟨2, by omega, rfl⟩
  · exact ⟨4, by omega, rfl⟩
  · exact ⟨8, by omega, rfl⟩
/-- Within the rest is: nothing in common. -/
theorem comp_within {s g : Int} (h1 : 1 ≤ t) (h3 : t ≤ 3) (hs : 0 ≤ s) (hs2 : s ≤ allOf t) (hg : 0 ≤ g) (hg2 : g ≤ allOf t) : withinB s (allOf t - g) = true ↔ andI s g = 0 := by
  obtain ⟨n, _, hn⟩ := all_pow h1 h3
  rw [hn] at hs2 hg2 ⊢
  rw [within_iff hs]
  have hsl : s.toNat < 2 ^ n := by omega
  have hgl : g.toNat < 2 ^ n := by omega
  have e : (((2 ^ n : Nat) : Int) - 1 - g).toNat = 2 ^ n - (g.toNat + 1) := by omega
  rw [e]
  constructor
  · intro h
    have : s.toNat &&& g.toNat = 0 := by
      apply Nat.eq_of_testBit_eq
      intro i
      rw [Nat.testBit_and, Nat.zero_testBit]
      cases hi : s.toNat.testBit i
      · rfl
      · have := h i hi
        rw [Nat.testBit_two_pow_sub_succ hgl, Bool.and_eq_true] at this
        cases hgi : g.toNat.testBit i
        · rfl
        · rw [hgi] at this; simp at this
    unfold andI; omega
  · intro h i hi
    have h : s.toNat &&& g.toNat = 0 := by unfold andI at h; omega
    have h2 := congrArg (fun x => x.testBit i) h
    simp only [Nat.testBit_and, hi, Bool.true_and, Nat.zero_testBit] at h2
    rw [Nat.testBit_two_pow_sub_succ hgl, h2]
    have : i < n := by
      rcases Nat.lt_or_ge i n with h | h
      · exact h
      · rw [Nat.testBit_lt_two_pow (Nat.lt_of_lt_of_le hsl (Nat.pow_le_pow_right (by omega) h))] at hi; cases hi
    simp [this]
theorem within_nothing {s : Int} (hs : 0 ≤ s) : withinB s 0 = true ↔ s = 0 := by
  constructor
  · intro h; have := within_le h (by omega); omega
  · rintro rfl; exact within_refl 0 (by omega)
theorem union_all (ha : issueOkB t a = true) : 0 ≤ unionI a ∧ unionI a ≤ allOf t := by
  have := setOkB_lt (union_ok ha); omega
/-- Nothing in common with what is granted is: nothing but the empty set settles it within. -/
theorem not_good (ha : issueOkB t a = true) {s : Int} : goodB a [0] s = true ↔ andI s (unionI a) = 0 := by
  have hp := issue_pos ha
  have hu := union_all ha
  rw [good_iff]
  constructor
  · intro h
    have key : ∀ x ∈ a, andI s x = 0 := fun x hx => by
      have := h _ (andI_nonneg _ _) (within_andI_left s x) (any_iff.2 ⟨x, hx, within_andI_right _ _⟩)
      obtain ⟨z, hz, hw⟩ := any_iff.1 this
      rw [List.mem_singleton] at hz; subst hz
      exact (within_nothing (andI_nonneg _ _)).1 hw
    -- what is granted is within the rest
    obtain ⟨h1, h3⟩ := issue_things ha
    have hw : withinB (unionI a) (allOf 3 - andI s (allOf 3)) = true := by
      refine union_least hp fun x hx => ?_
      have hx2 := issue_range ha x hx
      rw [comp_within (t := 3) (by omega) (by omega) hx2.1 (by have : allOf 3 = 255 := rfl; omega) (andI_nonneg _ _) (andI_le' _ _ (by decide))]
      have := key x hx
      have h2 : withinB (andI x (andI s (allOf 3))) (andI s x) = true := within_andI (andI_nonneg _ _) (within_trans (andI_nonneg _ _) (andI_nonneg _ _) (within_andI_right _ _) (within_andI_left _ _)) (within_andI_left _ _)
      rw [this] at h2
      exact (within_nothing (andI_nonneg _ _)).1 h2
    have hur := union_range (issue_range ha)
    rw [comp_within (t := 3) (by omega) (by omega) hu.1 (by have : allOf 3 = 255 := rfl; omega) (andI_nonneg _ _) (andI_le' _ _ (by decide))] at hw
    have h4 : withinB (andI s (unionI a)) (andI (unionI a) (andI s (allOf 3))) = true := by
      refine within_andI (andI_nonneg _ _) (within_andI_right _ _) (within_andI (andI_nonneg _ _) (within_andI_left _ _) ?_)
      refine within_trans (andI_nonneg _ _) hu.1 (within_andI_right _ _) ?_
      exact (within_all (t := 3) (by omega) (by omega) hu.1).2 (by have : allOf 3 = 255 := rfl; omega)
    rw [hw] at h4
    exact (within_nothing (andI_nonneg _ _)).1 h4
  · intro h u hu0 hus hua
    obtain ⟨x, hx, hw⟩ := any_iff.1 hua
    have h5 : withinB u (andI s (unionI a)) = true := within_andI hu0 hus (within_trans hu0 (hp x hx) hw (mem_union hp hx))
    rw [h] at h5
    exact any_iff.2 ⟨0, by simp, h5⟩
theorem zero_issue (h1 : 1 ≤ t) (h3 : t ≤ 3) : issueOkB t [0] = true := issue_one (setOk_of h1 h3 (by omega) (allOf_lt t).1)
theorem rest_ok (ha : issueOkB t a = true) : setOkB t (allOf t - unionI a) = true := by
  obtain ⟨h1, h3⟩ := issue_things ha
  have := union_all ha
  exact setOk_of h1 h3 (by omega) (by omega)
theorem not_eq (ha : issueOkB t a = true) : notL t a = ifL t a [0] := by unfold notL; rw [ha]; rfl
theorem not_ok (ha : issueOkB t a = true) : issueOkB t (notL t a) = true := by
  obtain ⟨h1, h3⟩ := issue_things ha
  rw [not_eq ha]; exact if_ok ha (zero_issue h1 h3)
theorem any_one (s g : Int) : anyWithin s [g] = withinB s g := by unfold anyWithin; simp
theorem law_not (ha : issueOkB t a = true) : notL t a = [allOf t - unionI a] := by
  obtain ⟨h1, h3⟩ := issue_things ha
  have hu := union_all ha
  refine any_ext (not_ok ha) (issue_one (rest_ok ha)) fun s h0 hs => ?_
  rw [not_eq ha, if_any ha (zero_issue h1 h3) h0 hs, any_one, Bool.eq_iff_iff, not_good ha, comp_within h1 h3 h0 hs hu.1 hu.2]
theorem union_tidy {xs : List Int} (hr : ∀ x ∈ xs, 0 ≤ x ∧ x < 256) : unionI (tidyL xs) = unionI xs := by
  have hp : ∀ x ∈ xs, 0 ≤ x := fun x hx => (hr x hx).1
  have hpt : ∀ x ∈ tidyL xs, 0 ≤ x := fun x hx => hp x (tidy_sub hr x hx)
  have h1 := union_range hr
  have h2 := union_range (xs := tidyL xs) fun x hx => hr x (tidy_sub hr x hx)
  refine within_anti h2.1 h1.1 (union_least hpt fun x hx => mem_union hp (tidy_sub hr x hx)) (union_least hp fun x hx => ?_)
  obtain ⟨z, hz, hw⟩ := tidy_over hr hx
  exact within_trans (hp x hx) (hpt z hz) hw (mem_union hpt hz)
theorem fold_bit : ∀ (xs : List Int) (s : Int) (i : Nat), (xs.foldl orI s).toNat.testBit i = (s.toNat.testBit i || xs.any fun x => x.toNat.testBit i)
  | [], s, i => by simp
  | x :: r, s, i => by
    rw [List.foldl_cons, fold_bit r, List.any_cons]
    show ((((s.toNat ||| x.toNat : Nat) : Int)).toNat.testBit i || _) = _
    rw [Int.toNat_natCast, Nat.testBit_or, Bool.or_assoc]
theorem union_bit (xs : List Int) (i : Nat) : (unionI xs).toNat.testBit i = xs.any fun x => x.toNat.testBit i := by
  unfold unionI; rw [fold_bit]; simp
theorem whether_eq (ha : issueOkB t a = true) : whetherL t a = eitherL t a (notL t a) := by unfold whetherL; rw [ha]; rfl
theorem whether_ok (ha : issueOkB t a = true) : issueOkB t (whetherL t a) = true := by rw [whether_eq ha]; exact either_ok ha (not_ok ha)
end
end Go.Proofs.YtmdogidflaplkaaGreat

namespace Go.Proofs.YtmdogidflaplkaaGreat
open Go.RowKit

/-- A slice of numbers that came in: its length, its capacity, what it reads as. -/
structure Row (w : World) (A : Option Addr) (n c : Nat) (xs : List Int) : Prop where
  hn : n = xs.length
  hl : n ≤ 1048576
  hc : n ≤ c
  hm : c ≤ maxLen
  hA : Nums .i64 w A xs
theorem Row.below {w w' : World} {A : Option Addr} {n c : Nat} {xs : List Int} (h : Row w A n c xs) (hb : Below w.heap.size w w') : Row w' A n c xs := ⟨h.hn, h.hl, h.hc, h.hm, h.hA.below hb⟩

theorem Row.drewN {w : World} {A : Option Addr} {n c : Nat} {xs : List Int} (h : Row w A n c xs) (m : Nat) : Row (w.drewN m) A n c xs := ⟨h.hn, h.hl, h.hc, h.hm, h.hA⟩

def okTwo (t : Int) (a b : List Int) : Bool := issueOkB t a && issueOkB t b
set_option maxHeartbeats 1000000 in
theorem iIssuesOk (t : Int) (A B : Option Addr) (na ca nb cb : Nat) (a b : List Int) (w : World) (ha : Row w A na ca a) (hb : Row w B nb cb b) :
    Calls Tryz.prog 131 #[.int .i64 t, .slice A na ca, .slice B nb cb] w fun e w' => e = .returned (.bool (okTwo t a b)) ∧ ∃ n, w' = w.drewN n := by
  have HA := Lib.hid ha
  have HB := Lib.hid hb
  clear ha hb
  obtain ⟨x, HX⟩ : ∃ x, Hid (issueOkB t a = x) := ⟨_, rfl⟩
  obtain ⟨y, HY⟩ : ∃ y, Hid (issueOkB t b = y) := ⟨_, rfl⟩
  have HF : Hid (okTwo t a b = (x && y)) := by unfold Hid okTwo; rw [HX.out, HY.out]
  cases x
  · go_enter Tryz.func131, Tryz.ntmps131
    go_wp2_with fail
    refine (iIssueOk_is HX _ _ _ _ HA.out.hn HA.out.hl HA.out.hc HA.out.hm HA.out.hA).mono ?_
    rintro e w' ⟨rfl, m1, rfl⟩
    go_wp2_with fail
    go_ret
    exact ⟨ret_bool HF.out.symm, _, rfl⟩
  · go_enter Tryz.func131, Tryz.ntmps131
    go_wp2_with fail
    refine (iIssueOk_is HX _ _ _ _ HA.out.hn HA.out.hl HA.out.hc HA.out.hm HA.out.hA).mono ?_
    rintro e w' ⟨rfl, m2, rfl⟩
    go_wp2_with fail
    refine (iIssueOk_is HY _ _ _ _ HB.out.hn HB.out.hl HB.out.hc HB.out.hm (by exact HB.out.hA)).mono ?_
    rintro e w' ⟨rfl, m3, rfl⟩
    go_wp2_with fail
    go_ret
    exact ⟨ret_bool (by rw [HF.out]; rfl), _, rfl⟩
theorem iIssuesOk_is {t : Int} {a b : List Int} {x : Bool} (h : Hid (okTwo t a b = x)) {A B : Option Addr} {na ca nb cb : Nat} {w : World} (ha : Row w A na ca a) (hb : Row w B nb cb b) :
    Calls Tryz.prog 131 #[.int .i64 t, .slice A na ca, .slice B nb cb] w fun e w' => e = .returned (.bool x) ∧ ∃ n, w' = w.drewN n :=
  (iIssuesOk t A B na ca nb cb a b w ha hb).mono fun _ _ ⟨he, hw⟩ => ⟨he.trans (ret_bool h.out), hw⟩
theorem okTwo_ok {t : Int} {a b : List Int} (h : okTwo t a b = true) : issueOkB t a = true ∧ issueOkB t b = true := by unfold okTwo at h; rwa [Bool.and_eq_true] at h

theorem iWithinAny_is {s : Int} {xs : List Int} {v : Bool} (h : Hid (anyWithin s xs = v)) (A : Option Addr) (n c : Nat) (w : World) (hn : n = xs.length) (hs : 0 ≤ s) (hs2 : s < 256) (hr : ∀ x ∈ xs, 0 ≤ x ∧ x < 256) (hl : n ≤ 1048576) (hA : Nums .i64 w A xs) :
    Calls Tryz.prog 114 #[.int .i64 s, .slice A n c] w fun e w' => e = .returned (.bool v) ∧ w = w' :=
  (iWithinAny s A n c xs w hn hs hs2 hr hl hA).mono fun _ _ ⟨he, hw⟩ => ⟨he.trans (ret_bool h.out), hw⟩

theorem good_snoc {a b : List Int} {s x : Int} {k : Nat} (hx : Hid (a[k]? = some x)) : goodB (a.take (k + 1)) b s = (goodB (a.take k) b s && anyWithin (andI s x) b) := by
  unfold goodB; rw [take_snoc hx, List.all_append]; simp
theorem good_miss {a b : List Int} {s x : Int} {k : Nat} (hx : Hid (a[k]? = some x)) (h : anyWithin (andI s x) b = false) : goodB a b s = false := by
  unfold goodB; rw [List.all_eq_false]; exact ⟨x, elem_mem hx, by rw [h]; simp⟩

set_option maxHeartbeats 1000000 in
theorem iCarries (s : Int) (A B : Option Addr) (na ca nb cb : Nat) (a b : List Int) (w : World) (hs : 0 ≤ s) (hs2 : s < 256) (ha : Row w A na ca a) (hb : Row w B nb cb b) (hra : ∀ x ∈ a, 0 ≤ x ∧ x < 256) (hrb : ∀ x ∈ b, 0 ≤ x ∧ x < 256) :
    Calls Tryz.prog 134 #[.int .i64 s, .slice A na ca, .slice B nb cb] w fun e w' => e = .returned (.bool (goodB a b s)) ∧ w = w' := by
  have HA := Lib.hid ha
  have HB := Lib.hid hb
  have HRA := Lib.hid hra
  have HRB := Lib.hid hrb
  obtain rfl := ha.hn
  have hla := ha.hl
  clear ha hb hra hrb
  go_enter Tryz.func134, Tryz.ntmps134
  go_wp2
  go_loop [11] (fun i => ∃ k : Nat, k ≤ a.length ∧ i = .int .i64 k ∧ Hid (goodB (a.take k) b s = true)) (fun i => a.length - (Go.RowKit.intOf i).toNat)
  case atStart => exact ⟨0, Nat.zero_le _, rfl, rfl⟩
  case round =>
    obtain ⟨k, hk, rfl, hsofar⟩ := hrel
    by_cases hlt : k < a.length
    · obtain ⟨bb, off, x, rfl, hcell, hx, _⟩ := HA.out.hA.elem hlt
      obtain ⟨he1, he2⟩ := HRA.out x (elem_mem hx)
      have HBI := Lib.hid (bits_and s x hs (by omega) he1 (by omega))
      have hand0 := andI_nonneg s x
      have hand1 := andI_le s x hs
      rcases hw : anyWithin (andI s x) b with _ | _
      · have HW := Lib.hid hw
        clear hw
        go_wp2_with fail
        rw [HBI.out]
        refine (iWithinAny_is HW _ _ _ _ HB.out.hn hand0 (by omega) HRB.out HB.out.hl HB.out.hA).mono ?_
        rintro e w' ⟨rfl, rfl⟩
        go_wp2_with fail
        go_ret
        exact ⟨ret_bool (by rw [good_miss hx HW.out]), rfl⟩
      · have HW := Lib.hid hw
        clear hw
        go_wp2_with fail
        rw [HBI.out]
        refine (iWithinAny_is HW _ _ _ _ HB.out.hn hand0 (by omega) HRB.out HB.out.hl HB.out.hA).mono ?_
        rintro e w' ⟨rfl, rfl⟩
        go_wp2_with fail
        go_round
        case rel => exact ⟨k + 1, by omega, by go_num, by unfold Hid; rw [good_snoc hx, hsofar.out, HW.out]; rfl⟩
        case measure => simp [Go.RowKit.intOf]; omega
    · obtain rfl : k = a.length := by omega
      go_wp2
      go_ret
      exact ⟨ret_bool (by rw [← hsofar.out, List.take_length]), rfl⟩

set_option maxHeartbeats 1000000 in
theorem sL2Settles (A : Option Addr) (n c : Nat) (xs : List Int) (s : Int) (w : World) (hn : n = xs.length) (hs : 0 ≤ s) (hs2 : s < 256) (hr : ∀ x ∈ xs, 0 ≤ x ∧ x < 256) (hl : n ≤ 1048576) (hA : Nums .i64 w A xs) :
    Calls Tryz.prog 78 #[.slice A n c, .int .i64 s] w fun e w' => e = .returned (.bool (anyWithin s xs)) ∧ ∃ n, w' = w.drewN n := by
  subst hn
  have HA := Lib.hid hA
  have HR := Lib.hid hr
  clear hA hr
  go_enter Tryz.func78, Tryz.ntmps78
  go_wp2
  go_loopw [5] (fun i wr => ∃ k : Nat, k ≤ xs.length ∧ i = .int .i64 k ∧ Hid (anyWithin s (xs.take k) = false) ∧ ∃ n, wr = w.drewN n) (fun i _ => xs.length - (Go.RowKit.intOf i).toNat)
  case atStart => exact ⟨0, Nat.zero_le _, rfl, rfl, 0, rfl⟩
  case round =>
    obtain ⟨k, hk, rfl, hsofar, n, rfl⟩ := hrel
    by_cases hlt : k < xs.length
    · obtain ⟨b, off, x, rfl, hcell, hx, _⟩ := HA.out.elem hlt
      obtain ⟨he1, he2⟩ := HR.out x (elem_mem hx)
      rcases hw : withinB s x with _ | _
      · have HW := Lib.hid hw
        clear hw
        go_wp2_with fail
        refine (sWithin_is HW hs hs2 he1 he2 _).mono ?_
        rintro e w' ⟨rfl, m1, rfl⟩
        go_wp2_with fail
        go_roundw
        case rel => exact ⟨k + 1, by omega, by go_num, by unfold Hid; rw [anyWithin_snoc hx, hsofar.out, HW.out]; rfl, _, rfl⟩
        case measure => simp [Go.RowKit.intOf]; omega
      · have HW := Lib.hid hw
        clear hw
        go_wp2_with fail
        refine (sWithin_is HW hs hs2 he1 he2 _).mono ?_
        rintro e w' ⟨rfl, m2, rfl⟩
        go_wp2_with fail
        go_ret
        exact ⟨ret_bool (by rw [anyWithin_hit hx HW.out]), _, rfl⟩
    · obtain rfl : k = xs.length := by omega
      have HN : Hid (anyWithin s xs = false) := by unfold Hid; rw [← hsofar.out, List.take_length]
      clear hsofar
      go_wp2
      go_ret
      exact ⟨ret_bool (by rw [HN.out]), _, rfl⟩
theorem sL2Settles_is {s : Int} {xs : List Int} {v : Bool} (h : Hid (anyWithin s xs = v)) (A : Option Addr) (n c : Nat) (w : World) (hn : n = xs.length) (hs : 0 ≤ s) (hs2 : s < 256) (hr : ∀ x ∈ xs, 0 ≤ x ∧ x < 256) (hl : n ≤ 1048576) (hA : Nums .i64 w A xs) :
    Calls Tryz.prog 78 #[.slice A n c, .int .i64 s] w fun e w' => e = .returned (.bool v) ∧ ∃ n, w' = w.drewN n :=
  (sL2Settles A n c xs s w hn hs hs2 hr hl hA).mono fun _ _ ⟨he, hw⟩ => ⟨he.trans (ret_bool h.out), hw⟩

end Go.Proofs.YtmdogidflaplkaaGreat

namespace Go.Proofs.YtmdogidflaplkaaGreat
open Go.RowKit

theorem Owns.row {w : World} {base : Nat} {A : Option Addr} {n c : Nat} {xs : List Int} (h : Owns w base (.slice A n c) xs) (hl : xs.length ≤ 1048576) : Row w A n c xs := by
  obtain ⟨A', c', e, hc, hm, hn, _⟩ := h.form
  simp only [Value.slice.injEq] at e
  obtain ⟨rfl, rfl, rfl⟩ := e
  exact ⟨rfl, hl, hc, hm, hn⟩
def bothTo (a b : List Int) (k j : Nat) : List Int := ((a.take k).flatMap fun x => b.map fun y => andI x y) ++ (match a[k]? with | some x => (b.take j).map fun y => andI x y | none => [])
theorem bothTo_zero (a b : List Int) : bothTo a b 0 0 = [] := by unfold bothTo; cases a[0]? <;> simp
theorem bothTo_in {a b : List Int} {k j : Nat} {x y : Int} (hx : Hid (a[k]? = some x)) (hy : Hid (b[j]? = some y)) : bothTo a b k (j + 1) = bothTo a b k j ++ [andI x y] := by
  unfold bothTo; rw [hx.out]; simp only []; rw [take_snoc hy]; simp
theorem bothTo_out {a b : List Int} {k : Nat} {x : Int} (hx : Hid (a[k]? = some x)) : bothTo a b (k + 1) 0 = bothTo a b k b.length := by
  unfold bothTo; rw [hx.out, take_snoc hx]; simp only [List.take_length, List.take_zero, List.map_nil]
  cases a[k + 1]? <;> simp
theorem bothTo_end (a b : List Int) : bothTo a b a.length 0 = bothX a b := by
  unfold bothTo bothX; rw [List.take_length]; simp
theorem bothX_len (a b : List Int) : (bothX a b).length = a.length * b.length := by
  unfold bothX
  induction a with
  | nil => simp
  | cons x r ih => rw [List.flatMap_cons, List.length_append, ih, List.length_map, List.length_cons, Nat.succ_mul]; omega
theorem bothTo_len (a b : List Int) (k j : Nat) (hk : k ≤ a.length) : (bothTo a b k j).length ≤ (k + 1) * b.length := by
  unfold bothTo
  rw [List.length_append]
  have h1 : ((a.take k).flatMap fun x => b.map fun y => andI x y).length = k * b.length := by
    have := bothX_len (a.take k) b
    unfold bothX at this
    rw [this, List.length_take, Nat.min_eq_left hk]
  rw [h1, Nat.succ_mul]
  refine Nat.add_le_add_left ?_ _
  cases a[k]? with
  | none => simp
  | some x => simp only [List.length_map, List.length_take]; omega
theorem bothTo_small {a b : List Int} (ha : a.length ≤ 70) (hb : b.length ≤ 70) (k j : Nat) (hk : k ≤ a.length) : (bothTo a b k j).length ≤ 4970 :=
  Nat.le_trans (bothTo_len a b k j hk) (Nat.le_trans (Nat.mul_le_mul (show k + 1 ≤ 71 by omega) hb) (by omega))
theorem both_nil {t : Int} {a b : List Int} (h : okTwo t a b = false) : bothL t a b = [] := by
  unfold okTwo at h; unfold bothL; rw [h]; rfl
theorem bel_none {B : Nat} {a w w' : World} (h : Below B a w) (hg : w.grownBy w' none) (hB : B ≤ w.heap.size) : Below B a w' :=
  h.grown hg hB (fun k e => by cases e)

set_option maxRecDepth 100000 in
set_option maxHeartbeats 4000000 in
theorem iBothIssues (t : Int) (A B : Option Addr) (na ca nb cb : Nat) (a b : List Int) (w : World) (ha : Row w A na ca a) (hb : Row w B nb cb b) :
    Calls Tryz.prog 124 #[.int .i64 t, .slice A na ca, .slice B nb cb] w fun e w' => ∃ v, e = .returned v ∧ Owns w' w.heap.size v (bothL t a b) ∧ Below w.heap.size w w' := by
  have HA := Lib.hid ha
  have HB := Lib.hid hb
  obtain rfl := ha.hn
  obtain rfl := hb.hn
  clear ha hb
  obtain ⟨x, HX⟩ : ∃ x, Hid (okTwo t a b = x) := ⟨_, rfl⟩
  cases x
  · have HF := Lib.hid (both_nil HX.out)
    go_enter Tryz.func124, Tryz.ntmps124
    go_wp2_with fail
    refine (iIssuesOk_is HX HA.out HB.out).mono ?_
    rintro e w' ⟨rfl, m1, rfl⟩
    go_wp2_with fail
    go_ret
    exact ⟨_, rfl, by rw [HF.out]; exact Owns.nil _ _, bel_drewN (Below.refl _ _) _⟩
  · obtain ⟨h1, h2⟩ := okTwo_ok HX.out
    obtain ⟨hla, hla2⟩ := issue_ne h1
    obtain ⟨hlb, hlb2⟩ := issue_ne h2
    have HRA := Lib.hid (issue_range h1)
    have HRB := Lib.hid (issue_range h2)
    have HF := Lib.hid (both_eq h1 h2)
    have HS := Lib.hid (sets_range (bothX_sets (b := b) h1))
    obtain ⟨p, hp⟩ : ∃ p, p = a.length * b.length := ⟨_, rfl⟩
    have hp2 : p ≤ 4900 := by rw [hp]; exact Nat.le_trans (Nat.mul_le_mul hla2 hlb2) (by omega)
    have hp1 : 1 ≤ p := by rw [hp]; exact Nat.mul_pos hla hlb
    have HP : Hid ((a.length : Int) * (b.length : Int) = (p : Int)) := by unfold Hid; rw [hp]; push_cast; rfl
    have HP2 : Hid ((bothX a b).length = p) := by unfold Hid; rw [hp]; exact bothX_len a b
    obtain ⟨i0, hi, hz0, hz1, hz2⟩ := info_parts int_info
    clear hp h1 h2
    go_enter Tryz.func124, Tryz.ntmps124
    go_wp2_with fail
    refine (iIssuesOk_is HX HA.out HB.out).mono ?_
    rintro e w' ⟨rfl, m2, rfl⟩
    go_wp2_with (at_make; refine wpList_make_own _ rfl _ _ 101 rfl w.heap.size 3 i0 (.int .i64 0) 1 Tryz.underlying101 hi hz0 hz1 .i64 .i64 _ p rfl rfl (by rw [HP.out]; exact IntWalk.wrap64_in _ ⟨by omega, by omega⟩) (by rw [hz2]; omega) (by unfold maxLen; omega) (Nat.le_refl _) ?_; intro w1 hown1 hgrow1)
    clear hi hz0 hz1 hz2 HP
    have HB1 : Hid (Below w.heap.size w w1) := bel_none (w := w.drewN m2) (bel_drewN (Below.refl _ _) _) hgrow1 (Nat.le_refl _)
    have HO1 : Hid (Owns w1 w.heap.size (.slice (some ⟨w.heap.size, 0, none⟩) 0 p) []) := hown1
    clear hown1 hgrow1
    go_loopw [7, 25] (fun v i wr => ∃ k : Nat, k ≤ a.length ∧ i = .int .i64 k ∧ Owns wr w.heap.size v (bothTo a b k 0) ∧ Below w.heap.size w wr) (fun _ i _ => a.length - (Go.RowKit.intOf i).toNat)
    case atStart => exact ⟨0, Nat.zero_le _, rfl, by rw [bothTo_zero]; exact HO1.out, HB1.out⟩
    case round =>
      obtain ⟨k, hk, rfl, hown, hbel⟩ := hrel
      have HOW := Lib.hid hown
      have HBW := Lib.hid hbel
      clear hown hbel
      by_cases hlt : k < a.length
      · obtain ⟨bb, off, x, rfl, hcell, hx, _⟩ := (HA.out.hA.below HBW.out).elem hlt
        obtain ⟨he1, he2⟩ := HRA.out x (elem_mem hx)
        go_wp2_with fail
        clear hcell
        go_loopw [7, 31] (fun v i wi => ∃ j : Nat, j ≤ b.length ∧ i = .int .i64 j ∧ Owns wi w.heap.size v (bothTo a b k j) ∧ Below w.heap.size w wi) (fun _ i _ => b.length - (Go.RowKit.intOf i).toNat)
        case atStart => exact ⟨0, Nat.zero_le _, rfl, HOW.out, HBW.out⟩
        case round =>
          obtain ⟨j, hj, rfl, hown, hbel⟩ := hrel
          have HOI := Lib.hid hown
          have HBI := Lib.hid hbel
          clear hown hbel
          by_cases hjt : j < b.length
          · obtain ⟨bb2, off2, y, rfl, hcell, hy, _⟩ := (HB.out.hA.below HBI.out).elem hjt
            obtain ⟨hf1, hf2⟩ := HRB.out y (elem_mem hy)
            have HBA := Lib.hid (bits_and x y he1 (by omega) hf1 (by omega))
            have HT := Lib.hid (bothTo_in hx hy)
            have hsm := bothTo_small hla2 hlb2 k j hk
            go_wp2_with (at_builtin; refine wp_append1 (W := wr) rfl _ _ rfl w.heap.size u7 (bothTo a b k j) rfl HOI.out _ rfl (by omega) HBI.out.size ?_; intro v' w' hown' hgrow)
            have hb' := below_append HBI.out HBI.out.size HOI.out (Nat.le_refl _) hgrow
            rw [HBA.out] at hown'
            go_roundw
            case rel => exact ⟨j + 1, by omega, by go_num, by rw [HT.out]; exact hown', hb'⟩
            case measure => simp [Go.RowKit.intOf]; omega
          · obtain rfl : j = b.length := by omega
            have HT := Lib.hid (bothTo_out (b := b) hx)
            go_wp2_with fail
            go_roundw
            case rel => exact ⟨k + 1, by omega, by go_num, by rw [HT.out]; exact HOI.out, HBI.out⟩
            case measure => simp [Go.RowKit.intOf]; omega
      · obtain rfl : k = a.length := by omega
        have HE : Hid (bothTo a b a.length 0 = bothX a b) := bothTo_end a b
        rw [HE.out] at HOW
        obtain ⟨A1, c1, rfl, hc1, hm1, hn1, _⟩ := HOW.out.form
        have HN1 := Lib.hid hn1
        have hpos : 1 ≤ (bothX a b).length := by rw [HP2.out]; exact hp1
        have hle : (bothX a b).length ≤ 1048576 := by rw [HP2.out]; omega
        clear hm1 hn1
        go_wp2_with fail
        refine (iGreatest _ _ _ (bothX a b) _ rfl hpos hle HS.out HN1.out).mono ?_
        rintro e w2 ⟨v, rfl, ho, hb⟩
        have HO2 := Lib.hid ho
        have HB2 := Lib.hid (bel_trans HBW.out hb)
        have hsz := HBW.out.size
        clear ho hb
        go_wp2_with fail
        go_ret
        exact ⟨_, rfl, by rw [HF.out]; exact HO2.out.base hsz, HB2.out⟩
end Go.Proofs.YtmdogidflaplkaaGreat

namespace Go.Proofs.YtmdogidflaplkaaGreat
open Go.RowKit

theorem wp_appendL {W : World} {ops : Array Oper} {rest : List Oper} {o : Oper} {a : Act} {Q : Exit → Act → World → Prop} (hgd : o.guard = none) (s x : Operand)
    (ho : o.op = .call { callee := .builtin .append, args := #[s, x], argTypes := #[101, 101] }) (base : Nat) (v : Value) (xs : List Int) (hs : a.eval s = v) (hown : Owns W base v xs)
    (ys : List Int) (ad : Option Addr) (m c : Nat) (hx : a.eval x = .slice ad m c) (hm : m = ys.length) (hpos : 1 ≤ m) (hn : Nums .i64 W ad ys) (hl : xs.length + m ≤ 1048576) (hb : base ≤ W.heap.size)
    (h : ∀ v' w', Owns w' base v' (xs ++ ys) → W.grownBy w' v.ownBlock → wpList Tryz.prog ops Q rest (a.put o.dst v') w') :
    wpList Tryz.prog ops Q (o :: rest) a W := by
  subst hm
  obtain ⟨i0, hi0, hz0, hz1, hz2⟩ := info_parts int_info
  obtain ⟨b, off, rfl, _, hc⟩ := hn hpos
  refine wpList_append_own _ hgd s x 101 ho base 3 i0 (.int .i64 0) 1 8 Tryz.underlying101 hi0 hz0 hz1 hz2 rfl (by decide) v xs.length (xs.map (Value.int .i64)) hs hown
    ⟨b, off, none⟩ ys.length c (ys.map (Value.int .i64)) hx (by simp) ?_ (fun u hu => ?_) (by simp only [maxLen]; omega) (by omega) hb ?_
  · intro j u hj
    rw [List.getElem?_map] at hj
    obtain ⟨y, hy, rfl⟩ := Option.map_eq_some_iff.1 hj
    obtain ⟨hlt, he⟩ := List.getElem?_eq_some_iff.1 hy
    have := hc j hlt
    have e : (⟨b, off, none⟩ : Addr).add j = ⟨b, off + j, none⟩ := by unfold Addr.add; split <;> simp_all
    rw [e, this, List.getD_eq_getElem?_getD, hy]; rfl
  · obtain ⟨y, _, rfl⟩ := List.mem_map.1 hu; rfl
  · intro v' w' h1 h2 _
    refine h v' w' ?_ h2
    unfold Owns
    rw [List.map_append, List.length_append]
    exact h1
theorem below_appendL {B : Nat} {a W w' : World} {base : Nat} {v : Value} {xs : List Int} (h : Below B a W) (hB : B ≤ W.heap.size) (hown : Owns W base v xs) (hbase : B ≤ base) (hg : W.grownBy w' v.ownBlock) : Below B a w' :=
  h.grown hg hB fun k e => by have := (World.ownsRow.lt hown k e).1; omega

set_option maxRecDepth 100000 in
set_option maxHeartbeats 1000000 in
theorem iGrow (m : Int) (n : Nat) (hmn : m = (n : Int)) (w : World) (h1 : 1 ≤ n) (hl : n ≤ 1048576) :
    Calls Tryz.prog 139 #[.slice none 0 0, .int .i64 m] w fun e w' => ∃ v, e = .returned v ∧ Owns w' w.heap.size v [] ∧ Below w.heap.size w w' := by
  subst hmn
  obtain ⟨i0, hi, hz0, hz1, hz2⟩ := info_parts int_info
  have happ := Lib.run_append_nil_zeros (P := Tryz.prog) w 101 3 101 3 i0 (.int .i64 0) .i64 .i64 Tryz.underlying101 Tryz.underlying3 hi hz0 n (by omega) (by omega) (by omega) (by rw [hz2]; omega)
  obtain ⟨cap, hcap⟩ : ∃ c, c = grownCap w n 0 3 := ⟨_, rfl⟩
  have hc1 : n ≤ cap := by rw [hcap]; exact grownCap_ge _ _ _ _
  have hc2 : cap ≤ maxLen := by rw [hcap]; exact grownCap_le_maxLen _ _ _ _ (by simp only [maxLen]; omega)
  rw [← hcap] at happ
  obtain ⟨M, hM⟩ : ∃ M, M = Builtin.zeroCells (Value.int .i64 0).cells n ++ Builtin.zeroCells (Value.int .i64 0).cells (cap - n) := ⟨_, rfl⟩
  have hMs : M.size = cap * 1 := by rw [hM, Array.size_append, size_zeroCells, size_zeroCells]; show n * 1 + (cap - n) * 1 = cap * 1; omega
  rw [← hM] at happ
  have hown : Hid (Owns ((w.drew).alloc (.cells M 3)) w.heap.size (.slice (some ⟨w.heap.size, 0, none⟩) 0 cap) []) := World.ownsRow_made w.drew M cap (Nat.le_refl _) hc2 hMs
  have hbel : Hid (Below w.heap.size w ((w.drew).alloc (.cells M 3))) := (bel_drewN (Below.refl _ w) 1).alloc (Nat.le_refl _) _
  have HAPP := Lib.hid happ
  have hc3 : cap ≤ 9223372036854775807 := by unfold maxLen at hc2; omega
  clear hM hMs hcap happ hi hz0 hz1 hz2 hc2
  go_enter Tryz.func139, Tryz.ntmps139
  go_wp2_with (at_builtin; refine Lib.wpList_append_run _ rfl _ _ _ _ rfl _ _ rfl rfl _ _ HAPP.out ?_)
  go_ret
  exact ⟨_, rfl, hown.out, hbel.out⟩

set_option maxRecDepth 100000 in
set_option maxHeartbeats 2000000 in
theorem iConcat (g : Nat) (A B : Option Addr) (na ca nb cb : Nat) (a b : List Int) (w : World) (hg : g < w.heap.size) (h0 : w.cell? ⟨g, 0, none⟩ = some (.slice A na ca)) (h1 : w.cell? ⟨g, 1, none⟩ = some (.slice B nb cb))
    (ha : Row w A na ca a) (hb : Row w B nb cb b) (hla : 1 ≤ na) (hlb : 1 ≤ nb) (hl : na + nb ≤ 1000000) :
    Calls Tryz.prog 133 #[.slice (some ⟨g, 0, none⟩) 2 2] w fun e w' => ∃ v, e = .returned v ∧ Owns w' w.heap.size v (a ++ b) ∧ Below w.heap.size w w' := by
  have HA := Lib.hid ha
  have HB := Lib.hid hb
  obtain rfl := ha.hn
  obtain rfl := hb.hn
  clear ha hb
  have HG := Lib.hid hg
  have HC : Hid (∀ W, Below w.heap.size w W → W.cell? ⟨g, 0, none⟩ = some (.slice A a.length ca) ∧ W.cell? ⟨g, 1, none⟩ = some (.slice B b.length cb)) := fun W h => ⟨(h.cell (p := ⟨g, 0, none⟩) hg).trans h0, (h.cell (p := ⟨g, 1, none⟩) hg).trans h1⟩
  go_enter Tryz.func133, Tryz.ntmps133
  go_wp2_with fail
  refine wp_loop_rounds 3 ?_
  rw [rounds_succ]
  go_wp2_with fail
  rw [rounds_succ]
  go_wp2_with fail
  rw [rounds_succ]
  go_wp2_with fail
  refine (iGrow _ (a.length + b.length) (by omega) _ (by omega) (by omega)).mono ?_
  rintro e w1 ⟨v, rfl, ho, hb⟩
  have HO1 := Lib.hid ho
  have HB1 := Lib.hid hb
  have hsz1 := hb.size
  obtain ⟨hc0, hc1⟩ := HC.out _ hb
  have HN1 := Lib.hid (HA.out.hA.below hb)
  clear ho hb
  go_wp2_with fail
  refine wp_loop_rounds 3 ?_
  rw [rounds_succ]
  go_wp2_with (at_builtin; refine wp_appendL rfl _ _ rfl w.heap.size _ [] rfl HO1.out a A a.length ca rfl rfl hla HN1.out (by simp; omega) (by omega) ?_; intro v2 w2 hown2 hgrow2)
  have HO2 := Lib.hid hown2
  have HB2 := Lib.hid (below_appendL HB1.out hsz1 HO1.out (Nat.le_refl _) hgrow2)
  clear hown2 hgrow2 hc0 hc1
  rw [rounds_succ]
  obtain ⟨hc0, hc1⟩ := HC.out _ HB2.out
  have HN2 := Lib.hid (HB.out.hA.below HB2.out)
  have hsz2 := HB2.out.size
  go_wp2_with (at_builtin; refine wp_appendL rfl _ _ rfl w.heap.size v2 a rfl HO2.out b B b.length cb rfl rfl hlb HN2.out (by omega) (by omega) ?_; intro v3 w3 hown3 hgrow3)
  have HO3 := Lib.hid hown3
  have HB3 := Lib.hid (below_appendL HB2.out hsz2 HO2.out (Nat.le_refl _) hgrow3)
  rw [rounds_succ]
  go_wp2_with fail
  go_ret
  exact ⟨_, rfl, HO3.out, HB3.out⟩
end Go.Proofs.YtmdogidflaplkaaGreat
