/-
  What the proofs of this seat's statements share (MathF).
-/
import Derived.Test.YtfmknllemhdnaaaU6

namespace Go.Proofs.Ytfmknllemhdnaaa
open Go.RowKit

/-- The sets of a list, each once, ascending. -/
def setL (xs : List Int) : List Int := ((List.range 256).map (fun n : Nat => (n : Int))).filter (fun s => decide (s ∈ xs))
/-- For each set of the first list, a choice of one of the second list. -/
def chooseX (t : Int) (a b : List Int) : List Int := a.foldl (fun out x => setL (bothX out (b.map fun y => orI (allOf t - x) y))) [allOf t]
def resS (t : Int) : Sen → List Int
  | .one => [allOf t]
  | .zero => [0]
  | .thing i => [letterSet t i]
  | .no x => [allOf t - unionI (resS t x)]
  | .ask x => setL (resS t x ++ [allOf t - unionI (resS t x)])
  | .and_ x y => setL (bothX (resS t x) (resS t y))
  | .or_ x y => setL (resS t x ++ resS t y)
  | .if_ x y => chooseX t (resS t x) (resS t y)

section
variable {t : Int} {a b : List Int}
theorem setL_mem {xs : List Int} (hr : ∀ x ∈ xs, 0 ≤ x ∧ x < 256) (s : Int) : s ∈ setL xs ↔ s ∈ xs := by
  unfold setL
  rw [List.mem_filter, List.mem_map, decide_eq_true_eq]
  constructor
  · exact fun h => h.2
  · intro h
    have := hr s h
    exact ⟨⟨s.toNat, by rw [List.mem_range]; omega, by omega⟩, h⟩
theorem setL_sub (xs : List Int) : ∀ s ∈ setL xs, s ∈ xs := fun s hs => by
  unfold setL at hs
  rw [List.mem_filter, decide_eq_true_eq] at hs
  exact hs.2
theorem setL_asc (xs : List Int) : (setL xs).Pairwise (· < ·) := by
  unfold setL
  refine List.Pairwise.sublist List.filter_sublist ?_
  rw [List.pairwise_map]
  exact List.pairwise_lt_range.imp (fun h => by omega)
theorem any_mem {xs ys : List Int} (h : ∀ x, x ∈ xs ↔ x ∈ ys) (s : Int) : anyWithin s xs = anyWithin s ys := by
  rw [Bool.eq_iff_iff, any_iff, any_iff]
  exact exists_congr fun x => and_congr_left fun _ => h x
theorem setL_any {xs : List Int} (hr : ∀ x ∈ xs, 0 ≤ x ∧ x < 256) (s : Int) : anyWithin s (setL xs) = anyWithin s xs := any_mem (setL_mem hr) s
/-- Good lists: not empty, of sets. -/
def Good (t : Int) (xs : List Int) : Prop := xs ≠ [] ∧ ∀ x ∈ xs, setOkB t x = true
theorem Good.range {xs : List Int} (h : Good t xs) : ∀ x ∈ xs, 0 ≤ x ∧ x < 256 := sets_range h.2
theorem Good.setL {xs : List Int} (h : Good t xs) : Good t (setL xs) := by
  refine ⟨fun e => ?_, fun x hx => h.2 x (setL_sub xs x hx)⟩
  obtain ⟨x, hx⟩ := List.exists_mem_of_ne_nil xs h.1
  have := (setL_mem h.range x).2 hx
  rw [e] at this; cases this
theorem Good.both {xs ys : List Int} (hx : Good t xs) (hy : ys ≠ []) : Good t (bothX xs ys) := by
  refine ⟨fun e => ?_, fun s hs => ?_⟩
  · obtain ⟨x, hx⟩ := List.exists_mem_of_ne_nil xs hx.1
    obtain ⟨y, hy⟩ := List.exists_mem_of_ne_nil ys hy
    have := mem_bothX.2 ⟨x, hx, y, hy, rfl⟩
    rw [e] at this; cases this
  · obtain ⟨x, hxm, y, _, rfl⟩ := mem_bothX.1 hs
    exact andI_ok (hx.2 x hxm)
theorem Good.append {xs ys : List Int} (hx : Good t xs) (hy : ∀ y ∈ ys, setOkB t y = true) : Good t (xs ++ ys) :=
  ⟨fun e => hx.1 (List.append_eq_nil_iff.1 e).1, fun s hs => by
    rcases List.mem_append.1 hs with h | h
    · exact hx.2 s h
    · exact hy s h⟩
theorem Good.one {x : Int} (h : setOkB t x = true) : Good t [x] := ⟨by simp, fun y hy => by rw [List.mem_singleton] at hy; rw [hy]; exact h⟩
theorem Good.things {xs : List Int} (h : Good t xs) : 1 ≤ t ∧ t ≤ 3 := by
  obtain ⟨x, hx⟩ := List.exists_mem_of_ne_nil xs h.1
  have := setOkB_lt (h.2 x hx); omega
theorem Good.union {xs : List Int} (h : Good t xs) : 0 ≤ unionI xs ∧ unionI xs ≤ allOf t := by
  have h1 := tidy_ok h.1 h.2
  rw [← union_tidy h.range]; exact union_all h1
theorem Good.rest {xs : List Int} (h : Good t xs) : setOkB t (allOf t - unionI xs) = true := by
  have := h.union; have h2 := h.things
  exact setOk_of h2.1 h2.2 (by omega) (by omega)
/-- Within the rest of a set or another one: what is in common with the set is within the other one. -/
theorem within_cond (h1 : 1 ≤ t) (h3 : t ≤ 3) {s x y : Int} (hs : 0 ≤ s) (hs2 : s ≤ allOf t) (hx : 0 ≤ x) (hx2 : x ≤ allOf t) : withinB s (orI (allOf t - x) y) = withinB (andI s x) y := by
  rw [Bool.eq_iff_iff, within_iff (andI_nonneg _ _), within_iff hs]
  obtain ⟨n, _, hn⟩ := all_pow h1 h3
  have e : (allOf t - x).toNat = 2 ^ n - (x.toNat + 1) := by rw [hn]; omega
  have hxl : x.toNat < 2 ^ n := by rw [hn] at hx2; omega
  have hsl : s.toNat < 2 ^ n := by rw [hn] at hs2; omega
  refine forall_congr' fun i => ?_
  show (_ → ((((allOf t - x).toNat ||| y.toNat : Nat) : Int)).toNat.testBit i = true) ↔ ((((s.toNat &&& x.toNat : Nat) : Int)).toNat.testBit i = true → _)
  rw [Int.toNat_natCast, Int.toNat_natCast, Nat.testBit_and, Nat.testBit_or, e, Nat.testBit_two_pow_sub_succ hxl]
  cases h5 : s.toNat.testBit i
  · simp
  · have : i < n := by
      rcases Nat.lt_or_ge i n with h | h
      · exact h
      · rw [Nat.testBit_lt_two_pow (Nat.lt_of_lt_of_le hsl (Nat.pow_le_pow_right (by omega) h))] at h5; cases h5
    cases x.toNat.testBit i <;> cases y.toNat.testBit i <;> simp [this]
theorem choose_step (hb : Good t b) {out : List Int} (ho : Good t out) {x : Int} (hx : setOkB t x = true) :
    Good t (setL (bothX out (b.map fun y => orI (allOf t - x) y))) ∧
    ∀ s, 0 ≤ s → s ≤ allOf t → anyWithin s (setL (bothX out (b.map fun y => orI (allOf t - x) y))) = (anyWithin s out && anyWithin (andI s x) b) := by
  obtain ⟨h1, h3, hx0, hxa, _⟩ := setOkB_lt hx
  have hg : Good t (bothX out (b.map fun y => orI (allOf t - x) y)) := ho.both (by intro e; exact hb.1 (List.map_eq_nil_iff.1 e))
  refine ⟨hg.setL, fun s hs hs2 => ?_⟩
  rw [setL_any hg.range, bothX_any s hs]
  congr 1
  rw [Bool.eq_iff_iff, any_iff, any_iff]
  constructor
  · rintro ⟨z, hz, hw⟩
    obtain ⟨y, hy, rfl⟩ := List.mem_map.1 hz
    exact ⟨y, hy, by rw [← within_cond h1 h3 hs hs2 hx0 hxa]; exact hw⟩
  · rintro ⟨y, hy, hw⟩
    exact ⟨_, List.mem_map.2 ⟨y, hy, rfl⟩, by rw [within_cond h1 h3 hs hs2 hx0 hxa]; exact hw⟩
theorem choose_fold (hb : Good t b) : ∀ (a : List Int), (∀ x ∈ a, setOkB t x = true) → ∀ out, Good t out →
    Good t (a.foldl (fun out x => setL (bothX out (b.map fun y => orI (allOf t - x) y))) out) ∧
    ∀ s, 0 ≤ s → s ≤ allOf t → anyWithin s (a.foldl (fun out x => setL (bothX out (b.map fun y => orI (allOf t - x) y))) out) = (anyWithin s out && goodB a b s)
  | [], _, out, ho => ⟨ho, fun s _ _ => by simp [goodB]⟩
  | x :: r, ha, out, ho => by
    have h1 := choose_step hb ho (ha x (by simp))
    have h2 := choose_fold hb r (fun y hy => ha y (by simp [hy])) _ h1.1
    refine ⟨h2.1, fun s hs hs2 => ?_⟩
    rw [List.foldl_cons, h2.2 s hs hs2, h1.2 s hs hs2]
    unfold goodB
    rw [List.all_cons, Bool.and_assoc]
theorem choose_good (ha : Good t a) (hb : Good t b) : Good t (chooseX t a b) := by
  obtain ⟨h1, h3⟩ := ha.things
  exact (choose_fold hb a ha.2 _ (Good.one (setOk_of h1 h3 (allOf_lt t).1 (Int.le_refl _)))).1
theorem choose_any (ha : Good t a) (hb : Good t b) {s : Int} (hs : 0 ≤ s) (hs2 : s ≤ allOf t) : anyWithin s (chooseX t a b) = goodB a b s := by
  obtain ⟨h1, h3⟩ := ha.things
  unfold chooseX
  rw [(choose_fold hb a ha.2 _ (Good.one (setOk_of h1 h3 (allOf_lt t).1 (Int.le_refl _)))).2 s hs hs2, any_one, (within_all h1 h3 hs).2 hs2, Bool.true_and]
theorem good_same {a' b' : List Int} (ha : ∀ u, 0 ≤ u → u ≤ allOf t → anyWithin u a = anyWithin u a') (hb : ∀ u, 0 ≤ u → u ≤ allOf t → anyWithin u b = anyWithin u b') {s : Int} (hs : 0 ≤ s) (hs2 : s ≤ allOf t) : goodB a b s = goodB a' b' s := by
  rw [Bool.eq_iff_iff, good_iff, good_iff]
  refine forall_congr' fun u => imp_congr_right fun hu => imp_congr_right fun hw => ?_
  have := within_le hw hs
  rw [ha u hu (by omega), hb u hu (by omega)]
theorem union_same (ha : Good t a) (hb : issueOkB t b = true) (h : ∀ u, 0 ≤ u → u ≤ allOf t → anyWithin u a = anyWithin u b) : unionI a = unionI b := by
  have e : tidyL a = b := any_ext (tidy_ok ha.1 ha.2) hb fun s hs hs2 => by rw [tidy_any ha.range hs]; exact h s hs hs2
  rw [← union_tidy ha.range, e]
/-- The issue is either of the resolutions. -/
theorem res_main (h1 : 1 ≤ t) (h3 : t ≤ 3) : ∀ x : Sen, Good t (resS t x) ∧ ∀ s, 0 ≤ s → s ≤ allOf t → anyWithin s (resS t x) = anyWithin s (issueS t x)
  | .one => ⟨Good.one (setOk_of h1 h3 (allOf_lt t).1 (Int.le_refl _)), fun _ _ _ => rfl⟩
  | .zero => ⟨Good.one (setOk_of h1 h3 (by omega) (allOf_lt t).1), fun _ _ _ => rfl⟩
  | .thing i => ⟨Good.one (letter_ok h1 h3 i), fun _ _ _ => rfl⟩
  | .no x => by
    obtain ⟨hg, ha⟩ := res_main h1 h3 x
    refine ⟨Good.one hg.rest, fun s _ _ => ?_⟩
    show anyWithin s [allOf t - unionI (resS t x)] = anyWithin s (notL t (issueS t x))
    rw [law_not (sen_issue h1 h3 x), union_same hg (sen_issue h1 h3 x) ha]
  | .ask x => by
    obtain ⟨hg, ha⟩ := res_main h1 h3 x
    have hg2 : Good t (resS t x ++ [allOf t - unionI (resS t x)]) := hg.append (Good.one hg.rest).2
    refine ⟨hg2.setL, fun s hs hs2 => ?_⟩
    show anyWithin s (setL _) = anyWithin s (whetherL t (issueS t x))
    rw [setL_any hg2.range, whether_eq (sen_issue h1 h3 x), either_any (sen_issue h1 h3 x) (not_ok (sen_issue h1 h3 x)) hs, ← ha s hs hs2, law_not (sen_issue h1 h3 x), union_same hg (sen_issue h1 h3 x) ha]
    unfold anyWithin; rw [List.any_append]
  | .and_ x y => by
    obtain ⟨hg, ha⟩ := res_main h1 h3 x
    obtain ⟨hg2, ha2⟩ := res_main h1 h3 y
    have hb := hg.both hg2.1
    refine ⟨hb.setL, fun s hs hs2 => ?_⟩
    show anyWithin s (setL _) = anyWithin s (bothL t (issueS t x) (issueS t y))
    rw [setL_any hb.range, bothX_any s hs, both_any (sen_issue h1 h3 x) (sen_issue h1 h3 y) hs, ha s hs hs2, ha2 s hs hs2]
  | .or_ x y => by
    obtain ⟨hg, ha⟩ := res_main h1 h3 x
    obtain ⟨hg2, ha2⟩ := res_main h1 h3 y
    have hb := hg.append hg2.2
    refine ⟨hb.setL, fun s hs hs2 => ?_⟩
    show anyWithin s (setL _) = anyWithin s (eitherL t (issueS t x) (issueS t y))
    rw [setL_any hb.range, either_any (sen_issue h1 h3 x) (sen_issue h1 h3 y) hs, ← ha s hs hs2, ← ha2 s hs hs2]
    unfold anyWithin; rw [List.any_append]
  | .if_ x y => by
    obtain ⟨hg, ha⟩ := res_main h1 h3 x
    obtain ⟨hg2, ha2⟩ := res_main h1 h3 y
    refine ⟨choose_good hg hg2, fun s hs hs2 => ?_⟩
    show anyWithin s (chooseX t _ _) = anyWithin s (ifL t (issueS t x) (issueS t y))
    rw [choose_any hg hg2 hs hs2, if_any (sen_issue h1 h3 x) (sen_issue h1 h3 y) hs hs2, good_same ha ha2 hs hs2]
theorem res_tidy (h1 : 1 ≤ t) (h3 : t ≤ 3) (x : Sen) : tidyL (resS t x) = issueS t x := by
  obtain ⟨hg, ha⟩ := res_main h1 h3 x
  exact any_ext (tidy_ok hg.1 hg.2) (sen_issue h1 h3 x) fun s hs hs2 => by rw [tidy_any hg.range hs]; exact ha s hs hs2
theorem res_from (h1 : 1 ≤ t) (h3 : t ≤ 3) (x : Sen) (hl : (resS t x).length ≤ 70) : issueFromL t (resS t x) = issueS t x := by
  obtain ⟨hg, _⟩ := res_main h1 h3 x
  rw [from_ok, res_tidy h1 h3]
  unfold partsOkB
  simp only [Bool.and_eq_true, decide_eq_true_eq, List.all_eq_true]
  exact ⟨⟨List.length_pos_iff.2 hg.1, hl⟩, hg.2⟩
theorem res_follows (h1 : 1 ≤ t) (h3 : t ≤ 3) (x y : Sen) : ((resS t x).all fun r => anyWithin r (resS t y)) = followsB t (issueS t x) (issueS t y) := by
  obtain ⟨hg, ha⟩ := res_main h1 h3 x
  obtain ⟨hg2, ha2⟩ := res_main h1 h3 y
  rw [Bool.eq_iff_iff, List.all_eq_true, follows_iff (sen_issue h1 h3 x) (sen_issue h1 h3 y)]
  constructor
  · intro h s hs hs2 hsa
    rw [← ha s hs hs2] at hsa
    rw [← ha2 s hs hs2]
    obtain ⟨r, hr, hw⟩ := any_iff.1 hsa
    exact any_down hs (hg.range r hr).1 hw (h r hr)
  · intro h r hr
    have := setOkB_lt (hg.2 r hr)
    rw [ha2 r this.2.2.1 this.2.2.2.1]
    refine h r this.2.2.1 this.2.2.2.1 ?_
    rw [← ha r this.2.2.1 this.2.2.2.1]
    exact any_iff.2 ⟨r, hr, within_refl r this.2.2.1⟩
end
end Go.Proofs.Ytfmknllemhdnaaa
