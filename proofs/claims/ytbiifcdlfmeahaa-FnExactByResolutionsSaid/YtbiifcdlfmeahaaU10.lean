/-
  What the proofs of this seat's statements share (MathF, Subs, Supp, Word).
-/
import Derived.RangeFuncNested
import Derived.RangeFuncBound
import Derived.RangeFuncCalls
import Derived.RangeFuncLeaves
import Derived.Shelf.Abstract
import Derived.Shelf.RegionOpen
import Derived.OwnWalkIn
import Derived.TacticsInMore
import Derived.LoopNIn
import Derived.LoopIn
import Derived.RangeFuncBox
import Derived.Outline
import Derived.Test.YtbiifcdlfmeahaaU9
import Derived.Test.YtbiifcdlfmeahaaU7

namespace Go.Proofs.Ytbiifcdlfmeahaa
open Go.RowKit

/-- The sets of a list, each once, ascending. -/
def setL (xs : List Int) : List Int := ((List.range 256).map (fun n : Nat => (n : Int))).filter (fun s => decide (s ∈ xs))
/-- For each set of the first list, a choice of one of the second list. -/
def chooseX (t : Int) (a b : List Int) : List Int := a.foldl (fun out x => setL (bothX out (b.map fun y => orI (allOf t - x) y))) [allOf t]
def resS (t : Int) : Sen → List Int
  | .one => [allOf t]
  | .zero => [0]
  | .thing i => [letterSet t i]
  | .no x => [allOf t - unionI (resS t x)]
  | .ask x => setL (resS t x ++ [allOf t - unionI (resS t x)])
  | .and_ x y => setL (bothX (resS t x) (resS t y))
  | .or_ x y => setL (resS t x ++ resS t y)
  | .if_ x y => chooseX t (resS t x) (resS t y)

section
variable {t : Int} {a b : List Int}
theorem setL_mem {xs : List Int} (hr : ∀ x ∈ xs, 0 ≤ x ∧ x < 256) (s : Int) : s ∈ setL xs ↔ s ∈ xs := by
  unfold setL
  rw [List.mem_filter, List.mem_map, decide_eq_true_eq]
  constructor
  · exact fun h => h.2
  · intro h
    have := hr s h
    exact ⟨⟨s.toNat, by rw [List.mem_range]; omega, by omega⟩, h⟩
theorem setL_sub (xs : List Int) : ∀ s ∈ setL xs, s ∈ xs := fun s hs => by
  unfold setL at hs
  rw [List.mem_filter, decide_eq_true_eq] at hs
  exact hs.2
theorem setL_asc (xs : List Int) : (setL xs).Pairwise (· < ·) := by
  unfold setL
  refine List.Pairwise.sublist List.filter_sublist ?_
  rw [List.pairwise_map]
  exact List.pairwise_lt_range.imp (fun h => by omega)
theorem any_mem {xs ys : List Int} (h : ∀ x, x ∈ xs ↔ x ∈ ys) (s : Int) : anyWithin s xs = anyWithin s ys := by
  rw [Bool.eq_iff_iff, any_iff, any_iff]
  exact exists_congr fun x => and_congr_left fun _ => h x
theorem setL_any {xs : List Int} (hr : ∀ x ∈ xs, 0 ≤ x ∧ x < 256) (s : Int) : anyWithin s (setL xs) = anyWithin s xs := any_mem (setL_mem hr) s
/-- Good lists: not empty, of sets. -/
def Good (t : Int) (xs : List Int) : Prop := xs ≠ [] ∧ ∀ x ∈ xs, setOkB t x = true
theorem Good.range {xs : List Int} (h : Good t xs) : ∀ x ∈ xs, 0 ≤ x ∧ x < 256 := sets_range h.2
theorem Good.setL {xs : List Int} (h : Good t xs) : Good t (setL xs) := by
  refine ⟨fun e => ?_, fun x hx => h.2 x (setL_sub xs x hx)⟩
  obtain ⟨x, hx⟩ := List.exists_mem_of_ne_nil xs h.1
  have := (setL_mem h.range x).2 hx
  rw [e] at this; cases this
theorem Good.both {xs ys : List Int} (hx : Good t xs) (hy : ys ≠ []) : Good t (bothX xs ys) := by
  refine ⟨fun e => ?_, fun s hs => ?_⟩
  · obtain ⟨x, hx⟩ := List.exists_mem_of_ne_nil xs hx.1
    obtain ⟨y, hy⟩ := List.exists_mem_of_ne_nil ys hy
    have := mem_bothX.2 ⟨x, hx, y, hy, rfl⟩
    rw [e] at this; cases this
  · obtain ⟨x, hxm, y, _, rfl⟩ := mem_bothX.1 hs
    exact andI_ok (hx.2 x hxm)
theorem Good.append {xs ys : List Int} (hx : Good t xs) (hy : ∀ y ∈ ys, setOkB t y = true) : Good t (xs ++ ys) :=
  ⟨fun e => hx.1 (List.append_eq_nil_iff.1 e).1, fun s hs => by
    rcases List.mem_append.1 hs with h | h
    · exact hx.2 s h
    · exact hy s h⟩
theorem Good.one {x : Int} (h : setOkB t x = true) : Good t [x] := ⟨by simp, fun y hy => by rw [List.mem_singleton] at hy; rw [hy]; exact h⟩
theorem Good.things {xs : List Int} (h : Good t xs) : 1 ≤ t ∧ t ≤ 3 := by
  obtain ⟨x, hx⟩ := List.exists_mem_of_ne_nil xs h.1
  have := setOkB_lt (h.2 x hx); omega
theorem Good.union {xs : List Int} (h : Good t xs) : 0 ≤ unionI xs ∧ unionI xs ≤ allOf t := by
  have h1 := tidy_ok h.1 h.2
  rw [← union_tidy h.range]; exact union_all h1
theorem Good.rest {xs : List Int} (h : Good t xs) : setOkB t (allOf t - unionI xs) = true := by
  have := h.union; have h2 := h.things
  exact setOk_of h2.1 h2.2 (by omega) (by omega)
/-- Within the rest of a set or another one: what is in common with the set is within the other one. -/
theorem within_cond (h1 : 1 ≤ t) (h3 : t ≤ 3) {s x y : Int} (hs : 0 ≤ s) (hs2 : s ≤ allOf t) (hx : 0 ≤ x) (hx2 : x ≤ allOf t) : withinB s (orI (allOf t - x) y) = withinB (andI s x) y := by
  rw [Bool.eq_iff_iff, within_iff (andI_nonneg _ _), within_iff hs]
  obtain ⟨n, _, hn⟩ := all_pow h1 h3
  have e : (allOf t - x).toNat = 2 ^ n - (x.toNat + 1) := by rw [hn]; omega
  have hxl : x.toNat < 2 ^ n := by rw [hn] at hx2; omega
  have hsl : s.toNat < 2 ^ n := by rw [hn] at hs2; omega
  refine forall_congr' fun i => ?_
  show (_ → ((((allOf t - x).toNat ||| y.toNat : Nat) : Int)).toNat.testBit i = true) ↔ ((((s.toNat &&& x.toNat : Nat) : Int)).toNat.testBit i = true → _)
  rw [Int.toNat_natCast, Int.toNat_natCast, Nat.testBit_and, Nat.testBit_or, e, Nat.testBit_two_pow_sub_succ hxl]
  cases h5 : s.toNat.testBit i
  · simp
  · have : i < n := by
      rcases Nat.lt_or_ge i n with h | h
      · exact h
      · rw [Nat.testBit_lt_two_pow (Nat.lt_of_lt_of_le hsl (Nat.pow_le_pow_right (by omega) h))] at h5; cases h5
    cases x.toNat.testBit i <;> cases y.toNat.testBit i <;> simp [this]
theorem choose_step (hb : Good t b) {out : List Int} (ho : Good t out) {x : Int} (hx : setOkB t x = true) :
    Good t (setL (bothX out (b.map fun y => orI (allOf t - x) y))) ∧
    ∀ s, 0 ≤ s → s ≤ allOf t → anyWithin s (setL (bothX out (b.map fun y => orI (allOf t - x) y))) = (anyWithin s out && anyWithin (andI s x) b) := by
  obtain ⟨h1, h3, hx0, hxa, _⟩ := setOkB_lt hx
  have hg : Good t (bothX out (b.map fun y => orI (allOf t - x) y)) := ho.both (by intro e; exact hb.1 (List.map_eq_nil_iff.1 e))
  refine ⟨hg.setL, fun s hs hs2 => ?_⟩
  rw [setL_any hg.range, bothX_any s hs]
  congr 1
  rw [Bool.eq_iff_iff, any_iff, any_iff]
  constructor
  · rintro ⟨z, hz, hw⟩
    obtain ⟨y, hy, rfl⟩ := List.mem_map.1 hz
    exact ⟨y, hy, by rw [← within_cond h1 h3 hs hs2 hx0 hxa]; exact hw⟩
  · rintro ⟨y, hy, hw⟩
    exact ⟨_, List.mem_map.2 ⟨y, hy, rfl⟩, by rw [within_cond h1 h3 hs hs2 hx0 hxa]; exact hw⟩
theorem choose_fold (hb : Good t b) : ∀ (a : List Int), (∀ x ∈ a, setOkB t x = true) → ∀ out, Good t out →
    Good t (a.foldl (fun out x => setL (bothX out (b.map fun y => orI (allOf t - x) y))) out) ∧
    ∀ s, 0 ≤ s → s ≤ allOf t → anyWithin s (a.foldl (fun out x => setL (bothX out (b.map fun y => orI (allOf t - x) y))) out) = (anyWithin s out && goodB a b s)
  | [], _, out, ho => ⟨ho, fun s _ _ => by simp [goodB]⟩
  | x :: r, ha, out, ho => by
    have h1 := choose_step hb ho (ha x (by simp))
    have h2 := choose_fold hb r (fun y hy => ha y (by simp [hy])) _ h1.1
    refine ⟨h2.1, fun s hs hs2 => ?_⟩
    rw [List.foldl_cons, h2.2 s hs hs2, h1.2 s hs hs2]
    unfold goodB
    rw [List.all_cons, Bool.and_assoc]
theorem choose_good (ha : Good t a) (hb : Good t b) : Good t (chooseX t a b) := by
  obtain ⟨h1, h3⟩ := ha.things
  exact (choose_fold hb a ha.2 _ (Good.one (setOk_of h1 h3 (allOf_lt t).1 (Int.le_refl _)))).1
theorem choose_any (ha : Good t a) (hb : Good t b) {s : Int} (hs : 0 ≤ s) (hs2 : s ≤ allOf t) : anyWithin s (chooseX t a b) = goodB a b s := by
  obtain ⟨h1, h3⟩ := ha.things
  unfold chooseX
  rw [(choose_fold hb a ha.2 _ (Good.one (setOk_of h1 h3 (allOf_lt t).1 (Int.le_refl _)))).2 s hs hs2, any_one, (within_all h1 h3 hs).2 hs2, Bool.true_and]
theorem good_same {a' b' : List Int} (ha : ∀ u, 0 ≤ u → u ≤ allOf t → anyWithin u a = anyWithin u a') (hb : ∀ u, 0 ≤ u → u ≤ allOf t → anyWithin u b = anyWithin u b') {s : Int} (hs : 0 ≤ s) (hs2 : s ≤ allOf t) : goodB a b s = goodB a' b' s := by
  rw [Bool.eq_iff_iff, good_iff, good_iff]
  refine forall_congr' fun u => imp_congr_right fun hu => imp_congr_right fun hw => ?_
  have := within_le hw hs
  rw [ha u hu (by omega), hb u hu (by omega)]
theorem union_same (ha : Good t a) (hb : issueOkB t b = true) (h : ∀ u, 0 ≤ u → u ≤ allOf t → anyWithin u a = anyWithin u b) : unionI a = unionI b := by
  have e : tidyL a = b := any_ext (tidy_ok ha.1 ha.2) hb fun s hs hs2 => by rw [tidy_any ha.range hs]; exact h s hs hs2
  rw [← union_tidy ha.range, e]
/-- The issue is either of the resolutions. -/
theorem res_main (h1 : 1 ≤ t) (h3 : t ≤ 3) : ∀ x : Sen, Good t (resS t x) ∧ ∀ s, 0 ≤ s → s ≤ allOf t → anyWithin s (resS t x) = anyWithin s (issueS t x)
  | .one => ⟨Good.one (setOk_of h1 h3 (allOf_lt t).1 (Int.le_refl _)), fun _ _ _ => rfl⟩
  | .zero => ⟨Good.one (setOk_of h1 h3 (by omega) (allOf_lt t).1), fun _ _ _ => rfl⟩
  | .thing i => ⟨Good.one (letter_ok h1 h3 i), fun _ _ _ => rfl⟩
  | .no x => by
    obtain ⟨hg, ha⟩ := res_main h1 h3 x
    refine ⟨Good.one hg.rest, fun s _ _ => ?_⟩
    show anyWithin s [allOf t - unionI (resS t x)] = anyWithin s (notL t (issueS t x))
    rw [law_not (sen_issue h1 h3 x), union_same hg (sen_issue h1 h3 x) ha]
  | .ask x => by
    obtain ⟨hg, ha⟩ := res_main h1 h3 x
    have hg2 : Good t (resS t x ++ [allOf t - unionI (resS t x)]) := hg.append (Good.one hg.rest).2
    refine ⟨hg2.setL, fun s hs hs2 => ?_⟩
    show anyWithin s (setL _) = anyWithin s (whetherL t (issueS t x))
    rw [setL_any hg2.range, whether_eq (sen_issue h1 h3 x), either_any (sen_issue h1 h3 x) (not_ok (sen_issue h1 h3 x)) hs, ← ha s hs hs2, law_not (sen_issue h1 h3 x), union_same hg (sen_issue h1 h3 x) ha]
    unfold anyWithin; rw [List.any_append]
  | .and_ x y => by
    obtain ⟨hg, ha⟩ := res_main h1 h3 x
    obtain ⟨hg2, ha2⟩ := res_main h1 h3 y
    have hb := hg.both hg2.1
    refine ⟨hb.setL, fun s hs hs2 => ?_⟩
    show anyWithin s (setL _) = anyWithin s (bothL t (issueS t x) (issueS t y))
    rw [setL_any hb.range, bothX_any s hs, both_any (sen_issue h1 h3 x) (sen_issue h1 h3 y) hs, ha s hs hs2, ha2 s hs hs2]
  | .or_ x y => by
    obtain ⟨hg, ha⟩ := res_main h1 h3 x
    obtain ⟨hg2, ha2⟩ := res_main h1 h3 y
    have hb := hg.append hg2.2
    refine ⟨hb.setL, fun s hs hs2 => ?_⟩
    show anyWithin s (setL _) = anyWithin s (eitherL t (issueS t x) (issueS t y))
    rw [setL_any hb.range, either_any (sen_issue h1 h3 x) (sen_issue h1 h3 y) hs, ← ha s hs hs2, ← ha2 s hs hs2]
    unfold anyWithin; rw [List.any_append]
  | .if_ x y => by
    obtain ⟨hg, ha⟩ := res_main h1 h3 x
    obtain ⟨hg2, ha2⟩ := res_main h1 h3 y
    refine ⟨choose_good hg hg2, fun s hs hs2 => ?_⟩
    show anyWithin s (chooseX t _ _) = anyWithin s (ifL t (issueS t x) (issueS t y))
    rw [choose_any hg hg2 hs hs2, if_any (sen_issue h1 h3 x) (sen_issue h1 h3 y) hs hs2, good_same ha ha2 hs hs2]
theorem res_tidy (h1 : 1 ≤ t) (h3 : t ≤ 3) (x : Sen) : tidyL (resS t x) = issueS t x := by
  obtain ⟨hg, ha⟩ := res_main h1 h3 x
  exact any_ext (tidy_ok hg.1 hg.2) (sen_issue h1 h3 x) fun s hs hs2 => by rw [tidy_any hg.range hs]; exact ha s hs hs2
theorem res_from (h1 : 1 ≤ t) (h3 : t ≤ 3) (x : Sen) (hl : (resS t x).length ≤ 70) : issueFromL t (resS t x) = issueS t x := by
  obtain ⟨hg, _⟩ := res_main h1 h3 x
  rw [from_ok, res_tidy h1 h3]
  unfold partsOkB
  simp only [Bool.and_eq_true, decide_eq_true_eq, List.all_eq_true]
  exact ⟨⟨List.length_pos_iff.2 hg.1, hl⟩, hg.2⟩
theorem res_follows (h1 : 1 ≤ t) (h3 : t ≤ 3) (x y : Sen) : ((resS t x).all fun r => anyWithin r (resS t y)) = followsB t (issueS t x) (issueS t y) := by
  obtain ⟨hg, ha⟩ := res_main h1 h3 x
  obtain ⟨hg2, ha2⟩ := res_main h1 h3 y
  rw [Bool.eq_iff_iff, List.all_eq_true, follows_iff (sen_issue h1 h3 x) (sen_issue h1 h3 y)]
  constructor
  · intro h s hs hs2 hsa
    rw [← ha s hs hs2] at hsa
    rw [← ha2 s hs hs2]
    obtain ⟨r, hr, hw⟩ := any_iff.1 hsa
    exact any_down hs (hg.range r hr).1 hw (h r hr)
  · intro h r hr
    have := setOkB_lt (hg.2 r hr)
    rw [ha2 r this.2.2.1 this.2.2.2.1]
    refine h r this.2.2.1 this.2.2.2.1 ?_
    rw [← ha r this.2.2.1 this.2.2.2.1]
    exact any_iff.2 ⟨r, hr, within_refl r this.2.2.1⟩
end
end Go.Proofs.Ytbiifcdlfmeahaa

namespace Go.Proofs.Ytbiifcdlfmeahaa
open Go.RowKit Go.Shelf
attribute [local go_sem] Oper.semAt_some

theorem and_mod2 (a b : Nat) : (a &&& b) % 2 = (a % 2) &&& (b % 2) := by simpa using Nat.and_mod_two_pow (a := a) (b := b) (n := 1)
/-- The greatest set within s below p, where p is one. -/
theorem sub_le : ∀ (p s u : Nat), p &&& s = p → u &&& s = u → u < p → u ≤ (p - 1) &&& s := by
  intro p
  induction p using Nat.strongRecOn with
  | _ p ih =>
    intro s u hp hu hlt
    have p2 : p / 2 &&& s / 2 = p / 2 := by rw [← Nat.and_div_two, hp]
    have u2 : u / 2 &&& s / 2 = u / 2 := by rw [← Nat.and_div_two, hu]
    have e2 : ((p - 1) &&& s) / 2 = (p - 1) / 2 &&& s / 2 := Nat.and_div_two
    have em := and_mod2 (p - 1) s
    have um := and_mod2 u s
    rw [hu] at um
    rcases Nat.mod_two_eq_zero_or_one p with h | h
    · have h1 : (p - 1) / 2 = p / 2 - 1 := by omega
      have h2 : (p - 1) % 2 = 1 := by omega
      have := ih (p / 2) (by omega) (s / 2) (u / 2) p2 u2 (by omega)
      rw [h1] at e2
      rw [h2] at em
      rw [← e2] at this
      rcases Nat.mod_two_eq_zero_or_one s with h3 | h3 <;> rcases Nat.mod_two_eq_zero_or_one u with h4 | h4 <;> rw [h3] at em um <;> rw [h4] at um <;>
        first | (have em : ((p - 1) &&& s) % 2 = 0 := em; omega) | (have em : ((p - 1) &&& s) % 2 = 1 := em; omega) | (exfalso; revert um; decide)
    · have h1 : (p - 1) / 2 = p / 2 := by omega
      rw [h1, p2] at e2
      omega
theorem within_nat {a b : Int} (ha : 0 ≤ a) (h : withinB a b = true) : a.toNat &&& b.toNat = a.toNat := by
  have := of_decide_eq_true h
  unfold andI at this
  omega
theorem subs_next {s p u : Int} (hp : withinB p s = true) (h0 : 0 < p) (hu0 : 0 ≤ u) (hu : withinB u s = true) (hlt : u < p) : u ≤ andI (p - 1) s := by
  have := sub_le p.toNat s.toNat u.toNat (within_nat (by omega) hp) (within_nat hu0 hu) (by omega)
  have e : (p - 1).toNat = p.toNat - 1 := by omega
  unfold andI
  rw [e]
  omega

abbrev Sub (s : Int) := { x : Int // 0 ≤ x ∧ x ≤ s ∧ withinB x s = true }
/-- All sets within s have come. -/
def FullS (s : Int) (xs : List (Sub s)) : Prop := ∀ u : Sub s, u ∈ xs
def FromS (s p : Int) (xs : List (Sub s)) : Prop := ∀ u : Sub s, p < u.1 → u ∈ xs
theorem fromS_start (s : Int) : FromS s s [] := fun u h => by have := u.2; omega
theorem fromS_next {s p : Int} {pre : List (Sub s)} (hp : 0 ≤ p ∧ p ≤ s ∧ withinB p s = true) (h0 : 0 < p) (h : FromS s p pre) : FromS s (andI (p - 1) s) (pre ++ [⟨p, hp⟩]) := by
  intro u hu
  rcases Int.lt_or_le p u.1 with h1 | h1
  · exact List.mem_append.2 (.inl (h u h1))
  · by_cases e : u.1 = p
    · exact List.mem_append.2 (.inr (by rw [List.mem_singleton]; exact Subtype.ext e))
    · have := subs_next hp.2.2 h0 u.2.1 u.2.2.2 (by omega)
      omega
theorem fromS_end {s p : Int} {pre : List (Sub s)} (hp : 0 ≤ p ∧ p ≤ s ∧ withinB p s = true) (h0 : ¬ 0 < p) (h : FromS s p pre) : FullS s (pre ++ [⟨p, hp⟩]) := by
  intro u
  rcases Int.lt_or_le p u.1 with h1 | h1
  · exact List.mem_append.2 (.inl (h u h1))
  · exact List.mem_append.2 (.inr (by rw [List.mem_singleton]; exact Subtype.ext (by have := u.2.1; show u.1 = p; omega)))

set_option maxRecDepth 100000 in
set_option maxHeartbeats 2000000 in
theorem iSetsWithin1 (n : Nat) (hn : 1 ≤ n) (l Bn : Nat) (s : Int) (hs0 : 0 ≤ s) (hs : s < 256) (J Jx : List (Sub s) → World → Prop)
    (hY : ∀ pre x W, J pre W → pre.length < (s + 1).toNat → YieldAt Fence.wide (n - 1) Try.prog l #[.int .i64 x.1] W fun e W' =>
      (e = .returned (.bool true) ∧ J (pre ++ [x]) W' ∧ W'.heap[Bn]? = W.heap[Bn]?) ∨ (e = .returned (.bool false) ∧ Jx (pre ++ [x]) W'))
    (W : World) (hBn : W.cell? ⟨Bn, 0, none⟩ = some (.int .i64 s)) (h0 : J [] W) :
    CallsIn Fence.wide n Try.prog 119 #[.func (.yield l) #[] #[], .pointer (some ⟨Bn, 0, none⟩)] W fun e W' => (∃ v, e = .returned v) ∧
      ((∃ xs, FullS s xs ∧ J xs W') ∨ (∃ pre, True ∧ Jx pre W')) := by
  have HY : Hid _ := Lib.hid hY
  clear hY
  refine callsIn_of_wp Try.func119 rfl trivial ?_ rfl
  simp only [Try.ntmps119, List.size_toArray, List.length_cons, List.length_nil, Nat.reduceAdd, Nat.reduceSub, Array.replicate_succ, Array.replicate_zero, List.push_toArray, List.append_toArray, List.nil_append, List.cons_append]
  gi_wp2
  have HF : Hid (FromS s s []) := fromS_start s
  have HW : Hid (withinB s s = true) := within_refl s hs0
  gi_loopw [3] (fun v wr => ∃ (pre : List (Sub s)) (p : Int), v = .int .i64 p ∧ 0 ≤ p ∧ p ≤ s ∧ Hid (withinB p s = true) ∧ Hid (FromS s p pre) ∧ pre.length + p.toNat ≤ s.toNat ∧ wr.cell? ⟨Bn, 0, none⟩ = some (.int .i64 s) ∧ Hid (J pre wr))
    (fun v _ => (Go.RowKit.intOf v).toNat)
  case atStart => exact ⟨[], s, rfl, hs0, Int.le_refl _, HW, HF, by simp, hBn, h0⟩
  case round =>
    obtain ⟨pre, p, rfl, hp0, hps, hpw, hfrom, hlen, hcs, hJ⟩ := hrel
    obtain ⟨fn, tmps, assign, body, hy, hR⟩ := HY.out pre ⟨p, hp0, hps, hpw.out⟩ wr hJ.out (by omega)
    clear HF HW hBn h0
    by_cases hz : 0 < p
    · have HN := Lib.hid (fromS_next ⟨hp0, hps, hpw.out⟩ hz hfrom.out)
      have HBI := Lib.hid (bits_and (p - 1) s (by omega) (by omega) hs0 (by omega))
      have hle := andI_le (p - 1) s (by omega)
      have hge := andI_nonneg (p - 1) s
      have HWI := Lib.hid (within_andI_right (p - 1) s)
      clear hfrom hJ
      gi_wp2
      refine hR.mono ?_
      rintro e W3 (⟨rfl, hJ3, hk3⟩ | ⟨rfl, hJx3⟩)
      · have hc3 : W3.cell? ⟨Bn, 0, none⟩ = some (.int .i64 s) := (World.cell?_of_block hk3).trans hcs
        have HJ3 := Lib.hid hJ3
        clear hJ3 hk3 hcs
        gi_wp2
        rw [HBI.out]
        go_roundw
        case rel => exact ⟨_, andI (p - 1) s, rfl, hge, by omega, HWI, HN, by rw [List.length_append]; simp; omega, hc3, HJ3⟩
        case measure => simp [Go.RowKit.intOf]; omega
      · have HJx3 := Lib.hid hJx3
        clear hJx3
        gi_wp2
        go_end0
        exact ⟨⟨_, rfl⟩, .inr ⟨_, trivial, HJx3.out⟩⟩
    · have HN := Lib.hid (fromS_end ⟨hp0, hps, hpw.out⟩ hz hfrom.out)
      clear hfrom hJ
      gi_wp2
      refine hR.mono ?_
      rintro e W3 (⟨rfl, hJ3, hk3⟩ | ⟨rfl, hJx3⟩)
      · have HJ3 := Lib.hid hJ3
        clear hJ3 hk3 hcs
        gi_wp2
        go_end0
        exact ⟨⟨_, rfl⟩, .inl ⟨_, HN.out, HJ3.out⟩⟩
      · have HJx3 := Lib.hid hJx3
        clear hJx3
        gi_wp2
        go_end0
        exact ⟨⟨_, rfl⟩, .inr ⟨_, trivial, HJx3.out⟩⟩
end Go.Proofs.Ytbiifcdlfmeahaa

namespace Go.Proofs.Ytbiifcdlfmeahaa
open Go.RowKit Go.Shelf
attribute [local go_sem] Oper.semAt_some

/-- The slice at ⟨b, o⟩ of n bools tells f of every set within s. -/
def Told (w : World) (b o n : Nat) (s : Int) (f : Int → Bool) : Prop :=
  b < w.heap.size ∧ ∀ u : Int, 0 ≤ u → withinB u s = true → u < n ∧ w.cell? ⟨b, o + u.toNat, none⟩ = some (.bool (f u))
theorem Told.below {w w' : World} {b o n : Nat} {s : Int} {f : Int → Bool} (h : Told w b o n s f) (hb : Below w.heap.size w w') : Told w' b o n s f :=
  ⟨Nat.lt_of_lt_of_le h.1 hb.size, fun u h0 hu => ⟨(h.2 u h0 hu).1, (hb.cell (p := ⟨b, o + u.toNat, none⟩) h.1).trans (h.2 u h0 hu).2⟩⟩
theorem Told.sub {w : World} {b o n : Nat} {s s2 : Int} {f : Int → Bool} (h : Told w b o n s f) (hs0 : 0 ≤ s2) (hs : withinB s2 s = true) : Told w b o n s2 f :=
  ⟨h.1, fun u h0 hu => h.2 u h0 (within_trans h0 hs0 hu hs)⟩

theorem iSetsWithin (n : Nat) (s : Int) (w : World) :
    CallsIn Fence.wide n Try.prog 103 #[.int .i64 s] w fun e w' => e = .returned (.func (.func 119) #[] #[.pointer (some ⟨w.heap.size, 0, none⟩)]) ∧ w' = w.alloc (.cells #[.int .i64 s] 3) := by
  refine callsIn_of_wp Try.func103 rfl trivial ?_ rfl
  simp only [Try.ntmps103, List.size_toArray, List.length_cons, List.length_nil, Nat.reduceAdd, Nat.reduceSub, Array.replicate_succ, Array.replicate_zero, List.push_toArray, List.append_toArray, List.nil_append, List.cons_append]
  gi_wp2
  go_ret
  exact ⟨rfl, rfl⟩
theorem iSets_stops (n : Nat) (hn : 1 ≤ n) (Bn : Nat) (s : Int) (hs0 : 0 ≤ s) (hs : s < 256) (w : World) (hBn : Bn < w.heap.size) (hc : w.cell? ⟨Bn, 0, none⟩ = some (.int .i64 s)) :
    SeqStopsK Fence.wide n Try.prog 119 #[.pointer (some ⟨Bn, 0, none⟩)] (fun x : Sub s => #[Value.int .i64 x.1]) (fun W W' => W'.heap[Bn]? = W.heap[Bn]?) (FullS s) (fun _ => True) (s + 1).toNat w := fun l J Jx W hW _ _ hY h0 =>
  iSetsWithin1 n hn l Bn s hs0 hs J Jx hY W ((hW.cell (p := ⟨Bn, 0, none⟩) hBn).trans hc) h0
theorem kept_t {Bn : Nat} {A B C : World} (h : B.heap[Bn]? = A.heap[Bn]?) (k : C.heap[Bn]? = B.heap[Bn]?) : C.heap[Bn]? = A.heap[Bn]? := k.trans h
theorem kept_b {Bn : Nat} {w : World} (hn : Bn < w.heap.size) (W : World) (l : Nat) (o o' : Obj) (hl : w.heap.size ≤ l) (_ : W.heap[l]? = some o) (_ : o.isCells = false) (_ : o.isWalk = false) : (W.putObj l o').heap[Bn]? = W.heap[Bn]? :=
  World.putObj_heap_other (by omega)

def ifB (s : Int) (f g : Int → Bool) : Bool := (List.range (s.toNat + 1)).all fun u : Nat => !withinB (u : Int) s || !f (u : Int) || g (u : Int)
theorem ifB_miss {s : Int} {f g : Int → Bool} (u : Sub s) (h1 : f u.1 = true) (h2 : g u.1 = false) : ifB s f g = false := by
  unfold ifB
  rw [List.all_eq_false]
  refine ⟨u.1.toNat, List.mem_range.2 (by have := u.2; omega), ?_⟩
  rw [Int.toNat_of_nonneg u.2.1, u.2.2.2, h1, h2]; decide
theorem ifB_full {s : Int} {f g : Int → Bool} (hs : 0 ≤ s) {xs : List (Sub s)} (hx : FullS s xs) (h : ∀ y ∈ xs, (f y.1 && !g y.1) = false) : ifB s f g = true := by
  unfold ifB
  rw [List.all_eq_true]
  intro u hu
  rw [List.mem_range] at hu
  cases hw : withinB (u : Int) s
  · rfl
  · have := h ⟨(u : Int), by omega, within_le hw hs, hw⟩ (hx _)
    revert this
    cases f (u : Int) <;> cases g (u : Int) <;> simp

theorem pre_snoc {s : Int} {f g : Int → Bool} {pre : List (Sub s)} {x : Sub s} (h : ∀ y ∈ pre, (f y.1 && !g y.1) = false) (hx : (f x.1 && !g x.1) = false) : ∀ y ∈ pre ++ [x], (f y.1 && !g y.1) = false := by
  intro y hy
  rcases List.mem_append.1 hy with e | e
  · exact h y e
  · rw [List.mem_singleton] at e; subst e; exact hx
theorem box_keep {W W' : World} {row : Option Nat} {B : Nat} {t : TypeId} {v : Value} (h : Boxed W B t v) (hg : W.grownBy W' row) (hr : ∀ r, row = some r → ∃ o : Obj, W.heap[r]? = some o ∧ o.isCells = false) : Boxed W' B t v :=
  h.kept hg (fun e => by obtain ⟨o, ho, hc⟩ := hr B e.symm; rw [show W.heap[B]? = _ from h] at ho; cases ho; cases hc)
theorem Boxed.below {W W' : World} {B : Nat} {t : TypeId} {v : Value} (h : Boxed W B t v) (hb : Below W.heap.size W W') : Boxed W' B t v := (hb.block B h.lt).trans h
theorem box_putObj {W : World} {B : Nat} {t : TypeId} {v : Value} (h : Boxed W B t v) {D : Nat} {o : Obj} (o' : Obj) (hD : W.heap[D]? = some o) (ho : o.isCells = false) : Boxed (W.putObj D o') B t v :=
  box_keep h (grownBy_putObj' W D o') (fun r e => by cases e; exact ⟨o, hD, ho⟩)

set_option maxRecDepth 100000 in
set_option maxHeartbeats 4000000 in
theorem iCarriesOver (s : Int) (b1 o1 n1 c1 b2 o2 n2 c2 : Nat) (f g : Int → Bool) (w : World) (hs0 : 0 ≤ s) (hs : s < 256) (h1 : Told w b1 o1 n1 s f) (h2 : Told w b2 o2 n2 s g) :
    Calls Try.prog 121 #[.int .i64 s, .slice (some ⟨b1, o1, none⟩) n1 c1, .slice (some ⟨b2, o2, none⟩) n2 c2] w fun e w' => e = .returned (.bool (ifB s f g)) ∧ Below w.heap.size w w' := by
  refine (callsIn_wide (n := 5)).1 ?_
  have HT1 := Lib.hid h1
  have HT2 := Lib.hid h2
  clear h1 h2
  refine callsIn_of_wp_marks Try.func121 rfl trivial ?_ rfl
  simp only [Try.ntmps121, List.size_toArray, List.length_cons, List.length_nil, Nat.reduceAdd, Nat.reduceSub, Array.replicate_succ, Array.replicate_zero, List.push_toArray, List.append_toArray, List.nil_append, List.cons_append]
  gi_wp2_with (refine ⟨trivial, ?_⟩; gi_at_call 103; refine (iSetsWithin _ _ _).mono ?_; rintro e w' ⟨rfl, rfl⟩)
  have x0 := Boxed.new w 85 (.slice (some ⟨b1, o1, none⟩) n1 c1)
  have x1 := Boxed.new (w.alloc (.cells #[.slice (some ⟨b1, o1, none⟩) n1 c1] 85)) 85 (.slice (some ⟨b2, o2, none⟩) n2 c2)
  have x2 := Boxed.new ((w.alloc (.cells #[.slice (some ⟨b1, o1, none⟩) n1 c1] 85)).alloc (.cells #[.slice (some ⟨b2, o2, none⟩) n2 c2] 85)) 4 (.bool false)
  have x3 := Boxed.new (((w.alloc (.cells #[.slice (some ⟨b1, o1, none⟩) n1 c1] 85)).alloc (.cells #[.slice (some ⟨b2, o2, none⟩) n2 c2] 85)).alloc (.cells #[.bool false] 4)) 3 (.int .i64 s)
  simp only [World.size_alloc] at x1 x2 x3
  have hB0 : Below w.heap.size w ((((w.alloc (.cells #[.slice (some ⟨b1, o1, none⟩) n1 c1] 85)).alloc (.cells #[.slice (some ⟨b2, o2, none⟩) n2 c2] 85)).alloc (.cells #[.bool false] 4)).alloc (.cells #[.int .i64 s] 3)) := ((((Below.refl _ w).alloc (Nat.le_refl _) _).alloc (by simp) _).alloc (by simp; omega) _).alloc (by simp; omega) _
  refine wpIn_rangeFunc_ownF rfl (by decide) (gf := 119) (lb := #[.pointer (some ⟨w.heap.size + 1 + 1 + 1, 0, none⟩)]) rfl trivial (enters_of Try.func119 (by kernel_rfl) rfl)
    (iSets_stops 4 (by decide) (w.heap.size + 1 + 1 + 1) s hs0 hs _ (by simp) x3.cell) (fun h k => kept_t h k) (kept_b (by simp)) (Below.refl _ _) (fun _ => rfl)
    (fun pre W => ((∀ y ∈ pre, (f y.1 && !g y.1) = false) ∧ Boxed W w.heap.size 85 (.slice (some ⟨b1, o1, none⟩) n1 c1) ∧ Boxed W (w.heap.size + 1) 85 (.slice (some ⟨b2, o2, none⟩) n2 c2) ∧ Boxed W (w.heap.size + 1 + 1) 4 (.bool false)) ∧ Below w.heap.size w W)
    (fun c pre W => (c = .ret ∧ ifB s f g = false ∧ Boxed W (w.heap.size + 1 + 1) 4 (.bool false)) ∧ Below w.heap.size w W)
    (OwnFrom.and (Own.from (fun s A B row hs hg hr => ⟨hs.1, box_keep hs.2.1 hg hr, box_keep hs.2.2.1 hg hr, box_keep hs.2.2.2 hg hr⟩) _) (ownFrom_below (Nat.le_refl _) (by simp; omega)))
    (fun c => OwnFrom.and (Own.from (fun s A B row hs hg hr => ⟨hs.1, hs.2.1, box_keep hs.2.2 hg hr⟩) _) (ownFrom_below (Nat.le_refl _) (by simp; omega)))
    ⟨⟨by simp, ((x0.alloc _).alloc _).alloc _, (x1.alloc _).alloc _, x2.alloc _⟩, hB0⟩
    (fun x => { tmps := #[.int .i64 s, .slice (some ⟨b1, o1, none⟩) n1 c1, .slice (some ⟨b2, o2, none⟩) n2 c2, undef, .pointer (some ⟨w.heap.size, 0, none⟩), .pointer (some ⟨w.heap.size + 1, 0, none⟩), .pointer (some ⟨w.heap.size + 1 + 1, 0, none⟩), .int .i64 x.1, .int .i64 s, .func (.func 119) #[] #[.pointer (some ⟨w.heap.size + 1 + 1 + 1, 0, none⟩)], .int .i64 x.1, undef, undef, undef, undef, undef, undef, undef, undef, undef, undef, undef], defers := [] }) ?assign ?body ?done ?stop
  case assign =>
    intro l x W K hK
    gi_wp2
    exact hK
  case body =>
    rintro l pre x W ⟨⟨hp, hx1, hx2, hxr⟩, hB⟩ _
    have hc1 := hx1.cell
    have hc2 := hx2.cell
    have hcr := hxr.cell
    have hfr := hxr.frozen
    obtain ⟨hl1, ht1⟩ := (HT1.out.below hB).2 x.1 x.2.1 x.2.2.2
    obtain ⟨hl2, ht2⟩ := (HT2.out.below hB).2 x.1 x.2.1 x.2.2.2
    have hxa := x.2.1
    have hxb := x.2.2.1
    cases hf : f x.1 <;> cases hg : g x.1 <;> rw [hf] at ht1 <;> rw [hg] at ht2
    all_goals
      have HP := Lib.hid hp
      have HF := Lib.hid hf
      have HG := Lib.hid hg
      clear hp hf hg
      gi_wp2
      first
        | exact ⟨KeepsOthers.refl _, rfl, ⟨pre_snoc HP.out (by rw [HF.out, HG.out]; rfl), hx1, hx2, hxr⟩, hB⟩
        | exact ⟨KeepsOthers.setCell _ _ _, ⟨rfl, ifB_miss x HF.out HG.out, hxr.set _⟩, hB.setCell (p := ⟨w.heap.size + 1 + 1, 0, none⟩) (by simp; omega) _⟩
  case done =>
    rintro D ys W hD hfull ⟨⟨hne, _, _, hxr⟩, hB⟩ hK
    have hcr := hxr.cell
    have hfr := hxr.frozen
    have HE := Lib.hid (ifB_full hs0 hfull hne)
    clear hne hfull
    gi_wp2
    have hK' := (KeepsOthers.setCell W ⟨w.heap.size + 1 + 1, 0, none⟩ (.bool true)).same D _ hK rfl
    refine ⟨by simp, .inl ⟨_, _, rfl, run_takeDeferred hK', ?_⟩⟩
    have hc5 := (box_putObj (hxr.set (.bool true)) (.deferred none) hK' rfl).cell
    refine ⟨.bool true, ?_, by rw [HE.out], (hB.setCell (p := ⟨w.heap.size + 1 + 1, 0, none⟩) (by simp; omega) _).trans (belowK_b (w := w) (Nat.le_refl _) _ D _ _ (by simp at hD; omega) hK' rfl rfl)⟩
    simp [results, Try.f121, go_sem, hc5]
  case stop =>
    rintro D c pre W hD hpre ⟨⟨rfl, hin, hxr⟩, hB⟩ hK
    gi_wp2
    refine ⟨by simp, .inl ⟨_, _, rfl, run_takeDeferred hK, ?_⟩⟩
    have hc5 := (box_putObj hxr (.deferred none) hK rfl).cell
    refine ⟨.bool false, ?_, by rw [hin], hB.trans (belowK_b (w := w) (Nat.le_refl _) W D _ _ (by simp at hD; omega) hK rfl rfl)⟩
    simp [results, Try.f121, go_sem, hc5]
end Go.Proofs.Ytbiifcdlfmeahaa

namespace Go.Proofs.Ytbiifcdlfmeahaa
open Go.RowKit

def bitOf (c k : Nat) : Bool := decide (c = 49) || (!decide (c = 48) && decide (k / 2 ^ (c - 97) % 2 = 1))
def wordTo (c : Nat) : Nat → Nat
  | 0 => 0
  | k + 1 => wordTo c k ||| (if bitOf c k = true then 2 ^ k else 0)
def isWord (c : Nat) : Prop := c = 48 ∨ c = 49 ∨ c = 97 ∨ c = 98 ∨ c = 99
def wNext (c k v : Nat) : Prop := v = wordTo c (k + 1)

set_option maxRecDepth 100000 in
set_option maxHeartbeats 4000000 in
theorem iWorldsOfWord (t : Int) (n : Nat) (hn : worldsOf t = (n : Int)) (hn8 : n ≤ 8) (c : Nat) (w : World) (hc : isWord c) :
    Calls Try.prog 70 #[.int .i64 t, .int .u8 c] w fun e w' => e = .returned (.int .i64 (wordTo c n)) ∧ w = w' := by
  have HN := Lib.hid hn
  clear hn
  go_enter Try.func70, Try.ntmps70
  go_wp2_with (go_at_call 42; refine (iWorldsOf _ _).mono ?_; rintro e w' ⟨rfl, rfl⟩)
  rw [HN.out]
  go_loop [5, 9] (fun v i => ∃ k : Nat, k ≤ n ∧ i = .int .i64 k ∧ v = .int .i64 (wordTo c k)) (fun _ i => n - (Go.RowKit.intOf i).toNat)
  case atStart => exact ⟨0, Nat.zero_le _, rfl, rfl⟩
  case round =>
    obtain ⟨k, hk, rfl, rfl⟩ := hrel
    by_cases hlt : k < n
    · have h8 : k = 0 ∨ k = 1 ∨ k = 2 ∨ k = 3 ∨ k = 4 ∨ k = 5 ∨ k = 6 ∨ k = 7 := by omega
      have hs : k + 1 ≤ n := hlt
      have HS := Lib.hid hs
      have HL : Hid ((k : Int) < (n : Int)) := by unfold Hid; omega
      clear hk hs hlt hn8
      rcases hc with rfl | rfl | rfl | rfl | rfl <;> rcases h8 with rfl | rfl | rfl | rfl | rfl | rfl | rfl | rfl
      all_goals
        have hlt := HL.out
        go_wp2
        refine ⟨⟨_, HS.out, rfl, by rfl⟩, ?_⟩
        clear HS HL
        simp [Go.RowKit.intOf]
        omega
    · obtain rfl : k = n := by omega
      go_wp2
      go_ret
      exact ⟨rfl, rfl⟩
end Go.Proofs.Ytbiifcdlfmeahaa
