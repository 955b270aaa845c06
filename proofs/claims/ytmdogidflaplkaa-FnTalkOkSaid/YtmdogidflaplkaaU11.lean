/-
  What the proofs of this seat's statements share (PartM, Subs, Supp, Word).
-/
import Derived.RangeFuncNested
import Derived.RangeFuncBound
import Derived.RangeFuncCalls
import Derived.RangeFuncLeaves
import Derived.Shelf.Abstract
import Derived.Shelf.RegionOpen
import Derived.OwnWalkIn
import Derived.TacticsInMore
import Derived.LoopNIn
import Derived.LoopIn
import Derived.RangeFuncBox
import Derived.Outline
import Derived.Test.YtmdogidflaplkaaU10
import Derived.Test.YtmdogidflaplkaaU6
import Derived.Test.YtmdogidflaplkaaU9

namespace Go.Proofs.Ytmdogidflaplkaa
open Go.RowKit

/-- p tells each world its part. -/
structure PMap (t : Int) (p : Nat → Int) : Prop where
  ok : ∀ w, w < nWorlds t → setOkB t (p w) = true
  self : ∀ w, w < nWorlds t → hasW (p w) w = true
  eq : ∀ w v, w < nWorlds t → hasW (p w) v = true → p v = p w
def partsP (t : Int) (p : Nat → Int) : List Int := (List.range (nWorlds t)).map p
def lastB (x : Int) (w : Nat) : Bool := decide (((2 ^ w : Nat) : Int) ≤ x ∧ x < ((2 ^ (w + 1) : Nat) : Int))
def partedTo (p : Nat → Int) (k : Nat) : List Int := ((List.range k).filter fun w => lastB (p w) w).map p
theorem partedTo_next (p : Nat → Int) (k : Nat) : partedTo p (k + 1) = partedTo p k ++ if lastB (p k) k = true then [p k] else [] := by
  unfold partedTo
  rw [List.range_succ, List.filter_append, List.map_append]
  congr 1
  by_cases h : lastB (p k) k = true
  · simp [h]
  · simp [h]
theorem partedTo_len (p : Nat → Int) (k : Nat) : (partedTo p k).length ≤ k := by
  unfold partedTo
  rw [List.length_map]
  refine Nat.le_trans (List.length_filter_le _ _) ?_
  rw [List.length_range]; exact Nat.le_refl _
section
variable {t : Int} {p : Nat → Int}
theorem mem_partsP {x : Int} : x ∈ partsP t p ↔ ∃ w, w < nWorlds t ∧ p w = x := by unfold partsP; rw [List.mem_map]; simp [List.mem_range]
theorem partsP_sets (h : PMap t p) : ∀ x ∈ partsP t p, setOkB t x = true := by
  intro x hx
  obtain ⟨w, hw, rfl⟩ := mem_partsP.1 hx
  exact h.ok w hw
theorem pmap_pos (h : PMap t p) {w : Nat} (hw : w < nWorlds t) : 0 ≤ p w ∧ p w ≤ allOf t ∧ p w < 256 := by
  have := setOkB_lt (h.ok w hw); exact ⟨this.2.2.1, this.2.2.2.1, this.2.2.2.2⟩
theorem pmap_apart (h : PMap t p) {x y : Int} (hx : x ∈ partsP t p) (hy : y ∈ partsP t p) (hw : withinB x y = true) : x = y := by
  obtain ⟨v, hv, rfl⟩ := mem_partsP.1 hx
  obtain ⟨w, hw2, rfl⟩ := mem_partsP.1 hy
  exact h.eq w v hw2 ((within_has (pmap_pos h hv).1).1 hw v (h.self v hv))
theorem pmap_tidy (h : PMap t p) (x : Int) : x ∈ tidyL (partsP t p) ↔ x ∈ partsP t p := by
  rw [tidy_mem (sets_range (partsP_sets h))]
  refine ⟨fun h => h.1, fun hx => ⟨hx, fun y hy => ?_⟩⟩
  cases hw : withinB x y
  · exact .inr rfl
  · exact .inl (pmap_apart h hx hy hw).symm
theorem pmap_good (h1 : 1 ≤ t) (h3 : t ≤ 3) (h : PMap t p) : Good t (partsP t p) :=
  ⟨fun e => by
    have := mem_partsP (t := t) (p := p) (x := p 0)
    rw [e] at this
    exact absurd (this.2 ⟨0, by have := (nW_pos h1 h3).1; omega, rfl⟩) (by simp), partsP_sets h⟩
theorem pmap_partition (h1 : 1 ≤ t) (h3 : t ≤ 3) (h : PMap t p) : isPartB t (tidyL (partsP t p)) = true := by
  have hg := pmap_good h1 h3 h
  unfold isPartB
  rw [tidy_ok hg.1 hg.2, Bool.true_and, List.all_eq_true]
  intro w hw
  rw [List.mem_range] at hw
  rw [decide_eq_true_eq]
  refine count_one (asc_nodup (tidy_asc _)) ((pmap_tidy h _).2 (mem_partsP.2 ⟨w, hw, rfl⟩)) (h.self w hw) fun y hy hyw => ?_
  obtain ⟨v, hv, rfl⟩ := mem_partsP.1 ((pmap_tidy h y).1 hy)
  exact (h.eq v w hv hyw).symm
theorem top_exists : ∀ n : Nat, 0 < n → ∃ u, 2 ^ u ≤ n ∧ n < 2 ^ (u + 1) := fun n hn => ⟨n.log2, Nat.log2_self_le (by omega), Nat.lt_log2_self⟩
theorem top_bit {n u : Nat} (h1 : 2 ^ u ≤ n) (h2 : n < 2 ^ (u + 1)) : n.testBit u = true := by
  rw [Nat.testBit_eq_decide_div_mod_eq]
  rw [Nat.pow_succ] at h2
  have : n / 2 ^ u = 1 := by
    refine Nat.div_eq_of_lt_le ?_ ?_ <;> omega
  rw [this]; rfl
/-- Each part once, at its last world: just the tidy parts. -/
theorem parted_tidy (h1 : 1 ≤ t) (h3 : t ≤ 3) (h : PMap t p) : partedTo p (nWorlds t) = tidyL (partsP t p) := by
  refine asc_ext ?_ (tidy_asc _) fun x => ?_
  · unfold partedTo
    rw [List.pairwise_map]
    have hs : ((List.range (nWorlds t)).filter fun w => lastB (p w) w).Pairwise (· < ·) := List.Pairwise.sublist List.filter_sublist List.pairwise_lt_range
    have hm : ∀ w ∈ (List.range (nWorlds t)).filter (fun w => lastB (p w) w), lastB (p w) w = true := fun w hw => (List.mem_filter.1 hw).2
    refine List.Pairwise.imp_of_mem (fun {a b} ha hb hab => ?_) hs
    have h1 := of_decide_eq_true (hm a ha)
    have h2 := of_decide_eq_true (hm b hb)
    have : 2 ^ (a + 1) ≤ 2 ^ b := Nat.pow_le_pow_right (by omega) hab
    omega
  · rw [pmap_tidy h, mem_partsP]
    unfold partedTo
    rw [List.mem_map]
    constructor
    · rintro ⟨w, hw, rfl⟩
      exact ⟨w, List.mem_range.1 (List.mem_filter.1 hw).1, rfl⟩
    · rintro ⟨w, hw, rfl⟩
      have hp := pmap_pos h hw
      have hne : 0 < (p w).toNat := by
        rcases Nat.eq_zero_or_pos (p w).toNat with e | e
        · have := h.self w hw
          unfold hasW at this
          rw [e, Nat.zero_testBit] at this; cases this
        · exact e
      obtain ⟨u, hu1, hu2⟩ := top_exists _ hne
      have hb := top_bit hu1 hu2
      have hul := has_lt h1 h3 hp.1 hp.2.1 (w := u) hb
      have e := h.eq w u hw hb
      refine ⟨u, List.mem_filter.2 ⟨List.mem_range.2 hul, ?_⟩, e⟩
      rw [e]
      exact decide_eq_true ⟨by omega, by omega⟩
end
theorem partOf_pmap {t : Int} {sets : List Int} (h1 : 1 ≤ t) (h3 : t ≤ 3) : PMap t (partOf t sets) :=
  ⟨fun w _ => part_ok h1 h3 w, fun w hw => part_self hw, fun w v hw hv => by rw [part_has, Bool.and_eq_true] at hv; exact part_eq hv.2⟩
theorem partsX_eq (t : Int) (sets : List Int) : partsX t sets = partsP t (partOf t sets) := rfl

/-! A partition, read from the left. -/
theorem has_or (x y : Int) (w : Nat) : hasW (orI x y) w = (hasW x w || hasW y w) := by unfold hasW orI; rw [Int.toNat_natCast, Nat.testBit_or]
theorem has_and (x y : Int) (w : Nat) : hasW (andI x y) w = (hasW x w && hasW y w) := by unfold hasW andI; rw [Int.toNat_natCast, Nat.testBit_and]
theorem andI_zero {x y : Int} : andI x y = 0 ↔ ∀ w, hasW x w = true → hasW y w = false := by
  constructor
  · intro h w hx
    have := has_and x y w
    rw [h, hx] at this
    unfold hasW at *
    rw [Int.toNat_zero, Nat.zero_testBit] at this
    simpa using this.symm
  · intro h
    have e : (andI x y).toNat = 0 := Nat.eq_of_testBit_eq fun i => by
      have := has_and x y i
      unfold hasW at this
      rw [this, Nat.zero_testBit]
      cases hx : x.toNat.testBit i
      · rfl
      · rw [show y.toNat.testBit i = false from h i hx]; rfl
    have := andI_nonneg x y
    omega
def apartTo (xs : List Int) (k : Nat) : Prop := ∀ i x, i < k → xs[i]? = some x → andI (unionI (xs.take i)) x = 0
theorem apart_zero (xs : List Int) : apartTo xs 0 := fun _ _ h => by omega
theorem apart_next {xs : List Int} {k : Nat} {x : Int} (h : apartTo xs k) (hx : Hid (xs[k]? = some x)) (e : andI (unionI (xs.take k)) x = 0) : apartTo xs (k + 1) := fun i y hi hy => by
  by_cases hik : i = k
  · subst hik
    have := hx.out
    rw [this] at hy
    cases hy; exact e
  · exact h i y (by omega) hy
theorem union_take6 {xs : List Int} {k : Nat} {x : Int} (hx : xs[k]? = some x) : unionI (xs.take (k + 1)) = orI (unionI (xs.take k)) x := by
  unfold unionI; rw [take_snoc (show Hid _ from hx), List.foldl_append]; rfl
theorem count_take {xs : List Int} {k : Nat} (h : apartTo xs k) (w : Nat) : ∀ i, i ≤ k → i ≤ xs.length → ((xs.take i).filter fun x => hasW x w).length = if hasW (unionI (xs.take i)) w = true then 1 else 0 := by
  intro i
  induction i with
  | zero => intro _ _; rw [List.take_zero]; simp [unionI, hasW]
  | succ i ih =>
    intro hi hl
    have ih := ih (by omega) (by omega)
    obtain ⟨x, hx⟩ : ∃ x, xs[i]? = some x := ⟨xs[i], by rw [List.getElem?_eq_getElem (by omega)]⟩
    have hz := andI_zero.1 (h i x (by omega) hx) w
    rw [union_take6 hx, has_or, take_snoc (show Hid _ from hx), List.filter_append, List.length_append, ih]
    cases h1 : hasW (unionI (xs.take i)) w
    · cases h2 : hasW x w <;> simp [h2]
    · have h2 := hz h1
      simp [h2]
theorem part_miss {t : Int} {xs : List Int} {k : Nat} {x : Int} (h1 : 1 ≤ t) (h3 : t ≤ 3) (hs : ∀ x ∈ xs, setOkB t x = true) (hx : Hid (xs[k]? = some x)) (h : apartTo xs k) (e : andI (unionI (xs.take k)) x ≠ 0) : isPartB t xs = false := by
  have hlt := elem_lt hx
  have hne : ¬ ∀ w, hasW (unionI (xs.take k)) w = true → hasW x w = false := fun hh => e (andI_zero.2 hh)
  have : ∃ w, hasW (unionI (xs.take k)) w = true ∧ hasW x w = true := Classical.byContradiction fun hh => hne fun w hw => by
    cases hxw : hasW x w
    · rfl
    · exact absurd ⟨w, hw, hxw⟩ hh
  obtain ⟨w, hu, hxw⟩ := this
  have hc := count_take h w k (Nat.le_refl _) (by omega)
  rw [if_pos hu] at hc
  have hx2 := setOkB_lt (hs x (elem_mem hx))
  have hwl := has_lt h1 h3 hx2.2.2.1 hx2.2.2.2.1 hxw
  have h2 : ((xs.take (k + 1)).filter fun x => hasW x w).length = 2 := by
    rw [take_snoc hx, List.filter_append, List.length_append, hc]; simp [hxw]
  have h4 : ((xs.take (k + 1)).filter fun x => hasW x w).length ≤ (xs.filter fun x => hasW x w).length := ((List.take_sublist _ _).filter _).length_le
  unfold isPartB
  rw [Bool.and_eq_false_iff]
  right
  rw [List.all_eq_false]
  exact ⟨w, List.mem_range.2 hwl, by rw [decide_eq_true_eq]; omega⟩
theorem has_all {t : Int} (h1 : 1 ≤ t) (h3 : t ≤ 3) {w : Nat} (hw : w < nWorlds t) : hasW (allOf t) w = true := by
  rw [(nW_pos h1 h3).2]
  unfold hasW
  rw [show (((2 ^ nWorlds t : Nat) : Int) - 1).toNat = 2 ^ nWorlds t - 1 by omega, Nat.testBit_two_pow_sub_one, decide_eq_true hw]
theorem part_end {t : Int} {xs : List Int} (ho : issueOkB t xs = true) (h : apartTo xs xs.length) : isPartB t xs = decide (unionI xs = allOf t) := by
  obtain ⟨h1, h3⟩ := issue_things ho
  have hu := union_all ho
  have hc := fun w => count_take h w xs.length (Nat.le_refl _) (Nat.le_refl _)
  simp only [List.take_length] at hc
  unfold isPartB
  rw [ho, Bool.true_and, Bool.eq_iff_iff, List.all_eq_true, decide_eq_true_eq]
  constructor
  · intro hh
    refine has_ext hu.1 (allOf_lt t).1 fun w => ?_
    by_cases hw : w < nWorlds t
    · have := of_decide_eq_true (hh w (List.mem_range.2 hw))
      rw [hc w] at this
      rw [has_all h1 h3 hw]
      cases e : hasW (unionI xs) w
      · rw [e] at this; simp at this
      · rfl
    · have a : hasW (unionI xs) w = false := by
        cases e : hasW (unionI xs) w
        · rfl
        · exact absurd (has_lt h1 h3 hu.1 hu.2 e) hw
      have b : hasW (allOf t) w = false := by
        cases e : hasW (allOf t) w
        · rfl
        · exact absurd (has_lt h1 h3 (allOf_lt t).1 (Int.le_refl _) e) hw
      rw [a, b]
  · intro e w hw
    rw [decide_eq_true_eq, hc w, e, has_all h1 h3 (List.mem_range.1 hw)]; rfl

/-! Joining sets. -/
def joinF (x s : Int) : Int := if andI x s = 0 then x else orI x s
def joinStep (sets : List Int) (x : Int) : Int := sets.foldl joinF x
def joinN (sets : List Int) : Nat → Int → Int
  | 0, x => x
  | n + 1, x => joinN sets n (joinStep sets x)
def Closed (sets : List Int) (z : Int) : Prop := ∀ s ∈ sets, andI z s = 0 ∨ withinB s z = true
theorem within_refl6 (x : Int) (h : 0 ≤ x) : withinB x x = true := (within_has h).2 fun _ h => h
theorem joinF_pos {x : Int} (s : Int) (h : 0 ≤ x) : 0 ≤ joinF x s := by unfold joinF; split; exact h; exact orI_nonneg _ _
theorem joinF_ge {x : Int} (s : Int) (h : 0 ≤ x) : withinB x (joinF x s) = true := by
  unfold joinF; split
  · exact within_refl6 x h
  · exact within_or_left x s h
theorem join_pos : ∀ (sets : List Int) (x : Int), 0 ≤ x → 0 ≤ joinStep sets x
  | [], _, h => h
  | s :: r, _, h => join_pos r _ (joinF_pos s h)
theorem join_ge : ∀ (sets : List Int) (x : Int), 0 ≤ x → withinB x (joinStep sets x) = true
  | [], x, h => within_refl6 x h
  | s :: r, _, h => within_trans h (joinF_pos s h) (joinF_ge s h) (join_ge r _ (joinF_pos s h))
theorem has_within {x y : Int} (hx : 0 ≤ x) (h : withinB x y = true) {w : Nat} (hw : hasW x w = true) : hasW y w = true := (within_has hx).1 h w hw
theorem joinF_least {x s z : Int} (h : 0 ≤ x) (hs : 0 ≤ s) (hxz : withinB x z = true) (hc : andI z s = 0 ∨ withinB s z = true) : withinB (joinF x s) z = true := by
  unfold joinF; split
  · exact hxz
  · rename_i hne
    rcases hc with hc | hc
    · refine absurd (andI_zero.2 fun w hw => ?_) hne
      exact andI_zero.1 hc w (has_within h hxz hw)
    · exact or_within h hs hxz hc
theorem join_least : ∀ (sets : List Int) (x z : Int), 0 ≤ x → (∀ s ∈ sets, 0 ≤ s) → withinB x z = true → Closed sets z → withinB (joinStep sets x) z = true
  | [], x, z, _, _, hxz, _ => hxz
  | s :: r, x, z, h, hp, hxz, hc => join_least r _ z (joinF_pos s h) (fun y hy => hp y (List.mem_cons_of_mem _ hy)) (joinF_least h (hp s (by simp)) hxz (hc s (by simp))) fun y hy => hc y (List.mem_cons_of_mem _ hy)
theorem join_stable : ∀ (sets : List Int) (x : Int), 0 ≤ x → (∀ s ∈ sets, 0 ≤ s) → joinStep sets x = x → Closed sets x
  | [], _, _, _, _ => fun _ h => by cases h
  | s :: r, x, h, hp, he => by
    have h1 := joinF_ge s h
    have h2 := join_ge r _ (joinF_pos s h)
    have he2 : joinStep r (joinF x s) = x := he
    rw [he2] at h2
    have e : joinF x s = x := within_anti (joinF_pos s h) h h2 h1
    rw [e] at he2
    have ih := join_stable r x h (fun y hy => hp y (List.mem_cons_of_mem _ hy)) he2
    intro y hy
    rcases List.mem_cons.1 hy with rfl | hy
    · unfold joinF at e
      split at e
      · exact .inl ‹_›
      · right
        have := within_or_right x y (hp y (by simp))
        rwa [e] at this
    · exact ih y hy
theorem join_closed : ∀ (sets : List Int) (x : Int), 0 ≤ x → (∀ s ∈ sets, 0 ≤ s) → Closed sets x → joinStep sets x = x := fun sets x h hp hc =>
  within_anti (join_pos sets x h) h (join_least sets x x h hp (within_refl6 x h) hc) (join_ge sets x h)
theorem joinN_stable {sets : List Int} {x : Int} (h : joinStep sets x = x) : ∀ n, joinN sets n x = x
  | 0 => rfl
  | n + 1 => by unfold joinN; rw [h]; exact joinN_stable h n
theorem joinN_pos {sets : List Int} : ∀ n (x : Int), 0 ≤ x → 0 ≤ joinN sets n x
  | 0, _, h => h
  | n + 1, x, h => joinN_pos n _ (join_pos sets x h)
theorem joinN_ge {sets : List Int} : ∀ n (x : Int), 0 ≤ x → withinB x (joinN sets n x) = true
  | 0, x, h => within_refl6 x h
  | n + 1, x, h => within_trans h (join_pos sets x h) (join_ge sets x h) (joinN_ge n _ (join_pos sets x h))
theorem joinN_least {sets : List Int} (hp : ∀ s ∈ sets, 0 ≤ s) {z : Int} (hc : Closed sets z) : ∀ n (x : Int), 0 ≤ x → withinB x z = true → withinB (joinN sets n x) z = true
  | 0, _, _, h => h
  | n + 1, x, h, hz => joinN_least hp hc n _ (join_pos sets x h) (join_least sets x z h hp hz hc)
def inCount (sets : List Int) (x : Int) : Nat := (sets.filter fun s => withinB s x).length
theorem count_mono (sets : List Int) (hp : ∀ s ∈ sets, 0 ≤ s) {x y : Int} (hx : 0 ≤ x) (h : withinB x y = true) : inCount sets x ≤ inCount sets y := by
  unfold inCount
  rw [← List.countP_eq_length_filter, ← List.countP_eq_length_filter]
  exact List.countP_mono_left fun s hs hw => within_trans (hp s hs) hx hw h
theorem count_more : ∀ (sets : List Int) (_hp : ∀ s ∈ sets, 0 ≤ s) {x y s : Int} (_hx : 0 ≤ x) (_h : withinB x y = true) (_hs : s ∈ sets) (_h1 : withinB s x = false) (_h2 : withinB s y = true), inCount sets x < inCount sets y
  | a :: r, hp, x, y, s, hx, h, hs, h1, h2 => by
    have hm := count_mono r (fun z hz => hp z (List.mem_cons_of_mem _ hz)) hx h
    unfold inCount at *
    simp only [List.filter_cons]
    rcases List.mem_cons.1 hs with rfl | hs
    · rw [h1, h2]; simp only [if_true, Bool.false_eq_true, if_false, List.length_cons]; omega
    · have ih := count_more r (fun z hz => hp z (List.mem_cons_of_mem _ hz)) hx h hs h1 h2
      unfold inCount at ih
      cases ha : withinB a x
      · cases hb : withinB a y <;> simp <;> omega
      · have hb : withinB a y = true := within_trans (hp a (by simp)) hx ha h
        rw [hb]; simp; omega
theorem join_moves : ∀ (sets : List Int) (x : Int), 0 ≤ x → (∀ s ∈ sets, 0 ≤ s) → joinStep sets x ≠ x → ∃ s ∈ sets, withinB s x = false ∧ withinB s (joinStep sets x) = true
  | [], _, _, _, h => absurd rfl h
  | s :: r, x, h, hp, hne => by
    by_cases e : joinF x s = x
    · have hne2 : joinStep r x ≠ x := fun e2 => hne (by show joinStep r (joinF x s) = x; rw [e, e2])
      obtain ⟨y, hy, h1, h2⟩ := join_moves r x h (fun z hz => hp z (List.mem_cons_of_mem _ hz)) hne2
      refine ⟨y, List.mem_cons_of_mem _ hy, h1, ?_⟩
      show withinB y (joinStep r (joinF x s)) = true
      rw [e]; exact h2
    · have e2 : joinF x s = orI x s := by
        unfold joinF at e ⊢
        split at e
        · exact absurd rfl e
        · rename_i hn; rw [if_neg hn]
      refine ⟨s, by simp, ?_, ?_⟩
      · cases hw : withinB s x
        · rfl
        · exact absurd (within_anti (joinF_pos s h) h (by rw [e2]; exact or_within h (hp s (by simp)) (within_refl6 x h) hw) (joinF_ge s h)) e
      · show withinB s (joinStep r (joinF x s)) = true
        refine within_trans (hp s (by simp)) (joinF_pos s h) ?_ (join_ge r _ (joinF_pos s h))
        rw [e2]; exact within_or_right x s (hp s (by simp))
theorem joinN_end {sets : List Int} (hp : ∀ s ∈ sets, 0 ≤ s) : ∀ n (x : Int), 0 ≤ x → sets.length < inCount sets x + n → joinStep sets (joinN sets n x) = joinN sets n x
  | 0, x, _, h => by
    have : inCount sets x ≤ sets.length := List.length_filter_le _ _
    omega
  | n + 1, x, hx, h => by
    by_cases e : joinStep sets x = x
    · rw [joinN_stable e]; exact e
    · obtain ⟨s, hs, h1, h2⟩ := join_moves sets x hx hp e
      have := count_more sets hp hx (join_ge sets x hx) hs h1 h2
      exact joinN_end hp n _ (join_pos sets x hx) (by omega)
/-- What sets lead to from some worlds: the least closed set. -/
def leadI (sets : List Int) (x : Int) : Int := joinN sets (sets.length + 1) x
theorem lead_pos {sets : List Int} {x : Int} (h : 0 ≤ x) : 0 ≤ leadI sets x := joinN_pos _ x h
theorem lead_ge {sets : List Int} {x : Int} (h : 0 ≤ x) : withinB x (leadI sets x) = true := joinN_ge _ x h
theorem lead_least {sets : List Int} {x z : Int} (h : 0 ≤ x) (hp : ∀ s ∈ sets, 0 ≤ s) (hz : withinB x z = true) (hc : Closed sets z) : withinB (leadI sets x) z = true := joinN_least hp hc _ x h hz
theorem lead_closed {sets : List Int} {x : Int} (h : 0 ≤ x) (hp : ∀ s ∈ sets, 0 ≤ s) : Closed sets (leadI sets x) :=
  join_stable sets _ (lead_pos h) hp (joinN_end hp _ x h (by omega))
theorem lead_of {sets : List Int} {x y : Int} (h : 0 ≤ x) (hy : 0 ≤ y) (hp : ∀ s ∈ sets, 0 ≤ s) (h1 : withinB x y = true) (h2 : Closed sets y) (h3 : withinB y (leadI sets x) = true) : y = leadI sets x :=
  within_anti hy (lead_pos h) h3 (lead_least h hp h1 h2)
/-- The program's way: on and on, till nothing changes. -/
theorem lead_fix {sets : List Int} {x y : Int} (h : 0 ≤ x) (hp : ∀ s ∈ sets, 0 ≤ s) (hy : ∃ n, y = joinN sets n x) (hst : joinStep sets y = y) : y = leadI sets x := by
  obtain ⟨n, rfl⟩ := hy
  exact lead_of h (joinN_pos n x h) hp (joinN_ge n x h) (join_stable sets _ (joinN_pos n x h) hp hst) (joinN_least hp (lead_closed h hp) n x h (lead_ge h))
/-- The model's way: as many times as there are sets, from one of them. -/
theorem lead_model {sets : List Int} {x : Int} (hp : ∀ s ∈ sets, 0 ≤ s) (hx : x ∈ sets) : joinN sets sets.length x = leadI sets x := by
  have h0 := hp x hx
  have hc : 1 ≤ inCount sets x := by
    unfold inCount
    exact List.length_pos_of_mem (List.mem_filter.2 ⟨hx, within_refl6 x h0⟩)
  exact lead_fix h0 hp ⟨_, rfl⟩ (joinN_end hp _ x h0 (by omega))
theorem joinN_succ (sets : List Int) : ∀ n (x : Int), joinN sets (n + 1) x = joinStep sets (joinN sets n x)
  | 0, _ => rfl
  | n + 1, x => by
    show joinN sets (n + 1) (joinStep sets x) = _
    rw [joinN_succ sets n (joinStep sets x)]; rfl
theorem join_ok {t : Int} : ∀ (sets : List Int) (x : Int), (∀ s ∈ sets, setOkB t s = true) → setOkB t x = true → setOkB t (joinStep sets x) = true
  | [], _, _, h => h
  | s :: r, x, hs, h => by
    refine join_ok r _ (fun y hy => hs y (List.mem_cons_of_mem _ hy)) ?_
    unfold joinF
    split
    · exact h
    · exact or_ok h (hs s (by simp))
theorem joinN_ok {t : Int} {sets : List Int} (hs : ∀ s ∈ sets, setOkB t s = true) : ∀ n (x : Int), setOkB t x = true → setOkB t (joinN sets n x) = true
  | 0, _, h => h
  | n + 1, x, h => joinN_ok hs n _ (join_ok sets x hs h)
theorem joinTo_next {sets : List Int} {k : Nat} {s : Int} (hs : Hid (sets[k]? = some s)) (x : Int) : joinStep (sets.take (k + 1)) x = joinF (joinStep (sets.take k) x) s := by
  unfold joinStep; rw [take_snoc hs, List.foldl_append]; rfl

/-! The finest partition that is coarser than two. -/
def leadP (sets : List Int) (w : Nat) : Int := leadI sets (worldS w)
def coarserL (t : Int) (a b : List Int) : List Int := if (isPartB t a && isPartB t b) = true then tidyL (partsP t (leadP (a ++ b))) else []
section
variable {t : Int} {a b : List Int}
theorem world_has (w : Nat) {x : Int} : withinB (worldS w) x = true ↔ hasW x w = true := world_within w
theorem has_world_self (w : Nat) : hasW (worldS w) w = true := by unfold hasW worldS; rw [Int.toNat_natCast]; simp
theorem world_set (h1 : 1 ≤ t) (h3 : t ≤ 3) {w : Nat} (hw : w < nWorlds t) : setOkB t (worldS w) = true := by
  have := world_ok h1 h3 hw
  exact setOk_of h1 h3 this.1 this.2
theorem lead_has {sets : List Int} (w : Nat) : hasW (leadP sets w) w = true := (world_has w).1 (lead_ge (worldS_nonneg w))
theorem lead_meet {sets : List Int} (hp : ∀ s ∈ sets, 0 ≤ s) {w v : Nat} {s : Int} (hs : s ∈ sets) (h1 : hasW (leadP sets w) v = true) (h2 : hasW s v = true) : withinB s (leadP sets w) = true := by
  rcases lead_closed (worldS_nonneg w) hp s hs with h | h
  · have := andI_zero.1 h v h1
    rw [h2] at this; cases this
  · exact h
theorem lead_pmap {sets : List Int} (h1 : 1 ≤ t) (h3 : t ≤ 3) (hs : ∀ s ∈ sets, setOkB t s = true) : PMap t (leadP sets) := by
  have hp : ∀ s ∈ sets, 0 ≤ s := fun s h => (setOkB_lt (hs s h)).2.2.1
  have hok : ∀ w, w < nWorlds t → setOkB t (leadP sets w) = true := fun w hw => joinN_ok hs _ _ (world_set h1 h3 hw)
  refine ⟨hok, fun w _ => lead_has w, fun w v hw hv => ?_⟩
  have hww := setOkB_lt (hok w hw)
  have hvl := has_lt h1 h3 hww.2.2.1 hww.2.2.2.1 hv
  have hvw : withinB (leadP sets v) (leadP sets w) = true := lead_least (worldS_nonneg v) hp ((world_has v).2 hv) (lead_closed (worldS_nonneg w) hp)
  refine within_anti (lead_pos (worldS_nonneg v)) (lead_pos (worldS_nonneg w)) hvw ?_
  have key : hasW (leadP sets v) w = true := by
    cases hn : hasW (leadP sets v) w
    · exfalso
      let z : Int := (setOfW (fun i => hasW (leadP sets w) i && !hasW (leadP sets v) i) (nWorlds t) : Int)
      have hz : ∀ i, hasW z i = (decide (i < nWorlds t) && (hasW (leadP sets w) i && !hasW (leadP sets v) i)) := fun i => by
        show (z.toNat).testBit i = _
        rw [show z.toNat = setOfW (fun i => hasW (leadP sets w) i && !hasW (leadP sets v) i) (nWorlds t) from Int.toNat_natCast _, setOfW_bit]
      have hz0 : 0 ≤ z := Int.natCast_nonneg _
      have hcl : Closed sets z := by
        intro s hsm
        have hsr := setOkB_lt (hs s hsm)
        by_cases hm : ∃ i, hasW z i = true ∧ hasW s i = true
        · obtain ⟨i, hzi, hsi⟩ := hm
          rw [hz, Bool.and_eq_true, Bool.and_eq_true] at hzi
          have hsw := lead_meet hp hsm hzi.2.1 hsi
          right
          refine (within_has hsr.2.2.1).2 fun j hj => ?_
          have hjw := has_within hsr.2.2.1 hsw hj
          rw [hz, decide_eq_true (has_lt h1 h3 hsr.2.2.1 hsr.2.2.2.1 hj), hjw]
          cases hjv : hasW (leadP sets v) j
          · rfl
          · have := has_within hsr.2.2.1 (lead_meet hp hsm hjv hj) hsi
            rw [this] at hzi
            exact absurd hzi.2.2 (by simp)
        · left
          exact andI_zero.2 fun i hi => by
            cases hsi : hasW s i
            · rfl
            · exact absurd ⟨i, hi, hsi⟩ hm
      have hzw : hasW z w = true := by rw [hz, decide_eq_true hw, lead_has, hn]; rfl
      have := has_within (lead_pos (worldS_nonneg w)) (lead_least (worldS_nonneg w) hp ((world_has w).2 hzw) hcl) hv
      rw [hz, lead_has v] at this
      simp at this
    · rfl
  exact lead_least (worldS_nonneg w) hp ((world_has w).2 key) (lead_closed (worldS_nonneg v) hp)
theorem part_sets (h : isPartB t a = true) : ∀ x ∈ a, setOkB t x = true := issue_sets (part_issue h)
theorem two_sets (ha : isPartB t a = true) (hb : isPartB t b = true) : ∀ x ∈ a ++ b, setOkB t x = true := fun x hx => by
  rcases List.mem_append.1 hx with h | h
  · exact part_sets ha x h
  · exact part_sets hb x h
theorem part_things (h : isPartB t a = true) : 1 ≤ t ∧ t ≤ 3 := issue_things (part_issue h)
theorem issue_zero6 (h : issueOkB t a = true) (h0 : (0 : Int) ∈ a) : a = [0] := by
  have hr : ∀ x ∈ a, 0 ≤ x ∧ x < 256 := sets_range (issue_sets h)
  have ht := issue_tidy h
  have key : ∀ x ∈ a, x = 0 := fun x hx => by
    rw [← ht] at h0
    have := ((tidy_mem hr 0).1 h0).2 x hx
    rcases this with e | e
    · exact e
    · rw [within_zero] at e; cases e
  rw [← ht]
  have hn : (tidyL a).Pairwise (· < ·) := tidy_asc a
  rw [ht] at *
  match a, key, hn, h0 with
  | [x], key, _, _ => rw [key x (by simp)]
  | x :: y :: r, key, hn, _ =>
    have h1 := key x (by simp)
    have h2 := key y (by simp)
    have := (List.pairwise_cons.1 hn).1 y (by simp)
    omega
theorem part_some (h : isPartB t a = true) {x : Int} (hx : x ∈ a) : ∃ w, w < nWorlds t ∧ hasW x w = true := by
  obtain ⟨h1, h3⟩ := part_things h
  have hr := setOkB_lt (part_sets h x hx)
  by_cases hz : ∃ w, hasW x w = true
  · obtain ⟨w, hw⟩ := hz
    exact ⟨w, has_lt h1 h3 hr.2.2.1 hr.2.2.2.1 hw, hw⟩
  · have e : x = 0 := has_ext hr.2.2.1 (Int.le_refl 0) fun w => by
      cases hw : hasW x w
      · unfold hasW; simp
      · exact absurd ⟨w, hw⟩ hz
    subst e
    have := issue_zero6 (part_issue h) hx
    subst this
    obtain ⟨y, hy, hyw, _⟩ := part_unique h (w := 0) (by have := (nW_pos h1 h3).1; omega)
    rw [List.mem_singleton] at hy
    subst hy
    unfold hasW at hyw
    simp at hyw
theorem tidy_congr {xs ys : List Int} (hx : ∀ x ∈ xs, 0 ≤ x ∧ x < 256) (hy : ∀ x ∈ ys, 0 ≤ x ∧ x < 256) (h : ∀ x, x ∈ xs ↔ x ∈ ys) : tidyL xs = tidyL ys :=
  asc_ext (tidy_asc _) (tidy_asc _) fun x => by
    rw [tidy_mem hx, tidy_mem hy]
    constructor
    · rintro ⟨h1, h2⟩; exact ⟨(h x).1 h1, fun y hy => h2 y ((h y).2 hy)⟩
    · rintro ⟨h1, h2⟩; exact ⟨(h x).2 h1, fun y hy => h2 y ((h y).1 hy)⟩
theorem coarser_eq (ha : isPartB t a = true) (hb : isPartB t b = true) : coarserL t a b = tidyL (partsP t (leadP (a ++ b))) := by unfold coarserL; rw [ha, hb]; rfl
theorem two_pmap (ha : isPartB t a = true) (hb : isPartB t b = true) : PMap t (leadP (a ++ b)) := lead_pmap (part_things ha).1 (part_things ha).2 (two_sets ha hb)
/-- The model's list. -/
theorem coarser_model (ha : isPartB t a = true) (hb : isPartB t b = true) : tidyL (a.map fun x => joinN (a ++ b) (a ++ b).length x) = coarserL t a b := by
  obtain ⟨h1, h3⟩ := part_things ha
  have hs := two_sets ha hb
  have hp : ∀ s ∈ a ++ b, 0 ≤ s := fun s h => (setOkB_lt (hs s h)).2.2.1
  have hm := two_pmap ha hb
  have same : ∀ x ∈ a, ∀ w, hasW x w = true → joinN (a ++ b) (a ++ b).length x = leadP (a ++ b) w := fun x hx w hw => by
    have hxm : x ∈ a ++ b := List.mem_append_left _ hx
    have h0 := hp x hxm
    rw [lead_model hp hxm]
    refine within_anti (lead_pos h0) (lead_pos (worldS_nonneg w)) ?_ ?_
    · exact lead_least h0 hp (lead_meet hp hxm (lead_has w) hw) (lead_closed (worldS_nonneg w) hp)
    · exact lead_least (worldS_nonneg w) hp (within_trans (worldS_nonneg w) h0 ((world_has w).2 hw) (lead_ge h0)) (lead_closed h0 hp)
  rw [coarser_eq ha hb]
  have hmem : ∀ y, y ∈ (a.map fun x => joinN (a ++ b) (a ++ b).length x) ↔ y ∈ partsP t (leadP (a ++ b)) := fun y => by
    rw [List.mem_map, mem_partsP]
    constructor
    · rintro ⟨x, hx, rfl⟩
      obtain ⟨w, hwl, hw⟩ := part_some ha hx
      exact ⟨w, hwl, (same x hx w hw).symm⟩
    · rintro ⟨w, hwl, rfl⟩
      obtain ⟨x, hx, hw, _⟩ := part_unique ha hwl
      exact ⟨x, hx, same x hx w hw⟩
  have hr := sets_range (partsP_sets hm)
  exact tidy_congr (fun x hx => hr x ((hmem x).1 hx)) hr hmem
theorem coarser_part (ha : isPartB t a = true) (hb : isPartB t b = true) : isPartB t (coarserL t a b) = true := by
  rw [coarser_eq ha hb]; exact pmap_partition (part_things ha).1 (part_things ha).2 (two_pmap ha hb)
theorem coarser_mem (ha : isPartB t a = true) (hb : isPartB t b = true) {x : Int} : x ∈ coarserL t a b ↔ ∃ w, w < nWorlds t ∧ leadP (a ++ b) w = x := by
  rw [coarser_eq ha hb, pmap_tidy (two_pmap ha hb), mem_partsP]
theorem follows_of {c : List Int} (ha : issueOkB t a = true) (hc : issueOkB t c = true) (h : ∀ x ∈ a, ∃ y ∈ c, withinB x y = true) : followsB t a c = true := by
  unfold followsB
  rw [ha, hc, Bool.true_and, Bool.true_and, List.all_eq_true]
  exact fun x hx => any_iff.2 (h x hx)
theorem coarser_follows (ha : isPartB t a = true) (hb : isPartB t b = true) : followsB t a (coarserL t a b) = true ∧ followsB t b (coarserL t a b) = true := by
  have hs := two_sets ha hb
  have hp : ∀ s ∈ a ++ b, 0 ≤ s := fun s h => (setOkB_lt (hs s h)).2.2.1
  have hi := part_issue (coarser_part ha hb)
  refine ⟨follows_of (part_issue ha) hi fun x hx => ?_, follows_of (part_issue hb) hi fun x hx => ?_⟩
  · obtain ⟨w, hwl, hw⟩ := part_some ha hx
    exact ⟨_, (coarser_mem ha hb).2 ⟨w, hwl, rfl⟩, lead_meet hp (List.mem_append_left _ hx) (lead_has w) hw⟩
  · obtain ⟨w, hwl, hw⟩ := part_some hb hx
    exact ⟨_, (coarser_mem ha hb).2 ⟨w, hwl, rfl⟩, lead_meet hp (List.mem_append_right _ hx) (lead_has w) hw⟩
theorem bothL_swap (t : Int) (a b : List Int) : bothL t a b = bothL t b a := by
  unfold bothL
  rw [Bool.and_comm]
  split
  · rename_i h
    rw [Bool.and_eq_true] at h
    refine tidy_congr (sets_range (bothX_sets h.2)) (sets_range (bothX_sets h.1)) fun x => ?_
    rw [mem_bothX, mem_bothX]
    constructor
    · rintro ⟨u, hu, v, hv, e⟩; exact ⟨v, hv, u, hu, by rw [← e]; unfold andI; rw [Nat.and_comm]⟩
    · rintro ⟨u, hu, v, hv, e⟩; exact ⟨v, hv, u, hu, by rw [← e]; unfold andI; rw [Nat.and_comm]⟩
  · rfl
theorem coarser_both (ha : isPartB t a = true) (hb : isPartB t b = true) : bothL t (coarserL t a b) a = a := by
  rw [bothL_swap]
  have := law_follows_both (part_issue ha) (part_issue (coarser_part ha hb))
  rw [(coarser_follows ha hb).1, decide_eq_true_eq] at this
  exact this
theorem coarser_finest {c : List Int} (ha : isPartB t a = true) (hb : isPartB t b = true) (hc : isPartB t c = true) (h1 : followsB t a c = true) (h2 : followsB t b c = true) : followsB t (coarserL t a b) c = true := by
  obtain ⟨ht1, ht3⟩ := part_things ha
  have hs := two_sets ha hb
  have hp : ∀ s ∈ a ++ b, 0 ≤ s := fun s h => (setOkB_lt (hs s h)).2.2.1
  refine follows_of (part_issue (coarser_part ha hb)) (part_issue hc) fun x hx => ?_
  obtain ⟨w, hwl, rfl⟩ := (coarser_mem ha hb).1 hx
  obtain ⟨y, hy, hyw, _⟩ := part_unique hc hwl
  have hall : ∀ s ∈ a ++ b, ∃ z ∈ c, withinB s z = true := fun s hsm => by
    unfold followsB at h1 h2
    rw [Bool.and_eq_true, List.all_eq_true] at h1 h2
    rcases List.mem_append.1 hsm with h | h
    · exact any_iff.1 (h1.2 s h)
    · exact any_iff.1 (h2.2 s h)
  refine ⟨y, hy, lead_least (worldS_nonneg w) hp ((world_has w).2 hyw) fun s hsm => ?_⟩
  obtain ⟨z, hz, hsz⟩ := hall s hsm
  by_cases hm : ∃ i, hasW y i = true ∧ hasW s i = true
  · obtain ⟨i, hyi, hsi⟩ := hm
    have hzi := has_within (hp s hsm) hsz hsi
    have hsr := setOkB_lt (hs s hsm)
    obtain ⟨q, _, _, hu⟩ := part_unique hc (has_lt ht1 ht3 hsr.2.2.1 hsr.2.2.2.1 hsi)
    rw [hu y hy hyi, ← hu z hz hzi]
    exact .inr hsz
  · left
    exact andI_zero.2 fun i hi => by
      cases hsi : hasW s i
      · rfl
      · exact absurd ⟨i, hi, hsi⟩ hm
end
end Go.Proofs.Ytmdogidflaplkaa

namespace Go.Proofs.Ytmdogidflaplkaa
open Go.RowKit Go.Shelf
attribute [local go_sem] Oper.semAt_some

theorem and_mod2 (a b : Nat) : (a &&& b) % 2 = (a % 2) &&& (b % 2) := by simpa using Nat.and_mod_two_pow (a := a) (b := b) (n := 1)
/-- The greatest set within s below p, where p is one. -/
theorem sub_le : ∀ (p s u : Nat), p &&& s = p → u &&& s = u → u < p → u ≤ (p - 1) &&& s := by
  intro p
  induction p using Nat.strongRecOn with
  | _ p ih =>
    intro s u hp hu hlt
    have p2 : p / 2 &&& s / 2 = p / 2 := by rw [← Nat.and_div_two, hp]
    have u2 : u / 2 &&& s / 2 = u / 2 := by rw [← Nat.and_div_two, hu]
    have e2 : ((p - 1) &&& s) / 2 = (p - 1) / 2 &&& s / 2 := Nat.and_div_two
    have em := and_mod2 (p - 1) s
    have um := and_mod2 u s
    rw [hu] at um
    rcases Nat.mod_two_eq_zero_or_one p with h | h
    · have h1 : (p - 1) / 2 = p / 2 - 1 := by omega
      have h2 : (p - 1) % 2 = 1 := by omega
      have := ih (p / 2) (by omega) (s / 2) (u / 2) p2 u2 (by omega)
      rw [h1] at e2
      rw [h2] at em
      rw [← e2] at this
      rcases Nat.mod_two_eq_zero_or_one s with h3 | h3 <;> rcases Nat.mod_two_eq_zero_or_one u with h4 | h4 <;> rw [h3] at em um <;> rw [h4] at um <;>
        first | (have em : ((p - 1) &&& s) % 2 = 0 := em; omega) | (have em : ((p - 1) &&& s) % 2 = 1 := em; omega) | (exfalso; revert um; decide)
    · have h1 : (p - 1) / 2 = p / 2 := by omega
      rw [h1, p2] at e2
      omega
theorem within_nat {a b : Int} (ha : 0 ≤ a) (h : withinB a b = true) : a.toNat &&& b.toNat = a.toNat := by
  have := of_decide_eq_true h
  unfold andI at this
  omega
theorem subs_next {s p u : Int} (hp : withinB p s = true) (h0 : 0 < p) (hu0 : 0 ≤ u) (hu : withinB u s = true) (hlt : u < p) : u ≤ andI (p - 1) s := by
  have := sub_le p.toNat s.toNat u.toNat (within_nat (by omega) hp) (within_nat hu0 hu) (by omega)
  have e : (p - 1).toNat = p.toNat - 1 := by omega
  unfold andI
  rw [e]
  omega

abbrev Sub (s : Int) := { x : Int // 0 ≤ x ∧ x ≤ s ∧ withinB x s = true }
/-- All sets within s have come. -/
def FullS (s : Int) (xs : List (Sub s)) : Prop := ∀ u : Sub s, u ∈ xs
def FromS (s p : Int) (xs : List (Sub s)) : Prop := ∀ u : Sub s, p < u.1 → u ∈ xs
theorem fromS_start (s : Int) : FromS s s [] := fun u h => by have := u.2; omega
theorem fromS_next {s p : Int} {pre : List (Sub s)} (hp : 0 ≤ p ∧ p ≤ s ∧ withinB p s = true) (h0 : 0 < p) (h : FromS s p pre) : FromS s (andI (p - 1) s) (pre ++ [⟨p, hp⟩]) := by
  intro u hu
  rcases Int.lt_or_le p u.1 with h1 | h1
  · exact List.mem_append.2 (.inl (h u h1))
  · by_cases e : u.1 = p
    · exact List.mem_append.2 (.inr (by rw [List.mem_singleton]; exact Subtype.ext e))
    · have := subs_next hp.2.2 h0 u.2.1 u.2.2.2 (by omega)
      omega
theorem fromS_end {s p : Int} {pre : List (Sub s)} (hp : 0 ≤ p ∧ p ≤ s ∧ withinB p s = true) (h0 : ¬ 0 < p) (h : FromS s p pre) : FullS s (pre ++ [⟨p, hp⟩]) := by
  intro u
  rcases Int.lt_or_le p u.1 with h1 | h1
  · exact List.mem_append.2 (.inl (h u h1))
  · exact List.mem_append.2 (.inr (by rw [List.mem_singleton]; exact Subtype.ext (by have := u.2.1; show u.1 = p; omega)))

end Go.Proofs.Ytmdogidflaplkaa

namespace Go.Proofs.Ytmdogidflaplkaa
open Go.RowKit Go.Shelf
attribute [local go_sem] Oper.semAt_some

/-- The slice at ⟨b, o⟩ of n bools tells f of every set within s. -/
def Told (w : World) (b o n : Nat) (s : Int) (f : Int → Bool) : Prop :=
  b < w.heap.size ∧ ∀ u : Int, 0 ≤ u → withinB u s = true → u < n ∧ w.cell? ⟨b, o + u.toNat, none⟩ = some (.bool (f u))
theorem Told.below {w w' : World} {b o n : Nat} {s : Int} {f : Int → Bool} (h : Told w b o n s f) (hb : Below w.heap.size w w') : Told w' b o n s f :=
  ⟨Nat.lt_of_lt_of_le h.1 hb.size, fun u h0 hu => ⟨(h.2 u h0 hu).1, (hb.cell (p := ⟨b, o + u.toNat, none⟩) h.1).trans (h.2 u h0 hu).2⟩⟩
theorem Told.sub {w : World} {b o n : Nat} {s s2 : Int} {f : Int → Bool} (h : Told w b o n s f) (hs0 : 0 ≤ s2) (hs : withinB s2 s = true) : Told w b o n s2 f :=
  ⟨h.1, fun u h0 hu => h.2 u h0 (within_trans h0 hs0 hu hs)⟩

theorem kept_t {Bn : Nat} {A B C : World} (h : B.heap[Bn]? = A.heap[Bn]?) (k : C.heap[Bn]? = B.heap[Bn]?) : C.heap[Bn]? = A.heap[Bn]? := k.trans h
theorem kept_b {Bn : Nat} {w : World} (hn : Bn < w.heap.size) (W : World) (l : Nat) (o o' : Obj) (hl : w.heap.size ≤ l) (_ : W.heap[l]? = some o) (_ : o.isCells = false) (_ : o.isWalk = false) : (W.putObj l o').heap[Bn]? = W.heap[Bn]? :=
  World.putObj_heap_other (by omega)

def ifB (s : Int) (f g : Int → Bool) : Bool := (List.range (s.toNat + 1)).all fun u : Nat => !withinB (u : Int) s || !f (u : Int) || g (u : Int)
theorem ifB_miss {s : Int} {f g : Int → Bool} (u : Sub s) (h1 : f u.1 = true) (h2 : g u.1 = false) : ifB s f g = false := by
  unfold ifB
  rw [List.all_eq_false]
  refine ⟨u.1.toNat, List.mem_range.2 (by have := u.2; omega), ?_⟩
  rw [Int.toNat_of_nonneg u.2.1, u.2.2.2, h1, h2]; decide
theorem ifB_full {s : Int} {f g : Int → Bool} (hs : 0 ≤ s) {xs : List (Sub s)} (hx : FullS s xs) (h : ∀ y ∈ xs, (f y.1 && !g y.1) = false) : ifB s f g = true := by
  unfold ifB
  rw [List.all_eq_true]
  intro u hu
  rw [List.mem_range] at hu
  cases hw : withinB (u : Int) s
  · rfl
  · have := h ⟨(u : Int), by omega, within_le hw hs, hw⟩ (hx _)
    revert this
    cases f (u : Int) <;> cases g (u : Int) <;> simp

theorem pre_snoc {s : Int} {f g : Int → Bool} {pre : List (Sub s)} {x : Sub s} (h : ∀ y ∈ pre, (f y.1 && !g y.1) = false) (hx : (f x.1 && !g x.1) = false) : ∀ y ∈ pre ++ [x], (f y.1 && !g y.1) = false := by
  intro y hy
  rcases List.mem_append.1 hy with e | e
  · exact h y e
  · rw [List.mem_singleton] at e; subst e; exact hx
theorem box_keep {W W' : World} {row : Option Nat} {B : Nat} {t : TypeId} {v : Value} (h : Boxed W B t v) (hg : W.grownBy W' row) (hr : ∀ r, row = some r → ∃ o : Obj, W.heap[r]? = some o ∧ o.isCells = false) : Boxed W' B t v :=
  h.kept hg (fun e => by obtain ⟨o, ho, hc⟩ := hr B e.symm; rw [show W.heap[B]? = _ from h] at ho; cases ho; cases hc)
theorem Boxed.below {W W' : World} {B : Nat} {t : TypeId} {v : Value} (h : Boxed W B t v) (hb : Below W.heap.size W W') : Boxed W' B t v := (hb.block B h.lt).trans h
theorem box_putObj {W : World} {B : Nat} {t : TypeId} {v : Value} (h : Boxed W B t v) {D : Nat} {o : Obj} (o' : Obj) (hD : W.heap[D]? = some o) (ho : o.isCells = false) : Boxed (W.putObj D o') B t v :=
  box_keep h (grownBy_putObj' W D o') (fun r e => by cases e; exact ⟨o, hD, ho⟩)

end Go.Proofs.Ytmdogidflaplkaa

namespace Go.Proofs.Ytmdogidflaplkaa
open Go.RowKit

def bitOf (c k : Nat) : Bool := decide (c = 49) || (!decide (c = 48) && decide (k / 2 ^ (c - 97) % 2 = 1))
def wordTo (c : Nat) : Nat → Nat
  | 0 => 0
  | k + 1 => wordTo c k ||| (if bitOf c k = true then 2 ^ k else 0)
def isWord (c : Nat) : Prop := c = 48 ∨ c = 49 ∨ c = 97 ∨ c = 98 ∨ c = 99
def wNext (c k v : Nat) : Prop := v = wordTo c (k + 1)

set_option maxRecDepth 100000 in
set_option maxHeartbeats 4000000 in
theorem iWorldsOfWord (t : Int) (n : Nat) (hn : worldsOf t = (n : Int)) (hn8 : n ≤ 8) (c : Nat) (w : World) (hc : isWord c) :
    Calls Try.prog 27 #[.int .i64 t, .int .u8 c] w fun e w' => e = .returned (.int .i64 (wordTo c n)) ∧ w = w' := by
  have HN := Lib.hid hn
  clear hn
  go_enter Try.func27, Try.ntmps27
  go_wp2_with (go_at_call 25; refine (iWorldsOf _ _).mono ?_; rintro e w' ⟨rfl, rfl⟩)
  rw [HN.out]
  go_loop [5, 9] (fun v i => ∃ k : Nat, k ≤ n ∧ i = .int .i64 k ∧ v = .int .i64 (wordTo c k)) (fun _ i => n - (Go.RowKit.intOf i).toNat)
  case atStart => exact ⟨0, Nat.zero_le _, rfl, rfl⟩
  case round =>
    obtain ⟨k, hk, rfl, rfl⟩ := hrel
    by_cases hlt : k < n
    · have h8 : k = 0 ∨ k = 1 ∨ k = 2 ∨ k = 3 ∨ k = 4 ∨ k = 5 ∨ k = 6 ∨ k = 7 := by omega
      have hs : k + 1 ≤ n := hlt
      have HS := Lib.hid hs
      have HL : Hid ((k : Int) < (n : Int)) := by unfold Hid; omega
      clear hk hs hlt hn8
      rcases hc with rfl | rfl | rfl | rfl | rfl <;> rcases h8 with rfl | rfl | rfl | rfl | rfl | rfl | rfl | rfl
      all_goals
        have hlt := HL.out
        go_wp2
        refine ⟨⟨_, HS.out, rfl, by rfl⟩, ?_⟩
        clear HS HL
        simp [Go.RowKit.intOf]
        omega
    · obtain rfl : k = n := by omega
      go_wp2
      go_ret
      exact ⟨rfl, rfl⟩
end Go.Proofs.Ytmdogidflaplkaa
