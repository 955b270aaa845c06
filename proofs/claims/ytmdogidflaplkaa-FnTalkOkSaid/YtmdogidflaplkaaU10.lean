/-
  What the proofs of this seat's statements share (MathG).
-/
import Derived.Test.YtmdogidflaplkaaU9

namespace Go.Proofs.Ytmdogidflaplkaa
open Go.RowKit

/-- The worlds below k of which p is so, as a set. -/
def setOfW (p : Nat → Bool) : Nat → Nat
  | 0 => 0
  | k + 1 => setOfW p k + if p k = true then 2 ^ k else 0
theorem setOfW_lt (p : Nat → Bool) : ∀ k, setOfW p k < 2 ^ k
  | 0 => by simp [setOfW]
  | k + 1 => by
    have := setOfW_lt p k
    unfold setOfW
    rw [Nat.pow_succ]
    split <;> omega
theorem setOfW_bit (p : Nat → Bool) : ∀ k v, (setOfW p k).testBit v = (decide (v < k) && p v)
  | 0, v => by simp [setOfW]
  | k + 1, v => by
    have hlt := setOfW_lt p k
    have ih := setOfW_bit p k v
    unfold setOfW
    by_cases hp : p k = true
    · rw [if_pos hp, Nat.add_comm]
      rcases Nat.lt_trichotomy v k with h | h | h
      · rw [Nat.testBit_two_pow_add_gt h, ih, decide_eq_true h, decide_eq_true (show v < k + 1 by omega)]
      · subst h
        rw [Nat.testBit_two_pow_add_eq, Nat.testBit_lt_two_pow hlt, hp]; simp
      · rw [Nat.testBit_lt_two_pow (by
          have : 2 ^ (k + 1) ≤ 2 ^ v := Nat.pow_le_pow_right (by omega) (by omega)
          rw [Nat.pow_succ] at this; omega), decide_eq_false (show ¬ v < k + 1 by omega)]; rfl
    · rw [if_neg hp, Nat.add_zero, ih]
      by_cases h : v = k
      · subst h
        rw [decide_eq_false (show ¬ v < v by omega)]
        cases hv : p v
        · simp
        · exact absurd hv hp
      · by_cases h2 : v < k
        · rw [decide_eq_true h2, decide_eq_true (show v < k + 1 by omega)]
        · rw [decide_eq_false h2, decide_eq_false (show ¬ v < k + 1 by omega)]

def isPartB (t : Int) (xs : List Int) : Bool := issueOkB t xs && (List.range (nWorlds t)).all fun w => decide ((xs.filter fun x => hasW x w).length = 1)
def sameIn (sets : List Int) (v w : Nat) : Bool := sets.all fun x => hasW x v == hasW x w
def partOf (t : Int) (sets : List Int) (w : Nat) : Int := (setOfW (fun v => sameIn sets v w) (nWorlds t) : Int)
def partsX (t : Int) (sets : List Int) : List Int := (List.range (nWorlds t)).map (partOf t sets)
def asksL (t : Int) (sets : List Int) : List Int := if (sets.all (setOkB t) && decide (1 ≤ t ∧ t ≤ 3) && decide (sets.length ≤ 70)) = true then tidyL (partsX t sets) else []

section
variable {t : Int} {sets : List Int}
theorem nW_pos (h1 : 1 ≤ t) (h3 : t ≤ 3) : 2 ≤ nWorlds t ∧ allOf t = ((2 ^ nWorlds t : Nat) : Int) - 1 := by
  have : t = 1 ∨ t = 2 ∨ t = 3 := by omega
  rcases this with rfl | rfl | rfl
  · exact ⟨by decide, rfl⟩
  · exact ⟨by decide, rfl⟩
  · exact ⟨by decide, rfl⟩
theorem part_has (w v : Nat) : hasW (partOf t sets w) v = (decide (v < nWorlds t) && sameIn sets v w) := by
  unfold hasW partOf; rw [Int.toNat_natCast, setOfW_bit]
theorem part_ok (h1 : 1 ≤ t) (h3 : t ≤ 3) (w : Nat) : setOkB t (partOf t sets w) = true := by
  have := setOfW_lt (fun v => sameIn sets v w) (nWorlds t)
  have h2 := (nW_pos h1 h3).2
  have e : partOf t sets w = ((setOfW (fun v => sameIn sets v w) (nWorlds t) : Nat) : Int) := rfl
  generalize setOfW (fun v => sameIn sets v w) (nWorlds t) = q at this e
  generalize 2 ^ nWorlds t = m at this h2
  exact setOk_of h1 h3 (by omega) (by omega)
theorem same_refl (w : Nat) : sameIn sets w w = true := by unfold sameIn; simp
theorem same_symm {v w : Nat} (h : sameIn sets v w = true) : sameIn sets w v = true := by
  unfold sameIn at *
  rw [List.all_eq_true] at *
  intro x hx
  have := h x hx
  simp only [beq_iff_eq] at *
  exact this.symm
theorem same_trans {u v w : Nat} (h : sameIn sets u v = true) (h2 : sameIn sets v w = true) : sameIn sets u w = true := by
  unfold sameIn at *
  rw [List.all_eq_true] at *
  intro x hx
  have a := h x hx
  have b := h2 x hx
  simp only [beq_iff_eq] at *
  exact a.trans b
theorem has_ext {x y : Int} (hx : 0 ≤ x) (hy : 0 ≤ y) (h : ∀ w, hasW x w = hasW y w) : x = y := by
  have : x.toNat = y.toNat := Nat.eq_of_testBit_eq h
  omega
theorem within_has {x y : Int} (hx : 0 ≤ x) : withinB x y = true ↔ ∀ w, hasW x w = true → hasW y w = true := within_iff hx
theorem part_self {w : Nat} (hw : w < nWorlds t) : hasW (partOf t sets w) w = true := by rw [part_has, decide_eq_true hw, same_refl]; rfl
theorem part_eq {v w : Nat} (h : sameIn sets v w = true) : partOf t sets v = partOf t sets w := by
  refine has_ext (Int.natCast_nonneg _) (Int.natCast_nonneg _) fun u => ?_
  rw [part_has, part_has]
  congr 1
  rw [Bool.eq_iff_iff]
  exact ⟨fun h2 => same_trans h2 h, fun h2 => same_trans h2 (same_symm h)⟩
theorem mem_parts {x : Int} : x ∈ partsX t sets ↔ ∃ w, w < nWorlds t ∧ partOf t sets w = x := by
  unfold partsX; rw [List.mem_map]; simp [List.mem_range]
theorem parts_sets (h1 : 1 ≤ t) (h3 : t ≤ 3) : ∀ x ∈ partsX t sets, setOkB t x = true := by
  intro x hx
  obtain ⟨w, _, rfl⟩ := mem_parts.1 hx
  exact part_ok h1 h3 w
/-- Parts are within no other parts. -/
theorem parts_apart {x y : Int} (hx : x ∈ partsX t sets) (hy : y ∈ partsX t sets) (h : withinB x y = true) : x = y := by
  obtain ⟨v, hv, rfl⟩ := mem_parts.1 hx
  obtain ⟨w, _, rfl⟩ := mem_parts.1 hy
  have := (within_has (Int.natCast_nonneg _)).1 h v (part_self hv)
  rw [part_has, Bool.and_eq_true] at this
  exact part_eq this.2
theorem tidy_parts (h1 : 1 ≤ t) (h3 : t ≤ 3) (x : Int) : x ∈ tidyL (partsX t sets) ↔ x ∈ partsX t sets := by
  rw [tidy_mem (sets_range (parts_sets h1 h3))]
  refine ⟨fun h => h.1, fun h => ⟨h, fun y hy => ?_⟩⟩
  cases hw : withinB x y
  · exact .inr rfl
  · exact .inl (parts_apart h hy hw).symm
theorem parts_good (h1 : 1 ≤ t) (h3 : t ≤ 3) : Good t (partsX t sets) :=
  ⟨fun e => by
    have := mem_parts (t := t) (sets := sets) (x := partOf t sets 0)
    rw [e] at this
    exact absurd (this.2 ⟨0, by have := (nW_pos h1 h3).1; omega, rfl⟩) (by simp), parts_sets h1 h3⟩
theorem count_one {xs : List Int} {w : Nat} (hd : xs.Nodup) {x : Int} (hx : x ∈ xs) (hw : hasW x w = true) (hu : ∀ y ∈ xs, hasW y w = true → y = x) : (xs.filter fun x => hasW x w).length = 1 := by
  have e : xs.filter (fun x => hasW x w) = [x] := by
    have hm : ∀ y, y ∈ xs.filter (fun x => hasW x w) ↔ y = x := by
      intro y
      rw [List.mem_filter]
      exact ⟨fun h => hu y h.1 h.2, fun h => by rw [h]; exact ⟨hx, hw⟩⟩
    have hd2 : (xs.filter fun x => hasW x w).Nodup := hd.sublist List.filter_sublist
    match h : xs.filter (fun x => hasW x w), hm, hd2 with
    | [], hm, _ => have := (hm x).2 rfl; simp at this
    | [y], hm, _ => rw [(hm y).1 (by simp)]
    | y :: z :: r, hm, hd2 =>
      have a := (hm y).1 (by simp)
      have b := (hm z).1 (by simp)
      rw [List.nodup_cons] at hd2
      exact absurd (by rw [a, b]; simp) hd2.1
  rw [e]; rfl
theorem asc_nodup {xs : List Int} (h : xs.Pairwise (· < ·)) : xs.Nodup := h.imp fun h => by omega
/-- Whether some are so is a partition. -/
theorem parts_partition (h1 : 1 ≤ t) (h3 : t ≤ 3) : isPartB t (tidyL (partsX t sets)) = true := by
  have hg := parts_good (sets := sets) h1 h3
  unfold isPartB
  rw [tidy_ok hg.1 hg.2, Bool.true_and, List.all_eq_true]
  intro w hw
  rw [List.mem_range] at hw
  rw [decide_eq_true_eq]
  refine count_one (asc_nodup (tidy_asc _)) ((tidy_parts h1 h3 _).2 (mem_parts.2 ⟨w, hw, rfl⟩)) (part_self hw) fun y hy hyw => ?_
  obtain ⟨v, hv, rfl⟩ := mem_parts.1 ((tidy_parts h1 h3 y).1 hy)
  rw [part_has, Bool.and_eq_true] at hyw
  exact (part_eq hyw.2).symm
theorem asks_eq (h1 : 1 ≤ t) (h3 : t ≤ 3) (hs : ∀ x ∈ sets, setOkB t x = true) (hl : sets.length ≤ 70) : asksL t sets = tidyL (partsX t sets) := by
  unfold asksL
  rw [if_pos]
  simp only [Bool.and_eq_true, decide_eq_true_eq, List.all_eq_true]
  exact ⟨⟨hs, h1, h3⟩, hl⟩
/-- Settled: all worlds of the set are in the same ones of the sets. -/
theorem parts_any (h1 : 1 ≤ t) (h3 : t ≤ 3) {s : Int} (hs : 0 ≤ s) (hs2 : s ≤ allOf t) : anyWithin s (partsX t sets) = true ↔ ∀ v w, hasW s v = true → hasW s w = true → sameIn sets v w = true := by
  rw [any_iff]
  constructor
  · rintro ⟨x, hx, hw⟩ v w hv hw2
    obtain ⟨u, _, rfl⟩ := mem_parts.1 hx
    rw [within_has hs] at hw
    have a := hw v hv
    have b := hw w hw2
    rw [part_has, Bool.and_eq_true] at a b
    exact same_trans a.2 (same_symm b.2)
  · intro h
    by_cases he : ∃ v, hasW s v = true
    · obtain ⟨v, hv⟩ := he
      refine ⟨_, mem_parts.2 ⟨v, has_lt h1 h3 hs hs2 hv, rfl⟩, (within_has hs).2 fun w hw => ?_⟩
      rw [part_has, decide_eq_true (has_lt h1 h3 hs hs2 hw), h w v hw hv]; rfl
    · refine ⟨_, mem_parts.2 ⟨0, by have := (nW_pos h1 h3).1; omega, rfl⟩, (within_has hs).2 fun w hw => absurd ⟨w, hw⟩ he⟩
theorem whether_one {x s : Int} (hx : setOkB t x = true) (hs : 0 ≤ s) (hs2 : s ≤ allOf t) : anyWithin s (whetherL t [x]) = true ↔ ∀ v w, hasW s v = true → hasW s w = true → hasW x v = hasW x w := by
  obtain ⟨h1, h3, hx0, hxa, _⟩ := setOkB_lt hx
  have hi := issue_one hx
  rw [whether_eq hi, either_any hi (not_ok hi) hs, law_not hi, union_one hx0, any_one, any_one, Bool.or_eq_true, comp_within h1 h3 hs hs2 hx0 hxa, within_has hs]
  constructor
  · rintro (h | h) v w hv hw
    · rw [h v hv, h w hw]
    · have h2 : s.toNat &&& x.toNat = 0 := by unfold andI at h; omega
      have key : ∀ u, hasW s u = true → hasW x u = false := fun u hu => by
        have := congrArg (fun y => y.testBit u) h2
        simp only [Nat.testBit_and, Nat.zero_testBit] at this
        unfold hasW at *
        rw [hu] at this; simpa using this
      rw [key v hv, key w hw]
  · intro h
    by_cases he : ∃ v, hasW s v = true ∧ hasW x v = false
    · obtain ⟨v, hv, hxv⟩ := he
      right
      have : s.toNat &&& x.toNat = 0 := by
        apply Nat.eq_of_testBit_eq
        intro i
        rw [Nat.testBit_and, Nat.zero_testBit]
        cases hi : s.toNat.testBit i
        · rfl
        · have := h i v hi hv
          rw [hxv] at this
          unfold hasW at this
          rw [this]; rfl
      unfold andI; omega
    · left
      intro w hw
      cases hxw : hasW x w
      · exact absurd ⟨w, hw, hxw⟩ he
      · rfl
theorem law_asks (h1 : 1 ≤ t) (h3 : t ≤ 3) (hsets : ∀ x ∈ sets, setOkB t x = true) {s : Int} (hs : 0 ≤ s) (hs2 : s ≤ allOf t) :
    settlesB t (tidyL (partsX t sets)) s = sets.all fun x => settlesB t (whetherL t [x]) s := by
  have hg := parts_good (sets := sets) h1 h3
  rw [settles_any (tidy_ok hg.1 hg.2) hs hs2, tidy_any hg.range hs, Bool.eq_iff_iff, parts_any h1 h3 hs hs2, List.all_eq_true]
  constructor
  · intro h x hx
    rw [settles_any (whether_ok (issue_one (hsets x hx))) hs hs2, whether_one (hsets x hx) hs hs2]
    intro v w hv hw
    have := h v w hv hw
    unfold sameIn at this
    rw [List.all_eq_true] at this
    simpa using this x hx
  · intro h v w hv hw
    unfold sameIn
    rw [List.all_eq_true]
    intro x hx
    have := h x hx
    rw [settles_any (whether_ok (issue_one (hsets x hx))) hs hs2, whether_one (hsets x hx) hs hs2] at this
    rw [this v w hv hw]; simp
/-- In a partition each world is in just one set. -/
theorem part_unique {xs : List Int} (h : isPartB t xs = true) {w : Nat} (hw : w < nWorlds t) : ∃ x ∈ xs, hasW x w = true ∧ ∀ y ∈ xs, hasW y w = true → y = x := by
  unfold isPartB at h
  rw [Bool.and_eq_true, List.all_eq_true] at h
  have := h.2 w (List.mem_range.2 hw)
  rw [decide_eq_true_eq] at this
  match e : xs.filter (fun x => hasW x w), this with
  | [x], _ =>
    have hm : ∀ y, y ∈ xs.filter (fun x => hasW x w) ↔ y = x := fun y => by rw [e]; simp
    have h1 := (hm x).2 rfl
    rw [List.mem_filter] at h1
    exact ⟨x, h1.1, h1.2, fun y hy hyw => (hm y).1 (List.mem_filter.2 ⟨hy, hyw⟩)⟩
theorem part_issue {xs : List Int} (h : isPartB t xs = true) : issueOkB t xs = true := by
  unfold isPartB at h; rw [Bool.and_eq_true] at h; exact h.1
/-- Parts are whether they are so. -/
theorem law_isPart {xs : List Int} (hx : issueOkB t xs = true) : decide (tidyL (partsX t xs) = xs) = isPartB t xs := by
  obtain ⟨h1, h3⟩ := issue_things hx
  rw [Bool.eq_iff_iff, decide_eq_true_eq]
  constructor
  · intro h; rw [← h]; exact parts_partition h1 h3
  · intro h
    have hg := parts_good (sets := xs) h1 h3
    refine any_ext (tidy_ok hg.1 hg.2) hx fun s hs hs2 => ?_
    rw [tidy_any hg.range hs, Bool.eq_iff_iff, parts_any h1 h3 hs hs2]
    constructor
    · intro hsame
      by_cases he : ∃ v, hasW s v = true
      · obtain ⟨v, hv⟩ := he
        obtain ⟨x, hxm, hxv, _⟩ := part_unique h (has_lt h1 h3 hs hs2 hv)
        refine any_iff.2 ⟨x, hxm, (within_has hs).2 fun w hw => ?_⟩
        have := hsame v w hv hw
        unfold sameIn at this
        rw [List.all_eq_true] at this
        have := this x hxm
        rw [hxv] at this
        simpa using this.symm
      · obtain ⟨x, hxm⟩ := List.exists_mem_of_ne_nil xs (issue_nonempty hx)
        exact any_iff.2 ⟨x, hxm, (within_has hs).2 fun w hw => absurd ⟨w, hw⟩ he⟩
    · intro ha v w hv hw
      obtain ⟨x, hxm, hwx⟩ := any_iff.1 ha
      rw [within_has hs] at hwx
      obtain ⟨z, _, _, huv⟩ := part_unique h (has_lt h1 h3 hs hs2 hv)
      obtain ⟨z2, _, _, huw⟩ := part_unique h (has_lt h1 h3 hs hs2 hw)
      unfold sameIn
      rw [List.all_eq_true]
      intro y hy
      rw [beq_iff_eq, Bool.eq_iff_iff]
      constructor
      · intro hyv
        have : y = x := (huv y hy hyv).trans (huv x hxm (hwx v hv)).symm
        rw [this]; exact hwx w hw
      · intro hyw
        have : y = x := (huw y hy hyw).trans (huw x hxm (hwx w hw)).symm
        rw [this]; exact hwx v hv
end
end Go.Proofs.Ytmdogidflaplkaa
