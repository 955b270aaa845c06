/-
  Plain mathematics: the greatest ones of sets, found by the program's way and by the model's.
-/
import Derived.Test.YtfancfjbipjibaaMathB
import Derived.Test.YtfancfjbipjibaaTidy
namespace Go.Proofs.Ytfancfjbipjibaa
open Go.RowKit

/-- The program's way: of ascending sets those that are within no later one. -/
def greatL : List Int → List Int
  | [] => []
  | a :: r => if anyWithin a r = true then greatL r else a :: greatL r
theorem any_iff {s : Int} {xs : List Int} : anyWithin s xs = true ↔ ∃ x ∈ xs, withinB s x = true := by unfold anyWithin; rw [List.any_eq_true]
theorem great_sub : ∀ (ys : List Int), ∀ y ∈ greatL ys, y ∈ ys
  | [], _, h => h
  | a :: r, y, h => by
    unfold greatL at h
    split at h
    · exact List.mem_cons_of_mem _ (great_sub r y h)
    · rcases List.mem_cons.1 h with rfl | h
      · simp
      · exact List.mem_cons_of_mem _ (great_sub r y h)
theorem great_len : ∀ (ys : List Int), (greatL ys).length ≤ ys.length
  | [] => Nat.le_refl _
  | a :: r => by
    have := great_len r
    unfold greatL
    split <;> simp only [List.length_cons] <;> omega
theorem great_asc : ∀ (ys : List Int), (∀ y ∈ ys, 0 ≤ y) → ys.Pairwise (· ≤ ·) → (greatL ys).Pairwise (· < ·)
  | [], _, _ => List.Pairwise.nil
  | a :: r, h0, hs => by
    rw [List.pairwise_cons] at hs
    have ih := great_asc r (fun y hy => h0 y (by simp [hy])) hs.2
    unfold greatL
    split
    · exact ih
    · rename_i hn
      rw [List.pairwise_cons]
      refine ⟨fun y hy => ?_, ih⟩
      have hyr := great_sub r y hy
      have hle := hs.1 y hyr
      by_cases e : a = y
      · subst e
        exact absurd (any_iff.2 ⟨a, hyr, within_refl a (h0 a (by simp))⟩) hn
      · omega
theorem great_mem : ∀ (ys : List Int), (∀ y ∈ ys, 0 ≤ y) → ys.Pairwise (· ≤ ·) → ∀ y, y ∈ greatL ys ↔ (y ∈ ys ∧ ∀ x ∈ ys, x = y ∨ withinB y x = false)
  | [], _, _, y => by simp [greatL]
  | a :: r, h0, hs, y => by
    rw [List.pairwise_cons] at hs
    have ih := great_mem r (fun y hy => h0 y (by simp [hy])) hs.2 y
    have ha : 0 ≤ a := h0 a (by simp)
    have back : y ∈ r → a = y ∨ withinB y a = false := fun hy => by
      cases hw : withinB y a
      · exact .inr rfl
      · have := within_le hw ha; have := hs.1 y hy; exact .inl (by omega)
    unfold greatL
    split
    · rename_i hany
      rw [ih]
      constructor
      · rintro ⟨h1, h2⟩
        refine ⟨List.mem_cons_of_mem _ h1, fun x hx => ?_⟩
        rcases List.mem_cons.1 hx with rfl | hx
        · exact back h1
        · exact h2 x hx
      · rintro ⟨h1, h2⟩
        refine ⟨?_, fun x hx => h2 x (List.mem_cons_of_mem _ hx)⟩
        rcases List.mem_cons.1 h1 with rfl | h1
        · obtain ⟨x, hx, hw⟩ := any_iff.1 hany
          rcases h2 x (List.mem_cons_of_mem _ hx) with e | e
          · rw [← e]; exact hx
          · rw [hw] at e; cases e
        · exact h1
    · rename_i hany
      rw [List.mem_cons, ih]
      constructor
      · rintro (rfl | ⟨h1, h2⟩)
        · refine ⟨by simp, fun x hx => ?_⟩
          rcases List.mem_cons.1 hx with e | hx
          · exact .inl e
          · cases hw : withinB y x
            · exact .inr rfl
            · exact absurd (any_iff.2 ⟨x, hx, hw⟩) hany
        · refine ⟨List.mem_cons_of_mem _ h1, fun x hx => ?_⟩
          rcases List.mem_cons.1 hx with rfl | hx
          · exact back h1
          · exact h2 x hx
      · rintro ⟨h1, h2⟩
        rcases List.mem_cons.1 h1 with rfl | h1
        · exact .inl rfl
        · exact .inr ⟨h1, fun x hx => h2 x (List.mem_cons_of_mem _ hx)⟩
theorem great_cover : ∀ (ys : List Int), (∀ y ∈ ys, 0 ≤ y) → ∀ x ∈ ys, anyWithin x (greatL ys) = true
  | [], _, x, hx => by simp at hx
  | a :: r, h0, x, hx => by
    have h0r : ∀ y ∈ r, 0 ≤ y := fun y hy => h0 y (by simp [hy])
    have ih := great_cover r h0r
    unfold greatL
    split
    · rename_i hany
      rcases List.mem_cons.1 hx with rfl | hx
      · obtain ⟨z, hz, hw⟩ := any_iff.1 hany
        obtain ⟨z2, hz2, hw2⟩ := any_iff.1 (ih z hz)
        exact any_iff.2 ⟨z2, hz2, within_trans (h0 x (by simp)) (h0r z hz) hw hw2⟩
      · exact ih x hx
    · rcases List.mem_cons.1 hx with rfl | hx
      · exact any_iff.2 ⟨x, by simp, within_refl x (h0 x (by simp))⟩
      · obtain ⟨z2, hz2, hw2⟩ := any_iff.1 (ih x hx)
        exact any_iff.2 ⟨z2, List.mem_cons_of_mem _ hz2, hw2⟩
theorem tidy_asc (xs : List Int) : (tidyL xs).Pairwise (· < ·) := by
  unfold tidyL tidyTo
  refine List.Pairwise.sublist List.filter_sublist ?_
  rw [List.pairwise_map]
  exact List.pairwise_lt_range.imp (fun h => by omega)
theorem tidy_mem {xs : List Int} (hr : ∀ x ∈ xs, 0 ≤ x ∧ x < 256) (y : Int) : y ∈ tidyL xs ↔ (y ∈ xs ∧ ∀ x ∈ xs, x = y ∨ withinB y x = false) := by
  unfold tidyL tidyTo keepB
  rw [List.mem_filter, List.mem_map]
  simp only [Bool.and_eq_true, decide_eq_true_eq, List.all_eq_true, Bool.or_eq_true, Bool.not_eq_true', List.mem_range]
  constructor
  · exact fun h => h.2
  · intro h
    have := hr y h.1
    exact ⟨⟨y.toNat, by omega, by omega⟩, h⟩
theorem great_tidy {xs ys : List Int} (hr : ∀ x ∈ xs, 0 ≤ x ∧ x < 256) (hs : ys.Pairwise (· ≤ ·)) (hm : ∀ x, x ∈ ys ↔ x ∈ xs) : greatL ys = tidyL xs := by
  have h0 : ∀ y ∈ ys, 0 ≤ y := fun y hy => (hr y ((hm y).1 hy)).1
  refine asc_ext (great_asc ys h0 hs) (tidy_asc xs) fun y => ?_
  rw [great_mem ys h0 hs, tidy_mem hr]
  constructor
  · exact fun h => ⟨(hm y).1 h.1, fun x hx => h.2 x ((hm x).2 hx)⟩
  · exact fun h => ⟨(hm y).2 h.1, fun x hx => h.2 x ((hm x).1 hx)⟩
theorem pair_iff {xs : List Int} (ha : xs.Pairwise (· < ·)) (hw : ∀ x ∈ xs, ∀ y ∈ xs, y = x ∨ withinB x y = false) : pairB xs = true := by
  unfold pairB
  apply decide_eq_true
  rw [List.pairwise_iff_getElem] at ha ⊢
  intro i j hi hj hij
  have h1 := ha i j hi hj hij
  have h2 := hw _ (List.getElem_mem hi) _ (List.getElem_mem hj)
  have h3 := hw _ (List.getElem_mem hj) _ (List.getElem_mem hi)
  have e2 : withinB xs[i] xs[j] = false := by rcases h2 with h | h; omega; exact h
  have e3 : withinB xs[j] xs[i] = false := by rcases h3 with h | h; omega; exact h
  simp [apartB, e2, e3, h1]
/-- What is found is an issue. -/
theorem tidy_issue {t : Int} {xs : List Int} (h : partsOkB t xs = true) : issueOkB t (tidyL xs) = true := by
  have hr := partsOk_range h
  have hp := h
  unfold partsOkB at hp
  rw [Bool.and_eq_true, decide_eq_true_eq, List.all_eq_true] at hp
  -- the same sets, ascending
  obtain ⟨ys, hs, hm, hl⟩ : ∃ ys : List Int, ys.Pairwise (· ≤ ·) ∧ (∀ x, x ∈ ys ↔ x ∈ xs) ∧ ys.length = xs.length := by
    refine ⟨xs.mergeSort (fun a b => decide (a ≤ b)), ?_, fun x => List.mem_mergeSort, List.length_mergeSort xs⟩
    have := List.pairwise_mergeSort (le := fun a b : Int => decide (a ≤ b)) (fun a b c h1 h2 => by simp only [decide_eq_true_eq] at *; omega) (fun a b => by simp only [Bool.or_eq_true, decide_eq_true_eq]; omega) xs
    exact this.imp (fun h => by simpa using h)
  have e := great_tidy hr hs hm
  have h0 : ∀ y ∈ ys, 0 ≤ y := fun y hy => (hr y ((hm y).1 hy)).1
  have hne : 1 ≤ (tidyL xs).length := by
    rw [← e]
    match xs, ys, hl, hm, hp with
    | x :: _, y :: q, _, _, _ =>
      obtain ⟨z, hz, _⟩ := any_iff.1 (great_cover (y :: q) h0 y (by simp))
      exact List.length_pos_of_mem hz
  have hle : (tidyL xs).length ≤ 70 := by rw [← e]; have := great_len ys; omega
  unfold issueOkB partsOkB
  simp only [Bool.and_eq_true, decide_eq_true_eq, List.all_eq_true]
  refine ⟨⟨⟨hne, hle⟩, fun y hy => hp.2 y ((tidy_mem hr y).1 hy).1⟩, pair_iff (tidy_asc xs) fun x hx y hy => ((tidy_mem hr x).1 hx).2 y ((tidy_mem hr y).1 hy).1⟩
theorem issue_tidy {t : Int} {xs : List Int} (h : issueOkB t xs = true) : tidyL xs = xs := by
  have hr := issue_range h
  have hp : pairB xs = true := by unfold issueOkB at h; rw [Bool.and_eq_true] at h; exact h.2
  have asc : xs.Pairwise (· < ·) := by
    refine (of_decide_eq_true hp).imp ?_
    intro a b hab
    simp [apartB] at hab
    exact hab.1.1
  refine asc_ext (tidy_asc xs) asc fun y => ?_
  rw [tidy_mem hr]
  refine ⟨fun h => h.1, fun hy => ⟨hy, fun x hx => ?_⟩⟩
  obtain ⟨i, hi, rfl⟩ := List.mem_iff_getElem.1 hy
  obtain ⟨j, hj, rfl⟩ := List.mem_iff_getElem.1 hx
  rcases Nat.lt_trichotomy i j with h1 | h1 | h1
  · exact .inr (pair_lt hp h1 (List.getElem?_eq_getElem hi) (List.getElem?_eq_getElem hj)).2.1
  · subst h1; exact .inl rfl
  · exact .inr (pair_lt hp h1 (List.getElem?_eq_getElem hj) (List.getElem?_eq_getElem hi)).2.2
theorem from_self {t : Int} {xs : List Int} (h : issueOkB t xs = true) : issueFromL t xs = xs := by
  rw [from_ok (issue_parts h), issue_tidy h]
theorem tidy_cover {t : Int} {xs : List Int} (h : partsOkB t xs = true) {x : Int} (hx : x ∈ xs) : settlesB t (tidyL xs) x = true := by
  have hr := partsOk_range h
  have hp := h
  unfold partsOkB at hp
  rw [Bool.and_eq_true, decide_eq_true_eq, List.all_eq_true] at hp
  obtain ⟨ys, hs, hm⟩ : ∃ ys : List Int, ys.Pairwise (· ≤ ·) ∧ (∀ x, x ∈ ys ↔ x ∈ xs) := by
    refine ⟨xs.mergeSort (fun a b => decide (a ≤ b)), ?_, fun x => List.mem_mergeSort⟩
    have := List.pairwise_mergeSort (le := fun a b : Int => decide (a ≤ b)) (fun a b c h1 h2 => by simp only [decide_eq_true_eq] at *; omega) (fun a b => by simp only [Bool.or_eq_true, decide_eq_true_eq]; omega) xs
    exact this.imp (fun h => by simpa using h)
  have e := great_tidy hr hs hm
  have h0 : ∀ y ∈ ys, 0 ≤ y := fun y hy => (hr y ((hm y).1 hy)).1
  have hc := great_cover ys h0 x ((hm x).2 hx)
  rw [e] at hc
  unfold settlesB
  rw [tidy_issue h, hp.2 x hx, hc]; rfl
end Go.Proofs.Ytfancfjbipjibaa
