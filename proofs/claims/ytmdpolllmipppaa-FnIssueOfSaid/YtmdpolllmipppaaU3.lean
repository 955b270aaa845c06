/-
  What the proofs of this seat's statements share (MathB, MathC, Shelf, Great, Sperner, MathD, TogI, TogJ, TogK).
-/
import Derived.Shelf.Small.Utf8
import Derived.Shelf.Small.Strs
import Derived.Shelf.Strings.Search1
import Derived.Shelf.Sort.Plain
import Derived.Shelf.Strings.Runes
import Derived.Shelf.Strings.IndexAny
import Derived.Shelf.Strings.AsciiSet
import Derived.Shelf.Strings.IndexAnyAll
import Derived.Ground.Names2Prog
import Derived.Shelf.Slices.Clone
import Derived.Shelf.Slices.In.SortNone
import Derived.Test.YtmdpolllmipppaaProg
import Derived.Lib.SlKeysI
import Derived.Lib.AppendZeros
import Derived.Test.YtmdpolllmipppaaU2

namespace Go.Proofs.Ytmdpolllmipppaa
open Go.RowKit

theorem within_iff {a b : Int} (ha : 0 ≤ a) : withinB a b = true ↔ ∀ i, a.toNat.testBit i = true → b.toNat.testBit i = true := by
  unfold withinB andI
  rw [decide_eq_true_eq]
  constructor
  · intro h i hi
    have h : a.toNat &&& b.toNat = a.toNat := by omega
    have := congrArg (fun x => x.testBit i) h
    simp only [Nat.testBit_and, hi, Bool.true_and] at this
    exact this
  · intro h
    have : a.toNat &&& b.toNat = a.toNat := by
      apply Nat.eq_of_testBit_eq
      intro i
      rw [Nat.testBit_and]
      cases hi : a.toNat.testBit i
      · rfl
      · rw [h i hi]; rfl
    omega
theorem within_trans {a b c : Int} (ha : 0 ≤ a) (hb : 0 ≤ b) (h1 : withinB a b = true) (h2 : withinB b c = true) : withinB a c = true := by
  rw [within_iff ha] at *
  rw [within_iff hb] at h2
  exact fun i hi => h2 i (h1 i hi)
theorem within_anti {a b : Int} (ha : 0 ≤ a) (hb : 0 ≤ b) (h1 : withinB a b = true) (h2 : withinB b a = true) : a = b := by
  have := within_le h1 hb; have := within_le h2 ha; omega
theorem within_or_left (a b : Int) (ha : 0 ≤ a) : withinB a (orI a b) = true := by
  rw [within_iff ha]; intro i hi
  show ((((a.toNat ||| b.toNat : Nat) : Int)).toNat).testBit i = true
  rw [Int.toNat_natCast, Nat.testBit_or, hi]; rfl
theorem within_or_right (a b : Int) (hb : 0 ≤ b) : withinB b (orI a b) = true := by
  rw [within_iff hb]; intro i hi
  show ((((a.toNat ||| b.toNat : Nat) : Int)).toNat).testBit i = true
  rw [Int.toNat_natCast, Nat.testBit_or, hi, Bool.or_true]
theorem or_within {a b c : Int} (ha : 0 ≤ a) (hb : 0 ≤ b) (h1 : withinB a c = true) (h2 : withinB b c = true) : withinB (orI a b) c = true := by
  rw [within_iff (orI_nonneg _ _)]
  rw [within_iff ha] at h1
  rw [within_iff hb] at h2
  intro i hi
  change ((((a.toNat ||| b.toNat : Nat) : Int)).toNat).testBit i = true at hi
  rw [Int.toNat_natCast, Nat.testBit_or, Bool.or_eq_true] at hi
  rcases hi with hi | hi
  · exact h1 i hi
  · exact h2 i hi
theorem fold_within : ∀ (xs : List Int) (a : Int), 0 ≤ a → (∀ x ∈ xs, 0 ≤ x) → withinB a (xs.foldl orI a) = true ∧ (∀ x ∈ xs, withinB x (xs.foldl orI a) = true) ∧ 0 ≤ xs.foldl orI a
  | [], a, ha, _ => ⟨within_refl a ha, by simp, ha⟩
  | y :: r, a, ha, hr => by
    have hy := hr y (by simp)
    obtain ⟨h1, h2, h3⟩ := fold_within r (orI a y) (orI_nonneg _ _) fun x hx => hr x (by simp [hx])
    refine ⟨within_trans ha (orI_nonneg _ _) (within_or_left a y ha) h1, fun x hx => ?_, h3⟩
    rcases List.mem_cons.1 hx with rfl | hx
    · exact within_trans hy (orI_nonneg _ _) (within_or_right a _ hy) h1
    · exact h2 x hx
theorem fold_least : ∀ (xs : List Int) (a c : Int), 0 ≤ a → (∀ x ∈ xs, 0 ≤ x) → withinB a c = true → (∀ x ∈ xs, withinB x c = true) → withinB (xs.foldl orI a) c = true
  | [], _, _, _, _, h, _ => h
  | y :: r, a, c, ha, hr, h, hc =>
    fold_least r (orI a y) c (orI_nonneg _ _) (fun x hx => hr x (by simp [hx])) (or_within ha (hr y (by simp)) h (hc y (by simp))) fun x hx => hc x (by simp [hx])
theorem within_zero (c : Int) : withinB 0 c = true := by unfold withinB andI; simp
theorem mem_union {xs : List Int} (hr : ∀ x ∈ xs, 0 ≤ x) {x : Int} (hx : x ∈ xs) : withinB x (unionI xs) = true := (fold_within xs 0 (by omega) hr).2.1 x hx
theorem union_least {xs : List Int} (hr : ∀ x ∈ xs, 0 ≤ x) {c : Int} (h : ∀ x ∈ xs, withinB x c = true) : withinB (unionI xs) c = true := fold_least xs 0 c (by omega) hr (within_zero c) h
theorem within_all {t x : Int} (ht1 : 1 ≤ t) (ht3 : t ≤ 3) (h0 : 0 ≤ x) : withinB x (allOf t) = true ↔ x ≤ allOf t := by
  constructor
  · exact fun h => within_le h (allOf_lt t).1
  · intro h
    rw [within_iff h0]
    intro i hi
    have key : ∀ n : Nat, x.toNat < 2 ^ n → (2 ^ n - 1).testBit i = true := by
      intro n hn
      rw [Nat.testBit_two_pow_sub_one, decide_eq_true_eq]
      rcases Nat.lt_or_ge i n with h1 | h1
      · exact h1
      · rw [Nat.testBit_lt_two_pow (Nat.lt_of_lt_of_le hn (Nat.pow_le_pow_right (by omega) h1))] at hi
        cases hi
    have : t = 1 ∨ t = 2 ∨ t = 3 := by omega
    rcases this with rfl | rfl | rfl
    · exact key 2 (by simp [allOf] at h; omega)
    · exact key 4 (by simp [allOf] at h; omega)
    · exact key 8 (by simp [allOf] at h; omega)
theorem issue_sets {t : Int} {xs : List Int} (h : issueOkB t xs = true) : ∀ x ∈ xs, setOkB t x = true := by
  have := issue_parts h
  unfold partsOkB at this
  rw [Bool.and_eq_true, List.all_eq_true] at this
  exact this.2
theorem issue_ne {t : Int} {xs : List Int} (h : issueOkB t xs = true) : 1 ≤ xs.length ∧ xs.length ≤ 70 := by
  have := issue_parts h
  unfold partsOkB at this
  rw [Bool.and_eq_true, decide_eq_true_eq] at this
  exact this.1
theorem issue_things {t : Int} {xs : List Int} (h : issueOkB t xs = true) : 1 ≤ t ∧ t ≤ 3 := by
  have h1 := issue_ne h
  cases xs with
  | nil => simp at h1
  | cons x r => have := setOkB_lt (issue_sets h x (by simp)); omega
theorem union_ok {t : Int} {xs : List Int} (h : issueOkB t xs = true) : setOkB t (unionI xs) = true := by
  obtain ⟨h1, h3⟩ := issue_things h
  have hr : ∀ x ∈ xs, 0 ≤ x := fun x hx => (issue_range h x hx).1
  have hu := union_range (issue_range h)
  refine setOk_of h1 h3 hu.1 ((within_all h1 h3 hu.1).1 (union_least hr fun x hx => ?_))
  have := setOkB_lt (issue_sets h x hx)
  exact (within_all h1 h3 (hr x hx)).2 this.2.2.2.1
theorem settles_union {t : Int} {xs : List Int} (h : issueOkB t xs = true) {k : Int} (hs : settlesB t xs k = true) : withinB k (unionI xs) = true := by
  unfold settlesB at hs
  simp only [Bool.and_eq_true] at hs
  obtain ⟨⟨_, h2⟩, h3⟩ := hs
  unfold anyWithin at h3
  rw [List.any_eq_true] at h3
  obtain ⟨x, hx, hkx⟩ := h3
  have hr : ∀ x ∈ xs, 0 ≤ x := fun x hx => (issue_range h x hx).1
  exact within_trans (setOkB_lt h2).2.2.1 (hr x hx) hkx (mem_union hr hx)
theorem settles_granted {t : Int} {xs : List Int} (h : issueOkB t xs = true) : settlesB t xs (unionI xs) = decide (xs.length = 1) := by
  have hr : ∀ x ∈ xs, 0 ≤ x := fun x hx => (issue_range h x hx).1
  have hne := issue_ne h
  unfold settlesB
  rw [h, union_ok h]
  unfold anyWithin
  rw [Bool.eq_iff_iff]
  simp only [Bool.true_and, List.any_eq_true, decide_eq_true_eq]
  constructor
  · rintro ⟨x, hx, hux⟩
    obtain ⟨i, hi, rfl⟩ := List.mem_iff_getElem.1 hx
    have hall : ∀ j (hj : j < xs.length), withinB xs[j] xs[i] = true := fun j hj =>
      within_trans (hr _ (List.getElem_mem hj)) (union_range (issue_range h)).1 (mem_union hr (List.getElem_mem hj)) hux
    have hp : pairB xs = true := by unfold issueOkB at h; rw [Bool.and_eq_true] at h; exact h.2
    have hij : ∀ j, j < xs.length → j = i := by
      intro j hj
      rcases Nat.lt_trichotomy j i with h1 | h1 | h1
      · have := (pair_lt hp h1 (List.getElem?_eq_getElem hj) (List.getElem?_eq_getElem hi)).2.1
        rw [hall j hj] at this; cases this
      · exact h1
      · have := (pair_lt hp h1 (List.getElem?_eq_getElem hi) (List.getElem?_eq_getElem hj)).2.2
        rw [hall j hj] at this; cases this
    have h0 := hij 0 (by omega)
    rcases Nat.lt_or_ge 1 xs.length with h1 | h1
    · have := hij 1 h1; omega
    · omega
  · intro h1
    match xs, h1 with
    | [x], _ =>
      exact ⟨x, by simp, union_least hr fun y hy => by rw [List.mem_singleton] at hy; subst hy; exact within_refl _ (hr _ (by simp))⟩
/-- Two ascending lists of the same elements are the same. -/
theorem asc_ext : ∀ {xs ys : List Int}, xs.Pairwise (· < ·) → ys.Pairwise (· < ·) → (∀ x, x ∈ xs ↔ x ∈ ys) → xs = ys
  | [], [], _, _, _ => rfl
  | [], y :: r, _, _, h => by have := (h y).2 (by simp); simp at this
  | x :: r, [], _, _, h => by have := (h x).1 (by simp); simp at this
  | x :: r, y :: q, hx, hy, h => by
    rw [List.pairwise_cons] at hx hy
    have e : x = y := by
      have h1 := (h x).1 (by simp)
      have h2 := (h y).2 (by simp)
      rcases List.mem_cons.1 h1 with h1 | h1
      · exact h1
      · rcases List.mem_cons.1 h2 with h2 | h2
        · exact h2.symm
        · have := hy.1 x h1; have := hx.1 y h2; omega
    subst e
    congr 1
    refine asc_ext hx.2 hy.2 fun z => ⟨fun hz => ?_, fun hz => ?_⟩
    · rcases List.mem_cons.1 ((h z).1 (by simp [hz])) with e | h1
      · subst e; have := hx.1 z hz; omega
      · exact h1
    · rcases List.mem_cons.1 ((h z).2 (by simp [hz])) with e | h1
      · subst e; have := hy.1 z hz; omega
      · exact h1
/-- Two issues that are settled by the same sets are the same. -/
theorem settles_same {t : Int} {xs ys : List Int} (hx : issueOkB t xs = true) (hy : issueOkB t ys = true) (h : ∀ k, 0 ≤ k → k ≤ allOf t → settlesB t xs k = settlesB t ys k) : xs = ys := by
  have sub : ∀ {xs ys : List Int}, issueOkB t xs = true → issueOkB t ys = true → (∀ k, 0 ≤ k → k ≤ allOf t → settlesB t xs k = settlesB t ys k) → ∀ x ∈ xs, x ∈ ys := by
    intro xs ys hx hy h x hm
    have hsx := setOkB_lt (issue_sets hx x hm)
    have s1 : ∀ {zs : List Int}, issueOkB t zs = true → ∀ {z k : Int}, z ∈ zs → setOkB t k = true → withinB k z = true → settlesB t zs k = true := by
      intro zs hz z k hm hk hw
      unfold settlesB anyWithin
      rw [hz, hk, Bool.true_and, Bool.true_and, List.any_eq_true]
      exact ⟨z, hm, hw⟩
    have s2 : ∀ {zs : List Int}, ∀ {k : Int}, settlesB t zs k = true → ∃ z ∈ zs, withinB k z = true := by
      intro zs k hk
      unfold settlesB anyWithin at hk
      simp only [Bool.and_eq_true, List.any_eq_true] at hk
      exact hk.2
    have hxx := s1 hx hm (issue_sets hx x hm) (within_refl x hsx.2.2.1)
    rw [h x hsx.2.2.1 hsx.2.2.2.1] at hxx
    obtain ⟨y, hmy, hwy⟩ := s2 hxx
    have hsy := setOkB_lt (issue_sets hy y hmy)
    have hyy := s1 hy hmy (issue_sets hy y hmy) (within_refl y hsy.2.2.1)
    rw [← h y hsy.2.2.1 hsy.2.2.2.1] at hyy
    obtain ⟨z, hmz, hwz⟩ := s2 hyy
    have hsz := setOkB_lt (issue_sets hx z hmz)
    have hxz := within_trans hsx.2.2.1 hsy.2.2.1 hwy hwz
    have e : x = z := by
      obtain ⟨i, hi, rfl⟩ := List.mem_iff_getElem.1 hm
      obtain ⟨j, hj, rfl⟩ := List.mem_iff_getElem.1 hmz
      have hp : pairB xs = true := by unfold issueOkB at hx; rw [Bool.and_eq_true] at hx; exact hx.2
      rcases Nat.lt_trichotomy i j with h1 | h1 | h1
      · have := (pair_lt hp h1 (List.getElem?_eq_getElem hi) (List.getElem?_eq_getElem hj)).2.1
        rw [hxz] at this; cases this
      · subst h1; rfl
      · have := (pair_lt hp h1 (List.getElem?_eq_getElem hj) (List.getElem?_eq_getElem hi)).2.2
        rw [hxz] at this; cases this
    subst e
    have := within_anti hsx.2.2.1 hsy.2.2.1 hwy hwz
    rw [this]; exact hmy
  have asc : ∀ {zs : List Int}, issueOkB t zs = true → zs.Pairwise (· < ·) := by
    intro zs hz
    have hp : pairB zs = true := by unfold issueOkB at hz; rw [Bool.and_eq_true] at hz; exact hz.2
    refine (of_decide_eq_true hp).imp ?_
    intro a b hab
    simp [apartB] at hab
    exact hab.1.1
  exact asc_ext (asc hx) (asc hy) fun x => ⟨sub hx hy h x, sub hy hx (fun k a b => (h k a b).symm) x⟩
end Go.Proofs.Ytmdpolllmipppaa

namespace Go.Proofs.Ytmdpolllmipppaa
open Go.RowKit

/-- The program's way: of ascending sets those that are within no later one. -/
def greatL : List Int → List Int
  | [] => []
  | a :: r => if anyWithin a r = true then greatL r else a :: greatL r
theorem any_iff {s : Int} {xs : List Int} : anyWithin s xs = true ↔ ∃ x ∈ xs, withinB s x = true := by unfold anyWithin; rw [List.any_eq_true]
theorem great_sub : ∀ (ys : List Int), ∀ y ∈ greatL ys, y ∈ ys
  | [], _, h => h
  | a :: r, y, h => by
    unfold greatL at h
    split at h
    · exact List.mem_cons_of_mem _ (great_sub r y h)
    · rcases List.mem_cons.1 h with rfl | h
      · simp
      · exact List.mem_cons_of_mem _ (great_sub r y h)
theorem great_len : ∀ (ys : List Int), (greatL ys).length ≤ ys.length
  | [] => Nat.le_refl _
  | a :: r => by
    have := great_len r
    unfold greatL
    split <;> simp only [List.length_cons] <;> omega
theorem great_asc : ∀ (ys : List Int), (∀ y ∈ ys, 0 ≤ y) → ys.Pairwise (· ≤ ·) → (greatL ys).Pairwise (· < ·)
  | [], _, _ => List.Pairwise.nil
  | a :: r, h0, hs => by
    rw [List.pairwise_cons] at hs
    have ih := great_asc r (fun y hy => h0 y (by simp [hy])) hs.2
    unfold greatL
    split
    · exact ih
    · rename_i hn
      rw [List.pairwise_cons]
      refine ⟨fun y hy => ?_, ih⟩
      have hyr := great_sub r y hy
      have hle := hs.1 y hyr
      by_cases e : a = y
      · subst e
        exact absurd (any_iff.2 ⟨a, hyr, within_refl a (h0 a (by simp))⟩) hn
      · omega
theorem great_mem : ∀ (ys : List Int), (∀ y ∈ ys, 0 ≤ y) → ys.Pairwise (· ≤ ·) → ∀ y, y ∈ greatL ys ↔ (y ∈ ys ∧ ∀ x ∈ ys, x = y ∨ withinB y x = false)
  | [], _, _, y => by simp [greatL]
  | a :: r, h0, hs, y => by
    rw [List.pairwise_cons] at hs
    have ih := great_mem r (fun y hy => h0 y (by simp [hy])) hs.2 y
    have ha : 0 ≤ a := h0 a (by simp)
    have back : y ∈ r → a = y ∨ withinB y a = false := fun hy => by
      cases hw : withinB y a
      · exact .inr rfl
      · have := within_le hw ha; have := hs.1 y hy; exact .inl (by omega)
    unfold greatL
    split
    · rename_i hany
      rw [ih]
      constructor
      · rintro ⟨h1, h2⟩
        refine ⟨List.mem_cons_of_mem _ h1, fun x hx => ?_⟩
        rcases List.mem_cons.1 hx with rfl | hx
        · exact back h1
        · exact h2 x hx
      · rintro ⟨h1, h2⟩
        refine ⟨?_, fun x hx => h2 x (List.mem_cons_of_mem _ hx)⟩
        rcases List.mem_cons.1 h1 with rfl | h1
        · obtain ⟨x, hx, hw⟩ := any_iff.1 hany
          rcases h2 x (List.mem_cons_of_mem _ hx) with e | e
          · rw [← e]; exact hx
          · rw [hw] at e; cases e
        · exact h1
    · rename_i hany
      rw [List.mem_cons, ih]
      constructor
      · rintro (rfl | ⟨h1, h2⟩)
        · refine ⟨by simp, fun x hx => ?_⟩
          rcases List.mem_cons.1 hx with e | hx
          · exact .inl e
          · cases hw : withinB y x
            · exact .inr rfl
            · exact absurd (any_iff.2 ⟨x, hx, hw⟩) hany
        · refine ⟨List.mem_cons_of_mem _ h1, fun x hx => ?_⟩
          rcases List.mem_cons.1 hx with rfl | hx
          · exact back h1
          · exact h2 x hx
      · rintro ⟨h1, h2⟩
        rcases List.mem_cons.1 h1 with rfl | h1
        · exact .inl rfl
        · exact .inr ⟨h1, fun x hx => h2 x (List.mem_cons_of_mem _ hx)⟩
theorem great_cover : ∀ (ys : List Int), (∀ y ∈ ys, 0 ≤ y) → ∀ x ∈ ys, anyWithin x (greatL ys) = true
  | [], _, x, hx => by simp at hx
  | a :: r, h0, x, hx => by
    have h0r : ∀ y ∈ r, 0 ≤ y := fun y hy => h0 y (by simp [hy])
    have ih := great_cover r h0r
    unfold greatL
    split
    · rename_i hany
      rcases List.mem_cons.1 hx with rfl | hx
      · obtain ⟨z, hz, hw⟩ := any_iff.1 hany
        obtain ⟨z2, hz2, hw2⟩ := any_iff.1 (ih z hz)
        exact any_iff.2 ⟨z2, hz2, within_trans (h0 x (by simp)) (h0r z hz) hw hw2⟩
      · exact ih x hx
    · rcases List.mem_cons.1 hx with rfl | hx
      · exact any_iff.2 ⟨x, by simp, within_refl x (h0 x (by simp))⟩
      · obtain ⟨z2, hz2, hw2⟩ := any_iff.1 (ih x hx)
        exact any_iff.2 ⟨z2, List.mem_cons_of_mem _ hz2, hw2⟩
theorem tidy_asc (xs : List Int) : (tidyL xs).Pairwise (· < ·) := by
  unfold tidyL tidyTo
  refine List.Pairwise.sublist List.filter_sublist ?_
  rw [List.pairwise_map]
  exact List.pairwise_lt_range.imp (fun h => by omega)
theorem tidy_mem {xs : List Int} (hr : ∀ x ∈ xs, 0 ≤ x ∧ x < 256) (y : Int) : y ∈ tidyL xs ↔ (y ∈ xs ∧ ∀ x ∈ xs, x = y ∨ withinB y x = false) := by
  unfold tidyL tidyTo keepB
  rw [List.mem_filter, List.mem_map]
  simp only [Bool.and_eq_true, decide_eq_true_eq, List.all_eq_true, Bool.or_eq_true, Bool.not_eq_true', List.mem_range]
  constructor
  · exact fun h => h.2
  · intro h
    have := hr y h.1
    exact ⟨⟨y.toNat, by omega, by omega⟩, h⟩
theorem great_tidy {xs ys : List Int} (hr : ∀ x ∈ xs, 0 ≤ x ∧ x < 256) (hs : ys.Pairwise (· ≤ ·)) (hm : ∀ x, x ∈ ys ↔ x ∈ xs) : greatL ys = tidyL xs := by
  have h0 : ∀ y ∈ ys, 0 ≤ y := fun y hy => (hr y ((hm y).1 hy)).1
  refine asc_ext (great_asc ys h0 hs) (tidy_asc xs) fun y => ?_
  rw [great_mem ys h0 hs, tidy_mem hr]
  constructor
  · exact fun h => ⟨(hm y).1 h.1, fun x hx => h.2 x ((hm x).2 hx)⟩
  · exact fun h => ⟨(hm y).2 h.1, fun x hx => h.2 x ((hm x).1 hx)⟩
theorem pair_iff {xs : List Int} (ha : xs.Pairwise (· < ·)) (hw : ∀ x ∈ xs, ∀ y ∈ xs, y = x ∨ withinB x y = false) : pairB xs = true := by
  unfold pairB
  apply decide_eq_true
  rw [List.pairwise_iff_getElem] at ha ⊢
  intro i j hi hj hij
  have h1 := ha i j hi hj hij
  have h2 := hw _ (List.getElem_mem hi) _ (List.getElem_mem hj)
  have h3 := hw _ (List.getElem_mem hj) _ (List.getElem_mem hi)
  have e2 : withinB xs[i] xs[j] = false := by rcases h2 with h | h; omega; exact h
  have e3 : withinB xs[j] xs[i] = false := by rcases h3 with h | h; omega; exact h
  simp [apartB, e2, e3, h1]
/-- What is found is an issue. -/
theorem tidy_issue {t : Int} {xs : List Int} (h : partsOkB t xs = true) : issueOkB t (tidyL xs) = true := by
  have hr := partsOk_range h
  have hp := h
  unfold partsOkB at hp
  rw [Bool.and_eq_true, decide_eq_true_eq, List.all_eq_true] at hp
  -- the same sets, ascending
  obtain ⟨ys, hs, hm, hl⟩ : ∃ ys : List Int, ys.Pairwise (· ≤ ·) ∧ (∀ x, x ∈ ys ↔ x ∈ xs) ∧ ys.length = xs.length := by
    refine ⟨xs.mergeSort (fun a b => decide (a ≤ b)), ?_, fun x => List.mem_mergeSort, List.length_mergeSort xs⟩
    have := List.pairwise_mergeSort (le := fun a b : Int => decide (a ≤ b)) (fun a b c h1 h2 => by simp only [decide_eq_true_eq] at *; omega) (fun a b => by simp only [Bool.or_eq_true, decide_eq_true_eq]; omega) xs
    exact this.imp (fun h => by simpa using h)
  have e := great_tidy hr hs hm
  have h0 : ∀ y ∈ ys, 0 ≤ y := fun y hy => (hr y ((hm y).1 hy)).1
  have hne : 1 ≤ (tidyL xs).length := by
    rw [← e]
    match xs, ys, hl, hm, hp with
    | x :: _, y :: q, _, _, _ =>
      obtain ⟨z, hz, _⟩ := any_iff.1 (great_cover (y :: q) h0 y (by simp))
      exact List.length_pos_of_mem hz
  have hle : (tidyL xs).length ≤ 70 := by rw [← e]; have := great_len ys; omega
  unfold issueOkB partsOkB
  simp only [Bool.and_eq_true, decide_eq_true_eq, List.all_eq_true]
  refine ⟨⟨⟨hne, hle⟩, fun y hy => hp.2 y ((tidy_mem hr y).1 hy).1⟩, pair_iff (tidy_asc xs) fun x hx y hy => ((tidy_mem hr x).1 hx).2 y ((tidy_mem hr y).1 hy).1⟩
theorem issue_tidy {t : Int} {xs : List Int} (h : issueOkB t xs = true) : tidyL xs = xs := by
  have hr := issue_range h
  have hp : pairB xs = true := by unfold issueOkB at h; rw [Bool.and_eq_true] at h; exact h.2
  have asc : xs.Pairwise (· < ·) := by
    refine (of_decide_eq_true hp).imp ?_
    intro a b hab
    simp [apartB] at hab
    exact hab.1.1
  refine asc_ext (tidy_asc xs) asc fun y => ?_
  rw [tidy_mem hr]
  refine ⟨fun h => h.1, fun hy => ⟨hy, fun x hx => ?_⟩⟩
  obtain ⟨i, hi, rfl⟩ := List.mem_iff_getElem.1 hy
  obtain ⟨j, hj, rfl⟩ := List.mem_iff_getElem.1 hx
  rcases Nat.lt_trichotomy i j with h1 | h1 | h1
  · exact .inr (pair_lt hp h1 (List.getElem?_eq_getElem hi) (List.getElem?_eq_getElem hj)).2.1
  · subst h1; exact .inl rfl
  · exact .inr (pair_lt hp h1 (List.getElem?_eq_getElem hj) (List.getElem?_eq_getElem hi)).2.2
theorem from_self {t : Int} {xs : List Int} (h : issueOkB t xs = true) : issueFromL t xs = xs := by
  rw [from_ok (issue_parts h), issue_tidy h]
theorem tidy_cover {t : Int} {xs : List Int} (h : partsOkB t xs = true) {x : Int} (hx : x ∈ xs) : settlesB t (tidyL xs) x = true := by
  have hr := partsOk_range h
  have hp := h
  unfold partsOkB at hp
  rw [Bool.and_eq_true, decide_eq_true_eq, List.all_eq_true] at hp
  obtain ⟨ys, hs, hm⟩ : ∃ ys : List Int, ys.Pairwise (· ≤ ·) ∧ (∀ x, x ∈ ys ↔ x ∈ xs) := by
    refine ⟨xs.mergeSort (fun a b => decide (a ≤ b)), ?_, fun x => List.mem_mergeSort⟩
    have := List.pairwise_mergeSort (le := fun a b : Int => decide (a ≤ b)) (fun a b c h1 h2 => by simp only [decide_eq_true_eq] at *; omega) (fun a b => by simp only [Bool.or_eq_true, decide_eq_true_eq]; omega) xs
    exact this.imp (fun h => by simpa using h)
  have e := great_tidy hr hs hm
  have h0 : ∀ y ∈ ys, 0 ≤ y := fun y hy => (hr y ((hm y).1 hy)).1
  have hc := great_cover ys h0 x ((hm x).2 hx)
  rw [e] at hc
  unfold settlesB
  rw [tidy_issue h, hp.2 x hx, hc]; rfl
end Go.Proofs.Ytmdpolllmipppaa

namespace Go.Proofs
open Go.Shelf
def Try.lays119_ren : Go.Shelf.Ren := ⟨fun | 119 => 123 | n => n, fun | 21 => 21 | 4 => 4 | n => n, fun | n => n⟩
theorem Try.lays119 : Go.Proofs.Lays.n119 Try.prog Try.lays119_ren := {
  mixed := by kernel_rfl
  f119 := Try.func123.trans (congrArg some (by kernel_rfl))
  t4 := Try.underlying4
  a4 := Try.isAgg4
  z4 := Try.sizeOf4
  v4 := Try.zeroValue4
  t21 := Try.underlying21
  a21 := Try.isAgg21
  z21 := Try.sizeOf21
  v21 := Try.zeroValue21 }
theorem Try.utf8_ValidRune (r : Int) (w : World) :
    Calls Try.prog 123 #[.int .i32 r] w fun e w' => e = .returned (.bool (Lib.validRune r)) ∧ w' = w := Any.utf8_ValidRune Try.lays119 r w
def Try.lays137_ren : Go.Shelf.Ren := ⟨fun | 137 => 117 | 217 => 126 | 266 => 129 | n => n, fun | 9 => 9 | 5 => 5 | 3 => 3 | n => n, fun | n => n⟩
theorem Try.lays137 : Go.Proofs.Lays.n137 Try.prog Try.lays137_ren := {
  mixed := by kernel_rfl
  f137 := Try.func117.trans (congrArg some (by kernel_rfl))
  f217 := Try.func126.trans (congrArg some (by kernel_rfl))
  f266 := Try.func129.trans (congrArg some (by kernel_rfl))
  t3 := Try.underlying3
  a3 := Try.isAgg3
  z3 := Try.sizeOf3
  v3 := Try.zeroValue3
  t5 := Try.underlying5
  a5 := Try.isAgg5
  z5 := Try.sizeOf5
  v5 := Try.zeroValue5
  t9 := Try.underlying9
  a9 := Try.isAgg9
  z9 := Try.sizeOf9
  v9 := Try.zeroValue9 }
open Go.RowKit in
theorem Try.strings_IndexByte (s : ByteArray) (c : Int) (w : World) :
    Calls Try.prog 117 #[.string s, .int .u8 c] w fun e w' => e = .returned (.int .i64 (Lib.indexByte s.data.toList c.toNat.toUInt8)) ∧ w' = w := Any.strings_IndexByte Try.lays137 s c w
def Try.lays217_ren : Go.Shelf.Ren := ⟨fun | 217 => 126 | 266 => 129 | n => n, fun | 9 => 9 | 5 => 5 | 3 => 3 | n => n, fun | n => n⟩
theorem Try.lays217 : Go.Proofs.Lays.n217 Try.prog Try.lays217_ren := {
  mixed := by kernel_rfl
  f217 := Try.func126.trans (congrArg some (by kernel_rfl))
  f266 := Try.func129.trans (congrArg some (by kernel_rfl))
  t3 := Try.underlying3
  a3 := Try.isAgg3
  z3 := Try.sizeOf3
  v3 := Try.zeroValue3
  t5 := Try.underlying5
  a5 := Try.isAgg5
  z5 := Try.sizeOf5
  v5 := Try.zeroValue5
  t9 := Try.underlying9
  a9 := Try.isAgg9
  z9 := Try.sizeOf9
  v9 := Try.zeroValue9 }
open Go.RowKit Go.Lib in
theorem Try.stringslite_IndexByte (s : ByteArray) (c : Int) (w : World) :
    Calls Try.prog 126 #[.string s, .int .u8 c] w fun e w' => e = .returned (.int .i64 (Lib.indexByte s.data.toList c.toNat.toUInt8)) ∧ w' = w := Any.stringslite_IndexByte Try.lays217 s c w
def Try.lays224_ren : Go.Shelf.Ren := ⟨fun | 224 => 124 | n => n, fun | 3 => 3 | n => n, fun | n => n⟩
theorem Try.lays224 : Go.Proofs.Lays.n224 Try.prog Try.lays224_ren := {
  mixed := by kernel_rfl
  f224 := Try.func124.trans (congrArg some (by kernel_rfl))
  t3 := Try.underlying3
  a3 := Try.isAgg3
  z3 := Try.sizeOf3
  v3 := Try.zeroValue3 }
open Go.RowKit Go.Lib in
theorem Try.bytealg_Cutover (n : Int) (h0 : 0 ≤ n) (h1 : n < 4611686018427387904) (w : World) :
    Calls Try.prog 124 #[.int .i64 n] w fun e w' => e = .returned (.int .i64 ((n + 16) / 8)) ∧ w' = w := Any.bytealg_Cutover Try.lays224 n h0 h1 w
def Try.lays189_ren : Go.Shelf.Ren := ⟨fun | 189 => 118 | 125 => 128 | 257 => 127 | 128 => 138 | 129 => 139 | 294 => 130 | 295 => 131 | 296 => 132 | 297 => 133 | 298 => 134 | 299 => 135 | 216 => 90 | 300 => 136 | 301 => 137 | 328 => 140 | 329 => 141 | 330 => 142 | 331 => 143 | 332 => 144 | 215 => 110 | 343 => 145 | n => n, fun | 28 => 25 | 3 => 3 | 46 => 64 | 0 => 0 | 51 => 125 | 53 => 127 | 4 => 4 | 183 => 118 | 182 => 117 | 131 => 122 | 5 => 5 | 9 => 9 | 218 => 128 | 222 => 132 | 228 => 134 | 229 => 135 | n => n, fun | n => n⟩
theorem Try.lays189 : Go.Proofs.Lays.n189 Try.prog Try.lays189_ren := {
  mixed := by kernel_rfl
  f125 := Try.func128.trans (congrArg some (by kernel_rfl))
  f128 := Try.func138.trans (congrArg some (by kernel_rfl))
  f129 := Try.func139.trans (congrArg some (by kernel_rfl))
  f189 := Try.func118.trans (congrArg some (by kernel_rfl))
  f215 := Try.func110.trans (congrArg some (by kernel_rfl))
  f216 := Try.func90.trans (congrArg some (by kernel_rfl))
  f257 := Try.func127.trans (congrArg some (by kernel_rfl))
  f294 := Try.func130.trans (congrArg some (by kernel_rfl))
  f295 := Try.func131.trans (congrArg some (by kernel_rfl))
  f296 := Try.func132.trans (congrArg some (by kernel_rfl))
  f297 := Try.func133.trans (congrArg some (by kernel_rfl))
  f298 := Try.func134.trans (congrArg some (by kernel_rfl))
  f299 := Try.func135.trans (congrArg some (by kernel_rfl))
  f300 := Try.func136.trans (congrArg some (by kernel_rfl))
  f301 := Try.func137.trans (congrArg some (by kernel_rfl))
  f328 := Try.func140.trans (congrArg some (by kernel_rfl))
  f329 := Try.func141.trans (congrArg some (by kernel_rfl))
  f330 := Try.func142.trans (congrArg some (by kernel_rfl))
  f331 := Try.func143.trans (congrArg some (by kernel_rfl))
  f332 := Try.func144.trans (congrArg some (by kernel_rfl))
  f343 := Try.func145.trans (congrArg some (by kernel_rfl))
  t0 := Try.underlying0
  a0 := Try.isAgg0
  z0 := Try.sizeOf0
  v0 := Try.zeroValue0
  t3 := Try.underlying3
  a3 := Try.isAgg3
  z3 := Try.sizeOf3
  v3 := Try.zeroValue3
  t4 := Try.underlying4
  a4 := Try.isAgg4
  z4 := Try.sizeOf4
  v4 := Try.zeroValue4
  t5 := Try.underlying5
  a5 := Try.isAgg5
  z5 := Try.sizeOf5
  v5 := Try.zeroValue5
  t9 := Try.underlying9
  a9 := Try.isAgg9
  z9 := Try.sizeOf9
  v9 := Try.zeroValue9
  t28 := Try.underlying25
  a28 := Try.isAgg25
  z28 := Try.sizeOf25
  v28 := Try.zeroValue25
  t46 := Try.underlying64
  a46 := Try.isAgg64
  z46 := Try.sizeOf64
  v46 := Try.zeroValue64
  t51 := Try.underlying125
  a51 := Try.isAgg125
  z51 := Try.sizeOf125
  v51 := Try.zeroValue125
  t53 := Try.underlying127
  a53 := Try.isAgg127
  z53 := Try.sizeOf127
  v53 := Try.zeroValue127
  t131 := Try.underlying122
  a131 := Try.isAgg122
  z131 := Try.sizeOf122
  v131 := Try.zeroValue122
  t182 := Try.underlying117
  a182 := Try.isAgg117
  z182 := Try.sizeOf117
  v182 := Try.zeroValue117
  t183 := Try.underlying118
  a183 := Try.isAgg118
  z183 := Try.sizeOf118
  v183 := Try.zeroValue118
  t218 := Try.underlying128
  a218 := Try.isAgg128
  z218 := Try.sizeOf128
  v218 := Try.zeroValue128
  t222 := Try.underlying132
  a222 := Try.isAgg132
  z222 := Try.sizeOf132
  v222 := Try.zeroValue132
  t228 := Try.underlying134
  a228 := Try.isAgg134
  z228 := Try.sizeOf134
  v228 := Try.zeroValue134
  t229 := Try.underlying135
  a229 := Try.isAgg135
  z229 := Try.sizeOf135
  v229 := Try.zeroValue135 }
open Go.Sort Go.RowKit in
theorem Try.slices_Sort_int (blk off cap : Nat) (zs : List Int) (w : World) (hH : Holds (Value.int .i64) w blk off zs.toArray) (hblk : blk < w.heap.size) (hsz : zs.length < 4611686018427387904) :
    Calls Try.prog 118 #[.slice (some ⟨blk, off, none⟩) zs.length cap] w fun e w' =>
      e = .returned (.tuple #[]) ∧ ∃ n os, w' = grow (putRow (Value.int .i64) (Sort.ahead w n) blk off (zs.mergeSort fun x y => decide (x ≤ y)).toArray) os := Any.slices_Sort_int Try.lays189 blk off cap zs w hH hblk hsz
def Try.lays152_ren : Go.Shelf.Ren := ⟨fun | 152 => 113 | 137 => 117 | 119 => 123 | 224 => 124 | 225 => 125 | 217 => 126 | 266 => 129 | n => n, fun | 9 => 9 | 21 => 21 | 3 => 3 | 4 => 4 | 5 => 5 | 0 => 0 | 46 => 64 | n => n, fun | n => n⟩
theorem Try.lays152 : Go.Proofs.Lays.n152 Try.prog Try.lays152_ren := {
  mixed := by kernel_rfl
  f119 := Try.func123.trans (congrArg some (by kernel_rfl))
  f137 := Try.func117.trans (congrArg some (by kernel_rfl))
  f152 := Try.func113.trans (congrArg some (by kernel_rfl))
  f217 := Try.func126.trans (congrArg some (by kernel_rfl))
  f224 := Try.func124.trans (congrArg some (by kernel_rfl))
  f225 := Try.func125.trans (congrArg some (by kernel_rfl))
  f266 := Try.func129.trans (congrArg some (by kernel_rfl))
  t0 := Try.underlying0
  a0 := Try.isAgg0
  z0 := Try.sizeOf0
  v0 := Try.zeroValue0
  t3 := Try.underlying3
  a3 := Try.isAgg3
  z3 := Try.sizeOf3
  v3 := Try.zeroValue3
  t4 := Try.underlying4
  a4 := Try.isAgg4
  z4 := Try.sizeOf4
  v4 := Try.zeroValue4
  t5 := Try.underlying5
  a5 := Try.isAgg5
  z5 := Try.sizeOf5
  v5 := Try.zeroValue5
  t9 := Try.underlying9
  a9 := Try.isAgg9
  z9 := Try.sizeOf9
  v9 := Try.zeroValue9
  t21 := Try.underlying21
  a21 := Try.isAgg21
  z21 := Try.sizeOf21
  v21 := Try.zeroValue21
  t46 := Try.underlying64
  a46 := Try.isAgg64
  z46 := Try.sizeOf64
  v46 := Try.zeroValue64 }
open Go.RowKit Go.Lib in
theorem Try.strings_IndexRune_ascii (s : ByteArray) (r : Int) (w : World) (h0 : 0 ≤ r) (h1 : r < 128) :
    Calls Try.prog 113 #[.string s, .int .i32 r] w fun e w' => e = .returned (.int .i64 (Lib.indexByte s.data.toList r.toNat.toUInt8)) ∧ w' = w := Any.strings_IndexRune_ascii Try.lays152 s r w h0 h1
def Try.lays226_ren : Go.Shelf.Ren := ⟨fun | 226 => 114 | n => n, fun | 3 => 3 | 4 => 4 | n => n, fun | n => n⟩
theorem Try.lays226 : Go.Proofs.Lays.n226 Try.prog Try.lays226_ren := {
  mixed := by kernel_rfl
  f226 := Try.func114.trans (congrArg some (by kernel_rfl))
  t3 := Try.underlying3
  a3 := Try.isAgg3
  z3 := Try.sizeOf3
  v3 := Try.zeroValue3
  t4 := Try.underlying4
  a4 := Try.isAgg4
  z4 := Try.sizeOf4
  v4 := Try.zeroValue4 }
open Go.RowKit Go.Lib in
theorem Try.strings_shouldUseASCIISet (n : Int) (w : World) :
    Calls Try.prog 114 #[.int .i64 n] w fun e w' => e = .returned (.bool (decide (8 < n))) ∧ w' = w := Any.strings_shouldUseASCIISet Try.lays226 n w
def Try.lays153_ren : Go.Shelf.Ren := ⟨fun | 153 => 96 | 152 => 113 | 226 => 114 | 227 => 115 | 228 => 116 | 137 => 117 | 119 => 123 | 224 => 124 | 225 => 125 | 217 => 126 | 266 => 129 | n => n, fun | 9 => 9 | 3 => 3 | 4 => 4 | 5 => 5 | 21 => 21 | 117 => 104 | 116 => 103 | 0 => 0 | 46 => 64 | 124 => 113 | n => n, fun | n => n⟩
theorem Try.lays153 : Go.Proofs.Lays.n153 Try.prog Try.lays153_ren := {
  mixed := by kernel_rfl
  f119 := Try.func123.trans (congrArg some (by kernel_rfl))
  f137 := Try.func117.trans (congrArg some (by kernel_rfl))
  f152 := Try.func113.trans (congrArg some (by kernel_rfl))
  f153 := Try.func96.trans (congrArg some (by kernel_rfl))
  f217 := Try.func126.trans (congrArg some (by kernel_rfl))
  f224 := Try.func124.trans (congrArg some (by kernel_rfl))
  f225 := Try.func125.trans (congrArg some (by kernel_rfl))
  f226 := Try.func114.trans (congrArg some (by kernel_rfl))
  f227 := Try.func115.trans (congrArg some (by kernel_rfl))
  f228 := Try.func116.trans (congrArg some (by kernel_rfl))
  f266 := Try.func129.trans (congrArg some (by kernel_rfl))
  t0 := Try.underlying0
  a0 := Try.isAgg0
  z0 := Try.sizeOf0
  v0 := Try.zeroValue0
  t3 := Try.underlying3
  a3 := Try.isAgg3
  z3 := Try.sizeOf3
  v3 := Try.zeroValue3
  t4 := Try.underlying4
  a4 := Try.isAgg4
  z4 := Try.sizeOf4
  v4 := Try.zeroValue4
  t5 := Try.underlying5
  a5 := Try.isAgg5
  z5 := Try.sizeOf5
  v5 := Try.zeroValue5
  t9 := Try.underlying9
  a9 := Try.isAgg9
  z9 := Try.sizeOf9
  v9 := Try.zeroValue9
  t21 := Try.underlying21
  a21 := Try.isAgg21
  z21 := Try.sizeOf21
  v21 := Try.zeroValue21
  t46 := Try.underlying64
  a46 := Try.isAgg64
  z46 := Try.sizeOf64
  v46 := Try.zeroValue64
  t116 := Try.underlying103
  a116 := Try.isAgg103
  z116 := Try.sizeOf103
  t117 := Try.underlying104
  a117 := Try.isAgg104
  z117 := Try.sizeOf104
  v117 := Try.zeroValue104
  t124 := Try.underlying113
  a124 := Try.isAgg113
  z124 := Try.sizeOf113
  v124 := Try.zeroValue113 }
open Go.RowKit Go.Lib in
theorem Try.strings_IndexAny_none (s chars : ByteArray) (w : World) (h0 : chars.size = 0) :
    Calls Try.prog 96 #[.string s, .string chars] w fun e w' => e = .returned (.int .i64 (Lib.indexAny s.data.toList chars.data.toList)) ∧ w' = w := Any.strings_IndexAny_none Try.lays153 s chars w h0
open Go.RowKit Go.Lib in
theorem Try.strings_IndexAny_one (s chars : ByteArray) (w : World) (h1 : chars.size = 1) (hascii : ∀ (j : Nat) b, chars.data.toList[j]? = some b → b.toNat < 128) :
    Calls Try.prog 96 #[.string s, .string chars] w fun e w' => e = .returned (.int .i64 (Lib.indexAny s.data.toList chars.data.toList)) ∧ w' = w := Any.strings_IndexAny_one Try.lays153 s chars w h1 hascii
open Go.RowKit Go.Lib in
theorem Try.strings_IndexAny_short (s chars : ByteArray) (w : World) (h2 : 2 ≤ chars.size) (h8 : s.size ≤ 8) (hascii : ∀ (j : Nat) b, s.data.toList[j]? = some b → b.toNat < 128) :
    Calls Try.prog 96 #[.string s, .string chars] w fun e w' => e = .returned (.int .i64 (Lib.indexAny s.data.toList chars.data.toList)) ∧ ∃ pos, w' = w.iter s pos := Any.strings_IndexAny_short Try.lays153 s chars w h2 h8 hascii
def Try.lays227_ren : Go.Shelf.Ren := ⟨fun | 227 => 115 | n => n, fun | 9 => 9 | 116 => 103 | 4 => 4 | 0 => 0 | 3 => 3 | 5 => 5 | n => n, fun | n => n⟩
theorem Try.lays227 : Go.Proofs.Lays.n227 Try.prog Try.lays227_ren := {
  mixed := by kernel_rfl
  f227 := Try.func115.trans (congrArg some (by kernel_rfl))
  t0 := Try.underlying0
  a0 := Try.isAgg0
  z0 := Try.sizeOf0
  v0 := Try.zeroValue0
  t3 := Try.underlying3
  a3 := Try.isAgg3
  z3 := Try.sizeOf3
  v3 := Try.zeroValue3
  t4 := Try.underlying4
  a4 := Try.isAgg4
  z4 := Try.sizeOf4
  v4 := Try.zeroValue4
  t5 := Try.underlying5
  a5 := Try.isAgg5
  z5 := Try.sizeOf5
  v5 := Try.zeroValue5
  t9 := Try.underlying9
  a9 := Try.isAgg9
  z9 := Try.sizeOf9
  v9 := Try.zeroValue9
  t116 := Try.underlying103
  a116 := Try.isAgg103
  z116 := Try.sizeOf103 }
open Go.RowKit Go.Lib in
theorem Try.strings_makeASCIISet (hv116 : ∀ w, (zeroValue 103).run Try.prog w = .ok (.agg (Array.replicate 256 (.bool false))) w) (chars : ByteArray) (w : World) (hs : chars.size < 4294967281) (hascii : ∀ (j : Nat) b, chars.data.toList[j]? = some b → b.toNat < 128) :
    Calls Try.prog 115 #[.string chars] w fun e w' => e = .returned (.tuple #[.agg (Lib.setCells chars.data.toList), .bool true]) ∧ w' = w.alloc (.cells (Lib.setCells chars.data.toList) 103) := Any.strings_makeASCIISet Try.lays227 hv116 (by kernel_rfl) chars w hs hascii
def Try.lays228_ren : Go.Shelf.Ren := ⟨fun | 228 => 116 | n => n, fun | 124 => 113 | 5 => 5 | 4 => 4 | 0 => 0 | 116 => 103 | n => n, fun | n => n⟩
theorem Try.lays228 : Go.Proofs.Lays.n228 Try.prog Try.lays228_ren := {
  mixed := by kernel_rfl
  f228 := Try.func116.trans (congrArg some (by kernel_rfl))
  t0 := Try.underlying0
  a0 := Try.isAgg0
  z0 := Try.sizeOf0
  v0 := Try.zeroValue0
  t4 := Try.underlying4
  a4 := Try.isAgg4
  z4 := Try.sizeOf4
  v4 := Try.zeroValue4
  t5 := Try.underlying5
  a5 := Try.isAgg5
  z5 := Try.sizeOf5
  v5 := Try.zeroValue5
  t116 := Try.underlying103
  a116 := Try.isAgg103
  z116 := Try.sizeOf103
  t124 := Try.underlying113
  a124 := Try.isAgg113
  z124 := Try.sizeOf113
  v124 := Try.zeroValue113 }
open Go.RowKit Go.Lib in
theorem Try.asciiSet_contains (b : Nat) (x : UInt8) (v : Bool) (w : World) (hc : w.cell? ⟨b, x.toNat, none⟩ = some (.bool v)) :
    Calls Try.prog 116 #[.pointer (some ⟨b, 0, none⟩), .int .u8 x.toNat] w fun e w' => e = .returned (.bool v) ∧ w' = w := Any.asciiSet_contains Try.lays228 b x v w hc
open Go.RowKit Go.Lib in
theorem Try.strings_IndexAny_long (hv116 : ∀ w, (zeroValue 103).run Try.prog w = .ok (.agg (Array.replicate 256 (.bool false))) w) (s chars : ByteArray) (w : World) (h2 : 2 ≤ chars.size) (h8 : 8 < s.size) (hs : s.size < 4294967281) (hcs : chars.size < 4294967281) (hascii : ∀ (j : Nat) b, chars.data.toList[j]? = some b → b.toNat < 128) :
    Calls Try.prog 96 #[.string s, .string chars] w fun e w' => e = .returned (.int .i64 (Lib.indexAny s.data.toList chars.data.toList)) ∧ w' = ((w.alloc (.cells (Lib.setCells chars.data.toList) 103)).alloc (.cells (Lib.setCells chars.data.toList) 103)) := Any.strings_IndexAny_long Try.lays153 hv116 (by kernel_rfl) s chars w h2 h8 hs hcs hascii
open Go.RowKit Go.Lib in
theorem Try.strings_IndexAny (hv116 : ∀ w, (zeroValue 103).run Try.prog w = .ok (.agg (Array.replicate 256 (.bool false))) w) (s chars : ByteArray) (w : World) (hs : s.size < 4294967281) (hcs : chars.size < 4294967281) (has : ∀ (j : Nat) b, s.data.toList[j]? = some b → b.toNat < 128) (hac : ∀ (j : Nat) b, chars.data.toList[j]? = some b → b.toNat < 128) :
    Calls Try.prog 96 #[.string s, .string chars] w fun e w' => e = .returned (.int .i64 (Lib.indexAny s.data.toList chars.data.toList)) ∧ Below w.heap.size w w' := Any.strings_IndexAny Try.lays153 hv116 (by kernel_rfl) s chars w hs hcs has hac
def Try.lays150_ren : Go.Shelf.Ren := ⟨fun | 150 => 66 | 153 => 96 | 152 => 113 | 226 => 114 | 227 => 115 | 228 => 116 | 137 => 117 | 119 => 123 | 224 => 124 | 225 => 125 | 217 => 126 | 266 => 129 | n => n, fun | 9 => 9 | 4 => 4 | 3 => 3 | 5 => 5 | 21 => 21 | 117 => 104 | 116 => 103 | 0 => 0 | 46 => 64 | 124 => 113 | n => n, fun | n => n⟩
theorem Try.lays150 : Go.Proofs.Lays.n150 Try.prog Try.lays150_ren := {
  mixed := by kernel_rfl
  f119 := Try.func123.trans (congrArg some (by kernel_rfl))
  f137 := Try.func117.trans (congrArg some (by kernel_rfl))
  f150 := Try.func66.trans (congrArg some (by kernel_rfl))
  f152 := Try.func113.trans (congrArg some (by kernel_rfl))
  f153 := Try.func96.trans (congrArg some (by kernel_rfl))
  f217 := Try.func126.trans (congrArg some (by kernel_rfl))
  f224 := Try.func124.trans (congrArg some (by kernel_rfl))
  f225 := Try.func125.trans (congrArg some (by kernel_rfl))
  f226 := Try.func114.trans (congrArg some (by kernel_rfl))
  f227 := Try.func115.trans (congrArg some (by kernel_rfl))
  f228 := Try.func116.trans (congrArg some (by kernel_rfl))
  f266 := Try.func129.trans (congrArg some (by kernel_rfl))
  t0 := Try.underlying0
  a0 := Try.isAgg0
  z0 := Try.sizeOf0
  v0 := Try.zeroValue0
  t3 := Try.underlying3
  a3 := Try.isAgg3
  z3 := Try.sizeOf3
  v3 := Try.zeroValue3
  t4 := Try.underlying4
  a4 := Try.isAgg4
  z4 := Try.sizeOf4
  v4 := Try.zeroValue4
  t5 := Try.underlying5
  a5 := Try.isAgg5
  z5 := Try.sizeOf5
  v5 := Try.zeroValue5
  t9 := Try.underlying9
  a9 := Try.isAgg9
  z9 := Try.sizeOf9
  v9 := Try.zeroValue9
  t21 := Try.underlying21
  a21 := Try.isAgg21
  z21 := Try.sizeOf21
  v21 := Try.zeroValue21
  t46 := Try.underlying64
  a46 := Try.isAgg64
  z46 := Try.sizeOf64
  v46 := Try.zeroValue64
  t116 := Try.underlying103
  a116 := Try.isAgg103
  z116 := Try.sizeOf103
  t117 := Try.underlying104
  a117 := Try.isAgg104
  z117 := Try.sizeOf104
  v117 := Try.zeroValue104
  t124 := Try.underlying113
  a124 := Try.isAgg113
  z124 := Try.sizeOf113
  v124 := Try.zeroValue113 }
open Go.RowKit Go.Lib in
theorem Try.strings_ContainsAny (hv116 : ∀ w, (zeroValue 103).run Try.prog w = .ok (.agg (Array.replicate 256 (.bool false))) w) (s chars : ByteArray) (w : World) (hs : s.size < 4294967281) (hcs : chars.size < 4294967281) (has : ∀ (j : Nat) b, s.data.toList[j]? = some b → b.toNat < 128) (hac : ∀ (j : Nat) b, chars.data.toList[j]? = some b → b.toNat < 128) :
    Calls Try.prog 66 #[.string s, .string chars] w fun e w' => e = .returned (.bool (Lib.containsAny s.data.toList chars.data.toList)) ∧ Below w.heap.size w w' := Any.strings_ContainsAny Try.lays150 hv116 (by kernel_rfl) s chars w hs hcs has hac
open Go.RowKit Go.Lib in
theorem Try.strings_IndexAny_laid (s chars : ByteArray) (w : World) (hs : s.size < 4294967281) (hcs : chars.size < 4294967281) (has : ∀ (j : Nat) b, s.data.toList[j]? = some b → b.toNat < 128) (hac : ∀ (j : Nat) b, chars.data.toList[j]? = some b → b.toNat < 128) :
    Calls Try.prog 96 #[.string s, .string chars] w fun e w' => e = .returned (.int .i64 (Lib.indexAny s.data.toList chars.data.toList)) ∧ Below w.heap.size w w' := Any.strings_IndexAny_laid Try.lays153 (by kernel_rfl) s chars w hs hcs has hac
open Go.RowKit Go.Lib in
theorem Try.strings_ContainsAny_laid (s chars : ByteArray) (w : World) (hs : s.size < 4294967281) (hcs : chars.size < 4294967281) (has : ∀ (j : Nat) b, s.data.toList[j]? = some b → b.toNat < 128) (hac : ∀ (j : Nat) b, chars.data.toList[j]? = some b → b.toNat < 128) :
    Calls Try.prog 66 #[.string s, .string chars] w fun e w' => e = .returned (.bool (Lib.containsAny s.data.toList chars.data.toList)) ∧ Below w.heap.size w w' := Any.strings_ContainsAny_laid Try.lays150 (by kernel_rfl) s chars w hs hcs has hac
def Try.laysNm215_ren : Go.Shelf.Ren := ⟨fun | 15 => 103 | n => n, fun | 22 => 25 | 3 => 3 | 4 => 4 | n => n, fun | n => n⟩
theorem Try.laysNm215 : Go.Proofs.Lays2.n15 Try.prog Try.laysNm215_ren := {
  mixed := by kernel_rfl
  f15 := Try.func103.trans (congrArg some (by kernel_rfl))
  t3 := Try.underlying3
  a3 := Try.isAgg3
  z3 := Try.sizeOf3
  v3 := Try.zeroValue3
  t4 := Try.underlying4
  a4 := Try.isAgg4
  z4 := Try.sizeOf4
  v4 := Try.zeroValue4
  t22 := Try.underlying25
  a22 := Try.isAgg25
  z22 := Try.sizeOf25
  v22 := Try.zeroValue25
  i3 := by kernel_rfl }
open Go.RowKit Go.Lib in
theorem Try.slices_Clone_int (b off n c : Nat) (zs : List Int) (w : World) (hz : n ≤ zs.length) (hbig : n * 8 ≤ 140737488355328) (hc : ∀ j, j < zs.length → w.cell? ⟨b, off + j, none⟩ = some (.int .i64 (zs.getD j 0))) :
    Calls Try.prog 103 #[.slice (some ⟨b, off, none⟩) n c] w fun e w' => ∃ v', e = .returned v' ∧ w'.ownsRow w.heap.size 3 1 v' n ((zs.take n).map (Value.int .i64)) ∧ v' ≠ .slice none 0 0 ∧ Below w.heap.size w w' := Any.slices_Clone_int Try.laysNm215 b off n c zs w hz hbig hc
open Go.RowKit Go.Lib in
theorem Try.slices_Clone_int_nil (n c : Nat) (w : World) :
    Calls Try.prog 103 #[.slice none n c] w fun e w' => e = .returned (.slice none 0 0) ∧ w' = w := Any.slices_Clone_int_nil Try.laysNm215 n c w
open Go.RowKit Go.Lib in
theorem Try.slices_Clone_int_zero (a : Addr) (c : Nat) (w : World) :
    Calls Try.prog 103 #[.slice (some a) 0 c] w fun e w' => ∃ v', e = .returned v' ∧ w'.ownsRow w.heap.size 3 1 v' 0 [] ∧ v' ≠ .slice none 0 0 ∧ Below w.heap.size w w' := Any.slices_Clone_int_zero Try.laysNm215 a c w
open Go.RowKit Go.Sort in
theorem Try.slices_Sort_int_none (p : Option Addr) (cap : Nat) (w : World) :
    Calls Try.prog 118 #[.slice p 0 cap] w fun e w' => e = .returned (.tuple #[]) ∧ w' = w := Any.slices_Sort_int_none Try.lays189 p cap w
end Go.Proofs

namespace Go.Proofs.Ytmdpolllmipppaa
open Go.RowKit

/-- What Sort leaves: the same numbers, ascending, in the same row. -/
def SortPost (base : Nat) (A : Option Addr) (nn c : Nat) (xs : List Int) (w : World) (e : Ending) (w' : World) : Prop :=
  e = .returned (.tuple #[]) ∧ ∃ ys : List Int, ys.Pairwise (· ≤ ·) ∧ (∀ x, x ∈ ys ↔ x ∈ xs) ∧ ys.length = nn ∧ Owns w' base (.slice A nn c) ys ∧ w.grownBy w' (Value.slice A nn c).ownBlock
theorem sort_asc (xs : List Int) : (xs.mergeSort fun x y => decide (x ≤ y)).Pairwise (· ≤ ·) := by
  have := List.pairwise_mergeSort (le := fun a b : Int => decide (a ≤ b)) (fun a b c h1 h2 => by simp only [decide_eq_true_eq] at *; omega) (fun a b => by simp only [Bool.or_eq_true, decide_eq_true_eq]; omega) xs
  exact this.imp (fun h => by simpa using h)
theorem iSort (base : Nat) (A : Option Addr) (nn c : Nat) (xs : List Int) (w : World) (hn : nn = xs.length) (h1 : 1 ≤ nn) (hl : nn ≤ 1048576) (hO : Owns w base (.slice A nn c) xs) :
    Calls Try.prog 118 #[.slice A nn c] w (SortPost base A nn c xs w) := by
  subst hn
  rcases hO.2 with ⟨_, h0⟩ | ⟨g, cap, cur, hv, hb, hg, hnc, hcm, hcs, htake⟩
  · omega
  · simp only [Value.slice.injEq] at hv
    obtain ⟨rfl, _, rfl⟩ := hv
    have ht : cur.toList.take xs.length = xs.map (Value.int .i64) := by rw [← htake, Nat.mul_one]
    refine (Try.slices_Sort_int g 0 c xs w (holds_of_block_i hg ht) (Array.getElem?_eq_some_iff.1 hg).1 (by omega)).mono ?_
    rintro e w' ⟨he, n, os, rfl⟩
    refine ⟨he, _, sort_asc xs, fun x => List.mem_mergeSort, List.length_mergeSort xs, ?_, grownBy_sorted_i _⟩
    have := ownsRow_sorted_i (n := n) (os := os) (List.length_mergeSort (le := fun x y => decide (x ≤ y)) xs) hb hg hnc hcm hcs
    unfold Owns
    rw [List.length_mergeSort]
    exact this
def ClonePost (xs : List Int) (w : World) (e : Ending) (w' : World) : Prop := ∃ v, e = .returned v ∧ Owns w' w.heap.size v xs ∧ Below w.heap.size w w'
theorem iClone (A : Option Addr) (nn c : Nat) (xs : List Int) (w : World) (hn : nn = xs.length) (h1 : 1 ≤ nn) (hl : nn ≤ 1048576) (hA : Nums .i64 w A xs) :
    Calls Try.prog 103 #[.slice A nn c] w (ClonePost xs w) := by
  subst hn
  obtain ⟨b, off, rfl, _, hc⟩ := hA h1
  refine (Try.slices_Clone_int b off xs.length c xs w (Nat.le_refl _) (by omega) hc).mono ?_
  rintro e w' ⟨v, he, ho, _, hb⟩
  rw [List.take_length] at ho
  exact ⟨v, he, ho, hb⟩

theorem great_skip {ys acc : List Int} {k : Nat} {x : Int} (h : Hid (acc ++ greatL (ys.drop k) = greatL ys)) (hx : Hid (ys[k]? = some x)) (hw : anyWithin x (ys.drop (k + 1)) = true) : Hid (acc ++ greatL (ys.drop (k + 1)) = greatL ys) := by
  unfold Hid; rw [← h.out, drop_cons hx]
  conv => rhs; unfold greatL
  rw [if_pos hw]
theorem great_take {ys acc : List Int} {k : Nat} {x : Int} (h : Hid (acc ++ greatL (ys.drop k) = greatL ys)) (hx : Hid (ys[k]? = some x)) (hw : anyWithin x (ys.drop (k + 1)) = false) : Hid ((acc ++ [x]) ++ greatL (ys.drop (k + 1)) = greatL ys) := by
  unfold Hid; rw [← h.out, drop_cons hx]
  conv => rhs; unfold greatL
  rw [if_neg (by rw [hw]; simp)]; simp

set_option maxHeartbeats 2000000 in
theorem iGreatest (A : Option Addr) (nn c : Nat) (xs : List Int) (w : World) (hn : nn = xs.length) (h1 : 1 ≤ nn) (hl : nn ≤ 1048576) (hr : ∀ x ∈ xs, 0 ≤ x ∧ x < 256) (hA : Nums .i64 w A xs) :
    Calls Try.prog 106 #[.slice A nn c] w fun e w' => ∃ v, e = .returned v ∧ Owns w' w.heap.size v (tidyL xs) ∧ Below w.heap.size w w' := by
  subst hn
  have HC := Lib.hid (iClone A xs.length c xs w rfl h1 hl hA)
  have HR := Lib.hid hr
  clear hr hA
  go_enter Try.func106, Try.ntmps106
  go_wp2_with fail
  refine HC.out.mono ?_
  rintro e w1 ⟨v, rfl, ho, hb⟩
  obtain ⟨A1, c1, rfl, hc1, hm1, hn1, ha1⟩ := ho.form
  have hc63 : c1 ≤ 9223372036854775807 := by unfold maxLen at hm1; omega
  have HO1 := Lib.hid ho
  have HB1 := Lib.hid hb
  have HA1 := Lib.hid ha1
  clear ho hb hm1 hn1 ha1 HC
  go_wp2_with fail
  refine (iSort w.heap.size A1 _ c1 xs _ rfl h1 hl HO1.out).mono ?_
  rintro e w2 ⟨rfl, ys, hs, hm, hylen, ho, hg⟩
  have HG := Lib.hid (great_tidy HR.out hs hm)
  have HYR : Hid (∀ y ∈ ys, 0 ≤ y ∧ y < 256) := fun y hy => HR.out y ((hm y).1 hy)
  have HB2 : Hid (Below w.heap.size w w2) := bel_mark HB1.out hg (fun ad h => (HA1.out ad h).1)
  obtain ⟨A2, c2, hv2, _, _, hn2, _⟩ := ho.form
  rw [← hylen] at hv2 hc1 h1 hl
  simp only [Value.slice.injEq] at hv2
  obtain ⟨rfl, hx1, rfl⟩ := hv2
  have HN2 := Lib.hid hn2
  rw [← hylen]
  clear ho hg hs hm hx1 hn2 hylen HO1 HA1 HR
  go_wp2_with fail
  go_loopw [4, 13] (fun v i wr => ∃ (k : Nat) (acc : List Int), k ≤ ys.length ∧ i = .int .i64 k ∧ Hid (acc.length ≤ k) ∧ Hid (acc ++ greatL (ys.drop k) = greatL ys) ∧ Owns wr w2.heap.size v acc ∧ Below w2.heap.size w2 wr) (fun _ i _ => ys.length - (Go.RowKit.intOf i).toNat)
  case atStart => exact ⟨0, [], Nat.zero_le _, rfl, Nat.zero_le _, by unfold Hid; simp, Owns.nil _ _, Below.refl _ _⟩
  case round =>
    obtain ⟨k, acc, hk, rfl, hacc, hgr, hown, hbel⟩ := hrel
    have HOW := Lib.hid hown
    have HB := Lib.hid hbel
    clear hown hbel
    by_cases hlt : k < ys.length
    · obtain ⟨b, off, x, rfl, hcell, hx, _⟩ := (HN2.out.below HB.out).elem hlt
      obtain ⟨he1, he2⟩ := HYR.out x (elem_mem hx)
      have HD : Hid (∀ y ∈ ys.drop (k + 1), 0 ≤ y ∧ y < 256) := fun y hy => HYR.out y (List.mem_of_mem_drop hy)
      have hlen : Hid (ys.length - (k + 1) = (ys.drop (k + 1)).length) := by unfold Hid; simp
      have hal := hacc.out
      by_cases hck : c1 = k + 1
      · subst hck
        go_wp2_with fail
        refine (iWithinAny _ _ _ _ (ys.drop (k + 1)) _ (by rw [← hlen.out]; try omega) he1 he2 HD.out (by omega) (by exact Nums.none_ (by rw [← hlen.out]; omega))).mono ?_
        rintro e w' ⟨rfl, rfl⟩
        rcases hw : anyWithin x (ys.drop (k + 1)) with _ | _
        · have HT := great_take hgr hx hw
          have hww : Hid (anyWithin x (ys.drop (k + 1)) = false) := hw
          go_wp2_with (at_builtin; refine wp_append1 (W := wr) rfl _ _ rfl w2.heap.size u4 acc rfl HOW.out x rfl (by omega) HB.out.size ?_; intro v' w' hown' hgrow)
          have hb' := below_append HB.out HB.out.size HOW.out (Nat.le_refl _) hgrow
          go_roundw
          case rel => exact ⟨k + 1, acc ++ [x], by omega, by go_num, by unfold Hid; simp; omega, HT, hown', hb'⟩
          case measure => simp [Go.RowKit.intOf]; omega
        · have HT := great_skip hgr hx hw
          go_wp2_with fail
          go_roundw
          case rel => exact ⟨k + 1, acc, by omega, by go_num, by unfold Hid; omega, HT, HOW.out, HB.out⟩
          case measure => simp [Go.RowKit.intOf]; omega
      · go_wp2_with fail
        refine (iWithinAny _ _ _ _ (ys.drop (k + 1)) _ (by rw [← hlen.out]; try omega) he1 he2 HD.out (by omega) (by exact (HN2.out.below HB.out).from_ (k + 1))).mono ?_
        rintro e w' ⟨rfl, rfl⟩
        rcases hw : anyWithin x (ys.drop (k + 1)) with _ | _
        · have HT := great_take hgr hx hw
          have hww : Hid (anyWithin x (ys.drop (k + 1)) = false) := hw
          go_wp2_with (at_builtin; refine wp_append1 (W := wr) rfl _ _ rfl w2.heap.size u4 acc rfl HOW.out x rfl (by omega) HB.out.size ?_; intro v' w' hown' hgrow)
          have hb' := below_append HB.out HB.out.size HOW.out (Nat.le_refl _) hgrow
          go_roundw
          case rel => exact ⟨k + 1, acc ++ [x], by omega, by go_num, by unfold Hid; simp; omega, HT, hown', hb'⟩
          case measure => simp [Go.RowKit.intOf]; omega
        · have HT := great_skip hgr hx hw
          go_wp2_with fail
          go_roundw
          case rel => exact ⟨k + 1, acc, by omega, by go_num, by unfold Hid; omega, HT, HOW.out, HB.out⟩
          case measure => simp [Go.RowKit.intOf]; omega
    · obtain rfl : k = ys.length := by omega
      have HF : Hid (acc = tidyL xs) := by
        have := hgr.out
        rw [List.drop_length] at this
        unfold Hid; rw [← HG.out, ← this]; simp [greatL]
      clear hgr
      go_wp2
      go_ret
      exact ⟨_, rfl, by rw [← HF.out]; exact HOW.out.base HB2.out.size, bel_trans HB2.out HB.out⟩
end Go.Proofs.Ytmdpolllmipppaa

namespace Go.Proofs.Ytmdpolllmipppaa

def chainsT : List (List Nat) := [[0, 1, 3, 7, 15, 31, 63, 127, 255], [2, 6, 14, 30, 62, 126, 254], [4, 5, 13, 29, 61, 125, 253], [8, 9, 11, 27, 59, 123, 251], [10, 26, 58, 122, 250], [12, 28, 60, 124, 252], [16, 17, 19, 23, 55, 119, 247], [18, 22, 54, 118, 246], [20, 21, 53, 117, 245], [24, 25, 57, 121, 249], [32, 33, 35, 39, 47, 111, 239], [34, 38, 46, 110, 238], [36, 37, 45, 109, 237], [40, 41, 43, 107, 235], [42, 106, 234], [44, 108, 236], [48, 49, 51, 115, 243], [50, 114, 242], [52, 116, 244], [56, 120, 248], [64, 65, 67, 71, 79, 95, 223], [66, 70, 78, 94, 222], [68, 69, 77, 93, 221], [72, 73, 75, 91, 219], [74, 90, 218], [76, 92, 220], [80, 81, 83, 87, 215], [82, 86, 214], [84, 85, 213], [88, 89, 217], [96, 97, 99, 103, 231], [98, 102, 230], [100, 101, 229], [104, 105, 233], [112, 113, 241], [128, 129, 131, 135, 143, 159, 191], [130, 134, 142, 158, 190], [132, 133, 141, 157, 189], [136, 137, 139, 155, 187], [138, 154, 186], [140, 156, 188], [144, 145, 147, 151, 183], [146, 150, 182], [148, 149, 181], [152, 153, 185], [160, 161, 163, 167, 175], [162, 166, 174], [164, 165, 173], [168, 169, 171], [170], [172], [176, 177, 179], [178], [180], [184], [192, 193, 195, 199, 207], [194, 198, 206], [196, 197, 205], [200, 201, 203], [202], [204], [208, 209, 211], [210], [212], [216], [224, 225, 227], [226], [228], [232], [240]]
def chainOf : List Nat := [0, 0, 1, 0, 2, 2, 1, 0, 3, 3, 4, 3, 5, 2, 1, 0, 6, 6, 7, 6, 8, 8, 7, 6, 9, 9, 4, 3, 5, 2, 1, 0, 10, 10, 11, 10, 12, 12, 11, 10, 13, 13, 14, 13, 15, 12, 11, 10, 16, 16, 17, 16, 18, 8, 7, 6, 19, 9, 4, 3, 5, 2, 1, 0, 20, 20, 21, 20, 22, 22, 21, 20, 23, 23, 24, 23, 25, 22, 21, 20, 26, 26, 27, 26, 28, 28, 27, 26, 29, 29, 24, 23, 25, 22, 21, 20, 30, 30, 31, 30, 32, 32, 31, 30, 33, 33, 14, 13, 15, 12, 11, 10, 34, 34, 17, 16, 18, 8, 7, 6, 19, 9, 4, 3, 5, 2, 1, 0, 35, 35, 36, 35, 37, 37, 36, 35, 38, 38, 39, 38, 40, 37, 36, 35, 41, 41, 42, 41, 43, 43, 42, 41, 44, 44, 39, 38, 40, 37, 36, 35, 45, 45, 46, 45, 47, 47, 46, 45, 48, 48, 49, 48, 50, 47, 46, 45, 51, 51, 52, 51, 53, 43, 42, 41, 54, 44, 39, 38, 40, 37, 36, 35, 55, 55, 56, 55, 57, 57, 56, 55, 58, 58, 59, 58, 60, 57, 56, 55, 61, 61, 62, 61, 63, 28, 27, 26, 64, 29, 24, 23, 25, 22, 21, 20, 65, 65, 66, 65, 67, 32, 31, 30, 68, 33, 14, 13, 15, 12, 11, 10, 69, 34, 17, 16, 18, 8, 7, 6, 19, 9, 4, 3, 5, 2, 1, 0]
theorem chains_ok : (chainsT.all fun l => decide (l.Pairwise fun a b => a &&& b = a)) = true := by decide +kernel
theorem chain_in : ((List.range 256).all fun s => (chainsT.getD (chainOf.getD s 0) []).contains s && decide (chainOf.getD s 0 < 70)) = true := by decide +kernel
theorem nodup_bound : ∀ (n : Nat) (l : List Nat), l.Nodup → (∀ x ∈ l, x < n) → l.length ≤ n
  | 0, l, _, h => by
    cases l with
    | nil => simp
    | cons x r => exact absurd (h x (by simp)) (by omega)
  | n + 1, l, hd, h => by
    by_cases hn : n ∈ l
    · have h1 := nodup_bound n (l.erase n) (hd.erase n) (fun x hx => by
        have := (hd.mem_erase_iff).1 hx
        have := h x this.2
        omega)
      rw [List.length_erase_of_mem hn] at h1
      omega
    · have := nodup_bound n l hd (fun x hx => by
        have h2 := h x hx
        have : x ≠ n := fun e => hn (e ▸ hx)
        omega)
      omega
theorem chain_comp {a b : Nat} (ha : a < 256) (hb : b < 256) (h : chainOf.getD a 0 = chainOf.getD b 0) : a &&& b = a ∨ b &&& a = b := by
  have h1 := List.all_eq_true.1 chain_in a (List.mem_range.2 ha)
  have h2 := List.all_eq_true.1 chain_in b (List.mem_range.2 hb)
  simp only [Bool.and_eq_true, decide_eq_true_eq, List.contains_eq_mem] at h1 h2
  rw [← h] at h2
  obtain ⟨hma, _⟩ := h1
  obtain ⟨hmb, _⟩ := h2
  have hl : (chainsT.getD (chainOf.getD a 0) []).Pairwise fun a b => a &&& b = a := by
    rw [List.getD_eq_getElem?_getD]
    cases e : chainsT[chainOf.getD a 0]? with
    | none => exact List.Pairwise.nil
    | some l => exact of_decide_eq_true (List.all_eq_true.1 chains_ok l (List.mem_of_getElem? e))
  obtain ⟨i, hi, ei⟩ := List.mem_iff_getElem.1 hma
  obtain ⟨j, hj, ej⟩ := List.mem_iff_getElem.1 hmb
  rcases Nat.lt_trichotomy i j with hij | hij | hij
  · left; have := List.pairwise_iff_getElem.1 hl i j hi hj hij; rw [ei, ej] at this; exact this
  · subst hij; left; rw [← ei, ← ej]; exact Nat.and_self _
  · right; have := List.pairwise_iff_getElem.1 hl j i hj hi hij; rw [ei, ej] at this; exact this
/-- Sets that stand apart are no more than 70. -/
theorem apart_bound {xs : List Int} (hr : ∀ x ∈ xs, 0 ≤ x ∧ x < 256) (hp : pairB xs = true) : xs.length ≤ 70 := by
  have hd : (xs.map fun x => chainOf.getD x.toNat 0).Nodup := by
    unfold List.Nodup
    rw [List.pairwise_map, List.pairwise_iff_getElem]
    intro i j hi hj hij e
    have ha := hr _ (List.getElem_mem hi)
    have hb := hr _ (List.getElem_mem hj)
    have h1 := pair_lt hp hij (List.getElem?_eq_getElem hi) (List.getElem?_eq_getElem hj)
    rcases chain_comp (by omega) (by omega) e with h | h
    · have : withinB xs[i] xs[j] = true := by unfold withinB andI; rw [h]; simp; omega
      rw [h1.2.1] at this; cases this
    · have : withinB xs[j] xs[i] = true := by unfold withinB andI; rw [h]; simp; omega
      rw [h1.2.2] at this; cases this
  have := nodup_bound 70 _ hd (fun x hx => by
    obtain ⟨y, hy, rfl⟩ := List.mem_map.1 hx
    have hy2 := hr y hy
    have h1 := List.all_eq_true.1 chain_in y.toNat (List.mem_range.2 (by omega))
    simp only [Bool.and_eq_true, decide_eq_true_eq] at h1
    exact h1.2)
  simpa using this
end Go.Proofs.Ytmdpolllmipppaa

namespace Go.Proofs.Ytmdpolllmipppaa
open Go.RowKit

theorem tidy_sub {xs : List Int} (hr : ∀ x ∈ xs, 0 ≤ x ∧ x < 256) : ∀ x ∈ tidyL xs, x ∈ xs := fun x hx => ((tidy_mem hr x).1 hx).1
theorem tidy_over {xs : List Int} (hr : ∀ x ∈ xs, 0 ≤ x ∧ x < 256) {x : Int} (hx : x ∈ xs) : ∃ z ∈ tidyL xs, withinB x z = true := by
  obtain ⟨ys, hs, hm⟩ : ∃ ys : List Int, ys.Pairwise (· ≤ ·) ∧ (∀ x, x ∈ ys ↔ x ∈ xs) := by
    refine ⟨xs.mergeSort (fun a b => decide (a ≤ b)), ?_, fun x => List.mem_mergeSort⟩
    have := List.pairwise_mergeSort (le := fun a b : Int => decide (a ≤ b)) (fun a b c h1 h2 => by simp only [decide_eq_true_eq] at *; omega) (fun a b => by simp only [Bool.or_eq_true, decide_eq_true_eq]; omega) xs
    exact this.imp (fun h => by simpa using h)
  have h0 : ∀ y ∈ ys, 0 ≤ y := fun y hy => (hr y ((hm y).1 hy)).1
  have hc := great_cover ys h0 x ((hm x).2 hx)
  rw [great_tidy hr hs hm] at hc
  exact any_iff.1 hc
/-- Who is within one of the sets is within one of the greatest ones. -/
theorem tidy_any {xs : List Int} (hr : ∀ x ∈ xs, 0 ≤ x ∧ x < 256) {s : Int} (hs : 0 ≤ s) : anyWithin s (tidyL xs) = anyWithin s xs := by
  rw [Bool.eq_iff_iff, any_iff, any_iff]
  constructor
  · rintro ⟨x, hx, hw⟩; exact ⟨x, tidy_sub hr x hx, hw⟩
  · rintro ⟨x, hx, hw⟩
    obtain ⟨z, hz, hxz⟩ := tidy_over hr hx
    exact ⟨z, hz, within_trans hs (hr x hx).1 hw hxz⟩
theorem sets_range {t : Int} {xs : List Int} (h : ∀ x ∈ xs, setOkB t x = true) : ∀ x ∈ xs, 0 ≤ x ∧ x < 256 := fun x hx => by have := setOkB_lt (h x hx); omega
theorem tidy_ok {t : Int} {xs : List Int} (hne : xs ≠ []) (h : ∀ x ∈ xs, setOkB t x = true) : issueOkB t (tidyL xs) = true := by
  have hr := sets_range h
  have hp : pairB (tidyL xs) = true := pair_iff (tidy_asc xs) fun x hx y hy => ((tidy_mem hr x).1 hx).2 y ((tidy_mem hr y).1 hy).1
  have hr2 : ∀ x ∈ tidyL xs, 0 ≤ x ∧ x < 256 := fun x hx => hr x (tidy_sub hr x hx)
  obtain ⟨x, hx⟩ := List.exists_mem_of_ne_nil xs hne
  obtain ⟨z, hz, _⟩ := tidy_over hr hx
  unfold issueOkB partsOkB
  simp only [Bool.and_eq_true, decide_eq_true_eq, List.all_eq_true]
  exact ⟨⟨⟨List.length_pos_of_mem hz, apart_bound hr2 hp⟩, fun y hy => h y (tidy_sub hr y hy)⟩, hp⟩
theorem issue_nonempty {t : Int} {xs : List Int} (h : issueOkB t xs = true) : xs ≠ [] := by
  have := issue_ne h; intro e; subst e; simp at this
/-- Two issues with the same sets within are the same. -/
theorem any_ext {t : Int} {xs ys : List Int} (hx : issueOkB t xs = true) (hy : issueOkB t ys = true) (h : ∀ s, 0 ≤ s → s ≤ allOf t → anyWithin s xs = anyWithin s ys) : xs = ys := by
  obtain ⟨h1, h3⟩ := issue_things hx
  refine settles_same hx hy fun k hk0 hk => ?_
  unfold settlesB
  rw [hx, hy, setOk_of h1 h3 hk0 hk, h k hk0 hk]
theorem settles_any {t : Int} {xs : List Int} (hx : issueOkB t xs = true) {k : Int} (hk0 : 0 ≤ k) (hk : k ≤ allOf t) : settlesB t xs k = anyWithin k xs := by
  obtain ⟨h1, h3⟩ := issue_things hx
  unfold settlesB
  rw [hx, setOk_of h1 h3 hk0 hk]; rfl
theorem within_andI_left (a b : Int) : withinB (andI a b) a = true := by
  rw [within_iff (andI_nonneg _ _)]; intro i hi
  change ((((a.toNat &&& b.toNat : Nat) : Int)).toNat).testBit i = true at hi
  rw [Int.toNat_natCast, Nat.testBit_and, Bool.and_eq_true] at hi; exact hi.1
theorem within_andI_right (a b : Int) : withinB (andI a b) b = true := by
  rw [within_iff (andI_nonneg _ _)]; intro i hi
  change ((((a.toNat &&& b.toNat : Nat) : Int)).toNat).testBit i = true at hi
  rw [Int.toNat_natCast, Nat.testBit_and, Bool.and_eq_true] at hi; exact hi.2
theorem within_andI {c a b : Int} (hc : 0 ≤ c) (h1 : withinB c a = true) (h2 : withinB c b = true) : withinB c (andI a b) = true := by
  rw [within_iff hc] at *
  intro i hi
  show ((((a.toNat &&& b.toNat : Nat) : Int)).toNat).testBit i = true
  rw [Int.toNat_natCast, Nat.testBit_and, h1 i hi, h2 i hi]; rfl
theorem any_down {s u : Int} {xs : List Int} (hu : 0 ≤ u) (hs : 0 ≤ s) (h : withinB u s = true) (ha : anyWithin s xs = true) : anyWithin u xs = true := by
  obtain ⟨x, hx, hw⟩ := any_iff.1 ha
  exact any_iff.2 ⟨x, hx, within_trans hu hs h hw⟩
theorem andI_ok {t a b : Int} (ha : setOkB t a = true) : setOkB t (andI a b) = true := by
  have := setOkB_lt ha
  exact setOk_of this.1 this.2.1 (andI_nonneg _ _) (Int.le_trans (andI_le a b this.2.2.1) this.2.2.2.1)

def bothX (a b : List Int) : List Int := a.flatMap fun x => b.map fun y => andI x y
def bothL (t : Int) (a b : List Int) : List Int := if (issueOkB t a && issueOkB t b) = true then tidyL (bothX a b) else []
def eitherL (t : Int) (a b : List Int) : List Int := if (issueOkB t a && issueOkB t b) = true then tidyL (a ++ b) else []
def goodB (a b : List Int) (s : Int) : Bool := a.all fun x => anyWithin (andI s x) b
def ifTo (a b : List Int) (k : Nat) : List Int := ((List.range k).map fun n : Nat => (n : Int)).filter (goodB a b)
def ifL (t : Int) (a b : List Int) : List Int := if (issueOkB t a && issueOkB t b) = true then tidyL (ifTo a b (allOf t + 1).toNat) else []
def notL (t : Int) (a : List Int) : List Int := if issueOkB t a = true then ifL t a [0] else []
def whetherL (t : Int) (a : List Int) : List Int := if issueOkB t a = true then eitherL t a (notL t a) else []
def followsB (t : Int) (a b : List Int) : Bool := issueOkB t a && issueOkB t b && a.all fun x => anyWithin x b

section
variable {t : Int} {a b c : List Int}
theorem mem_bothX {s : Int} : s ∈ bothX a b ↔ ∃ x ∈ a, ∃ y ∈ b, andI x y = s := by unfold bothX; simp [List.mem_flatMap]
theorem bothX_sets (ha : issueOkB t a = true) : ∀ s ∈ bothX a b, setOkB t s = true := by
  intro s hs
  obtain ⟨x, hx, y, _, rfl⟩ := mem_bothX.1 hs
  exact andI_ok (issue_sets ha x hx)
theorem bothX_any (s : Int) (hs : 0 ≤ s) : anyWithin s (bothX a b) = (anyWithin s a && anyWithin s b) := by
  rw [Bool.eq_iff_iff, Bool.and_eq_true, any_iff, any_iff, any_iff]
  constructor
  · rintro ⟨z, hz, hw⟩
    obtain ⟨x, hx, y, hy, rfl⟩ := mem_bothX.1 hz
    exact ⟨⟨x, hx, within_trans hs (andI_nonneg _ _) hw (within_andI_left _ _)⟩, y, hy, within_trans hs (andI_nonneg _ _) hw (within_andI_right _ _)⟩
  · rintro ⟨⟨x, hx, h1⟩, y, hy, h2⟩
    exact ⟨_, mem_bothX.2 ⟨x, hx, y, hy, rfl⟩, within_andI hs h1 h2⟩
theorem both_eq (ha : issueOkB t a = true) (hb : issueOkB t b = true) : bothL t a b = tidyL (bothX a b) := by unfold bothL; rw [ha, hb]; rfl
theorem both_ok (ha : issueOkB t a = true) (hb : issueOkB t b = true) : issueOkB t (bothL t a b) = true := by
  rw [both_eq ha hb]
  refine tidy_ok (fun e => ?_) (bothX_sets ha)
  obtain ⟨x, hx⟩ := List.exists_mem_of_ne_nil a (issue_nonempty ha)
  obtain ⟨y, hy⟩ := List.exists_mem_of_ne_nil b (issue_nonempty hb)
  have := mem_bothX.2 ⟨x, hx, y, hy, rfl⟩
  rw [e] at this; cases this
theorem both_any (ha : issueOkB t a = true) (hb : issueOkB t b = true) {s : Int} (hs : 0 ≤ s) : anyWithin s (bothL t a b) = (anyWithin s a && anyWithin s b) := by
  rw [both_eq ha hb, tidy_any (sets_range (bothX_sets ha)) hs, bothX_any s hs]

theorem either_eq (ha : issueOkB t a = true) (hb : issueOkB t b = true) : eitherL t a b = tidyL (a ++ b) := by unfold eitherL; rw [ha, hb]; rfl
theorem eitherX_sets (ha : issueOkB t a = true) (hb : issueOkB t b = true) : ∀ s ∈ a ++ b, setOkB t s = true := by
  intro s hs
  rcases List.mem_append.1 hs with h | h
  · exact issue_sets ha s h
  · exact issue_sets hb s h
theorem either_ok (ha : issueOkB t a = true) (hb : issueOkB t b = true) : issueOkB t (eitherL t a b) = true := by
  rw [either_eq ha hb]
  refine tidy_ok (fun e => ?_) (eitherX_sets ha hb)
  exact issue_nonempty ha (List.append_eq_nil_iff.1 e).1
theorem either_any (ha : issueOkB t a = true) (hb : issueOkB t b = true) {s : Int} (hs : 0 ≤ s) : anyWithin s (eitherL t a b) = (anyWithin s a || anyWithin s b) := by
  rw [either_eq ha hb, tidy_any (sets_range (eitherX_sets ha hb)) hs]
  unfold anyWithin; rw [List.any_append]

theorem good_iff {s : Int} : goodB a b s = true ↔ ∀ u, 0 ≤ u → withinB u s = true → anyWithin u a = true → anyWithin u b = true := by
  unfold goodB
  rw [List.all_eq_true]
  constructor
  · intro h u hu hus hua
    obtain ⟨x, hx, hw⟩ := any_iff.1 hua
    exact any_down hu (andI_nonneg _ _) (within_andI hu hus hw) (h x hx)
  · intro h x hx
    exact h _ (andI_nonneg _ _) (within_andI_left _ _) (any_iff.2 ⟨x, hx, within_andI_right _ _⟩)
theorem good_down {s u : Int} (hu : 0 ≤ u) (h : withinB u s = true) (hg : goodB a b s = true) : goodB a b u = true := by
  unfold goodB at *
  rw [List.all_eq_true] at *
  intro x hx
  refine any_down (andI_nonneg _ _) (andI_nonneg _ _) (within_andI (andI_nonneg _ _) (within_trans (andI_nonneg _ _) hu (within_andI_left _ _) h) (within_andI_right _ _)) (hg x hx)
theorem mem_ifTo {k : Nat} {s : Int} : s ∈ ifTo a b k ↔ (0 ≤ s ∧ s < k ∧ goodB a b s = true) := by
  unfold ifTo
  rw [List.mem_filter, List.mem_map]
  constructor
  · rintro ⟨⟨n, hn, rfl⟩, h⟩
    rw [List.mem_range] at hn
    exact ⟨by omega, by omega, h⟩
  · rintro ⟨h0, h1, h⟩
    exact ⟨⟨s.toNat, by rw [List.mem_range]; omega, by omega⟩, h⟩
theorem issue_pos (ha : issueOkB t a = true) : ∀ x ∈ a, 0 ≤ x := fun x hx => (issue_range ha x hx).1
theorem if_eq (ha : issueOkB t a = true) (hb : issueOkB t b = true) : ifL t a b = tidyL (ifTo a b (allOf t + 1).toNat) := by unfold ifL; rw [ha, hb]; rfl
theorem ifX_sets (ha : issueOkB t a = true) : ∀ s ∈ ifTo a b (allOf t + 1).toNat, setOkB t s = true := by
  intro s hs
  obtain ⟨h0, h1, _⟩ := mem_ifTo.1 hs
  obtain ⟨h2, h3⟩ := issue_things ha
  exact setOk_of h2 h3 h0 (by have := allOf_lt t; omega)
theorem good_zero (hb : issueOkB t b = true) : goodB a b 0 = true := by
  unfold goodB; rw [List.all_eq_true]; intro x _
  obtain ⟨y, hy⟩ := List.exists_mem_of_ne_nil b (issue_nonempty hb)
  exact any_iff.2 ⟨y, hy, by have e : andI 0 x = 0 := by unfold andI; simp
                             rw [e]; exact within_zero y⟩
theorem if_ok (ha : issueOkB t a = true) (hb : issueOkB t b = true) : issueOkB t (ifL t a b) = true := by
  rw [if_eq ha hb]
  refine tidy_ok (fun e => ?_) (ifX_sets ha)
  have := mem_ifTo (a := a) (b := b) (k := (allOf t + 1).toNat) (s := 0)
  rw [e] at this
  exact absurd (this.2 ⟨by omega, by have := allOf_lt t; omega, good_zero hb⟩) (by simp)
theorem if_any (ha : issueOkB t a = true) (hb : issueOkB t b = true) {s : Int} (hs : 0 ≤ s) (hs2 : s ≤ allOf t) : anyWithin s (ifL t a b) = goodB a b s := by
  rw [if_eq ha hb, tidy_any (sets_range (ifX_sets ha)) hs, Bool.eq_iff_iff, any_iff]
  constructor
  · rintro ⟨z, hz, hw⟩
    obtain ⟨h0, _, hg⟩ := mem_ifTo.1 hz
    exact good_down hs hw hg
  · intro hg
    exact ⟨s, mem_ifTo.2 ⟨hs, by omega, hg⟩, within_refl s hs⟩

/-- Follows, said of all sets. -/
theorem follows_iff (ha : issueOkB t a = true) (hb : issueOkB t b = true) : followsB t a b = true ↔ ∀ s, 0 ≤ s → s ≤ allOf t → anyWithin s a = true → anyWithin s b = true := by
  unfold followsB
  rw [ha, hb, Bool.true_and, Bool.true_and, List.all_eq_true]
  constructor
  · intro h s hs _ hsa
    obtain ⟨x, hx, hw⟩ := any_iff.1 hsa
    exact any_down hs (issue_pos ha x hx) hw (h x hx)
  · intro h x hx
    have := setOkB_lt (issue_sets ha x hx)
    exact h x this.2.2.1 this.2.2.2.1 (any_iff.2 ⟨x, hx, within_refl x this.2.2.1⟩)

/-! The laws. -/
theorem law_both (ha : issueOkB t a = true) (hb : issueOkB t b = true) {k : Int} (h0 : 0 ≤ k) (hk : k ≤ allOf t) : settlesB t (bothL t a b) k = (settlesB t a k && settlesB t b k) := by
  rw [settles_any (both_ok ha hb) h0 hk, settles_any ha h0 hk, settles_any hb h0 hk, both_any ha hb h0]
theorem law_either (ha : issueOkB t a = true) (hb : issueOkB t b = true) {k : Int} (h0 : 0 ≤ k) (hk : k ≤ allOf t) : settlesB t (eitherL t a b) k = (settlesB t a k || settlesB t b k) := by
  rw [settles_any (either_ok ha hb) h0 hk, settles_any ha h0 hk, settles_any hb h0 hk, either_any ha hb h0]
theorem law_absorb (ha : issueOkB t a = true) (hb : issueOkB t b = true) : bothL t a (eitherL t a b) = a := by
  refine any_ext (both_ok ha (either_ok ha hb)) ha fun s h0 _ => ?_
  rw [both_any ha (either_ok ha hb) h0, either_any ha hb h0]
  cases anyWithin s a <;> simp
theorem law_carry (ha : issueOkB t a = true) (hb : issueOkB t b = true) (hc : issueOkB t c = true) : followsB t c (ifL t a b) = followsB t (bothL t c a) b := by
  rw [Bool.eq_iff_iff, follows_iff hc (if_ok ha hb), follows_iff (both_ok hc ha) hb]
  constructor
  · intro h s h0 hs hsb
    rw [both_any hc ha h0, Bool.and_eq_true] at hsb
    have := h s h0 hs hsb.1
    rw [if_any ha hb h0 hs, good_iff] at this
    exact this s h0 (within_refl s h0) hsb.2
  · intro h s h0 hs hsc
    rw [if_any ha hb h0 hs, good_iff]
    intro u hu hus hua
    have hu2 : u ≤ allOf t := Int.le_trans (within_le hus h0) hs
    refine h u hu hu2 ?_
    rw [both_any hc ha hu, Bool.and_eq_true]
    exact ⟨any_down hu h0 hus hsc, hua⟩
theorem law_ifEither (ha : issueOkB t a = true) (hb : issueOkB t b = true) (hc : issueOkB t c = true) (h1 : a.length ≤ 1) : ifL t a (eitherL t b c) = eitherL t (ifL t a b) (ifL t a c) := by
  refine any_ext (if_ok ha (either_ok hb hc)) (either_ok (if_ok ha hb) (if_ok ha hc)) fun s h0 hs => ?_
  rw [if_any ha (either_ok hb hc) h0 hs, either_any (if_ok ha hb) (if_ok ha hc) h0, if_any ha hb h0 hs, if_any ha hc h0 hs]
  have hne := issue_ne ha
  match a, hne, h1 with
  | [x], _, _ =>
    unfold goodB
    simp only [List.all_cons, List.all_nil, Bool.and_true]
    exact either_any hb hc (andI_nonneg _ _)
theorem all_pow (h1 : 1 ≤ t) (h3 : t ≤ 3) : ∃ n : Nat, n ≤ 8 ∧ allOf t = (2 ^ n : Nat) - 1 := by
  have : t = 1 ∨ t = 2 ∨ t = 3 := by omega
  rcases this with rfl | rfl | rfl
  · exact ⟨2, by omega, rfl⟩
  · exact ⟨4, by omega, rfl⟩
  · exact ⟨8, by omega, rfl⟩
/-- Within the rest is: nothing in common. -/
theorem comp_within {s g : Int} (h1 : 1 ≤ t) (h3 : t ≤ 3) (hs : 0 ≤ s) (hs2 : s ≤ allOf t) (hg : 0 ≤ g) (hg2 : g ≤ allOf t) : withinB s (allOf t - g) = true ↔ andI s g = 0 := by
  obtain ⟨n, _, hn⟩ := all_pow h1 h3
  rw [hn] at hs2 hg2 ⊢
  rw [within_iff hs]
  have hsl : s.toNat < 2 ^ n := by omega
  have hgl : g.toNat < 2 ^ n := by omega
  have e : (((2 ^ n : Nat) : Int) - 1 - g).toNat = 2 ^ n - (g.toNat + 1) := by omega
  rw [e]
  constructor
  · intro h
    have : s.toNat &&& g.toNat = 0 := by
      apply Nat.eq_of_testBit_eq
      intro i
      rw [Nat.testBit_and, Nat.zero_testBit]
      cases hi : s.toNat.testBit i
      · rfl
      · have := h i hi
        rw [Nat.testBit_two_pow_sub_succ hgl, Bool.and_eq_true] at this
        cases hgi : g.toNat.testBit i
        · rfl
        · rw [hgi] at this; simp at this
    unfold andI; omega
  · intro h i hi
    have h : s.toNat &&& g.toNat = 0 := by unfold andI at h; omega
    have h2 := congrArg (fun x => x.testBit i) h
    simp only [Nat.testBit_and, hi, Bool.true_and, Nat.zero_testBit] at h2
    rw [Nat.testBit_two_pow_sub_succ hgl, h2]
    have : i < n := by
      rcases Nat.lt_or_ge i n with h | h
      · exact h
      · rw [Nat.testBit_lt_two_pow (Nat.lt_of_lt_of_le hsl (Nat.pow_le_pow_right (by omega) h))] at hi; cases hi
    simp [this]
theorem within_nothing {s : Int} (hs : 0 ≤ s) : withinB s 0 = true ↔ s = 0 := by
  constructor
  · intro h; have := within_le h (by omega); omega
  · rintro rfl; exact within_refl 0 (by omega)
theorem union_all (ha : issueOkB t a = true) : 0 ≤ unionI a ∧ unionI a ≤ allOf t := by
  have := setOkB_lt (union_ok ha); omega
/-- Nothing in common with what is granted is: nothing but the empty set settles it within. -/
theorem not_good (ha : issueOkB t a = true) {s : Int} : goodB a [0] s = true ↔ andI s (unionI a) = 0 := by
  have hp := issue_pos ha
  have hu := union_all ha
  rw [good_iff]
  constructor
  · intro h
    have key : ∀ x ∈ a, andI s x = 0 := fun x hx => by
      have := h _ (andI_nonneg _ _) (within_andI_left s x) (any_iff.2 ⟨x, hx, within_andI_right _ _⟩)
      obtain ⟨z, hz, hw⟩ := any_iff.1 this
      rw [List.mem_singleton] at hz; subst hz
      exact (within_nothing (andI_nonneg _ _)).1 hw
    -- what is granted is within the rest
    obtain ⟨h1, h3⟩ := issue_things ha
    have hw : withinB (unionI a) (allOf 3 - andI s (allOf 3)) = true := by
      refine union_least hp fun x hx => ?_
      have hx2 := issue_range ha x hx
      rw [comp_within (t := 3) (by omega) (by omega) hx2.1 (by have : allOf 3 = 255 := rfl; omega) (andI_nonneg _ _) (andI_le' _ _ (by decide))]
      have := key x hx
      have h2 : withinB (andI x (andI s (allOf 3))) (andI s x) = true := within_andI (andI_nonneg _ _) (within_trans (andI_nonneg _ _) (andI_nonneg _ _) (within_andI_right _ _) (within_andI_left _ _)) (within_andI_left _ _)
      rw [this] at h2
      exact (within_nothing (andI_nonneg _ _)).1 h2
    have hur := union_range (issue_range ha)
    rw [comp_within (t := 3) (by omega) (by omega) hu.1 (by have : allOf 3 = 255 := rfl; omega) (andI_nonneg _ _) (andI_le' _ _ (by decide))] at hw
    have h4 : withinB (andI s (unionI a)) (andI (unionI a) (andI s (allOf 3))) = true := by
      refine within_andI (andI_nonneg _ _) (within_andI_right _ _) (within_andI (andI_nonneg _ _) (within_andI_left _ _) ?_)
      refine within_trans (andI_nonneg _ _) hu.1 (within_andI_right _ _) ?_
      exact (within_all (t := 3) (by omega) (by omega) hu.1).2 (by have : allOf 3 = 255 := rfl; omega)
    rw [hw] at h4
    exact (within_nothing (andI_nonneg _ _)).1 h4
  · intro h u hu0 hus hua
    obtain ⟨x, hx, hw⟩ := any_iff.1 hua
    have h5 : withinB u (andI s (unionI a)) = true := within_andI hu0 hus (within_trans hu0 (hp x hx) hw (mem_union hp hx))
    rw [h] at h5
    exact any_iff.2 ⟨0, by simp, h5⟩
theorem zero_issue (h1 : 1 ≤ t) (h3 : t ≤ 3) : issueOkB t [0] = true := issue_one (setOk_of h1 h3 (by omega) (allOf_lt t).1)
theorem rest_ok (ha : issueOkB t a = true) : setOkB t (allOf t - unionI a) = true := by
  obtain ⟨h1, h3⟩ := issue_things ha
  have := union_all ha
  exact setOk_of h1 h3 (by omega) (by omega)
theorem not_eq (ha : issueOkB t a = true) : notL t a = ifL t a [0] := by unfold notL; rw [ha]; rfl
theorem not_ok (ha : issueOkB t a = true) : issueOkB t (notL t a) = true := by
  obtain ⟨h1, h3⟩ := issue_things ha
  rw [not_eq ha]; exact if_ok ha (zero_issue h1 h3)
theorem any_one (s g : Int) : anyWithin s [g] = withinB s g := by unfold anyWithin; simp
theorem law_not (ha : issueOkB t a = true) : notL t a = [allOf t - unionI a] := by
  obtain ⟨h1, h3⟩ := issue_things ha
  have hu := union_all ha
  refine any_ext (not_ok ha) (issue_one (rest_ok ha)) fun s h0 hs => ?_
  rw [not_eq ha, if_any ha (zero_issue h1 h3) h0 hs, any_one, Bool.eq_iff_iff, not_good ha, comp_within h1 h3 h0 hs hu.1 hu.2]
theorem union_one {g : Int} (h : 0 ≤ g) : unionI [g] = g := by unfold unionI orI; simp; omega
theorem law_notnot (ha : issueOkB t a = true) : notL t (notL t a) = [unionI a] := by
  have hu := union_all ha
  rw [law_not (not_ok ha), law_not ha, union_one (by omega)]
  congr 1; omega

theorem union_tidy {xs : List Int} (hr : ∀ x ∈ xs, 0 ≤ x ∧ x < 256) : unionI (tidyL xs) = unionI xs := by
  have hp : ∀ x ∈ xs, 0 ≤ x := fun x hx => (hr x hx).1
  have hpt : ∀ x ∈ tidyL xs, 0 ≤ x := fun x hx => hp x (tidy_sub hr x hx)
  have h1 := union_range hr
  have h2 := union_range (xs := tidyL xs) fun x hx => hr x (tidy_sub hr x hx)
  refine within_anti h2.1 h1.1 (union_least hpt fun x hx => mem_union hp (tidy_sub hr x hx)) (union_least hp fun x hx => ?_)
  obtain ⟨z, hz, hw⟩ := tidy_over hr hx
  exact within_trans (hp x hx) (hpt z hz) hw (mem_union hpt hz)
theorem fold_bit : ∀ (xs : List Int) (s : Int) (i : Nat), (xs.foldl orI s).toNat.testBit i = (s.toNat.testBit i || xs.any fun x => x.toNat.testBit i)
  | [], s, i => by simp
  | x :: r, s, i => by
    rw [List.foldl_cons, fold_bit r, List.any_cons]
    show ((((s.toNat ||| x.toNat : Nat) : Int)).toNat.testBit i || _) = _
    rw [Int.toNat_natCast, Nat.testBit_or, Bool.or_assoc]
theorem union_bit (xs : List Int) (i : Nat) : (unionI xs).toNat.testBit i = xs.any fun x => x.toNat.testBit i := by
  unfold unionI; rw [fold_bit]; simp
theorem law_granted_both (ha : issueOkB t a = true) (hb : issueOkB t b = true) : unionI (bothL t a b) = andI (unionI a) (unionI b) := by
  rw [both_eq ha hb, union_tidy (sets_range (bothX_sets ha))]
  have hx := union_range (sets_range (bothX_sets (b := b) ha))
  have : (unionI (bothX a b)).toNat = (unionI a).toNat &&& (unionI b).toNat := by
    apply Nat.eq_of_testBit_eq
    intro i
    rw [union_bit, Nat.testBit_and, union_bit, union_bit, Bool.eq_iff_iff, Bool.and_eq_true, List.any_eq_true, List.any_eq_true, List.any_eq_true]
    constructor
    · rintro ⟨z, hz, hi⟩
      obtain ⟨x, hx, y, hy, rfl⟩ := mem_bothX.1 hz
      change ((((x.toNat &&& y.toNat : Nat) : Int)).toNat).testBit i = true at hi
      rw [Int.toNat_natCast, Nat.testBit_and, Bool.and_eq_true] at hi
      exact ⟨⟨x, hx, hi.1⟩, y, hy, hi.2⟩
    · rintro ⟨⟨x, hx, h1⟩, y, hy, h2⟩
      refine ⟨_, mem_bothX.2 ⟨x, hx, y, hy, rfl⟩, ?_⟩
      show ((((x.toNat &&& y.toNat : Nat) : Int)).toNat).testBit i = true
      rw [Int.toNat_natCast, Nat.testBit_and, h1, h2]; rfl
  unfold andI; omega
theorem whether_eq (ha : issueOkB t a = true) : whetherL t a = eitherL t a (notL t a) := by unfold whetherL; rw [ha]; rfl
theorem whether_ok (ha : issueOkB t a = true) : issueOkB t (whetherL t a) = true := by rw [whether_eq ha]; exact either_ok ha (not_ok ha)
theorem or_rest {g : Int} (h1 : 1 ≤ t) (h3 : t ≤ 3) (hg : 0 ≤ g) (hg2 : g ≤ allOf t) : orI g (allOf t - g) = allOf t := by
  obtain ⟨n, hn8, hn⟩ := all_pow h1 h3
  have hal := (allOf_lt t).2
  have hz : andI g (allOf t - g) = 0 := by
    have := (comp_within (s := allOf t - g) (g := g) h1 h3 (by omega) (by omega) hg hg2).1 (within_refl _ (by omega))
    unfold andI at *; rw [Nat.and_comm]; exact this
  have := orI_eq g (allOf t - g) hg (by omega) (by omega) (by omega)
  omega
theorem law_whether_all (ha : issueOkB t a = true) : unionI (whetherL t a) = allOf t := by
  obtain ⟨h1, h3⟩ := issue_things ha
  have hu := union_all ha
  rw [whether_eq ha, either_eq ha (not_ok ha), union_tidy (sets_range (eitherX_sets ha (not_ok ha))), law_not ha]
  unfold unionI
  rw [List.foldl_append]
  show orI (unionI a) _ = _
  exact or_rest h1 h3 hu.1 hu.2
theorem law_whether_twice (ha : issueOkB t a = true) : whetherL t (whetherL t a) = whetherL t a := by
  have hw := whether_ok ha
  rw [whether_eq hw, law_not hw, law_whether_all ha]
  have hz : issueOkB t [allOf t - allOf t] = true := by
    obtain ⟨h1, h3⟩ := issue_things ha
    rw [show allOf t - allOf t = 0 by omega]; exact zero_issue h1 h3
  refine any_ext (either_ok hw hz) hw fun s h0 _ => ?_
  rw [either_any hw hz h0, any_one, show allOf t - allOf t = 0 by omega]
  cases h : anyWithin s (whetherL t a)
  · cases h2 : withinB s 0
    · rfl
    · rw [(within_nothing h0).1 h2] at h
      obtain ⟨y, hy⟩ := List.exists_mem_of_ne_nil _ (issue_nonempty hw)
      rw [any_iff.2 ⟨y, hy, within_zero y⟩] at h; cases h
  · rfl
theorem law_whether_follows (ha : issueOkB t a = true) : followsB t a (whetherL t a) = true := by
  rw [follows_iff ha (whether_ok ha), whether_eq ha]
  intro s h0 _ h
  rw [either_any ha (not_ok ha) h0, h]; rfl
theorem law_follows_both (ha : issueOkB t a = true) (hb : issueOkB t b = true) : decide (bothL t a b = a) = followsB t a b := by
  rw [Bool.eq_iff_iff, decide_eq_true_eq, follows_iff ha hb]
  constructor
  · intro h s h0 _ hs
    have := both_any ha hb h0
    rw [h, hs] at this
    simpa using this.symm
  · intro h
    refine any_ext (both_ok ha hb) ha fun s h0 hs => ?_
    rw [both_any ha hb h0]
    cases hsa : anyWithin s a
    · rfl
    · rw [h s h0 hs hsa]; rfl
theorem law_follows_if (ha : issueOkB t a = true) (hb : issueOkB t b = true) : settlesB t (ifL t a b) (allOf t) = followsB t a b := by
  have hal := allOf_lt t
  obtain ⟨h1, h3⟩ := issue_things ha
  rw [settles_any (if_ok ha hb) hal.1 (Int.le_refl _), if_any ha hb hal.1 (Int.le_refl _), Bool.eq_iff_iff, good_iff, follows_iff ha hb]
  constructor
  · exact fun h s h0 hs hsa => h s h0 ((within_all h1 h3 h0).2 hs) hsa
  · exact fun h u hu hw hua => h u hu (within_le hw hal.1) hua
end
end Go.Proofs.Ytmdpolllmipppaa

namespace Go.Proofs.Ytmdpolllmipppaa
open Go.RowKit

/-- A slice of numbers that came in: its length, its capacity, what it reads as. -/
structure Row (w : World) (A : Option Addr) (n c : Nat) (xs : List Int) : Prop where
  hn : n = xs.length
  hl : n ≤ 1048576
  hc : n ≤ c
  hm : c ≤ maxLen
  hA : Nums .i64 w A xs
theorem Row.below {w w' : World} {A : Option Addr} {n c : Nat} {xs : List Int} (h : Row w A n c xs) (hb : Below w.heap.size w w') : Row w' A n c xs := ⟨h.hn, h.hl, h.hc, h.hm, h.hA.below hb⟩

theorem Row.drewN {w : World} {A : Option Addr} {n c : Nat} {xs : List Int} (h : Row w A n c xs) (m : Nat) : Row (w.drewN m) A n c xs := ⟨h.hn, h.hl, h.hc, h.hm, h.hA⟩

def okTwo (t : Int) (a b : List Int) : Bool := issueOkB t a && issueOkB t b
set_option maxHeartbeats 1000000 in
theorem iIssuesOk (t : Int) (A B : Option Addr) (na ca nb cb : Nat) (a b : List Int) (w : World) (ha : Row w A na ca a) (hb : Row w B nb cb b) :
    Calls Try.prog 97 #[.int .i64 t, .slice A na ca, .slice B nb cb] w fun e w' => e = .returned (.bool (okTwo t a b)) ∧ ∃ n, w' = w.drewN n := by
  have HA := Lib.hid ha
  have HB := Lib.hid hb
  clear ha hb
  obtain ⟨x, HX⟩ : ∃ x, Hid (issueOkB t a = x) := ⟨_, rfl⟩
  obtain ⟨y, HY⟩ : ∃ y, Hid (issueOkB t b = y) := ⟨_, rfl⟩
  have HF : Hid (okTwo t a b = (x && y)) := by unfold Hid okTwo; rw [HX.out, HY.out]
  cases x
  · go_enter Try.func97, Try.ntmps97
    go_wp2_with fail
    refine (iIssueOk_is HX _ _ _ _ HA.out.hn HA.out.hl HA.out.hc HA.out.hm HA.out.hA).mono ?_
    rintro e w' ⟨rfl, m1, rfl⟩
    go_wp2_with fail
    go_ret
    exact ⟨ret_bool HF.out.symm, _, rfl⟩
  · go_enter Try.func97, Try.ntmps97
    go_wp2_with fail
    refine (iIssueOk_is HX _ _ _ _ HA.out.hn HA.out.hl HA.out.hc HA.out.hm HA.out.hA).mono ?_
    rintro e w' ⟨rfl, m2, rfl⟩
    go_wp2_with fail
    refine (iIssueOk_is HY _ _ _ _ HB.out.hn HB.out.hl HB.out.hc HB.out.hm (by exact HB.out.hA)).mono ?_
    rintro e w' ⟨rfl, m3, rfl⟩
    go_wp2_with fail
    go_ret
    exact ⟨ret_bool (by rw [HF.out]; rfl), _, rfl⟩
theorem iIssuesOk_is {t : Int} {a b : List Int} {x : Bool} (h : Hid (okTwo t a b = x)) {A B : Option Addr} {na ca nb cb : Nat} {w : World} (ha : Row w A na ca a) (hb : Row w B nb cb b) :
    Calls Try.prog 97 #[.int .i64 t, .slice A na ca, .slice B nb cb] w fun e w' => e = .returned (.bool x) ∧ ∃ n, w' = w.drewN n :=
  (iIssuesOk t A B na ca nb cb a b w ha hb).mono fun _ _ ⟨he, hw⟩ => ⟨he.trans (ret_bool h.out), hw⟩
theorem okTwo_ok {t : Int} {a b : List Int} (h : okTwo t a b = true) : issueOkB t a = true ∧ issueOkB t b = true := by unfold okTwo at h; rwa [Bool.and_eq_true] at h

theorem iWithinAny_is {s : Int} {xs : List Int} {v : Bool} (h : Hid (anyWithin s xs = v)) (A : Option Addr) (n c : Nat) (w : World) (hn : n = xs.length) (hs : 0 ≤ s) (hs2 : s < 256) (hr : ∀ x ∈ xs, 0 ≤ x ∧ x < 256) (hl : n ≤ 1048576) (hA : Nums .i64 w A xs) :
    Calls Try.prog 59 #[.int .i64 s, .slice A n c] w fun e w' => e = .returned (.bool v) ∧ w = w' :=
  (iWithinAny s A n c xs w hn hs hs2 hr hl hA).mono fun _ _ ⟨he, hw⟩ => ⟨he.trans (ret_bool h.out), hw⟩

theorem good_nil (b : List Int) (s : Int) : goodB [] b s = true := rfl
theorem good_snoc {a b : List Int} {s x : Int} {k : Nat} (hx : Hid (a[k]? = some x)) : goodB (a.take (k + 1)) b s = (goodB (a.take k) b s && anyWithin (andI s x) b) := by
  unfold goodB; rw [take_snoc hx, List.all_append]; simp
theorem good_miss {a b : List Int} {s x : Int} {k : Nat} (hx : Hid (a[k]? = some x)) (h : anyWithin (andI s x) b = false) : goodB a b s = false := by
  unfold goodB; rw [List.all_eq_false]; exact ⟨x, elem_mem hx, by rw [h]; simp⟩

set_option maxHeartbeats 1000000 in
theorem iCarries (s : Int) (A B : Option Addr) (na ca nb cb : Nat) (a b : List Int) (w : World) (hs : 0 ≤ s) (hs2 : s < 256) (ha : Row w A na ca a) (hb : Row w B nb cb b) (hra : ∀ x ∈ a, 0 ≤ x ∧ x < 256) (hrb : ∀ x ∈ b, 0 ≤ x ∧ x < 256) :
    Calls Try.prog 108 #[.int .i64 s, .slice A na ca, .slice B nb cb] w fun e w' => e = .returned (.bool (goodB a b s)) ∧ w = w' := by
  have HA := Lib.hid ha
  have HB := Lib.hid hb
  have HRA := Lib.hid hra
  have HRB := Lib.hid hrb
  obtain rfl := ha.hn
  have hla := ha.hl
  clear ha hb hra hrb
  go_enter Try.func108, Try.ntmps108
  go_wp2
  go_loop [11] (fun i => ∃ k : Nat, k ≤ a.length ∧ i = .int .i64 k ∧ Hid (goodB (a.take k) b s = true)) (fun i => a.length - (intOf i).toNat)
  case atStart => exact ⟨0, Nat.zero_le _, rfl, rfl⟩
  case round =>
    obtain ⟨k, hk, rfl, hsofar⟩ := hrel
    by_cases hlt : k < a.length
    · obtain ⟨bb, off, x, rfl, hcell, hx, _⟩ := HA.out.hA.elem hlt
      obtain ⟨he1, he2⟩ := HRA.out x (elem_mem hx)
      have HBI := Lib.hid (bits_and s x hs (by omega) he1 (by omega))
      have hand0 := andI_nonneg s x
      have hand1 := andI_le s x hs
      rcases hw : anyWithin (andI s x) b with _ | _
      · have HW := Lib.hid hw
        clear hw
        go_wp2_with fail
        rw [HBI.out]
        refine (iWithinAny_is HW _ _ _ _ HB.out.hn hand0 (by omega) HRB.out HB.out.hl HB.out.hA).mono ?_
        rintro e w' ⟨rfl, rfl⟩
        go_wp2_with fail
        go_ret
        exact ⟨ret_bool (by rw [good_miss hx HW.out]), rfl⟩
      · have HW := Lib.hid hw
        clear hw
        go_wp2_with fail
        rw [HBI.out]
        refine (iWithinAny_is HW _ _ _ _ HB.out.hn hand0 (by omega) HRB.out HB.out.hl HB.out.hA).mono ?_
        rintro e w' ⟨rfl, rfl⟩
        go_wp2_with fail
        go_round
        case rel => exact ⟨k + 1, by omega, by go_num, by unfold Hid; rw [good_snoc hx, hsofar.out, HW.out]; rfl⟩
        case measure => simp [intOf]; omega
    · obtain rfl : k = a.length := by omega
      go_wp2
      go_ret
      exact ⟨ret_bool (by rw [← hsofar.out, List.take_length]), rfl⟩

set_option maxHeartbeats 1000000 in
theorem sL2Settles (A : Option Addr) (n c : Nat) (xs : List Int) (s : Int) (w : World) (hn : n = xs.length) (hs : 0 ≤ s) (hs2 : s < 256) (hr : ∀ x ∈ xs, 0 ≤ x ∧ x < 256) (hl : n ≤ 1048576) (hA : Nums .i64 w A xs) :
    Calls Try.prog 99 #[.slice A n c, .int .i64 s] w fun e w' => e = .returned (.bool (anyWithin s xs)) ∧ ∃ n, w' = w.drewN n := by
  subst hn
  have HA := Lib.hid hA
  have HR := Lib.hid hr
  clear hA hr
  go_enter Try.func99, Try.ntmps99
  go_wp2
  go_loopw [5] (fun i wr => ∃ k : Nat, k ≤ xs.length ∧ i = .int .i64 k ∧ Hid (anyWithin s (xs.take k) = false) ∧ ∃ n, wr = w.drewN n) (fun i _ => xs.length - (intOf i).toNat)
  case atStart => exact ⟨0, Nat.zero_le _, rfl, rfl, 0, rfl⟩
  case round =>
    obtain ⟨k, hk, rfl, hsofar, n, rfl⟩ := hrel
    by_cases hlt : k < xs.length
    · obtain ⟨b, off, x, rfl, hcell, hx, _⟩ := HA.out.elem hlt
      obtain ⟨he1, he2⟩ := HR.out x (elem_mem hx)
      rcases hw : withinB s x with _ | _
      · have HW := Lib.hid hw
        clear hw
        go_wp2_with fail
        refine (sWithin_is HW hs hs2 he1 he2 _).mono ?_
        rintro e w' ⟨rfl, m1, rfl⟩
        go_wp2_with fail
        go_roundw
        case rel => exact ⟨k + 1, by omega, by go_num, by unfold Hid; rw [anyWithin_snoc hx, hsofar.out, HW.out]; rfl, _, rfl⟩
        case measure => simp [intOf]; omega
      · have HW := Lib.hid hw
        clear hw
        go_wp2_with fail
        refine (sWithin_is HW hs hs2 he1 he2 _).mono ?_
        rintro e w' ⟨rfl, m2, rfl⟩
        go_wp2_with fail
        go_ret
        exact ⟨ret_bool (by rw [anyWithin_hit hx HW.out]), _, rfl⟩
    · obtain rfl : k = xs.length := by omega
      have HN : Hid (anyWithin s xs = false) := by unfold Hid; rw [← hsofar.out, List.take_length]
      clear hsofar
      go_wp2
      go_ret
      exact ⟨ret_bool (by rw [HN.out]), _, rfl⟩
theorem sL2Settles_is {s : Int} {xs : List Int} {v : Bool} (h : Hid (anyWithin s xs = v)) (A : Option Addr) (n c : Nat) (w : World) (hn : n = xs.length) (hs : 0 ≤ s) (hs2 : s < 256) (hr : ∀ x ∈ xs, 0 ≤ x ∧ x < 256) (hl : n ≤ 1048576) (hA : Nums .i64 w A xs) :
    Calls Try.prog 99 #[.slice A n c, .int .i64 s] w fun e w' => e = .returned (.bool v) ∧ ∃ n, w' = w.drewN n :=
  (sL2Settles A n c xs s w hn hs hs2 hr hl hA).mono fun _ _ ⟨he, hw⟩ => ⟨he.trans (ret_bool h.out), hw⟩

theorem follows_eq {t : Int} {a b : List Int} : followsB t a b = (okTwo t a b && a.all fun x => anyWithin x b) := rfl
theorem allAny_snoc {a b : List Int} {x : Int} {k : Nat} (hx : Hid (a[k]? = some x)) : ((a.take (k + 1)).all fun x => anyWithin x b) = (((a.take k).all fun x => anyWithin x b) && anyWithin x b) := by
  rw [take_snoc hx, List.all_append]; simp
theorem allAny_miss {a b : List Int} {x : Int} {k : Nat} (hx : Hid (a[k]? = some x)) (h : anyWithin x b = false) : (a.all fun x => anyWithin x b) = false := by
  rw [List.all_eq_false]; exact ⟨x, elem_mem hx, by rw [h]; simp⟩

set_option maxHeartbeats 1000000 in
theorem iFollows (t : Int) (A B : Option Addr) (na ca nb cb : Nat) (a b : List Int) (w : World) (ha : Row w A na ca a) (hb : Row w B nb cb b) :
    Calls Try.prog 69 #[.int .i64 t, .slice A na ca, .slice B nb cb] w fun e w' => e = .returned (.bool (followsB t a b)) ∧ ∃ n, w' = w.drewN n := by
  have HA := Lib.hid ha
  have HB := Lib.hid hb
  obtain rfl := ha.hn
  have hla := ha.hl
  clear ha hb
  obtain ⟨x, HX⟩ : ∃ x, Hid (okTwo t a b = x) := ⟨_, rfl⟩
  have HF : Hid (followsB t a b = (x && a.all fun x => anyWithin x b)) := by unfold Hid; rw [follows_eq, HX.out]
  cases x
  · go_enter Try.func69, Try.ntmps69
    go_wp2_with fail
    refine (iIssuesOk_is HX HA.out HB.out).mono ?_
    rintro e w' ⟨rfl, m1, rfl⟩
    go_wp2_with fail
    go_ret
    exact ⟨ret_bool (by rw [HF.out]; rfl), _, rfl⟩
  · have HRA := Lib.hid (issue_range (okTwo_ok HX.out).1)
    have HRB := Lib.hid (issue_range (okTwo_ok HX.out).2)
    go_enter Try.func69, Try.ntmps69
    go_wp2_with fail
    refine (iIssuesOk_is HX HA.out HB.out).mono ?_
    rintro e w' ⟨rfl, m2, rfl⟩
    go_wp2_with fail
    go_loopw [16] (fun i wr => ∃ k : Nat, k ≤ a.length ∧ i = .int .i64 k ∧ Hid (((a.take k).all fun x => anyWithin x b) = true) ∧ ∃ n, wr = w.drewN n) (fun i _ => a.length - (intOf i).toNat)
    case atStart => exact ⟨0, Nat.zero_le _, rfl, rfl, _, rfl⟩
    case round =>
      obtain ⟨k, hk, rfl, hsofar, n, rfl⟩ := hrel
      by_cases hlt : k < a.length
      · obtain ⟨bb, off, x, rfl, hcell, hx, _⟩ := HA.out.hA.elem hlt
        obtain ⟨he1, he2⟩ := HRA.out x (elem_mem hx)
        rcases hw : anyWithin x b with _ | _
        · have HW := Lib.hid hw
          clear hw
          go_wp2_with fail
          refine (iWithinAny_is HW _ _ _ _ HB.out.hn he1 he2 HRB.out HB.out.hl (by exact HB.out.hA)).mono ?_
          rintro e w' ⟨rfl, rfl⟩
          go_wp2_with fail
          go_ret
          exact ⟨ret_bool (by rw [HF.out, allAny_miss hx HW.out]; rfl), _, rfl⟩
        · have HW := Lib.hid hw
          clear hw
          go_wp2_with fail
          refine (iWithinAny_is HW _ _ _ _ HB.out.hn he1 he2 HRB.out HB.out.hl (by exact HB.out.hA)).mono ?_
          rintro e w' ⟨rfl, rfl⟩
          go_wp2_with fail
          go_roundw
          case rel => exact ⟨k + 1, by omega, by go_num, by unfold Hid; rw [allAny_snoc hx, hsofar.out, HW.out]; rfl, _, rfl⟩
          case measure => simp [intOf]; omega
      · obtain rfl : k = a.length := by omega
        have HN : Hid ((a.all fun x => anyWithin x b) = true) := by unfold Hid; rw [← hsofar.out, List.take_length]
        clear hsofar
        go_wp2
        go_ret
        exact ⟨ret_bool (by rw [HF.out, HN.out]; rfl), _, rfl⟩
end Go.Proofs.Ytmdpolllmipppaa

namespace Go.Proofs.Ytmdpolllmipppaa
open Go.RowKit

theorem Owns.row {w : World} {base : Nat} {A : Option Addr} {n c : Nat} {xs : List Int} (h : Owns w base (.slice A n c) xs) (hl : xs.length ≤ 1048576) : Row w A n c xs := by
  obtain ⟨A', c', e, hc, hm, hn, _⟩ := h.form
  simp only [Value.slice.injEq] at e
  obtain ⟨rfl, rfl, rfl⟩ := e
  exact ⟨rfl, hl, hc, hm, hn⟩
def bothTo (a b : List Int) (k j : Nat) : List Int := ((a.take k).flatMap fun x => b.map fun y => andI x y) ++ (match a[k]? with | some x => (b.take j).map fun y => andI x y | none => [])
theorem bothTo_zero (a b : List Int) : bothTo a b 0 0 = [] := by unfold bothTo; cases a[0]? <;> simp
theorem bothTo_in {a b : List Int} {k j : Nat} {x y : Int} (hx : Hid (a[k]? = some x)) (hy : Hid (b[j]? = some y)) : bothTo a b k (j + 1) = bothTo a b k j ++ [andI x y] := by
  unfold bothTo; rw [hx.out]; simp only []; rw [take_snoc hy]; simp
theorem bothTo_out {a b : List Int} {k : Nat} {x : Int} (hx : Hid (a[k]? = some x)) : bothTo a b (k + 1) 0 = bothTo a b k b.length := by
  unfold bothTo; rw [hx.out, take_snoc hx]; simp only [List.take_length, List.take_zero, List.map_nil]
  cases a[k + 1]? <;> simp
theorem bothTo_end (a b : List Int) : bothTo a b a.length 0 = bothX a b := by
  unfold bothTo bothX; rw [List.take_length]; simp
theorem bothX_len (a b : List Int) : (bothX a b).length = a.length * b.length := by
  unfold bothX
  induction a with
  | nil => simp
  | cons x r ih => rw [List.flatMap_cons, List.length_append, ih, List.length_map, List.length_cons, Nat.succ_mul]; omega
theorem bothTo_len (a b : List Int) (k j : Nat) (hk : k ≤ a.length) : (bothTo a b k j).length ≤ (k + 1) * b.length := by
  unfold bothTo
  rw [List.length_append]
  have h1 : ((a.take k).flatMap fun x => b.map fun y => andI x y).length = k * b.length := by
    have := bothX_len (a.take k) b
    unfold bothX at this
    rw [this, List.length_take, Nat.min_eq_left hk]
  rw [h1, Nat.succ_mul]
  refine Nat.add_le_add_left ?_ _
  cases a[k]? with
  | none => simp
  | some x => simp only [List.length_map, List.length_take]; omega
theorem bothTo_small {a b : List Int} (ha : a.length ≤ 70) (hb : b.length ≤ 70) (k j : Nat) (hk : k ≤ a.length) : (bothTo a b k j).length ≤ 4970 :=
  Nat.le_trans (bothTo_len a b k j hk) (Nat.le_trans (Nat.mul_le_mul (show k + 1 ≤ 71 by omega) hb) (by omega))
theorem both_nil {t : Int} {a b : List Int} (h : okTwo t a b = false) : bothL t a b = [] := by
  unfold okTwo at h; unfold bothL; rw [h]; rfl
theorem bel_none {B : Nat} {a w w' : World} (h : Below B a w) (hg : w.grownBy w' none) (hB : B ≤ w.heap.size) : Below B a w' :=
  h.grown hg hB (fun k e => by cases e)

set_option maxRecDepth 100000 in
set_option maxHeartbeats 4000000 in
theorem iBothIssues (t : Int) (A B : Option Addr) (na ca nb cb : Nat) (a b : List Int) (w : World) (ha : Row w A na ca a) (hb : Row w B nb cb b) :
    Calls Try.prog 81 #[.int .i64 t, .slice A na ca, .slice B nb cb] w fun e w' => ∃ v, e = .returned v ∧ Owns w' w.heap.size v (bothL t a b) ∧ Below w.heap.size w w' := by
  have HA := Lib.hid ha
  have HB := Lib.hid hb
  obtain rfl := ha.hn
  obtain rfl := hb.hn
  clear ha hb
  obtain ⟨x, HX⟩ : ∃ x, Hid (okTwo t a b = x) := ⟨_, rfl⟩
  cases x
  · have HF := Lib.hid (both_nil HX.out)
    go_enter Try.func81, Try.ntmps81
    go_wp2_with fail
    refine (iIssuesOk_is HX HA.out HB.out).mono ?_
    rintro e w' ⟨rfl, m1, rfl⟩
    go_wp2_with fail
    go_ret
    exact ⟨_, rfl, by rw [HF.out]; exact Owns.nil _ _, bel_drewN (Below.refl _ _) _⟩
  · obtain ⟨h1, h2⟩ := okTwo_ok HX.out
    obtain ⟨hla, hla2⟩ := issue_ne h1
    obtain ⟨hlb, hlb2⟩ := issue_ne h2
    have HRA := Lib.hid (issue_range h1)
    have HRB := Lib.hid (issue_range h2)
    have HF := Lib.hid (both_eq h1 h2)
    have HS := Lib.hid (sets_range (bothX_sets (b := b) h1))
    obtain ⟨p, hp⟩ : ∃ p, p = a.length * b.length := ⟨_, rfl⟩
    have hp2 : p ≤ 4900 := by rw [hp]; exact Nat.le_trans (Nat.mul_le_mul hla2 hlb2) (by omega)
    have hp1 : 1 ≤ p := by rw [hp]; exact Nat.mul_pos hla hlb
    have HP : Hid ((a.length : Int) * (b.length : Int) = (p : Int)) := by unfold Hid; rw [hp]; push_cast; rfl
    have HP2 : Hid ((bothX a b).length = p) := by unfold Hid; rw [hp]; exact bothX_len a b
    obtain ⟨i0, hi, hz0, hz1, hz2⟩ := info_parts int_info
    clear hp h1 h2
    go_enter Try.func81, Try.ntmps81
    go_wp2_with fail
    refine (iIssuesOk_is HX HA.out HB.out).mono ?_
    rintro e w' ⟨rfl, m2, rfl⟩
    go_wp2_with (at_make; refine wpList_make_own _ rfl _ _ 25 rfl w.heap.size 3 i0 (.int .i64 0) 1 Try.underlying25 hi hz0 hz1 .i64 .i64 _ p rfl rfl (by rw [HP.out]; exact IntWalk.wrap64_in _ ⟨by omega, by omega⟩) (by rw [hz2]; omega) (by unfold maxLen; omega) (Nat.le_refl _) ?_; intro w1 hown1 hgrow1)
    clear hi hz0 hz1 hz2 HP
    have HB1 : Hid (Below w.heap.size w w1) := bel_none (w := w.drewN m2) (bel_drewN (Below.refl _ _) _) hgrow1 (Nat.le_refl _)
    have HO1 : Hid (Owns w1 w.heap.size (.slice (some ⟨w.heap.size, 0, none⟩) 0 p) []) := hown1
    clear hown1 hgrow1
    go_loopw [7, 25] (fun v i wr => ∃ k : Nat, k ≤ a.length ∧ i = .int .i64 k ∧ Owns wr w.heap.size v (bothTo a b k 0) ∧ Below w.heap.size w wr) (fun _ i _ => a.length - (Go.RowKit.intOf i).toNat)
    case atStart => exact ⟨0, Nat.zero_le _, rfl, by rw [bothTo_zero]; exact HO1.out, HB1.out⟩
    case round =>
      obtain ⟨k, hk, rfl, hown, hbel⟩ := hrel
      have HOW := Lib.hid hown
      have HBW := Lib.hid hbel
      clear hown hbel
      by_cases hlt : k < a.length
      · obtain ⟨bb, off, x, rfl, hcell, hx, _⟩ := (HA.out.hA.below HBW.out).elem hlt
        obtain ⟨he1, he2⟩ := HRA.out x (elem_mem hx)
        go_wp2_with fail
        clear hcell
        go_loopw [7, 31] (fun v i wi => ∃ j : Nat, j ≤ b.length ∧ i = .int .i64 j ∧ Owns wi w.heap.size v (bothTo a b k j) ∧ Below w.heap.size w wi) (fun _ i _ => b.length - (Go.RowKit.intOf i).toNat)
        case atStart => exact ⟨0, Nat.zero_le _, rfl, HOW.out, HBW.out⟩
        case round =>
          obtain ⟨j, hj, rfl, hown, hbel⟩ := hrel
          have HOI := Lib.hid hown
          have HBI := Lib.hid hbel
          clear hown hbel
          by_cases hjt : j < b.length
          · obtain ⟨bb2, off2, y, rfl, hcell, hy, _⟩ := (HB.out.hA.below HBI.out).elem hjt
            obtain ⟨hf1, hf2⟩ := HRB.out y (elem_mem hy)
            have HBA := Lib.hid (bits_and x y he1 (by omega) hf1 (by omega))
            have HT := Lib.hid (bothTo_in hx hy)
            have hsm := bothTo_small hla2 hlb2 k j hk
            go_wp2_with (at_builtin; refine wp_append1 (W := wr) rfl _ _ rfl w.heap.size u7 (bothTo a b k j) rfl HOI.out _ rfl (by omega) HBI.out.size ?_; intro v' w' hown' hgrow)
            have hb' := below_append HBI.out HBI.out.size HOI.out (Nat.le_refl _) hgrow
            rw [HBA.out] at hown'
            go_roundw
            case rel => exact ⟨j + 1, by omega, by go_num, by rw [HT.out]; exact hown', hb'⟩
            case measure => simp [Go.RowKit.intOf]; omega
          · obtain rfl : j = b.length := by omega
            have HT := Lib.hid (bothTo_out (b := b) hx)
            go_wp2_with fail
            go_roundw
            case rel => exact ⟨k + 1, by omega, by go_num, by rw [HT.out]; exact HOI.out, HBI.out⟩
            case measure => simp [Go.RowKit.intOf]; omega
      · obtain rfl : k = a.length := by omega
        have HE : Hid (bothTo a b a.length 0 = bothX a b) := bothTo_end a b
        rw [HE.out] at HOW
        obtain ⟨A1, c1, rfl, hc1, hm1, hn1, _⟩ := HOW.out.form
        have HN1 := Lib.hid hn1
        have hpos : 1 ≤ (bothX a b).length := by rw [HP2.out]; exact hp1
        have hle : (bothX a b).length ≤ 1048576 := by rw [HP2.out]; omega
        clear hm1 hn1
        go_wp2_with fail
        refine (iGreatest _ _ _ (bothX a b) _ rfl hpos hle HS.out HN1.out).mono ?_
        rintro e w2 ⟨v, rfl, ho, hb⟩
        have HO2 := Lib.hid ho
        have HB2 := Lib.hid (bel_trans HBW.out hb)
        have hsz := HBW.out.size
        clear ho hb
        go_wp2_with fail
        go_ret
        exact ⟨_, rfl, by rw [HF.out]; exact HO2.out.base hsz, HB2.out⟩
end Go.Proofs.Ytmdpolllmipppaa

namespace Go.Proofs.Ytmdpolllmipppaa
open Go.RowKit

theorem wp_appendL {W : World} {ops : Array Oper} {rest : List Oper} {o : Oper} {a : Act} {Q : Exit → Act → World → Prop} (hgd : o.guard = none) (s x : Operand)
    (ho : o.op = .call { callee := .builtin .append, args := #[s, x], argTypes := #[25, 25] }) (base : Nat) (v : Value) (xs : List Int) (hs : a.eval s = v) (hown : Owns W base v xs)
    (ys : List Int) (ad : Option Addr) (m c : Nat) (hx : a.eval x = .slice ad m c) (hm : m = ys.length) (hpos : 1 ≤ m) (hn : Nums .i64 W ad ys) (hl : xs.length + m ≤ 1048576) (hb : base ≤ W.heap.size)
    (h : ∀ v' w', Owns w' base v' (xs ++ ys) → W.grownBy w' v.ownBlock → wpList Try.prog ops Q rest (a.put o.dst v') w') :
    wpList Try.prog ops Q (o :: rest) a W := by
  subst hm
  obtain ⟨i0, hi0, hz0, hz1, hz2⟩ := info_parts int_info
  obtain ⟨b, off, rfl, _, hc⟩ := hn hpos
  refine wpList_append_own _ hgd s x 25 ho base 3 i0 (.int .i64 0) 1 8 Try.underlying25 hi0 hz0 hz1 hz2 rfl (by decide) v xs.length (xs.map (Value.int .i64)) hs hown
    ⟨b, off, none⟩ ys.length c (ys.map (Value.int .i64)) hx (by simp) ?_ (fun u hu => ?_) (by simp only [maxLen]; omega) (by omega) hb ?_
  · intro j u hj
    rw [List.getElem?_map] at hj
    obtain ⟨y, hy, rfl⟩ := Option.map_eq_some_iff.1 hj
    obtain ⟨hlt, he⟩ := List.getElem?_eq_some_iff.1 hy
    have := hc j hlt
    have e : (⟨b, off, none⟩ : Addr).add j = ⟨b, off + j, none⟩ := by unfold Addr.add; split <;> simp_all
    rw [e, this, List.getD_eq_getElem?_getD, hy]; rfl
  · obtain ⟨y, _, rfl⟩ := List.mem_map.1 hu; rfl
  · intro v' w' h1 h2 _
    refine h v' w' ?_ h2
    unfold Owns
    rw [List.map_append, List.length_append]
    exact h1
theorem below_appendL {B : Nat} {a W w' : World} {base : Nat} {v : Value} {xs : List Int} (h : Below B a W) (hB : B ≤ W.heap.size) (hown : Owns W base v xs) (hbase : B ≤ base) (hg : W.grownBy w' v.ownBlock) : Below B a w' :=
  h.grown hg hB fun k e => by have := (World.ownsRow.lt hown k e).1; omega

set_option maxRecDepth 100000 in
set_option maxHeartbeats 1000000 in
theorem iGrow (m : Int) (n : Nat) (hmn : m = (n : Int)) (w : World) (h1 : 1 ≤ n) (hl : n ≤ 1048576) :
    Calls Try.prog 119 #[.slice none 0 0, .int .i64 m] w fun e w' => ∃ v, e = .returned v ∧ Owns w' w.heap.size v [] ∧ Below w.heap.size w w' := by
  subst hmn
  obtain ⟨i0, hi, hz0, hz1, hz2⟩ := info_parts int_info
  have happ := Lib.run_append_nil_zeros (P := Try.prog) w 25 3 25 3 i0 (.int .i64 0) .i64 .i64 Try.underlying25 Try.underlying3 hi hz0 n (by omega) (by omega) (by omega) (by rw [hz2]; omega)
  obtain ⟨cap, hcap⟩ : ∃ c, c = grownCap w n 0 3 := ⟨_, rfl⟩
  have hc1 : n ≤ cap := by rw [hcap]; exact grownCap_ge _ _ _ _
  have hc2 : cap ≤ maxLen := by rw [hcap]; exact grownCap_le_maxLen _ _ _ _ (by simp only [maxLen]; omega)
  rw [← hcap] at happ
  obtain ⟨M, hM⟩ : ∃ M, M = Builtin.zeroCells (Value.int .i64 0).cells n ++ Builtin.zeroCells (Value.int .i64 0).cells (cap - n) := ⟨_, rfl⟩
  have hMs : M.size = cap * 1 := by rw [hM, Array.size_append, size_zeroCells, size_zeroCells]; show n * 1 + (cap - n) * 1 = cap * 1; omega
  rw [← hM] at happ
  have hown : Hid (Owns ((w.drew).alloc (.cells M 3)) w.heap.size (.slice (some ⟨w.heap.size, 0, none⟩) 0 cap) []) := World.ownsRow_made w.drew M cap (Nat.le_refl _) hc2 hMs
  have hbel : Hid (Below w.heap.size w ((w.drew).alloc (.cells M 3))) := (bel_drewN (Below.refl _ w) 1).alloc (Nat.le_refl _) _
  have HAPP := Lib.hid happ
  have hc3 : cap ≤ 9223372036854775807 := by unfold maxLen at hc2; omega
  clear hM hMs hcap happ hi hz0 hz1 hz2 hc2
  go_enter Try.func119, Try.ntmps119
  go_wp2_with (at_builtin; refine Lib.wpList_append_run _ rfl _ _ _ _ rfl _ _ rfl rfl _ _ HAPP.out ?_)
  go_ret
  exact ⟨_, rfl, hown.out, hbel.out⟩

set_option maxRecDepth 100000 in
set_option maxHeartbeats 2000000 in
theorem iConcat (g : Nat) (A B : Option Addr) (na ca nb cb : Nat) (a b : List Int) (w : World) (hg : g < w.heap.size) (h0 : w.cell? ⟨g, 0, none⟩ = some (.slice A na ca)) (h1 : w.cell? ⟨g, 1, none⟩ = some (.slice B nb cb))
    (ha : Row w A na ca a) (hb : Row w B nb cb b) (hla : 1 ≤ na) (hlb : 1 ≤ nb) (hl : na + nb ≤ 1000000) :
    Calls Try.prog 107 #[.slice (some ⟨g, 0, none⟩) 2 2] w fun e w' => ∃ v, e = .returned v ∧ Owns w' w.heap.size v (a ++ b) ∧ Below w.heap.size w w' := by
  have HA := Lib.hid ha
  have HB := Lib.hid hb
  obtain rfl := ha.hn
  obtain rfl := hb.hn
  clear ha hb
  have HG := Lib.hid hg
  have HC : Hid (∀ W, Below w.heap.size w W → W.cell? ⟨g, 0, none⟩ = some (.slice A a.length ca) ∧ W.cell? ⟨g, 1, none⟩ = some (.slice B b.length cb)) := fun W h => ⟨(h.cell (p := ⟨g, 0, none⟩) hg).trans h0, (h.cell (p := ⟨g, 1, none⟩) hg).trans h1⟩
  go_enter Try.func107, Try.ntmps107
  go_wp2_with fail
  refine wp_loop_rounds 3 ?_
  rw [rounds_succ]
  go_wp2_with fail
  rw [rounds_succ]
  go_wp2_with fail
  rw [rounds_succ]
  go_wp2_with fail
  refine (iGrow _ (a.length + b.length) (by omega) _ (by omega) (by omega)).mono ?_
  rintro e w1 ⟨v, rfl, ho, hb⟩
  have HO1 := Lib.hid ho
  have HB1 := Lib.hid hb
  have hsz1 := hb.size
  obtain ⟨hc0, hc1⟩ := HC.out _ hb
  have HN1 := Lib.hid (HA.out.hA.below hb)
  clear ho hb
  go_wp2_with fail
  refine wp_loop_rounds 3 ?_
  rw [rounds_succ]
  go_wp2_with (at_builtin; refine wp_appendL rfl _ _ rfl w.heap.size _ [] rfl HO1.out a A a.length ca rfl rfl hla HN1.out (by simp; omega) (by omega) ?_; intro v2 w2 hown2 hgrow2)
  have HO2 := Lib.hid hown2
  have HB2 := Lib.hid (below_appendL HB1.out hsz1 HO1.out (Nat.le_refl _) hgrow2)
  clear hown2 hgrow2 hc0 hc1
  rw [rounds_succ]
  obtain ⟨hc0, hc1⟩ := HC.out _ HB2.out
  have HN2 := Lib.hid (HB.out.hA.below HB2.out)
  have hsz2 := HB2.out.size
  go_wp2_with (at_builtin; refine wp_appendL rfl _ _ rfl w.heap.size v2 a rfl HO2.out b B b.length cb rfl rfl hlb HN2.out (by omega) (by omega) ?_; intro v3 w3 hown3 hgrow3)
  have HO3 := Lib.hid hown3
  have HB3 := Lib.hid (below_appendL HB2.out hsz2 HO2.out (Nat.le_refl _) hgrow3)
  rw [rounds_succ]
  go_wp2_with fail
  go_ret
  exact ⟨_, rfl, HO3.out, HB3.out⟩
end Go.Proofs.Ytmdpolllmipppaa
