/-
  Plain mathematics: sets within sets, what is granted, who settles what.
-/
import Derived.Test.YtfancfjbipjibaaLaws4
namespace Go.Proofs.Ytfancfjbipjibaa
open Go.RowKit

theorem within_iff {a b : Int} (ha : 0 ≤ a) : withinB a b = true ↔ ∀ i, a.toNat.testBit i = true → b.toNat.testBit i = true := by
  unfold withinB andI
  rw [decide_eq_true_eq]
  constructor
  · intro h i hi
    have h : a.toNat &&& b.toNat = a.toNat := by omega
    have := congrArg (fun x => x.testBit i) h
    simp only [Nat.testBit_and, hi, Bool.true_and] at this
    exact this
  · intro h
    have : a.toNat &&& b.toNat = a.toNat := by
      apply Nat.eq_of_testBit_eq
      intro i
      rw [Nat.testBit_and]
      cases hi : a.toNat.testBit i
      · rfl
      · rw [h i hi]; rfl
    omega
theorem within_trans {a b c : Int} (ha : 0 ≤ a) (hb : 0 ≤ b) (h1 : withinB a b = true) (h2 : withinB b c = true) : withinB a c = true := by
  rw [within_iff ha] at *
  rw [within_iff hb] at h2
  exact fun i hi => h2 i (h1 i hi)
theorem within_anti {a b : Int} (ha : 0 ≤ a) (hb : 0 ≤ b) (h1 : withinB a b = true) (h2 : withinB b a = true) : a = b := by
  have := within_le h1 hb; have := within_le h2 ha; omega
theorem within_or_left (a b : Int) (ha : 0 ≤ a) : withinB a (orI a b) = true := by
  rw [within_iff ha]; intro i hi
  show ((((a.toNat ||| b.toNat : Nat) : Int)).toNat).testBit i = true
  rw [Int.toNat_natCast, Nat.testBit_or, hi]; rfl
theorem within_or_right (a b : Int) (hb : 0 ≤ b) : withinB b (orI a b) = true := by
  rw [within_iff hb]; intro i hi
  show ((((a.toNat ||| b.toNat : Nat) : Int)).toNat).testBit i = true
  rw [Int.toNat_natCast, Nat.testBit_or, hi, Bool.or_true]
theorem or_within {a b c : Int} (ha : 0 ≤ a) (hb : 0 ≤ b) (h1 : withinB a c = true) (h2 : withinB b c = true) : withinB (orI a b) c = true := by
  rw [within_iff (orI_nonneg _ _)]
  rw [within_iff ha] at h1
  rw [within_iff hb] at h2
  intro i hi
  change ((((a.toNat ||| b.toNat : Nat) : Int)).toNat).testBit i = true at hi
  rw [Int.toNat_natCast, Nat.testBit_or, Bool.or_eq_true] at hi
  rcases hi with hi | hi
  · exact h1 i hi
  · exact h2 i hi
theorem fold_within : ∀ (xs : List Int) (a : Int), 0 ≤ a → (∀ x ∈ xs, 0 ≤ x) → withinB a (xs.foldl orI a) = true ∧ (∀ x ∈ xs, withinB x (xs.foldl orI a) = true) ∧ 0 ≤ xs.foldl orI a
  | [], a, ha, _ => ⟨within_refl a ha, by simp, ha⟩
  | y :: r, a, ha, hr => by
    have hy := hr y (by simp)
    obtain ⟨h1, h2, h3⟩ := fold_within r (orI a y) (orI_nonneg _ _) fun x hx => hr x (by simp [hx])
    refine ⟨within_trans ha (orI_nonneg _ _) (within_or_left a y ha) h1, fun x hx => ?_, h3⟩
    rcases List.mem_cons.1 hx with rfl | hx
    · exact within_trans hy (orI_nonneg _ _) (within_or_right a _ hy) h1
    · exact h2 x hx
theorem fold_least : ∀ (xs : List Int) (a c : Int), 0 ≤ a → (∀ x ∈ xs, 0 ≤ x) → withinB a c = true → (∀ x ∈ xs, withinB x c = true) → withinB (xs.foldl orI a) c = true
  | [], _, _, _, _, h, _ => h
  | y :: r, a, c, ha, hr, h, hc =>
    fold_least r (orI a y) c (orI_nonneg _ _) (fun x hx => hr x (by simp [hx])) (or_within ha (hr y (by simp)) h (hc y (by simp))) fun x hx => hc x (by simp [hx])
theorem within_zero (c : Int) : withinB 0 c = true := by unfold withinB andI; simp
theorem mem_union {xs : List Int} (hr : ∀ x ∈ xs, 0 ≤ x) {x : Int} (hx : x ∈ xs) : withinB x (unionI xs) = true := (fold_within xs 0 (by omega) hr).2.1 x hx
theorem union_least {xs : List Int} (hr : ∀ x ∈ xs, 0 ≤ x) {c : Int} (h : ∀ x ∈ xs, withinB x c = true) : withinB (unionI xs) c = true := fold_least xs 0 c (by omega) hr (within_zero c) h
theorem within_all {t x : Int} (ht1 : 1 ≤ t) (ht3 : t ≤ 3) (h0 : 0 ≤ x) : withinB x (allOf t) = true ↔ x ≤ allOf t := by
  constructor
  · exact fun h => within_le h (allOf_lt t).1
  · intro h
    rw [within_iff h0]
    intro i hi
    have key : ∀ n : Nat, x.toNat < 2 ^ n → (2 ^ n - 1).testBit i = true := by
      intro n hn
      rw [Nat.testBit_two_pow_sub_one, decide_eq_true_eq]
      rcases Nat.lt_or_ge i n with h1 | h1
      · exact h1
      · rw [Nat.testBit_lt_two_pow (Nat.lt_of_lt_of_le hn (Nat.pow_le_pow_right (by omega) h1))] at hi
        cases hi
    have : t = 1 ∨ t = 2 ∨ t = 3 := by omega
    rcases this with rfl | rfl | rfl
    · exact key 2 (by simp [allOf] at h; omega)
    · exact key 4 (by simp [allOf] at h; omega)
    · exact key 8 (by simp [allOf] at h; omega)
theorem issue_sets {t : Int} {xs : List Int} (h : issueOkB t xs = true) : ∀ x ∈ xs, setOkB t x = true := by
  have := issue_parts h
  unfold partsOkB at this
  rw [Bool.and_eq_true, List.all_eq_true] at this
  exact this.2
theorem issue_ne {t : Int} {xs : List Int} (h : issueOkB t xs = true) : 1 ≤ xs.length ∧ xs.length ≤ 70 := by
  have := issue_parts h
  unfold partsOkB at this
  rw [Bool.and_eq_true, decide_eq_true_eq] at this
  exact this.1
theorem issue_things {t : Int} {xs : List Int} (h : issueOkB t xs = true) : 1 ≤ t ∧ t ≤ 3 := by
  have h1 := issue_ne h
  cases xs with
  | nil => simp at h1
  | cons x r => have := setOkB_lt (issue_sets h x (by simp)); omega
theorem union_ok {t : Int} {xs : List Int} (h : issueOkB t xs = true) : setOkB t (unionI xs) = true := by
  obtain ⟨h1, h3⟩ := issue_things h
  have hr : ∀ x ∈ xs, 0 ≤ x := fun x hx => (issue_range h x hx).1
  have hu := union_range (issue_range h)
  refine setOk_of h1 h3 hu.1 ((within_all h1 h3 hu.1).1 (union_least hr fun x hx => ?_))
  have := setOkB_lt (issue_sets h x hx)
  exact (within_all h1 h3 (hr x hx)).2 this.2.2.2.1
theorem settles_union {t : Int} {xs : List Int} (h : issueOkB t xs = true) {k : Int} (hs : settlesB t xs k = true) : withinB k (unionI xs) = true := by
  unfold settlesB at hs
  simp only [Bool.and_eq_true] at hs
  obtain ⟨⟨_, h2⟩, h3⟩ := hs
  unfold anyWithin at h3
  rw [List.any_eq_true] at h3
  obtain ⟨x, hx, hkx⟩ := h3
  have hr : ∀ x ∈ xs, 0 ≤ x := fun x hx => (issue_range h x hx).1
  exact within_trans (setOkB_lt h2).2.2.1 (hr x hx) hkx (mem_union hr hx)
theorem settles_granted {t : Int} {xs : List Int} (h : issueOkB t xs = true) : settlesB t xs (unionI xs) = decide (xs.length = 1) := by
  have hr : ∀ x ∈ xs, 0 ≤ x := fun x hx => (issue_range h x hx).1
  have hne := issue_ne h
  unfold settlesB
  rw [h, union_ok h]
  unfold anyWithin
  rw [Bool.eq_iff_iff]
  simp only [Bool.true_and, List.any_eq_true, decide_eq_true_eq]
  constructor
  · rintro ⟨x, hx, hux⟩
    obtain ⟨i, hi, rfl⟩ := List.mem_iff_getElem.1 hx
    have hall : ∀ j (hj : j < xs.length), withinB xs[j] xs[i] = true := fun j hj =>
      within_trans (hr _ (List.getElem_mem hj)) (union_range (issue_range h)).1 (mem_union hr (List.getElem_mem hj)) hux
    have hp : pairB xs = true := by unfold issueOkB at h; rw [Bool.and_eq_true] at h; exact h.2
    have hij : ∀ j, j < xs.length → j = i := by
      intro j hj
      rcases Nat.lt_trichotomy j i with h1 | h1 | h1
      · have := (pair_lt hp h1 (List.getElem?_eq_getElem hj) (List.getElem?_eq_getElem hi)).2.1
        rw [hall j hj] at this; cases this
      · exact h1
      · have := (pair_lt hp h1 (List.getElem?_eq_getElem hi) (List.getElem?_eq_getElem hj)).2.2
        rw [hall j hj] at this; cases this
    have h0 := hij 0 (by omega)
    rcases Nat.lt_or_ge 1 xs.length with h1 | h1
    · have := hij 1 h1; omega
    · omega
  · intro h1
    match xs, h1 with
    | [x], _ =>
      exact ⟨x, by simp, union_least hr fun y hy => by rw [List.mem_singleton] at hy; subst hy; exact within_refl _ (hr _ (by simp))⟩
/-- Two ascending lists of the same elements are the same. -/
theorem asc_ext : ∀ {xs ys : List Int}, xs.Pairwise (· < ·) → ys.Pairwise (· < ·) → (∀ x, x ∈ xs ↔ x ∈ ys) → xs = ys
  | [], [], _, _, _ => rfl
  | [], y :: r, _, _, h => by have := (h y).2 (by simp); simp at this
  | x :: r, [], _, _, h => by have := (h x).1 (by simp); simp at this
  | x :: r, y :: q, hx, hy, h => by
    rw [List.pairwise_cons] at hx hy
    have e : x = y := by
      have h1 := (h x).1 (by simp)
      have h2 := (h y).2 (by simp)
      rcases List.mem_cons.1 h1 with h1 | h1
      · exact h1
      · rcases List.mem_cons.1 h2 with h2 | h2
        · exact h2.symm
        · have := hy.1 x h1; have := hx.1 y h2; omega
    subst e
    congr 1
    refine asc_ext hx.2 hy.2 fun z => ⟨fun hz => ?_, fun hz => ?_⟩
    · rcases List.mem_cons.1 ((h z).1 (by simp [hz])) with e | h1
      · subst e; have := hx.1 z hz; omega
      · exact h1
    · rcases List.mem_cons.1 ((h z).2 (by simp [hz])) with e | h1
      · subst e; have := hy.1 z hz; omega
      · exact h1
/-- Two issues that are settled by the same sets are the same. -/
theorem settles_same {t : Int} {xs ys : List Int} (hx : issueOkB t xs = true) (hy : issueOkB t ys = true) (h : ∀ k, 0 ≤ k → k ≤ allOf t → settlesB t xs k = settlesB t ys k) : xs = ys := by
  have sub : ∀ {xs ys : List Int}, issueOkB t xs = true → issueOkB t ys = true → (∀ k, 0 ≤ k → k ≤ allOf t → settlesB t xs k = settlesB t ys k) → ∀ x ∈ xs, x ∈ ys := by
    intro xs ys hx hy h x hm
    have hsx := setOkB_lt (issue_sets hx x hm)
    have s1 : ∀ {zs : List Int}, issueOkB t zs = true → ∀ {z k : Int}, z ∈ zs → setOkB t k = true → withinB k z = true → settlesB t zs k = true := by
      intro zs hz z k hm hk hw
      unfold settlesB anyWithin
      rw [hz, hk, Bool.true_and, Bool.true_and, List.any_eq_true]
      exact ⟨z, hm, hw⟩
    have s2 : ∀ {zs : List Int}, ∀ {k : Int}, settlesB t zs k = true → ∃ z ∈ zs, withinB k z = true := by
      intro zs k hk
      unfold settlesB anyWithin at hk
      simp only [Bool.and_eq_true, List.any_eq_true] at hk
      exact hk.2
    have hxx := s1 hx hm (issue_sets hx x hm) (within_refl x hsx.2.2.1)
    rw [h x hsx.2.2.1 hsx.2.2.2.1] at hxx
    obtain ⟨y, hmy, hwy⟩ := s2 hxx
    have hsy := setOkB_lt (issue_sets hy y hmy)
    have hyy := s1 hy hmy (issue_sets hy y hmy) (within_refl y hsy.2.2.1)
    rw [← h y hsy.2.2.1 hsy.2.2.2.1] at hyy
    obtain ⟨z, hmz, hwz⟩ := s2 hyy
    have hsz := setOkB_lt (issue_sets hx z hmz)
    have hxz := within_trans hsx.2.2.1 hsy.2.2.1 hwy hwz
    have e : x = z := by
      obtain ⟨i, hi, rfl⟩ := List.mem_iff_getElem.1 hm
      obtain ⟨j, hj, rfl⟩ := List.mem_iff_getElem.1 hmz
      have hp : pairB xs = true := by unfold issueOkB at hx; rw [Bool.and_eq_true] at hx; exact hx.2
      rcases Nat.lt_trichotomy i j with h1 | h1 | h1
      · have := (pair_lt hp h1 (List.getElem?_eq_getElem hi) (List.getElem?_eq_getElem hj)).2.1
        rw [hxz] at this; cases this
      · subst h1; rfl
      · have := (pair_lt hp h1 (List.getElem?_eq_getElem hj) (List.getElem?_eq_getElem hi)).2.2
        rw [hxz] at this; cases this
    subst e
    have := within_anti hsx.2.2.1 hsy.2.2.1 hwy hwz
    rw [this]; exact hmy
  have asc : ∀ {zs : List Int}, issueOkB t zs = true → zs.Pairwise (· < ·) := by
    intro zs hz
    have hp : pairB zs = true := by unfold issueOkB at hz; rw [Bool.and_eq_true] at hz; exact hz.2
    refine (of_decide_eq_true hp).imp ?_
    intro a b hab
    simp [apartB] at hab
    exact hab.1.1
  exact asc_ext (asc hx) (asc hy) fun x => ⟨sub hx hy h x, sub hy hx (fun k a b => (h k a b).symm) x⟩
end Go.Proofs.Ytfancfjbipjibaa
