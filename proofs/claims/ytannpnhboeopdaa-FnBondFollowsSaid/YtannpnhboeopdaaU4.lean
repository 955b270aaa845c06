/-
  What the proofs of this seat's statements share (DrawL, MathB, MathC, Shelf, Great, Sperner).
-/
import Derived.Test.YtannpnhboeopdaaProg
import Derived.Lib.SlKeysI
import Derived.Test.YtannpnhboeopdaaU3

namespace Go.Proofs.Ytannpnhboeopdaa
open Go.RowKit

theorem owns_grown {w w' : World} {base g : Nat} {v : Value} {xs : List Int} (h : Owns w base v xs) (hg : w.grownBy w' (some g)) (hb : g < base) : Owns w' base v xs := by
  refine h.kept hg ?_
  cases e : v.ownBlock with
  | none => exact .inl rfl
  | some k =>
    right
    intro e2
    have := (World.ownsRow.lt h k e).1
    injection e2
    omega
theorem rd_append {w W w' : World} {base g u : Nat} {v : Value} {xs : List Int} {o : Obj} (hR : Rd W g u) (hG : w.grownBy W (some g)) (hown : Owns W base v xs) (hb : w.heap.size ≤ base) (hlt : g < w.heap.size)
    (hg : (W.alloc o).grownBy w' v.ownBlock) : Rd w' g u ∧ w.grownBy w' (some g) := by
  have hk : ∀ k, v.ownBlock = some k → w.heap.size ≤ k ∧ k < W.heap.size := fun k e => by have := World.ownsRow.lt hown k e; omega
  have h1 := hR.alloc o
  refine ⟨?_, grown_fresh (grown_alloc hG o) hg fun k e => (hk k e).1⟩
  obtain ⟨A, c, zs, p, a1, a2, a3, a4, a5, a6⟩ := hR
  have hgl : g < W.heap.size := (Array.getElem?_eq_some_iff.1 a1).1
  have a1' : (W.alloc o).heap[g]? = W.heap[g]? := Below.heap_alloc W o g hgl
  refine ⟨A, c, zs, p, (hg.block g (by simp; omega) (fun e => by have := hk g e.symm; omega)).trans (a1'.trans a1), ?_, a3, a4, a5, a6⟩
  exact fun hp => (a2.alloc o).grown hg (fun ad ha e => by have := a6 ad hp ha; have := hk ad.block e.symm; omega) hp

def ListPost (m g u : Nat) (w : World) (e : Ending) (w' : World) : Prop :=
  ∃ (v : Value) (xs : List Int), e = .returned v ∧ Owns w' w.heap.size v xs ∧ xs.length ≤ m ∧ (∀ x ∈ xs, -1 ≤ x ∧ x ≤ 256) ∧ Rd w' g u ∧ w.grownBy w' (some g)

theorem tidyTo_range (xs : List Int) (k : Nat) : ∀ x ∈ tidyTo xs k, 0 ≤ x ∧ x < k := by
  intro x hx
  unfold tidyTo at hx
  rw [List.mem_filter, List.mem_map] at hx
  obtain ⟨⟨n, hn, rfl⟩, _⟩ := hx
  rw [List.mem_range] at hn
  omega
theorem issueFrom_range (t : Int) (xs : List Int) : (issueFromL t xs).length ≤ 256 ∧ ∀ x ∈ issueFromL t xs, -1 ≤ x ∧ x ≤ 256 := by
  unfold issueFromL
  split
  · exact ⟨tidy_len xs 256, fun x hx => by have := tidyTo_range xs 256 x hx; omega⟩
  · simp

/-- What a drawing of a number of things and an issue leaves. -/
def DrawTL (w : World) (e : Ending) (w' : World) : Prop :=
  ∃ (t : Int) (v : Value) (xs : List Int), e = .returned (.tuple #[.int .i64 t, v]) ∧ -1 ≤ t ∧ t ≤ 4 ∧ Owns w' w.heap.size v xs ∧ xs.length ≤ 257 ∧ (∀ x ∈ xs, -1 ≤ x ∧ x ≤ 256) ∧ Below w.heap.size w w'
def DrawTLS (w : World) (e : Ending) (w' : World) : Prop :=
  ∃ (t : Int) (v : Value) (xs : List Int) (s : Int), e = .returned (.tuple #[.int .i64 t, v, .int .i64 s]) ∧ -1 ≤ t ∧ t ≤ 4 ∧ Owns w' w.heap.size v xs ∧ xs.length ≤ 257 ∧ (∀ x ∈ xs, -1 ≤ x ∧ x ≤ 256) ∧ -1 ≤ s ∧ s ≤ 256 ∧ Below w.heap.size w w'

end Go.Proofs.Ytannpnhboeopdaa

namespace Go.Proofs.Ytannpnhboeopdaa
open Go.RowKit

theorem within_iff {a b : Int} (ha : 0 ≤ a) : withinB a b = true ↔ ∀ i, a.toNat.testBit i = true → b.toNat.testBit i = true := by
  unfold withinB andI
  rw [decide_eq_true_eq]
  constructor
  · intro h i hi
    have h : a.toNat &&& b.toNat = a.toNat := by omega
    have := congrArg (fun x => x.testBit i) h
    simp only [Nat.testBit_and, hi, Bool.true_and] at this
    exact this
  · intro h
    have : a.toNat &&& b.toNat = a.toNat := by
      apply Nat.eq_of_testBit_eq
      intro i
      rw [Nat.testBit_and]
      cases hi : a.toNat.testBit i
      · rfl
      · rw [h i hi]; rfl
    omega
theorem within_trans {a b c : Int} (ha : 0 ≤ a) (hb : 0 ≤ b) (h1 : withinB a b = true) (h2 : withinB b c = true) : withinB a c = true := by
  rw [within_iff ha] at *
  rw [within_iff hb] at h2
  exact fun i hi => h2 i (h1 i hi)
theorem within_anti {a b : Int} (ha : 0 ≤ a) (hb : 0 ≤ b) (h1 : withinB a b = true) (h2 : withinB b a = true) : a = b := by
  have := within_le h1 hb; have := within_le h2 ha; omega
theorem within_or_left (a b : Int) (ha : 0 ≤ a) : withinB a (orI a b) = true := by
  rw [within_iff ha]; intro i hi
  show ((((a.toNat ||| b.toNat : Nat) : Int)).toNat).testBit i = true
  rw [Int.toNat_natCast, Nat.testBit_or, hi]; rfl
theorem within_or_right (a b : Int) (hb : 0 ≤ b) : withinB b (orI a b) = true := by
  rw [within_iff hb]; intro i hi
  show ((((a.toNat ||| b.toNat : Nat) : Int)).toNat).testBit i = true
  rw [Int.toNat_natCast, Nat.testBit_or, hi, Bool.or_true]
theorem or_within {a b c : Int} (ha : 0 ≤ a) (hb : 0 ≤ b) (h1 : withinB a c = true) (h2 : withinB b c = true) : withinB (orI a b) c = true := by
  rw [within_iff (orI_nonneg _ _)]
  rw [within_iff ha] at h1
  rw [within_iff hb] at h2
  intro i hi
  change ((((a.toNat ||| b.toNat : Nat) : Int)).toNat).testBit i = true at hi
  rw [Int.toNat_natCast, Nat.testBit_or, Bool.or_eq_true] at hi
  rcases hi with hi | hi
  · exact h1 i hi
  · exact h2 i hi
theorem fold_within : ∀ (xs : List Int) (a : Int), 0 ≤ a → (∀ x ∈ xs, 0 ≤ x) → withinB a (xs.foldl orI a) = true ∧ (∀ x ∈ xs, withinB x (xs.foldl orI a) = true) ∧ 0 ≤ xs.foldl orI a
  | [], a, ha, _ => ⟨within_refl a ha, by simp, ha⟩
  | y :: r, a, ha, hr => by
    have hy := hr y (by simp)
    obtain ⟨h1, h2, h3⟩ := fold_within r (orI a y) (orI_nonneg _ _) fun x hx => hr x (by simp [hx])
    refine ⟨within_trans ha (orI_nonneg _ _) (within_or_left a y ha) h1, fun x hx => ?_, h3⟩
    rcases List.mem_cons.1 hx with rfl | hx
    · exact within_trans hy (orI_nonneg _ _) (within_or_right a _ hy) h1
    · exact h2 x hx
theorem fold_least : ∀ (xs : List Int) (a c : Int), 0 ≤ a → (∀ x ∈ xs, 0 ≤ x) → withinB a c = true → (∀ x ∈ xs, withinB x c = true) → withinB (xs.foldl orI a) c = true
  | [], _, _, _, _, h, _ => h
  | y :: r, a, c, ha, hr, h, hc =>
    fold_least r (orI a y) c (orI_nonneg _ _) (fun x hx => hr x (by simp [hx])) (or_within ha (hr y (by simp)) h (hc y (by simp))) fun x hx => hc x (by simp [hx])
theorem within_zero (c : Int) : withinB 0 c = true := by unfold withinB andI; simp
theorem mem_union {xs : List Int} (hr : ∀ x ∈ xs, 0 ≤ x) {x : Int} (hx : x ∈ xs) : withinB x (unionI xs) = true := (fold_within xs 0 (by omega) hr).2.1 x hx
theorem union_least {xs : List Int} (hr : ∀ x ∈ xs, 0 ≤ x) {c : Int} (h : ∀ x ∈ xs, withinB x c = true) : withinB (unionI xs) c = true := fold_least xs 0 c (by omega) hr (within_zero c) h
theorem within_all {t x : Int} (ht1 : 1 ≤ t) (ht3 : t ≤ 3) (h0 : 0 ≤ x) : withinB x (allOf t) = true ↔ x ≤ allOf t := by
  constructor
  · exact fun h => within_le h (allOf_lt t).1
  · intro h
    rw [within_iff h0]
    intro i hi
    have key : ∀ n : Nat, x.toNat < 2 ^ n → (2 ^ n - 1).testBit i = true := by
      intro n hn
      rw [Nat.testBit_two_pow_sub_one, decide_eq_true_eq]
      rcases Nat.lt_or_ge i n with h1 | h1
      · exact h1
      · rw [Nat.testBit_lt_two_pow (Nat.lt_of_lt_of_le hn (Nat.pow_le_pow_right (by omega) h1))] at hi
        cases hi
    have : t = 1 ∨ t = 2 ∨ t = 3 := by omega
    rcases this with rfl | rfl | rfl
    · exact key 2 (by simp [allOf] at h; omega)
    · exact key 4 (by simp [allOf] at h; omega)
    · exact key 8 (by simp [allOf] at h; omega)
theorem issue_sets {t : Int} {xs : List Int} (h : issueOkB t xs = true) : ∀ x ∈ xs, setOkB t x = true := by
  have := issue_parts h
  unfold partsOkB at this
  rw [Bool.and_eq_true, List.all_eq_true] at this
  exact this.2
theorem issue_ne {t : Int} {xs : List Int} (h : issueOkB t xs = true) : 1 ≤ xs.length ∧ xs.length ≤ 70 := by
  have := issue_parts h
  unfold partsOkB at this
  rw [Bool.and_eq_true, decide_eq_true_eq] at this
  exact this.1
theorem issue_things {t : Int} {xs : List Int} (h : issueOkB t xs = true) : 1 ≤ t ∧ t ≤ 3 := by
  have h1 := issue_ne h
  cases xs with
  | nil => simp at h1
  | cons x r => have := setOkB_lt (issue_sets h x (by simp)); omega
theorem union_ok {t : Int} {xs : List Int} (h : issueOkB t xs = true) : setOkB t (unionI xs) = true := by
  obtain ⟨h1, h3⟩ := issue_things h
  have hr : ∀ x ∈ xs, 0 ≤ x := fun x hx => (issue_range h x hx).1
  have hu := union_range (issue_range h)
  refine setOk_of h1 h3 hu.1 ((within_all h1 h3 hu.1).1 (union_least hr fun x hx => ?_))
  have := setOkB_lt (issue_sets h x hx)
  exact (within_all h1 h3 (hr x hx)).2 this.2.2.2.1
theorem settles_union {t : Int} {xs : List Int} (h : issueOkB t xs = true) {k : Int} (hs : settlesB t xs k = true) : withinB k (unionI xs) = true := by
  unfold settlesB at hs
  simp only [Bool.and_eq_true] at hs
  obtain ⟨⟨_, h2⟩, h3⟩ := hs
  unfold anyWithin at h3
  rw [List.any_eq_true] at h3
  obtain ⟨x, hx, hkx⟩ := h3
  have hr : ∀ x ∈ xs, 0 ≤ x := fun x hx => (issue_range h x hx).1
  exact within_trans (setOkB_lt h2).2.2.1 (hr x hx) hkx (mem_union hr hx)
theorem settles_granted {t : Int} {xs : List Int} (h : issueOkB t xs = true) : settlesB t xs (unionI xs) = decide (xs.length = 1) := by
  have hr : ∀ x ∈ xs, 0 ≤ x := fun x hx => (issue_range h x hx).1
  have hne := issue_ne h
  unfold settlesB
  rw [h, union_ok h]
  unfold anyWithin
  rw [Bool.eq_iff_iff]
  simp only [Bool.true_and, List.any_eq_true, decide_eq_true_eq]
  constructor
  · rintro ⟨x, hx, hux⟩
    obtain ⟨i, hi, rfl⟩ := List.mem_iff_getElem.1 hx
    have hall : ∀ j (hj : j < xs.length), withinB xs[j] xs[i] = true := fun j hj =>
      within_trans (hr _ (List.getElem_mem hj)) (union_range (issue_range h)).1 (mem_union hr (List.getElem_mem hj)) hux
    have hp : pairB xs = true := by unfold issueOkB at h; rw [Bool.and_eq_true] at h; exact h.2
    have hij : ∀ j, j < xs.length → j = i := by
      intro j hj
      rcases Nat.lt_trichotomy j i with h1 | h1 | h1
      · have := (pair_lt hp h1 (List.getElem?_eq_getElem hj) (List.getElem?_eq_getElem hi)).2.1
        rw [hall j hj] at this; cases this
      · exact h1
      · have := (pair_lt hp h1 (List.getElem?_eq_getElem hi) (List.getElem?_eq_getElem hj)).2.2
        rw [hall j hj] at this; cases this
    have h0 := hij 0 (by omega)
    rcases Nat.lt_or_ge 1 xs.length with h1 | h1
    · have := hij 1 h1; omega
    · omega
  · intro h1
    match xs, h1 with
    | [x], _ =>
      exact ⟨x, by simp, union_least hr fun y hy => by rw [List.mem_singleton] at hy; subst hy; exact within_refl _ (hr _ (by simp))⟩
/-- Two ascending lists of the same elements are the same. -/
theorem asc_ext : ∀ {xs ys : List Int}, xs.Pairwise (· < ·) → ys.Pairwise (· < ·) → (∀ x, x ∈ xs ↔ x ∈ ys) → xs = ys
  | [], [], _, _, _ => rfl
  | [], y :: r, _, _, h => by have := (h y).2 (by simp); simp at this
  | x :: r, [], _, _, h => by have := (h x).1 (by simp); simp at this
  | x :: r, y :: q, hx, hy, h => by
    rw [List.pairwise_cons] at hx hy
    have e : x = y := by
      have h1 := (h x).1 (by simp)
      have h2 := (h y).2 (by simp)
      rcases List.mem_cons.1 h1 with h1 | h1
      · exact h1
      · rcases List.mem_cons.1 h2 with h2 | h2
        · exact h2.symm
        · have := hy.1 x h1; have := hx.1 y h2; omega
    subst e
    congr 1
    refine asc_ext hx.2 hy.2 fun z => ⟨fun hz => ?_, fun hz => ?_⟩
    · rcases List.mem_cons.1 ((h z).1 (by simp [hz])) with e | h1
      · subst e; have := hx.1 z hz; omega
      · exact h1
    · rcases List.mem_cons.1 ((h z).2 (by simp [hz])) with e | h1
      · subst e; have := hy.1 z hz; omega
      · exact h1
/-- Two issues that are settled by the same sets are the same. -/
theorem settles_same {t : Int} {xs ys : List Int} (hx : issueOkB t xs = true) (hy : issueOkB t ys = true) (h : ∀ k, 0 ≤ k → k ≤ allOf t → settlesB t xs k = settlesB t ys k) : xs = ys := by
  have sub : ∀ {xs ys : List Int}, issueOkB t xs = true → issueOkB t ys = true → (∀ k, 0 ≤ k → k ≤ allOf t → settlesB t xs k = settlesB t ys k) → ∀ x ∈ xs, x ∈ ys := by
    intro xs ys hx hy h x hm
    have hsx := setOkB_lt (issue_sets hx x hm)
    have s1 : ∀ {zs : List Int}, issueOkB t zs = true → ∀ {z k : Int}, z ∈ zs → setOkB t k = true → withinB k z = true → settlesB t zs k = true := by
      intro zs hz z k hm hk hw
      unfold settlesB anyWithin
      rw [hz, hk, Bool.true_and, Bool.true_and, List.any_eq_true]
      exact ⟨z, hm, hw⟩
    have s2 : ∀ {zs : List Int}, ∀ {k : Int}, settlesB t zs k = true → ∃ z ∈ zs, withinB k z = true := by
      intro zs k hk
      unfold settlesB anyWithin at hk
      simp only [Bool.and_eq_true, List.any_eq_true] at hk
      exact hk.2
    have hxx := s1 hx hm (issue_sets hx x hm) (within_refl x hsx.2.2.1)
    rw [h x hsx.2.2.1 hsx.2.2.2.1] at hxx
    obtain ⟨y, hmy, hwy⟩ := s2 hxx
    have hsy := setOkB_lt (issue_sets hy y hmy)
    have hyy := s1 hy hmy (issue_sets hy y hmy) (within_refl y hsy.2.2.1)
    rw [← h y hsy.2.2.1 hsy.2.2.2.1] at hyy
    obtain ⟨z, hmz, hwz⟩ := s2 hyy
    have hsz := setOkB_lt (issue_sets hx z hmz)
    have hxz := within_trans hsx.2.2.1 hsy.2.2.1 hwy hwz
    have e : x = z := by
      obtain ⟨i, hi, rfl⟩ := List.mem_iff_getElem.1 hm
      obtain ⟨j, hj, rfl⟩ := List.mem_iff_getElem.1 hmz
      have hp : pairB xs = true := by unfold issueOkB at hx; rw [Bool.and_eq_true] at hx; exact hx.2
      rcases Nat.lt_trichotomy i j with h1 | h1 | h1
      · have := (pair_lt hp h1 (List.getElem?_eq_getElem hi) (List.getElem?_eq_getElem hj)).2.1
        rw [hxz] at this; cases this
      · subst h1; rfl
      · have := (pair_lt hp h1 (List.getElem?_eq_getElem hj) (List.getElem?_eq_getElem hi)).2.2
        rw [hxz] at this; cases this
    subst e
    have := within_anti hsx.2.2.1 hsy.2.2.1 hwy hwz
    rw [this]; exact hmy
  have asc : ∀ {zs : List Int}, issueOkB t zs = true → zs.Pairwise (· < ·) := by
    intro zs hz
    have hp : pairB zs = true := by unfold issueOkB at hz; rw [Bool.and_eq_true] at hz; exact hz.2
    refine (of_decide_eq_true hp).imp ?_
    intro a b hab
    simp [apartB] at hab
    exact hab.1.1
  exact asc_ext (asc hx) (asc hy) fun x => ⟨sub hx hy h x, sub hy hx (fun k a b => (h k a b).symm) x⟩
end Go.Proofs.Ytannpnhboeopdaa

namespace Go.Proofs.Ytannpnhboeopdaa
open Go.RowKit

/-- The program's way: of ascending sets those that are within no later one. -/
def greatL : List Int → List Int
  | [] => []
  | a :: r => if anyWithin a r = true then greatL r else a :: greatL r
theorem any_iff {s : Int} {xs : List Int} : anyWithin s xs = true ↔ ∃ x ∈ xs, withinB s x = true := by unfold anyWithin; rw [List.any_eq_true]
theorem great_sub : ∀ (ys : List Int), ∀ y ∈ greatL ys, y ∈ ys
  | [], _, h => h
  | a :: r, y, h => by
    unfold greatL at h
    split at h
    · exact List.mem_cons_of_mem _ (great_sub r y h)
    · rcases List.mem_cons.1 h with rfl | h
      · simp
      · exact List.mem_cons_of_mem _ (great_sub r y h)
theorem great_len : ∀ (ys : List Int), (greatL ys).length ≤ ys.length
  | [] => Nat.le_refl _
  | a :: r => by
    have := great_len r
    unfold greatL
    split <;> simp only [List.length_cons] <;> omega
theorem great_asc : ∀ (ys : List Int), (∀ y ∈ ys, 0 ≤ y) → ys.Pairwise (· ≤ ·) → (greatL ys).Pairwise (· < ·)
  | [], _, _ => List.Pairwise.nil
  | a :: r, h0, hs => by
    rw [List.pairwise_cons] at hs
    have ih := great_asc r (fun y hy => h0 y (by simp [hy])) hs.2
    unfold greatL
    split
    · exact ih
    · rename_i hn
      rw [List.pairwise_cons]
      refine ⟨fun y hy => ?_, ih⟩
      have hyr := great_sub r y hy
      have hle := hs.1 y hyr
      by_cases e : a = y
      · subst e
        exact absurd (any_iff.2 ⟨a, hyr, within_refl a (h0 a (by simp))⟩) hn
      · omega
theorem great_mem : ∀ (ys : List Int), (∀ y ∈ ys, 0 ≤ y) → ys.Pairwise (· ≤ ·) → ∀ y, y ∈ greatL ys ↔ (y ∈ ys ∧ ∀ x ∈ ys, x = y ∨ withinB y x = false)
  | [], _, _, y => by simp [greatL]
  | a :: r, h0, hs, y => by
    rw [List.pairwise_cons] at hs
    have ih := great_mem r (fun y hy => h0 y (by simp [hy])) hs.2 y
    have ha : 0 ≤ a := h0 a (by simp)
    have back : y ∈ r → a = y ∨ withinB y a = false := fun hy => by
      cases hw : withinB y a
      · exact .inr rfl
      · have := within_le hw ha; have := hs.1 y hy; exact .inl (by omega)
    unfold greatL
    split
    · rename_i hany
      rw [ih]
      constructor
      · rintro ⟨h1, h2⟩
        refine ⟨List.mem_cons_of_mem _ h1, fun x hx => ?_⟩
        rcases List.mem_cons.1 hx with rfl | hx
        · exact back h1
        · exact h2 x hx
      · rintro ⟨h1, h2⟩
        refine ⟨?_, fun x hx => h2 x (List.mem_cons_of_mem _ hx)⟩
        rcases List.mem_cons.1 h1 with rfl | h1
        · obtain ⟨x, hx, hw⟩ := any_iff.1 hany
          rcases h2 x (List.mem_cons_of_mem _ hx) with e | e
          · rw [← e]; exact hx
          · rw [hw] at e; cases e
        · exact h1
    · rename_i hany
      rw [List.mem_cons, ih]
      constructor
      · rintro (rfl | ⟨h1, h2⟩)
        · refine ⟨by simp, fun x hx => ?_⟩
          rcases List.mem_cons.1 hx with e | hx
          · exact .inl e
          · cases hw : withinB y x
            · exact .inr rfl
            · exact absurd (any_iff.2 ⟨x, hx, hw⟩) hany
        · refine ⟨List.mem_cons_of_mem _ h1, fun x hx => ?_⟩
          rcases List.mem_cons.1 hx with rfl | hx
          · exact back h1
          · exact h2 x hx
      · rintro ⟨h1, h2⟩
        rcases List.mem_cons.1 h1 with rfl | h1
        · exact .inl rfl
        · exact .inr ⟨h1, fun x hx => h2 x (List.mem_cons_of_mem _ hx)⟩
theorem great_cover : ∀ (ys : List Int), (∀ y ∈ ys, 0 ≤ y) → ∀ x ∈ ys, anyWithin x (greatL ys) = true
  | [], _, x, hx => by simp at hx
  | a :: r, h0, x, hx => by
    have h0r : ∀ y ∈ r, 0 ≤ y := fun y hy => h0 y (by simp [hy])
    have ih := great_cover r h0r
    unfold greatL
    split
    · rename_i hany
      rcases List.mem_cons.1 hx with rfl | hx
      · obtain ⟨z, hz, hw⟩ := any_iff.1 hany
        obtain ⟨z2, hz2, hw2⟩ := any_iff.1 (ih z hz)
        exact any_iff.2 ⟨z2, hz2, within_trans (h0 x (by simp)) (h0r z hz) hw hw2⟩
      · exact ih x hx
    · rcases List.mem_cons.1 hx with rfl | hx
      · exact any_iff.2 ⟨x, by simp, within_refl x (h0 x (by simp))⟩
      · obtain ⟨z2, hz2, hw2⟩ := any_iff.1 (ih x hx)
        exact any_iff.2 ⟨z2, List.mem_cons_of_mem _ hz2, hw2⟩
theorem tidy_asc (xs : List Int) : (tidyL xs).Pairwise (· < ·) := by
  unfold tidyL tidyTo
  refine List.Pairwise.sublist List.filter_sublist ?_
  rw [List.pairwise_map]
  exact List.pairwise_lt_range.imp (fun h => by omega)
theorem tidy_mem {xs : List Int} (hr : ∀ x ∈ xs, 0 ≤ x ∧ x < 256) (y : Int) : y ∈ tidyL xs ↔ (y ∈ xs ∧ ∀ x ∈ xs, x = y ∨ withinB y x = false) := by
  unfold tidyL tidyTo keepB
  rw [List.mem_filter, List.mem_map]
  simp only [Bool.and_eq_true, decide_eq_true_eq, List.all_eq_true, Bool.or_eq_true, Bool.not_eq_true', List.mem_range]
  constructor
  · exact fun h => h.2
  · intro h
    have := hr y h.1
    exact ⟨⟨y.toNat, by omega, by omega⟩, h⟩
theorem great_tidy {xs ys : List Int} (hr : ∀ x ∈ xs, 0 ≤ x ∧ x < 256) (hs : ys.Pairwise (· ≤ ·)) (hm : ∀ x, x ∈ ys ↔ x ∈ xs) : greatL ys = tidyL xs := by
  have h0 : ∀ y ∈ ys, 0 ≤ y := fun y hy => (hr y ((hm y).1 hy)).1
  refine asc_ext (great_asc ys h0 hs) (tidy_asc xs) fun y => ?_
  rw [great_mem ys h0 hs, tidy_mem hr]
  constructor
  · exact fun h => ⟨(hm y).1 h.1, fun x hx => h.2 x ((hm x).2 hx)⟩
  · exact fun h => ⟨(hm y).2 h.1, fun x hx => h.2 x ((hm x).1 hx)⟩
theorem pair_iff {xs : List Int} (ha : xs.Pairwise (· < ·)) (hw : ∀ x ∈ xs, ∀ y ∈ xs, y = x ∨ withinB x y = false) : pairB xs = true := by
  unfold pairB
  apply decide_eq_true
  rw [List.pairwise_iff_getElem] at ha ⊢
  intro i j hi hj hij
  have h1 := ha i j hi hj hij
  have h2 := hw _ (List.getElem_mem hi) _ (List.getElem_mem hj)
  have h3 := hw _ (List.getElem_mem hj) _ (List.getElem_mem hi)
  have e2 : withinB xs[i] xs[j] = false := by rcases h2 with h | h; omega; exact h
  have e3 : withinB xs[j] xs[i] = false := by rcases h3 with h | h; omega; exact h
  simp [apartB, e2, e3, h1]
/-- What is found is an issue. -/
theorem tidy_issue {t : Int} {xs : List Int} (h : partsOkB t xs = true) : issueOkB t (tidyL xs) = true := by
  have hr := partsOk_range h
  have hp := h
  unfold partsOkB at hp
  rw [Bool.and_eq_true, decide_eq_true_eq, List.all_eq_true] at hp
  -- the same sets, ascending
  obtain ⟨ys, hs, hm, hl⟩ : ∃ ys : List Int, ys.Pairwise (· ≤ ·) ∧ (∀ x, x ∈ ys ↔ x ∈ xs) ∧ ys.length = xs.length := by
    refine ⟨xs.mergeSort (fun a b => decide (a ≤ b)), ?_, fun x => List.mem_mergeSort, List.length_mergeSort xs⟩
    have := List.pairwise_mergeSort (le := fun a b : Int => decide (a ≤ b)) (fun a b c h1 h2 => by simp only [decide_eq_true_eq] at *; omega) (fun a b => by simp only [Bool.or_eq_true, decide_eq_true_eq]; omega) xs
    exact this.imp (fun h => by simpa using h)
  have e := great_tidy hr hs hm
  have h0 : ∀ y ∈ ys, 0 ≤ y := fun y hy => (hr y ((hm y).1 hy)).1
  have hne : 1 ≤ (tidyL xs).length := by
    rw [← e]
    match xs, ys, hl, hm, hp with
    | x :: _, y :: q, _, _, _ =>
      obtain ⟨z, hz, _⟩ := any_iff.1 (great_cover (y :: q) h0 y (by simp))
      exact List.length_pos_of_mem hz
  have hle : (tidyL xs).length ≤ 70 := by rw [← e]; have := great_len ys; omega
  unfold issueOkB partsOkB
  simp only [Bool.and_eq_true, decide_eq_true_eq, List.all_eq_true]
  refine ⟨⟨⟨hne, hle⟩, fun y hy => hp.2 y ((tidy_mem hr y).1 hy).1⟩, pair_iff (tidy_asc xs) fun x hx y hy => ((tidy_mem hr x).1 hx).2 y ((tidy_mem hr y).1 hy).1⟩
theorem issue_tidy {t : Int} {xs : List Int} (h : issueOkB t xs = true) : tidyL xs = xs := by
  have hr := issue_range h
  have hp : pairB xs = true := by unfold issueOkB at h; rw [Bool.and_eq_true] at h; exact h.2
  have asc : xs.Pairwise (· < ·) := by
    refine (of_decide_eq_true hp).imp ?_
    intro a b hab
    simp [apartB] at hab
    exact hab.1.1
  refine asc_ext (tidy_asc xs) asc fun y => ?_
  rw [tidy_mem hr]
  refine ⟨fun h => h.1, fun hy => ⟨hy, fun x hx => ?_⟩⟩
  obtain ⟨i, hi, rfl⟩ := List.mem_iff_getElem.1 hy
  obtain ⟨j, hj, rfl⟩ := List.mem_iff_getElem.1 hx
  rcases Nat.lt_trichotomy i j with h1 | h1 | h1
  · exact .inr (pair_lt hp h1 (List.getElem?_eq_getElem hi) (List.getElem?_eq_getElem hj)).2.1
  · subst h1; exact .inl rfl
  · exact .inr (pair_lt hp h1 (List.getElem?_eq_getElem hj) (List.getElem?_eq_getElem hi)).2.2
theorem from_self {t : Int} {xs : List Int} (h : issueOkB t xs = true) : issueFromL t xs = xs := by
  rw [from_ok (issue_parts h), issue_tidy h]
theorem tidy_cover {t : Int} {xs : List Int} (h : partsOkB t xs = true) {x : Int} (hx : x ∈ xs) : settlesB t (tidyL xs) x = true := by
  have hr := partsOk_range h
  have hp := h
  unfold partsOkB at hp
  rw [Bool.and_eq_true, decide_eq_true_eq, List.all_eq_true] at hp
  obtain ⟨ys, hs, hm⟩ : ∃ ys : List Int, ys.Pairwise (· ≤ ·) ∧ (∀ x, x ∈ ys ↔ x ∈ xs) := by
    refine ⟨xs.mergeSort (fun a b => decide (a ≤ b)), ?_, fun x => List.mem_mergeSort⟩
    have := List.pairwise_mergeSort (le := fun a b : Int => decide (a ≤ b)) (fun a b c h1 h2 => by simp only [decide_eq_true_eq] at *; omega) (fun a b => by simp only [Bool.or_eq_true, decide_eq_true_eq]; omega) xs
    exact this.imp (fun h => by simpa using h)
  have e := great_tidy hr hs hm
  have h0 : ∀ y ∈ ys, 0 ≤ y := fun y hy => (hr y ((hm y).1 hy)).1
  have hc := great_cover ys h0 x ((hm x).2 hx)
  rw [e] at hc
  unfold settlesB
  rw [tidy_issue h, hp.2 x hx, hc]; rfl
end Go.Proofs.Ytannpnhboeopdaa

namespace Go.Proofs.Ytannpnhboeopdaa
open Go.RowKit

/-- What Sort leaves: the same numbers, ascending, in the same row. -/
def SortPost (base : Nat) (A : Option Addr) (nn c : Nat) (xs : List Int) (w : World) (e : Ending) (w' : World) : Prop :=
  e = .returned (.tuple #[]) ∧ ∃ ys : List Int, ys.Pairwise (· ≤ ·) ∧ (∀ x, x ∈ ys ↔ x ∈ xs) ∧ ys.length = nn ∧ Owns w' base (.slice A nn c) ys ∧ w.grownBy w' (Value.slice A nn c).ownBlock
theorem sort_asc (xs : List Int) : (xs.mergeSort fun x y => decide (x ≤ y)).Pairwise (· ≤ ·) := by
  have := List.pairwise_mergeSort (le := fun a b : Int => decide (a ≤ b)) (fun a b c h1 h2 => by simp only [decide_eq_true_eq] at *; omega) (fun a b => by simp only [Bool.or_eq_true, decide_eq_true_eq]; omega) xs
  exact this.imp (fun h => by simpa using h)
def ClonePost (xs : List Int) (w : World) (e : Ending) (w' : World) : Prop := ∃ v, e = .returned v ∧ Owns w' w.heap.size v xs ∧ Below w.heap.size w w'
theorem great_skip {ys acc : List Int} {k : Nat} {x : Int} (h : Hid (acc ++ greatL (ys.drop k) = greatL ys)) (hx : Hid (ys[k]? = some x)) (hw : anyWithin x (ys.drop (k + 1)) = true) : Hid (acc ++ greatL (ys.drop (k + 1)) = greatL ys) := by
  unfold Hid; rw [← h.out, drop_cons hx]
  conv => rhs; unfold greatL
  rw [if_pos hw]
theorem great_take {ys acc : List Int} {k : Nat} {x : Int} (h : Hid (acc ++ greatL (ys.drop k) = greatL ys)) (hx : Hid (ys[k]? = some x)) (hw : anyWithin x (ys.drop (k + 1)) = false) : Hid ((acc ++ [x]) ++ greatL (ys.drop (k + 1)) = greatL ys) := by
  unfold Hid; rw [← h.out, drop_cons hx]
  conv => rhs; unfold greatL
  rw [if_neg (by rw [hw]; simp)]; simp

end Go.Proofs.Ytannpnhboeopdaa

namespace Go.Proofs.Ytannpnhboeopdaa

def chainsT : List (List Nat) := [[0, 1, 3, 7, 15, 31, 63, 127, 255], [2, 6, 14, 30, 62, 126, 254], [4, 5, 13, 29, 61, 125, 253], [8, 9, 11, 27, 59, 123, 251], [10, 26, 58, 122, 250], [12, 28, 60, 124, 252], [16, 17, 19, 23, 55, 119, 247], [18, 22, 54, 118, 246], [20, 21, 53, 117, 245], [24, 25, 57, 121, 249], [32, 33, 35, 39, 47, 111, 239], [34, 38, 46, 110, 238], [36, 37, 45, 109, 237], [40, 41, 43, 107, 235], [42, 106, 234], [44, 108, 236], [48, 49, 51, 115, 243], [50, 114, 242], [52, 116, 244], [56, 120, 248], [64, 65, 67, 71, 79, 95, 223], [66, 70, 78, 94, 222], [68, 69, 77, 93, 221], [72, 73, 75, 91, 219], [74, 90, 218], [76, 92, 220], [80, 81, 83, 87, 215], [82, 86, 214], [84, 85, 213], [88, 89, 217], [96, 97, 99, 103, 231], [98, 102, 230], [100, 101, 229], [104, 105, 233], [112, 113, 241], [128, 129, 131, 135, 143, 159, 191], [130, 134, 142, 158, 190], [132, 133, 141, 157, 189], [136, 137, 139, 155, 187], [138, 154, 186], [140, 156, 188], [144, 145, 147, 151, 183], [146, 150, 182], [148, 149, 181], [152, 153, 185], [160, 161, 163, 167, 175], [162, 166, 174], [164, 165, 173], [168, 169, 171], [170], [172], [176, 177, 179], [178], [180], [184], [192, 193, 195, 199, 207], [194, 198, 206], [196, 197, 205], [200, 201, 203], [202], [204], [208, 209, 211], [210], [212], [216], [224, 225, 227], [226], [228], [232], [240]]
def chainOf : List Nat := [0, 0, 1, 0, 2, 2, 1, 0, 3, 3, 4, 3, 5, 2, 1, 0, 6, 6, 7, 6, 8, 8, 7, 6, 9, 9, 4, 3, 5, 2, 1, 0, 10, 10, 11, 10, 12, 12, 11, 10, 13, 13, 14, 13, 15, 12, 11, 10, 16, 16, 17, 16, 18, 8, 7, 6, 19, 9, 4, 3, 5, 2, 1, 0, 20, 20, 21, 20, 22, 22, 21, 20, 23, 23, 24, 23, 25, 22, 21, 20, 26, 26, 27, 26, 28, 28, 27, 26, 29, 29, 24, 23, 25, 22, 21, 20, 30, 30, 31, 30, 32, 32, 31, 30, 33, 33, 14, 13, 15, 12, 11, 10, 34, 34, 17, 16, 18, 8, 7, 6, 19, 9, 4, 3, 5, 2, 1, 0, 35, 35, 36, 35, 37, 37, 36, 35, 38, 38, 39, 38, 40, 37, 36, 35, 41, 41, 42, 41, 43, 43, 42, 41, 44, 44, 39, 38, 40, 37, 36, 35, 45, 45, 46, 45, 47, 47, 46, 45, 48, 48, 49, 48, 50, 47, 46, 45, 51, 51, 52, 51, 53, 43, 42, 41, 54, 44, 39, 38, 40, 37, 36, 35, 55, 55, 56, 55, 57, 57, 56, 55, 58, 58, 59, 58, 60, 57, 56, 55, 61, 61, 62, 61, 63, 28, 27, 26, 64, 29, 24, 23, 25, 22, 21, 20, 65, 65, 66, 65, 67, 32, 31, 30, 68, 33, 14, 13, 15, 12, 11, 10, 69, 34, 17, 16, 18, 8, 7, 6, 19, 9, 4, 3, 5, 2, 1, 0]
theorem chains_ok : (chainsT.all fun l => decide (l.Pairwise fun a b => a &&& b = a)) = true := by decide +kernel
theorem chain_in : ((List.range 256).all fun s => (chainsT.getD (chainOf.getD s 0) []).contains s && decide (chainOf.getD s 0 < 70)) = true := by decide +kernel
theorem nodup_bound : ∀ (n : Nat) (l : List Nat), l.Nodup → (∀ x ∈ l, x < n) → l.length ≤ n
  | 0, l, _, h => by
    cases l with
    | nil => simp
    | cons x r => exact absurd (h x (by simp)) (by omega)
  | n + 1, l, hd, h => by
    by_cases hn : n ∈ l
    · have h1 := nodup_bound n (l.erase n) (hd.erase n) (fun x hx => by
        have := (hd.mem_erase_iff).1 hx
        have := h x this.2
        omega)
      rw [List.length_erase_of_mem hn] at h1
      omega
    · have := nodup_bound n l hd (fun x hx => by
        have h2 := h x hx
        have : x ≠ n := fun e => hn (e ▸ hx)
        omega)
      omega
theorem chain_comp {a b : Nat} (ha : a < 256) (hb : b < 256) (h : chainOf.getD a 0 = chainOf.getD b 0) : a &&& b = a ∨ b &&& a = b := by
  have h1 := List.all_eq_true.1 chain_in a (List.mem_range.2 ha)
  have h2 := List.all_eq_true.1 chain_in b (List.mem_range.2 hb)
  simp only [Bool.and_eq_true, decide_eq_true_eq, List.contains_eq_mem] at h1 h2
  rw [← h] at h2
  obtain ⟨hma, _⟩ := h1
  obtain ⟨hmb, _⟩ := h2
  have hl : (chainsT.getD (chainOf.getD a 0) []).Pairwise fun a b => a &&& b = a := by
    rw [List.getD_eq_getElem?_getD]
    cases e : chainsT[chainOf.getD a 0]? with
    | none => exact List.Pairwise.nil
    | some l => exact of_decide_eq_true (List.all_eq_true.1 chains_ok l (List.mem_of_getElem? e))
  obtain ⟨i, hi, ei⟩ := List.mem_iff_getElem.1 hma
  obtain ⟨j, hj, ej⟩ := List.mem_iff_getElem.1 hmb
  rcases Nat.lt_trichotomy i j with hij | hij | hij
  · left; have := List.pairwise_iff_getElem.1 hl i j hi hj hij; rw [ei, ej] at this; exact this
  · subst hij; left; rw [← ei, ← ej]; exact Nat.and_self _
  · right; have := List.pairwise_iff_getElem.1 hl j i hj hi hij; rw [ei, ej] at this; exact this
/-- Sets that stand apart are no more than 70. -/
theorem apart_bound {xs : List Int} (hr : ∀ x ∈ xs, 0 ≤ x ∧ x < 256) (hp : pairB xs = true) : xs.length ≤ 70 := by
  have hd : (xs.map fun x => chainOf.getD x.toNat 0).Nodup := by
    unfold List.Nodup
    rw [List.pairwise_map, List.pairwise_iff_getElem]
    intro i j hi hj hij e
    have ha := hr _ (List.getElem_mem hi)
    have hb := hr _ (List.getElem_mem hj)
    have h1 := pair_lt hp hij (List.getElem?_eq_getElem hi) (List.getElem?_eq_getElem hj)
    rcases chain_comp (by omega) (by omega) e with h | h
    · have : withinB xs[i] xs[j] = true := by unfold withinB andI; rw [h]; simp; omega
      rw [h1.2.1] at this; cases this
    · have : withinB xs[j] xs[i] = true := by unfold withinB andI; rw [h]; simp; omega
      rw [h1.2.2] at this; cases this
  have := nodup_bound 70 _ hd (fun x hx => by
    obtain ⟨y, hy, rfl⟩ := List.mem_map.1 hx
    have hy2 := hr y hy
    have h1 := List.all_eq_true.1 chain_in y.toNat (List.mem_range.2 (by omega))
    simp only [Bool.and_eq_true, decide_eq_true_eq] at h1
    exact h1.2)
  simpa using this
end Go.Proofs.Ytannpnhboeopdaa
