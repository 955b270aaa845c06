/-
  What the proofs of this seat's statements share (DrawL, MathB, MathC, Shelf).
-/
import Derived.Shelf.Small.Bits
import Derived.Shelf.Strconv.Itoa0
import Derived.Shelf.Sort.Plain
import Derived.Ground.Names2Prog
import Derived.Shelf.Slices.Clone
import Derived.Shelf.Slices.SearchI
import Derived.Shelf.Slices.In.SortNone
import Derived.Ground.SlgnProg
import Derived.Shelf.SlicesE.Clone
import Derived.Test.YtfmknllemhdnaaaProg
import Derived.Test.YtfmknllemhdnaaaU3

namespace Go.Proofs.Ytfmknllemhdnaaa
open Go.RowKit

theorem owns_grown {w w' : World} {base g : Nat} {v : Value} {xs : List Int} (h : Owns w base v xs) (hg : w.grownBy w' (some g)) (hb : g < base) : Owns w' base v xs := by
  refine h.kept hg ?_
  cases e : v.ownBlock with
  | none => exact .inl rfl
  | some k =>
    right
    intro e2
    have := (World.ownsRow.lt h k e).1
    injection e2
    omega
theorem rd_append {w W w' : World} {base g u : Nat} {v : Value} {xs : List Int} {o : Obj} (hR : Rd W g u) (hG : w.grownBy W (some g)) (hown : Owns W base v xs) (hb : w.heap.size ≤ base) (hlt : g < w.heap.size)
    (hg : (W.alloc o).grownBy w' v.ownBlock) : Rd w' g u ∧ w.grownBy w' (some g) := by
  have hk : ∀ k, v.ownBlock = some k → w.heap.size ≤ k ∧ k < W.heap.size := fun k e => by have := World.ownsRow.lt hown k e; omega
  have h1 := hR.alloc o
  refine ⟨?_, grown_fresh (grown_alloc hG o) hg fun k e => (hk k e).1⟩
  obtain ⟨A, c, zs, p, a1, a2, a3, a4, a5, a6⟩ := hR
  have hgl : g < W.heap.size := (Array.getElem?_eq_some_iff.1 a1).1
  have a1' : (W.alloc o).heap[g]? = W.heap[g]? := Below.heap_alloc W o g hgl
  refine ⟨A, c, zs, p, (hg.block g (by simp; omega) (fun e => by have := hk g e.symm; omega)).trans (a1'.trans a1), ?_, a3, a4, a5, a6⟩
  exact fun hp => (a2.alloc o).grown hg (fun ad ha e => by have := a6 ad hp ha; have := hk ad.block e.symm; omega) hp

def ListPost (m g u : Nat) (w : World) (e : Ending) (w' : World) : Prop :=
  ∃ (v : Value) (xs : List Int), e = .returned v ∧ Owns w' w.heap.size v xs ∧ xs.length ≤ m ∧ (∀ x ∈ xs, -1 ≤ x ∧ x ≤ 256) ∧ Rd w' g u ∧ w.grownBy w' (some g)

theorem tidyTo_range (xs : List Int) (k : Nat) : ∀ x ∈ tidyTo xs k, 0 ≤ x ∧ x < k := by
  intro x hx
  unfold tidyTo at hx
  rw [List.mem_filter, List.mem_map] at hx
  obtain ⟨⟨n, hn, rfl⟩, _⟩ := hx
  rw [List.mem_range] at hn
  omega
theorem issueFrom_range (t : Int) (xs : List Int) : (issueFromL t xs).length ≤ 256 ∧ ∀ x ∈ issueFromL t xs, -1 ≤ x ∧ x ≤ 256 := by
  unfold issueFromL
  split
  · exact ⟨tidy_len xs 256, fun x hx => by have := tidyTo_range xs 256 x hx; omega⟩
  · simp

/-- What a drawing of a number of things and an issue leaves. -/
def DrawTL (w : World) (e : Ending) (w' : World) : Prop :=
  ∃ (t : Int) (v : Value) (xs : List Int), e = .returned (.tuple #[.int .i64 t, v]) ∧ -1 ≤ t ∧ t ≤ 4 ∧ Owns w' w.heap.size v xs ∧ xs.length ≤ 257 ∧ (∀ x ∈ xs, -1 ≤ x ∧ x ≤ 256) ∧ Below w.heap.size w w'
def DrawTLS (w : World) (e : Ending) (w' : World) : Prop :=
  ∃ (t : Int) (v : Value) (xs : List Int) (s : Int), e = .returned (.tuple #[.int .i64 t, v, .int .i64 s]) ∧ -1 ≤ t ∧ t ≤ 4 ∧ Owns w' w.heap.size v xs ∧ xs.length ≤ 257 ∧ (∀ x ∈ xs, -1 ≤ x ∧ x ≤ 256) ∧ -1 ≤ s ∧ s ≤ 256 ∧ Below w.heap.size w w'

end Go.Proofs.Ytfmknllemhdnaaa

namespace Go.Proofs.Ytfmknllemhdnaaa
open Go.RowKit

theorem within_iff {a b : Int} (ha : 0 ≤ a) : withinB a b = true ↔ ∀ i, a.toNat.testBit i = true → b.toNat.testBit i = true := by
  unfold withinB andI
  rw [decide_eq_true_eq]
  constructor
  · intro h i hi
    have h : a.toNat &&& b.toNat = a.toNat := by omega
    have := congrArg (fun x => x.testBit i) h
    simp only [Nat.testBit_and, hi, Bool.true_and] at this
    exact this
  · intro h
    have : a.toNat &&& b.toNat = a.toNat := by
      apply Nat.eq_of_testBit_eq
      intro i
      rw [Nat.testBit_and]
      cases hi : a.toNat.testBit i
      · rfl
      · rw [h i hi]; rfl
    omega
theorem within_trans {a b c : Int} (ha : 0 ≤ a) (hb : 0 ≤ b) (h1 : withinB a b = true) (h2 : withinB b c = true) : withinB a c = true := by
  rw [within_iff ha] at *
  rw [within_iff hb] at h2
  exact fun i hi => h2 i (h1 i hi)
theorem within_anti {a b : Int} (ha : 0 ≤ a) (hb : 0 ≤ b) (h1 : withinB a b = true) (h2 : withinB b a = true) : a = b := by
  have := within_le h1 hb; have := within_le h2 ha; omega
theorem within_or_left (a b : Int) (ha : 0 ≤ a) : withinB a (orI a b) = true := by
  rw [within_iff ha]; intro i hi
  show ((((a.toNat ||| b.toNat : Nat) : Int)).toNat).testBit i = true
  rw [Int.toNat_natCast, Nat.testBit_or, hi]; rfl
theorem within_or_right (a b : Int) (hb : 0 ≤ b) : withinB b (orI a b) = true := by
  rw [within_iff hb]; intro i hi
  show ((((a.toNat ||| b.toNat : Nat) : Int)).toNat).testBit i = true
  rw [Int.toNat_natCast, Nat.testBit_or, hi, Bool.or_true]
theorem or_within {a b c : Int} (ha : 0 ≤ a) (hb : 0 ≤ b) (h1 : withinB a c = true) (h2 : withinB b c = true) : withinB (orI a b) c = true := by
  rw [within_iff (orI_nonneg _ _)]
  rw [within_iff ha] at h1
  rw [within_iff hb] at h2
  intro i hi
  change ((((a.toNat ||| b.toNat : Nat) : Int)).toNat).testBit i = true at hi
  rw [Int.toNat_natCast, Nat.testBit_or, Bool.or_eq_true] at hi
  rcases hi with hi | hi
  · exact h1 i hi
  · exact h2 i hi
theorem fold_within : ∀ (xs : List Int) (a : Int), 0 ≤ a → (∀ x ∈ xs, 0 ≤ x) → withinB a (xs.foldl orI a) = true ∧ (∀ x ∈ xs, withinB x (xs.foldl orI a) = true) ∧ 0 ≤ xs.foldl orI a
  | [], a, ha, _ => ⟨within_refl a ha, by simp, ha⟩
  | y :: r, a, ha, hr => by
    have hy := hr y (by simp)
    obtain ⟨h1, h2, h3⟩ := fold_within r (orI a y) (orI_nonneg _ _) fun x hx => hr x (by simp [hx])
    refine ⟨within_trans ha (orI_nonneg _ _) (within_or_left a y ha) h1, fun x hx => ?_, h3⟩
    rcases List.mem_cons.1 hx with rfl | hx
    · exact within_trans hy (orI_nonneg _ _) (within_or_right a _ hy) h1
    · exact h2 x hx
theorem fold_least : ∀ (xs : List Int) (a c : Int), 0 ≤ a → (∀ x ∈ xs, 0 ≤ x) → withinB a c = true → (∀ x ∈ xs, withinB x c = true) → withinB (xs.foldl orI a) c = true
  | [], _, _, _, _, h, _ => h
  | y :: r, a, c, ha, hr, h, hc =>
    fold_least r (orI a y) c (orI_nonneg _ _) (fun x hx => hr x (by simp [hx])) (or_within ha (hr y (by simp)) h (hc y (by simp))) fun x hx => hc x (by simp [hx])
theorem within_zero (c : Int) : withinB 0 c = true := by unfold withinB andI; simp
theorem mem_union {xs : List Int} (hr : ∀ x ∈ xs, 0 ≤ x) {x : Int} (hx : x ∈ xs) : withinB x (unionI xs) = true := (fold_within xs 0 (by omega) hr).2.1 x hx
theorem union_least {xs : List Int} (hr : ∀ x ∈ xs, 0 ≤ x) {c : Int} (h : ∀ x ∈ xs, withinB x c = true) : withinB (unionI xs) c = true := fold_least xs 0 c (by omega) hr (within_zero c) h
theorem within_all {t x : Int} (ht1 : 1 ≤ t) (ht3 : t ≤ 3) (h0 : 0 ≤ x) : withinB x (allOf t) = true ↔ x ≤ allOf t := by
  constructor
  · exact fun h => within_le h (allOf_lt t).1
  · intro h
    rw [within_iff h0]
    intro i hi
    have key : ∀ n : Nat, x.toNat < 2 ^ n → (2 ^ n - 1).testBit i = true := by
      intro n hn
      rw [Nat.testBit_two_pow_sub_one, decide_eq_true_eq]
      rcases Nat.lt_or_ge i n with h1 | h1
      · exact h1
      · rw [Nat.testBit_lt_two_pow (Nat.lt_of_lt_of_le hn (Nat.pow_le_pow_right (by omega) h1))] at hi
        cases hi
    have : t = 1 ∨ t = 2 ∨ t = 3 := by omega
    rcases this with rfl | rfl | rfl
    · exact key 2 (by simp [allOf] at h; omega)
    · exact key 4 (by simp [allOf] at h; omega)
    · exact key 8 (by simp [allOf] at h; omega)
theorem issue_sets {t : Int} {xs : List Int} (h : issueOkB t xs = true) : ∀ x ∈ xs, setOkB t x = true := by
  have := issue_parts h
  unfold partsOkB at this
  rw [Bool.and_eq_true, List.all_eq_true] at this
  exact this.2
theorem issue_ne {t : Int} {xs : List Int} (h : issueOkB t xs = true) : 1 ≤ xs.length ∧ xs.length ≤ 70 := by
  have := issue_parts h
  unfold partsOkB at this
  rw [Bool.and_eq_true, decide_eq_true_eq] at this
  exact this.1
theorem issue_things {t : Int} {xs : List Int} (h : issueOkB t xs = true) : 1 ≤ t ∧ t ≤ 3 := by
  have h1 := issue_ne h
  cases xs with
  | nil => simp at h1
  | cons x r => have := setOkB_lt (issue_sets h x (by simp)); omega
theorem union_ok {t : Int} {xs : List Int} (h : issueOkB t xs = true) : setOkB t (unionI xs) = true := by
  obtain ⟨h1, h3⟩ := issue_things h
  have hr : ∀ x ∈ xs, 0 ≤ x := fun x hx => (issue_range h x hx).1
  have hu := union_range (issue_range h)
  refine setOk_of h1 h3 hu.1 ((within_all h1 h3 hu.1).1 (union_least hr fun x hx => ?_))
  have := setOkB_lt (issue_sets h x hx)
  exact (within_all h1 h3 (hr x hx)).2 this.2.2.2.1
theorem settles_union {t : Int} {xs : List Int} (h : issueOkB t xs = true) {k : Int} (hs : settlesB t xs k = true) : withinB k (unionI xs) = true := by
  unfold settlesB at hs
  simp only [Bool.and_eq_true] at hs
  obtain ⟨⟨_, h2⟩, h3⟩ := hs
  unfold anyWithin at h3
  rw [List.any_eq_true] at h3
  obtain ⟨x, hx, hkx⟩ := h3
  have hr : ∀ x ∈ xs, 0 ≤ x := fun x hx => (issue_range h x hx).1
  exact within_trans (setOkB_lt h2).2.2.1 (hr x hx) hkx (mem_union hr hx)
theorem settles_granted {t : Int} {xs : List Int} (h : issueOkB t xs = true) : settlesB t xs (unionI xs) = decide (xs.length = 1) := by
  have hr : ∀ x ∈ xs, 0 ≤ x := fun x hx => (issue_range h x hx).1
  have hne := issue_ne h
  unfold settlesB
  rw [h, union_ok h]
  unfold anyWithin
  rw [Bool.eq_iff_iff]
  simp only [Bool.true_and, List.any_eq_true, decide_eq_true_eq]
  constructor
  · rintro ⟨x, hx, hux⟩
    obtain ⟨i, hi, rfl⟩ := List.mem_iff_getElem.1 hx
    have hall : ∀ j (hj : j < xs.length), withinB xs[j] xs[i] = true := fun j hj =>
      within_trans (hr _ (List.getElem_mem hj)) (union_range (issue_range h)).1 (mem_union hr (List.getElem_mem hj)) hux
    have hp : pairB xs = true := by unfold issueOkB at h; rw [Bool.and_eq_true] at h; exact h.2
    have hij : ∀ j, j < xs.length → j = i := by
      intro j hj
      rcases Nat.lt_trichotomy j i with h1 | h1 | h1
      · have := (pair_lt hp h1 (List.getElem?_eq_getElem hj) (List.getElem?_eq_getElem hi)).2.1
        rw [hall j hj] at this; cases this
      · exact h1
      · have := (pair_lt hp h1 (List.getElem?_eq_getElem hi) (List.getElem?_eq_getElem hj)).2.2
        rw [hall j hj] at this; cases this
    have h0 := hij 0 (by omega)
    rcases Nat.lt_or_ge 1 xs.length with h1 | h1
    · have := hij 1 h1; omega
    · omega
  · intro h1
    match xs, h1 with
    | [x], _ =>
      exact ⟨x, by simp, union_least hr fun y hy => by rw [List.mem_singleton] at hy; subst hy; exact within_refl _ (hr _ (by simp))⟩
/-- Two ascending lists of the same elements are the same. -/
theorem asc_ext : ∀ {xs ys : List Int}, xs.Pairwise (· < ·) → ys.Pairwise (· < ·) → (∀ x, x ∈ xs ↔ x ∈ ys) → xs = ys
  | [], [], _, _, _ => rfl
  | [], y :: r, _, _, h => by have := (h y).2 (by simp); simp at this
  | x :: r, [], _, _, h => by have := (h x).1 (by simp); simp at this
  | x :: r, y :: q, hx, hy, h => by
    rw [List.pairwise_cons] at hx hy
    have e : x = y := by
      have h1 := (h x).1 (by simp)
      have h2 := (h y).2 (by simp)
      rcases List.mem_cons.1 h1 with h1 | h1
      · exact h1
      · rcases List.mem_cons.1 h2 with h2 | h2
        · exact h2.symm
        · have := hy.1 x h1; have := hx.1 y h2; omega
    subst e
    congr 1
    refine asc_ext hx.2 hy.2 fun z => ⟨fun hz => ?_, fun hz => ?_⟩
    · rcases List.mem_cons.1 ((h z).1 (by simp [hz])) with e | h1
      · subst e; have := hx.1 z hz; omega
      · exact h1
    · rcases List.mem_cons.1 ((h z).2 (by simp [hz])) with e | h1
      · subst e; have := hy.1 z hz; omega
      · exact h1
/-- Two issues that are settled by the same sets are the same. -/
theorem settles_same {t : Int} {xs ys : List Int} (hx : issueOkB t xs = true) (hy : issueOkB t ys = true) (h : ∀ k, 0 ≤ k → k ≤ allOf t → settlesB t xs k = settlesB t ys k) : xs = ys := by
  have sub : ∀ {xs ys : List Int}, issueOkB t xs = true → issueOkB t ys = true → (∀ k, 0 ≤ k → k ≤ allOf t → settlesB t xs k = settlesB t ys k) → ∀ x ∈ xs, x ∈ ys := by
    intro xs ys hx hy h x hm
    have hsx := setOkB_lt (issue_sets hx x hm)
    have s1 : ∀ {zs : List Int}, issueOkB t zs = true → ∀ {z k : Int}, z ∈ zs → setOkB t k = true → withinB k z = true → settlesB t zs k = true := by
      intro zs hz z k hm hk hw
      unfold settlesB anyWithin
      rw [hz, hk, Bool.true_and, Bool.true_and, List.any_eq_true]
      exact ⟨z, hm, hw⟩
    have s2 : ∀ {zs : List Int}, ∀ {k : Int}, settlesB t zs k = true → ∃ z ∈ zs, withinB k z = true := by
      intro zs k hk
      unfold settlesB anyWithin at hk
      simp only [Bool.and_eq_true, List.any_eq_true] at hk
      exact hk.2
    have hxx := s1 hx hm (issue_sets hx x hm) (within_refl x hsx.2.2.1)
    rw [h x hsx.2.2.1 hsx.2.2.2.1] at hxx
    obtain ⟨y, hmy, hwy⟩ := s2 hxx
    have hsy := setOkB_lt (issue_sets hy y hmy)
    have hyy := s1 hy hmy (issue_sets hy y hmy) (within_refl y hsy.2.2.1)
    rw [← h y hsy.2.2.1 hsy.2.2.2.1] at hyy
    obtain ⟨z, hmz, hwz⟩ := s2 hyy
    have hsz := setOkB_lt (issue_sets hx z hmz)
    have hxz := within_trans hsx.2.2.1 hsy.2.2.1 hwy hwz
    have e : x = z := by
      obtain ⟨i, hi, rfl⟩ := List.mem_iff_getElem.1 hm
      obtain ⟨j, hj, rfl⟩ := List.mem_iff_getElem.1 hmz
      have hp : pairB xs = true := by unfold issueOkB at hx; rw [Bool.and_eq_true] at hx; exact hx.2
      rcases Nat.lt_trichotomy i j with h1 | h1 | h1
      · have := (pair_lt hp h1 (List.getElem?_eq_getElem hi) (List.getElem?_eq_getElem hj)).2.1
        rw [hxz] at this; cases this
      · subst h1; rfl
      · have := (pair_lt hp h1 (List.getElem?_eq_getElem hj) (List.getElem?_eq_getElem hi)).2.2
        rw [hxz] at this; cases this
    subst e
    have := within_anti hsx.2.2.1 hsy.2.2.1 hwy hwz
    rw [this]; exact hmy
  have asc : ∀ {zs : List Int}, issueOkB t zs = true → zs.Pairwise (· < ·) := by
    intro zs hz
    have hp : pairB zs = true := by unfold issueOkB at hz; rw [Bool.and_eq_true] at hz; exact hz.2
    refine (of_decide_eq_true hp).imp ?_
    intro a b hab
    simp [apartB] at hab
    exact hab.1.1
  exact asc_ext (asc hx) (asc hy) fun x => ⟨sub hx hy h x, sub hy hx (fun k a b => (h k a b).symm) x⟩
end Go.Proofs.Ytfmknllemhdnaaa

namespace Go.Proofs.Ytfmknllemhdnaaa
open Go.RowKit

/-- The program's way: of ascending sets those that are within no later one. -/
def greatL : List Int → List Int
  | [] => []
  | a :: r => if anyWithin a r = true then greatL r else a :: greatL r
theorem any_iff {s : Int} {xs : List Int} : anyWithin s xs = true ↔ ∃ x ∈ xs, withinB s x = true := by unfold anyWithin; rw [List.any_eq_true]
theorem great_sub : ∀ (ys : List Int), ∀ y ∈ greatL ys, y ∈ ys
  | [], _, h => h
  | a :: r, y, h => by
    unfold greatL at h
    split at h
    · exact List.mem_cons_of_mem _ (great_sub r y h)
    · rcases List.mem_cons.1 h with rfl | h
      · simp
      · exact List.mem_cons_of_mem _ (great_sub r y h)
theorem great_len : ∀ (ys : List Int), (greatL ys).length ≤ ys.length
  | [] => Nat.le_refl _
  | a :: r => by
    have := great_len r
    unfold greatL
    split <;> simp only [List.length_cons] <;> omega
theorem great_asc : ∀ (ys : List Int), (∀ y ∈ ys, 0 ≤ y) → ys.Pairwise (· ≤ ·) → (greatL ys).Pairwise (· < ·)
  | [], _, _ => List.Pairwise.nil
  | a :: r, h0, hs => by
    rw [List.pairwise_cons] at hs
    have ih := great_asc r (fun y hy => h0 y (by simp [hy])) hs.2
    unfold greatL
    split
    · exact ih
    · rename_i hn
      rw [List.pairwise_cons]
      refine ⟨fun y hy => ?_, ih⟩
      have hyr := great_sub r y hy
      have hle := hs.1 y hyr
      by_cases e : a = y
      · subst e
        exact absurd (any_iff.2 ⟨a, hyr, within_refl a (h0 a (by simp))⟩) hn
      · omega
theorem great_mem : ∀ (ys : List Int), (∀ y ∈ ys, 0 ≤ y) → ys.Pairwise (· ≤ ·) → ∀ y, y ∈ greatL ys ↔ (y ∈ ys ∧ ∀ x ∈ ys, x = y ∨ withinB y x = false)
  | [], _, _, y => by simp [greatL]
  | a :: r, h0, hs, y => by
    rw [List.pairwise_cons] at hs
    have ih := great_mem r (fun y hy => h0 y (by simp [hy])) hs.2 y
    have ha : 0 ≤ a := h0 a (by simp)
    have back : y ∈ r → a = y ∨ withinB y a = false := fun hy => by
      cases hw : withinB y a
      · exact .inr rfl
      · have := within_le hw ha; have := hs.1 y hy; exact .inl (by omega)
    unfold greatL
    split
    · rename_i hany
      rw [ih]
      constructor
      · rintro ⟨h1, h2⟩
        refine ⟨List.mem_cons_of_mem _ h1, fun x hx => ?_⟩
        rcases List.mem_cons.1 hx with rfl | hx
        · exact back h1
        · exact h2 x hx
      · rintro ⟨h1, h2⟩
        refine ⟨?_, fun x hx => h2 x (List.mem_cons_of_mem _ hx)⟩
        rcases List.mem_cons.1 h1 with rfl | h1
        · obtain ⟨x, hx, hw⟩ := any_iff.1 hany
          rcases h2 x (List.mem_cons_of_mem _ hx) with e | e
          · rw [← e]; exact hx
          · rw [hw] at e; cases e
        · exact h1
    · rename_i hany
      rw [List.mem_cons, ih]
      constructor
      · rintro (rfl | ⟨h1, h2⟩)
        · refine ⟨by simp, fun x hx => ?_⟩
          rcases List.mem_cons.1 hx with e | hx
          · exact .inl e
          · cases hw : withinB y x
            · exact .inr rfl
            · exact absurd (any_iff.2 ⟨x, hx, hw⟩) hany
        · refine ⟨List.mem_cons_of_mem _ h1, fun x hx => ?_⟩
          rcases List.mem_cons.1 hx with rfl | hx
          · exact back h1
          · exact h2 x hx
      · rintro ⟨h1, h2⟩
        rcases List.mem_cons.1 h1 with rfl | h1
        · exact .inl rfl
        · exact .inr ⟨h1, fun x hx => h2 x (List.mem_cons_of_mem _ hx)⟩
theorem great_cover : ∀ (ys : List Int), (∀ y ∈ ys, 0 ≤ y) → ∀ x ∈ ys, anyWithin x (greatL ys) = true
  | [], _, x, hx => by simp at hx
  | a :: r, h0, x, hx => by
    have h0r : ∀ y ∈ r, 0 ≤ y := fun y hy => h0 y (by simp [hy])
    have ih := great_cover r h0r
    unfold greatL
    split
    · rename_i hany
      rcases List.mem_cons.1 hx with rfl | hx
      · obtain ⟨z, hz, hw⟩ := any_iff.1 hany
        obtain ⟨z2, hz2, hw2⟩ := any_iff.1 (ih z hz)
        exact any_iff.2 ⟨z2, hz2, within_trans (h0 x (by simp)) (h0r z hz) hw hw2⟩
      · exact ih x hx
    · rcases List.mem_cons.1 hx with rfl | hx
      · exact any_iff.2 ⟨x, by simp, within_refl x (h0 x (by simp))⟩
      · obtain ⟨z2, hz2, hw2⟩ := any_iff.1 (ih x hx)
        exact any_iff.2 ⟨z2, List.mem_cons_of_mem _ hz2, hw2⟩
theorem tidy_asc (xs : List Int) : (tidyL xs).Pairwise (· < ·) := by
  unfold tidyL tidyTo
  refine List.Pairwise.sublist List.filter_sublist ?_
  rw [List.pairwise_map]
  exact List.pairwise_lt_range.imp (fun h => by omega)
theorem tidy_mem {xs : List Int} (hr : ∀ x ∈ xs, 0 ≤ x ∧ x < 256) (y : Int) : y ∈ tidyL xs ↔ (y ∈ xs ∧ ∀ x ∈ xs, x = y ∨ withinB y x = false) := by
  unfold tidyL tidyTo keepB
  rw [List.mem_filter, List.mem_map]
  simp only [Bool.and_eq_true, decide_eq_true_eq, List.all_eq_true, Bool.or_eq_true, Bool.not_eq_true', List.mem_range]
  constructor
  · exact fun h => h.2
  · intro h
    have := hr y h.1
    exact ⟨⟨y.toNat, by omega, by omega⟩, h⟩
theorem great_tidy {xs ys : List Int} (hr : ∀ x ∈ xs, 0 ≤ x ∧ x < 256) (hs : ys.Pairwise (· ≤ ·)) (hm : ∀ x, x ∈ ys ↔ x ∈ xs) : greatL ys = tidyL xs := by
  have h0 : ∀ y ∈ ys, 0 ≤ y := fun y hy => (hr y ((hm y).1 hy)).1
  refine asc_ext (great_asc ys h0 hs) (tidy_asc xs) fun y => ?_
  rw [great_mem ys h0 hs, tidy_mem hr]
  constructor
  · exact fun h => ⟨(hm y).1 h.1, fun x hx => h.2 x ((hm x).2 hx)⟩
  · exact fun h => ⟨(hm y).2 h.1, fun x hx => h.2 x ((hm x).1 hx)⟩
theorem pair_iff {xs : List Int} (ha : xs.Pairwise (· < ·)) (hw : ∀ x ∈ xs, ∀ y ∈ xs, y = x ∨ withinB x y = false) : pairB xs = true := by
  unfold pairB
  apply decide_eq_true
  rw [List.pairwise_iff_getElem] at ha ⊢
  intro i j hi hj hij
  have h1 := ha i j hi hj hij
  have h2 := hw _ (List.getElem_mem hi) _ (List.getElem_mem hj)
  have h3 := hw _ (List.getElem_mem hj) _ (List.getElem_mem hi)
  have e2 : withinB xs[i] xs[j] = false := by rcases h2 with h | h; omega; exact h
  have e3 : withinB xs[j] xs[i] = false := by rcases h3 with h | h; omega; exact h
  simp [apartB, e2, e3, h1]
/-- What is found is an issue. -/
theorem tidy_issue {t : Int} {xs : List Int} (h : partsOkB t xs = true) : issueOkB t (tidyL xs) = true := by
  have hr := partsOk_range h
  have hp := h
  unfold partsOkB at hp
  rw [Bool.and_eq_true, decide_eq_true_eq, List.all_eq_true] at hp
  -- the same sets, ascending
  obtain ⟨ys, hs, hm, hl⟩ : ∃ ys : List Int, ys.Pairwise (· ≤ ·) ∧ (∀ x, x ∈ ys ↔ x ∈ xs) ∧ ys.length = xs.length := by
    refine ⟨xs.mergeSort (fun a b => decide (a ≤ b)), ?_, fun x => List.mem_mergeSort, List.length_mergeSort xs⟩
    have := List.pairwise_mergeSort (le := fun a b : Int => decide (a ≤ b)) (fun a b c h1 h2 => by simp only [decide_eq_true_eq] at *; omega) (fun a b => by simp only [Bool.or_eq_true, decide_eq_true_eq]; omega) xs
    exact this.imp (fun h => by simpa using h)
  have e := great_tidy hr hs hm
  have h0 : ∀ y ∈ ys, 0 ≤ y := fun y hy => (hr y ((hm y).1 hy)).1
  have hne : 1 ≤ (tidyL xs).length := by
    rw [← e]
    match xs, ys, hl, hm, hp with
    | x :: _, y :: q, _, _, _ =>
      obtain ⟨z, hz, _⟩ := any_iff.1 (great_cover (y :: q) h0 y (by simp))
      exact List.length_pos_of_mem hz
  have hle : (tidyL xs).length ≤ 70 := by rw [← e]; have := great_len ys; omega
  unfold issueOkB partsOkB
  simp only [Bool.and_eq_true, decide_eq_true_eq, List.all_eq_true]
  refine ⟨⟨⟨hne, hle⟩, fun y hy => hp.2 y ((tidy_mem hr y).1 hy).1⟩, pair_iff (tidy_asc xs) fun x hx y hy => ((tidy_mem hr x).1 hx).2 y ((tidy_mem hr y).1 hy).1⟩
theorem issue_tidy {t : Int} {xs : List Int} (h : issueOkB t xs = true) : tidyL xs = xs := by
  have hr := issue_range h
  have hp : pairB xs = true := by unfold issueOkB at h; rw [Bool.and_eq_true] at h; exact h.2
  have asc : xs.Pairwise (· < ·) := by
    refine (of_decide_eq_true hp).imp ?_
    intro a b hab
    simp [apartB] at hab
    exact hab.1.1
  refine asc_ext (tidy_asc xs) asc fun y => ?_
  rw [tidy_mem hr]
  refine ⟨fun h => h.1, fun hy => ⟨hy, fun x hx => ?_⟩⟩
  obtain ⟨i, hi, rfl⟩ := List.mem_iff_getElem.1 hy
  obtain ⟨j, hj, rfl⟩ := List.mem_iff_getElem.1 hx
  rcases Nat.lt_trichotomy i j with h1 | h1 | h1
  · exact .inr (pair_lt hp h1 (List.getElem?_eq_getElem hi) (List.getElem?_eq_getElem hj)).2.1
  · subst h1; exact .inl rfl
  · exact .inr (pair_lt hp h1 (List.getElem?_eq_getElem hj) (List.getElem?_eq_getElem hi)).2.2
theorem from_self {t : Int} {xs : List Int} (h : issueOkB t xs = true) : issueFromL t xs = xs := by
  rw [from_ok (issue_parts h), issue_tidy h]
theorem tidy_cover {t : Int} {xs : List Int} (h : partsOkB t xs = true) {x : Int} (hx : x ∈ xs) : settlesB t (tidyL xs) x = true := by
  have hr := partsOk_range h
  have hp := h
  unfold partsOkB at hp
  rw [Bool.and_eq_true, decide_eq_true_eq, List.all_eq_true] at hp
  obtain ⟨ys, hs, hm⟩ : ∃ ys : List Int, ys.Pairwise (· ≤ ·) ∧ (∀ x, x ∈ ys ↔ x ∈ xs) := by
    refine ⟨xs.mergeSort (fun a b => decide (a ≤ b)), ?_, fun x => List.mem_mergeSort⟩
    have := List.pairwise_mergeSort (le := fun a b : Int => decide (a ≤ b)) (fun a b c h1 h2 => by simp only [decide_eq_true_eq] at *; omega) (fun a b => by simp only [Bool.or_eq_true, decide_eq_true_eq]; omega) xs
    exact this.imp (fun h => by simpa using h)
  have e := great_tidy hr hs hm
  have h0 : ∀ y ∈ ys, 0 ≤ y := fun y hy => (hr y ((hm y).1 hy)).1
  have hc := great_cover ys h0 x ((hm x).2 hx)
  rw [e] at hc
  unfold settlesB
  rw [tidy_issue h, hp.2 x hx, hc]; rfl
end Go.Proofs.Ytfmknllemhdnaaa

namespace Go.Proofs
open Go.Shelf
def Try.lays128_ren : Go.Shelf.Ren := ⟨fun | 128 => 65 | n => n, fun | 51 => 67 | 3 => 3 | 4 => 4 | 46 => 52 | 5 => 5 | 9 => 9 | n => n, fun | n => n⟩
theorem Try.lays128 : Go.Proofs.Lays.n128 Try.prog Try.lays128_ren := {
  mixed := by kernel_rfl
  f128 := Try.func65.trans (congrArg some (by kernel_rfl))
  t3 := Try.underlying3
  a3 := Try.isAgg3
  z3 := Try.sizeOf3
  v3 := Try.zeroValue3
  t4 := Try.underlying4
  a4 := Try.isAgg4
  z4 := Try.sizeOf4
  v4 := Try.zeroValue4
  t5 := Try.underlying5
  a5 := Try.isAgg5
  z5 := Try.sizeOf5
  v5 := Try.zeroValue5
  t9 := Try.underlying9
  a9 := Try.isAgg9
  z9 := Try.sizeOf9
  v9 := Try.zeroValue9
  t46 := Try.underlying52
  a46 := Try.isAgg52
  z46 := Try.sizeOf52
  v46 := Try.zeroValue52
  t51 := Try.underlying67
  a51 := Try.isAgg67
  z51 := Try.sizeOf67
  v51 := Try.zeroValue67 }
theorem Try.bits_Len32 (x : Int) (w : World) (h0 : 0 ≤ x) (h1 : x ≤ 4294967295) :
    Calls Try.prog 65 #[.int .u32 x] w fun e w' => e = .returned (.int .i64 (Lib.bitLen x.toNat)) ∧ w' = w := Any.bits_Len32 Try.lays128 x w h0 h1
def Try.lays125_ren : Go.Shelf.Ren := ⟨fun | 125 => 56 | 128 => 65 | 129 => 66 | n => n, fun | 46 => 52 | 3 => 3 | 51 => 67 | 53 => 69 | 4 => 4 | 5 => 5 | 9 => 9 | n => n, fun | n => n⟩
theorem Try.lays125 : Go.Proofs.Lays.n125 Try.prog Try.lays125_ren := {
  mixed := by kernel_rfl
  f125 := Try.func56.trans (congrArg some (by kernel_rfl))
  f128 := Try.func65.trans (congrArg some (by kernel_rfl))
  f129 := Try.func66.trans (congrArg some (by kernel_rfl))
  t3 := Try.underlying3
  a3 := Try.isAgg3
  z3 := Try.sizeOf3
  v3 := Try.zeroValue3
  t4 := Try.underlying4
  a4 := Try.isAgg4
  z4 := Try.sizeOf4
  v4 := Try.zeroValue4
  t5 := Try.underlying5
  a5 := Try.isAgg5
  z5 := Try.sizeOf5
  v5 := Try.zeroValue5
  t9 := Try.underlying9
  a9 := Try.isAgg9
  z9 := Try.sizeOf9
  v9 := Try.zeroValue9
  t46 := Try.underlying52
  a46 := Try.isAgg52
  z46 := Try.sizeOf52
  v46 := Try.zeroValue52
  t51 := Try.underlying67
  a51 := Try.isAgg67
  z51 := Try.sizeOf67
  v51 := Try.zeroValue67
  t53 := Try.underlying69
  a53 := Try.isAgg69
  z53 := Try.sizeOf69
  v53 := Try.zeroValue69 }
theorem Try.bits_Len (x : Int) (w : World) (h0 : 0 ≤ x) (h1 : x ≤ 18446744073709551615) :
    Calls Try.prog 56 #[.int .u64 x] w fun e w' => e = .returned (.int .i64 (Lib.bitLen x.toNat)) ∧ w' = w := Any.bits_Len Try.lays125 x w h0 h1
def Try.lays129_ren : Go.Shelf.Ren := ⟨fun | 129 => 66 | n => n, fun | 53 => 69 | 3 => 3 | 4 => 4 | 46 => 52 | 5 => 5 | 9 => 9 | n => n, fun | n => n⟩
theorem Try.lays129 : Go.Proofs.Lays.n129 Try.prog Try.lays129_ren := {
  mixed := by kernel_rfl
  f129 := Try.func66.trans (congrArg some (by kernel_rfl))
  t3 := Try.underlying3
  a3 := Try.isAgg3
  z3 := Try.sizeOf3
  v3 := Try.zeroValue3
  t4 := Try.underlying4
  a4 := Try.isAgg4
  z4 := Try.sizeOf4
  v4 := Try.zeroValue4
  t5 := Try.underlying5
  a5 := Try.isAgg5
  z5 := Try.sizeOf5
  v5 := Try.zeroValue5
  t9 := Try.underlying9
  a9 := Try.isAgg9
  z9 := Try.sizeOf9
  v9 := Try.zeroValue9
  t46 := Try.underlying52
  a46 := Try.isAgg52
  z46 := Try.sizeOf52
  v46 := Try.zeroValue52
  t53 := Try.underlying69
  a53 := Try.isAgg69
  z53 := Try.sizeOf69
  v53 := Try.zeroValue69 }
theorem Try.bits_Len64 (x : Int) (w : World) (h0 : 0 ≤ x) (h1 : x ≤ 18446744073709551615) :
    Calls Try.prog 66 #[.int .u64 x] w fun e w' => e = .returned (.int .i64 (Lib.bitLen x.toNat)) ∧ w' = w := Any.bits_Len64 Try.lays129 x w h0 h1
def Try.lays189_ren : Go.Shelf.Ren := ⟨fun | 189 => 51 | 125 => 56 | 257 => 55 | 128 => 65 | 129 => 66 | 294 => 57 | 295 => 58 | 296 => 59 | 297 => 60 | 298 => 61 | 299 => 62 | 216 => 47 | 300 => 63 | 301 => 64 | 328 => 67 | 329 => 68 | 330 => 69 | 331 => 70 | 332 => 71 | 215 => 53 | 343 => 72 | n => n, fun | 28 => 29 | 3 => 3 | 46 => 52 | 0 => 0 | 51 => 67 | 53 => 69 | 4 => 4 | 183 => 60 | 182 => 59 | 131 => 64 | 5 => 5 | 9 => 9 | 218 => 70 | 222 => 74 | 228 => 76 | 229 => 77 | n => n, fun | n => n⟩
theorem Try.lays189 : Go.Proofs.Lays.n189 Try.prog Try.lays189_ren := {
  mixed := by kernel_rfl
  f125 := Try.func56.trans (congrArg some (by kernel_rfl))
  f128 := Try.func65.trans (congrArg some (by kernel_rfl))
  f129 := Try.func66.trans (congrArg some (by kernel_rfl))
  f189 := Try.func51.trans (congrArg some (by kernel_rfl))
  f215 := Try.func53.trans (congrArg some (by kernel_rfl))
  f216 := Try.func47.trans (congrArg some (by kernel_rfl))
  f257 := Try.func55.trans (congrArg some (by kernel_rfl))
  f294 := Try.func57.trans (congrArg some (by kernel_rfl))
  f295 := Try.func58.trans (congrArg some (by kernel_rfl))
  f296 := Try.func59.trans (congrArg some (by kernel_rfl))
  f297 := Try.func60.trans (congrArg some (by kernel_rfl))
  f298 := Try.func61.trans (congrArg some (by kernel_rfl))
  f299 := Try.func62.trans (congrArg some (by kernel_rfl))
  f300 := Try.func63.trans (congrArg some (by kernel_rfl))
  f301 := Try.func64.trans (congrArg some (by kernel_rfl))
  f328 := Try.func67.trans (congrArg some (by kernel_rfl))
  f329 := Try.func68.trans (congrArg some (by kernel_rfl))
  f330 := Try.func69.trans (congrArg some (by kernel_rfl))
  f331 := Try.func70.trans (congrArg some (by kernel_rfl))
  f332 := Try.func71.trans (congrArg some (by kernel_rfl))
  f343 := Try.func72.trans (congrArg some (by kernel_rfl))
  t0 := Try.underlying0
  a0 := Try.isAgg0
  z0 := Try.sizeOf0
  v0 := Try.zeroValue0
  t3 := Try.underlying3
  a3 := Try.isAgg3
  z3 := Try.sizeOf3
  v3 := Try.zeroValue3
  t4 := Try.underlying4
  a4 := Try.isAgg4
  z4 := Try.sizeOf4
  v4 := Try.zeroValue4
  t5 := Try.underlying5
  a5 := Try.isAgg5
  z5 := Try.sizeOf5
  v5 := Try.zeroValue5
  t9 := Try.underlying9
  a9 := Try.isAgg9
  z9 := Try.sizeOf9
  v9 := Try.zeroValue9
  t28 := Try.underlying29
  a28 := Try.isAgg29
  z28 := Try.sizeOf29
  v28 := Try.zeroValue29
  t46 := Try.underlying52
  a46 := Try.isAgg52
  z46 := Try.sizeOf52
  v46 := Try.zeroValue52
  t51 := Try.underlying67
  a51 := Try.isAgg67
  z51 := Try.sizeOf67
  v51 := Try.zeroValue67
  t53 := Try.underlying69
  a53 := Try.isAgg69
  z53 := Try.sizeOf69
  v53 := Try.zeroValue69
  t131 := Try.underlying64
  a131 := Try.isAgg64
  z131 := Try.sizeOf64
  v131 := Try.zeroValue64
  t182 := Try.underlying59
  a182 := Try.isAgg59
  z182 := Try.sizeOf59
  v182 := Try.zeroValue59
  t183 := Try.underlying60
  a183 := Try.isAgg60
  z183 := Try.sizeOf60
  v183 := Try.zeroValue60
  t218 := Try.underlying70
  a218 := Try.isAgg70
  z218 := Try.sizeOf70
  v218 := Try.zeroValue70
  t222 := Try.underlying74
  a222 := Try.isAgg74
  z222 := Try.sizeOf74
  v222 := Try.zeroValue74
  t228 := Try.underlying76
  a228 := Try.isAgg76
  z228 := Try.sizeOf76
  v228 := Try.zeroValue76
  t229 := Try.underlying77
  a229 := Try.isAgg77
  z229 := Try.sizeOf77
  v229 := Try.zeroValue77 }
open Go.Sort Go.RowKit in
theorem Try.slices_Sort_int (blk off cap : Nat) (zs : List Int) (w : World) (hH : Holds (Value.int .i64) w blk off zs.toArray) (hblk : blk < w.heap.size) (hsz : zs.length < 4611686018427387904) :
    Calls Try.prog 51 #[.slice (some ⟨blk, off, none⟩) zs.length cap] w fun e w' =>
      e = .returned (.tuple #[]) ∧ ∃ n os, w' = grow (putRow (Value.int .i64) (Sort.ahead w n) blk off (zs.mergeSort fun x y => decide (x ≤ y)).toArray) os := Any.slices_Sort_int Try.lays189 blk off cap zs w hH hblk hsz
def Try.laysNm215_ren : Go.Shelf.Ren := ⟨fun | 15 => 44 | n => n, fun | 22 => 29 | 3 => 3 | 4 => 4 | n => n, fun | n => n⟩
theorem Try.laysNm215 : Go.Proofs.Lays2.n15 Try.prog Try.laysNm215_ren := {
  mixed := by kernel_rfl
  f15 := Try.func44.trans (congrArg some (by kernel_rfl))
  t3 := Try.underlying3
  a3 := Try.isAgg3
  z3 := Try.sizeOf3
  v3 := Try.zeroValue3
  t4 := Try.underlying4
  a4 := Try.isAgg4
  z4 := Try.sizeOf4
  v4 := Try.zeroValue4
  t22 := Try.underlying29
  a22 := Try.isAgg29
  z22 := Try.sizeOf29
  v22 := Try.zeroValue29
  i3 := by kernel_rfl }
open Go.RowKit Go.Lib in
theorem Try.slices_Clone_int (b off n c : Nat) (zs : List Int) (w : World) (hz : n ≤ zs.length) (hbig : n * 8 ≤ 140737488355328) (hc : ∀ j, j < zs.length → w.cell? ⟨b, off + j, none⟩ = some (.int .i64 (zs.getD j 0))) :
    Calls Try.prog 44 #[.slice (some ⟨b, off, none⟩) n c] w fun e w' => ∃ v', e = .returned v' ∧ w'.ownsRow w.heap.size 3 1 v' n ((zs.take n).map (Value.int .i64)) ∧ v' ≠ .slice none 0 0 ∧ Below w.heap.size w w' := Any.slices_Clone_int Try.laysNm215 b off n c zs w hz hbig hc
open Go.RowKit Go.Lib in
theorem Try.slices_Clone_int_nil (n c : Nat) (w : World) :
    Calls Try.prog 44 #[.slice none n c] w fun e w' => e = .returned (.slice none 0 0) ∧ w' = w := Any.slices_Clone_int_nil Try.laysNm215 n c w
open Go.RowKit Go.Lib in
theorem Try.slices_Clone_int_zero (a : Addr) (c : Nat) (w : World) :
    Calls Try.prog 44 #[.slice (some a) 0 c] w fun e w' => ∃ v', e = .returned v' ∧ w'.ownsRow w.heap.size 3 1 v' 0 [] ∧ v' ≠ .slice none 0 0 ∧ Below w.heap.size w w' := Any.slices_Clone_int_zero Try.laysNm215 a c w
def Try.laysNm237_ren : Go.Shelf.Ren := ⟨fun | 37 => 53 | n => n, fun | 3 => 3 | 4 => 4 | n => n, fun | n => n⟩
theorem Try.laysNm237 : Go.Proofs.Lays2.n37 Try.prog Try.laysNm237_ren := {
  mixed := by kernel_rfl
  f37 := Try.func53.trans (congrArg some (by kernel_rfl))
  t3 := Try.underlying3
  a3 := Try.isAgg3
  z3 := Try.sizeOf3
  v3 := Try.zeroValue3
  t4 := Try.underlying4
  a4 := Try.isAgg4
  z4 := Try.sizeOf4
  v4 := Try.zeroValue4 }
open Go.RowKit Go.Lib in
theorem Try.cmp_isNaN_int2 (x : Int) (w : World) :
    Calls Try.prog 53 #[.int .i64 x] w fun e w' => e = .returned (.bool false) ∧ w' = w := Any.cmp_isNaN_int2 Try.laysNm237 x w
def Try.laysNm231_ren : Go.Shelf.Ren := ⟨fun | 31 => 47 | 37 => 53 | n => n, fun | 3 => 3 | 4 => 4 | n => n, fun | n => n⟩
theorem Try.laysNm231 : Go.Proofs.Lays2.n31 Try.prog Try.laysNm231_ren := {
  mixed := by kernel_rfl
  f31 := Try.func47.trans (congrArg some (by kernel_rfl))
  f37 := Try.func53.trans (congrArg some (by kernel_rfl))
  t3 := Try.underlying3
  a3 := Try.isAgg3
  z3 := Try.sizeOf3
  v3 := Try.zeroValue3
  t4 := Try.underlying4
  a4 := Try.isAgg4
  z4 := Try.sizeOf4
  v4 := Try.zeroValue4 }
open Go.RowKit Go.Lib in
theorem Try.cmp_Less_int2 (x y : Int) (w : World) :
    Calls Try.prog 47 #[.int .i64 x, .int .i64 y] w fun e w' => e = .returned (.bool (decide (x < y))) ∧ w' = w := Any.cmp_Less_int2 Try.laysNm231 x y w
open Go.RowKit Go.Sort in
theorem Try.slices_Sort_int_none (p : Option Addr) (cap : Nat) (w : World) :
    Calls Try.prog 51 #[.slice p 0 cap] w fun e w' => e = .returned (.tuple #[]) ∧ w' = w := Any.slices_Sort_int_none Try.lays189 p cap w
def Try.laysSlE041_f44_ren : Go.Shelf.Ren := ⟨fun | 41 => 44 | n => n, fun | 22 => 29 | 23 => 3 | 4 => 4 | n => n, fun | n => n⟩
theorem Try.laysSlE041_f44 : Go.Proofs.SlLaysE0.n41 Try.prog Try.laysSlE041_f44_ren := {
  mixed := by kernel_rfl
  f41 := ⟨Try.f44.name, by decide, Try.func44.trans (congrArg some (by kernel_rfl))⟩
  t4 := Try.underlying4
  a4 := Try.isAgg4
  z4 := Try.sizeOf4
  v4 := Try.zeroValue4
  t22 := Try.underlying29
  a22 := Try.isAgg29
  z22 := Try.sizeOf29
  v22 := Try.zeroValue29 }
open Go.RowKit Go.Lib in
theorem Try.slices_Clone (i0 : TypeInfo) (z : Value) (size bytes : Nat) (hi : Try.prog.info? 3 = some i0) (hz0 : i0.zero = some z) (hz1 : i0.size = size) (hz2 : i0.bytes = bytes) (hzs : z.cells.size = size) (hsz : 0 < size) (z23 : ∀ w, (Go.sizeOf 3).run Try.prog w = .ok size w) (b off n c : Nat) (news : List Value) (w : World) (hl : news.length = n * size) (hn : n ≤ maxLen) (hbig : n * bytes ≤ 140737488355328) (hc : ∀ j u, news[j]? = some u → w.cell? ⟨b, off + j, none⟩ = some u) (h1 : ∀ u ∈ news, u.oneCell' = true) :
    Calls Try.prog 44 #[.slice (some ⟨b, off, none⟩) n c] w fun e w' => ∃ v', e = .returned v' ∧ w'.ownsRow w.heap.size 3 size v' n news ∧ v' ≠ .slice none 0 0 ∧ Below w.heap.size w w' := AnyE.slices_Clone Try.laysSlE041_f44 i0 z size bytes hi hz0 hz1 hz2 hzs hsz z23 b off n c news w hl hn hbig hc h1
open Go.RowKit Go.Lib in
theorem Try.slices_Clone_nil (n c : Nat) (w : World) :
    Calls Try.prog 44 #[.slice none n c] w fun e w' => e = .returned (.slice none 0 0) ∧ w' = w := AnyE.slices_Clone_nil Try.laysSlE041_f44 n c w
end Go.Proofs
