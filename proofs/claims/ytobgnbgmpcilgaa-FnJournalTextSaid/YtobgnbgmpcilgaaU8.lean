/-
  What the proofs of this seat's statements share (MathP, MathF, MathG).
-/
import Derived.Test.YtobgnbgmpcilgaaU7

namespace Go.Proofs.Ytobgnbgmpcilgaa
open Go.RowKit

/-- The bytes of a text, as numbers. -/
def twoS (m : Nat) (x y : Sen) : Option Sen := if m = 38 then some (.and_ x y) else if m = 124 then some (.or_ x y) else if m = 62 then some (.if_ x y) else none
/-- The sentence at the head of a text, and what is left; n: no fewer than the bytes. -/
def readS (t : Int) : Nat → List Nat → Option (Sen × List Nat)
  | 0, _ => none
  | _ + 1, [] => none
  | n + 1, c :: l =>
    if c = 49 then some (.one, l) else if c = 48 then some (.zero, l)
    else if 97 ≤ c ∧ (c : Int) - 97 < t then some (.thing (c - 97), l)
    else if c = 33 then (readS t n l).map fun p => (.no p.1, p.2)
    else if c = 63 then (readS t n l).map fun p => (.ask p.1, p.2)
    else if c = 40 then
      match readS t n l with
      | some (x, m :: l2) =>
        match readS t n l2 with
        | some (y, e :: r) => if e = 41 then (twoS m x y).map fun z => (z, r) else none
        | _ => none
      | _ => none
    else none
theorem readS_less (t : Int) : ∀ (n : Nat) (l : List Nat) (x : Sen) (r : List Nat), readS t n l = some (x, r) → r.length < l.length
  | 0, _, _, _, h => by cases h
  | _ + 1, [], _, _, h => by cases h
  | n + 1, c :: l, x, r, h => by
    have ih := readS_less t n
    unfold readS at h
    split at h
    · cases h; simp
    split at h
    · cases h; simp
    split at h
    · cases h; simp
    split at h
    · obtain ⟨⟨y, q⟩, hy, e⟩ := Option.map_eq_some_iff.1 h
      cases e; have := ih _ _ _ hy; simp; omega
    split at h
    · obtain ⟨⟨y, q⟩, hy, e⟩ := Option.map_eq_some_iff.1 h
      cases e; have := ih _ _ _ hy; simp; omega
    split at h
    · split at h
      · rename_i x1 m l2 h1
        split at h
        · rename_i y1 e r1 h2
          split at h
          · obtain ⟨z, hz, e2⟩ := Option.map_eq_some_iff.1 h
            cases e2
            have := ih _ _ _ h1; have := ih _ _ _ h2; simp at *; omega
          · cases h
        · cases h
      · cases h
    · cases h
/-- More fuel than bytes changes nothing. -/
theorem readS_more (t : Int) : ∀ (n m : Nat) (l : List Nat), l.length ≤ n → l.length ≤ m → readS t n l = readS t m l
  | 0, 0, _, _, _ => rfl
  | 0, m + 1, l, h, _ => by
    have : l = [] := List.eq_nil_of_length_eq_zero (by omega)
    subst this; rfl
  | n + 1, 0, l, _, h => by
    have : l = [] := List.eq_nil_of_length_eq_zero (by omega)
    subst this; rfl
  | n + 1, m + 1, [], _, _ => rfl
  | n + 1, m + 1, c :: l, hn, hm => by
    simp only [List.length_cons] at hn hm
    have e1 := readS_more t n m l (by omega) (by omega)
    have e2 : ∀ x m' l2, readS t m l = some (x, m' :: l2) → readS t n l2 = readS t m l2 := fun x m' l2 h => by
      have := readS_less t m l x _ h
      simp only [List.length_cons] at this
      exact readS_more t n m l2 (by omega) (by omega)
    unfold readS
    rw [e1]
    rcases h : readS t m l with _ | ⟨x, _ | ⟨m', l2⟩⟩
    · rfl
    · rfl
    · simp only []
      rw [e2 x m' l2 h]
def textS : Sen → List Nat
  | .one => [49]
  | .zero => [48]
  | .thing i => [97 + i]
  | .no x => 33 :: textS x
  | .ask x => 63 :: textS x
  | .and_ x y => 40 :: (textS x ++ 38 :: (textS y ++ [41]))
  | .or_ x y => 40 :: (textS x ++ 124 :: (textS y ++ [41]))
  | .if_ x y => 40 :: (textS x ++ 62 :: (textS y ++ [41]))
theorem read_ok (t : Int) : ∀ (n : Nat) (l : List Nat) (x : Sen) (r : List Nat), readS t n l = some (x, r) → senOk t x = true ∧ l = textS x ++ r
  | 0, _, _, _, h => by cases h
  | _ + 1, [], _, _, h => by cases h
  | n + 1, c :: l, x, r, h => by
    have ih := read_ok t n
    unfold readS at h
    split at h
    · cases h; rename_i hc; subst hc; exact ⟨rfl, rfl⟩
    split at h
    · cases h; rename_i hc; subst hc; exact ⟨rfl, rfl⟩
    split at h
    · cases h; rename_i hc; exact ⟨by simp [senOk]; omega, by simp [textS]; omega⟩
    split at h
    · obtain ⟨⟨y, q⟩, hy, e⟩ := Option.map_eq_some_iff.1 h
      cases e; have := ih _ _ _ hy; rename_i hc; subst hc; exact ⟨this.1, by rw [this.2]; rfl⟩
    split at h
    · obtain ⟨⟨y, q⟩, hy, e⟩ := Option.map_eq_some_iff.1 h
      cases e; have := ih _ _ _ hy; rename_i hc; subst hc; exact ⟨this.1, by rw [this.2]; rfl⟩
    split at h
    · rename_i hc
      split at h
      · rename_i x1 m l2 h1
        split at h
        · rename_i y1 e r1 h2
          split at h
          · rename_i he
            obtain ⟨z, hz, e2⟩ := Option.map_eq_some_iff.1 h
            cases e2
            obtain ⟨a1, b1⟩ := ih _ _ _ h1
            obtain ⟨a2, b2⟩ := ih _ _ _ h2
            subst b1 b2 hc he
            unfold twoS at hz
            split at hz
            · cases hz; rename_i hm; subst hm; exact ⟨by simp [senOk, a1, a2], by simp [textS]⟩
            split at hz
            · cases hz; rename_i hm; subst hm; exact ⟨by simp [senOk, a1, a2], by simp [textS]⟩
            split at hz
            · cases hz; rename_i hm; subst hm; exact ⟨by simp [senOk, a1, a2], by simp [textS]⟩
            · cases hz
          · cases h
        · cases h
      · cases h
    · cases h
/-- The text of a sentence is read as the sentence, whatever stands behind it. -/
theorem read_text (t : Int) : ∀ (x : Sen) (n : Nat) (r : List Nat), senOk t x = true → t ≤ 26 → (textS x).length ≤ n → readS t n (textS x ++ r) = some (x, r)
  | .one, n + 1, r, _, _, _ => rfl
  | .zero, n + 1, r, _, _, _ => rfl
  | .thing i, n + 1, r, h, ht, _ => by
    simp only [senOk, decide_eq_true_eq] at h
    show readS t (n + 1) ((97 + i) :: r) = _
    unfold readS
    rw [if_neg (by omega), if_neg (by omega), if_pos (by omega)]
    congr 3; omega
  | .no x, n + 1, r, h, ht, hl => by
    simp only [textS, List.length_cons] at hl
    show readS t (n + 1) (33 :: (textS x ++ r)) = _
    unfold readS
    rw [if_neg (by omega), if_neg (by omega), if_neg (by omega), if_pos rfl, read_text t x n r h ht (by omega)]; rfl
  | .ask x, n + 1, r, h, ht, hl => by
    simp only [textS, List.length_cons] at hl
    show readS t (n + 1) (63 :: (textS x ++ r)) = _
    unfold readS
    rw [if_neg (by omega), if_neg (by omega), if_neg (by omega), if_neg (by omega), if_pos rfl, read_text t x n r h ht (by omega)]; rfl
  | .and_ x y, n + 1, r, h, ht, hl => by
    simp only [textS, List.length_cons, List.length_append, List.length_nil] at hl
    simp only [senOk, Bool.and_eq_true] at h
    show readS t (n + 1) (40 :: ((textS x ++ 38 :: (textS y ++ [41])) ++ r)) = _
    have e : (textS x ++ 38 :: (textS y ++ [41])) ++ r = textS x ++ (38 :: (textS y ++ (41 :: r))) := by simp
    rw [e]
    unfold readS
    rw [if_neg (by omega), if_neg (by omega), if_neg (by omega), if_neg (by omega), if_neg (by omega), if_pos rfl, read_text t x n _ h.1 ht (by omega)]
    simp only []
    rw [read_text t y n _ h.2 ht (by omega)]; rfl
  | .or_ x y, n + 1, r, h, ht, hl => by
    simp only [textS, List.length_cons, List.length_append, List.length_nil] at hl
    simp only [senOk, Bool.and_eq_true] at h
    show readS t (n + 1) (40 :: ((textS x ++ 124 :: (textS y ++ [41])) ++ r)) = _
    have e : (textS x ++ 124 :: (textS y ++ [41])) ++ r = textS x ++ (124 :: (textS y ++ (41 :: r))) := by simp
    rw [e]
    unfold readS
    rw [if_neg (by omega), if_neg (by omega), if_neg (by omega), if_neg (by omega), if_neg (by omega), if_pos rfl, read_text t x n _ h.1 ht (by omega)]
    simp only []
    rw [read_text t y n _ h.2 ht (by omega)]; rfl
  | .if_ x y, n + 1, r, h, ht, hl => by
    simp only [textS, List.length_cons, List.length_append, List.length_nil] at hl
    simp only [senOk, Bool.and_eq_true] at h
    show readS t (n + 1) (40 :: ((textS x ++ 62 :: (textS y ++ [41])) ++ r)) = _
    have e : (textS x ++ 62 :: (textS y ++ [41])) ++ r = textS x ++ (62 :: (textS y ++ (41 :: r))) := by simp
    rw [e]
    unfold readS
    rw [if_neg (by omega), if_neg (by omega), if_neg (by omega), if_neg (by omega), if_neg (by omega), if_pos rfl, read_text t x n _ h.1 ht (by omega)]
    simp only []
    rw [read_text t y n _ h.2 ht (by omega)]; rfl
  | .one, 0, _, _, _, hl => by simp [textS] at hl
  | .zero, 0, _, _, _, hl => by simp [textS] at hl
  | .thing _, 0, _, _, _, hl => by simp [textS] at hl
  | .no _, 0, _, _, _, hl => by simp [textS] at hl
  | .ask _, 0, _, _, _, hl => by simp [textS] at hl
  | .and_ _ _, 0, _, _, _, hl => by simp [textS] at hl
  | .or_ _ _, 0, _, _, _, hl => by simp [textS] at hl
  | .if_ _ _, 0, _, _, _, hl => by simp [textS] at hl
/-- The sentence of a text. -/
def senOf (t : Int) (l : List Nat) : Option Sen :=
  if 1 ≤ t ∧ t ≤ 3 ∧ l.length ≤ 60 then (match readS t l.length l with | some (x, []) => some x | _ => none) else none
theorem senOf_iff {t : Int} {l : List Nat} {x : Sen} : senOf t l = some x ↔ (1 ≤ t ∧ t ≤ 3 ∧ l.length ≤ 60 ∧ senOk t x = true ∧ l = textS x) := by
  unfold senOf
  constructor
  · intro h
    split at h
    · rename_i hc
      split at h
      · rename_i y hy
        cases h
        have := read_ok t _ _ _ _ hy
        simp at this
        exact ⟨hc.1, hc.2.1, hc.2.2, this.1, this.2⟩
      · cases h
    · cases h
  · rintro ⟨h1, h3, hl, hs, rfl⟩
    rw [if_pos ⟨h1, h3, hl⟩]
    have := read_text t x (textS x).length [] hs (by omega) (Nat.le_refl _)
    rw [List.append_nil] at this
    rw [this]

end Go.Proofs.Ytobgnbgmpcilgaa

namespace Go.Proofs.Ytobgnbgmpcilgaa
open Go.RowKit

/-- The sets of a list, each once, ascending. -/
def setL (xs : List Int) : List Int := ((List.range 256).map (fun n : Nat => (n : Int))).filter (fun s => decide (s ∈ xs))
/-- For each set of the first list, a choice of one of the second list. -/
def chooseX (t : Int) (a b : List Int) : List Int := a.foldl (fun out x => setL (bothX out (b.map fun y => orI (allOf t - x) y))) [allOf t]
def resS (t : Int) : Sen → List Int
  | .one => [allOf t]
  | .zero => [0]
  | .thing i => [letterSet t i]
  | .no x => [allOf t - unionI (resS t x)]
  | .ask x => setL (resS t x ++ [allOf t - unionI (resS t x)])
  | .and_ x y => setL (bothX (resS t x) (resS t y))
  | .or_ x y => setL (resS t x ++ resS t y)
  | .if_ x y => chooseX t (resS t x) (resS t y)

section
variable {t : Int} {a b : List Int}
theorem setL_mem {xs : List Int} (hr : ∀ x ∈ xs, 0 ≤ x ∧ x < 256) (s : Int) : s ∈ setL xs ↔ s ∈ xs := by
  unfold setL
  rw [List.mem_filter, List.mem_map, decide_eq_true_eq]
  constructor
  · exact fun h => h.2
  · intro h
    have := hr s h
    exact ⟨⟨s.toNat, by rw [List.mem_range]; omega, by omega⟩, h⟩
theorem setL_sub (xs : List Int) : ∀ s ∈ setL xs, s ∈ xs := fun s hs => by
  unfold setL at hs
  rw [List.mem_filter, decide_eq_true_eq] at hs
  exact hs.2
theorem setL_asc (xs : List Int) : (setL xs).Pairwise (· < ·) := by
  unfold setL
  refine List.Pairwise.sublist List.filter_sublist ?_
  rw [List.pairwise_map]
  exact List.pairwise_lt_range.imp (fun h => by omega)
theorem any_mem {xs ys : List Int} (h : ∀ x, x ∈ xs ↔ x ∈ ys) (s : Int) : anyWithin s xs = anyWithin s ys := by
  rw [Bool.eq_iff_iff, any_iff, any_iff]
  exact exists_congr fun x => and_congr_left fun _ => h x
theorem setL_any {xs : List Int} (hr : ∀ x ∈ xs, 0 ≤ x ∧ x < 256) (s : Int) : anyWithin s (setL xs) = anyWithin s xs := any_mem (setL_mem hr) s
/-- Good lists: not empty, of sets. -/
def Good (t : Int) (xs : List Int) : Prop := xs ≠ [] ∧ ∀ x ∈ xs, setOkB t x = true
theorem Good.range {xs : List Int} (h : Good t xs) : ∀ x ∈ xs, 0 ≤ x ∧ x < 256 := sets_range h.2
theorem Good.setL {xs : List Int} (h : Good t xs) : Good t (setL xs) := by
  refine ⟨fun e => ?_, fun x hx => h.2 x (setL_sub xs x hx)⟩
  obtain ⟨x, hx⟩ := List.exists_mem_of_ne_nil xs h.1
  have := (setL_mem h.range x).2 hx
  rw [e] at this; cases this
theorem Good.both {xs ys : List Int} (hx : Good t xs) (hy : ys ≠ []) : Good t (bothX xs ys) := by
  refine ⟨fun e => ?_, fun s hs => ?_⟩
  · obtain ⟨x, hx⟩ := List.exists_mem_of_ne_nil xs hx.1
    obtain ⟨y, hy⟩ := List.exists_mem_of_ne_nil ys hy
    have := mem_bothX.2 ⟨x, hx, y, hy, rfl⟩
    rw [e] at this; cases this
  · obtain ⟨x, hxm, y, _, rfl⟩ := mem_bothX.1 hs
    exact andI_ok (hx.2 x hxm)
theorem Good.append {xs ys : List Int} (hx : Good t xs) (hy : ∀ y ∈ ys, setOkB t y = true) : Good t (xs ++ ys) :=
  ⟨fun e => hx.1 (List.append_eq_nil_iff.1 e).1, fun s hs => by
    rcases List.mem_append.1 hs with h | h
    · exact hx.2 s h
    · exact hy s h⟩
theorem Good.one {x : Int} (h : setOkB t x = true) : Good t [x] := ⟨by simp, fun y hy => by rw [List.mem_singleton] at hy; rw [hy]; exact h⟩
theorem Good.things {xs : List Int} (h : Good t xs) : 1 ≤ t ∧ t ≤ 3 := by
  obtain ⟨x, hx⟩ := List.exists_mem_of_ne_nil xs h.1
  have := setOkB_lt (h.2 x hx); omega
theorem Good.union {xs : List Int} (h : Good t xs) : 0 ≤ unionI xs ∧ unionI xs ≤ allOf t := by
  have h1 := tidy_ok h.1 h.2
  rw [← union_tidy h.range]; exact union_all h1
theorem Good.rest {xs : List Int} (h : Good t xs) : setOkB t (allOf t - unionI xs) = true := by
  have := h.union; have h2 := h.things
  exact setOk_of h2.1 h2.2 (by omega) (by omega)
/-- Within the rest of a set or another one: what is in common with the set is within the other one. -/
theorem within_cond (h1 : 1 ≤ t) (h3 : t ≤ 3) {s x y : Int} (hs : 0 ≤ s) (hs2 : s ≤ allOf t) (hx : 0 ≤ x) (hx2 : x ≤ allOf t) : withinB s (orI (allOf t - x) y) = withinB (andI s x) y := by
  rw [Bool.eq_iff_iff, within_iff (andI_nonneg _ _), within_iff hs]
  obtain ⟨n, _, hn⟩ := all_pow h1 h3
  have e : (allOf t - x).toNat = 2 ^ n - (x.toNat + 1) := by rw [hn]; omega
  have hxl : x.toNat < 2 ^ n := by rw [hn] at hx2; omega
  have hsl : s.toNat < 2 ^ n := by rw [hn] at hs2; omega
  refine forall_congr' fun i => ?_
  show (_ → ((((allOf t - x).toNat ||| y.toNat : Nat) : Int)).toNat.testBit i = true) ↔ ((((s.toNat &&& x.toNat : Nat) : Int)).toNat.testBit i = true → _)
  rw [Int.toNat_natCast, Int.toNat_natCast, Nat.testBit_and, Nat.testBit_or, e, Nat.testBit_two_pow_sub_succ hxl]
  cases h5 : s.toNat.testBit i
  · simp
  · have : i < n := by
      rcases Nat.lt_or_ge i n with h | h
      · exact h
      · rw [Nat.testBit_lt_two_pow (Nat.lt_of_lt_of_le hsl (Nat.pow_le_pow_right (by omega) h))] at h5; cases h5
    cases x.toNat.testBit i <;> cases y.toNat.testBit i <;> simp [this]
theorem choose_step (hb : Good t b) {out : List Int} (ho : Good t out) {x : Int} (hx : setOkB t x = true) :
    Good t (setL (bothX out (b.map fun y => orI (allOf t - x) y))) ∧
    ∀ s, 0 ≤ s → s ≤ allOf t → anyWithin s (setL (bothX out (b.map fun y => orI (allOf t - x) y))) = (anyWithin s out && anyWithin (andI s x) b) := by
  obtain ⟨h1, h3, hx0, hxa, _⟩ := setOkB_lt hx
  have hg : Good t (bothX out (b.map fun y => orI (allOf t - x) y)) := ho.both (by intro e; exact hb.1 (List.map_eq_nil_iff.1 e))
  refine ⟨hg.setL, fun s hs hs2 => ?_⟩
  rw [setL_any hg.range, bothX_any s hs]
  congr 1
  rw [Bool.eq_iff_iff, any_iff, any_iff]
  constructor
  · rintro ⟨z, hz, hw⟩
    obtain ⟨y, hy, rfl⟩ := List.mem_map.1 hz
    exact ⟨y, hy, by rw [← within_cond h1 h3 hs hs2 hx0 hxa]; exact hw⟩
  · rintro ⟨y, hy, hw⟩
    exact ⟨_, List.mem_map.2 ⟨y, hy, rfl⟩, by rw [within_cond h1 h3 hs hs2 hx0 hxa]; exact hw⟩
theorem choose_fold (hb : Good t b) : ∀ (a : List Int), (∀ x ∈ a, setOkB t x = true) → ∀ out, Good t out →
    Good t (a.foldl (fun out x => setL (bothX out (b.map fun y => orI (allOf t - x) y))) out) ∧
    ∀ s, 0 ≤ s → s ≤ allOf t → anyWithin s (a.foldl (fun out x => setL (bothX out (b.map fun y => orI (allOf t - x) y))) out) = (anyWithin s out && goodB a b s)
  | [], _, out, ho => ⟨ho, fun s _ _ => by simp [goodB]⟩
  | x :: r, ha, out, ho => by
    have h1 := choose_step hb ho (ha x (by simp))
    have h2 := choose_fold hb r (fun y hy => ha y (by simp [hy])) _ h1.1
    refine ⟨h2.1, fun s hs hs2 => ?_⟩
    rw [List.foldl_cons, h2.2 s hs hs2, h1.2 s hs hs2]
    unfold goodB
    rw [List.all_cons, Bool.and_assoc]
theorem choose_good (ha : Good t a) (hb : Good t b) : Good t (chooseX t a b) := by
  obtain ⟨h1, h3⟩ := ha.things
  exact (choose_fold hb a ha.2 _ (Good.one (setOk_of h1 h3 (allOf_lt t).1 (Int.le_refl _)))).1
theorem choose_any (ha : Good t a) (hb : Good t b) {s : Int} (hs : 0 ≤ s) (hs2 : s ≤ allOf t) : anyWithin s (chooseX t a b) = goodB a b s := by
  obtain ⟨h1, h3⟩ := ha.things
  unfold chooseX
  rw [(choose_fold hb a ha.2 _ (Good.one (setOk_of h1 h3 (allOf_lt t).1 (Int.le_refl _)))).2 s hs hs2, any_one, (within_all h1 h3 hs).2 hs2, Bool.true_and]
theorem good_same {a' b' : List Int} (ha : ∀ u, 0 ≤ u → u ≤ allOf t → anyWithin u a = anyWithin u a') (hb : ∀ u, 0 ≤ u → u ≤ allOf t → anyWithin u b = anyWithin u b') {s : Int} (hs : 0 ≤ s) (hs2 : s ≤ allOf t) : goodB a b s = goodB a' b' s := by
  rw [Bool.eq_iff_iff, good_iff, good_iff]
  refine forall_congr' fun u => imp_congr_right fun hu => imp_congr_right fun hw => ?_
  have := within_le hw hs
  rw [ha u hu (by omega), hb u hu (by omega)]
theorem union_same (ha : Good t a) (hb : issueOkB t b = true) (h : ∀ u, 0 ≤ u → u ≤ allOf t → anyWithin u a = anyWithin u b) : unionI a = unionI b := by
  have e : tidyL a = b := any_ext (tidy_ok ha.1 ha.2) hb fun s hs hs2 => by rw [tidy_any ha.range hs]; exact h s hs hs2
  rw [← union_tidy ha.range, e]
/-- The issue is either of the resolutions. -/
theorem res_main (h1 : 1 ≤ t) (h3 : t ≤ 3) : ∀ x : Sen, Good t (resS t x) ∧ ∀ s, 0 ≤ s → s ≤ allOf t → anyWithin s (resS t x) = anyWithin s (issueS t x)
  | .one => ⟨Good.one (setOk_of h1 h3 (allOf_lt t).1 (Int.le_refl _)), fun _ _ _ => rfl⟩
  | .zero => ⟨Good.one (setOk_of h1 h3 (by omega) (allOf_lt t).1), fun _ _ _ => rfl⟩
  | .thing i => ⟨Good.one (letter_ok h1 h3 i), fun _ _ _ => rfl⟩
  | .no x => by
    obtain ⟨hg, ha⟩ := res_main h1 h3 x
    refine ⟨Good.one hg.rest, fun s _ _ => ?_⟩
    show anyWithin s [allOf t - unionI (resS t x)] = anyWithin s (notL t (issueS t x))
    rw [law_not (sen_issue h1 h3 x), union_same hg (sen_issue h1 h3 x) ha]
  | .ask x => by
    obtain ⟨hg, ha⟩ := res_main h1 h3 x
    have hg2 : Good t (resS t x ++ [allOf t - unionI (resS t x)]) := hg.append (Good.one hg.rest).2
    refine ⟨hg2.setL, fun s hs hs2 => ?_⟩
    show anyWithin s (setL _) = anyWithin s (whetherL t (issueS t x))
    rw [setL_any hg2.range, whether_eq (sen_issue h1 h3 x), either_any (sen_issue h1 h3 x) (not_ok (sen_issue h1 h3 x)) hs, ← ha s hs hs2, law_not (sen_issue h1 h3 x), union_same hg (sen_issue h1 h3 x) ha]
    unfold anyWithin; rw [List.any_append]
  | .and_ x y => by
    obtain ⟨hg, ha⟩ := res_main h1 h3 x
    obtain ⟨hg2, ha2⟩ := res_main h1 h3 y
    have hb := hg.both hg2.1
    refine ⟨hb.setL, fun s hs hs2 => ?_⟩
    show anyWithin s (setL _) = anyWithin s (bothL t (issueS t x) (issueS t y))
    rw [setL_any hb.range, bothX_any s hs, both_any (sen_issue h1 h3 x) (sen_issue h1 h3 y) hs, ha s hs hs2, ha2 s hs hs2]
  | .or_ x y => by
    obtain ⟨hg, ha⟩ := res_main h1 h3 x
    obtain ⟨hg2, ha2⟩ := res_main h1 h3 y
    have hb := hg.append hg2.2
    refine ⟨hb.setL, fun s hs hs2 => ?_⟩
    show anyWithin s (setL _) = anyWithin s (eitherL t (issueS t x) (issueS t y))
    rw [setL_any hb.range, either_any (sen_issue h1 h3 x) (sen_issue h1 h3 y) hs, ← ha s hs hs2, ← ha2 s hs hs2]
    unfold anyWithin; rw [List.any_append]
  | .if_ x y => by
    obtain ⟨hg, ha⟩ := res_main h1 h3 x
    obtain ⟨hg2, ha2⟩ := res_main h1 h3 y
    refine ⟨choose_good hg hg2, fun s hs hs2 => ?_⟩
    show anyWithin s (chooseX t _ _) = anyWithin s (ifL t (issueS t x) (issueS t y))
    rw [choose_any hg hg2 hs hs2, if_any (sen_issue h1 h3 x) (sen_issue h1 h3 y) hs hs2, good_same ha ha2 hs hs2]
theorem res_tidy (h1 : 1 ≤ t) (h3 : t ≤ 3) (x : Sen) : tidyL (resS t x) = issueS t x := by
  obtain ⟨hg, ha⟩ := res_main h1 h3 x
  exact any_ext (tidy_ok hg.1 hg.2) (sen_issue h1 h3 x) fun s hs hs2 => by rw [tidy_any hg.range hs]; exact ha s hs hs2
theorem res_from (h1 : 1 ≤ t) (h3 : t ≤ 3) (x : Sen) (hl : (resS t x).length ≤ 70) : issueFromL t (resS t x) = issueS t x := by
  obtain ⟨hg, _⟩ := res_main h1 h3 x
  rw [from_ok, res_tidy h1 h3]
  unfold partsOkB
  simp only [Bool.and_eq_true, decide_eq_true_eq, List.all_eq_true]
  exact ⟨⟨List.length_pos_iff.2 hg.1, hl⟩, hg.2⟩
theorem res_follows (h1 : 1 ≤ t) (h3 : t ≤ 3) (x y : Sen) : ((resS t x).all fun r => anyWithin r (resS t y)) = followsB t (issueS t x) (issueS t y) := by
  obtain ⟨hg, ha⟩ := res_main h1 h3 x
  obtain ⟨hg2, ha2⟩ := res_main h1 h3 y
  rw [Bool.eq_iff_iff, List.all_eq_true, follows_iff (sen_issue h1 h3 x) (sen_issue h1 h3 y)]
  constructor
  · intro h s hs hs2 hsa
    rw [← ha s hs hs2] at hsa
    rw [← ha2 s hs hs2]
    obtain ⟨r, hr, hw⟩ := any_iff.1 hsa
    exact any_down hs (hg.range r hr).1 hw (h r hr)
  · intro h r hr
    have := setOkB_lt (hg.2 r hr)
    rw [ha2 r this.2.2.1 this.2.2.2.1]
    refine h r this.2.2.1 this.2.2.2.1 ?_
    rw [← ha r this.2.2.1 this.2.2.2.1]
    exact any_iff.2 ⟨r, hr, within_refl r this.2.2.1⟩
end
end Go.Proofs.Ytobgnbgmpcilgaa

namespace Go.Proofs.Ytobgnbgmpcilgaa
open Go.RowKit

/-- The worlds below k of which p is so, as a set. -/
def setOfW (p : Nat → Bool) : Nat → Nat
  | 0 => 0
  | k + 1 => setOfW p k + if p k = true then 2 ^ k else 0
theorem setOfW_lt (p : Nat → Bool) : ∀ k, setOfW p k < 2 ^ k
  | 0 => by simp [setOfW]
  | k + 1 => by
    have := setOfW_lt p k
    unfold setOfW
    rw [Nat.pow_succ]
    split <;> omega
theorem setOfW_bit (p : Nat → Bool) : ∀ k v, (setOfW p k).testBit v = (decide (v < k) && p v)
  | 0, v => by simp [setOfW]
  | k + 1, v => by
    have hlt := setOfW_lt p k
    have ih := setOfW_bit p k v
    unfold setOfW
    by_cases hp : p k = true
    · rw [if_pos hp, Nat.add_comm]
      rcases Nat.lt_trichotomy v k with h | h | h
      · rw [Nat.testBit_two_pow_add_gt h, ih, decide_eq_true h, decide_eq_true (show v < k + 1 by omega)]
      · subst h
        rw [Nat.testBit_two_pow_add_eq, Nat.testBit_lt_two_pow hlt, hp]; simp
      · rw [Nat.testBit_lt_two_pow (by
          have : 2 ^ (k + 1) ≤ 2 ^ v := Nat.pow_le_pow_right (by omega) (by omega)
          rw [Nat.pow_succ] at this; omega), decide_eq_false (show ¬ v < k + 1 by omega)]; rfl
    · rw [if_neg hp, Nat.add_zero, ih]
      by_cases h : v = k
      · subst h
        rw [decide_eq_false (show ¬ v < v by omega)]
        cases hv : p v
        · simp
        · exact absurd hv hp
      · by_cases h2 : v < k
        · rw [decide_eq_true h2, decide_eq_true (show v < k + 1 by omega)]
        · rw [decide_eq_false h2, decide_eq_false (show ¬ v < k + 1 by omega)]

def isPartB (t : Int) (xs : List Int) : Bool := issueOkB t xs && (List.range (nWorlds t)).all fun w => decide ((xs.filter fun x => hasW x w).length = 1)
def sameIn (sets : List Int) (v w : Nat) : Bool := sets.all fun x => hasW x v == hasW x w
def partOf (t : Int) (sets : List Int) (w : Nat) : Int := (setOfW (fun v => sameIn sets v w) (nWorlds t) : Int)
def partsX (t : Int) (sets : List Int) : List Int := (List.range (nWorlds t)).map (partOf t sets)
def asksL (t : Int) (sets : List Int) : List Int := if (sets.all (setOkB t) && decide (1 ≤ t ∧ t ≤ 3) && decide (sets.length ≤ 70)) = true then tidyL (partsX t sets) else []

section
variable {t : Int} {sets : List Int}
theorem nW_pos (h1 : 1 ≤ t) (h3 : t ≤ 3) : 2 ≤ nWorlds t ∧ allOf t = ((2 ^ nWorlds t : Nat) : Int) - 1 := by
  have : t = 1 ∨ t = 2 ∨ t = 3 := by omega
  rcases this with rfl | rfl | rfl
  · exact ⟨by decide, rfl⟩
  · exact ⟨by decide, rfl⟩
  · exact ⟨by decide, rfl⟩
theorem part_has (w v : Nat) : hasW (partOf t sets w) v = (decide (v < nWorlds t) && sameIn sets v w) := by
  unfold hasW partOf; rw [Int.toNat_natCast, setOfW_bit]
theorem part_ok (h1 : 1 ≤ t) (h3 : t ≤ 3) (w : Nat) : setOkB t (partOf t sets w) = true := by
  have := setOfW_lt (fun v => sameIn sets v w) (nWorlds t)
  have h2 := (nW_pos h1 h3).2
  have e : partOf t sets w = ((setOfW (fun v => sameIn sets v w) (nWorlds t) : Nat) : Int) := rfl
  generalize setOfW (fun v => sameIn sets v w) (nWorlds t) = q at this e
  generalize 2 ^ nWorlds t = m at this h2
  exact setOk_of h1 h3 (by omega) (by omega)
theorem same_refl (w : Nat) : sameIn sets w w = true := by unfold sameIn; simp
theorem same_symm {v w : Nat} (h : sameIn sets v w = true) : sameIn sets w v = true := by
  unfold sameIn at *
  rw [List.all_eq_true] at *
  intro x hx
  have := h x hx
  simp only [beq_iff_eq] at *
  exact this.symm
theorem same_trans {u v w : Nat} (h : sameIn sets u v = true) (h2 : sameIn sets v w = true) : sameIn sets u w = true := by
  unfold sameIn at *
  rw [List.all_eq_true] at *
  intro x hx
  have a := h x hx
  have b := h2 x hx
  simp only [beq_iff_eq] at *
  exact a.trans b
theorem has_ext {x y : Int} (hx : 0 ≤ x) (hy : 0 ≤ y) (h : ∀ w, hasW x w = hasW y w) : x = y := by
  have : x.toNat = y.toNat := Nat.eq_of_testBit_eq h
  omega
theorem within_has {x y : Int} (hx : 0 ≤ x) : withinB x y = true ↔ ∀ w, hasW x w = true → hasW y w = true := within_iff hx
theorem part_self {w : Nat} (hw : w < nWorlds t) : hasW (partOf t sets w) w = true := by rw [part_has, decide_eq_true hw, same_refl]; rfl
theorem part_eq {v w : Nat} (h : sameIn sets v w = true) : partOf t sets v = partOf t sets w := by
  refine has_ext (Int.natCast_nonneg _) (Int.natCast_nonneg _) fun u => ?_
  rw [part_has, part_has]
  congr 1
  rw [Bool.eq_iff_iff]
  exact ⟨fun h2 => same_trans h2 h, fun h2 => same_trans h2 (same_symm h)⟩
theorem mem_parts {x : Int} : x ∈ partsX t sets ↔ ∃ w, w < nWorlds t ∧ partOf t sets w = x := by
  unfold partsX; rw [List.mem_map]; simp [List.mem_range]
theorem parts_sets (h1 : 1 ≤ t) (h3 : t ≤ 3) : ∀ x ∈ partsX t sets, setOkB t x = true := by
  intro x hx
  obtain ⟨w, _, rfl⟩ := mem_parts.1 hx
  exact part_ok h1 h3 w
/-- Parts are within no other parts. -/
theorem parts_apart {x y : Int} (hx : x ∈ partsX t sets) (hy : y ∈ partsX t sets) (h : withinB x y = true) : x = y := by
  obtain ⟨v, hv, rfl⟩ := mem_parts.1 hx
  obtain ⟨w, _, rfl⟩ := mem_parts.1 hy
  have := (within_has (Int.natCast_nonneg _)).1 h v (part_self hv)
  rw [part_has, Bool.and_eq_true] at this
  exact part_eq this.2
theorem tidy_parts (h1 : 1 ≤ t) (h3 : t ≤ 3) (x : Int) : x ∈ tidyL (partsX t sets) ↔ x ∈ partsX t sets := by
  rw [tidy_mem (sets_range (parts_sets h1 h3))]
  refine ⟨fun h => h.1, fun h => ⟨h, fun y hy => ?_⟩⟩
  cases hw : withinB x y
  · exact .inr rfl
  · exact .inl (parts_apart h hy hw).symm
theorem parts_good (h1 : 1 ≤ t) (h3 : t ≤ 3) : Good t (partsX t sets) :=
  ⟨fun e => by
    have := mem_parts (t := t) (sets := sets) (x := partOf t sets 0)
    rw [e] at this
    exact absurd (this.2 ⟨0, by have := (nW_pos h1 h3).1; omega, rfl⟩) (by simp), parts_sets h1 h3⟩
theorem count_one {xs : List Int} {w : Nat} (hd : xs.Nodup) {x : Int} (hx : x ∈ xs) (hw : hasW x w = true) (hu : ∀ y ∈ xs, hasW y w = true → y = x) : (xs.filter fun x => hasW x w).length = 1 := by
  have e : xs.filter (fun x => hasW x w) = [x] := by
    have hm : ∀ y, y ∈ xs.filter (fun x => hasW x w) ↔ y = x := by
      intro y
      rw [List.mem_filter]
      exact ⟨fun h => hu y h.1 h.2, fun h => by rw [h]; exact ⟨hx, hw⟩⟩
    have hd2 : (xs.filter fun x => hasW x w).Nodup := hd.sublist List.filter_sublist
    match h : xs.filter (fun x => hasW x w), hm, hd2 with
    | [], hm, _ => have := (hm x).2 rfl; simp at this
    | [y], hm, _ => rw [(hm y).1 (by simp)]
    | y :: z :: r, hm, hd2 =>
      have a := (hm y).1 (by simp)
      have b := (hm z).1 (by simp)
      rw [List.nodup_cons] at hd2
      exact absurd (by rw [a, b]; simp) hd2.1
  rw [e]; rfl
theorem asc_nodup {xs : List Int} (h : xs.Pairwise (· < ·)) : xs.Nodup := h.imp fun h => by omega
/-- Whether some are so is a partition. -/
theorem parts_partition (h1 : 1 ≤ t) (h3 : t ≤ 3) : isPartB t (tidyL (partsX t sets)) = true := by
  have hg := parts_good (sets := sets) h1 h3
  unfold isPartB
  rw [tidy_ok hg.1 hg.2, Bool.true_and, List.all_eq_true]
  intro w hw
  rw [List.mem_range] at hw
  rw [decide_eq_true_eq]
  refine count_one (asc_nodup (tidy_asc _)) ((tidy_parts h1 h3 _).2 (mem_parts.2 ⟨w, hw, rfl⟩)) (part_self hw) fun y hy hyw => ?_
  obtain ⟨v, hv, rfl⟩ := mem_parts.1 ((tidy_parts h1 h3 y).1 hy)
  rw [part_has, Bool.and_eq_true] at hyw
  exact (part_eq hyw.2).symm
theorem asks_eq (h1 : 1 ≤ t) (h3 : t ≤ 3) (hs : ∀ x ∈ sets, setOkB t x = true) (hl : sets.length ≤ 70) : asksL t sets = tidyL (partsX t sets) := by
  unfold asksL
  rw [if_pos]
  simp only [Bool.and_eq_true, decide_eq_true_eq, List.all_eq_true]
  exact ⟨⟨hs, h1, h3⟩, hl⟩
/-- Settled: all worlds of the set are in the same ones of the sets. -/
theorem parts_any (h1 : 1 ≤ t) (h3 : t ≤ 3) {s : Int} (hs : 0 ≤ s) (hs2 : s ≤ allOf t) : anyWithin s (partsX t sets) = true ↔ ∀ v w, hasW s v = true → hasW s w = true → sameIn sets v w = true := by
  rw [any_iff]
  constructor
  · rintro ⟨x, hx, hw⟩ v w hv hw2
    obtain ⟨u, _, rfl⟩ := mem_parts.1 hx
    rw [within_has hs] at hw
    have a := hw v hv
    have b := hw w hw2
    rw [part_has, Bool.and_eq_true] at a b
    exact same_trans a.2 (same_symm b.2)
  · intro h
    by_cases he : ∃ v, hasW s v = true
    · obtain ⟨v, hv⟩ := he
      refine ⟨_, mem_parts.2 ⟨v, has_lt h1 h3 hs hs2 hv, rfl⟩, (within_has hs).2 fun w hw => ?_⟩
      rw [part_has, decide_eq_true (has_lt h1 h3 hs hs2 hw), h w v hw hv]; rfl
    · refine ⟨_, mem_parts.2 ⟨0, by have := (nW_pos h1 h3).1; omega, rfl⟩, (within_has hs).2 fun w hw => absurd ⟨w, hw⟩ he⟩
theorem whether_one {x s : Int} (hx : setOkB t x = true) (hs : 0 ≤ s) (hs2 : s ≤ allOf t) : anyWithin s (whetherL t [x]) = true ↔ ∀ v w, hasW s v = true → hasW s w = true → hasW x v = hasW x w := by
  obtain ⟨h1, h3, hx0, hxa, _⟩ := setOkB_lt hx
  have hi := issue_one hx
  rw [whether_eq hi, either_any hi (not_ok hi) hs, law_not hi, union_one hx0, any_one, any_one, Bool.or_eq_true, comp_within h1 h3 hs hs2 hx0 hxa, within_has hs]
  constructor
  · rintro (h | h) v w hv hw
    · rw [h v hv, h w hw]
    · have h2 : s.toNat &&& x.toNat = 0 := by unfold andI at h; omega
      have key : ∀ u, hasW s u = true → hasW x u = false := fun u hu => by
        have := congrArg (fun y => y.testBit u) h2
        simp only [Nat.testBit_and, Nat.zero_testBit] at this
        unfold hasW at *
        rw [hu] at this; simpa using this
      rw [key v hv, key w hw]
  · intro h
    by_cases he : ∃ v, hasW s v = true ∧ hasW x v = false
    · obtain ⟨v, hv, hxv⟩ := he
      right
      have : s.toNat &&& x.toNat = 0 := by
        apply Nat.eq_of_testBit_eq
        intro i
        rw [Nat.testBit_and, Nat.zero_testBit]
        cases hi : s.toNat.testBit i
        · rfl
        · have := h i v hi hv
          rw [hxv] at this
          unfold hasW at this
          rw [this]; rfl
      unfold andI; omega
    · left
      intro w hw
      cases hxw : hasW x w
      · exact absurd ⟨w, hw, hxw⟩ he
      · rfl
theorem law_asks (h1 : 1 ≤ t) (h3 : t ≤ 3) (hsets : ∀ x ∈ sets, setOkB t x = true) {s : Int} (hs : 0 ≤ s) (hs2 : s ≤ allOf t) :
    settlesB t (tidyL (partsX t sets)) s = sets.all fun x => settlesB t (whetherL t [x]) s := by
  have hg := parts_good (sets := sets) h1 h3
  rw [settles_any (tidy_ok hg.1 hg.2) hs hs2, tidy_any hg.range hs, Bool.eq_iff_iff, parts_any h1 h3 hs hs2, List.all_eq_true]
  constructor
  · intro h x hx
    rw [settles_any (whether_ok (issue_one (hsets x hx))) hs hs2, whether_one (hsets x hx) hs hs2]
    intro v w hv hw
    have := h v w hv hw
    unfold sameIn at this
    rw [List.all_eq_true] at this
    simpa using this x hx
  · intro h v w hv hw
    unfold sameIn
    rw [List.all_eq_true]
    intro x hx
    have := h x hx
    rw [settles_any (whether_ok (issue_one (hsets x hx))) hs hs2, whether_one (hsets x hx) hs hs2] at this
    rw [this v w hv hw]; simp
/-- In a partition each world is in just one set. -/
theorem part_unique {xs : List Int} (h : isPartB t xs = true) {w : Nat} (hw : w < nWorlds t) : ∃ x ∈ xs, hasW x w = true ∧ ∀ y ∈ xs, hasW y w = true → y = x := by
  unfold isPartB at h
  rw [Bool.and_eq_true, List.all_eq_true] at h
  have := h.2 w (List.mem_range.2 hw)
  rw [decide_eq_true_eq] at this
  match e : xs.filter (fun x => hasW x w), this with
  | [x], _ =>
    have hm : ∀ y, y ∈ xs.filter (fun x => hasW x w) ↔ y = x := fun y => by rw [e]; simp
    have h1 := (hm x).2 rfl
    rw [List.mem_filter] at h1
    exact ⟨x, h1.1, h1.2, fun y hy hyw => (hm y).1 (List.mem_filter.2 ⟨hy, hyw⟩)⟩
theorem part_issue {xs : List Int} (h : isPartB t xs = true) : issueOkB t xs = true := by
  unfold isPartB at h; rw [Bool.and_eq_true] at h; exact h.1
/-- Parts are whether they are so. -/
theorem law_isPart {xs : List Int} (hx : issueOkB t xs = true) : decide (tidyL (partsX t xs) = xs) = isPartB t xs := by
  obtain ⟨h1, h3⟩ := issue_things hx
  rw [Bool.eq_iff_iff, decide_eq_true_eq]
  constructor
  · intro h; rw [← h]; exact parts_partition h1 h3
  · intro h
    have hg := parts_good (sets := xs) h1 h3
    refine any_ext (tidy_ok hg.1 hg.2) hx fun s hs hs2 => ?_
    rw [tidy_any hg.range hs, Bool.eq_iff_iff, parts_any h1 h3 hs hs2]
    constructor
    · intro hsame
      by_cases he : ∃ v, hasW s v = true
      · obtain ⟨v, hv⟩ := he
        obtain ⟨x, hxm, hxv, _⟩ := part_unique h (has_lt h1 h3 hs hs2 hv)
        refine any_iff.2 ⟨x, hxm, (within_has hs).2 fun w hw => ?_⟩
        have := hsame v w hv hw
        unfold sameIn at this
        rw [List.all_eq_true] at this
        have := this x hxm
        rw [hxv] at this
        simpa using this.symm
      · obtain ⟨x, hxm⟩ := List.exists_mem_of_ne_nil xs (issue_nonempty hx)
        exact any_iff.2 ⟨x, hxm, (within_has hs).2 fun w hw => absurd ⟨w, hw⟩ he⟩
    · intro ha v w hv hw
      obtain ⟨x, hxm, hwx⟩ := any_iff.1 ha
      rw [within_has hs] at hwx
      obtain ⟨z, _, _, huv⟩ := part_unique h (has_lt h1 h3 hs hs2 hv)
      obtain ⟨z2, _, _, huw⟩ := part_unique h (has_lt h1 h3 hs hs2 hw)
      unfold sameIn
      rw [List.all_eq_true]
      intro y hy
      rw [beq_iff_eq, Bool.eq_iff_iff]
      constructor
      · intro hyv
        have : y = x := (huv y hy hyv).trans (huv x hxm (hwx v hv)).symm
        rw [this]; exact hwx w hw
      · intro hyw
        have : y = x := (huw y hy hyw).trans (huw x hxm (hwx w hw)).symm
        rw [this]; exact hwx v hv
end
end Go.Proofs.Ytobgnbgmpcilgaa
