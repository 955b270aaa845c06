/-
  What the proofs of this seat's statements share (MathO, MathQ, MathR, MathS).
-/
import Derived.Test.YtobgnbgmpcilgaaU8
import Derived.Test.YtobgnbgmpcilgaaU14

namespace Go.Proofs.Ytobgnbgmpcilgaa
open Go.RowKit

inductive Ld where
  | one : Ld
  | zero : Ld
  | thing : Nat → Ld
  | no : Ld → Ld
  | pre : Ld → Ld → Ld
  | and_ : Ld → Ld → Ld
  | or_ : Ld → Ld → Ld
  | if_ : Ld → Ld → Ld
  deriving DecidableEq
/-- What a loaded sentence leaves of a set; none where it makes no sense. -/
def chgI (t : Int) : Ld → Int → Option Int
  | .one, s => some s
  | .zero, _ => some 0
  | .thing i, s => some (andI s (letterSet t i))
  | .no x, s => (chgI t x s).map fun u => s - u
  | .pre x y, s => (chgI t x s).bind fun u => if u = s then chgI t y s else none
  | .and_ x y, s => (chgI t x s).bind fun u => chgI t y u
  | .or_ x y, s => (chgI t x s).bind fun u => (chgI t y (s - u)).map fun v => u + v
  | .if_ x y, s => (chgI t x s).bind fun u => (chgI t y u).map fun v => s - (u - v)
/-- Whether it leaves a world, where it makes sense. -/
def leftW (t : Int) : Ld → Nat → Bool
  | .one, _ => true
  | .zero, _ => false
  | .thing i, w => hasW (letterSet t i) w
  | .no x, w => !leftW t x w
  | .pre _ y, w => leftW t y w
  | .and_ x y, w => leftW t x w && leftW t y w
  | .or_ x y, w => leftW t x w || leftW t y w
  | .if_ x y, w => !leftW t x w || leftW t y w
/-- Whether it makes sense for a world alone. -/
def needW (t : Int) : Ld → Nat → Bool
  | .one, _ => true
  | .zero, _ => true
  | .thing _, _ => true
  | .no x, w => needW t x w
  | .pre x y, w => needW t x w && leftW t x w && needW t y w
  | .and_ x y, w => needW t x w && (!leftW t x w || needW t y w)
  | .or_ x y, w => needW t x w && (leftW t x w || needW t y w)
  | .if_ x y, w => needW t x w && (!leftW t x w || needW t y w)
def leftN (t : Int) (x : Ld) : Int := (setOfW (leftW t x) 8 : Int)
def SubW (s : Int) (p : Nat → Bool) : Prop := ∀ w, hasW s w = true → p w = true
theorem has8 {s : Int} (hs : 0 ≤ s) (h8 : s < 256) {w : Nat} (h : hasW s w = true) : w < 8 := by
  unfold hasW at h
  have h1 : s.toNat < 2 ^ 8 := by omega
  rcases Nat.lt_or_ge w 8 with hw | hw
  · exact hw
  · rw [Nat.testBit_lt_two_pow (Nat.lt_of_lt_of_le h1 (Nat.pow_le_pow_right (by omega) hw))] at h
    cases h
theorem has_left {t : Int} {x : Ld} {w : Nat} (hw : w < 8) : hasW (leftN t x) w = leftW t x w := by
  unfold hasW leftN
  rw [Int.toNat_natCast, setOfW_bit, decide_eq_true hw, Bool.true_and]
theorem has_cut {t : Int} {x : Ld} {s : Int} (hs : 0 ≤ s) (h8 : s < 256) (w : Nat) : hasW (andI s (leftN t x)) w = (hasW s w && leftW t x w) := by
  rw [has_and]
  cases h : hasW s w
  · rfl
  · rw [has_left (has8 hs h8 h)]
theorem has_rest {t : Int} {x : Ld} {s : Int} (hs : 0 ≤ s) (h8 : s < 256) (w : Nat) : hasW (s - andI s (leftN t x)) w = (hasW s w && !leftW t x w) := by
  rw [has_sub w hs]
  cases h : hasW s w
  · rfl
  · rw [has_left (has8 hs h8 h)]
theorem cut_bounds {s q : Int} (hs : 0 ≤ s) (h8 : s < 256) : 0 ≤ andI s q ∧ andI s q ≤ s ∧ andI s q < 256 ∧ 0 ≤ s - andI s q ∧ s - andI s q < 256 := by
  have h1 := andI_nonneg s q
  have h2 := andI_le s q hs
  exact ⟨h1, h2, by omega, by omega, by omega⟩
theorem has_less {s r : Int} (hs : 0 ≤ s) (hr : 0 ≤ r) (h : ∀ w, hasW r w = true → hasW s w = true) : 0 ≤ s - r ∧ ∀ w, hasW (s - r) w = (hasW s w && !hasW r w) := by
  have e : r = andI s r := has_ext hr (andI_nonneg _ _) fun w => by
    rw [has_and]
    cases hw : hasW r w
    · simp
    · rw [h w hw]; rfl
  have := andI_le s r hs
  refine ⟨by omega, fun w => ?_⟩
  conv => lhs; rw [e]
  exact has_sub w hs
/-- A loaded sentence makes sense for a set exactly if it does for each world, and leaves what it leaves of each. -/
theorem chg_spec (t : Int) : ∀ (x : Ld) (s : Int), 0 ≤ s → s < 256 → (SubW s (needW t x) → chgI t x s = some (andI s (leftN t x))) ∧ (¬ SubW s (needW t x) → chgI t x s = none) := by
  intro x
  induction x with
  | one =>
    intro s hs h8
    refine ⟨fun _ => congrArg some (has_ext hs (andI_nonneg _ _) fun w => ?_), fun h => absurd (fun w _ => rfl) h⟩
    rw [has_cut hs h8]; simp [leftW]
  | zero =>
    intro s hs h8
    refine ⟨fun _ => congrArg some (has_ext (Int.le_refl 0) (andI_nonneg _ _) fun w => ?_), fun h => absurd (fun w _ => rfl) h⟩
    rw [has_cut hs h8]; simp [leftW, hasW]
  | thing i =>
    intro s hs h8
    refine ⟨fun _ => congrArg some (has_ext (andI_nonneg _ _) (andI_nonneg _ _) fun w => ?_), fun h => absurd (fun w _ => rfl) h⟩
    rw [has_cut hs h8, has_and]; rfl
  | no x ih =>
    intro s hs h8
    obtain ⟨h1, h2⟩ := ih s hs h8
    refine ⟨fun h => ?_, fun h => ?_⟩
    · show (chgI t x s).map _ = _
      rw [h1 h]
      refine congrArg some (has_ext (cut_bounds hs h8).2.2.2.1 (andI_nonneg _ _) fun w => ?_)
      rw [has_rest hs h8, has_cut hs h8]; rfl
    · show (chgI t x s).map _ = _
      rw [h2 h]; rfl
  | pre x y ihx ihy =>
    intro s hs h8
    obtain ⟨h1, h2⟩ := ihx s hs h8
    obtain ⟨h3, h4⟩ := ihy s hs h8
    have hcut : andI s (leftN t x) = s ↔ SubW s (leftW t x) := by
      refine ⟨fun e w hw => ?_, fun h => has_ext (andI_nonneg _ _) hs fun w => ?_⟩
      · rw [← e, has_cut hs h8, Bool.and_eq_true] at hw
        exact hw.2
      · rw [has_cut hs h8]
        cases hw : hasW s w
        · rfl
        · rw [h w hw]; rfl
    refine ⟨fun h => ?_, fun h => ?_⟩
    · have g : ∀ w, hasW s w = true → needW t x w = true ∧ leftW t x w = true ∧ needW t y w = true := fun w hw => by
        have := h w hw
        simp [needW] at this
        exact ⟨this.1.1, this.1.2, this.2⟩
      show (chgI t x s).bind _ = _
      rw [h1 fun w hw => (g w hw).1, Option.bind_some, if_pos (hcut.2 fun w hw => (g w hw).2.1), h3 fun w hw => (g w hw).2.2]
      rfl
    · show (chgI t x s).bind _ = _
      by_cases hx : SubW s (needW t x)
      · rw [h1 hx, Option.bind_some]
        by_cases hl : SubW s (leftW t x)
        · rw [if_pos (hcut.2 hl)]
          refine h4 fun hy => h fun w hw => ?_
          simp [needW, hx w hw, hl w hw, hy w hw]
        · rw [if_neg fun e => hl (hcut.1 e)]
      · rw [h2 hx]; rfl
  | and_ x y ihx ihy =>
    intro s hs h8
    obtain ⟨h1, h2⟩ := ihx s hs h8
    obtain ⟨b1, b2, b3, b4, b5⟩ := cut_bounds (q := leftN t x) hs h8
    obtain ⟨h3, h4⟩ := ihy (andI s (leftN t x)) b1 b3
    refine ⟨fun h => ?_, fun h => ?_⟩
    · show (chgI t x s).bind _ = _
      rw [h1 fun w hw => by have := h w hw; simp [needW] at this; exact this.1, Option.bind_some, h3 fun w hw => ?_]
      · refine congrArg some (has_ext (andI_nonneg _ _) (andI_nonneg _ _) fun w => ?_)
        rw [has_cut b1 b3, has_cut hs h8, has_cut hs h8, Bool.and_assoc]; rfl
      · rw [has_cut hs h8, Bool.and_eq_true] at hw
        have := h w hw.1
        simp [needW, hw.2] at this
        exact this.2
    · show (chgI t x s).bind _ = _
      by_cases hx : SubW s (needW t x)
      · rw [h1 hx, Option.bind_some]
        refine h4 fun hy => h fun w hw => ?_
        have := hx w hw
        cases hl : leftW t x w
        · simp [needW, this, hl]
        · have := hy w (by rw [has_cut hs h8, hw, hl]; rfl)
          simp [needW, hx w hw, hl, this]
      · rw [h2 hx]; rfl
  | or_ x y ihx ihy =>
    intro s hs h8
    obtain ⟨h1, h2⟩ := ihx s hs h8
    obtain ⟨b1, b2, b3, b4, b5⟩ := cut_bounds (q := leftN t x) hs h8
    obtain ⟨h3, h4⟩ := ihy (s - andI s (leftN t x)) b4 b5
    refine ⟨fun h => ?_, fun h => ?_⟩
    · show (chgI t x s).bind _ = _
      rw [h1 fun w hw => by have := h w hw; simp [needW] at this; exact this.1, Option.bind_some, h3 fun w hw => ?_]
      · obtain ⟨c1, c2, c3, c4, c5⟩ := cut_bounds (q := leftN t y) b4 b5
        obtain ⟨d1, d2⟩ := has_less (r := s - andI s (leftN t x) - andI (s - andI s (leftN t x)) (leftN t y)) hs c4 fun w hw => by
          rw [has_rest b4 b5, has_rest hs h8, Bool.and_eq_true, Bool.and_eq_true] at hw
          exact hw.1.1
        show some (andI s (leftN t x) + andI (s - andI s (leftN t x)) (leftN t y)) = _
        rw [show andI s (leftN t x) + andI (s - andI s (leftN t x)) (leftN t y) = s - (s - andI s (leftN t x) - andI (s - andI s (leftN t x)) (leftN t y)) by omega]
        refine congrArg some (has_ext d1 (andI_nonneg _ _) fun w => ?_)
        rw [d2, has_rest b4 b5, has_rest hs h8, has_cut hs h8]
        show (hasW s w && !(hasW s w && !leftW t x w && !leftW t y w)) = (hasW s w && (leftW t x w || leftW t y w))
        cases hasW s w <;> cases leftW t x w <;> cases leftW t y w <;> rfl
      · rw [has_rest hs h8, Bool.and_eq_true] at hw
        have := h w hw.1
        simp [needW] at this
        simp at hw
        simpa [hw.2] using this.2
    · show (chgI t x s).bind _ = _
      by_cases hx : SubW s (needW t x)
      · rw [h1 hx, Option.bind_some, h4 fun hy => h fun w hw => ?_]
        · rfl
        · cases hl : leftW t x w
          · have := hy w (by rw [has_rest hs h8, hw, hl]; rfl)
            simp [needW, hx w hw, hl, this]
          · simp [needW, hx w hw, hl]
      · rw [h2 hx]; rfl
  | if_ x y ihx ihy =>
    intro s hs h8
    obtain ⟨h1, h2⟩ := ihx s hs h8
    obtain ⟨b1, b2, b3, b4, b5⟩ := cut_bounds (q := leftN t x) hs h8
    obtain ⟨h3, h4⟩ := ihy (andI s (leftN t x)) b1 b3
    refine ⟨fun h => ?_, fun h => ?_⟩
    · show (chgI t x s).bind _ = _
      rw [h1 fun w hw => by have := h w hw; simp [needW] at this; exact this.1, Option.bind_some, h3 fun w hw => ?_]
      · obtain ⟨c1, c2, c3, c4, c5⟩ := cut_bounds (q := leftN t y) b1 b3
        obtain ⟨d1, d2⟩ := has_less (r := andI s (leftN t x) - andI (andI s (leftN t x)) (leftN t y)) hs c4 fun w hw => by
          rw [has_rest b1 b3, has_cut hs h8, Bool.and_eq_true, Bool.and_eq_true] at hw
          exact hw.1.1
        refine congrArg some (has_ext d1 (andI_nonneg _ _) fun w => ?_)
        rw [d2, has_rest b1 b3, has_cut hs h8, has_cut hs h8]
        show (hasW s w && !(hasW s w && leftW t x w && !leftW t y w)) = (hasW s w && (!leftW t x w || leftW t y w))
        cases hasW s w <;> cases leftW t x w <;> cases leftW t y w <;> rfl
      · rw [has_cut hs h8, Bool.and_eq_true] at hw
        have := h w hw.1
        simp [needW, hw.2] at this
        exact this.2
    · show (chgI t x s).bind _ = _
      by_cases hx : SubW s (needW t x)
      · rw [h1 hx, Option.bind_some, h4 fun hy => h fun w hw => ?_]
        · rfl
        · cases hl : leftW t x w
          · simp [needW, hx w hw, hl]
          · have := hy w (by rw [has_cut hs h8, hw, hl]; rfl)
            simp [needW, hx w hw, hl, this]
      · rw [h2 hx]; rfl
end Go.Proofs.Ytobgnbgmpcilgaa

namespace Go.Proofs.Ytobgnbgmpcilgaa
open Go.RowKit

/-- Its letters are those of the things there are. -/
def ldOk (t : Int) : Ld → Bool
  | .one => true
  | .zero => true
  | .thing i => decide ((i : Int) < t)
  | .no x => ldOk t x
  | .pre x y => ldOk t x && ldOk t y
  | .and_ x y => ldOk t x && ldOk t y
  | .or_ x y => ldOk t x && ldOk t y
  | .if_ x y => ldOk t x && ldOk t y
def twoD (m : Nat) (x y : Ld) : Option Ld := if m = 38 then some (.and_ x y) else if m = 124 then some (.or_ x y) else if m = 62 then some (.if_ x y) else none
/-- The sentence at the head of a text, and what is left; n: no fewer than the bytes. -/
def readD (t : Int) : Nat → List Nat → Option (Ld × List Nat)
  | 0, _ => none
  | _ + 1, [] => none
  | n + 1, c :: l =>
    if c = 49 then some (.one, l) else if c = 48 then some (.zero, l)
    else if 97 ≤ c ∧ (c : Int) - 97 < t then some (.thing (c - 97), l)
    else if c = 33 then (readD t n l).map fun p => (.no p.1, p.2)
    else if c = 91 then
      match readD t n l with
      | some (x, m :: l2) => if m = 93 then (readD t n l2).map fun p => (.pre x p.1, p.2) else none
      | _ => none
    else if c = 40 then
      match readD t n l with
      | some (x, m :: l2) =>
        match readD t n l2 with
        | some (y, e :: r) => if e = 41 then (twoD m x y).map fun z => (z, r) else none
        | _ => none
      | _ => none
    else none
theorem readD_less (t : Int) : ∀ (n : Nat) (l : List Nat) (x : Ld) (r : List Nat), readD t n l = some (x, r) → r.length < l.length
  | 0, _, _, _, h => by cases h
  | _ + 1, [], _, _, h => by cases h
  | n + 1, c :: l, x, r, h => by
    have ih := readD_less t n
    unfold readD at h
    split at h
    · cases h; simp
    split at h
    · cases h; simp
    split at h
    · cases h; simp
    split at h
    · obtain ⟨⟨y, q⟩, hy, e⟩ := Option.map_eq_some_iff.1 h
      cases e; have := ih _ _ _ hy; simp; omega
    split at h
    · split at h
      · rename_i x1 m l2 h1
        split at h
        · obtain ⟨⟨y, q⟩, hy, e⟩ := Option.map_eq_some_iff.1 h
          cases e
          have := ih _ _ _ h1; have := ih _ _ _ hy; simp at *; omega
        · cases h
      · cases h
    split at h
    · split at h
      · rename_i x1 m l2 h1
        split at h
        · rename_i y1 e r1 h2
          split at h
          · obtain ⟨z, hz, e2⟩ := Option.map_eq_some_iff.1 h
            cases e2
            have := ih _ _ _ h1; have := ih _ _ _ h2; simp at *; omega
          · cases h
        · cases h
      · cases h
    · cases h
/-- More fuel than bytes changes nothing. -/
theorem readD_more (t : Int) : ∀ (n m : Nat) (l : List Nat), l.length ≤ n → l.length ≤ m → readD t n l = readD t m l
  | 0, 0, _, _, _ => rfl
  | 0, m + 1, l, h, _ => by
    have : l = [] := List.eq_nil_of_length_eq_zero (by omega)
    subst this; rfl
  | n + 1, 0, l, _, h => by
    have : l = [] := List.eq_nil_of_length_eq_zero (by omega)
    subst this; rfl
  | n + 1, m + 1, [], _, _ => rfl
  | n + 1, m + 1, c :: l, hn, hm => by
    simp only [List.length_cons] at hn hm
    have e1 := readD_more t n m l (by omega) (by omega)
    have e2 : ∀ x m' l2, readD t m l = some (x, m' :: l2) → readD t n l2 = readD t m l2 := fun x m' l2 h => by
      have := readD_less t m l x _ h
      simp only [List.length_cons] at this
      exact readD_more t n m l2 (by omega) (by omega)
    unfold readD
    rw [e1]
    rcases h : readD t m l with _ | ⟨x, _ | ⟨m', l2⟩⟩
    · rfl
    · rfl
    · simp only []
      rw [e2 x m' l2 h]
def textD : Ld → List Nat
  | .one => [49]
  | .zero => [48]
  | .thing i => [97 + i]
  | .no x => 33 :: textD x
  | .pre x y => 91 :: (textD x ++ 93 :: textD y)
  | .and_ x y => 40 :: (textD x ++ 38 :: (textD y ++ [41]))
  | .or_ x y => 40 :: (textD x ++ 124 :: (textD y ++ [41]))
  | .if_ x y => 40 :: (textD x ++ 62 :: (textD y ++ [41]))
theorem readD_ok (t : Int) : ∀ (n : Nat) (l : List Nat) (x : Ld) (r : List Nat), readD t n l = some (x, r) → ldOk t x = true ∧ l = textD x ++ r
  | 0, _, _, _, h => by cases h
  | _ + 1, [], _, _, h => by cases h
  | n + 1, c :: l, x, r, h => by
    have ih := readD_ok t n
    unfold readD at h
    split at h
    · cases h; rename_i hc; subst hc; exact ⟨rfl, rfl⟩
    split at h
    · cases h; rename_i hc; subst hc; exact ⟨rfl, rfl⟩
    split at h
    · cases h; rename_i hc; exact ⟨by simp [ldOk]; omega, by simp [textD]; omega⟩
    split at h
    · obtain ⟨⟨y, q⟩, hy, e⟩ := Option.map_eq_some_iff.1 h
      cases e; have := ih _ _ _ hy; rename_i hc; subst hc; exact ⟨this.1, by rw [this.2]; rfl⟩
    split at h
    · rename_i hc
      split at h
      · rename_i x1 m l2 h1
        split at h
        · rename_i hm
          obtain ⟨⟨y, q⟩, hy, e⟩ := Option.map_eq_some_iff.1 h
          cases e
          obtain ⟨a1, b1⟩ := ih _ _ _ h1
          obtain ⟨a2, b2⟩ := ih _ _ _ hy
          subst b1 b2 hc hm
          exact ⟨by simp [ldOk, a1, a2], by simp [textD]⟩
        · cases h
      · cases h
    split at h
    · rename_i hc
      split at h
      · rename_i x1 m l2 h1
        split at h
        · rename_i y1 e r1 h2
          split at h
          · rename_i he
            obtain ⟨z, hz, e2⟩ := Option.map_eq_some_iff.1 h
            cases e2
            obtain ⟨a1, b1⟩ := ih _ _ _ h1
            obtain ⟨a2, b2⟩ := ih _ _ _ h2
            subst b1 b2 hc he
            unfold twoD at hz
            split at hz
            · cases hz; rename_i hm; subst hm; exact ⟨by simp [ldOk, a1, a2], by simp [textD]⟩
            split at hz
            · cases hz; rename_i hm; subst hm; exact ⟨by simp [ldOk, a1, a2], by simp [textD]⟩
            split at hz
            · cases hz; rename_i hm; subst hm; exact ⟨by simp [ldOk, a1, a2], by simp [textD]⟩
            · cases hz
          · cases h
        · cases h
      · cases h
    · cases h
/-- The text of a sentence is read as the sentence, whatever stands behind it. -/
theorem readD_text (t : Int) : ∀ (x : Ld) (n : Nat) (r : List Nat), ldOk t x = true → t ≤ 26 → (textD x).length ≤ n → readD t n (textD x ++ r) = some (x, r)
  | .one, n + 1, r, _, _, _ => rfl
  | .zero, n + 1, r, _, _, _ => rfl
  | .thing i, n + 1, r, h, ht, _ => by
    simp only [ldOk, decide_eq_true_eq] at h
    show readD t (n + 1) ((97 + i) :: r) = _
    unfold readD
    rw [if_neg (by omega), if_neg (by omega), if_pos (by omega)]
    congr 3; omega
  | .no x, n + 1, r, h, ht, hl => by
    simp only [textD, List.length_cons] at hl
    show readD t (n + 1) (33 :: (textD x ++ r)) = _
    unfold readD
    rw [if_neg (by omega), if_neg (by omega), if_neg (by omega), if_pos rfl, readD_text t x n r h ht (by omega)]; rfl
  | .pre x y, n + 1, r, h, ht, hl => by
    simp only [textD, List.length_cons, List.length_append] at hl
    simp only [ldOk, Bool.and_eq_true] at h
    show readD t (n + 1) (91 :: ((textD x ++ 93 :: textD y) ++ r)) = _
    have e : (textD x ++ 93 :: textD y) ++ r = textD x ++ (93 :: (textD y ++ r)) := by simp
    rw [e]
    unfold readD
    rw [if_neg (by omega), if_neg (by omega), if_neg (by omega), if_neg (by omega), if_pos rfl, readD_text t x n _ h.1 ht (by omega)]
    simp only []
    rw [readD_text t y n _ h.2 ht (by omega)]; rfl
  | .and_ x y, n + 1, r, h, ht, hl => by
    simp only [textD, List.length_cons, List.length_append, List.length_nil] at hl
    simp only [ldOk, Bool.and_eq_true] at h
    show readD t (n + 1) (40 :: ((textD x ++ 38 :: (textD y ++ [41])) ++ r)) = _
    have e : (textD x ++ 38 :: (textD y ++ [41])) ++ r = textD x ++ (38 :: (textD y ++ (41 :: r))) := by simp
    rw [e]
    unfold readD
    rw [if_neg (by omega), if_neg (by omega), if_neg (by omega), if_neg (by omega), if_neg (by omega), if_pos rfl, readD_text t x n _ h.1 ht (by omega)]
    simp only []
    rw [readD_text t y n _ h.2 ht (by omega)]; rfl
  | .or_ x y, n + 1, r, h, ht, hl => by
    simp only [textD, List.length_cons, List.length_append, List.length_nil] at hl
    simp only [ldOk, Bool.and_eq_true] at h
    show readD t (n + 1) (40 :: ((textD x ++ 124 :: (textD y ++ [41])) ++ r)) = _
    have e : (textD x ++ 124 :: (textD y ++ [41])) ++ r = textD x ++ (124 :: (textD y ++ (41 :: r))) := by simp
    rw [e]
    unfold readD
    rw [if_neg (by omega), if_neg (by omega), if_neg (by omega), if_neg (by omega), if_neg (by omega), if_pos rfl, readD_text t x n _ h.1 ht (by omega)]
    simp only []
    rw [readD_text t y n _ h.2 ht (by omega)]; rfl
  | .if_ x y, n + 1, r, h, ht, hl => by
    simp only [textD, List.length_cons, List.length_append, List.length_nil] at hl
    simp only [ldOk, Bool.and_eq_true] at h
    show readD t (n + 1) (40 :: ((textD x ++ 62 :: (textD y ++ [41])) ++ r)) = _
    have e : (textD x ++ 62 :: (textD y ++ [41])) ++ r = textD x ++ (62 :: (textD y ++ (41 :: r))) := by simp
    rw [e]
    unfold readD
    rw [if_neg (by omega), if_neg (by omega), if_neg (by omega), if_neg (by omega), if_neg (by omega), if_pos rfl, readD_text t x n _ h.1 ht (by omega)]
    simp only []
    rw [readD_text t y n _ h.2 ht (by omega)]; rfl
  | .one, 0, _, _, _, hl => by simp [textD] at hl
  | .zero, 0, _, _, _, hl => by simp [textD] at hl
  | .thing _, 0, _, _, _, hl => by simp [textD] at hl
  | .no _, 0, _, _, _, hl => by simp [textD] at hl
  | .pre _ _, 0, _, _, _, hl => by simp [textD] at hl
  | .and_ _ _, 0, _, _, _, hl => by simp [textD] at hl
  | .or_ _ _, 0, _, _, _, hl => by simp [textD] at hl
  | .if_ _ _, 0, _, _, _, hl => by simp [textD] at hl
/-- The sentence of a text. -/
def ldOf (t : Int) (l : List Nat) : Option Ld :=
  if 1 ≤ t ∧ t ≤ 3 ∧ l.length ≤ 60 then (match readD t l.length l with | some (x, []) => some x | _ => none) else none
theorem ldOf_iff {t : Int} {l : List Nat} {x : Ld} : ldOf t l = some x ↔ (1 ≤ t ∧ t ≤ 3 ∧ l.length ≤ 60 ∧ ldOk t x = true ∧ l = textD x) := by
  unfold ldOf
  constructor
  · intro h
    split at h
    · rename_i hc
      split at h
      · rename_i y hy
        cases h
        have := readD_ok t _ _ _ _ hy
        simp at this
        exact ⟨hc.1, hc.2.1, hc.2.2, this.1, this.2⟩
      · cases h
    · cases h
  · rintro ⟨h1, h3, hl, hs, rfl⟩
    rw [if_pos ⟨h1, h3, hl⟩]
    have := readD_text t x (textD x).length [] hs (by omega) (Nat.le_refl _)
    rw [List.append_nil] at this
    rw [this]

end Go.Proofs.Ytobgnbgmpcilgaa

namespace Go.Proofs.Ytobgnbgmpcilgaa
open Go.RowKit

def needI (t : Int) (x : Ld) : Int := (setOfW (needW t x) (nWorlds t) : Int)
def leftI (t : Int) (x : Ld) : Int := (setOfW (fun w => needW t x w && leftW t x w) (nWorlds t) : Int)
theorem has_or8 {a b : Int} {w : Nat} : hasW (orI a b) w = (hasW a w || hasW b w) := by
  unfold hasW orI
  rw [Int.toNat_natCast, Nat.testBit_or]
section
variable {t : Int} (h1 : 1 ≤ t) (h3 : t ≤ 3)
include h1 h3
theorem worlds8 : nWorlds t ≤ 8 := by
  have : t = 1 ∨ t = 2 ∨ t = 3 := by omega
  rcases this with rfl | rfl | rfl <;> decide
theorem has_all8 (w : Nat) : hasW (allOf t) w = decide (w < nWorlds t) := by
  have h := (nW_pos h1 h3).2
  have hp : 1 ≤ 2 ^ nWorlds t := Nat.one_le_two_pow
  unfold hasW
  rw [show (allOf t).toNat = 2 ^ nWorlds t - 1 by omega, Nat.testBit_two_pow_sub_one]
theorem set_range (p : Nat → Bool) : 0 ≤ (setOfW p (nWorlds t) : Int) ∧ (setOfW p (nWorlds t) : Int) ≤ allOf t := by
  have h := (nW_pos h1 h3).2
  have hl := setOfW_lt p (nWorlds t)
  exact ⟨Int.natCast_nonneg _, by omega⟩
omit h1 h3 in
theorem has_set (p : Nat → Bool) (w : Nat) : hasW (setOfW p (nWorlds t) : Int) w = (decide (w < nWorlds t) && p w) := by
  unfold hasW
  rw [Int.toNat_natCast, setOfW_bit]
theorem sub_need (x : Ld) {s : Int} (hs : 0 ≤ s) (hs2 : s ≤ allOf t) : withinB s (needI t x) = true ↔ SubW s (needW t x) := by
  rw [within_has hs]
  refine ⟨fun h w hw => ?_, fun h w hw => ?_⟩
  · have := h w hw
    unfold needI at this
    rw [has_set, Bool.and_eq_true] at this
    exact this.2
  · unfold needI
    rw [has_set, h w hw, decide_eq_true (has_lt h1 h3 hs hs2 hw)]
    rfl
theorem chg_is (x : Ld) {s : Int} (hs : 0 ≤ s) (hs2 : s ≤ allOf t) : chgI t x s = if withinB s (needI t x) = true then some (andI s (leftI t x)) else none := by
  have hal := (allOf_lt t).2
  obtain ⟨g1, g2⟩ := chg_spec t x s hs (by omega)
  by_cases h : withinB s (needI t x) = true
  · have hn := (sub_need h1 h3 x hs hs2).1 h
    rw [if_pos h, g1 hn]
    refine congrArg some (has_ext (andI_nonneg _ _) (andI_nonneg _ _) fun w => ?_)
    rw [has_cut hs (by omega), has_and]
    cases hw : hasW s w
    · rfl
    · unfold leftI
      rw [has_set, decide_eq_true (has_lt h1 h3 hs hs2 hw), hn w hw]
      simp
  · rw [if_neg h, g2 fun hn => h ((sub_need h1 h3 x hs hs2).2 hn)]
/-- Of each set within, it leaves what this has in common with what is left. -/
theorem chg_less (x : Ld) {s m : Int} (hs : 0 ≤ s) (hs2 : s ≤ allOf t) (hn : withinB s (needI t x) = true) : chgI t x (andI s m) = some (andI (andI s m) (andI s (leftI t x))) := by
  have hb1 := andI_nonneg s m
  have hb2 := andI_le s m hs
  have hn2 : withinB (andI s m) (needI t x) = true := by
    rw [within_has hb1]
    intro w hw
    rw [has_and, Bool.and_eq_true] at hw
    exact (within_has hs).1 hn w hw.1
  rw [chg_is h1 h3 x hb1 (by omega), if_pos hn2]
  refine congrArg some (has_ext (andI_nonneg _ _) (andI_nonneg _ _) fun w => ?_)
  simp only [has_and]
  cases hasW s w <;> cases hasW m w <;> simp
omit h1 h3 in
theorem need_no (x : Ld) : needI t (.no x) = needI t x := rfl
theorem left_thing : leftI t (.thing 0) = letterSet t 0 := by
  have hl := letter_ok h1 h3 0
  have hb := setOkB_lt hl
  refine has_ext (set_range h1 h3 _).1 hb.2.2.1 fun w => ?_
  unfold leftI
  rw [has_set]
  cases hw : hasW (letterSet t 0) w
  · simp [leftW, hw]
  · rw [decide_eq_true (has_lt h1 h3 hb.2.2.1 hb.2.2.2.1 hw)]; simp [needW, leftW, hw]
/-- And and if let the first one speak. -/
theorem need_two (x : Ld) : needI t (.and_ (.thing 0) x) = orI (allOf t - leftI t (.thing 0)) (needI t x) ∧ needI t (.if_ (.thing 0) x) = orI (allOf t - leftI t (.thing 0)) (needI t x) ∧ needI t (.and_ x (.thing 0)) = needI t x := by
  have hal := allOf_lt t
  have hr := set_range h1 h3 (needW t x)
  have hb := setOkB_lt (letter_ok h1 h3 0)
  obtain ⟨d1, d2⟩ := has_less (r := letterSet t 0) hal.1 hb.2.2.1 fun w hw => by rw [has_all8 h1 h3, decide_eq_true (has_lt h1 h3 hb.2.2.1 hb.2.2.2.1 hw)]
  have key : ∀ w, (decide (w < nWorlds t) && needW t (.and_ (.thing 0) x) w) = hasW (orI (allOf t - leftI t (.thing 0)) (needI t x)) w := fun w => by
    rw [left_thing h1 h3, has_or8, d2, has_all8 h1 h3]
    unfold needI
    rw [has_set]
    simp only [needW, leftW, Bool.true_and]
    cases decide (w < nWorlds t) <;> cases hasW (letterSet t 0) w <;> rfl
  refine ⟨has_ext (set_range h1 h3 _).1 (orI_nonneg _ _) fun w => ?_, has_ext (set_range h1 h3 _).1 (orI_nonneg _ _) fun w => ?_, has_ext (set_range h1 h3 _).1 hr.1 fun w => ?_⟩
  · rw [← key]; exact has_set _ w
  · rw [← key]; exact has_set _ w
  · rw [show hasW (needI t (.and_ x (.thing 0))) w = _ from has_set _ w, show hasW (needI t x) w = _ from has_set _ w]
    simp [needW]
/-- What is left is needed; a not leaves the rest. -/
theorem left_laws (x : Ld) : withinB (leftI t x) (needI t x) = true ∧ leftI t (.no x) = needI t x - leftI t x := by
  have hl := set_range h1 h3 (fun w => needW t x w && leftW t x w)
  have hn := set_range h1 h3 (needW t x)
  have hsub : ∀ w, hasW (leftI t x) w = true → hasW (needI t x) w = true := fun w hw => by
    unfold leftI at hw
    unfold needI
    rw [has_set] at hw ⊢
    simp only [Bool.and_eq_true] at hw ⊢
    exact ⟨hw.1, hw.2.1⟩
  refine ⟨(within_has hl.1).2 hsub, ?_⟩
  obtain ⟨d1, d2⟩ := has_less (s := needI t x) (r := leftI t x) hn.1 hl.1 hsub
  refine has_ext (set_range h1 h3 _).1 d1 fun w => ?_
  rw [d2, show hasW (leftI t (.no x)) w = _ from has_set _ w, show hasW (needI t x) w = _ from has_set _ w, show hasW (leftI t x) w = _ from has_set _ w]
  simp only [needW, leftW]
  cases decide (w < nWorlds t) <;> cases needW t x w <;> cases leftW t x w <;> rfl
/-- What was told is no longer taken for granted. -/
theorem need_told (x : Ld) (h : needI t x = allOf t) : needI t (.and_ x (.pre x (.thing 0))) = allOf t := by
  refine has_ext (set_range h1 h3 _).1 (allOf_lt t).1 fun w => ?_
  have hw := congrArg (fun s => hasW s w) h
  simp only [show hasW (needI t x) w = _ from has_set _ w, has_all8 h1 h3] at hw
  rw [show hasW (needI t (.and_ x (.pre x (.thing 0)))) w = _ from has_set _ w, has_all8 h1 h3]
  simp only [needW]
  revert hw
  cases decide (w < nWorlds t) <;> cases needW t x w <;> cases leftW t x w <;> simp
end
end Go.Proofs.Ytobgnbgmpcilgaa

namespace Go.Proofs.Ytobgnbgmpcilgaa
open Go.RowKit

/-- The sentence of chapter 3 that it is, if it has no square brackets. -/
def senL : Ld → Option Sen
  | .one => some .one
  | .zero => some .zero
  | .thing i => some (.thing i)
  | .no x => (senL x).map .no
  | .pre _ _ => none
  | .and_ x y => (senL x).bind fun a => (senL y).map fun b => .and_ a b
  | .or_ x y => (senL x).bind fun a => (senL y).map fun b => .or_ a b
  | .if_ x y => (senL x).bind fun a => (senL y).map fun b => .if_ a b
theorem two_some {f : Sen → Sen → Sen} {a b : Option Sen} {z : Sen} (h : (a.bind fun x => b.map fun y => f x y) = some z) : ∃ x y, a = some x ∧ b = some y ∧ z = f x y := by
  cases a with
  | none => cases h
  | some x =>
    cases b with
    | none => cases h
    | some y => cases h; exact ⟨x, y, rfl, rfl, rfl⟩
theorem senL_text (t : Int) : ∀ (x : Ld) (y : Sen), senL x = some y → textS y = textD x ∧ senOk t y = ldOk t x ∧ ∀ w, needW t x w = true
  | .one, _, h => by cases h; exact ⟨rfl, rfl, fun _ => rfl⟩
  | .zero, _, h => by cases h; exact ⟨rfl, rfl, fun _ => rfl⟩
  | .thing _, _, h => by cases h; exact ⟨rfl, rfl, fun _ => rfl⟩
  | .no x, y, h => by
    obtain ⟨a, ha, rfl⟩ := Option.map_eq_some_iff.1 h
    obtain ⟨g1, g2, g3⟩ := senL_text t x a ha
    exact ⟨by simp [textS, textD, g1], by simp [senOk, ldOk, g2], fun w => by simp [needW, g3]⟩
  | .pre _ _, _, h => by cases h
  | .and_ x y, z, h => by
    obtain ⟨a, b, ha, hb, rfl⟩ := two_some h
    obtain ⟨g1, g2, g3⟩ := senL_text t x a ha
    obtain ⟨k1, k2, k3⟩ := senL_text t y b hb
    exact ⟨by simp [textS, textD, g1, k1], by simp [senOk, ldOk, g2, k2], fun w => by simp [needW, g3, k3]⟩
  | .or_ x y, z, h => by
    obtain ⟨a, b, ha, hb, rfl⟩ := two_some h
    obtain ⟨g1, g2, g3⟩ := senL_text t x a ha
    obtain ⟨k1, k2, k3⟩ := senL_text t y b hb
    exact ⟨by simp [textS, textD, g1, k1], by simp [senOk, ldOk, g2, k2], fun w => by simp [needW, g3, k3]⟩
  | .if_ x y, z, h => by
    obtain ⟨a, b, ha, hb, rfl⟩ := two_some h
    obtain ⟨g1, g2, g3⟩ := senL_text t x a ha
    obtain ⟨k1, k2, k3⟩ := senL_text t y b hb
    exact ⟨by simp [textS, textD, g1, k1], by simp [senOk, ldOk, g2, k2], fun w => by simp [needW, g3, k3]⟩
/-- With square brackets, a text has one. -/
theorem senL_none : ∀ x : Ld, senL x = none → 91 ∈ textD x
  | .one, h => by cases h
  | .zero, h => by cases h
  | .thing _, h => by cases h
  | .no x, h => by
    have : senL x = none := by cases e : senL x with
      | none => rfl
      | some a => simp [senL, e] at h
    simp [textD, senL_none x this]
  | .pre _ _, _ => by simp [textD]
  | .and_ x y, h => by
    cases e : senL x with
    | none => simp [textD, senL_none x e]
    | some a =>
      cases e2 : senL y with
      | none => simp [textD, senL_none y e2]
      | some b => simp [senL, e, e2] at h
  | .or_ x y, h => by
    cases e : senL x with
    | none => simp [textD, senL_none x e]
    | some a =>
      cases e2 : senL y with
      | none => simp [textD, senL_none y e2]
      | some b => simp [senL, e, e2] at h
  | .if_ x y, h => by
    cases e : senL x with
    | none => simp [textD, senL_none x e]
    | some a =>
      cases e2 : senL y with
      | none => simp [textD, senL_none y e2]
      | some b => simp [senL, e, e2] at h
theorem textS_no (t : Int) (h3 : t ≤ 3) : ∀ y : Sen, senOk t y = true → 91 ∉ textS y
  | .one, _ => by simp [textS]
  | .zero, _ => by simp [textS]
  | .thing i, h => by simp [textS]; omega
  | .no x, h => by simp [textS]; exact textS_no t h3 x h
  | .ask x, h => by simp [textS]; exact textS_no t h3 x h
  | .and_ x y, h => by
    simp only [senOk, Bool.and_eq_true] at h
    simp [textS, textS_no t h3 x h.1, textS_no t h3 y h.2]
  | .or_ x y, h => by
    simp only [senOk, Bool.and_eq_true] at h
    simp [textS, textS_no t h3 x h.1, textS_no t h3 y h.2]
  | .if_ x y, h => by
    simp only [senOk, Bool.and_eq_true] at h
    simp [textS, textS_no t h3 x h.1, textS_no t h3 y h.2]
/-- A text that is both is the same sentence. -/
theorem both_read {t : Int} {l : List Nat} {x : Ld} {y : Sen} (hx : ldOf t l = some x) (hy : senOf t l = some y) : senL x = some y := by
  obtain ⟨h1, h3, hl, ho, rfl⟩ := ldOf_iff.1 hx
  obtain ⟨_, _, _, hs, e⟩ := senOf_iff.1 hy
  cases hn : senL x with
  | none =>
    have := senL_none x hn
    rw [e] at this
    exact absurd this (textS_no t h3 y hs)
  | some z =>
    obtain ⟨g1, g2, _⟩ := senL_text t x z hn
    have h4 : senOf t (textD x) = some z := senOf_iff.2 ⟨h1, h3, hl, by rw [g2]; exact ho, g1.symm⟩
    rw [h4] at hy
    exact hy
theorem world_bit (w v : Nat) : hasW (worldS w) v = decide (v = w) := by
  unfold hasW worldS
  rw [Int.toNat_natCast, Nat.testBit_two_pow]
  by_cases h : w = v
  · subst h; simp
  · rw [decide_eq_false h, decide_eq_false (fun e => h e.symm)]
theorem holds_none {t : Int} (h1 : 1 ≤ t) (h3 : t ≤ 3) (y : Sen) : holdsS t y 0 = true := by
  rw [support_settle h1 h3 y 0 (Int.le_refl 0) (allOf_lt t).1]
  have hne := (issue_ne (sen_issue h1 h3 y)).1
  cases hi : issueS t y with
  | nil => rw [hi] at hne; simp at hne
  | cons a r => exact any_iff.2 ⟨a, List.mem_cons_self, within_zero a⟩
/-- Within one world: that world, or none. -/
theorem in_world {w u : Nat} (h : withinB (u : Int) (worldS w) = true) : u = 0 ∨ (u : Int) = worldS w := by
  rw [within_has (Int.natCast_nonneg u)] at h
  cases hb : hasW (u : Int) w
  · left
    have : (u : Int) = 0 := has_ext (Int.natCast_nonneg u) (Int.le_refl 0) fun v => by
      cases hv : hasW (u : Int) v
      · simp [hasW]
      · have := h v hv
        rw [world_bit, decide_eq_true_eq] at this
        subst this
        rw [hb] at hv; cases hv
    omega
  · right
    refine has_ext (Int.natCast_nonneg u) (worldS_nonneg w) fun v => ?_
    cases hv : hasW (u : Int) v
    · rw [world_bit]
      symm
      apply decide_eq_false
      rintro rfl
      rw [hb] at hv; cases hv
    · exact (h v hv).symm
theorem left_holds {t : Int} (h1 : 1 ≤ t) (h3 : t ≤ 3) {w : Nat} (hw : w < nWorlds t) : ∀ (x : Ld) (y : Sen), senL x = some y → leftW t x w = holdsS t y (worldS w)
  | .one, _, h => by cases h; rfl
  | .zero, _, h => by
    cases h
    show false = decide (worldS w = 0)
    symm
    apply decide_eq_false
    intro e
    have := world_bit w w
    rw [e] at this
    simp [hasW] at this
  | .thing i, _, h => by
    cases h
    show hasW (letterSet t i) w = withinB (worldS w) (letterSet t i)
    rw [Bool.eq_iff_iff]
    exact (world_within w).symm
  | .no x, z, h => by
    obtain ⟨a, ha, rfl⟩ := Option.map_eq_some_iff.1 h
    have ih := left_holds h1 h3 hw x a ha
    show (!leftW t x w) = (List.range (nWorlds t)).all fun v => !hasW (worldS w) v || !holdsS t a (worldS v)
    rw [ih, Bool.eq_iff_iff, List.all_eq_true]
    constructor
    · intro h v _
      rw [world_bit]
      by_cases e : v = w
      · subst e; rw [h]; simp
      · simp [e]
    · intro h
      have := h w (List.mem_range.2 hw)
      rw [world_bit] at this
      simpa using this
  | .pre _ _, _, h => by cases h
  | .and_ x y, z, h => by
    obtain ⟨a, b, ha, hb, rfl⟩ := two_some h
    show (leftW t x w && leftW t y w) = (holdsS t a (worldS w) && holdsS t b (worldS w))
    rw [left_holds h1 h3 hw x a ha, left_holds h1 h3 hw y b hb]
  | .or_ x y, z, h => by
    obtain ⟨a, b, ha, hb, rfl⟩ := two_some h
    show (leftW t x w || leftW t y w) = (holdsS t a (worldS w) || holdsS t b (worldS w))
    rw [left_holds h1 h3 hw x a ha, left_holds h1 h3 hw y b hb]
  | .if_ x y, z, h => by
    obtain ⟨a, b, ha, hb, rfl⟩ := two_some h
    show (!leftW t x w || leftW t y w) = (List.range ((worldS w).toNat + 1)).all fun u : Nat => !withinB (u : Int) (worldS w) || !holdsS t a (u : Int) || holdsS t b (u : Int)
    rw [left_holds h1 h3 hw x a ha, left_holds h1 h3 hw y b hb, Bool.eq_iff_iff, List.all_eq_true]
    constructor
    · intro h u _
      cases hu : withinB (u : Int) (worldS w)
      · rfl
      · rcases in_world hu with rfl | e
        · rw [show ((0 : Nat) : Int) = 0 from rfl, holds_none h1 h3 b]; simp
        · rw [e]; simpa using h
    · intro h
      have hp := worldS_nonneg w
      have := h (worldS w).toNat (List.mem_range.2 (by omega))
      rw [Int.toNat_of_nonneg hp, within_refl _ hp] at this
      simpa using this
theorem trueTo_set (t : Int) (y : Sen) : ∀ k, trueTo t y k = setOfW (fun w => holdsS t y (worldS w)) k
  | 0 => rfl
  | k + 1 => by
    unfold trueTo setOfW
    rw [trueTo_set t y k]
/-- For a sentence without square brackets what is left is where it is true, and nothing is needed. -/
theorem left_true {t : Int} {x : Ld} {y : Sen} (h1 : 1 ≤ t) (h3 : t ≤ 3) (h : senL x = some y) : leftI t x = (trueTo t y (nWorlds t) : Int) ∧ needI t x = allOf t := by
  obtain ⟨_, _, hn⟩ := senL_text t x y h
  constructor
  · rw [trueTo_set]
    refine has_ext (set_range h1 h3 _).1 (set_range h1 h3 _).1 fun w => ?_
    rw [has_set, show hasW (leftI t x) w = _ from has_set _ w, hn w]
    by_cases hw : w < nWorlds t
    · rw [left_holds h1 h3 hw x y h]; simp
    · simp [hw]
  · refine has_ext (set_range h1 h3 _).1 (allOf_lt t).1 fun w => ?_
    rw [show hasW (needI t x) w = _ from has_set _ w, hn w, has_all8 h1 h3]; simp
end Go.Proofs.Ytobgnbgmpcilgaa
