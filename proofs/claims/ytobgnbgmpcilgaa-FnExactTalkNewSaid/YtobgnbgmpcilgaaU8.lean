/-
  What the proofs of this seat's statements share (MathP, Subs, Supp, Word, Deny, Sign, Held, Supg, Supi, Byt, Rdr, Rdp, Rdq).
-/
import Derived.RangeFuncNested
import Derived.RangeFuncBound
import Derived.RangeFuncCalls
import Derived.RangeFuncLeaves
import Derived.Shelf.Abstract
import Derived.Shelf.RegionOpen
import Derived.OwnWalkIn
import Derived.TacticsInMore
import Derived.LoopNIn
import Derived.LoopIn
import Derived.RangeFuncBox
import Derived.Outline
import Derived.Deep.RegionHeld3
import Derived.OrdersIn
import Derived.TacticsIn
import Derived.Sort.CutIn
import Derived.Test.YtobgnbgmpcilgaaU7
import Derived.Test.YtobgnbgmpcilgaaU6
import Derived.Test.YtobgnbgmpcilgaaU1
import Derived.Test.YtobgnbgmpcilgaaU5

namespace Go.Proofs.Ytobgnbgmpcilgaa
open Go.RowKit

/-- The bytes of a text, as numbers. -/
def twoS (m : Nat) (x y : Sen) : Option Sen := if m = 38 then some (.and_ x y) else if m = 124 then some (.or_ x y) else if m = 62 then some (.if_ x y) else none
/-- The sentence at the head of a text, and what is left; n: no fewer than the bytes. -/
def readS (t : Int) : Nat → List Nat → Option (Sen × List Nat)
  | 0, _ => none
  | _ + 1, [] => none
  | n + 1, c :: l =>
    if c = 49 then some (.one, l) else if c = 48 then some (.zero, l)
    else if 97 ≤ c ∧ (c : Int) - 97 < t then some (.thing (c - 97), l)
    else if c = 33 then (readS t n l).map fun p => (.no p.1, p.2)
    else if c = 63 then (readS t n l).map fun p => (.ask p.1, p.2)
    else if c = 40 then
      match readS t n l with
      | some (x, m :: l2) =>
        match readS t n l2 with
        | some (y, e :: r) => if e = 41 then (twoS m x y).map fun z => (z, r) else none
        | _ => none
      | _ => none
    else none
theorem readS_less (t : Int) : ∀ (n : Nat) (l : List Nat) (x : Sen) (r : List Nat), readS t n l = some (x, r) → r.length < l.length
  | 0, _, _, _, h => by cases h
  | _ + 1, [], _, _, h => by cases h
  | n + 1, c :: l, x, r, h => by
    have ih := readS_less t n
    unfold readS at h
    split at h
    · cases h; simp
    split at h
    · cases h; simp
    split at h
    · cases h; simp
    split at h
    · obtain ⟨⟨y, q⟩, hy, e⟩ := Option.map_eq_some_iff.1 h
      cases e; have := ih _ _ _ hy; simp; omega
    split at h
    · obtain ⟨⟨y, q⟩, hy, e⟩ := Option.map_eq_some_iff.1 h
      cases e; have := ih _ _ _ hy; simp; omega
    split at h
    · split at h
      · rename_i x1 m l2 h1
        split at h
        · rename_i y1 e r1 h2
          split at h
          · obtain ⟨z, hz, e2⟩ := Option.map_eq_some_iff.1 h
            cases e2
            have := ih _ _ _ h1; have := ih _ _ _ h2; simp at *; omega
          · cases h
        · cases h
      · cases h
    · cases h
/-- More fuel than bytes changes nothing. -/
theorem readS_more (t : Int) : ∀ (n m : Nat) (l : List Nat), l.length ≤ n → l.length ≤ m → readS t n l = readS t m l
  | 0, 0, _, _, _ => rfl
  | 0, m + 1, l, h, _ => by
    have : l = [] := List.eq_nil_of_length_eq_zero (by omega)
    subst this; rfl
  | n + 1, 0, l, _, h => by
    have : l = [] := List.eq_nil_of_length_eq_zero (by omega)
    subst this; rfl
  | n + 1, m + 1, [], _, _ => rfl
  | n + 1, m + 1, c :: l, hn, hm => by
    simp only [List.length_cons] at hn hm
    have e1 := readS_more t n m l (by omega) (by omega)
    have e2 : ∀ x m' l2, readS t m l = some (x, m' :: l2) → readS t n l2 = readS t m l2 := fun x m' l2 h => by
      have := readS_less t m l x _ h
      simp only [List.length_cons] at this
      exact readS_more t n m l2 (by omega) (by omega)
    unfold readS
    rw [e1]
    rcases h : readS t m l with _ | ⟨x, _ | ⟨m', l2⟩⟩
    · rfl
    · rfl
    · simp only []
      rw [e2 x m' l2 h]
def textS : Sen → List Nat
  | .one => [49]
  | .zero => [48]
  | .thing i => [97 + i]
  | .no x => 33 :: textS x
  | .ask x => 63 :: textS x
  | .and_ x y => 40 :: (textS x ++ 38 :: (textS y ++ [41]))
  | .or_ x y => 40 :: (textS x ++ 124 :: (textS y ++ [41]))
  | .if_ x y => 40 :: (textS x ++ 62 :: (textS y ++ [41]))
theorem read_ok (t : Int) : ∀ (n : Nat) (l : List Nat) (x : Sen) (r : List Nat), readS t n l = some (x, r) → senOk t x = true ∧ l = textS x ++ r
  | 0, _, _, _, h => by cases h
  | _ + 1, [], _, _, h => by cases h
  | n + 1, c :: l, x, r, h => by
    have ih := read_ok t n
    unfold readS at h
    split at h
    · cases h; rename_i hc; subst hc; exact ⟨rfl, rfl⟩
    split at h
    · cases h; rename_i hc; subst hc; exact ⟨rfl, rfl⟩
    split at h
    · cases h; rename_i hc; exact ⟨by simp [senOk]; omega, by simp [textS]; omega⟩
    split at h
    · obtain ⟨⟨y, q⟩, hy, e⟩ := Option.map_eq_some_iff.1 h
      cases e; have := ih _ _ _ hy; rename_i hc; subst hc; exact ⟨this.1, by rw [this.2]; rfl⟩
    split at h
    · obtain ⟨⟨y, q⟩, hy, e⟩ := Option.map_eq_some_iff.1 h
      cases e; have := ih _ _ _ hy; rename_i hc; subst hc; exact ⟨this.1, by rw [this.2]; rfl⟩
    split at h
    · rename_i hc
      split at h
      · rename_i x1 m l2 h1
        split at h
        · rename_i y1 e r1 h2
          split at h
          · rename_i he
            obtain ⟨z, hz, e2⟩ := Option.map_eq_some_iff.1 h
            cases e2
            obtain ⟨a1, b1⟩ := ih _ _ _ h1
            obtain ⟨a2, b2⟩ := ih _ _ _ h2
            subst b1 b2 hc he
            unfold twoS at hz
            split at hz
            · cases hz; rename_i hm; subst hm; exact ⟨by simp [senOk, a1, a2], by simp [textS]⟩
            split at hz
            · cases hz; rename_i hm; subst hm; exact ⟨by simp [senOk, a1, a2], by simp [textS]⟩
            split at hz
            · cases hz; rename_i hm; subst hm; exact ⟨by simp [senOk, a1, a2], by simp [textS]⟩
            · cases hz
          · cases h
        · cases h
      · cases h
    · cases h
/-- The text of a sentence is read as the sentence, whatever stands behind it. -/
theorem read_text (t : Int) : ∀ (x : Sen) (n : Nat) (r : List Nat), senOk t x = true → t ≤ 26 → (textS x).length ≤ n → readS t n (textS x ++ r) = some (x, r)
  | .one, n + 1, r, _, _, _ => rfl
  | .zero, n + 1, r, _, _, _ => rfl
  | .thing i, n + 1, r, h, ht, _ => by
    simp only [senOk, decide_eq_true_eq] at h
    show readS t (n + 1) ((97 + i) :: r) = _
    unfold readS
    rw [if_neg (by omega), if_neg (by omega), if_pos (by omega)]
    congr 3; omega
  | .no x, n + 1, r, h, ht, hl => by
    simp only [textS, List.length_cons] at hl
    show readS t (n + 1) (33 :: (textS x ++ r)) = _
    unfold readS
    rw [if_neg (by omega), if_neg (by omega), if_neg (by omega), if_pos rfl, read_text t x n r h ht (by omega)]; rfl
  | .ask x, n + 1, r, h, ht, hl => by
    simp only [textS, List.length_cons] at hl
    show readS t (n + 1) (63 :: (textS x ++ r)) = _
    unfold readS
    rw [if_neg (by omega), if_neg (by omega), if_neg (by omega), if_neg (by omega), if_pos rfl, read_text t x n r h ht (by omega)]; rfl
  | .and_ x y, n + 1, r, h, ht, hl => by
    simp only [textS, List.length_cons, List.length_append, List.length_nil] at hl
    simp only [senOk, Bool.and_eq_true] at h
    show readS t (n + 1) (40 :: ((textS x ++ 38 :: (textS y ++ [41])) ++ r)) = _
    have e : (textS x ++ 38 :: (textS y ++ [41])) ++ r = textS x ++ (38 :: (textS y ++ (41 :: r))) := by simp
    rw [e]
    unfold readS
    rw [if_neg (by omega), if_neg (by omega), if_neg (by omega), if_neg (by omega), if_neg (by omega), if_pos rfl, read_text t x n _ h.1 ht (by omega)]
    simp only []
    rw [read_text t y n _ h.2 ht (by omega)]; rfl
  | .or_ x y, n + 1, r, h, ht, hl => by
    simp only [textS, List.length_cons, List.length_append, List.length_nil] at hl
    simp only [senOk, Bool.and_eq_true] at h
    show readS t (n + 1) (40 :: ((textS x ++ 124 :: (textS y ++ [41])) ++ r)) = _
    have e : (textS x ++ 124 :: (textS y ++ [41])) ++ r = textS x ++ (124 :: (textS y ++ (41 :: r))) := by simp
    rw [e]
    unfold readS
    rw [if_neg (by omega), if_neg (by omega), if_neg (by omega), if_neg (by omega), if_neg (by omega), if_pos rfl, read_text t x n _ h.1 ht (by omega)]
    simp only []
    rw [read_text t y n _ h.2 ht (by omega)]; rfl
  | .if_ x y, n + 1, r, h, ht, hl => by
    simp only [textS, List.length_cons, List.length_append, List.length_nil] at hl
    simp only [senOk, Bool.and_eq_true] at h
    show readS t (n + 1) (40 :: ((textS x ++ 62 :: (textS y ++ [41])) ++ r)) = _
    have e : (textS x ++ 62 :: (textS y ++ [41])) ++ r = textS x ++ (62 :: (textS y ++ (41 :: r))) := by simp
    rw [e]
    unfold readS
    rw [if_neg (by omega), if_neg (by omega), if_neg (by omega), if_neg (by omega), if_neg (by omega), if_pos rfl, read_text t x n _ h.1 ht (by omega)]
    simp only []
    rw [read_text t y n _ h.2 ht (by omega)]; rfl
  | .one, 0, _, _, _, hl => by simp [textS] at hl
  | .zero, 0, _, _, _, hl => by simp [textS] at hl
  | .thing _, 0, _, _, _, hl => by simp [textS] at hl
  | .no _, 0, _, _, _, hl => by simp [textS] at hl
  | .ask _, 0, _, _, _, hl => by simp [textS] at hl
  | .and_ _ _, 0, _, _, _, hl => by simp [textS] at hl
  | .or_ _ _, 0, _, _, _, hl => by simp [textS] at hl
  | .if_ _ _, 0, _, _, _, hl => by simp [textS] at hl
/-- The sentence of a text. -/
def senOf (t : Int) (l : List Nat) : Option Sen :=
  if 1 ≤ t ∧ t ≤ 3 ∧ l.length ≤ 60 then (match readS t l.length l with | some (x, []) => some x | _ => none) else none
theorem senOf_iff {t : Int} {l : List Nat} {x : Sen} : senOf t l = some x ↔ (1 ≤ t ∧ t ≤ 3 ∧ l.length ≤ 60 ∧ senOk t x = true ∧ l = textS x) := by
  unfold senOf
  constructor
  · intro h
    split at h
    · rename_i hc
      split at h
      · rename_i y hy
        cases h
        have := read_ok t _ _ _ _ hy
        simp at this
        exact ⟨hc.1, hc.2.1, hc.2.2, this.1, this.2⟩
      · cases h
    · cases h
  · rintro ⟨h1, h3, hl, hs, rfl⟩
    rw [if_pos ⟨h1, h3, hl⟩]
    have := read_text t x (textS x).length [] hs (by omega) (Nat.le_refl _)
    rw [List.append_nil] at this
    rw [this]

end Go.Proofs.Ytobgnbgmpcilgaa

namespace Go.Proofs.Ytobgnbgmpcilgaa
open Go.RowKit Go.Shelf
attribute [local go_sem] Oper.semAt_some

theorem and_mod2 (a b : Nat) : (a &&& b) % 2 = (a % 2) &&& (b % 2) := by simpa using Nat.and_mod_two_pow (a := a) (b := b) (n := 1)
/-- The greatest set within s below p, where p is one. -/
theorem sub_le : ∀ (p s u : Nat), p &&& s = p → u &&& s = u → u < p → u ≤ (p - 1) &&& s := by
  intro p
  induction p using Nat.strongRecOn with
  | _ p ih =>
    intro s u hp hu hlt
    have p2 : p / 2 &&& s / 2 = p / 2 := by rw [← Nat.and_div_two, hp]
    have u2 : u / 2 &&& s / 2 = u / 2 := by rw [← Nat.and_div_two, hu]
    have e2 : ((p - 1) &&& s) / 2 = (p - 1) / 2 &&& s / 2 := Nat.and_div_two
    have em := and_mod2 (p - 1) s
    have um := and_mod2 u s
    rw [hu] at um
    rcases Nat.mod_two_eq_zero_or_one p with h | h
    · have h1 : (p - 1) / 2 = p / 2 - 1 := by omega
      have h2 : (p - 1) % 2 = 1 := by omega
      have := ih (p / 2) (by omega) (s / 2) (u / 2) p2 u2 (by omega)
      rw [h1] at e2
      rw [h2] at em
      rw [← e2] at this
      rcases Nat.mod_two_eq_zero_or_one s with h3 | h3 <;> rcases Nat.mod_two_eq_zero_or_one u with h4 | h4 <;> rw [h3] at em um <;> rw [h4] at um <;>
        first | (have em : ((p - 1) &&& s) % 2 = 0 := em; omega) | (have em : ((p - 1) &&& s) % 2 = 1 := em; omega) | (exfalso; revert um; decide)
    · have h1 : (p - 1) / 2 = p / 2 := by omega
      rw [h1, p2] at e2
      omega
theorem within_nat {a b : Int} (ha : 0 ≤ a) (h : withinB a b = true) : a.toNat &&& b.toNat = a.toNat := by
  have := of_decide_eq_true h
  unfold andI at this
  omega
theorem subs_next {s p u : Int} (hp : withinB p s = true) (h0 : 0 < p) (hu0 : 0 ≤ u) (hu : withinB u s = true) (hlt : u < p) : u ≤ andI (p - 1) s := by
  have := sub_le p.toNat s.toNat u.toNat (within_nat (by omega) hp) (within_nat hu0 hu) (by omega)
  have e : (p - 1).toNat = p.toNat - 1 := by omega
  unfold andI
  rw [e]
  omega

abbrev Sub (s : Int) := { x : Int // 0 ≤ x ∧ x ≤ s ∧ withinB x s = true }
/-- All sets within s have come. -/
def FullS (s : Int) (xs : List (Sub s)) : Prop := ∀ u : Sub s, u ∈ xs
def FromS (s p : Int) (xs : List (Sub s)) : Prop := ∀ u : Sub s, p < u.1 → u ∈ xs
theorem fromS_start (s : Int) : FromS s s [] := fun u h => by have := u.2; omega
theorem fromS_next {s p : Int} {pre : List (Sub s)} (hp : 0 ≤ p ∧ p ≤ s ∧ withinB p s = true) (h0 : 0 < p) (h : FromS s p pre) : FromS s (andI (p - 1) s) (pre ++ [⟨p, hp⟩]) := by
  intro u hu
  rcases Int.lt_or_le p u.1 with h1 | h1
  · exact List.mem_append.2 (.inl (h u h1))
  · by_cases e : u.1 = p
    · exact List.mem_append.2 (.inr (by rw [List.mem_singleton]; exact Subtype.ext e))
    · have := subs_next hp.2.2 h0 u.2.1 u.2.2.2 (by omega)
      omega
theorem fromS_end {s p : Int} {pre : List (Sub s)} (hp : 0 ≤ p ∧ p ≤ s ∧ withinB p s = true) (h0 : ¬ 0 < p) (h : FromS s p pre) : FullS s (pre ++ [⟨p, hp⟩]) := by
  intro u
  rcases Int.lt_or_le p u.1 with h1 | h1
  · exact List.mem_append.2 (.inl (h u h1))
  · exact List.mem_append.2 (.inr (by rw [List.mem_singleton]; exact Subtype.ext (by have := u.2.1; show u.1 = p; omega)))

end Go.Proofs.Ytobgnbgmpcilgaa

namespace Go.Proofs.Ytobgnbgmpcilgaa
open Go.RowKit Go.Shelf
attribute [local go_sem] Oper.semAt_some

/-- The slice at ⟨b, o⟩ of n bools tells f of every set within s. -/
def Told (w : World) (b o n : Nat) (s : Int) (f : Int → Bool) : Prop :=
  b < w.heap.size ∧ ∀ u : Int, 0 ≤ u → withinB u s = true → u < n ∧ w.cell? ⟨b, o + u.toNat, none⟩ = some (.bool (f u))
theorem Told.below {w w' : World} {b o n : Nat} {s : Int} {f : Int → Bool} (h : Told w b o n s f) (hb : Below w.heap.size w w') : Told w' b o n s f :=
  ⟨Nat.lt_of_lt_of_le h.1 hb.size, fun u h0 hu => ⟨(h.2 u h0 hu).1, (hb.cell (p := ⟨b, o + u.toNat, none⟩) h.1).trans (h.2 u h0 hu).2⟩⟩
theorem Told.sub {w : World} {b o n : Nat} {s s2 : Int} {f : Int → Bool} (h : Told w b o n s f) (hs0 : 0 ≤ s2) (hs : withinB s2 s = true) : Told w b o n s2 f :=
  ⟨h.1, fun u h0 hu => h.2 u h0 (within_trans h0 hs0 hu hs)⟩

theorem kept_t {Bn : Nat} {A B C : World} (h : B.heap[Bn]? = A.heap[Bn]?) (k : C.heap[Bn]? = B.heap[Bn]?) : C.heap[Bn]? = A.heap[Bn]? := k.trans h
theorem kept_b {Bn : Nat} {w : World} (hn : Bn < w.heap.size) (W : World) (l : Nat) (o o' : Obj) (hl : w.heap.size ≤ l) (_ : W.heap[l]? = some o) (_ : o.isCells = false) (_ : o.isWalk = false) : (W.putObj l o').heap[Bn]? = W.heap[Bn]? :=
  World.putObj_heap_other (by omega)

def ifB (s : Int) (f g : Int → Bool) : Bool := (List.range (s.toNat + 1)).all fun u : Nat => !withinB (u : Int) s || !f (u : Int) || g (u : Int)
theorem ifB_miss {s : Int} {f g : Int → Bool} (u : Sub s) (h1 : f u.1 = true) (h2 : g u.1 = false) : ifB s f g = false := by
  unfold ifB
  rw [List.all_eq_false]
  refine ⟨u.1.toNat, List.mem_range.2 (by have := u.2; omega), ?_⟩
  rw [Int.toNat_of_nonneg u.2.1, u.2.2.2, h1, h2]; decide
theorem ifB_full {s : Int} {f g : Int → Bool} (hs : 0 ≤ s) {xs : List (Sub s)} (hx : FullS s xs) (h : ∀ y ∈ xs, (f y.1 && !g y.1) = false) : ifB s f g = true := by
  unfold ifB
  rw [List.all_eq_true]
  intro u hu
  rw [List.mem_range] at hu
  cases hw : withinB (u : Int) s
  · rfl
  · have := h ⟨(u : Int), by omega, within_le hw hs, hw⟩ (hx _)
    revert this
    cases f (u : Int) <;> cases g (u : Int) <;> simp

theorem pre_snoc {s : Int} {f g : Int → Bool} {pre : List (Sub s)} {x : Sub s} (h : ∀ y ∈ pre, (f y.1 && !g y.1) = false) (hx : (f x.1 && !g x.1) = false) : ∀ y ∈ pre ++ [x], (f y.1 && !g y.1) = false := by
  intro y hy
  rcases List.mem_append.1 hy with e | e
  · exact h y e
  · rw [List.mem_singleton] at e; subst e; exact hx
theorem box_keep {W W' : World} {row : Option Nat} {B : Nat} {t : TypeId} {v : Value} (h : Boxed W B t v) (hg : W.grownBy W' row) (hr : ∀ r, row = some r → ∃ o : Obj, W.heap[r]? = some o ∧ o.isCells = false) : Boxed W' B t v :=
  h.kept hg (fun e => by obtain ⟨o, ho, hc⟩ := hr B e.symm; rw [show W.heap[B]? = _ from h] at ho; cases ho; cases hc)
theorem Boxed.below {W W' : World} {B : Nat} {t : TypeId} {v : Value} (h : Boxed W B t v) (hb : Below W.heap.size W W') : Boxed W' B t v := (hb.block B h.lt).trans h
theorem box_putObj {W : World} {B : Nat} {t : TypeId} {v : Value} (h : Boxed W B t v) {D : Nat} {o : Obj} (o' : Obj) (hD : W.heap[D]? = some o) (ho : o.isCells = false) : Boxed (W.putObj D o') B t v :=
  box_keep h (grownBy_putObj' W D o') (fun r e => by cases e; exact ⟨o, hD, ho⟩)

end Go.Proofs.Ytobgnbgmpcilgaa

namespace Go.Proofs.Ytobgnbgmpcilgaa
open Go.RowKit

def bitOf (c k : Nat) : Bool := decide (c = 49) || (!decide (c = 48) && decide (k / 2 ^ (c - 97) % 2 = 1))
def wordTo (c : Nat) : Nat → Nat
  | 0 => 0
  | k + 1 => wordTo c k ||| (if bitOf c k = true then 2 ^ k else 0)
def isWord (c : Nat) : Prop := c = 48 ∨ c = 49 ∨ c = 97 ∨ c = 98 ∨ c = 99
def wNext (c k v : Nat) : Prop := v = wordTo c (k + 1)

set_option maxRecDepth 100000 in
set_option maxHeartbeats 4000000 in
theorem iWorldsOfWord (t : Int) (n : Nat) (hn : worldsOf t = (n : Int)) (hn8 : n ≤ 8) (c : Nat) (w : World) (hc : isWord c) :
    Calls Try.prog 53 #[.int .i64 t, .int .u8 c] w fun e w' => e = .returned (.int .i64 (wordTo c n)) ∧ w = w' := by
  have HN := Lib.hid hn
  clear hn
  go_enter Try.func53, Try.ntmps53
  go_wp2_with (go_at_call 43; refine (iWorldsOf _ _).mono ?_; rintro e w' ⟨rfl, rfl⟩)
  rw [HN.out]
  go_loop [5, 9] (fun v i => ∃ k : Nat, k ≤ n ∧ i = .int .i64 k ∧ v = .int .i64 (wordTo c k)) (fun _ i => n - (Go.RowKit.intOf i).toNat)
  case atStart => exact ⟨0, Nat.zero_le _, rfl, rfl⟩
  case round =>
    obtain ⟨k, hk, rfl, rfl⟩ := hrel
    by_cases hlt : k < n
    · have h8 : k = 0 ∨ k = 1 ∨ k = 2 ∨ k = 3 ∨ k = 4 ∨ k = 5 ∨ k = 6 ∨ k = 7 := by omega
      have hs : k + 1 ≤ n := hlt
      have HS := Lib.hid hs
      have HL : Hid ((k : Int) < (n : Int)) := by unfold Hid; omega
      clear hk hs hlt hn8
      rcases hc with rfl | rfl | rfl | rfl | rfl <;> rcases h8 with rfl | rfl | rfl | rfl | rfl | rfl | rfl | rfl
      all_goals
        have hlt := HL.out
        go_wp2
        refine ⟨⟨_, HS.out, rfl, by rfl⟩, ?_⟩
        clear HS HL
        simp [Go.RowKit.intOf]
        omega
    · obtain rfl : k = n := by omega
      go_wp2
      go_ret
      exact ⟨rfl, rfl⟩
end Go.Proofs.Ytobgnbgmpcilgaa

namespace Go.Proofs.Ytobgnbgmpcilgaa
open Go.RowKit

def denyB (s : Int) (f : Int → Bool) : Bool := (List.range 8).all fun w => !hasW s w || !f (worldS w)
def NoneTo (s : Int) (f : Int → Bool) (k : Nat) : Prop := ∀ j, j < k → hasW s j = true → f (worldS j) = false
theorem noneTo_next {s : Int} {f : Int → Bool} {k : Nat} (h : NoneTo s f k) (hk : hasW s k = true → f (worldS k) = false) : NoneTo s f (k + 1) := fun j hj => by
  by_cases e : j = k
  · subst e; exact hk
  · exact h j (by omega)
theorem has_pow {s : Int} {k : Nat} (h : hasW s k = true) : worldS k ≤ s := by
  have := Nat.ge_two_pow_of_testBit (x := s.toNat) (i := k) h
  have h2 := Nat.two_pow_pos k
  unfold worldS
  omega
theorem deny_end {s : Int} {f : Int → Bool} {k : Nat} (h : NoneTo s f k) (hk : s < worldS k) : denyB s f = true := by
  unfold denyB
  rw [List.all_eq_true]
  intro w _
  cases hw : hasW s w
  · rfl
  · have h1 := has_pow hw
    have : w < k := by
      rcases Nat.lt_or_ge w k with h2 | h2
      · exact h2
      · have : 2 ^ k ≤ 2 ^ w := Nat.pow_le_pow_right (by omega) h2
        unfold worldS at h1 hk
        omega
    rw [h w this hw]; rfl
theorem deny_hit {s : Int} {f : Int → Bool} {k : Nat} (hk : k < 8) (h1 : hasW s k = true) (h2 : f (worldS k) = true) : denyB s f = false := by
  unfold denyB
  rw [List.all_eq_false]
  exact ⟨k, List.mem_range.2 hk, by rw [h1, h2]; decide⟩
theorem world_is {s : Int} {k : Nat} {p : Int} {v : Bool} (hp : worldS k = p) (h : hasW s k = v) : Hid (withinB p s = v) := by
  unfold Hid
  subst hp
  cases v
  · cases h2 : withinB (worldS k) s
    · rfl
    · rw [(world_within k).1 h2] at h; cases h
  · exact (world_within k).2 h

end Go.Proofs.Ytobgnbgmpcilgaa

namespace Go.Proofs.Ytobgnbgmpcilgaa
open Go.RowKit

def signS : Sen → Nat
  | .one => 49
  | .zero => 48
  | .thing i => 97 + i
  | .no _ => 33
  | .ask _ => 63
  | .and_ _ _ => 38
  | .or_ _ _ => 124
  | .if_ _ _ => 62
theorem worlds_n {t : Int} (h1 : 1 ≤ t) (h3 : t ≤ 3) : worldsOf t = (nWorlds t : Int) ∧ nWorlds t ≤ 8 := by
  have : t = 1 ∨ t = 2 ∨ t = 3 := by omega
  rcases this with rfl | rfl | rfl <;> exact ⟨rfl, by decide⟩
theorem word_one {t : Int} (h1 : 1 ≤ t) (h3 : t ≤ 3) : (wordTo 49 (nWorlds t) : Int) = allOf t := by
  have : t = 1 ∨ t = 2 ∨ t = 3 := by omega
  rcases this with rfl | rfl | rfl <;> rfl
theorem word_zero {t : Int} (h1 : 1 ≤ t) (h3 : t ≤ 3) : (wordTo 48 (nWorlds t) : Int) = 0 := by
  have : t = 1 ∨ t = 2 ∨ t = 3 := by omega
  rcases this with rfl | rfl | rfl <;> rfl
theorem word_thing {t : Int} {i : Nat} (h1 : 1 ≤ t) (h3 : t ≤ 3) (hi : (i : Int) < t) : (wordTo (97 + i) (nWorlds t) : Int) = letterSet t i := by
  have : t = 1 ∨ t = 2 ∨ t = 3 := by omega
  rcases this with rfl | rfl | rfl
  · obtain rfl : i = 0 := by omega
    rfl
  · have : i = 0 ∨ i = 1 := by omega
    rcases this with rfl | rfl <;> rfl
  · have : i = 0 ∨ i = 1 ∨ i = 2 := by omega
    rcases this with rfl | rfl | rfl <;> rfl
theorem word_range (c : Nat) {t : Int} (h1 : 1 ≤ t) (h3 : t ≤ 3) (hc : isWord c) : wordTo c (nWorlds t) < 256 := by
  have : t = 1 ∨ t = 2 ∨ t = 3 := by omega
  rcases this with rfl | rfl | rfl <;> rcases hc with rfl | rfl | rfl | rfl | rfl <;> decide
theorem deny_worlds {t s : Int} (h1 : 1 ≤ t) (h3 : t ≤ 3) (hs0 : 0 ≤ s) (hs : s ≤ allOf t) (f : Int → Bool) : ((List.range (nWorlds t)).all fun w => !hasW s w || !f (worldS w)) = denyB s f := by
  unfold denyB
  rw [Bool.eq_iff_iff, List.all_eq_true, List.all_eq_true]
  have hn := (worlds_n h1 h3).2
  constructor
  · intro h w hw
    rcases Nat.lt_or_ge w (nWorlds t) with h2 | h2
    · exact h w (List.mem_range.2 h2)
    · cases h4 : hasW s w
      · rfl
      · have := has_lt h1 h3 hs0 hs h4; omega
  · intro h w hw
    exact h w (List.mem_range.2 (by have := List.mem_range.1 hw; omega))
theorem holds_no {t s : Int} (h1 : 1 ≤ t) (h3 : t ≤ 3) (hs0 : 0 ≤ s) (hs : s ≤ allOf t) (x : Sen) : holdsS t (.no x) s = denyB s (holdsS t x) := deny_worlds h1 h3 hs0 hs _
theorem holds_ask {t s : Int} (h1 : 1 ≤ t) (h3 : t ≤ 3) (hs0 : 0 ≤ s) (hs : s ≤ allOf t) (x : Sen) : holdsS t (.ask x) s = (holdsS t x s || denyB s (holdsS t x)) := by
  rw [← deny_worlds h1 h3 hs0 hs]; rfl
theorem holds_if (t : Int) (x y : Sen) (s : Int) : holdsS t (.if_ x y) s = ifB s (holdsS t x) (holdsS t y) := rfl

def TellsV (w : World) (v : Value) (s : Int) (f : Int → Bool) : Prop := ∃ b o n c, v = .slice (some ⟨b, o, none⟩) n c ∧ Told w b o n s f
def KidsTold (w : World) (t : Int) (x : Sen) (s : Int) (v1 v2 : Value) : Prop :=
  match x with
  | .no a => TellsV w v1 s (holdsS t a)
  | .ask a => TellsV w v1 s (holdsS t a)
  | .and_ a b => TellsV w v1 s (holdsS t a) ∧ TellsV w v2 s (holdsS t b)
  | .or_ a b => TellsV w v1 s (holdsS t a) ∧ TellsV w v2 s (holdsS t b)
  | .if_ a b => TellsV w v1 s (holdsS t a) ∧ TellsV w v2 s (holdsS t b)
  | _ => True
theorem TellsV.below {w w' : World} {v : Value} {s : Int} {f : Int → Bool} (h : TellsV w v s f) (hb : Below w.heap.size w w') : TellsV w' v s f := by
  obtain ⟨b, o, n, c, rfl, h⟩ := h; exact ⟨b, o, n, c, rfl, h.below hb⟩
theorem TellsV.sub {w : World} {v : Value} {s s2 : Int} {f : Int → Bool} (h : TellsV w v s f) (hs0 : 0 ≤ s2) (hs : withinB s2 s = true) : TellsV w v s2 f := by
  obtain ⟨b, o, n, c, rfl, h⟩ := h; exact ⟨b, o, n, c, rfl, h.sub hs0 hs⟩
theorem KidsTold.below {w w' : World} {t : Int} {x : Sen} {s : Int} {v1 v2 : Value} (h : KidsTold w t x s v1 v2) (hb : Below w.heap.size w w') : KidsTold w' t x s v1 v2 := by
  cases x with
  | one => trivial
  | zero => trivial
  | thing i => trivial
  | no a => exact TellsV.below h hb
  | ask a => exact TellsV.below h hb
  | and_ a b => exact ⟨TellsV.below h.1 hb, TellsV.below h.2 hb⟩
  | or_ a b => exact ⟨TellsV.below h.1 hb, TellsV.below h.2 hb⟩
  | if_ a b => exact ⟨TellsV.below h.1 hb, TellsV.below h.2 hb⟩
theorem KidsTold.sub {w : World} {t : Int} {x : Sen} {s s2 : Int} {v1 v2 : Value} (h : KidsTold w t x s v1 v2) (hs0 : 0 ≤ s2) (hs : withinB s2 s = true) : KidsTold w t x s2 v1 v2 := by
  cases x with
  | one => trivial
  | zero => trivial
  | thing i => trivial
  | no a => exact TellsV.sub h hs0 hs
  | ask a => exact TellsV.sub h hs0 hs
  | and_ a b => exact ⟨TellsV.sub h.1 hs0 hs, TellsV.sub h.2 hs0 hs⟩
  | or_ a b => exact ⟨TellsV.sub h.1 hs0 hs, TellsV.sub h.2 hs0 hs⟩
  | if_ a b => exact ⟨TellsV.sub h.1 hs0 hs, TellsV.sub h.2 hs0 hs⟩
end Go.Proofs.Ytobgnbgmpcilgaa

namespace Go.Proofs.Ytobgnbgmpcilgaa
open Go.RowKit

theorem oper_round {l n : Nat} {P : Program} {o : Oper} {a : Act} {w : World} {K : Act → World → Prop} {Q : Exit → Act → World → Prop} (hd : ∀ c, o.op ≠ .defer c) (h : o.wp P a w K Q) : o.wpIn (Fence.wide.inRound l) n P a w K Q := by
  refine ⟨fun _ _ => trivial, ?_⟩
  rw [Oper.semAt_eq _ _ _ hd]
  unfold Oper.wp at h
  generalize (execOp a.eval o).run P w = r at h ⊢
  cases r with
  | ok x w' =>
    cases x with
    | value v => exact h
    | skip => exact h
    | defer d => exact h
    | enter f args =>
      refine ⟨fun e => (by cases e), ?_⟩
      refine (callsIn_wide (n := n - 1)).2 ?_
      refine Calls.mono h fun e w'' he => ?_
      cases e <;> exact he
    | row r args =>
      refine ⟨fun e => (by cases e), fun c cs _ => ?_⟩
      obtain ⟨v, w'', hr, hs⟩ := h c cs
      exact ⟨v, w'', hr, stepsIn_wide.2 hs⟩
    | _ => exact h.elim
  | halt x w' => cases x <;> exact h
def noDefer (o : Oper) : Bool := match o.op with | .defer _ => false | _ => true
theorem noDefer_ne {o : Oper} (h : noDefer o = true) : ∀ c, o.op ≠ .defer c := fun c e => by unfold noDefer at h; rw [e] at h; cases h
theorem anyIn_round {l n : Nat} {P : Program} {md : Region.Mode} {ops : Array Oper} {Q : Exit → Act → World → Prop} (hd : ops.all noDefer = true) (hQ : ¬ LetsOut Q) :
    ∀ (fuel : Nat) (listed : Array Bool) (a : Act) (w : World), wpAny P md ops Q fuel listed a w → wpAnyIn (Fence.wide.inRound l) n P md ops Q fuel listed a w
  | 0, _, _, _, h => h
  | fuel + 1, listed, a, w, h => by
    refine ⟨h.1, fun i hi => ?_⟩
    have h2 := h.2 i hi
    unfold wpOp at h2
    unfold wpOpIn
    cases ho : ops[i]? with
    | none => rw [ho] at h2; exact anyIn_round hd hQ fuel _ _ _ h2
    | some o =>
      rw [ho] at h2
      simp only at h2 ⊢
      have hdo : noDefer o = true := by
        obtain ⟨hlt, e⟩ := Array.getElem?_eq_some_iff.1 ho
        rw [Array.all_eq_true] at hd
        have := hd i hlt
        rwa [e] at this
      split
      · rename_i hw
        rw [if_pos hw] at h2
        rcases h2 with h2 | h2
        · exact oper_round (noDefer_ne hdo) (Oper.wp_mono (fun a w => anyIn_round hd hQ fuel _ a w) h2)
        · exact absurd h2.2 hQ
      · rename_i hw
        rw [if_neg hw] at h2
        exact ⟨fun _ _ => trivial, anyIn_round hd hQ fuel _ _ _ h2⟩
/-- The beginning, in a round. -/
theorem round_held {l n : Nat} {P : Program} {ops : Array Oper} {Q : Exit → Act → World → Prop} {S : World → Prop} {id : Nat} {a : Act} {w : World} (hm : P.follows .mixedOrders = true) (hd : ops.all noDefer = true) (hQ : ¬ LetsOut Q) (hS : S w.drew)
    (h : S w.drew → wpAnyH P .any ops Q S ops.size (Array.replicate ops.size false) a w.drew) : (Code.region id ops true).wpIn (Fence.wide.inRound l) n P Q a w :=
  wpIn_region_any hm (anyIn_round hd hQ _ _ _ _ (wpAny_of_held _ _ _ _ (h hS)))
end Go.Proofs.Ytobgnbgmpcilgaa

namespace Go.Proofs.Ytobgnbgmpcilgaa
open Go.RowKit Go.Shelf
attribute [local go_sem] Oper.semAt_some

def KidPost (P : World → Value → Prop) (w : World) (e : Ending) (w' : World) : Prop := ∃ A n c, e = .returned (.slice A n c) ∧ P w' (.slice A n c) ∧ Below w.heap.size w w'
def Kid1 (t s : Int) (x : Sen) (w : World) (v : Value) : Prop :=
  match x with
  | .no a => TellsV w v s (holdsS t a)
  | .ask a => TellsV w v s (holdsS t a)
  | .and_ a _ => TellsV w v s (holdsS t a)
  | .or_ a _ => TellsV w v s (holdsS t a)
  | .if_ a _ => TellsV w v s (holdsS t a)
  | _ => True
def Kid2 (t s : Int) (x : Sen) (w : World) (v : Value) : Prop :=
  match x with
  | .and_ _ a => TellsV w v s (holdsS t a)
  | .or_ _ a => TellsV w v s (holdsS t a)
  | .if_ _ a => TellsV w v s (holdsS t a)
  | _ => True
theorem Kid1.below {t s : Int} {x : Sen} {w w' : World} {v : Value} (h : Kid1 t s x w v) (hb : Below w.heap.size w w') : Kid1 t s x w' v := by
  cases x <;> first | exact TellsV.below h hb | trivial
theorem Kid2.below {t s : Int} {x : Sen} {w w' : World} {v : Value} (h : Kid2 t s x w v) (hb : Below w.heap.size w w') : Kid2 t s x w' v := by
  cases x <;> first | exact TellsV.below h hb | trivial
theorem zero_within (s : Int) : withinB 0 s = true := by unfold withinB andI; simp
theorem Told.set {w : World} {b o n : Nat} {s : Int} {f : Int → Bool} {B k c : Nat} {t : TypeId} {A : Option Addr} (h : Told w b o n s f) (hx : Boxed w B t (.slice A k c)) (v : Value) : Told (w.setCell ⟨B, 0, none⟩ v) b o n s f := by
  have hne : B ≠ b := by
    rintro rfl
    have h0 := (h.2 0 (Int.le_refl _) (zero_within s)).2
    simp [World.cell?, show w.heap[B]? = _ from hx] at h0
    cases o with
    | zero => simp at h0
    | succ o => simp at h0
  exact ⟨by have := (KeepsWalks.setCell w ⟨B, 0, none⟩ v).size; have := h.1; omega, fun u h0 hu => ⟨(h.2 u h0 hu).1, (World.cell?_setCell_far _ _ _ _ hne).trans (h.2 u h0 hu).2⟩⟩
theorem TellsV.set {w : World} {v : Value} {s : Int} {f : Int → Bool} {B k c : Nat} {t : TypeId} {A : Option Addr} (h : TellsV w v s f) (hx : Boxed w B t (.slice A k c)) (u : Value) : TellsV (w.setCell ⟨B, 0, none⟩ u) v s f := by
  obtain ⟨b, o, n, c', rfl, h⟩ := h; exact ⟨b, o, n, c', rfl, h.set hx u⟩
theorem Kid1.set {t s : Int} {x : Sen} {w : World} {v : Value} {B k c : Nat} {ty : TypeId} {A : Option Addr} (h : Kid1 t s x w v) (hx : Boxed w B ty (.slice A k c)) (u : Value) : Kid1 t s x (w.setCell ⟨B, 0, none⟩ u) v := by
  cases x <;> first | exact TellsV.set h hx u | trivial
theorem Kid2.set {t s : Int} {x : Sen} {w : World} {v : Value} {B k c : Nat} {ty : TypeId} {A : Option Addr} (h : Kid2 t s x w v) (hx : Boxed w B ty (.slice A k c)) (u : Value) : Kid2 t s x (w.setCell ⟨B, 0, none⟩ u) v := by
  cases x <;> first | exact TellsV.set h hx u | trivial
theorem cut_size {W w2 : World} (h : Below W.drew.heap.size W.drew w2) : W.heap.size ≤ w2.heap.size := h.size
theorem cut_new {W w2 : World} (h : Below W.drew.heap.size W.drew w2) (o : Obj) : Below W.heap.size W (w2.alloc o) :=
  ((below_drewN (Below.refl W.heap.size W) 1).trans h).alloc (cut_size h) o
theorem cut_set {W w2 : World} {o : Obj} (h : Below (W.alloc o).drew.heap.size (W.alloc o).drew w2) (v : Value) : Below W.heap.size W (w2.setCell ⟨W.heap.size, 0, none⟩ v) := by
  have h1 : Below W.heap.size (W.alloc o).drew w2 := h.mono (by show W.heap.size ≤ (W.alloc o).heap.size; simp)
  exact ((below_drewN ((Below.refl W.heap.size W).alloc (Nat.le_refl _) o) 1).trans h1).setCell (p := ⟨W.heap.size, 0, none⟩) (Nat.le_refl _) v
def toldF {s : Int} (f : Int → Bool) (pre : List (Sub s)) : Nat → Value := fun i => .bool (decide ((i : Int) ∈ pre.map (·.1)) && f i)
theorem toldF_next {s : Int} {f : Int → Bool} (pre : List (Sub s)) (y : Sub s) (i : Nat) : (if i = y.1.toNat then Value.bool (f y.1) else toldF f pre i) = toldF f (pre ++ [y]) i := by
  have h0 := y.2.1
  unfold toldF
  by_cases e : i = y.1.toNat
  · rw [if_pos e]
    have e2 : (i : Int) = y.1 := by omega
    rw [e2, decide_eq_true (by simp)]; rfl
  · rw [if_neg e]
    congr 2
    rw [decide_eq_decide]
    have e2 : ¬ (i : Int) = y.1 := by omega
    simp [e2]
theorem row_keep {W W' : World} {row : Option Nat} {b n : Nat} {t : TypeId} {f : Nat → Value} (h : W.rowIs b t n f) (hg : W.grownBy W' row) (hr : ∀ r, row = some r → ∃ o : Obj, W.heap[r]? = some o ∧ o.isCells = false) : W'.rowIs b t n f := by
  refine h.of_block (hg.block b h.lt fun e => ?_)
  obtain ⟨o, ho, hc⟩ := hr b e.symm
  obtain ⟨C, hC, _⟩ := h
  rw [hC] at ho; cases ho; cases hc
structure SigHeld (N b B7 B8 T m : Nat) (t : Int) (sg : Nat) (v1 v2 : Value) (w : World) : Prop where
  c9 : w.cell? ⟨T + 1, 0, none⟩ = some (.slice (some ⟨T, 0, none⟩) (m + 1) (m + 1))
  ct : w.cell? ⟨N, 0, none⟩ = some (.int .i64 t)
  cb : w.cell? ⟨N + 1, 0, none⟩ = some (.pointer (some ⟨b, 0, none⟩))
  cs : w.cell? ⟨b, 0, none⟩ = some (.int .u8 sg)
  c7 : w.cell? ⟨B7, 0, none⟩ = some v1
  c8 : w.cell? ⟨B8, 0, none⟩ = some v2
theorem SigHeld.keep {N b B7 B8 T m : Nat} {t : Int} {sg : Nat} {v1 v2 : Value} {w w' : World} (h : SigHeld N b B7 B8 T m t sg v1 v2 w) (hk : ∀ a : Addr, a.block ≠ T → (w.cell? a).isSome = true → w'.cell? a = w.cell? a) (_h1 : N < T) (h2 : N + 1 < T) (h3 : b < T) (h4 : B7 < T) (h5 : B8 < T) : SigHeld N b B7 B8 T m t sg v1 v2 w' :=
  ⟨(hk _ (by show T + 1 ≠ T; omega) (by rw [h.c9]; rfl)).trans h.c9, (hk _ (by show N ≠ T; omega) (by rw [h.ct]; rfl)).trans h.ct, (hk _ (by show N + 1 ≠ T; omega) (by rw [h.cb]; rfl)).trans h.cb,
    (hk _ (by show b ≠ T; omega) (by rw [h.cs]; rfl)).trans h.cs, (hk _ (by show B7 ≠ T; omega) (by rw [h.c7]; rfl)).trans h.c7, (hk _ (by show B8 ≠ T; omega) (by rw [h.c8]; rfl)).trans h.c8⟩
theorem SigHeld.below {N b B7 B8 T m : Nat} {t : Int} {sg : Nat} {v1 v2 : Value} {w w' : World} (h : SigHeld N b B7 B8 T m t sg v1 v2 w) (hb : Below w.heap.size w w') : SigHeld N b B7 B8 T m t sg v1 v2 w' :=
  ⟨(hb.cell (World.block_lt_of_cell? w _ h.c9)).trans h.c9, (hb.cell (World.block_lt_of_cell? w _ h.ct)).trans h.ct, (hb.cell (World.block_lt_of_cell? w _ h.cb)).trans h.cb,
    (hb.cell (World.block_lt_of_cell? w _ h.cs)).trans h.cs, (hb.cell (World.block_lt_of_cell? w _ h.c7)).trans h.c7, (hb.cell (World.block_lt_of_cell? w _ h.c8)).trans h.c8⟩
theorem keeps_below {w w' : World} (h : Below w.heap.size w w') : KeepsOthers w w' := ⟨h.size, fun k _ hk _ => (h.block k (Array.getElem?_eq_some_iff.1 hk).1).trans hk⟩
theorem kids_told {t s : Int} {x : Sen} {w : World} {v1 v2 : Value} (h1 : Kid1 t s x w v1) (h2 : Kid2 t s x w v2) : KidsTold w t x s v1 v2 := by
  cases x <;> first | exact ⟨h1, h2⟩ | exact h1 | trivial
theorem bool_info : (Try.prog.info? 4).map (fun i => (i.zero, i.size, i.bytes)) = some (some (.bool false), 1, 1) := by kernel_rfl
end Go.Proofs.Ytobgnbgmpcilgaa

namespace Go.Proofs.Ytobgnbgmpcilgaa
open Go.RowKit

end Go.Proofs.Ytobgnbgmpcilgaa

namespace Go.Proofs.Ytobgnbgmpcilgaa
open Go.RowKit

def bytesN (s : ByteArray) : List Nat := s.data.toList.map UInt8.toNat
theorem bytesN_len (s : ByteArray) : (bytesN s).length = s.size := by unfold bytesN; rw [List.length_map]; rfl
theorem bytesN_drop {s : ByteArray} {at_ : Nat} (h : at_ < s.size) : (bytesN s).drop at_ = s[at_].toNat :: (bytesN s).drop (at_ + 1) := by
  rw [List.drop_eq_getElem_cons (by rw [bytesN_len]; exact h)]
  congr 1
  unfold bytesN
  rw [List.getElem_map]; rfl
end Go.Proofs.Ytobgnbgmpcilgaa

namespace Go.Proofs.Ytobgnbgmpcilgaa
open Go.RowKit

def Panics (R : Nat) (w : World) (e : Ending) (w' : World) : Prop := ∃ v : Value, e = .panicked [{ v := .iface 3 v, recovered := false }] ∧ w.grownBy w' (some R)
theorem hasByte {l : List UInt8} {c : UInt8} : decide (Lib.indexByte l c < 0) = !l.contains c := by
  have := Lib.indexByte_ge l c
  by_cases h : Lib.indexByte l c < 0
  · have e : Lib.indexByte l c = -1 := by omega
    have hn := Lib.indexByte_none e
    rw [decide_eq_true h]
    cases hc : l.contains c
    · rfl
    · obtain ⟨i, hi⟩ := List.mem_iff_getElem?.1 (List.contains_iff_mem.1 hc)
      exact absurd hi (hn i)
  · obtain ⟨o, ho⟩ : ∃ o : Nat, Lib.indexByte l c = o := ⟨(Lib.indexByte l c).toNat, by omega⟩
    have := (Lib.indexByte_some ho).1
    rw [decide_eq_false h, List.contains_iff_mem.2 (List.mem_of_getElem? this)]; rfl

theorem byte_u8 (b : UInt8) : (b.toNat : Int).toNat.toUInt8 = b := by simp

/-! Reading. -/
def startB (t : Int) (c : Nat) : Bool := decide (c = 49) || decide (c = 48) || decide (97 ≤ c ∧ (c : Int) - 97 < t) || decide (c = 33) || decide (c = 63) || decide (c = 40)
def StOk (t : Int) (st : ByteArray) : Prop := ∀ c : UInt8, st.data.toList.contains c = startB t c.toNat
def pairS (t : Int) (k : Nat) (l : List Nat) : Option (Sen × List Nat) :=
  match readS t k l with
  | some (x, m :: l2) =>
    match readS t k l2 with
    | some (y, e :: r) => if e = 41 then (twoS m x y).map fun z => (z, r) else none
    | _ => none
  | _ => none
theorem read_no (t : Int) (k c : Nat) (l : List Nat) (h : startB t c = false) : readS t (k + 1) (c :: l) = none := by
  unfold startB at h
  simp only [Bool.or_eq_false_iff, decide_eq_false_iff_not] at h
  unfold readS
  rw [if_neg h.1.1.1.1.1, if_neg h.1.1.1.1.2, if_neg h.1.1.1.2, if_neg h.1.1.2, if_neg h.1.2, if_neg h.2]
theorem read_empty (t : Int) : ∀ n, readS t n [] = none
  | 0 => rfl
  | _ + 1 => rfl
theorem drop_lt {s : ByteArray} {at_ m : Nat} {l : List Nat} (h : (bytesN s).drop at_ = m :: l) : ∃ h : at_ < s.size, s[at_].toNat = m ∧ (bytesN s).drop (at_ + 1) = l := by
  have hlt : at_ < s.size := by
    rcases Nat.lt_or_ge at_ s.size with h2 | h2
    · exact h2
    · rw [List.drop_eq_nil_of_le (by rw [bytesN_len]; exact h2)] at h; cases h
  rw [bytesN_drop hlt] at h
  injection h with h1 h2
  exact ⟨hlt, h1, h2⟩
theorem drop_end {s : ByteArray} {at_ : Nat} (h : (bytesN s).drop at_ = []) (hle : at_ ≤ s.size) : at_ = s.size := by
  have := List.drop_eq_nil_iff.1 h
  rw [bytesN_len] at this
  omega
theorem panics_trans {R : Nat} {w w1 : World} (hg : w.grownBy w1 (some R)) {e : Ending} {w' : World} (h : Panics R w1 e w') : Panics R w e w' := by
  obtain ⟨v, he, hg2⟩ := h
  exact ⟨v, he, hg.trans hg2⟩
def signs2 : ByteArray := ⟨#[38, 124, 62]⟩
theorem signs2_has (c : UInt8) : (ByteArray.mk #[38, 124, 62]).data.toList.contains c = (decide (c.toNat = 38) || decide (c.toNat = 124) || decide (c.toNat = 62)) := by
  rw [Bool.eq_iff_iff]
  simp only [List.contains_iff_mem, Bool.or_eq_true, decide_eq_true_eq]
  have e : ∀ k : UInt8, c = k ↔ c.toNat = k.toNat := fun k => UInt8.toNat_inj.symm
  simp [e]
  omega
theorem close_has (c : UInt8) : (ByteArray.mk #[41]).data.toList.contains c = decide (c.toNat = 41) := by
  rw [Bool.eq_iff_iff]
  simp only [List.contains_iff_mem, decide_eq_true_eq]
  have e : ∀ k : UInt8, c = k ↔ c.toNat = k.toNat := fun k => UInt8.toNat_inj.symm
  simp [e]
theorem twoS_none {m : Nat} {x y : Sen} (h : (decide (m = 38) || decide (m = 124) || decide (m = 62)) = false) : twoS m x y = none := by
  simp only [Bool.or_eq_false_iff, decide_eq_false_iff_not] at h
  unfold twoS
  rw [if_neg h.1.1, if_neg h.1.2, if_neg h.2]
end Go.Proofs.Ytobgnbgmpcilgaa

namespace Go.Proofs.Ytobgnbgmpcilgaa
open Go.RowKit

theorem less_left {t : Int} {k at_ a2 : Nat} {s : ByteArray} {x : Sen} {rest : List Nat} (h : readS t k ((bytesN s).drop at_) = some (x, rest)) (e : (bytesN s).drop a2 = rest) (hle : at_ ≤ s.size) (hle2 : a2 ≤ s.size) : at_ < a2 := by
  have := readS_less t k _ _ _ h
  rw [← e, List.length_drop, List.length_drop, bytesN_len] at this
  omega
end Go.Proofs.Ytobgnbgmpcilgaa

namespace Go.Proofs.Ytobgnbgmpcilgaa
open Go.RowKit

theorem read_no33 (t : Int) (k : Nat) (l : List Nat) : readS t (k + 1) (33 :: l) = (readS t k l).map fun p => (.no p.1, p.2) := by
  conv => lhs; unfold readS
  simp
theorem read_ask63 (t : Int) (k : Nat) (l : List Nat) : readS t (k + 1) (63 :: l) = (readS t k l).map fun p => (.ask p.1, p.2) := by
  conv => lhs; unfold readS
  simp
theorem read_pair40 (t : Int) (k : Nat) (l : List Nat) : readS t (k + 1) (40 :: l) = pairS t k l := by
  conv => lhs; unfold readS
  simp only [show ¬ (40 : Nat) = 49 by omega, show ¬ (40 : Nat) = 48 by omega, show ¬ (97 ≤ 40 ∧ ((40 : Nat) : Int) - 97 < t) by omega, show ¬ (40 : Nat) = 33 by omega, show ¬ (40 : Nat) = 63 by omega, if_false, if_true]
  rfl

end Go.Proofs.Ytobgnbgmpcilgaa
