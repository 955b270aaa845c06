/-
  What the proofs of this seat's statements share (MathT, MathW, MathX, MathY).
-/
import Derived.Test.YtobgnbgmpcilgaaU15
import Derived.Test.YtobgnbgmpcilgaaU10
import Derived.Test.YtobgnbgmpcilgaaU6

namespace Go.Proofs.Ytobgnbgmpcilgaa
open Go.RowKit

def valV (t : Int) (x : Ld) (v : Int) : Int := if v < 0 then -1 else (chgI t x v).getD (-1)
theorem chg_range {t : Int} {x : Ld} {s u : Int} (hs : 0 ≤ s) (h8 : s < 256) (h : chgI t x s = some u) : 0 ≤ u ∧ u ≤ s := by
  obtain ⟨g1, g2⟩ := chg_spec t x s hs h8
  by_cases hn : SubW s (needW t x)
  · rw [g1 hn] at h
    cases h
    exact ⟨andI_nonneg _ _, andI_le _ _ hs⟩
  · rw [g2 hn] at h; cases h
theorem val_range (t : Int) (x : Ld) {v : Int} (h8 : v < 256) : -1 ≤ valV t x v ∧ valV t x v ≤ max v (-1) := by
  unfold valV
  split
  · omega
  · cases h : chgI t x v with
    | none => simp; omega
    | some u => have := chg_range (by omega) h8 h; simp; omega
theorem val_some {t : Int} {x : Ld} {v u : Int} (hv : 0 ≤ v) (h : chgI t x v = some u) : valV t x v = u := by unfold valV; rw [if_neg (by omega), h]; rfl
theorem val_none {t : Int} {x : Ld} {v : Int} (h : chgI t x v = none) : valV t x v = -1 := by unfold valV; rw [h]; split <;> rfl
theorem val_bad {t : Int} {x : Ld} {v : Int} (h : v < 0) : valV t x v = -1 := by unfold valV; rw [if_pos h]
theorem val_one {t v : Int} (h : -1 ≤ v) : valV t .one v = v := by
  unfold valV chgI; split
  · omega
  · rfl
theorem val_zero {t v : Int} (h : -1 ≤ v) : valV t .zero v = min v 0 := by
  unfold valV chgI; split
  · omega
  · simp; omega
theorem val_thing {t v : Int} {i : Nat} : valV t (.thing i) v = if v < 0 then -1 else andI v (letterSet t i) := rfl
theorem val_no {t v : Int} {x : Ld} (h8 : v < 256) : valV t (.no x) v = if valV t x v < 0 then -1 else v - valV t x v := by
  by_cases hv : v < 0
  · rw [val_bad hv, val_bad hv]; rfl
  · cases h : chgI t x v with
    | none => rw [val_none h, val_none (show chgI t (.no x) v = none by show (chgI t x v).map _ = _; rw [h]; rfl)]; rfl
    | some u =>
      have := chg_range (by omega) h8 h
      rw [val_some (by omega) h, if_neg (by omega)]
      exact val_some (by omega) (by show (chgI t x v).map _ = _; rw [h]; rfl)
theorem val_pre {t v : Int} {x y : Ld} (_hv1 : -1 ≤ v) : valV t (.pre x y) v = if valV t x v = v then valV t y v else -1 := by
  by_cases hv : v < 0
  · rw [val_bad hv, val_bad hv, val_bad hv]; split <;> rfl
  · cases h : chgI t x v with
    | none =>
      rw [val_none h, if_neg (by omega)]
      exact val_none (by show (chgI t x v).bind _ = _; rw [h]; rfl)
    | some u =>
      rw [val_some (by omega) h]
      have e : chgI t (.pre x y) v = if u = v then chgI t y v else none := by show (chgI t x v).bind _ = _; rw [h]; rfl
      by_cases hu : u = v
      · rw [if_pos hu] at e ⊢
        unfold valV
        rw [e]
      · rw [if_neg hu] at e ⊢
        exact val_none e
theorem val_and {t v : Int} {x y : Ld} (h8 : v < 256) : valV t (.and_ x y) v = valV t y (valV t x v) := by
  by_cases hv : v < 0
  · rw [val_bad hv, val_bad hv, val_bad (by omega)]
  · cases h : chgI t x v with
    | none =>
      rw [val_none h, val_bad (v := -1) (by omega)]
      exact val_none (x := .and_ x y) (by show (chgI t x v).bind _ = _; rw [h]; rfl)
    | some u =>
      have := chg_range (by omega) h8 h
      rw [val_some (by omega) h]
      have e : chgI t (.and_ x y) v = chgI t y u := by show (chgI t x v).bind _ = _; rw [h]; rfl
      unfold valV
      rw [e, if_neg hv, if_neg (by omega)]
theorem val_or {t v : Int} {x y : Ld} (h8 : v < 256) : valV t (.or_ x y) v = if valV t x v < 0 ∨ valV t y (v - valV t x v) < 0 then -1 else valV t x v + valV t y (v - valV t x v) := by
  by_cases hv : v < 0
  · rw [val_bad hv, val_bad hv, if_pos (.inl (by omega))]
  · cases h : chgI t x v with
    | none =>
      rw [val_none h, if_pos (.inl (by omega))]
      exact val_none (by show (chgI t x v).bind _ = _; rw [h]; rfl)
    | some u =>
      have hu := chg_range (by omega) h8 h
      rw [val_some (by omega) h]
      cases h2 : chgI t y (v - u) with
      | none =>
        rw [val_none h2, if_pos (.inr (by omega))]
        exact val_none (by show (chgI t x v).bind _ = _; rw [h]; show (chgI t y (v - u)).map _ = _; rw [h2]; rfl)
      | some z =>
        have hz := chg_range (by omega) (by omega) h2
        rw [val_some (by omega) h2, if_neg (by omega)]
        exact val_some (by omega) (by show (chgI t x v).bind _ = _; rw [h]; show (chgI t y (v - u)).map _ = _; rw [h2]; rfl)
theorem val_if {t v : Int} {x y : Ld} (h8 : v < 256) : valV t (.if_ x y) v = if valV t x v < 0 ∨ valV t y (valV t x v) < 0 then -1 else v - (valV t x v - valV t y (valV t x v)) := by
  by_cases hv : v < 0
  · rw [val_bad hv, val_bad hv, if_pos (.inl (by omega))]
  · cases h : chgI t x v with
    | none =>
      rw [val_none h, if_pos (.inl (by omega))]
      exact val_none (by show (chgI t x v).bind _ = _; rw [h]; rfl)
    | some u =>
      have hu := chg_range (by omega) h8 h
      rw [val_some (by omega) h]
      cases h2 : chgI t y u with
      | none =>
        rw [val_none h2, if_pos (.inr (by omega))]
        exact val_none (by show (chgI t x v).bind _ = _; rw [h]; show (chgI t y u).map _ = _; rw [h2]; rfl)
      | some z =>
        have hz := chg_range (by omega) (by omega) h2
        rw [val_some (by omega) h2, if_neg (by omega)]
        exact val_some (by omega) (by show (chgI t x v).bind _ = _; rw [h]; show (chgI t y u).map _ = _; rw [h2]; rfl)
/-- One world alone. -/
theorem chg_world {t : Int} (h1 : 1 ≤ t) (h3 : t ≤ 3) (x : Ld) {w : Nat} (hw : w < nWorlds t) : chgI t x (worldS w) = if needW t x w = true then some (if leftW t x w = true then worldS w else 0) else none := by
  have hb := world_ok h1 h3 hw
  have hal := (allOf_lt t).2
  obtain ⟨g1, g2⟩ := chg_spec t x (worldS w) hb.1 (by omega)
  have hs : SubW (worldS w) (needW t x) ↔ needW t x w = true := by
    refine ⟨fun h => h w (by rw [world_bit]; simp), fun h v hv => ?_⟩
    rw [world_bit, decide_eq_true_eq] at hv
    subst hv
    exact h
  by_cases hn : needW t x w = true
  · rw [if_pos hn, g1 (hs.2 hn)]
    refine congrArg some (has_ext (andI_nonneg _ _) (by split <;> omega) fun v => ?_)
    rw [has_cut hb.1 (by omega), world_bit]
    by_cases e : v = w
    · subst e
      cases hl : leftW t x v
      · simp [hasW]
      · simp [world_bit]
    · rw [decide_eq_false e]
      cases hl : leftW t x w
      · simp [hasW]
      · simp [world_bit, e]
  · rw [if_neg hn, g2 fun h => hn (hs.1 h)]
/-- The loaded sentence of a text; what the four functions of chapter 8 tell of it. -/
def ldT (t : Int) (s : ByteArray) : Option Ld := ldOf t (bytesN s)
def loadedT (t : Int) (s : ByteArray) : Bool := (ldT t s).isSome
def changedT (t v : Int) (s : ByteArray) : Option Int := match ldT t s with | some x => if setOkB t v = true then chgI t x v else none | none => none
def neededT (t : Int) (s : ByteArray) : Int := match ldT t s with | some x => needI t x | none => -1
def leftT (t : Int) (s : ByteArray) : Int := match ldT t s with | some x => leftI t x | none => -1
def neutralT (t : Int) (s : ByteArray) : Bool := match ldT t s with | some x => decide (needI t x = allOf t) | none => false
end Go.Proofs.Ytobgnbgmpcilgaa

namespace Go.Proofs.Ytobgnbgmpcilgaa
open Go.RowKit

structure Dd where
  kind : Int
  text : List UInt8
  deriving DecidableEq
def tellU : List UInt8 := [116, 101, 108, 108, 32]
def askU : List UInt8 := [97, 115, 107, 32]
def backU : List UInt8 := [98, 97, 99, 107]
/-- A byte from the space on up to the tilde. -/
def inkU (c : UInt8) : Bool := decide (32 ≤ c) && decide (c ≤ 126)
def plainU (l : List UInt8) : Bool := !l.isEmpty && l.all inkU
/-- The text of a deed; nothing where there is none. -/
def deedU (d : Dd) : List UInt8 :=
  if d.kind = 0 ∧ plainU d.text = true then tellU ++ d.text
  else if d.kind = 1 ∧ plainU d.text = true then askU ++ d.text
  else if d = ⟨2, []⟩ then backU else []
/-- The deed of a text. -/
def readU (l : List UInt8) : Option Dd :=
  if l = backU then some ⟨2, []⟩
  else if l.take 5 = tellU ∧ plainU (l.drop 5) = true then some ⟨0, l.drop 5⟩
  else if l.take 4 = askU ∧ plainU (l.drop 4) = true then some ⟨1, l.drop 4⟩
  else none
theorem deed_read {d : Dd} (h : deedU d ≠ []) : readU (deedU d) = some d := by
  obtain ⟨k, x⟩ := d
  unfold deedU at h ⊢
  by_cases h0 : k = 0 ∧ plainU x = true
  · rw [if_pos h0]
    unfold readU
    rw [if_neg (by simp [tellU, backU]), if_pos ⟨by simp [tellU], by simpa [tellU] using h0.2⟩]
    simp [tellU, h0.1]
  · rw [if_neg h0] at h ⊢
    by_cases h1 : k = 1 ∧ plainU x = true
    · rw [if_pos h1]
      unfold readU
      rw [if_neg (by simp [askU, backU]), if_neg (by simp [askU, tellU]), if_pos ⟨by simp [askU], by simpa [askU] using h1.2⟩]
      simp [askU, h1.1]
    · rw [if_neg h1] at h ⊢
      by_cases h2 : (⟨k, x⟩ : Dd) = ⟨2, []⟩
      · rw [if_pos h2, h2]
        rfl
      · rw [if_neg h2] at h
        exact absurd rfl h
theorem read_deed {l : List UInt8} {d : Dd} (h : readU l = some d) : deedU d = l ∧ l ≠ [] := by
  unfold readU at h
  split at h
  · rename_i e
    cases h; subst e; exact ⟨rfl, by decide⟩
  split at h
  · rename_i e
    cases h
    have : l = tellU ++ l.drop 5 := by rw [← e.1, List.take_append_drop]
    refine ⟨?_, fun hn => by rw [hn] at e; simp [tellU] at e⟩
    unfold deedU
    rw [if_pos ⟨rfl, e.2⟩]
    exact this.symm
  split at h
  · rename_i e
    cases h
    have : l = askU ++ l.drop 4 := by rw [← e.1, List.take_append_drop]
    refine ⟨?_, fun hn => by rw [hn] at e; simp [askU] at e⟩
    unfold deedU
    rw [if_neg (by simp), if_pos ⟨rfl, e.2⟩]
    exact this.symm
  · cases h
theorem readU_iff {l : List UInt8} {d : Dd} : readU l = some d ↔ deedU d = l ∧ l ≠ [] :=
  ⟨read_deed, fun ⟨h, hn⟩ => by subst h; exact deed_read hn⟩
theorem tell_ink : ∀ c ∈ tellU, inkU c = true := by decide
theorem ask_ink : ∀ c ∈ askU, inkU c = true := by decide
theorem back_ink : ∀ c ∈ backU, inkU c = true := by decide
/-- The bytes of a deed's text are no newlines. -/
theorem deed_ink (d : Dd) : ∀ c ∈ deedU d, inkU c = true := by
  intro c hc
  unfold deedU at hc
  split at hc
  · rename_i h
    rcases List.mem_append.1 hc with hc | hc
    · exact tell_ink c hc
    · have := h.2
      unfold plainU at this
      rw [Bool.and_eq_true] at this
      exact List.all_eq_true.1 this.2 c hc
  split at hc
  · rename_i h
    rcases List.mem_append.1 hc with hc | hc
    · exact ask_ink c hc
    · have := h.2
      unfold plainU at this
      rw [Bool.and_eq_true] at this
      exact List.all_eq_true.1 this.2 c hc
  split at hc
  · exact back_ink c hc
  · cases hc
theorem deed_nonl {d : Dd} : (10 : UInt8) ∉ deedU d := fun h => by have := deed_ink d 10 h; revert this; decide
/-- With a newline behind it a text is refused. -/
theorem read_nl (l : List UInt8) : readU (l ++ [10]) = none := by
  cases h : readU (l ++ [10]) with
  | none => rfl
  | some d => exact absurd (by rw [(read_deed h).1]; simp) (deed_nonl (d := d))
theorem readU_nil : readU [] = none := by
  cases h : readU [] with
  | none => rfl
  | some d => exact absurd rfl (read_deed h).2

/-! Journals. -/
def journalU (ds : List Dd) : List UInt8 := if ds.any (fun d => (deedU d).isEmpty) then [] else ds.flatMap fun d => deedU d ++ [10]
/-- What is read of the first bytes: the deeds, where the line begins that is not at its end yet, and whether a line was refused. -/
def jStep (s : List UInt8) (k : Nat) (p : List Dd × Nat × Bool) : List Dd × Nat × Bool :=
  if p.2.2 = true then p
  else if s[k]? = some 10 then
    match readU ((s.take k).drop p.2.1) with
    | some d => (p.1 ++ [d], k + 1, false)
    | none => (p.1, p.2.1, true)
  else p
def jTo (s : List UInt8) : Nat → List Dd × Nat × Bool
  | 0 => ([], 0, false)
  | k + 1 => jStep s k (jTo s k)
def readJ (s : List UInt8) : List Dd × Nat := ((jTo s s.length).1, (jTo s s.length).2.1)
theorem jStep_stop {s : List UInt8} {k : Nat} {p : List Dd × Nat × Bool} (h : p.2.2 = true) : jStep s k p = p := by unfold jStep; rw [if_pos h]
/-- The bytes behind do not matter. -/
theorem jTo_take (s : List UInt8) : ∀ (k n : Nat), k ≤ n → jTo (s.take n) k = jTo s k
  | 0, _, _ => rfl
  | k + 1, n, h => by
    have ih := jTo_take s k n (by omega)
    show jStep (s.take n) k (jTo (s.take n) k) = jStep s k (jTo s k)
    rw [ih]
    unfold jStep
    rw [List.getElem?_take_of_lt (by omega), List.take_take, Nat.min_eq_left (by omega)]
theorem jStep_from (s : List UInt8) (k : Nat) {p : List Dd × Nat × Bool} (h : p.2.1 ≤ k) : (jStep s k p).2.1 ≤ k + 1 ∧ p.1 <+: (jStep s k p).1 ∧ p.2.1 ≤ (jStep s k p).2.1 := by
  unfold jStep
  split
  · exact ⟨by omega, List.prefix_refl _, Nat.le_refl _⟩
  split
  · split
    · exact ⟨Nat.le_refl _, List.prefix_append _ _, by show p.2.1 ≤ k + 1; omega⟩
    · exact ⟨by show p.2.1 ≤ k + 1; omega, List.prefix_refl _, Nat.le_refl _⟩
  · exact ⟨by omega, List.prefix_refl _, Nat.le_refl _⟩
theorem jTo_from (s : List UInt8) : ∀ k, (jTo s k).2.1 ≤ k
  | 0 => Nat.le_refl _
  | k + 1 => (jStep_from s k (jTo_from s k)).1
/-- More bytes, more deeds; none is taken back. -/
theorem jTo_mono (s : List UInt8) (k : Nat) : ∀ m, (jTo s k).1 <+: (jTo s (k + m)).1 ∧ (jTo s k).2.1 ≤ (jTo s (k + m)).2.1
  | 0 => ⟨List.prefix_refl _, Nat.le_refl _⟩
  | m + 1 => by
    obtain ⟨h1, h2⟩ := jTo_mono s k m
    obtain ⟨_, h3, h4⟩ := jStep_from s (k + m) (jTo_from s (k + m))
    exact ⟨h1.trans h3, Nat.le_trans h2 h4⟩
/-- Of any beginning of the text the first ones of these deeds are read. -/
theorem readJ_cut (s : List UInt8) {k : Nat} (hk : k ≤ s.length) : (readJ (s.take k)).1 <+: (readJ s).1 ∧ (readJ (s.take k)).2 ≤ k := by
  unfold readJ
  rw [List.length_take, Nat.min_eq_left hk, jTo_take s k k (Nat.le_refl _)]
  have h := jTo_mono s k (s.length - k)
  rw [show k + (s.length - k) = s.length by omega] at h
  exact ⟨h.1, jTo_from s k⟩
/-- The lines that were read are the text of their deeds. -/
def linesU (ds : List Dd) : List UInt8 := ds.flatMap fun d => deedU d ++ [10]
theorem lines_snoc (ds : List Dd) (d : Dd) : linesU (ds ++ [d]) = linesU ds ++ (deedU d ++ [10]) := by unfold linesU; simp
theorem journal_lines {ds : List Dd} (h : ∀ d ∈ ds, deedU d ≠ []) : journalU ds = linesU ds := by
  unfold journalU
  rw [if_neg]
  · rfl
  · intro hc
    obtain ⟨d, hd, he⟩ := List.any_eq_true.1 hc
    exact h d hd (List.isEmpty_iff.1 he)
theorem jStep_lines (s : List UInt8) (k : Nat) {p : List Dd × Nat × Bool} (hf : p.2.1 ≤ k) (h1 : linesU p.1 = s.take p.2.1) (h2 : ∀ d ∈ p.1, deedU d ≠ []) :
    linesU (jStep s k p).1 = s.take (jStep s k p).2.1 ∧ ∀ d ∈ (jStep s k p).1, deedU d ≠ [] := by
  unfold jStep
  split
  · exact ⟨h1, h2⟩
  split
  · rename_i hn
    split
    · rename_i d hd
      have e := read_deed hd
      refine ⟨?_, fun x hx => ?_⟩
      · show linesU (p.1 ++ [d]) = s.take (k + 1)
        rw [lines_snoc, h1, e.1, List.take_add_one, hn]
        have : s.take p.2.1 = (s.take k).take p.2.1 := by rw [List.take_take, Nat.min_eq_left hf]
        rw [this, ← List.append_assoc, List.take_append_drop]
        rfl
      · rcases List.mem_append.1 hx with hx | hx
        · exact h2 x hx
        · obtain rfl := List.mem_singleton.1 hx
          rw [e.1]; exact e.2
    · exact ⟨h1, h2⟩
  · exact ⟨h1, h2⟩
theorem jTo_lines (s : List UInt8) : ∀ k, linesU (jTo s k).1 = s.take (jTo s k).2.1 ∧ ∀ d ∈ (jTo s k).1, deedU d ≠ []
  | 0 => ⟨rfl, fun d h => by cases h⟩
  | k + 1 => by
    obtain ⟨h1, h2⟩ := jTo_lines s k
    exact jStep_lines s k (jTo_from s k) h1 h2
/-- JournalText of the deeds is what was read. -/
theorem readJ_text (s : List UInt8) : journalU (readJ s).1 = s.take (readJ s).2 ∧ (readJ s).2 ≤ s.length := by
  obtain ⟨h1, h2⟩ := jTo_lines s s.length
  exact ⟨(journal_lines h2).trans h1, jTo_from s _⟩
/-- Journals are read. -/
theorem jTo_idle (s : List UInt8) (a : Nat) (p : List Dd × Nat × Bool) (ha : jTo s a = p) : ∀ m, (∀ i, a ≤ i → i < a + m → s[i]? ≠ some 10) → jTo s (a + m) = p
  | 0, _ => ha
  | m + 1, h => by
    have ih := jTo_idle s a p ha m fun i h1 h2 => h i h1 (by omega)
    show jStep s (a + m) (jTo s (a + m)) = p
    rw [ih]
    unfold jStep
    split
    · rfl
    · rw [if_neg (h (a + m) (by omega) (by omega))]
theorem jTo_journal (es : List Dd) : ∀ (fs ds : List Dd), (∀ d ∈ ds, deedU d ≠ []) → jTo (linesU fs ++ linesU (ds ++ es)) (linesU fs).length = (fs, (linesU fs).length, false) → jTo (linesU fs ++ linesU (ds ++ es)) (linesU (fs ++ ds)).length = (fs ++ ds, (linesU (fs ++ ds)).length, false)
  | fs, [], _, h => by rw [List.append_nil]; exact h
  | fs, d :: ds, hall, h => by
    have hd := hall d (by simp)
    have e : linesU fs ++ linesU (d :: ds ++ es) = linesU (fs ++ [d]) ++ linesU (ds ++ es) := by unfold linesU; simp
    have hl : (linesU (fs ++ [d])).length = (linesU fs).length + (deedU d).length + 1 := by rw [lines_snoc]; simp; omega
    have key : jTo (linesU (fs ++ [d]) ++ linesU (ds ++ es)) (linesU (fs ++ [d])).length = (fs ++ [d], (linesU (fs ++ [d])).length, false) := by
      rw [e] at h
      generalize hs : linesU (fs ++ [d]) ++ linesU (ds ++ es) = s at h ⊢
      have hs2 : s = linesU fs ++ (deedU d ++ (10 :: linesU (ds ++ es))) := by rw [← hs]; unfold linesU; simp
      have h1 := jTo_idle s _ _ h (deedU d).length fun i h1 h2 hn => by
        rw [hs2, List.getElem?_append_right (by omega), List.getElem?_append_left (by omega)] at hn
        exact deed_nonl (d := d) (List.mem_of_getElem? hn)
      rw [hl]
      show jStep s _ (jTo s _) = _
      rw [h1]
      unfold jStep
      rw [if_neg (by simp), if_pos (by rw [hs2, List.getElem?_append_right (by omega), List.getElem?_append_right (by omega)]; simp)]
      have h3 : (s.take ((linesU fs).length + (deedU d).length)).drop (linesU fs).length = deedU d := by
        rw [hs2, ← List.append_assoc, ← List.length_append, List.take_left, List.drop_left]
      rw [h3, deed_read hd]
    rw [e]
    have ih := jTo_journal es (fs ++ [d]) ds (fun x hx => hall x (by simp [hx])) key
    rw [show fs ++ d :: ds = (fs ++ [d]) ++ ds by simp]
    exact ih
theorem journal_read {ds : List Dd} (h : journalU ds ≠ []) : readJ (journalU ds) = (ds, (journalU ds).length) := by
  have hall : ∀ d ∈ ds, deedU d ≠ [] := fun d hd he => by
    unfold journalU at h
    rw [if_pos (List.any_eq_true.2 ⟨d, hd, by rw [he]; rfl⟩)] at h
    exact h rfl
  rw [journal_lines hall]
  have := jTo_journal [] [] ds hall rfl
  rw [List.append_nil, show linesU [] = [] from rfl, List.nil_append, List.nil_append] at this
  unfold readJ
  rw [this]
end Go.Proofs.Ytobgnbgmpcilgaa

namespace Go.Proofs.Ytobgnbgmpcilgaa
open Go.RowKit

structure St (α : Type) where
  known : Int
  op : List α
structure Tk (α : Type) where
  things : Int
  now : St α
  past : List (St α)
/-- What is asked of texts. -/
structure Asks (α : Type) where
  isS : Int → α → Bool
  sett : Int → Int → α → Bool
  tru : Int → α → Int
  none : α
section
variable {α : Type} [DecidableEq α] (Q : Asks α)

def stateOk (t : Int) (x : St α) : Bool :=
  setOkB t x.known && decide (x.known ≠ 0) && decide (x.op.length ≤ 4) && x.op.all (fun s => Q.isS t s && !Q.sett t x.known s) && decide x.op.Nodup
def talkOk (T : Tk α) : Bool := stateOk Q T.things T.now && decide (T.past.length ≤ 10) && T.past.all (stateOk Q T.things)
def keep10 (l : List (St α)) : List (St α) := if 10 < l.length then l.tail else l
def pushT (T : Tk α) (x : St α) : Tk α := ⟨T.things, x, keep10 (T.past ++ [T.now])⟩
/-- A talk after a deed; none where it cannot be done. -/
def talkDo (T : Tk α) (kind : Int) (text : α) : Option (Tk α) :=
  if kind = 2 then
    if text = Q.none then
      match T.past.getLast? with
      | some x => some ⟨T.things, x, T.past.dropLast⟩
      | Option.none => Option.none
    else Option.none
  else if kind = 0 then
    if Q.isS T.things text = true then
      let k := andI T.now.known (Q.tru T.things text)
      if k = 0 ∨ k = T.now.known then Option.none else some (pushT T ⟨k, T.now.op.filter fun s => !Q.sett T.things k s⟩)
    else Option.none
  else if kind = 1 then
    if Q.isS T.things text = true then
      if withinB T.now.known (Q.tru T.things text) = true ∧ stateOk Q T.things ⟨T.now.known, T.now.op ++ [text]⟩ = true then some (pushT T ⟨T.now.known, T.now.op ++ [text]⟩) else Option.none
    else Option.none
  else Option.none
theorem state_parts {t : Int} {x : St α} : stateOk Q t x = true ↔ setOkB t x.known = true ∧ x.known ≠ 0 ∧ x.op.length ≤ 4 ∧ (∀ s ∈ x.op, Q.isS t s = true ∧ Q.sett t x.known s = false) ∧ x.op.Nodup := by
  unfold stateOk
  simp only [Bool.and_eq_true, decide_eq_true_eq, List.all_eq_true, Bool.not_eq_true']
  constructor
  · rintro ⟨⟨⟨⟨a, b⟩, c⟩, d⟩, e⟩; exact ⟨a, b, c, d, e⟩
  · rintro ⟨a, b, c, d, e⟩; exact ⟨⟨⟨⟨a, b⟩, c⟩, d⟩, e⟩
theorem talk_parts {T : Tk α} : talkOk Q T = true ↔ stateOk Q T.things T.now = true ∧ T.past.length ≤ 10 ∧ ∀ x ∈ T.past, stateOk Q T.things x = true := by
  unfold talkOk
  simp only [Bool.and_eq_true, decide_eq_true_eq, List.all_eq_true]
  exact and_assoc
/-- Talks can forget. -/
theorem talk_forget {T : Tk α} (h : talkOk Q T = true) : talkOk Q ⟨T.things, T.now, []⟩ = true :=
  (talk_parts Q).2 ⟨((talk_parts Q).1 h).1, Nat.zero_le _, fun x hx => by cases hx⟩
theorem push_ok {T : Tk α} {x : St α} (h : talkOk Q T = true) (hx : stateOk Q T.things x = true) : talkOk Q (pushT T x) = true := by
  obtain ⟨h1, h2, h3⟩ := (talk_parts Q).1 h
  have hall : ∀ y ∈ T.past ++ [T.now], stateOk Q T.things y = true := fun y hy => by
    rcases List.mem_append.1 hy with hy | hy
    · exact h3 y hy
    · obtain rfl := List.mem_singleton.1 hy; exact h1
  refine (talk_parts Q).2 ⟨hx, ?_, fun y hy => ?_⟩
  · show (keep10 (T.past ++ [T.now])).length ≤ 10
    unfold keep10
    split
    · rw [List.length_tail, List.length_append]; simp; omega
    · omega
  · have hy : y ∈ keep10 (T.past ++ [T.now]) := hy
    unfold keep10 at hy
    split at hy
    · exact hall y (List.mem_of_mem_tail hy)
    · exact hall y hy
/-- What a tell leaves of the open questions. -/
theorem tell_state {T : Tk α} {k : Int} (h : talkOk Q T = true) (hk : setOkB T.things k = true) (h0 : k ≠ 0) : stateOk Q T.things ⟨k, T.now.op.filter fun s => !Q.sett T.things k s⟩ = true := by
  obtain ⟨h1, _, _⟩ := (talk_parts Q).1 h
  obtain ⟨_, _, c, d, e⟩ := (state_parts Q).1 h1
  refine (state_parts Q).2 ⟨hk, h0, Nat.le_trans (List.length_filter_le _ _) c, fun s hs => ?_, e.filter _⟩
  obtain ⟨hs1, hs2⟩ := List.mem_filter.1 hs
  exact ⟨(d s hs1).1, by simpa using hs2⟩
theorem and_set {t k : Int} (q : Int) (h : setOkB t k = true) : setOkB t (andI k q) = true := by
  obtain ⟨h1, h3, h0, ha, _⟩ := setOkB_lt h
  have := andI_le k q h0
  have := andI_nonneg k q
  exact decide_eq_true ⟨h1, h3, by omega, by omega⟩
/-- Whatever is done, it is a talk. -/
theorem do_ok {T X : Tk α} {kind : Int} {text : α} (h : talkOk Q T = true) (hd : talkDo Q T kind text = some X) : talkOk Q X = true ∧ X.things = T.things := by
  obtain ⟨h1, h2, h3⟩ := (talk_parts Q).1 h
  unfold talkDo at hd
  split at hd
  · split at hd
    · split at hd
      · rename_i x hx
        cases hd
        have hm := List.mem_of_getLast? hx
        refine ⟨(talk_parts Q).2 ⟨h3 x hm, ?_, fun y hy => h3 y ((List.dropLast_sublist _).subset hy)⟩, rfl⟩
        show T.past.dropLast.length ≤ 10
        rw [List.length_dropLast]; omega
      · cases hd
    · cases hd
  split at hd
  · split at hd
    · simp only at hd
      split at hd
      · cases hd
      · rename_i hk
        cases hd
        exact ⟨push_ok Q h (tell_state Q h (and_set _ ((state_parts Q).1 h1).1) fun e => hk (.inl e)), rfl⟩
    · cases hd
  split at hd
  · split at hd
    · split at hd
      · rename_i hk
        cases hd
        exact ⟨push_ok Q h hk.2, rfl⟩
      · cases hd
    · cases hd
  · cases hd
/-- What was done can be undone. -/
theorem do_back {T X : Tk α} {kind : Int} {text : α} (hd : talkDo Q T kind text = some X) (hk : kind ≠ 2) (hp : T.past.length < 10) : talkDo Q X 2 Q.none = some T := by
  have key : ∀ x : St α, talkDo Q (pushT T x) 2 Q.none = some T := fun x => by
    unfold talkDo pushT keep10
    rw [if_pos rfl, if_pos rfl, if_neg (by rw [List.length_append]; simp; omega)]
    simp
  unfold talkDo at hd
  rw [if_neg hk] at hd
  split at hd
  · split at hd
    · simp only at hd
      split at hd
      · cases hd
      · cases hd; exact key _
    · cases hd
  split at hd
  · split at hd
    · split at hd
      · cases hd; exact key _
      · cases hd
    · cases hd
  · cases hd
/-- What is told is true in all worlds that are left. -/
theorem do_told {T X : Tk α} {text : α} (hd : talkDo Q T 0 text = some X) : withinB X.now.known (Q.tru T.things text) = true := by
  unfold talkDo at hd
  rw [if_neg (by decide), if_pos rfl] at hd
  split at hd
  · simp only at hd
    split at hd
    · cases hd
    · cases hd
      exact within_andI_right _ _
  · cases hd
/-- No open question is settled. -/
theorem open_unsettled {T : Tk α} (h : talkOk Q T = true) : ∀ s ∈ T.now.op, Q.isS T.things s = true ∧ Q.sett T.things T.now.known s = false :=
  ((state_parts Q).1 ((talk_parts Q).1 h).1).2.2.2.1
/-- A talk after deeds, and how many were done. -/
def runStep (p : Tk α × Nat) (d : Int × α) : Tk α × Nat := match talkDo Q p.1 d.1 d.2 with | some X => (X, p.2 + 1) | Option.none => p
def talkRun (T : Tk α) (l : List (Int × α)) : Tk α × Nat := l.foldl (runStep Q) (T, 0)
theorem step_ok {p : Tk α × Nat} (d : Int × α) (h : talkOk Q p.1 = true) : talkOk Q (runStep Q p d).1 = true ∧ (runStep Q p d).1.things = p.1.things := by
  unfold runStep
  cases hd : talkDo Q p.1 d.1 d.2 with
  | none => exact ⟨h, rfl⟩
  | some X => exact do_ok Q h hd
theorem steps_ok : ∀ (l : List (Int × α)) {p : Tk α × Nat}, talkOk Q p.1 = true → talkOk Q (l.foldl (runStep Q) p).1 = true ∧ (l.foldl (runStep Q) p).1.things = p.1.things
  | [], _, h => ⟨h, rfl⟩
  | d :: l, p, h => by
    obtain ⟨a, b⟩ := step_ok Q d h
    obtain ⟨c, e⟩ := steps_ok l a
    exact ⟨c, e.trans b⟩
theorem run_ok (l : List (Int × α)) {T : Tk α} (h : talkOk Q T = true) : talkOk Q (talkRun Q T l).1 = true ∧ (talkRun Q T l).1.things = T.things := steps_ok Q l (p := (T, 0)) h
theorem step_shift (T : Tk α) (n m : Nat) (d : Int × α) : runStep Q (T, n + m) d = ((runStep Q (T, m) d).1, n + (runStep Q (T, m) d).2) := by
  unfold runStep
  simp only
  cases talkDo Q T d.1 d.2 <;> rfl
theorem steps_shift : ∀ (l : List (Int × α)) (T : Tk α) (n m : Nat), l.foldl (runStep Q) (T, n + m) = ((l.foldl (runStep Q) (T, m)).1, n + (l.foldl (runStep Q) (T, m)).2)
  | [], _, _, _ => rfl
  | d :: l, T, n, m => by
    show l.foldl (runStep Q) (runStep Q (T, n + m) d) = ((l.foldl (runStep Q) (runStep Q (T, m) d)).1, n + (l.foldl (runStep Q) (runStep Q (T, m) d)).2)
    rw [step_shift]
    exact steps_shift l _ n _
/-- In two parts, one after the other, it is the same. -/
theorem run_append (a b : List (Int × α)) (T : Tk α) : talkRun Q T (a ++ b) = ((talkRun Q (talkRun Q T a).1 b).1, (talkRun Q T a).2 + (talkRun Q (talkRun Q T a).1 b).2) := by
  unfold talkRun
  rw [List.foldl_append]
  exact steps_shift Q b (a.foldl (runStep Q) (T, 0)).1 (a.foldl (runStep Q) (T, 0)).2 0
theorem run_snoc (l : List (Int × α)) (d : Int × α) (T : Tk α) : talkRun Q T (l ++ [d]) = runStep Q (talkRun Q T l) d := by
  unfold talkRun
  rw [List.foldl_append]; rfl
end
end Go.Proofs.Ytobgnbgmpcilgaa

namespace Go.Proofs.Ytobgnbgmpcilgaa
open Go.RowKit

def bL (s : ByteArray) : List UInt8 := s.data.toList
def ofL (l : List UInt8) : ByteArray := ⟨l.toArray⟩
theorem bL_of (l : List UInt8) : bL (ofL l) = l := rfl
theorem of_bL (s : ByteArray) : ofL (bL s) = s := rfl
theorem bL_inj {s u : ByteArray} (h : bL s = bL u) : s = u := by rw [← of_bL s, h, of_bL]
theorem bL_size (s : ByteArray) : (bL s).length = s.size := rfl
/-- The text of a deed, the deed of a text. -/
def deedB (d : Int × ByteArray) : ByteArray := ofL (deedU ⟨d.1, bL d.2⟩)
def readB (s : ByteArray) : Option (Int × ByteArray) := (readU (bL s)).map fun d => (d.kind, ofL d.text)
theorem readB_iff {s : ByteArray} {d : Int × ByteArray} : readB s = some d ↔ deedB d = s ∧ bL s ≠ [] := by
  unfold readB deedB
  rw [Option.map_eq_some_iff]
  constructor
  · rintro ⟨x, hx, rfl⟩
    obtain ⟨h1, h2⟩ := read_deed hx
    exact ⟨bL_inj (by rw [bL_of, bL_of]; exact h1), h2⟩
  · rintro ⟨rfl, h⟩
    exact ⟨⟨d.1, bL d.2⟩, deed_read h, rfl⟩
def numU (n : Nat) : List UInt8 := if n < 10 then [(48 + n).toUInt8] else numU (n / 10) ++ [(48 + n % 10).toUInt8]
theorem num_ne (n : Nat) : numU n ≠ [] := by
  unfold numU
  split <;> simp
def knownU : List UInt8 := [107, 110, 111, 119, 110]
def openU : List UInt8 := [111, 112, 101, 110]
def nowU : List UInt8 := [110, 111, 119]
def pastU : List UInt8 := [112, 97, 115, 116]
def settledU : List UInt8 := [115, 101, 116, 116, 108, 101, 100]
def possibleU : List UInt8 := [112, 111, 115, 115, 105, 98, 108, 101]
def senseU : List UInt8 := [115, 101, 110, 115, 101]
def noneU : List UInt8 := [110, 111, 110, 101]
def whatU : List UInt8 := [119, 104, 97, 116]
def okU : List UInt8 := [111, 107]
def noU : List UInt8 := [110, 111]
def yesU : List UInt8 := [121, 101, 115]
def yesNo (b : Bool) : List UInt8 := if b = true then yesU else noU
/-- The word ahead of the first space, and what is behind it. -/
def splitU (l : List UInt8) : Option (List UInt8 × List UInt8) :=
  if (32 : UInt8) ∈ l then some (l.takeWhile (fun c => c != 32), (l.dropWhile (fun c => c != 32)).tail) else none
theorem split_at {w r : List UInt8} (h : (32 : UInt8) ∉ w) : splitU (w ++ 32 :: r) = some (w, r) := by
  unfold splitU
  rw [if_pos (by simp)]
  have h1 : ∀ c ∈ w, (c != 32) = true := fun c hc => by
    rw [bne_iff_ne]
    rintro rfl; exact h hc
  rw [List.takeWhile_append_of_pos h1, List.dropWhile_append_of_pos h1]
  simp
section
variable (Q : Asks ByteArray) (isL : Int → ByteArray → Bool) (sense : Int → Int → ByteArray → Bool)
/-- What a question is answered; the talk stays as it is. -/
def askU8 (T : Tk ByteArray) (l : List UInt8) : List UInt8 :=
  if l = knownU then numU T.now.known.toNat
  else if l = openU then numU T.now.op.length
  else if l = nowU then (match T.now.op.getLast? with | some s => bL s | Option.none => noneU)
  else if l = pastU then numU T.past.length
  else match splitU l with
    | Option.none => whatU
    | some (w, r) =>
      if w = settledU ∧ Q.isS T.things (ofL r) = true then yesNo (Q.sett T.things T.now.known (ofL r))
      else if w = possibleU ∧ Q.isS T.things (ofL r) = true then yesNo (decide (andI T.now.known (Q.tru T.things (ofL r)) ≠ 0))
      else if w = senseU ∧ isL T.things (ofL r) = true then yesNo (sense T.things T.now.known (ofL r))
      else whatU
/-- The talk after a line, and the answer. -/
def talkLine (T : Tk ByteArray) (line : ByteArray) : Tk ByteArray × List UInt8 :=
  match readB line with
  | some d => (match talkDo Q T d.1 d.2 with | some X => (X, okU) | Option.none => (T, noU))
  | Option.none => (T, askU8 Q isL sense T (bL line))
theorem line_ok {T : Tk ByteArray} (line : ByteArray) (h : talkOk Q T = true) : talkOk Q (talkLine Q isL sense T line).1 = true ∧ (talkLine Q isL sense T line).1.things = T.things := by
  unfold talkLine
  cases hr : readB line with
  | none => exact ⟨h, rfl⟩
  | some d =>
    simp only
    cases hd : talkDo Q T d.1 d.2 with
    | none => exact ⟨h, rfl⟩
    | some X => exact do_ok Q h hd
/-- Unless the answer is ok, it is the talk before. -/
theorem line_same (T : Tk ByteArray) (line : ByteArray) : (talkLine Q isL sense T line).2 = okU ∨ (talkLine Q isL sense T line).1 = T := by
  unfold talkLine
  cases hr : readB line with
  | none => exact .inr rfl
  | some d =>
    simp only
    cases hd : talkDo Q T d.1 d.2 with
    | none => exact .inr rfl
    | some X => exact .inl rfl
theorem line_space (T : Tk ByteArray) : talkLine Q isL sense T (ofL [32]) = (T, whatU) := by
  unfold talkLine
  rw [show readB (ofL [32]) = Option.none by decide]
  simp only
  rw [bL_of]
  unfold askU8
  rw [if_neg (by decide), if_neg (by decide), if_neg (by decide), if_neg (by decide), show splitU [32] = some ([], []) by decide]
  simp only
  rw [if_neg (by simp [settledU]), if_neg (by simp [possibleU]), if_neg (by simp [senseU])]
/-- A line that is the text of a deed is done. -/
theorem line_deed (T : Tk ByteArray) {d : Int × ByteArray} (h : bL (deedB d) ≠ []) : talkLine Q isL sense T (deedB d) = match talkDo Q T d.1 d.2 with | some X => (X, okU) | Option.none => (T, noU) := by
  unfold talkLine
  rw [readB_iff.2 ⟨rfl, h⟩]
/-- No answer is empty. -/
theorem yes_ne (b : Bool) : yesNo b ≠ [] := by cases b <;> decide
theorem ask_ne {T : Tk ByteArray} (h : talkOk Q T = true) (hS : ∀ t s, Q.isS t s = true → bL s ≠ []) (l : List UInt8) : askU8 Q isL sense T l ≠ [] := by
  unfold askU8
  split
  · exact num_ne _
  split
  · exact num_ne _
  split
  · split
    · rename_i s hs
      exact hS _ _ (open_unsettled Q h s (List.mem_of_getLast? hs)).1
    · decide
  split
  · exact num_ne _
  split
  · decide
  split
  · exact yes_ne _
  split
  · exact yes_ne _
  split
  · exact yes_ne _
  · decide
theorem line_ne {T : Tk ByteArray} (h : talkOk Q T = true) (hS : ∀ t s, Q.isS t s = true → bL s ≠ []) (line : ByteArray) : (talkLine Q isL sense T line).2 ≠ [] := by
  unfold talkLine
  cases hr : readB line with
  | none => exact ask_ne Q isL sense h hS _
  | some d =>
    simp only
    cases hd : talkDo Q T d.1 d.2 with
    | none => show noU ≠ []; decide
    | some X => show okU ≠ []; decide
/-- The talk after lines, and the answers. -/
def sayStep (p : Tk ByteArray × List (List UInt8)) (line : ByteArray) : Tk ByteArray × List (List UInt8) := ((talkLine Q isL sense p.1 line).1, p.2 ++ [(talkLine Q isL sense p.1 line).2])
def talkSay (T : Tk ByteArray) (lines : List ByteArray) : Tk ByteArray × List (List UInt8) := lines.foldl (sayStep Q isL sense) (T, [])
theorem says_shift : ∀ (l : List ByteArray) (T : Tk ByteArray) (a b : List (List UInt8)), l.foldl (sayStep Q isL sense) (T, a ++ b) = ((l.foldl (sayStep Q isL sense) (T, b)).1, a ++ (l.foldl (sayStep Q isL sense) (T, b)).2)
  | [], _, _, _ => rfl
  | d :: l, T, a, b => by
    show l.foldl (sayStep Q isL sense) ((talkLine Q isL sense T d).1, (a ++ b) ++ [(talkLine Q isL sense T d).2]) = ((l.foldl (sayStep Q isL sense) ((talkLine Q isL sense T d).1, b ++ [(talkLine Q isL sense T d).2])).1, a ++ (l.foldl (sayStep Q isL sense) ((talkLine Q isL sense T d).1, b ++ [(talkLine Q isL sense T d).2])).2)
    rw [List.append_assoc]
    exact says_shift l _ a _
/-- Two parts of the lines, one after the other, lead to the same talk and the same answers. -/
theorem say_append (a b : List ByteArray) (T : Tk ByteArray) : talkSay Q isL sense T (a ++ b) = ((talkSay Q isL sense (talkSay Q isL sense T a).1 b).1, (talkSay Q isL sense T a).2 ++ (talkSay Q isL sense (talkSay Q isL sense T a).1 b).2) := by
  unfold talkSay
  rw [List.foldl_append]
  have := says_shift Q isL sense b (a.foldl (sayStep Q isL sense) (T, [])).1 (a.foldl (sayStep Q isL sense) (T, [])).2 []
  rw [List.append_nil] at this
  exact this
theorem says_ok (hS : ∀ t s, Q.isS t s = true → bL s ≠ []) : ∀ (l : List ByteArray) {p : Tk ByteArray × List (List UInt8)}, talkOk Q p.1 = true → (∀ x ∈ p.2, x ≠ []) →
    talkOk Q (l.foldl (sayStep Q isL sense) p).1 = true ∧ (l.foldl (sayStep Q isL sense) p).1.things = p.1.things ∧ (∀ x ∈ (l.foldl (sayStep Q isL sense) p).2, x ≠ []) ∧ (l.foldl (sayStep Q isL sense) p).2.length = p.2.length + l.length
  | [], _, h, hp => ⟨h, rfl, hp, rfl⟩
  | d :: l, p, h, hp => by
    obtain ⟨h1, h2⟩ := line_ok Q isL sense d h
    obtain ⟨a, b, c, e⟩ := says_ok hS l (p := sayStep Q isL sense p d) h1 fun x hx => by
      rcases List.mem_append.1 hx with hx | hx
      · exact hp x hx
      · rw [List.mem_singleton.1 hx]; exact line_ne Q isL sense h hS d
    refine ⟨a, b.trans h2, c, e.trans ?_⟩
    show (p.2 ++ [_]).length + l.length = _
    simp
    omega
theorem say_ok {T : Tk ByteArray} (l : List ByteArray) (h : talkOk Q T = true) (hS : ∀ t s, Q.isS t s = true → bL s ≠ []) :
    talkOk Q (talkSay Q isL sense T l).1 = true ∧ (talkSay Q isL sense T l).1.things = T.things ∧ (∀ x ∈ (talkSay Q isL sense T l).2, x ≠ []) ∧ (talkSay Q isL sense T l).2.length = l.length := by
  obtain ⟨a, b, c, e⟩ := says_ok Q isL sense hS l (p := (T, [])) h fun x hx => by cases hx
  exact ⟨a, b, c, by rw [show talkSay Q isL sense T l = l.foldl (sayStep Q isL sense) (T, []) from rfl, e]; simp⟩
/-- The question that is answered to be open last is answered not to be settled. -/
theorem settled_no {T : Tk ByteArray} (h : talkOk Q T = true) {s : ByteArray} (hs : T.now.op.getLast? = some s) : talkLine Q isL sense T (ofL (settledU ++ 32 :: bL s)) = (T, noU) := by
  obtain ⟨h1, h2⟩ := open_unsettled Q h s (List.mem_of_getLast? hs)
  have hr : readB (ofL (settledU ++ 32 :: bL s)) = Option.none := by
    unfold readB
    rw [bL_of]
    unfold readU
    rw [if_neg (by simp [settledU, backU]), if_neg (by simp [settledU, tellU]), if_neg (by simp [settledU, askU])]
    rfl
  unfold talkLine
  rw [hr]
  simp only
  rw [bL_of]
  unfold askU8
  rw [if_neg (by simp [settledU, knownU]), if_neg (by simp [settledU, openU]), if_neg (by simp [settledU, nowU]), if_neg (by simp [settledU, pastU]), split_at (by decide)]
  simp only
  rw [of_bL, if_pos ⟨by trivial, h1⟩, h2]
  rfl
theorem now_line (T : Tk ByteArray) : talkLine Q isL sense T (ofL nowU) = (T, match T.now.op.getLast? with | some s => bL s | Option.none => noneU) := by
  unfold talkLine
  rw [show readB (ofL nowU) = Option.none by decide]
  simp only
  rw [bL_of]
  unfold askU8
  rw [if_neg (by decide), if_neg (by decide), if_pos rfl]
/-- Said line by line deeds lead where TalkRun leads. -/
theorem say_run (T : Tk ByteArray) : ∀ l : List (Int × ByteArray), (∀ d ∈ l, bL (deedB d) ≠ []) → (l.map deedB).foldl (fun T line => (talkLine Q isL sense T line).1) T = (talkRun Q T l).1 := by
  intro l
  suffices ∀ (l : List (Int × ByteArray)) (p : Tk ByteArray × Nat), (∀ d ∈ l, bL (deedB d) ≠ []) → (l.map deedB).foldl (fun T line => (talkLine Q isL sense T line).1) p.1 = (l.foldl (runStep Q) p).1 from this l (T, 0)
  intro l
  induction l with
  | nil => intro p _; rfl
  | cons d l ih =>
    intro p h
    have e : (talkLine Q isL sense p.1 (deedB d)).1 = (runStep Q p d).1 := by
      rw [line_deed Q isL sense p.1 (h d (by simp))]
      unfold runStep
      cases talkDo Q p.1 d.1 d.2 <;> rfl
    show (l.map deedB).foldl _ (talkLine Q isL sense p.1 (deedB d)).1 = (l.foldl (runStep Q) (runStep Q p d)).1
    rw [e]
    exact ih (runStep Q p d) fun x hx => h x (by simp [hx])
end
end Go.Proofs.Ytobgnbgmpcilgaa
