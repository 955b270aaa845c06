/-
  What the proofs of this seat's statements share (RowR).
-/
import Derived.Test.YtkjjpleedobkdaaU7
import Derived.Test.YtkjjpleedobkdaaU4

namespace Go.Proofs.Ytkjjpleedobkdaa
open Go.RowKit

/-- The values vs are slices of the call's own that read as xss; none of them lies in block o. -/
def Sees (w : World) (base : Nat) (o : Option Nat) (vs : List Value) (xss : List (List Int)) : Prop :=
  vs.length = xss.length ∧ ∀ (i : Nat) (xs : List Int), xss[i]? = some xs → ∃ v, vs[i]? = some v ∧ Owns w base v xs ∧ xs.length ≤ 300 ∧ (v.ownBlock = none ∨ v.ownBlock ≠ o)
structure OwnsR (w : World) (base : Nat) (v : Value) (vs : List Value) (xss : List (List Int)) : Prop where
  row : w.ownsRow base 23 1 v vs.length vs
  sees : Sees w base v.ownBlock vs xss
theorem rowrow_info : (Try.prog.info? 23).map (fun i => (i.zero, i.size, i.bytes)) = some (some (.slice none 0 0), 1, 24) := by kernel_rfl
theorem OwnsR.nil (w : World) (base : Nat) : OwnsR w base (.slice none 0 0) [] [] := ⟨World.ownsRow_nil w base _ 1, rfl, fun i xs h => by simp at h⟩
theorem OwnsR.lit (w : World) (base : Nat) (hb : base ≤ w.heap.size) : OwnsR (w.alloc (.cells #[] 23)) base (.slice (some ⟨w.heap.size, 0, none⟩) 0 0) [] [] :=
  ⟨World.ownsRow_lit (base := base) (e := 23) (size := 1) w #[] 0 hb (by simp [maxLen]) (by simp), rfl, fun i xs h => by simp at h⟩
theorem Sees.below {w w' : World} {base : Nat} {o : Option Nat} {vs : List Value} {xss : List (List Int)} (h : Sees w base o vs xss) (hb : Below w.heap.size w w') : Sees w' base o vs xss :=
  ⟨h.1, fun i xs hx => by obtain ⟨v, h1, h2, h3⟩ := h.2 i xs hx; exact ⟨v, h1, h2.below hb, h3⟩⟩
theorem OwnsR.below {w w' : World} {base : Nat} {v : Value} {vs : List Value} {xss : List (List Int)} (h : OwnsR w base v vs xss) (hb : Below w.heap.size w w') : OwnsR w' base v vs xss :=
  ⟨World.ownsRow.kept (row := none) h.row ⟨hb.os, hb.tape, hb.output, hb.size, fun k hk _ => hb.block k hk⟩ (by cases v.ownBlock <;> simp), h.sees.below hb⟩
theorem OwnsR.drewN {w : World} {base : Nat} {v : Value} {vs : List Value} {xss : List (List Int)} (h : OwnsR w base v vs xss) (n : Nat) : OwnsR (w.drewN n) base v vs xss := ⟨h.row, h.sees.1, fun i xs hx => by obtain ⟨v, h1, h2, h3⟩ := h.sees.2 i xs hx; exact ⟨v, h1, h2, h3⟩⟩
theorem OwnsR.base {w : World} {base base' : Nat} {v : Value} {vs : List Value} {xss : List (List Int)} (h : OwnsR w base v vs xss) (hb : base' ≤ base) : OwnsR w base' v vs xss := by
  refine ⟨⟨h.row.1, ?_⟩, h.sees.1, fun i xs hx => ?_⟩
  · rcases h.row.2 with h | ⟨g, cap, cur, h1, h2, h3⟩
    · exact .inl h
    · exact .inr ⟨g, cap, cur, h1, by omega, h3⟩
  · obtain ⟨v, h1, h2, h3⟩ := h.sees.2 i xs hx
    exact ⟨v, h1, h2.base hb, h3⟩
theorem OwnsR.len {w : World} {base : Nat} {v : Value} {vs : List Value} {xss : List (List Int)} (h : OwnsR w base v vs xss) : vs.length = xss.length := h.sees.1
/-- The slice's form; what its cells hold. -/
theorem OwnsR.form {w : World} {base : Nat} {v : Value} {vs : List Value} {xss : List (List Int)} (h : OwnsR w base v vs xss) :
    ∃ A c, v = .slice A xss.length c ∧ xss.length ≤ c ∧ c ≤ maxLen ∧ ∀ ad, A = some ad → base ≤ ad.block ∧ ad.block < w.heap.size := by
  rcases h.row.2 with ⟨rfl, hl⟩ | ⟨g, cap, cur, rfl, hb, hg, hn, hm, _, _⟩
  · exact ⟨none, 0, by rw [← h.len, hl], by rw [← h.len, hl]; exact Nat.le_refl _, by simp [maxLen], fun ad h => by cases h⟩
  · have hlt : g < w.heap.size := (Array.getElem?_eq_some_iff.1 hg).1
    exact ⟨some ⟨g, 0, none⟩, cap, by rw [h.len], by rw [← h.len]; exact hn, hm, fun ad h => by cases h; exact ⟨hb, hlt⟩⟩
/-- One row: its address, its cell, how it reads. -/
theorem OwnsR.elem {w : World} {base n c : Nat} {A : Option Addr} {vs : List Value} {xss : List (List Int)} (h : OwnsR w base (.slice A n c) vs xss) {i : Nat} (hi : i < xss.length) :
    ∃ g off Ai ci xs, A = some ⟨g, off, none⟩ ∧ w.cell? ⟨g, off + i, none⟩ = some (.slice Ai xs.length ci) ∧ Hid (xss[i]? = some xs) ∧ Hid (Row w Ai xs.length ci xs) := by
  rcases h.row.2 with ⟨hv, hl⟩ | ⟨g, cap, cur, hv, hb, hg, hn, hm, hcs, ht⟩
  · have := h.len; omega
  · simp only [Value.slice.injEq] at hv
    obtain ⟨rfl, _, rfl⟩ := hv
    obtain ⟨v, h1, h2, h3, _⟩ := h.sees.2 i xss[i] (List.getElem?_eq_getElem hi)
    obtain ⟨Ai, ci, rfl, _, _, _, _⟩ := h2.form
    refine ⟨g, 0, Ai, ci, xss[i], rfl, ?_, List.getElem?_eq_getElem hi, Owns.row h2 (by omega)⟩
    rw [Nat.mul_one] at ht
    have hil : i < vs.length := by rw [h.len]; exact hi
    have e : cur[i]? = some (.slice Ai xss[i].length ci) := by
      have h4 : (cur.toList.take vs.length)[i]? = vs[i]? := by rw [ht]
      rw [List.getElem?_take_of_lt hil, h1] at h4
      simpa using h4
    simp [World.cell?, hg, e]

theorem wp_appendR {W : World} {ops : Array Oper} {rest : List Oper} {o : Oper} {a : Act} {Q : Exit → Act → World → Prop} (hgd : o.guard = none) (s x : Operand)
    (ho : o.op = .call { callee := .builtin .append, args := #[s, x], argTypes := #[31, 31] }) (base : Nat) (v : Value) (vs : List Value) (xss : List (List Int)) (hs : a.eval s = v) (hown : OwnsR W base v vs xss)
    (y : Value) (ys : List Int) (hy : Owns W base y ys) (hyl : ys.length ≤ 300) (hyo : y.ownBlock = none ∨ y.ownBlock ≠ v.ownBlock) (hx : a.eval x = .slice (some ⟨W.heap.size, 0, none⟩) 1 1) (hl : xss.length ≤ 1048576) (hb : base ≤ W.heap.size)
    (h : ∀ v' w', OwnsR w' base v' (vs ++ [y]) (xss ++ [ys]) → (W.alloc (.cells #[y] 23)).grownBy w' v.ownBlock → wpList Try.prog ops Q rest (a.put o.dst v') w') :
    wpList Try.prog ops Q (o :: rest) a (W.alloc (.cells #[y] 23)) := by
  obtain ⟨i0, hi0, hz0, hz1, hz2⟩ := info_parts rowrow_info
  obtain ⟨Ay, cy, rfl, _, _, _, hya⟩ := hy.form
  have hlen := hown.len
  refine wpList_append_own_at _ hgd s x 31 ho base 23 i0 (.slice none 0 0) 1 24 Try.underlying31 hi0 hz0 hz1 hz2 rfl (by decide) v vs.length vs hs (World.ownsRow.alloc hown.row _)
    ⟨W.heap.size, 0, none⟩ 1 1 [.slice Ay ys.length cy] hx rfl (cell_one_new _ _ _) (fun u hu => by rw [List.mem_singleton] at hu; subst hu; rfl) (by simp only [maxLen]; omega) (by omega) (by rw [World.size_alloc]; omega) ?_
  intro v' w' h1 h2 _ h4
  refine h v' w' ⟨by simpa using h1, by simp [hlen], fun i xs hi => ?_⟩ h2
  have hal : ∀ {u : Value} {us : List Int}, Owns W base u us → (u.ownBlock = none ∨ u.ownBlock ≠ v.ownBlock) → Owns w' base u us ∧ (u.ownBlock = none ∨ u.ownBlock ≠ v'.ownBlock) := fun {u us} hu hne => by
    refine ⟨(hu.below ((Below.refl _ _).alloc (Nat.le_refl _) _)).kept h2 hne, ?_⟩
    rcases hne with hn | hn
    · exact .inl hn
    · rcases h4 with h4 | h4
      · rw [h4]; exact .inr hn
      · right
        intro e
        rw [h4, World.size_alloc] at e
        have := (World.ownsRow.lt hu _ e).2
        omega
  by_cases hil : i < xss.length
  · rw [List.getElem?_append_left hil] at hi
    obtain ⟨u, g1, g2, g3, g4⟩ := hown.sees.2 i xs hi
    obtain ⟨g5, g6⟩ := hal g2 g4
    exact ⟨u, by rw [List.getElem?_append_left (by omega)]; exact g1, g5, g3, g6⟩
  · rw [List.getElem?_append_right (by omega)] at hi
    have hi0 : i - xss.length = 0 := by
      rcases Nat.eq_zero_or_pos (i - xss.length) with h | h
      · exact h
      · rw [List.getElem?_eq_none (by simp only [List.length_cons, List.length_nil]; omega)] at hi; cases hi
    rw [hi0] at hi
    cases hi
    obtain ⟨g5, g6⟩ := hal hy hyo
    exact ⟨_, by rw [List.getElem?_append_right (by omega), hlen, hi0]; rfl, g5, hyl, g6⟩
theorem below_appendR {B : Nat} {a W w' : World} {base : Nat} {v : Value} {vs : List Value} {xss : List (List Int)} {o : Obj} (h : Below B a W) (hB : B ≤ W.heap.size) (hown : OwnsR W base v vs xss) (hbase : B ≤ base) (hg : (W.alloc o).grownBy w' v.ownBlock) : Below B a w' :=
  (h.alloc hB o).grown hg (by simp; omega) fun k e => by have := (World.ownsRow.lt hown.row k e).1; omega
/-- A new row is not in a row's block that was there before. -/
theorem new_row {w w1 : World} {base : Nat} {v y : Value} {vs : List Value} {xss : List (List Int)} {ys : List Int} (h : OwnsR w base v vs xss) (hy : Owns w1 w.heap.size y ys) : y.ownBlock = none ∨ y.ownBlock ≠ v.ownBlock := by
  cases e : y.ownBlock with
  | none => exact .inl rfl
  | some k =>
    right
    intro e2
    have h1 := (World.ownsRow.lt hy k e).1
    have h2 := (World.ownsRow.lt h.row k e2.symm).2
    omega
end Go.Proofs.Ytkjjpleedobkdaa
