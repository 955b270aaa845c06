/-
  What the proofs of this seat's statements share (StrO, StaO, TlkM, StrC, DedS, DedT).
-/
import Derived.Laws.Strings
import Derived.RangeFuncBox
import Derived.Deep.RegionWith
import Derived.Deep.Cut
import Derived.Test.YtobgnbgmpcilgaaU2
import Derived.Test.YtobgnbgmpcilgaaU3
import Derived.Test.YtobgnbgmpcilgaaU16
import Derived.Test.YtobgnbgmpcilgaaU14
import Derived.Test.YtobgnbgmpcilgaaU1

namespace Go.Proofs.Ytobgnbgmpcilgaa
open Go.RowKit

theorem str_info : (Try.prog.info? 9).map (fun i => (i.zero, i.size, i.bytes)) = some (some (.string ByteArray.empty), 1, 16) := by kernel_rfl
/-- The slice at A reads as the texts xs. -/
def Strs (w : World) (A : Option Addr) (xs : List ByteArray) : Prop :=
  0 < xs.length → ∃ b off, A = some ⟨b, off, none⟩ ∧ b < w.heap.size ∧ ∀ i, i < xs.length → w.cell? ⟨b, off + i, none⟩ = some (.string (xs.getD i ByteArray.empty))

theorem Strs.nil (w : World) (A : Option Addr) : Strs w A [] := fun h => absurd h (by simp)
theorem Strs.keep {w w' : World} {A : Option Addr} {xs : List ByteArray} (h : Strs w A xs) (hs : w.heap.size ≤ w'.heap.size) (hk : ∀ b, b < w.heap.size → (∀ ad, A = some ad → ad.block = b → w'.heap[b]? = w.heap[b]?)) : Strs w' A xs := by
  intro hn
  obtain ⟨b, off, rfl, hb, hc⟩ := h hn
  exact ⟨b, off, rfl, by omega, fun i hi => (World.cell?_of_block (hk b hb _ rfl rfl)).trans (hc i hi)⟩
theorem Strs.below {w w' : World} {A : Option Addr} {xs : List ByteArray} (h : Strs w A xs) (hb : Below w.heap.size w w') : Strs w' A xs :=
  h.keep hb.size fun b hlt _ _ _ => hb.block b hlt
theorem Strs.drewN {w : World} {A : Option Addr} {xs : List ByteArray} (h : Strs w A xs) (n : Nat) : Strs (w.drewN n) A xs := h
theorem Strs.alloc {w : World} {A : Option Addr} {xs : List ByteArray} (h : Strs w A xs) (o : Obj) : Strs (w.alloc o) A xs :=
  h.below ((Below.refl _ _).alloc (Nat.le_refl _) o)
theorem Strs.grown {w w' : World} {A : Option Addr} {xs : List ByteArray} {row : Option Nat} (h : Strs w A xs) (hg : w.grownBy w' row) (hr : ∀ ad, A = some ad → some ad.block ≠ row) : Strs w' A xs :=
  h.keep hg.size fun b hlt ad ha hab => hg.block b hlt (by rw [← hab]; exact hr ad ha)
theorem Strs.drop {w : World} {A : Option Addr} {xs : List ByteArray} (h : Strs w A xs) {j c : Nat} (hc : xs.length ≤ c) :
    Strs w (if c = j then A else A.map (·.add j)) (xs.drop j) := by
  intro hn
  rw [List.length_drop] at hn
  obtain ⟨b, off, rfl, hb, hcell⟩ := h (by omega)
  rw [if_neg (by omega)]
  refine ⟨b, off + j, by simp only [Option.map_some, Addr.add]; split <;> simp_all, hb, fun i hi => ?_⟩
  rw [List.length_drop] at hi
  rw [Nat.add_assoc, hcell (j + i) (by omega)]
  simp [List.getElem?_drop]
theorem Strs.from_ {w : World} {b off : Nat} {xs : List ByteArray} (h : Strs w (some ⟨b, off, none⟩) xs) (j : Nat) : Strs w (some ⟨b, off + j, none⟩) (xs.drop j) := by
  intro hn
  rw [List.length_drop] at hn
  obtain ⟨b', off', hA, hb, hcell⟩ := h (by omega)
  cases hA
  refine ⟨b, off + j, rfl, hb, fun i hi => ?_⟩
  rw [List.length_drop] at hi
  rw [Nat.add_assoc, hcell (j + i) (by omega)]
  simp [List.getElem?_drop]
theorem Strs.none_ {w : World} {A : Option Addr} {xs : List ByteArray} (h : xs.length = 0) : Strs w A xs := fun hn => by omega
theorem Strs.take {w : World} {A : Option Addr} {xs : List ByteArray} (h : Strs w A xs) (j : Nat) : Strs w A (xs.take j) := by
  intro hn
  rw [List.length_take] at hn
  obtain ⟨b, off, rfl, hb, hcell⟩ := h (by omega)
  refine ⟨b, off, rfl, hb, fun i hi => ?_⟩
  rw [List.length_take] at hi
  rw [hcell i (by omega)]
  simp [show i < j by omega]

/-- A slice of the call's own: the value v, from block 'base' on, holds the texts xs. -/
def OwnsS (w : World) (base : Nat) (v : Value) (xs : List ByteArray) : Prop := w.ownsRow base 9 1 v xs.length (xs.map (Value.string))

theorem OwnsS.form {w : World} {base : Nat} {v : Value} {xs : List ByteArray} (h : OwnsS w base v xs) :
    ∃ A c, v = .slice A xs.length c ∧ xs.length ≤ c ∧ c ≤ maxLen ∧ Strs w A xs ∧ (∀ ad, A = some ad → base ≤ ad.block ∧ ad.block < w.heap.size) := by
  have hcells := fun g => World.ownsRow.cells h (g := g)
  rcases h.2 with ⟨rfl, hl⟩ | ⟨g, cap, cur, rfl, hb, hg, hn, hm, _, _⟩
  · exact ⟨none, 0, by rw [hl], by omega, by simp [maxLen], fun hp => absurd hp (by omega), fun ad h => by cases h⟩
  · have hlt : g < w.heap.size := (Array.getElem?_eq_some_iff.1 hg).1
    refine ⟨some ⟨g, 0, none⟩, cap, rfl, hn, hm, fun hp => ⟨g, 0, rfl, hlt, fun i hi => ?_⟩, fun ad h => by cases h; exact ⟨hb, hlt⟩⟩
    have hi2 : (xs.map (Value.string))[i]? = some (.string (xs.getD i ByteArray.empty)) := by simp [hi]
    have := hcells g rfl i _ hi2
    have e : (⟨g, 0, none⟩ : Addr).add i = ⟨g, 0 + i, none⟩ := by unfold Addr.add; split <;> simp_all
    rw [e] at this
    exact this
theorem OwnsS.kept {w w' : World} {base : Nat} {v : Value} {xs : List ByteArray} (h : OwnsS w base v xs) {row : Option Nat} (hg : w.grownBy w' row) (hne : v.ownBlock = none ∨ v.ownBlock ≠ row) : OwnsS w' base v xs :=
  World.ownsRow.kept h hg hne
theorem OwnsS.below {w w' : World} {base : Nat} {v : Value} {xs : List ByteArray} (h : OwnsS w base v xs) (hb : Below w.heap.size w w') : OwnsS w' base v xs :=
  World.ownsRow.kept (row := none) h ⟨hb.os, hb.tape, hb.output, hb.size, fun k hk _ => hb.block k hk⟩ (by cases v.ownBlock <;> simp)
theorem OwnsS.base {w : World} {base base' : Nat} {v : Value} {xs : List ByteArray} (h : OwnsS w base v xs) (hb : base' ≤ base) : OwnsS w base' v xs := by
  refine ⟨h.1, ?_⟩
  rcases h.2 with h | ⟨g, cap, cur, h1, h2, h3⟩
  · exact .inl h
  · exact .inr ⟨g, cap, cur, h1, by omega, h3⟩
theorem OwnsS.nil (w : World) (base : Nat) : OwnsS w base (.slice none 0 0) [] := World.ownsRow_nil w base _ 1

theorem OwnsS.lit (w : World) (base : Nat) (xs : List ByteArray) (hb : base ≤ w.heap.size) (hm : xs.length ≤ maxLen) :
    OwnsS (w.alloc (.cells (xs.map (Value.string)).toArray 9)) base (.slice (some ⟨w.heap.size, 0, none⟩) xs.length xs.length) xs := by
  have h := World.ownsRow_lit (base := base) (e := 9) (size := 1) w (xs.map (Value.string)).toArray xs.length hb hm (by simp)
  simpa [OwnsS] using h

theorem wp_appendS {W : World} {ops : Array Oper} {rest : List Oper} {o : Oper} {a : Act} {Q : Exit → Act → World → Prop} (hgd : o.guard = none) (s x : Operand)
    (ho : o.op = .call { callee := .builtin .append, args := #[s, x], argTypes := #[38, 38] }) (base : Nat) (v : Value) (xs : List ByteArray) (hs : a.eval s = v) (hown : OwnsS W base v xs)
    (y : ByteArray) (hx : a.eval x = .slice (some ⟨W.heap.size, 0, none⟩) 1 1) (hl : xs.length ≤ 1048576) (hb : base ≤ W.heap.size)
    (h : ∀ v' w', OwnsS w' base v' (xs ++ [y]) → (W.alloc (.cells #[.string y] 9)).grownBy w' v.ownBlock → wpList Try.prog ops Q rest (a.put o.dst v') w') :
    wpList Try.prog ops Q (o :: rest) a (W.alloc (.cells #[.string y] 9)) := by
  obtain ⟨i0, hi0, hz0, hz1, hz2⟩ := info_parts str_info
  refine wpList_append_own _ hgd s x 38 ho base 9 i0 (.string ByteArray.empty) 1 16 Try.underlying38 hi0 hz0 hz1 hz2 rfl (by decide) v xs.length (xs.map (Value.string)) hs (World.ownsRow.alloc hown _)
    ⟨W.heap.size, 0, none⟩ 1 1 [.string y] hx rfl (cell_one_new _ _ _) (fun u hu => by rw [List.mem_singleton] at hu; subst hu; rfl) (by simp only [maxLen]; omega) (by omega) (by rw [World.size_alloc]; omega) ?_
  intro v' w' h1 h2 _
  refine h v' w' ?_ h2
  unfold OwnsS
  simpa using h1
/-- What an append of the call's own row leaves below a block that is older than the row. -/
theorem below_appendS {B : Nat} {a W w' : World} {base : Nat} {v : Value} {xs : List ByteArray} {o : Obj} (h : Below B a W) (hB : B ≤ W.heap.size) (hown : OwnsS W base v xs) (hbase : B ≤ base) (hg : (W.alloc o).grownBy w' v.ownBlock) : Below B a w' :=
  (h.alloc hB o).grown hg (by simp; omega) fun k e => by have := (World.ownsRow.lt hown k e).1; omega

theorem wp_appendLS {W : World} {ops : Array Oper} {rest : List Oper} {o : Oper} {a : Act} {Q : Exit → Act → World → Prop} (hgd : o.guard = none) (s x : Operand)
    (ho : o.op = .call { callee := .builtin .append, args := #[s, x], argTypes := #[38, 38] }) (base : Nat) (v : Value) (xs : List ByteArray) (hs : a.eval s = v) (hown : OwnsS W base v xs)
    (ys : List ByteArray) (ad : Option Addr) (m c : Nat) (hx : a.eval x = .slice ad m c) (hm : m = ys.length) (hpos : 1 ≤ m) (hn : Strs W ad ys) (hl : xs.length + m ≤ 1048576) (hb : base ≤ W.heap.size)
    (h : ∀ v' w', OwnsS w' base v' (xs ++ ys) → W.grownBy w' v.ownBlock → wpList Try.prog ops Q rest (a.put o.dst v') w') :
    wpList Try.prog ops Q (o :: rest) a W := by
  subst hm
  obtain ⟨i0, hi0, hz0, hz1, hz2⟩ := info_parts str_info
  obtain ⟨b, off, rfl, _, hc⟩ := hn hpos
  refine wpList_append_own _ hgd s x 38 ho base 9 i0 (.string ByteArray.empty) 1 16 Try.underlying38 hi0 hz0 hz1 hz2 rfl (by decide) v xs.length (xs.map (Value.string)) hs hown
    ⟨b, off, none⟩ ys.length c (ys.map (Value.string)) hx (by simp) ?_ (fun u hu => ?_) (by simp only [maxLen]; omega) (by omega) hb ?_
  · intro j u hj
    rw [List.getElem?_map] at hj
    obtain ⟨y, hy, rfl⟩ := Option.map_eq_some_iff.1 hj
    obtain ⟨hlt, he⟩ := List.getElem?_eq_some_iff.1 hy
    have := hc j hlt
    have e : (⟨b, off, none⟩ : Addr).add j = ⟨b, off + j, none⟩ := by unfold Addr.add; split <;> simp_all
    rw [e, this, List.getD_eq_getElem?_getD, hy]; rfl
  · obtain ⟨y, _, rfl⟩ := List.mem_map.1 hu; rfl
  · intro v' w' h1 h2 _
    refine h v' w' ?_ h2
    unfold OwnsS
    rw [List.map_append, List.length_append]
    exact h1
theorem below_appendLS {B : Nat} {a W w' : World} {base : Nat} {v : Value} {xs : List ByteArray} (h : Below B a W) (hB : B ≤ W.heap.size) (hown : OwnsS W base v xs) (hbase : B ≤ base) (hg : W.grownBy w' v.ownBlock) : Below B a w' :=
  h.grown hg hB fun k e => by have := (World.ownsRow.lt hown k e).1; omega

/-- One element: its address, its cell, and (hidden from the walk) that it is the element. -/
theorem Strs.elem {w : World} {A : Option Addr} {xs : List ByteArray} (h : Strs w A xs) {i : Nat} (hi : i < xs.length) :
    ∃ b off x, A = some ⟨b, off, none⟩ ∧ w.cell? ⟨b, off + i, none⟩ = some (.string x) ∧ Hid (xs[i]? = some x) ∧ Hid (b < w.heap.size) := by
  obtain ⟨b, off, hA, hb, hc⟩ := h (by omega)
  exact ⟨b, off, _, hA, hc i hi, by show _ = _; simp [hi], hb⟩
theorem elem_memS {xs : List ByteArray} {i : Nat} {x : ByteArray} (h : Hid (xs[i]? = some x)) : x ∈ xs := List.mem_of_getElem? h.out
theorem elem_ltS {xs : List ByteArray} {i : Nat} {x : ByteArray} (h : Hid (xs[i]? = some x)) : i < xs.length := (List.getElem?_eq_some_iff.1 h.out).1
theorem take_snocS {xs : List ByteArray} {i : Nat} {x : ByteArray} (h : Hid (xs[i]? = some x)) : xs.take (i + 1) = xs.take i ++ [x] := by
  rw [List.take_succ_eq_append_getElem (elem_ltS h), (List.getElem?_eq_some_iff.1 h.out).2]
theorem drop_consS {xs : List ByteArray} {i : Nat} {x : ByteArray} (h : Hid (xs[i]? = some x)) : xs.drop i = x :: xs.drop (i + 1) := by
  rw [List.drop_eq_getElem_cons (elem_ltS h), (List.getElem?_eq_some_iff.1 h.out).2]

end Go.Proofs.Ytobgnbgmpcilgaa

namespace Go.Proofs.Ytobgnbgmpcilgaa
open Go.RowKit

/-- The cells of states whose open questions stand in the given slices. -/
def cellsX (vs : List (Int × Value)) : List Value := vs.flatMap fun v => [.int .i64 v.1, v.2]
theorem cellsX_len (vs : List (Int × Value)) : (cellsX vs).length = vs.length * 2 := by
  unfold cellsX
  induction vs with
  | nil => rfl
  | cons v vs ih => rw [List.flatMap_cons, List.length_append, ih, List.length_cons]; simp; omega
theorem cellsX_append (vs us : List (Int × Value)) : cellsX (vs ++ us) = cellsX vs ++ cellsX us := by unfold cellsX; rw [List.flatMap_append]
theorem cellsX_get : ∀ (vs : List (Int × Value)) (i : Nat) (v : Int × Value), vs[i]? = some v → (cellsX vs)[i * 2]? = some (.int .i64 v.1) ∧ (cellsX vs)[i * 2 + 1]? = some v.2
  | [], i, v, h => by simp at h
  | u :: vs, 0, v, h => by
    simp only [List.getElem?_cons_zero, Option.some.injEq] at h
    subst h
    exact ⟨rfl, rfl⟩
  | u :: vs, i + 1, v, h => by
    rw [List.getElem?_cons_succ] at h
    have ih := cellsX_get vs i v h
    have e : cellsX (u :: vs) = .int .i64 u.1 :: u.2 :: cellsX vs := rfl
    rw [e, show (i + 1) * 2 = i * 2 + 1 + 1 by omega, show i * 2 + 1 + 1 + 1 = (i * 2 + 1) + 1 + 1 by omega]
    simpa using ih

/-! Read only. -/
/-- The slice at A reads as the states xs. -/
def StaRow (w : World) (A : Option Addr) (xs : List (St ByteArray)) : Prop :=
  0 < xs.length → ∃ b off, A = some ⟨b, off, none⟩ ∧ b < w.heap.size ∧ ∀ i x, xs[i]? = some x → ∃ Ai ci, w.cell? ⟨b, off + i * 2, none⟩ = some (.int .i64 x.known) ∧ w.cell? ⟨b, off + i * 2 + 1, none⟩ = some (.slice Ai x.op.length ci) ∧
    x.op.length ≤ ci ∧ ci ≤ maxLen ∧ Strs w Ai x.op
theorem StaRow.nil (w : World) (A : Option Addr) : StaRow w A [] := fun h => absurd h (by simp)
theorem StaRow.below {w w' : World} {A : Option Addr} {xs : List (St ByteArray)} (h : StaRow w A xs) (hb : Below w.heap.size w w') : StaRow w' A xs := by
  intro hn
  obtain ⟨b, off, rfl, hlt, hc⟩ := h hn
  refine ⟨b, off, rfl, Nat.lt_of_lt_of_le hlt hb.size, fun i x hx => ?_⟩
  obtain ⟨Ai, ci, h1, h2, h3, h4, h5⟩ := hc i x hx
  exact ⟨Ai, ci, (World.cell?_of_block (hb.block b hlt)).trans h1, (World.cell?_of_block (hb.block b hlt)).trans h2, h3, h4, h5.below hb⟩
theorem StaRow.drewN {w : World} {A : Option Addr} {xs : List (St ByteArray)} (h : StaRow w A xs) (n : Nat) : StaRow (w.drewN n) A xs := by
  intro hn
  obtain ⟨b, off, rfl, hlt, hc⟩ := h hn
  exact ⟨b, off, rfl, hlt, fun i x hx => by
    obtain ⟨Ai, ci, h1, h2, h3, h4, h5⟩ := hc i x hx
    exact ⟨Ai, ci, h1, h2, h3, h4, h5.drewN n⟩⟩
/-- One state: its cells, its slice. -/
theorem StaRow.elem {w : World} {A : Option Addr} {xs : List (St ByteArray)} (h : StaRow w A xs) {i : Nat} (hi : i < xs.length) :
    ∃ b off Ai ci x, A = some ⟨b, off, none⟩ ∧ w.cell? ⟨b, off + i * 2, none⟩ = some (.int .i64 x.known) ∧ w.cell? ⟨b, off + i * 2 + 1, none⟩ = some (.slice Ai x.op.length ci) ∧ x.op.length ≤ ci ∧ ci ≤ maxLen ∧ Hid (xs[i]? = some x) ∧ Hid (Strs w Ai x.op) ∧ Hid (b < w.heap.size) := by
  obtain ⟨b, off, rfl, hlt, hc⟩ := h (by omega)
  obtain ⟨Ai, ci, h1, h2, h3, h4, h5⟩ := hc i xs[i] (List.getElem?_eq_getElem hi)
  exact ⟨b, off, Ai, ci, xs[i], rfl, h1, h2, h3, h4, List.getElem?_eq_getElem hi, h5, hlt⟩

/-! Of the call's own. -/
structure SeesX (w : World) (base : Nat) (o : Option Nat) (vs : List (Int × Value)) (xs : List (St ByteArray)) : Prop where
  len : vs.length = xs.length
  at_ : ∀ (i : Nat) (x : St ByteArray), xs[i]? = some x → ∃ v, vs[i]? = some (x.known, v) ∧ OwnsS w base v x.op ∧ (v.ownBlock = none ∨ v.ownBlock ≠ o)
structure OwnsX (e : TypeId) (w : World) (base : Nat) (v : Value) (vs : List (Int × Value)) (xs : List (St ByteArray)) : Prop where
  row : w.ownsRow base e 2 v vs.length (cellsX vs)
  sees : SeesX w base v.ownBlock vs xs
/-- No two of the slices of texts share a block. -/
def ApartX (vs : List (Int × Value)) : Prop := vs.Pairwise fun u v => ∀ k, u.2.ownBlock = some k → v.2.ownBlock ≠ some k
theorem OwnsX.nil (e : TypeId) (w : World) (base : Nat) : OwnsX e w base (.slice none 0 0) [] [] := ⟨World.ownsRow_nil w base e 2, rfl, fun i x h => by simp at h⟩
theorem SeesX.below {w w' : World} {base : Nat} {o : Option Nat} {vs : List (Int × Value)} {xs : List (St ByteArray)} (h : SeesX w base o vs xs) (hb : Below w.heap.size w w') : SeesX w' base o vs xs :=
  ⟨h.len, fun i x hx => by obtain ⟨v, h1, h2, h3⟩ := h.at_ i x hx; exact ⟨v, h1, h2.below hb, h3⟩⟩
theorem OwnsX.below {e : TypeId} {w w' : World} {base : Nat} {v : Value} {vs : List (Int × Value)} {xs : List (St ByteArray)} (h : OwnsX e w base v vs xs) (hb : Below w.heap.size w w') : OwnsX e w' base v vs xs :=
  ⟨World.ownsRow.kept (row := none) h.row ⟨hb.os, hb.tape, hb.output, hb.size, fun k hk _ => hb.block k hk⟩ (by cases v.ownBlock <;> simp), h.sees.below hb⟩
theorem OwnsX.drewN {e : TypeId} {w : World} {base : Nat} {v : Value} {vs : List (Int × Value)} {xs : List (St ByteArray)} (h : OwnsX e w base v vs xs) (n : Nat) : OwnsX e (w.drewN n) base v vs xs :=
  ⟨h.row, h.sees.len, fun i x hx => by obtain ⟨v, h1, h2, h3⟩ := h.sees.at_ i x hx; exact ⟨v, h1, h2, h3⟩⟩
theorem OwnsX.base {e : TypeId} {w : World} {base base' : Nat} {v : Value} {vs : List (Int × Value)} {xs : List (St ByteArray)} (h : OwnsX e w base v vs xs) (hb : base' ≤ base) : OwnsX e w base' v vs xs := by
  refine ⟨⟨h.row.1, ?_⟩, h.sees.len, fun i x hx => ?_⟩
  · rcases h.row.2 with h | ⟨g, cap, cur, h1, h2, h3⟩
    · exact .inl h
    · exact .inr ⟨g, cap, cur, h1, by omega, h3⟩
  · obtain ⟨v, h1, h2, h3⟩ := h.sees.at_ i x hx
    exact ⟨v, h1, h2.base hb, h3⟩
theorem OwnsX.form {e : TypeId} {w : World} {base : Nat} {v : Value} {vs : List (Int × Value)} {xs : List (St ByteArray)} (h : OwnsX e w base v vs xs) :
    ∃ A c, v = .slice A xs.length c ∧ xs.length ≤ c ∧ c ≤ maxLen ∧ StaRow w A xs ∧ ∀ ad, A = some ad → base ≤ ad.block ∧ ad.block < w.heap.size := by
  have hcells := fun g => World.ownsRow.cells h.row (g := g)
  rcases h.row.2 with ⟨rfl, hl⟩ | ⟨g, cap, cur, rfl, hb, hg, hn, hm, _, _⟩
  · have hl2 : xs.length = 0 := by rw [← h.sees.len]; exact hl
    exact ⟨none, 0, by rw [hl2], by omega, by simp [maxLen], fun hp => absurd hp (by omega), fun ad h => by cases h⟩
  · have hlt : g < w.heap.size := (Array.getElem?_eq_some_iff.1 hg).1
    refine ⟨some ⟨g, 0, none⟩, cap, by rw [h.sees.len], by rw [← h.sees.len]; exact hn, hm, fun hp => ⟨g, 0, rfl, hlt, fun i x hx => ?_⟩, fun ad h => by cases h; exact ⟨hb, hlt⟩⟩
    obtain ⟨v, h1, h2, _⟩ := h.sees.at_ i x hx
    obtain ⟨g1, g2⟩ := cellsX_get vs i _ h1
    obtain ⟨Ai, ci, rfl, h3, h4, h5, _⟩ := h2.form
    have e1 := hcells g rfl _ _ g1
    have e2 := hcells g rfl _ _ g2
    have ea : ∀ j, (⟨g, 0, none⟩ : Addr).add j = ⟨g, 0 + j, none⟩ := fun j => by unfold Addr.add; split <;> simp_all
    rw [ea] at e1 e2
    rw [← Nat.add_assoc] at e2
    exact ⟨Ai, ci, e1, e2, h3, h4, h5⟩
/-- Kept where neither the row nor any slice of texts is written. -/
theorem OwnsX.kept {e : TypeId} {w w' : World} {base : Nat} {v : Value} {vs : List (Int × Value)} {xs : List (St ByteArray)} (h : OwnsX e w base v vs xs) {row : Option Nat} (hg : w.grownBy w' row) (hne : v.ownBlock = none ∨ v.ownBlock ≠ row) (hne2 : ∀ u ∈ vs, u.2.ownBlock = none ∨ u.2.ownBlock ≠ row) : OwnsX e w' base v vs xs :=
  ⟨World.ownsRow.kept h.row hg hne, h.sees.len, fun i x hx => by
    obtain ⟨u, h1, h2, h3⟩ := h.sees.at_ i x hx
    exact ⟨u, h1, h2.kept hg (hne2 _ (List.mem_of_getElem? h1)), h3⟩⟩
/-- Behind a block of another's all stays. -/
theorem OwnsX.other {e : TypeId} {w w' : World} {base : Nat} {v : Value} {vs : List (Int × Value)} {xs : List (St ByteArray)} (h : OwnsX e w base v vs xs) {g : Nat} (hg : w.grownBy w' (some g)) (hlt : g < base) : OwnsX e w' base v vs xs := by
  have key : ∀ k : Option Nat, (∀ j, k = some j → base ≤ j) → k = none ∨ k ≠ some g := fun k hk => by
    cases k with
    | none => exact .inl rfl
    | some j => right; intro e; have := hk j rfl; have := Option.some.inj e; omega
  have hsome : ∀ (i : Nat) (u : Int × Value), vs[i]? = some u → u.2.ownBlock = none ∨ u.2.ownBlock ≠ some g := fun i u hu => by
    have hil : i < xs.length := by rw [← h.sees.len]; exact (List.getElem?_eq_some_iff.1 hu).1
    obtain ⟨v2, h1, h2, _⟩ := h.sees.at_ i xs[i] (List.getElem?_eq_getElem hil)
    rw [hu] at h1
    cases h1
    exact key _ fun j hj => (World.ownsRow.lt h2 j hj).1
  refine h.kept hg (key _ fun j hj => (World.ownsRow.lt h.row j hj).1) fun u hu => ?_
  obtain ⟨i, hi⟩ := List.mem_iff_getElem?.1 hu
  exact hsome i u hi
end Go.Proofs.Ytobgnbgmpcilgaa

namespace Go.Proofs.Ytobgnbgmpcilgaa
open Go.RowKit

/-- What is asked of texts: whether one is a sentence, whether a set settles its issue, where it is true. -/
def asksT : Asks ByteArray := ⟨fun t s => (senT t s).isSome, fun t k s => anyWithin k (issueT t s), fun t s => trueT t s, ByteArray.empty⟩
def isLT (t : Int) (s : ByteArray) : Bool := loadedT t s
def senseT (t k : Int) (s : ByteArray) : Bool := (changedT t k s).isSome
abbrev TalkV := Tk ByteArray
def okT (T : TalkV) : Bool := talkOk asksT T
def doT (T : TalkV) (k : Int) (s : ByteArray) : Option TalkV := talkDo asksT T k s
def lineT (T : TalkV) (l : ByteArray) : TalkV × List UInt8 := talkLine asksT isLT senseT T l
def sayT (T : TalkV) (ls : List ByteArray) : TalkV × List (List UInt8) := talkSay asksT isLT senseT T ls
def noTalk : TalkV := ⟨0, ⟨0, []⟩, []⟩
def newT (t : Int) : TalkV := if 1 ≤ t ∧ t ≤ 3 then ⟨t, ⟨allOf t, []⟩, []⟩ else noTalk
theorem isS_some {t : Int} {s : ByteArray} : asksT.isS t s = true ↔ ∃ x, senT t s = some x := by
  show (senT t s).isSome = true ↔ _
  rw [Option.isSome_iff_exists]
theorem textS_ne (x : Sen) : textS x ≠ [] := by cases x <;> simp [textS]
theorem isS_ne (t : Int) (s : ByteArray) (h : asksT.isS t s = true) : bL s ≠ [] := by
  obtain ⟨x, hx⟩ := isS_some.1 h
  obtain ⟨_, _, _, _, hb⟩ := senT_ok hx
  intro hn
  apply textS_ne x
  rw [← hb]
  unfold bytesN
  rw [show s.data.toList = bL s from rfl, hn]; rfl
theorem isS_bad {t : Int} (s : ByteArray) (h : t < 1 ∨ 3 < t) : asksT.isS t s = false := by
  cases hs : asksT.isS t s with
  | false => rfl
  | true =>
    obtain ⟨x, hx⟩ := isS_some.1 hs
    have := senT_ok hx
    omega
/-- An open question is not supported. -/
theorem unsettled_supports {t k : Int} {s : ByteArray} (hS : asksT.isS t s = true) (hk : setOkB t k = true) (h : asksT.sett t k s = false) : supportsT t k s = false := by
  obtain ⟨x, hx⟩ := isS_some.1 hS
  obtain ⟨_, _, h0, ha, _⟩ := setOkB_lt hk
  rw [← supports_settles hx hk, settles_any (issueT_ok hx) h0 ha]
  exact h
theorem settles_sett {t k : Int} {s : ByteArray} (hS : asksT.isS t s = true) (hk : setOkB t k = true) : settlesB t (issueT t s) k = asksT.sett t k s := by
  obtain ⟨x, hx⟩ := isS_some.1 hS
  obtain ⟨_, _, h0, ha, _⟩ := setOkB_lt hk
  exact settles_any (issueT_ok hx) h0 ha
theorem noTalk_bad : okT noTalk = false := by decide
/-- In new talks everything is possible. -/
theorem new_ok {t : Int} (h1 : 1 ≤ t) (h3 : t ≤ 3) : okT (newT t) = true ∧ (newT t).now.known = allOf t ∧ (newT t).now.op = [] := by
  unfold newT
  rw [if_pos ⟨h1, h3⟩]
  refine ⟨?_, rfl, rfl⟩
  have hp := (nW_pos h1 h3).2
  have hn : (2 : Nat) ≤ 2 ^ nWorlds t := by
    have : t = 1 ∨ t = 2 ∨ t = 3 := by omega
    rcases this with rfl | rfl | rfl <;> decide
  refine (talk_parts asksT).2 ⟨(state_parts asksT).2 ⟨setOk_of h1 h3 (allOf_lt t).1 (Int.le_refl _), ?_, Nat.zero_le _, fun s hs => (by cases hs), List.nodup_nil⟩, Nat.zero_le _, fun x hx => (by cases hx)⟩
  show allOf t ≠ 0
  omega
end Go.Proofs.Ytobgnbgmpcilgaa

namespace Go.Proofs.Ytobgnbgmpcilgaa
open Go.RowKit

theorem str_ne {x y : ByteArray} (h : x ≠ y) : (x.toList == y.toList) = false := by
  rw [ByteArray.toList_eq, ByteArray.toList_eq, beq_eq_false_iff_ne]
  intro e
  exact h (ByteArray.ext (Array.toList_inj.mp e))
theorem str_eq (x : ByteArray) : (x.toList == x.toList) = true := by simp

/-- The row that a loop fills: behind k rounds the first k places hold what they shall. -/
def partS (xs : List ByteArray) (k : Nat) : Nat → Value := fun j => if j < k then .string (xs.getD j ByteArray.empty) else .string ByteArray.empty
theorem partS_next {w : World} {g : Nat} {xs : List ByteArray} {k : Nat} {x : ByteArray} (h : w.rowIs g 9 xs.length (partS xs k)) (hx : Hid (xs[k]? = some x)) : (w.setCell ⟨g, k, none⟩ (.string x)).rowIs g 9 xs.length (partS xs (k + 1)) := by
  refine (h.set k _).congr fun j hj => ?_
  unfold partS
  by_cases e : j = k
  · subst e
    rw [if_pos rfl, if_pos (by omega), List.getD_eq_getElem?_getD, hx.out]; rfl
  · rw [if_neg e]
    by_cases h1 : j < k
    · rw [if_pos h1, if_pos (by omega)]
    · rw [if_neg h1, if_neg (by omega)]
theorem ownsS_of_row {w : World} {base g : Nat} {xs : List ByteArray} (h : w.rowIs g 9 xs.length (partS xs xs.length)) (hb : base ≤ g) (hm : xs.length ≤ maxLen) : OwnsS w base (.slice (some ⟨g, 0, none⟩) xs.length xs.length) xs := by
  obtain ⟨c, hg, hn, hc⟩ := h
  refine ⟨by simp, .inr ⟨g, xs.length, c, rfl, hb, hg, Nat.le_refl _, hm, by omega, ?_⟩⟩
  apply List.ext_getElem?
  intro i
  rw [List.getElem?_take, List.getElem?_map]
  by_cases hi : i < xs.length
  · rw [if_pos (by omega), Array.getElem?_toList, hc i hi]
    simp [partS, hi]
  · rw [if_neg (by omega), List.getElem?_eq_none (by omega)]; rfl

set_option maxHeartbeats 400000 in
theorem lEqStringS (A B : Option Addr) (nn mm c d : Nat) (xs ys : List ByteArray) (w : World) (hn : nn = xs.length) (hm : mm = ys.length) (hl : nn ≤ 1048576) (hl2 : mm ≤ 1048576) (hA : Strs w A xs) (hB : Strs w B ys) :
    Calls Try.prog 67 #[.slice A nn c, .slice B mm d] w fun e w' => e = .returned (.bool (decide (xs = ys))) ∧ ∃ n, w' = w.drewN n := by
  subst hn hm
  have HA := Lib.hid hA
  have HB := Lib.hid hB
  clear hA hB
  by_cases hlen : xs.length = ys.length
  · have hd : ((xs.length : Int) != (ys.length : Int)) = false := by simp; omega
    have HL := Lib.hid hlen
    have hle1 : xs.length ≤ ys.length := by omega
    have hle2 : ys.length ≤ xs.length := by omega
    clear hlen
    go_enter Try.func67, Try.ntmps67
    go_wp2
    go_loopw [5] (fun i wr => ∃ k : Nat, k ≤ xs.length ∧ i = .int .i64 k ∧ Hid (xs.take k = ys.take k) ∧ ∃ n, wr = w.drewN n) (fun i _ => xs.length - (Go.RowKit.intOf i).toNat)
    case atStart => exact ⟨0, Nat.zero_le _, rfl, rfl, 0, rfl⟩
    case round =>
      obtain ⟨k, hk, rfl, hsofar, n, rfl⟩ := hrel
      by_cases hlt : k < xs.length
      · have hlt2 : k < ys.length := by omega
        obtain ⟨b, off, x, rfl, hcell, hx, _⟩ := HA.out.elem hlt
        obtain ⟨b', off', y, rfl, hcell', hy, _⟩ := HB.out.elem hlt2
        by_cases hxy : x = y
        · have HXY := Lib.hid hxy
          subst hxy
          go_wp2
          go_quiet (fail)
          go_wp2
          exact ⟨⟨k + 1, by omega, by go_num, by unfold Hid; rw [take_snocS hx, take_snocS hy, hsofar.out], _, rfl⟩, by simp [Go.RowKit.intOf]; omega⟩
        · have hxy' : (x.toList == y.toList) = false := str_ne hxy
          have HXY := Lib.hid hxy
          go_wp2
          go_quiet (fail)
          go_wp2
          go_ret
          exact ⟨ret_bool (by symm; apply decide_eq_false; intro e; subst e; have := hx.out.symm.trans hy.out; cases this; exact HXY.out rfl), _, World.drewN_drewN _ _ _⟩
      · obtain rfl : k = xs.length := by omega
        have HE : Hid (xs = ys) := by
          have := hsofar.out
          rw [List.take_length, HL.out, List.take_length] at this
          exact this
        clear hsofar
        go_wp2
        go_ret
        exact ⟨ret_bool (by rw [decide_eq_true HE.out]), _, rfl⟩
  · have hd : ((xs.length : Int) != (ys.length : Int)) = true := by simp; omega
    have HL := Lib.hid hlen
    clear hlen
    go_enter Try.func67, Try.ntmps67
    go_wp2
    go_ret
    exact ⟨ret_bool (by symm; apply decide_eq_false; intro e; exact HL.out (by rw [e])), 0, rfl⟩

end Go.Proofs.Ytobgnbgmpcilgaa

namespace Go.Proofs.Ytobgnbgmpcilgaa
open Go.RowKit

theorem ink_byte (b : UInt8) : inkU b = (decide ((32 : Int) ≤ (b.toNat : Int)) && decide ((b.toNat : Int) ≤ 126)) := by
  unfold inkU
  have h : ∀ c : UInt8, (c ≤ b ↔ c.toNat ≤ b.toNat) ∧ (b ≤ c ↔ b.toNat ≤ c.toNat) := fun c => ⟨UInt8.le_iff_toNat_le, UInt8.le_iff_toNat_le⟩
  rw [Bool.eq_iff_iff]
  simp only [Bool.and_eq_true, decide_eq_true_eq, (h 32).1, (h 126).2]
  have e1 : (32 : UInt8).toNat = 32 := rfl
  have e2 : (126 : UInt8).toNat = 126 := rfl
  omega
theorem ink_take {s : ByteArray} {k : Nat} (h : k < s.size) : ((bL s).take (k + 1)).all inkU = (((bL s).take k).all inkU && inkU s[k]) := by
  rw [List.take_succ_eq_append_getElem (by rw [bL_size]; exact h), List.all_append]
  simp [bL]; rfl

set_option maxRecDepth 100000 in
set_option maxHeartbeats 4000000 in
theorem sPlain9 (s : ByteArray) (w : World) (hs : s.size ≤ 1048576) :
    Calls Try.prog 42 #[.string s] w fun e w' => e = .returned (.bool (plainU (bL s))) ∧ w = w' := by
  obtain ⟨r, HR⟩ : ∃ r, Hid (plainU (bL s) = r) := ⟨_, rfl⟩
  rw [HR.out]
  have HNO : Hid (∀ k, (h : k < s.size) → inkU s[k] = false → r = false) := fun k h hi => by
    rw [← HR.out]
    unfold plainU
    have : (bL s).all inkU = false := by
      rw [List.all_eq_false]
      exact ⟨s[k], by unfold bL; exact Array.getElem_mem_toList _, by rw [hi]; simp⟩
    rw [this, Bool.and_false]
  have HEND : Hid (((bL s).take s.size).all inkU = true → r = decide (0 < s.size)) := fun h => by
    rw [← bL_size, List.take_length] at h
    rw [← HR.out]
    unfold plainU
    rw [h, Bool.and_true, ← bL_size]
    cases bL s <;> simp
  go_enter Try.func42, Try.ntmps42
  go_wp2
  go_loop [3] (fun i => ∃ k : Nat, k ≤ s.size ∧ i = .int .i64 k ∧ Hid (((bL s).take k).all inkU = true)) (fun i => s.size - (Go.RowKit.intOf i).toNat)
  case atStart => exact ⟨0, Nat.zero_le _, rfl, rfl⟩
  case round =>
    obtain ⟨k, hk, rfl, hall⟩ := hrel
    by_cases hlt : k < s.size
    · have hd : (k : Int) < (s.size : Int) := by omega
      have hd0 : (0 : Int) ≤ (k : Int) := by omega
      have hn := ink_take hlt
      rw [hall.out, Bool.true_and] at hn
      have hib := ink_byte s[k]
      have HNK := HNO.out k hlt
      obtain ⟨c, hc⟩ : ∃ c, s[k].toNat = c := ⟨_, rfl⟩
      rw [hc] at hib
      have hc256 : c < 256 := by rw [← hc]; exact UInt8.toNat_lt _
      by_cases h32 : c < 32
      · have hF : Hid (r = false) := HNK (by rw [hib, decide_eq_false (by omega : ¬ (32 : Int) ≤ (c : Int))]; rfl)
        have hci : decide ((c : Int) < 32) = true := decide_eq_true (by omega)
        clear hn hib HNK
        go_wp2
        go_ret
        exact ⟨ret_bool hF.out.symm, rfl⟩
      · have hci : decide ((c : Int) < 32) = false := decide_eq_false (by omega)
        by_cases h126 : 126 < c
        · have hF : Hid (r = false) := HNK (by rw [hib, decide_eq_false (by omega : ¬ (c : Int) ≤ 126), Bool.and_false])
          have hci2 : decide ((126 : Int) < (c : Int)) = true := decide_eq_true (by omega)
          clear hn hib HNK
          go_wp2
          go_ret
          exact ⟨ret_bool hF.out.symm, rfl⟩
        · have hci2 : decide ((126 : Int) < (c : Int)) = false := decide_eq_false (by omega)
          have HT : Hid (((bL s).take (k + 1)).all inkU = true) := by
            unfold Hid
            rw [hn, hib, decide_eq_true (by omega : (32 : Int) ≤ (c : Int)), decide_eq_true (by omega : (c : Int) ≤ 126)]; rfl
          clear hn hib HNK
          go_wp2
          go_round
          case rel => exact ⟨k + 1, by omega, by go_num, HT⟩
          case measure => simp [Go.RowKit.intOf]; omega
    · obtain rfl : k = s.size := by omega
      have HE := Lib.hid (HEND.out hall.out)
      go_wp2
      go_ret
      exact ⟨ret_bool (by rw [HE.out]), rfl⟩
end Go.Proofs.Ytobgnbgmpcilgaa

namespace Go.Proofs.Ytobgnbgmpcilgaa
open Go.RowKit

theorem bL_append (a b : ByteArray) : bL (a ++ b) = bL a ++ bL b := by unfold bL; rw [ByteArray.data_append, Array.toList_append]
theorem deed_tell {s : ByteArray} (h : plainU (bL s) = true) : deedB (0, s) = (⟨#[116, 101, 108, 108]⟩ ++ ⟨#[32]⟩) ++ s := bL_inj (by
  rw [bL_append, bL_append]
  unfold deedB deedU
  rw [bL_of, if_pos ⟨rfl, h⟩]
  rfl)
theorem deed_ask {s : ByteArray} (h : plainU (bL s) = true) : deedB (1, s) = (⟨#[97, 115, 107]⟩ ++ ⟨#[32]⟩) ++ s := bL_inj (by
  rw [bL_append, bL_append]
  unfold deedB deedU
  rw [bL_of, if_neg (fun h => absurd (show (1 : Int) = 0 from h.1) (by decide)), if_pos ⟨rfl, h⟩]
  rfl)
theorem deed_back : deedB (2, ⟨#[]⟩) = ⟨#[98, 97, 99, 107]⟩ := by decide
theorem deed_none {k : Int} {s : ByteArray} (h1 : ¬ ((k = 0 ∨ k = 1) ∧ plainU (bL s) = true)) (h2 : ¬ (k = 2 ∧ bL s = [])) : deedB (k, s) = ⟨#[]⟩ := by
  unfold deedB deedU
  rw [if_neg fun h => h1 ⟨.inl h.1, h.2⟩, if_neg fun h => h1 ⟨.inr h.1, h.2⟩, if_neg fun h => h2 (by injection h with a b; exact ⟨a, b⟩)]
  rfl
def DeedAt (w : World) (B : Nat) (k : Int) (s : ByteArray) : Prop := w.heap[B]? = some (.cells #[.int .i64 k, .string s] 24 (0, 0))
theorem DeedAt.cells {w : World} {B : Nat} {k : Int} {s : ByteArray} (h : DeedAt w B k s) : w.cell? ⟨B, 0, none⟩ = some (.int .i64 k) ∧ w.cell? ⟨B, 1, none⟩ = some (.string s) := by
  constructor <;> simp [World.cell?, show w.heap[B]? = _ from h]
theorem DeedAt.new (w : World) (k : Int) (s : ByteArray) : DeedAt (w.alloc (.cells #[.int .i64 k, .string s] 24)) w.heap.size k s := World.alloc_heap_new w _

set_option maxRecDepth 100000 in
set_option maxHeartbeats 4000000 in
theorem sDeedText (k : Int) (s : ByteArray) (w : World) (hs : s.size ≤ 1048576) :
    Calls Try.prog 13 #[.agg #[.int .i64 k, .string s]] w fun e w' => e = .returned (.string (deedB (k, s))) ∧ Below w.heap.size w w' := by
  obtain ⟨W, hW⟩ : ∃ W, w.alloc (.cells #[.int .i64 k, .string s] 24) = W := ⟨_, rfl⟩
  have hD : DeedAt W w.heap.size k s := by rw [← hW]; exact DeedAt.new w k s
  have HB : Hid (Below w.heap.size w W) := by rw [← hW]; exact (Below.refl _ _).alloc (Nat.le_refl _) _
  obtain ⟨hc0, hc1⟩ := DeedAt.cells (show DeedAt (w.alloc (.cells #[.int .i64 k, .string s] 24)) w.heap.size k s by rw [hW]; exact hD)
  have HW := Lib.hid hW
  obtain ⟨p, HP⟩ : ∃ p, Hid (plainU (bL s) = p) := ⟨_, rfl⟩
  have HPL : Hid (∀ w : World, Calls Try.prog 42 #[.string s] w fun e w' => e = .returned (.bool p) ∧ w = w') := fun w => by
    have := sPlain9 s w hs
    rw [HP.out] at this; exact this
  clear hD hW
  by_cases h01 : 0 ≤ k ∧ k ≤ 1
  · cases p
    · have HN : Hid (deedB (k, s) = ⟨#[]⟩) := deed_none (fun h => by rw [HP.out] at h; exact absurd h.2 (by decide)) (by omega)
      rw [HN.out]
      have hk2 : (k == 2) = false := by rw [beq_eq_false_iff_ne]; omega
      go_enter Try.func13, Try.ntmps13
      go_wp2_with (first
        | (go_at_call 41; refine (sIn_yes _ _ _ _ h01.1 h01.2).mono ?_; rintro e w' ⟨rfl, rfl⟩)
        | (go_at_call 42; refine (HPL.out _).mono ?_; rintro e w' ⟨rfl, rfl⟩))
      go_ret
      exact ⟨rfl, by rw [HW.out]; exact HB.out⟩
    · have HPT : plainU (bL s) = true := HP.out
      have hz5 : (9223372036854775807 < 5 + s.size) = False := by simp; omega
      have hz5b : (9223372036854775807 < 4 + s.size) = False := by simp; omega
      have hk : k = 0 ∨ k = 1 := by omega
      rcases hk with rfl | rfl
      · rw [deed_tell HPT]
        clear HPT
        go_enter Try.func13, Try.ntmps13
        go_upto_region 2 with (first
          | (go_at_call 41; refine (sIn_yes _ _ _ _ h01.1 h01.2).mono ?_; rintro e w' ⟨rfl, rfl⟩)
          | (go_at_call 42; refine (HPL.out _).mono ?_; rintro e w' ⟨rfl, rfl⟩))
        go_region
        all_goals
          go_wp2_with fail
          go_ret
          exact ⟨rfl, by rw [HW.out]; exact (HB.out.alloc HB.out.size _).drew⟩
      · rw [deed_ask HPT]
        clear HPT
        go_enter Try.func13, Try.ntmps13
        go_upto_region 2 with (first
          | (go_at_call 41; refine (sIn_yes _ _ _ _ h01.1 h01.2).mono ?_; rintro e w' ⟨rfl, rfl⟩)
          | (go_at_call 42; refine (HPL.out _).mono ?_; rintro e w' ⟨rfl, rfl⟩))
        go_region
        all_goals
          go_wp2_with fail
          go_ret
          exact ⟨rfl, by rw [HW.out]; exact (HB.out.alloc HB.out.size _).drew⟩
  · have h01' : k < 0 ∨ 1 < k := by omega
    by_cases h2 : k = 2 ∧ s = ⟨#[]⟩
    · obtain ⟨rfl, rfl⟩ := h2
      rw [deed_back]
      go_enter Try.func13, Try.ntmps13
      go_wp2_with (first
        | (go_at_call 41; refine (sIn_no _ _ _ _ h01').mono ?_; rintro e w' ⟨rfl, rfl⟩))
      go_ret
      exact ⟨rfl, by rw [HW.out]; exact HB.out⟩
    · have HN : Hid (deedB (k, s) = ⟨#[]⟩) := deed_none (fun h => by omega) (fun h => h2 ⟨h.1, bL_inj h.2⟩)
      rw [HN.out]
      by_cases hk2 : k = 2
      · subst hk2
        have hne : s ≠ ⟨#[]⟩ := fun e => h2 ⟨rfl, e⟩
        have hn1 : (s.toList == (ByteArray.mk #[]).toList) = false := str_ne hne
        have hn2 : s.toList.isEmpty = false := by
          rw [ByteArray.toList_eq, List.isEmpty_eq_false_iff]
          intro e
          exact hne (ByteArray.ext (Array.toList_inj.mp e))
        have hn3 : (s.toList == []) = false := by rw [beq_eq_false_iff_ne]; intro e; rw [e] at hn2; cases hn2
        clear h2 hne
        go_enter Try.func13, Try.ntmps13
        go_wp2_with (first
          | (go_at_call 41; refine (sIn_no _ _ _ _ h01').mono ?_; rintro e w' ⟨rfl, rfl⟩))
        go_ret
        exact ⟨rfl, by rw [HW.out]; exact HB.out⟩
      · have hkb : (k == 2) = false := by rw [beq_eq_false_iff_ne]; exact hk2
        clear h2 hk2
        go_enter Try.func13, Try.ntmps13
        go_wp2_with (first
          | (go_at_call 41; refine (sIn_no _ _ _ _ h01').mono ?_; rintro e w' ⟨rfl, rfl⟩))
        go_ret
        exact ⟨rfl, by rw [HW.out]; exact HB.out⟩
end Go.Proofs.Ytobgnbgmpcilgaa
