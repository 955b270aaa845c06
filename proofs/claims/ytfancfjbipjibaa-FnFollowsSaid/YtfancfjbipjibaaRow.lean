/-
  How a slice of numbers reads, and what keeps that reading.
-/
import Derived.Test.YtfancfjbipjibaaPlain
import Derived.Below
import Derived.Laws.OwnMore
import Derived.Maps.AppendAt
import Derived.WalkSmall
import Derived.Deep.Draws
namespace Go.Proofs.Ytfancfjbipjibaa
open Go.RowKit

/-- The slice at A reads as the numbers xs. -/
def Nums (k : IntKind) (w : World) (A : Option Addr) (xs : List Int) : Prop :=
  0 < xs.length → ∃ b off, A = some ⟨b, off, none⟩ ∧ b < w.heap.size ∧ ∀ i, i < xs.length → w.cell? ⟨b, off + i, none⟩ = some (.int k (xs.getD i 0))

theorem Nums.nil (k : IntKind) (w : World) (A : Option Addr) : Nums k w A [] := fun h => absurd h (by simp)
theorem Nums.keep {k : IntKind} {w w' : World} {A : Option Addr} {xs : List Int} (h : Nums k w A xs) (hs : w.heap.size ≤ w'.heap.size) (hk : ∀ b, b < w.heap.size → (∀ ad, A = some ad → ad.block = b → w'.heap[b]? = w.heap[b]?)) : Nums k w' A xs := by
  intro hn
  obtain ⟨b, off, rfl, hb, hc⟩ := h hn
  exact ⟨b, off, rfl, by omega, fun i hi => (World.cell?_of_block (hk b hb _ rfl rfl)).trans (hc i hi)⟩
theorem Nums.below {k : IntKind} {w w' : World} {A : Option Addr} {xs : List Int} (h : Nums k w A xs) (hb : Below w.heap.size w w') : Nums k w' A xs :=
  h.keep hb.size fun b hlt _ _ _ => hb.block b hlt
theorem Nums.drewN {k : IntKind} {w : World} {A : Option Addr} {xs : List Int} (h : Nums k w A xs) (n : Nat) : Nums k (w.drewN n) A xs := h
theorem Nums.alloc {k : IntKind} {w : World} {A : Option Addr} {xs : List Int} (h : Nums k w A xs) (o : Obj) : Nums k (w.alloc o) A xs :=
  h.below ((Below.refl _ _).alloc (Nat.le_refl _) o)
theorem Nums.grown {k : IntKind} {w w' : World} {A : Option Addr} {xs : List Int} {row : Option Nat} (h : Nums k w A xs) (hg : w.grownBy w' row) (hr : ∀ ad, A = some ad → some ad.block ≠ row) : Nums k w' A xs :=
  h.keep hg.size fun b hlt ad ha hab => hg.block b hlt (by rw [← hab]; exact hr ad ha)
theorem Nums.drop {k : IntKind} {w : World} {A : Option Addr} {xs : List Int} (h : Nums k w A xs) {j c : Nat} (hc : xs.length ≤ c) :
    Nums k w (if c = j then A else A.map (·.add j)) (xs.drop j) := by
  intro hn
  rw [List.length_drop] at hn
  obtain ⟨b, off, rfl, hb, hcell⟩ := h (by omega)
  rw [if_neg (by omega)]
  refine ⟨b, off + j, by simp only [Option.map_some, Addr.add]; split <;> simp_all, hb, fun i hi => ?_⟩
  rw [List.length_drop] at hi
  rw [Nat.add_assoc, hcell (j + i) (by omega)]
  simp [List.getElem?_drop]
theorem Nums.from_ {k : IntKind} {w : World} {b off : Nat} {xs : List Int} (h : Nums k w (some ⟨b, off, none⟩) xs) (j : Nat) : Nums k w (some ⟨b, off + j, none⟩) (xs.drop j) := by
  intro hn
  rw [List.length_drop] at hn
  obtain ⟨b', off', hA, hb, hcell⟩ := h (by omega)
  cases hA
  refine ⟨b, off + j, rfl, hb, fun i hi => ?_⟩
  rw [List.length_drop] at hi
  rw [Nat.add_assoc, hcell (j + i) (by omega)]
  simp [List.getElem?_drop]
theorem Nums.none_ {k : IntKind} {w : World} {A : Option Addr} {xs : List Int} (h : xs.length = 0) : Nums k w A xs := fun hn => by omega
theorem Nums.take {k : IntKind} {w : World} {A : Option Addr} {xs : List Int} (h : Nums k w A xs) (j : Nat) : Nums k w A (xs.take j) := by
  intro hn
  rw [List.length_take] at hn
  obtain ⟨b, off, rfl, hb, hcell⟩ := h (by omega)
  refine ⟨b, off, rfl, hb, fun i hi => ?_⟩
  rw [List.length_take] at hi
  rw [hcell i (by omega)]
  simp [show i < j by omega]

/-- A slice of the call's own: the value v, from block 'base' on, holds the numbers xs. -/
def Owns (w : World) (base : Nat) (v : Value) (xs : List Int) : Prop := w.ownsRow base 3 1 v xs.length (xs.map (Value.int .i64))

theorem Owns.form {w : World} {base : Nat} {v : Value} {xs : List Int} (h : Owns w base v xs) :
    ∃ A c, v = .slice A xs.length c ∧ xs.length ≤ c ∧ c ≤ maxLen ∧ Nums .i64 w A xs ∧ (∀ ad, A = some ad → base ≤ ad.block ∧ ad.block < w.heap.size) := by
  have hcells := fun g => World.ownsRow.cells h (g := g)
  rcases h.2 with ⟨rfl, hl⟩ | ⟨g, cap, cur, rfl, hb, hg, hn, hm, _, _⟩
  · exact ⟨none, 0, by rw [hl], by omega, by simp [maxLen], fun hp => absurd hp (by omega), fun ad h => by cases h⟩
  · have hlt : g < w.heap.size := (Array.getElem?_eq_some_iff.1 hg).1
    refine ⟨some ⟨g, 0, none⟩, cap, rfl, hn, hm, fun hp => ⟨g, 0, rfl, hlt, fun i hi => ?_⟩, fun ad h => by cases h; exact ⟨hb, hlt⟩⟩
    have hi2 : (xs.map (Value.int .i64))[i]? = some (.int .i64 (xs.getD i 0)) := by simp [hi]
    have := hcells g rfl i _ hi2
    have e : (⟨g, 0, none⟩ : Addr).add i = ⟨g, 0 + i, none⟩ := by unfold Addr.add; split <;> simp_all
    rw [e] at this
    exact this
theorem Owns.kept {w w' : World} {base : Nat} {v : Value} {xs : List Int} (h : Owns w base v xs) {row : Option Nat} (hg : w.grownBy w' row) (hne : v.ownBlock = none ∨ v.ownBlock ≠ row) : Owns w' base v xs :=
  World.ownsRow.kept h hg hne
theorem Owns.below {w w' : World} {base : Nat} {v : Value} {xs : List Int} (h : Owns w base v xs) (hb : Below w.heap.size w w') : Owns w' base v xs :=
  World.ownsRow.kept (row := none) h ⟨hb.os, hb.tape, hb.output, hb.size, fun k hk _ => hb.block k hk⟩ (by cases v.ownBlock <;> simp)
theorem Owns.base {w : World} {base base' : Nat} {v : Value} {xs : List Int} (h : Owns w base v xs) (hb : base' ≤ base) : Owns w base' v xs := by
  refine ⟨h.1, ?_⟩
  rcases h.2 with h | ⟨g, cap, cur, h1, h2, h3⟩
  · exact .inl h
  · exact .inr ⟨g, cap, cur, h1, by omega, h3⟩
theorem Owns.nil (w : World) (base : Nat) : Owns w base (.slice none 0 0) [] := World.ownsRow_nil w base _ 1

theorem Owns.lit (w : World) (base : Nat) (xs : List Int) (hb : base ≤ w.heap.size) (hm : xs.length ≤ maxLen) :
    Owns (w.alloc (.cells (xs.map (Value.int .i64)).toArray 3)) base (.slice (some ⟨w.heap.size, 0, none⟩) xs.length xs.length) xs := by
  have h := World.ownsRow_lit (base := base) (e := 3) (size := 1) w (xs.map (Value.int .i64)).toArray xs.length hb hm (by simp)
  simpa [Owns] using h

theorem nums_of_row {k : IntKind} {w : World} {a : Option Addr} {len cap : Nat} {zs : List Int}
    (h : (a = none ∧ len = 0 ∧ cap = 0 ∧ zs = []) ∨ ∃ x, a = some x ∧ len ≤ cap ∧ cap ≤ maxLen ∧ zs.length = cap ∧ (∀ i, i < zs.length → w.cell? (x.add i) = some (.int k (zs.getD i 0))) ∧ ∀ n ∈ zs, (Lit.int k n).wf = true) :
    ∃ xs : List Int, len = xs.length ∧ Nums k w a xs ∧ len ≤ cap ∧ cap ≤ maxLen ∧ ∀ x ∈ xs, (Lit.int k x).wf = true := by
  rcases h with ⟨rfl, rfl, rfl, rfl⟩ | ⟨x, rfl, hl, hm, hz, hc, hw⟩
  · exact ⟨[], rfl, Nums.nil _ _ _, by omega, by simp [maxLen], by simp⟩
  · refine ⟨zs.take len, by rw [List.length_take]; omega, fun hp => ?_, hl, hm, fun y hy => hw y (List.mem_of_mem_take hy)⟩
    rw [List.length_take] at hp
    have h0 := hc 0 (by omega)
    obtain ⟨b, off, spot⟩ := x
    have hs : spot = none := by simpa [Addr.add] using World.cell?_spot h0
    subst hs
    refine ⟨b, off, rfl, World.block_lt_of_cell? w _ h0, fun i hi => ?_⟩
    rw [List.length_take] at hi
    have := hc i (by omega)
    have e : (⟨b, off, none⟩ : Addr).add i = ⟨b, off + i, none⟩ := by unfold Addr.add; split <;> simp_all
    rw [e] at this
    rw [this]
    simp [show i < len by omega]

/-- Two slices, the one laid before the other one's blocks: what is written into the second leaves the first. -/
theorem Nums.other {k : IntKind} {w w' : World} {A A2 : Option Addr} {n2 c2 : Nat} {xs : List Int} {B : Nat} (h : Nums k w A xs) (hg : w.grownBy w' (Value.slice A2 n2 c2).ownBlock)
    (h1 : ∀ ad, A = some ad → ad.block < B) (h2 : ∀ ad, A2 = some ad → B ≤ ad.block) : Nums k w' A xs := by
  refine h.grown hg fun ad ha e => ?_
  have hb := h1 ad ha
  cases A2 with
  | none => cases e
  | some ad2 =>
    have : ad.block = ad2.block := by simpa [Value.ownBlock] using e
    have := h2 ad2 rfl
    omega
theorem bel_mark {w w1 w2 : World} {A2 : Option Addr} {n2 c2 : Nat} (h : Below w.heap.size w w1) (hg : w1.grownBy w2 (Value.slice A2 n2 c2).ownBlock) (h2 : ∀ ad, A2 = some ad → w.heap.size ≤ ad.block) : Below w.heap.size w w2 := by
  refine h.grown hg h.size fun k e => ?_
  cases A2 with
  | none => cases e
  | some ad2 =>
    have : ad2.block = k := by simpa [Value.ownBlock] using e
    have := h2 ad2 rfl
    omega
theorem bel_trans {w w1 w2 : World} (h : Below w.heap.size w w1) (h2 : Below w1.heap.size w1 w2) : Below w.heap.size w w2 := h.trans (h2.mono h.size)
theorem bel_drewN {B : Nat} {w w1 : World} (h : Below B w w1) (n : Nat) : Below B w (w1.drewN n) := below_drewN h n
theorem below_grown {B : Nat} {a w w' : World} {g : Nat} (h : Below B a w) (hg : w.grownBy w' (some g)) (hB : B ≤ w.heap.size) (hr : B ≤ g) : Below B a w' :=
  h.grown hg hB (fun k e => by cases e; exact hr)

/-- One element: its address, its cell, and (hidden from the walk) that it is the element. -/
theorem Nums.elem {k : IntKind} {w : World} {A : Option Addr} {xs : List Int} (h : Nums k w A xs) {i : Nat} (hi : i < xs.length) :
    ∃ b off x, A = some ⟨b, off, none⟩ ∧ w.cell? ⟨b, off + i, none⟩ = some (.int k x) ∧ Hid (xs[i]? = some x) ∧ Hid (b < w.heap.size) := by
  obtain ⟨b, off, hA, hb, hc⟩ := h (by omega)
  exact ⟨b, off, _, hA, hc i hi, by show _ = _; simp [hi], hb⟩
theorem elem_mem {xs : List Int} {i : Nat} {x : Int} (h : Hid (xs[i]? = some x)) : x ∈ xs := List.mem_of_getElem? h.out
theorem elem_lt {xs : List Int} {i : Nat} {x : Int} (h : Hid (xs[i]? = some x)) : i < xs.length := (List.getElem?_eq_some_iff.1 h.out).1
theorem take_snoc {xs : List Int} {i : Nat} {x : Int} (h : Hid (xs[i]? = some x)) : xs.take (i + 1) = xs.take i ++ [x] := by
  rw [List.take_succ_eq_append_getElem (elem_lt h), (List.getElem?_eq_some_iff.1 h.out).2]
theorem drop_cons {xs : List Int} {i : Nat} {x : Int} (h : Hid (xs[i]? = some x)) : xs.drop i = x :: xs.drop (i + 1) := by
  rw [List.drop_eq_getElem_cons (elem_lt h), (List.getElem?_eq_some_iff.1 h.out).2]

end Go.Proofs.Ytfancfjbipjibaa
