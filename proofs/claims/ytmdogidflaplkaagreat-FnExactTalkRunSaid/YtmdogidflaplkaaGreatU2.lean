/-
  What the proofs of this seat's statements share (Row, Copies, Lists).
-/
import Derived.Below
import Derived.Laws.OwnMore
import Derived.Maps.AppendAt
import Derived.WalkSmall
import Derived.Deep.Draws
import Derived.Deep.OwnRows
import Derived.OwnWalk
import Derived.Test.YtmdogidflaplkaaGreatU1

namespace Go.Proofs.YtmdogidflaplkaaGreat
open Go.RowKit

/-- The slice at A reads as the numbers xs. -/
def Nums (k : IntKind) (w : World) (A : Option Addr) (xs : List Int) : Prop :=
  0 < xs.length → ∃ b off, A = some ⟨b, off, none⟩ ∧ b < w.heap.size ∧ ∀ i, i < xs.length → w.cell? ⟨b, off + i, none⟩ = some (.int k (xs.getD i 0))

theorem Nums.nil (k : IntKind) (w : World) (A : Option Addr) : Nums k w A [] := fun h => absurd h (by simp)
theorem Nums.keep {k : IntKind} {w w' : World} {A : Option Addr} {xs : List Int} (h : Nums k w A xs) (hs : w.heap.size ≤ w'.heap.size) (hk : ∀ b, b < w.heap.size → (∀ ad, A = some ad → ad.block = b → w'.heap[b]? = w.heap[b]?)) : Nums k w' A xs := by
  intro hn
  obtain ⟨b, off, rfl, hb, hc⟩ := h hn
  exact ⟨b, off, rfl, by omega, fun i hi => (World.cell?_of_block (hk b hb _ rfl rfl)).trans (hc i hi)⟩
theorem Nums.below {k : IntKind} {w w' : World} {A : Option Addr} {xs : List Int} (h : Nums k w A xs) (hb : Below w.heap.size w w') : Nums k w' A xs :=
  h.keep hb.size fun b hlt _ _ _ => hb.block b hlt
theorem Nums.drewN {k : IntKind} {w : World} {A : Option Addr} {xs : List Int} (h : Nums k w A xs) (n : Nat) : Nums k (w.drewN n) A xs := h
theorem Nums.alloc {k : IntKind} {w : World} {A : Option Addr} {xs : List Int} (h : Nums k w A xs) (o : Obj) : Nums k (w.alloc o) A xs :=
  h.below ((Below.refl _ _).alloc (Nat.le_refl _) o)
theorem Nums.grown {k : IntKind} {w w' : World} {A : Option Addr} {xs : List Int} {row : Option Nat} (h : Nums k w A xs) (hg : w.grownBy w' row) (hr : ∀ ad, A = some ad → some ad.block ≠ row) : Nums k w' A xs :=
  h.keep hg.size fun b hlt ad ha hab => hg.block b hlt (by rw [← hab]; exact hr ad ha)
theorem Nums.drop {k : IntKind} {w : World} {A : Option Addr} {xs : List Int} (h : Nums k w A xs) {j c : Nat} (hc : xs.length ≤ c) :
    Nums k w (if c = j then A else A.map (·.add j)) (xs.drop j) := by
  intro hn
  rw [List.length_drop] at hn
  obtain ⟨b, off, rfl, hb, hcell⟩ := h (by omega)
  rw [if_neg (by omega)]
  refine ⟨b, off + j, by simp only [Option.map_some, Addr.add]; split <;> simp_all, hb, fun i hi => ?_⟩
  rw [List.length_drop] at hi
  rw [Nat.add_assoc, hcell (j + i) (by omega)]
  simp [List.getElem?_drop]
theorem Nums.from_ {k : IntKind} {w : World} {b off : Nat} {xs : List Int} (h : Nums k w (some ⟨b, off, none⟩) xs) (j : Nat) : Nums k w (some ⟨b, off + j, none⟩) (xs.drop j) := by
  intro hn
  rw [List.length_drop] at hn
  obtain ⟨b', off', hA, hb, hcell⟩ := h (by omega)
  cases hA
  refine ⟨b, off + j, rfl, hb, fun i hi => ?_⟩
  rw [List.length_drop] at hi
  rw [Nat.add_assoc, hcell (j + i) (by omega)]
  simp [List.getElem?_drop]
theorem Nums.none_ {k : IntKind} {w : World} {A : Option Addr} {xs : List Int} (h : xs.length = 0) : Nums k w A xs := fun hn => by omega
theorem Nums.take {k : IntKind} {w : World} {A : Option Addr} {xs : List Int} (h : Nums k w A xs) (j : Nat) : Nums k w A (xs.take j) := by
  intro hn
  rw [List.length_take] at hn
  obtain ⟨b, off, rfl, hb, hcell⟩ := h (by omega)
  refine ⟨b, off, rfl, hb, fun i hi => ?_⟩
  rw [List.length_take] at hi
  rw [hcell i (by omega)]
  simp [show i < j by omega]

/-- A slice of the call's own: the value v, from block 'base' on, holds the numbers xs. -/
def Owns (w : World) (base : Nat) (v : Value) (xs : List Int) : Prop := w.ownsRow base 3 1 v xs.length (xs.map (Value.int .i64))

theorem Owns.form {w : World} {base : Nat} {v : Value} {xs : List Int} (h : Owns w base v xs) :
    ∃ A c, v = .slice A xs.length c ∧ xs.length ≤ c ∧ c ≤ maxLen ∧ Nums .i64 w A xs ∧ (∀ ad, A = some ad → base ≤ ad.block ∧ ad.block < w.heap.size) := by
  have hcells := fun g => World.ownsRow.cells h (g := g)
  rcases h.2 with ⟨rfl, hl⟩ | ⟨g, cap, cur, rfl, hb, hg, hn, hm, _, _⟩
  · exact ⟨none, 0, by rw [hl], by omega, by simp [maxLen], fun hp => absurd hp (by omega), fun ad h => by cases h⟩
  · have hlt : g < w.heap.size := (Array.getElem?_eq_some_iff.1 hg).1
    refine ⟨some ⟨g, 0, none⟩, cap, rfl, hn, hm, fun hp => ⟨g, 0, rfl, hlt, fun i hi => ?_⟩, fun ad h => by cases h; exact ⟨hb, hlt⟩⟩
    have hi2 : (xs.map (Value.int .i64))[i]? = some (.int .i64 (xs.getD i 0)) := by simp [hi]
    have := hcells g rfl i _ hi2
    have e : (⟨g, 0, none⟩ : Addr).add i = ⟨g, 0 + i, none⟩ := by unfold Addr.add; split <;> simp_all
    rw [e] at this
    exact this
theorem Owns.kept {w w' : World} {base : Nat} {v : Value} {xs : List Int} (h : Owns w base v xs) {row : Option Nat} (hg : w.grownBy w' row) (hne : v.ownBlock = none ∨ v.ownBlock ≠ row) : Owns w' base v xs :=
  World.ownsRow.kept h hg hne
theorem Owns.below {w w' : World} {base : Nat} {v : Value} {xs : List Int} (h : Owns w base v xs) (hb : Below w.heap.size w w') : Owns w' base v xs :=
  World.ownsRow.kept (row := none) h ⟨hb.os, hb.tape, hb.output, hb.size, fun k hk _ => hb.block k hk⟩ (by cases v.ownBlock <;> simp)
theorem Owns.base {w : World} {base base' : Nat} {v : Value} {xs : List Int} (h : Owns w base v xs) (hb : base' ≤ base) : Owns w base' v xs := by
  refine ⟨h.1, ?_⟩
  rcases h.2 with h | ⟨g, cap, cur, h1, h2, h3⟩
  · exact .inl h
  · exact .inr ⟨g, cap, cur, h1, by omega, h3⟩
theorem Owns.nil (w : World) (base : Nat) : Owns w base (.slice none 0 0) [] := World.ownsRow_nil w base _ 1

theorem Owns.lit (w : World) (base : Nat) (xs : List Int) (hb : base ≤ w.heap.size) (hm : xs.length ≤ maxLen) :
    Owns (w.alloc (.cells (xs.map (Value.int .i64)).toArray 3)) base (.slice (some ⟨w.heap.size, 0, none⟩) xs.length xs.length) xs := by
  have h := World.ownsRow_lit (base := base) (e := 3) (size := 1) w (xs.map (Value.int .i64)).toArray xs.length hb hm (by simp)
  simpa [Owns] using h

theorem nums_of_row {k : IntKind} {w : World} {a : Option Addr} {len cap : Nat} {zs : List Int}
    (h : (a = none ∧ len = 0 ∧ cap = 0 ∧ zs = []) ∨ ∃ x, a = some x ∧ len ≤ cap ∧ cap ≤ maxLen ∧ zs.length = cap ∧ (∀ i, i < zs.length → w.cell? (x.add i) = some (.int k (zs.getD i 0))) ∧ ∀ n ∈ zs, (Lit.int k n).wf = true) :
    ∃ xs : List Int, len = xs.length ∧ Nums k w a xs ∧ len ≤ cap ∧ cap ≤ maxLen ∧ ∀ x ∈ xs, (Lit.int k x).wf = true := by
  rcases h with ⟨rfl, rfl, rfl, rfl⟩ | ⟨x, rfl, hl, hm, hz, hc, hw⟩
  · exact ⟨[], rfl, Nums.nil _ _ _, by omega, by simp [maxLen], by simp⟩
  · refine ⟨zs.take len, by rw [List.length_take]; omega, fun hp => ?_, hl, hm, fun y hy => hw y (List.mem_of_mem_take hy)⟩
    rw [List.length_take] at hp
    have h0 := hc 0 (by omega)
    obtain ⟨b, off, spot⟩ := x
    have hs : spot = none := by simpa [Addr.add] using World.cell?_spot h0
    subst hs
    refine ⟨b, off, rfl, World.block_lt_of_cell? w _ h0, fun i hi => ?_⟩
    rw [List.length_take] at hi
    have := hc i (by omega)
    have e : (⟨b, off, none⟩ : Addr).add i = ⟨b, off + i, none⟩ := by unfold Addr.add; split <;> simp_all
    rw [e] at this
    rw [this]
    simp [show i < len by omega]

/-- Two slices, the one laid before the other one's blocks: what is written into the second leaves the first. -/
theorem Nums.other {k : IntKind} {w w' : World} {A A2 : Option Addr} {n2 c2 : Nat} {xs : List Int} {B : Nat} (h : Nums k w A xs) (hg : w.grownBy w' (Value.slice A2 n2 c2).ownBlock)
    (h1 : ∀ ad, A = some ad → ad.block < B) (h2 : ∀ ad, A2 = some ad → B ≤ ad.block) : Nums k w' A xs := by
  refine h.grown hg fun ad ha e => ?_
  have hb := h1 ad ha
  cases A2 with
  | none => cases e
  | some ad2 =>
    have : ad.block = ad2.block := by simpa [Value.ownBlock] using e
    have := h2 ad2 rfl
    omega
theorem bel_mark {w w1 w2 : World} {A2 : Option Addr} {n2 c2 : Nat} (h : Below w.heap.size w w1) (hg : w1.grownBy w2 (Value.slice A2 n2 c2).ownBlock) (h2 : ∀ ad, A2 = some ad → w.heap.size ≤ ad.block) : Below w.heap.size w w2 := by
  refine h.grown hg h.size fun k e => ?_
  cases A2 with
  | none => cases e
  | some ad2 =>
    have : ad2.block = k := by simpa [Value.ownBlock] using e
    have := h2 ad2 rfl
    omega
theorem bel_trans {w w1 w2 : World} (h : Below w.heap.size w w1) (h2 : Below w1.heap.size w1 w2) : Below w.heap.size w w2 := h.trans (h2.mono h.size)
theorem bel_drewN {B : Nat} {w w1 : World} (h : Below B w w1) (n : Nat) : Below B w (w1.drewN n) := below_drewN h n
theorem below_grown {B : Nat} {a w w' : World} {g : Nat} (h : Below B a w) (hg : w.grownBy w' (some g)) (hB : B ≤ w.heap.size) (hr : B ≤ g) : Below B a w' :=
  h.grown hg hB (fun k e => by cases e; exact hr)

/-- One element: its address, its cell, and (hidden from the walk) that it is the element. -/
theorem Nums.elem {k : IntKind} {w : World} {A : Option Addr} {xs : List Int} (h : Nums k w A xs) {i : Nat} (hi : i < xs.length) :
    ∃ b off x, A = some ⟨b, off, none⟩ ∧ w.cell? ⟨b, off + i, none⟩ = some (.int k x) ∧ Hid (xs[i]? = some x) ∧ Hid (b < w.heap.size) := by
  obtain ⟨b, off, hA, hb, hc⟩ := h (by omega)
  exact ⟨b, off, _, hA, hc i hi, by show _ = _; simp [hi], hb⟩
theorem elem_mem {xs : List Int} {i : Nat} {x : Int} (h : Hid (xs[i]? = some x)) : x ∈ xs := List.mem_of_getElem? h.out
theorem elem_lt {xs : List Int} {i : Nat} {x : Int} (h : Hid (xs[i]? = some x)) : i < xs.length := (List.getElem?_eq_some_iff.1 h.out).1
theorem take_snoc {xs : List Int} {i : Nat} {x : Int} (h : Hid (xs[i]? = some x)) : xs.take (i + 1) = xs.take i ++ [x] := by
  rw [List.take_succ_eq_append_getElem (elem_lt h), (List.getElem?_eq_some_iff.1 h.out).2]
theorem drop_cons {xs : List Int} {i : Nat} {x : Int} (h : Hid (xs[i]? = some x)) : xs.drop i = x :: xs.drop (i + 1) := by
  rw [List.drop_eq_getElem_cons (elem_lt h), (List.getElem?_eq_some_iff.1 h.out).2]

end Go.Proofs.YtmdogidflaplkaaGreat

namespace Go.Proofs.YtmdogidflaplkaaGreat
open Go.RowKit

theorem int_info : (Tryz.prog.info? 3).map (fun i => (i.zero, i.size, i.bytes)) = some (some (.int .i64 0), 1, 8) := by kernel_rfl

theorem grown_set {w0 w : World} {g : Nat} (h : w0.grownBy w (some g)) (i : Nat) (u : Value) : w0.grownBy (w.setCell ⟨g, i, none⟩ u) (some g) :=
  ⟨h.os, h.tape, h.output, by simpa [World.setCell] using h.size, fun k hk hne => (Below.heap_setCell w ⟨g, i, none⟩ u k (fun e => hne (by rw [e]))).trans (h.block k hk hne)⟩

end Go.Proofs.YtmdogidflaplkaaGreat

namespace Go.Proofs.YtmdogidflaplkaaGreat
open Go.RowKit

def anyWithin (s : Int) (xs : List Int) : Bool := xs.any (withinB s)
theorem anyWithin_snoc {s x : Int} {xs : List Int} {i : Nat} (hx : Hid (xs[i]? = some x)) : anyWithin s (xs.take (i + 1)) = (anyWithin s (xs.take i) || withinB s x) := by
  rw [take_snoc hx]; simp [anyWithin]
theorem anyWithin_hit {s x : Int} {xs : List Int} {i : Nat} (hx : Hid (xs[i]? = some x)) (h : withinB s x = true) : anyWithin s xs = true := by
  unfold anyWithin; rw [List.any_eq_true]; exact ⟨_, elem_mem hx, h⟩

set_option maxHeartbeats 400000 in
theorem iWithinAny (s : Int) (A : Option Addr) (n c : Nat) (xs : List Int) (w : World) (hn : n = xs.length) (hs : 0 ≤ s) (hs2 : s < 256) (hr : ∀ x ∈ xs, 0 ≤ x ∧ x < 256) (hl : n ≤ 1048576) (hA : Nums .i64 w A xs) :
    Calls Tryz.prog 114 #[.int .i64 s, .slice A n c] w fun e w' => e = .returned (.bool (anyWithin s xs)) ∧ w = w' := by
  subst hn
  have HR := Lib.hid hr
  have HA := Lib.hid hA
  clear hr hA
  go_enter Tryz.func114, Tryz.ntmps114
  go_wp2
  go_loop [9] (fun i => ∃ k : Nat, k ≤ xs.length ∧ i = .int .i64 k ∧ Hid (anyWithin s (xs.take k) = false)) (fun i => xs.length - (Go.RowKit.intOf i).toNat)
  case atStart => exact ⟨0, Nat.zero_le _, rfl, rfl⟩
  case round =>
    obtain ⟨k, hk, rfl, hsofar⟩ := hrel
    by_cases hlt : k < xs.length
    · obtain ⟨b, off, x, rfl, hcell, hx, _⟩ := HA.out.elem hlt
      obtain ⟨he1, he2⟩ := HR.out x (elem_mem hx)
      go_wp2_with (go_at_call 97; refine (iWithin _ _ hs (by omega) he1 (by omega) _).mono ?_; rintro e w' ⟨rfl, rfl⟩)
      · rename_i hw
        go_ret
        exact ⟨ret_bool (by rw [anyWithin_hit hx hw]), rfl⟩
      · rename_i hw
        go_round
        case rel => exact ⟨k + 1, by omega, by go_num, by unfold Hid; rw [anyWithin_snoc hx, hsofar.out]; simpa using hw⟩
        case measure => simp [Go.RowKit.intOf]; omega
    · obtain rfl : k = xs.length := by omega
      go_wp2
      go_ret
      exact ⟨ret_bool (by rw [← hsofar.out, List.take_length]), rfl⟩

def partsOkB (t : Int) (xs : List Int) : Bool := decide (1 ≤ xs.length ∧ xs.length ≤ 70) && xs.all (setOkB t)
theorem partsOk_len {t : Int} {xs : List Int} (h : xs.length < 1 ∨ 70 < xs.length) : partsOkB t xs = false := by
  unfold partsOkB; rw [Bool.and_eq_false_iff]; left; simp; omega
theorem all_miss {t x : Int} {xs : List Int} {i : Nat} (hx : Hid (xs[i]? = some x)) (h : setOkB t x = false) : xs.all (setOkB t) = false := by
  rw [List.all_eq_false]; exact ⟨x, elem_mem hx, by simp [h]⟩
theorem partsOk_miss {t x : Int} {xs : List Int} {i : Nat} (hx : Hid (xs[i]? = some x)) (h : setOkB t x = false) : partsOkB t xs = false := by
  unfold partsOkB; rw [all_miss hx h]; simp
theorem all_snoc {t x : Int} {xs : List Int} {i : Nat} (hx : Hid (xs[i]? = some x)) : (xs.take (i + 1)).all (setOkB t) = ((xs.take i).all (setOkB t) && setOkB t x) := by
  rw [take_snoc hx]; simp
theorem partsOk_all {t : Int} {xs : List Int} (h1 : ¬ (xs.length < 1 ∨ 70 < xs.length)) (h : xs.all (setOkB t) = true) : partsOkB t xs = true := by
  unfold partsOkB; rw [h]; simp; omega
theorem partsOk_range {t : Int} {xs : List Int} (h : partsOkB t xs = true) : ∀ x ∈ xs, 0 ≤ x ∧ x < 256 := by
  intro x hx
  unfold partsOkB at h
  rw [Bool.and_eq_true, List.all_eq_true] at h
  have := setOkB_lt (h.2 x hx)
  omega

set_option maxHeartbeats 400000 in
theorem iPartsOk (t : Int) (A : Option Addr) (n c : Nat) (xs : List Int) (w : World) (hn : n = xs.length) (hl : n ≤ 1048576) (hA : Nums .i64 w A xs) :
    Calls Tryz.prog 128 #[.int .i64 t, .slice A n c] w fun e w' => e = .returned (.bool (partsOkB t xs)) ∧ w = w' := by
  subst hn
  have HA := Lib.hid hA
  clear hA
  by_cases h0 : xs.length < 1
  · have hd : decide ((xs.length : Int) < 1) = true := by simp; omega
    go_enter Tryz.func128, Tryz.ntmps128
    go_wp2
    go_ret
    exact ⟨ret_bool (by rw [partsOk_len (.inl h0)]), rfl⟩
  · by_cases h1 : 70 < xs.length
    · have hd : decide ((xs.length : Int) < 1) = false := by simp; omega
      have hd2 : decide ((70 : Int) < (xs.length : Int)) = true := by simp; omega
      go_enter Tryz.func128, Tryz.ntmps128
      go_wp2
      go_ret
      exact ⟨ret_bool (by rw [partsOk_len (.inr h1)]), rfl⟩
    · have hd : decide ((xs.length : Int) < 1) = false := by simp; omega
      have hd2 : decide ((70 : Int) < (xs.length : Int)) = false := by simp; omega
      go_enter Tryz.func128, Tryz.ntmps128
      go_wp2
      go_loop [17] (fun i => ∃ k : Nat, k ≤ xs.length ∧ i = .int .i64 k ∧ Hid ((xs.take k).all (setOkB t) = true)) (fun i => xs.length - (Go.RowKit.intOf i).toNat)
      case atStart => exact ⟨0, Nat.zero_le _, rfl, rfl⟩
      case round =>
        obtain ⟨k, hk, rfl, hsofar⟩ := hrel
        by_cases hlt : k < xs.length
        · obtain ⟨b, off, x, rfl, hcell, hx, _⟩ := HA.out.elem hlt
          go_wp2_with (go_at_call 52; refine (iSetOk _ _ _).mono ?_; rintro e w' ⟨rfl, rfl⟩)
          · rename_i hw
            go_ret
            exact ⟨ret_bool (by rw [partsOk_miss hx (by simpa using hw)]), rfl⟩
          · rename_i hw
            go_round
            case rel => exact ⟨k + 1, by omega, by go_num, by unfold Hid; rw [all_snoc hx, hsofar.out]; simpa using hw⟩
            case measure => simp [Go.RowKit.intOf]; omega
        · obtain rfl : k = xs.length := by omega
          go_wp2
          go_ret
          exact ⟨ret_bool (by rw [partsOk_all (by omega) (by rw [← hsofar.out, List.take_length])]), rfl⟩

def sortedB (xs : List Int) : Bool := decide (xs.Pairwise (· ≤ ·))
theorem sorted_cons {x y : Int} {xs : List Int} {i : Nat} (hx : Hid (xs[i + 1]? = some x)) (hy : Hid (xs[i]? = some y)) (h : sortedB (xs.drop (i + 1)) = true) (hle : y ≤ x) : sortedB (xs.drop i) = true := by
  unfold sortedB at *
  have h := of_decide_eq_true h
  apply decide_eq_true
  rw [drop_cons hy, List.pairwise_cons]
  refine ⟨fun z hz => ?_, h⟩
  rw [drop_cons hx] at h hz
  rw [List.pairwise_cons] at h
  rcases List.mem_cons.1 hz with rfl | hz
  · exact hle
  · have := h.1 z hz; omega
theorem sorted_miss {x y : Int} {xs : List Int} {i : Nat} (hx : Hid (xs[i + 1]? = some x)) (hy : Hid (xs[i]? = some y)) (hlt : x < y) : sortedB xs = false := by
  unfold sortedB
  apply decide_eq_false
  intro h
  obtain ⟨h1, e1⟩ := List.getElem?_eq_some_iff.1 hx.out
  obtain ⟨h2, e2⟩ := List.getElem?_eq_some_iff.1 hy.out
  have := List.pairwise_iff_getElem.1 h i (i + 1) h2 h1 (by omega)
  omega
theorem sorted_end {xs : List Int} {k : Nat} (h : xs.length ≤ k + 1) : sortedB (xs.drop k) = true := by
  unfold sortedB
  apply decide_eq_true
  have hl : (xs.drop k).length ≤ 1 := by rw [List.length_drop]; omega
  match xs.drop k, hl with
  | [], _ => exact List.Pairwise.nil
  | [x], _ => simp

theorem less_any (a b : Int) (w : World) : Calls Tryz.prog 135 #[.int .i64 a, .int .i64 b] w fun e w' => e = .returned (.bool (decide (a < b))) ∧ w = w' := by
  go_enter Tryz.func135, Tryz.ntmps135
  go_wp2
  go_ret
  exact ⟨rfl, rfl⟩
theorem quiet_add {P : Program} {f : FuncId} {args : Array Value} {w : World} {a n : Nat} {v : Value}
    (h : Calls P f args (w.drewN (a + n)) fun e w' => e = .returned v ∧ w.drewN (a + n) = w') : Calls P f args (w.drewN (a + n)) fun e w'' => e = .returned v ∧ ∃ m, w'' = w.drewN (a + m) :=
  h.mono fun _ _ ⟨he, hm⟩ => ⟨he, n, hm.symm⟩

set_option maxHeartbeats 400000 in
theorem isSorted_any (A : Option Addr) (nn c : Nat) (xs : List Int) (w : World) (hn : nn = xs.length) (hl : nn ≤ 1048576) (hA : Nums .i64 w A xs) :
    Calls Tryz.prog 129 #[.slice A nn c] w fun e w' => e = .returned (.bool (sortedB xs)) ∧ ∃ n, w' = w.drewN n := by
  subst hn
  have HA := Lib.hid hA
  clear hA
  go_enter Tryz.func129, Tryz.ntmps129
  go_wp2
  go_loopw [3] (fun i wr => ∃ k : Int, -1 ≤ k ∧ k < xs.length ∧ i = .int .i64 k ∧ Hid (sortedB (xs.drop k.toNat) = true) ∧ ∃ n, wr = w.drewN n) (fun i _ => (Go.RowKit.intOf i).toNat)
  case atStart => exact ⟨_, by omega, by omega, rfl, sorted_end (by omega), 0, rfl⟩
  case round =>
    obtain ⟨k, hk0, hk, rfl, hsofar, n, rfl⟩ := hrel
    by_cases hlt : 0 < k
    · obtain ⟨k, rfl⟩ : ∃ q : Nat, k = q := ⟨k.toNat, by omega⟩
      obtain ⟨b, off, x, rfl, hcell, hx, _⟩ := HA.out.elem (i := k) (by omega)
      obtain ⟨b', off', y, hAA, hcell2, hy, _⟩ := HA.out.elem (i := k - 1) (by omega)
      cases hAA
      have e1 : IntKind.i64.wrap ((k : Int) - 1) = (k : Int) - 1 := IntWalk.i64_in _ (by omega)
      have e2 : (0 : Int) ≤ (k : Int) - 1 := by omega
      have e3 : ((k : Int) - 1).toNat = k - 1 := by omega
      have e4 : (k : Int) - 1 < (xs.length : Int) := by omega
      have e5 : (1 : Int) ≤ (k : Int) := by omega
      go_wp2
      go_quiet ((go_at_call 135; exact quiet_add (less_any _ _ _)))
      go_wp2
      · rename_i hw
        go_ret
        exact ⟨ret_bool (by rw [sorted_miss (i := k - 1) (by rw [show k - 1 + 1 = k by omega]; exact hx) hy hw]), _, World.drewN_drewN _ _ _⟩
      · rename_i hw
        go_roundw
        case rel => exact ⟨(k : Int) - 1, by omega, by omega, rfl, by rw [e3]; exact sorted_cons (i := k - 1) (by rw [show k - 1 + 1 = k by omega]; exact hx) hy (by rw [show k - 1 + 1 = k by omega]; exact hsofar.out) (by omega), _, rfl⟩
        case measure => simp [Go.RowKit.intOf]; omega
    · have hz : k.toNat = 0 := by omega
      have HS : Hid (sortedB xs = true) := by unfold Hid; have := hsofar.out; rwa [hz, List.drop_zero] at this
      clear hsofar hz
      go_wp2
      go_ret
      exact ⟨ret_bool HS.out.symm, _, rfl⟩

def apartB (a b : Int) : Bool := decide (a < b) && !withinB a b && !withinB b a
def pairB (xs : List Int) : Bool := decide (xs.Pairwise (fun a b => apartB a b = true))
def issueOkB (t : Int) (xs : List Int) : Bool := partsOkB t xs && pairB xs
theorem within_refl (a : Int) (h : 0 ≤ a) : withinB a a = true := by unfold withinB andI; simp; omega
theorem within_le {a b : Int} (h : withinB a b = true) (hb : 0 ≤ b) : a ≤ b := by
  have := of_decide_eq_true h; have := andI_le' a b hb; omega
theorem issue_notParts {t : Int} {xs : List Int} (h : partsOkB t xs = false) : issueOkB t xs = false := by unfold issueOkB; rw [h]; rfl
theorem pair_sorted {xs : List Int} (h : pairB xs = true) : sortedB xs = true := by
  unfold pairB at h; unfold sortedB
  apply decide_eq_true
  refine (of_decide_eq_true h).imp ?_
  intro a b hab
  simp [apartB] at hab
  omega
theorem issue_notSorted {t : Int} {xs : List Int} (h : sortedB xs = false) : issueOkB t xs = false := by
  unfold issueOkB
  rw [Bool.and_eq_false_iff]; right
  cases hp : pairB xs
  · rfl
  · rw [pair_sorted hp] at h; cases h
theorem pair_later {xs : List Int} (h : pairB xs = true) {i : Nat} {x : Int} (hx : Hid (xs[i]? = some x)) : anyWithin x (xs.drop (i + 1)) = false := by
  unfold anyWithin
  rw [List.any_eq_false]
  intro y hy
  have h := of_decide_eq_true h
  have hs : (xs.drop i).Pairwise (fun a b => apartB a b = true) := h.sublist (List.drop_sublist i xs)
  rw [drop_cons hx, List.pairwise_cons] at hs
  have := hs.1 y hy
  simp [apartB] at this
  simp [this.1.2]
theorem issue_hit {t : Int} {xs : List Int} {i : Nat} {x : Int} (hx : Hid (xs[i]? = some x)) (h : anyWithin x (xs.drop (i + 1)) = true) : issueOkB t xs = false := by
  unfold issueOkB
  rw [Bool.and_eq_false_iff]; right
  cases hp : pairB xs
  · rfl
  · rw [pair_later hp hx] at h; cases h
theorem pair_of {xs : List Int} (hr : ∀ x ∈ xs, 0 ≤ x ∧ x < 256) (hs : sortedB xs = true) (hl : ∀ i x, xs[i]? = some x → anyWithin x (xs.drop (i + 1)) = false) : pairB xs = true := by
  unfold pairB
  apply decide_eq_true
  rw [List.pairwise_iff_getElem]
  intro i j hi hj hij
  have hle := List.pairwise_iff_getElem.1 (of_decide_eq_true hs) i j hi hj hij
  have h1 := hl i xs[i] (List.getElem?_eq_getElem hi)
  unfold anyWithin at h1
  rw [List.any_eq_false] at h1
  have hmem : xs[j] ∈ xs.drop (i + 1) := by
    rw [List.mem_iff_getElem]
    exact ⟨j - (i + 1), by rw [List.length_drop]; omega, by rw [List.getElem_drop]; congr 1; omega⟩
  have hn : withinB xs[i] xs[j] = false := by simpa using h1 _ hmem
  have ha := hr xs[i] (List.getElem_mem hi)
  have hb := hr xs[j] (List.getElem_mem hj)
  have hne : xs[i] ≠ xs[j] := by
    intro e
    rw [← e, within_refl _ ha.1] at hn
    cases hn
  have hn2 : withinB xs[j] xs[i] = false := by
    cases h : withinB xs[j] xs[i]
    · rfl
    · have := within_le h ha.1; omega
  simp [apartB, hn, hn2]
  omega
theorem issue_parts {t : Int} {xs : List Int} (h : issueOkB t xs = true) : partsOkB t xs = true := by
  unfold issueOkB at h; rw [Bool.and_eq_true] at h; exact h.1
theorem issue_range {t : Int} {xs : List Int} (h : issueOkB t xs = true) : ∀ x ∈ xs, 0 ≤ x ∧ x < 256 := partsOk_range (issue_parts h)

theorem later_snoc {xs : List Int} {k : Nat} {x : Int} (h : Hid (∀ i y, i < k → xs[i]? = some y → anyWithin y (xs.drop (i + 1)) = false)) (hx : Hid (xs[k]? = some x))
    (hw : anyWithin x (xs.drop (k + 1)) = false) : Hid (∀ i y, i < k + 1 → xs[i]? = some y → anyWithin y (xs.drop (i + 1)) = false) := by
  intro i y hi hy
  by_cases e : i = k
  · subst e
    have := hx.out.symm.trans hy
    cases this
    exact hw
  · exact h.out i y (by omega) hy

set_option maxHeartbeats 1000000 in
theorem iIssueOk (t : Int) (A : Option Addr) (nn c : Nat) (xs : List Int) (w : World) (hn : nn = xs.length) (hl : nn ≤ 1048576) (hc : nn ≤ c) (hm : c ≤ maxLen) (hA : Nums .i64 w A xs) :
    Calls Tryz.prog 113 #[.int .i64 t, .slice A nn c] w fun e w' => e = .returned (.bool (issueOkB t xs)) ∧ ∃ n, w' = w.drewN n := by
  subst hn
  have hm' : c ≤ 9223372036854775807 := by unfold maxLen at hm; omega
  clear hm
  have HA := Lib.hid hA
  clear hA
  rcases hp : partsOkB t xs with _ | _
  · have HP := Lib.hid hp
    clear hp
    go_enter Tryz.func113, Tryz.ntmps113
    go_wp2_with fail
    refine (iPartsOk _ _ _ _ _ _ rfl hl HA.out).mono ?_
    rintro e w' ⟨rfl, rfl⟩
    rw [HP.out]
    go_wp2_with fail
    go_ret
    exact ⟨ret_bool (by rw [issue_notParts HP.out]), 0, rfl⟩
  · rcases hs : sortedB xs with _ | _
    · have HP := Lib.hid hp
      have HS := Lib.hid hs
      clear hp hs
      go_enter Tryz.func113, Tryz.ntmps113
      go_wp2_with fail
      refine (iPartsOk _ _ _ _ _ _ rfl hl HA.out).mono ?_
      rintro e w' ⟨rfl, rfl⟩
      rw [HP.out]
      go_wp2_with fail
      refine (isSorted_any _ _ _ _ _ rfl hl HA.out).mono ?_
      rintro e w' ⟨rfl, n, rfl⟩
      rw [HS.out]
      go_wp2_with fail
      go_ret
      exact ⟨ret_bool (by rw [issue_notSorted HS.out]), n, rfl⟩
    · have HP := Lib.hid hp
      have HS := Lib.hid hs
      have HR := Lib.hid (partsOk_range hp)
      clear hp hs
      go_enter Tryz.func113, Tryz.ntmps113
      go_wp2_with fail
      refine (iPartsOk _ _ _ _ _ _ rfl hl HA.out).mono ?_
      rintro e w' ⟨rfl, rfl⟩
      rw [HP.out]
      go_wp2_with fail
      refine (isSorted_any _ _ _ _ _ rfl hl HA.out).mono ?_
      rintro e w' ⟨rfl, n, rfl⟩
      rw [HS.out]
      go_wp2_with fail
      go_loop [18] (fun i => ∃ k : Nat, k ≤ xs.length ∧ i = .int .i64 k ∧ Hid (∀ i x, i < k → xs[i]? = some x → anyWithin x (xs.drop (i + 1)) = false)) (fun i => xs.length - (Go.RowKit.intOf i).toNat)
      case atStart => exact ⟨0, Nat.zero_le _, rfl, fun i x h => by omega⟩
      case round =>
        obtain ⟨k, hk, rfl, hsofar⟩ := hrel
        by_cases hlt : k < xs.length
        · obtain ⟨b, off, x, rfl, hcell, hx, _⟩ := HA.out.elem hlt
          obtain ⟨he1, he2⟩ := HR.out x (elem_mem hx)
          have HD : Hid (∀ y ∈ xs.drop (k + 1), 0 ≤ y ∧ y < 256) := fun y hy => HR.out y (List.mem_of_mem_drop hy)
          have hlen : Hid (xs.length - (k + 1) = (xs.drop (k + 1)).length) := by unfold Hid; simp
          by_cases hck : c = k + 1
          · subst hck
            go_wp2_with fail
            refine (iWithinAny _ _ _ _ (xs.drop (k + 1)) _ (by rw [← hlen.out]; try omega) he1 he2 HD.out (by omega) (by exact Nums.none_ (by rw [← hlen.out]; omega))).mono ?_
            rintro e w' ⟨rfl, rfl⟩
            go_wp2_with fail
            · rename_i hw
              go_ret
              exact ⟨ret_bool (by rw [issue_hit hx hw]), _, rfl⟩
            · rename_i hw
              go_round
              case rel => exact ⟨k + 1, by omega, by go_num, later_snoc hsofar hx (by simpa using hw)⟩
              case measure => simp [Go.RowKit.intOf]; omega
          · skip
            go_wp2_with fail
            refine (iWithinAny _ _ _ _ (xs.drop (k + 1)) _ (by rw [← hlen.out]; try omega) he1 he2 HD.out (by omega) (by exact HA.out.from_ (k + 1))).mono ?_
            rintro e w' ⟨rfl, rfl⟩
            go_wp2_with fail
            · rename_i hw
              go_ret
              exact ⟨ret_bool (by rw [issue_hit hx hw]), _, rfl⟩
            · rename_i hw
              go_round
              case rel => exact ⟨k + 1, by omega, by go_num, later_snoc hsofar hx (by simpa using hw)⟩
              case measure => simp [Go.RowKit.intOf]; omega
        · obtain rfl : k = xs.length := by omega
          have HF : Hid (issueOkB t xs = true) := by
            unfold Hid issueOkB
            rw [HP.out, pair_of HR.out HS.out (fun i x hx => hsofar.out i x (List.getElem?_eq_some_iff.1 hx).1 hx)]; rfl
          clear hsofar
          go_wp2
          go_ret
          exact ⟨ret_bool HF.out.symm, _, rfl⟩
end Go.Proofs.YtmdogidflaplkaaGreat
