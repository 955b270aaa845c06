/-
  What the proofs of this seat's statements share (Row, Copies, Lists, IssueOk, Settles, Statement, Read, Draw, Laws3, Both, Laws4, Tidy, DrawL).
-/
import Derived.Below
import Derived.Laws.OwnMore
import Derived.Maps.AppendAt
import Derived.WalkSmall
import Derived.Deep.Draws
import Derived.Deep.OwnRows
import Derived.OwnWalk
import Derived.BigQuiet
import Derived.Deep.QuietTactic
import Derived.OpenShut
import Derived.Test.YtmdpolllmipppaaU1

namespace Go.Proofs.Ytmdpolllmipppaa
open Go.RowKit

/-- The slice at A reads as the numbers xs. -/
def Nums (k : IntKind) (w : World) (A : Option Addr) (xs : List Int) : Prop :=
  0 < xs.length → ∃ b off, A = some ⟨b, off, none⟩ ∧ b < w.heap.size ∧ ∀ i, i < xs.length → w.cell? ⟨b, off + i, none⟩ = some (.int k (xs.getD i 0))

theorem Nums.nil (k : IntKind) (w : World) (A : Option Addr) : Nums k w A [] := fun h => absurd h (by simp)
theorem Nums.keep {k : IntKind} {w w' : World} {A : Option Addr} {xs : List Int} (h : Nums k w A xs) (hs : w.heap.size ≤ w'.heap.size) (hk : ∀ b, b < w.heap.size → (∀ ad, A = some ad → ad.block = b → w'.heap[b]? = w.heap[b]?)) : Nums k w' A xs := by
  intro hn
  obtain ⟨b, off, rfl, hb, hc⟩ := h hn
  exact ⟨b, off, rfl, by omega, fun i hi => (World.cell?_of_block (hk b hb _ rfl rfl)).trans (hc i hi)⟩
theorem Nums.below {k : IntKind} {w w' : World} {A : Option Addr} {xs : List Int} (h : Nums k w A xs) (hb : Below w.heap.size w w') : Nums k w' A xs :=
  h.keep hb.size fun b hlt _ _ _ => hb.block b hlt
theorem Nums.drewN {k : IntKind} {w : World} {A : Option Addr} {xs : List Int} (h : Nums k w A xs) (n : Nat) : Nums k (w.drewN n) A xs := h
theorem Nums.alloc {k : IntKind} {w : World} {A : Option Addr} {xs : List Int} (h : Nums k w A xs) (o : Obj) : Nums k (w.alloc o) A xs :=
  h.below ((Below.refl _ _).alloc (Nat.le_refl _) o)
theorem Nums.grown {k : IntKind} {w w' : World} {A : Option Addr} {xs : List Int} {row : Option Nat} (h : Nums k w A xs) (hg : w.grownBy w' row) (hr : ∀ ad, A = some ad → some ad.block ≠ row) : Nums k w' A xs :=
  h.keep hg.size fun b hlt ad ha hab => hg.block b hlt (by rw [← hab]; exact hr ad ha)
theorem Nums.drop {k : IntKind} {w : World} {A : Option Addr} {xs : List Int} (h : Nums k w A xs) {j c : Nat} (hc : xs.length ≤ c) :
    Nums k w (if c = j then A else A.map (·.add j)) (xs.drop j) := by
  intro hn
  rw [List.length_drop] at hn
  obtain ⟨b, off, rfl, hb, hcell⟩ := h (by omega)
  rw [if_neg (by omega)]
  refine ⟨b, off + j, by simp only [Option.map_some, Addr.add]; split <;> simp_all, hb, fun i hi => ?_⟩
  rw [List.length_drop] at hi
  rw [Nat.add_assoc, hcell (j + i) (by omega)]
  simp [List.getElem?_drop]
theorem Nums.from_ {k : IntKind} {w : World} {b off : Nat} {xs : List Int} (h : Nums k w (some ⟨b, off, none⟩) xs) (j : Nat) : Nums k w (some ⟨b, off + j, none⟩) (xs.drop j) := by
  intro hn
  rw [List.length_drop] at hn
  obtain ⟨b', off', hA, hb, hcell⟩ := h (by omega)
  cases hA
  refine ⟨b, off + j, rfl, hb, fun i hi => ?_⟩
  rw [List.length_drop] at hi
  rw [Nat.add_assoc, hcell (j + i) (by omega)]
  simp [List.getElem?_drop]
theorem Nums.none_ {k : IntKind} {w : World} {A : Option Addr} {xs : List Int} (h : xs.length = 0) : Nums k w A xs := fun hn => by omega
theorem Nums.take {k : IntKind} {w : World} {A : Option Addr} {xs : List Int} (h : Nums k w A xs) (j : Nat) : Nums k w A (xs.take j) := by
  intro hn
  rw [List.length_take] at hn
  obtain ⟨b, off, rfl, hb, hcell⟩ := h (by omega)
  refine ⟨b, off, rfl, hb, fun i hi => ?_⟩
  rw [List.length_take] at hi
  rw [hcell i (by omega)]
  simp [show i < j by omega]

/-- A slice of the call's own: the value v, from block 'base' on, holds the numbers xs. -/
def Owns (w : World) (base : Nat) (v : Value) (xs : List Int) : Prop := w.ownsRow base 3 1 v xs.length (xs.map (Value.int .i64))

theorem Owns.form {w : World} {base : Nat} {v : Value} {xs : List Int} (h : Owns w base v xs) :
    ∃ A c, v = .slice A xs.length c ∧ xs.length ≤ c ∧ c ≤ maxLen ∧ Nums .i64 w A xs ∧ (∀ ad, A = some ad → base ≤ ad.block ∧ ad.block < w.heap.size) := by
  have hcells := fun g => World.ownsRow.cells h (g := g)
  rcases h.2 with ⟨rfl, hl⟩ | ⟨g, cap, cur, rfl, hb, hg, hn, hm, _, _⟩
  · exact ⟨none, 0, by rw [hl], by omega, by simp [maxLen], fun hp => absurd hp (by omega), fun ad h => by cases h⟩
  · have hlt : g < w.heap.size := (Array.getElem?_eq_some_iff.1 hg).1
    refine ⟨some ⟨g, 0, none⟩, cap, rfl, hn, hm, fun hp => ⟨g, 0, rfl, hlt, fun i hi => ?_⟩, fun ad h => by cases h; exact ⟨hb, hlt⟩⟩
    have hi2 : (xs.map (Value.int .i64))[i]? = some (.int .i64 (xs.getD i 0)) := by simp [hi]
    have := hcells g rfl i _ hi2
    have e : (⟨g, 0, none⟩ : Addr).add i = ⟨g, 0 + i, none⟩ := by unfold Addr.add; split <;> simp_all
    rw [e] at this
    exact this
theorem Owns.kept {w w' : World} {base : Nat} {v : Value} {xs : List Int} (h : Owns w base v xs) {row : Option Nat} (hg : w.grownBy w' row) (hne : v.ownBlock = none ∨ v.ownBlock ≠ row) : Owns w' base v xs :=
  World.ownsRow.kept h hg hne
theorem Owns.below {w w' : World} {base : Nat} {v : Value} {xs : List Int} (h : Owns w base v xs) (hb : Below w.heap.size w w') : Owns w' base v xs :=
  World.ownsRow.kept (row := none) h ⟨hb.os, hb.tape, hb.output, hb.size, fun k hk _ => hb.block k hk⟩ (by cases v.ownBlock <;> simp)
theorem Owns.base {w : World} {base base' : Nat} {v : Value} {xs : List Int} (h : Owns w base v xs) (hb : base' ≤ base) : Owns w base' v xs := by
  refine ⟨h.1, ?_⟩
  rcases h.2 with h | ⟨g, cap, cur, h1, h2, h3⟩
  · exact .inl h
  · exact .inr ⟨g, cap, cur, h1, by omega, h3⟩
theorem Owns.nil (w : World) (base : Nat) : Owns w base (.slice none 0 0) [] := World.ownsRow_nil w base _ 1

theorem Owns.lit (w : World) (base : Nat) (xs : List Int) (hb : base ≤ w.heap.size) (hm : xs.length ≤ maxLen) :
    Owns (w.alloc (.cells (xs.map (Value.int .i64)).toArray 3)) base (.slice (some ⟨w.heap.size, 0, none⟩) xs.length xs.length) xs := by
  have h := World.ownsRow_lit (base := base) (e := 3) (size := 1) w (xs.map (Value.int .i64)).toArray xs.length hb hm (by simp)
  simpa [Owns] using h

theorem nums_of_row {k : IntKind} {w : World} {a : Option Addr} {len cap : Nat} {zs : List Int}
    (h : (a = none ∧ len = 0 ∧ cap = 0 ∧ zs = []) ∨ ∃ x, a = some x ∧ len ≤ cap ∧ cap ≤ maxLen ∧ zs.length = cap ∧ (∀ i, i < zs.length → w.cell? (x.add i) = some (.int k (zs.getD i 0))) ∧ ∀ n ∈ zs, (Lit.int k n).wf = true) :
    ∃ xs : List Int, len = xs.length ∧ Nums k w a xs ∧ len ≤ cap ∧ cap ≤ maxLen ∧ ∀ x ∈ xs, (Lit.int k x).wf = true := by
  rcases h with ⟨rfl, rfl, rfl, rfl⟩ | ⟨x, rfl, hl, hm, hz, hc, hw⟩
  · exact ⟨[], rfl, Nums.nil _ _ _, by omega, by simp [maxLen], by simp⟩
  · refine ⟨zs.take len, by rw [List.length_take]; omega, fun hp => ?_, hl, hm, fun y hy => hw y (List.mem_of_mem_take hy)⟩
    rw [List.length_take] at hp
    have h0 := hc 0 (by omega)
    obtain ⟨b, off, spot⟩ := x
    have hs : spot = none := by simpa [Addr.add] using World.cell?_spot h0
    subst hs
    refine ⟨b, off, rfl, World.block_lt_of_cell? w _ h0, fun i hi => ?_⟩
    rw [List.length_take] at hi
    have := hc i (by omega)
    have e : (⟨b, off, none⟩ : Addr).add i = ⟨b, off + i, none⟩ := by unfold Addr.add; split <;> simp_all
    rw [e] at this
    rw [this]
    simp [show i < len by omega]

/-- Two slices, the one laid before the other one's blocks: what is written into the second leaves the first. -/
theorem Nums.other {k : IntKind} {w w' : World} {A A2 : Option Addr} {n2 c2 : Nat} {xs : List Int} {B : Nat} (h : Nums k w A xs) (hg : w.grownBy w' (Value.slice A2 n2 c2).ownBlock)
    (h1 : ∀ ad, A = some ad → ad.block < B) (h2 : ∀ ad, A2 = some ad → B ≤ ad.block) : Nums k w' A xs := by
  refine h.grown hg fun ad ha e => ?_
  have hb := h1 ad ha
  cases A2 with
  | none => cases e
  | some ad2 =>
    have : ad.block = ad2.block := by simpa [Value.ownBlock] using e
    have := h2 ad2 rfl
    omega
theorem bel_mark {w w1 w2 : World} {A2 : Option Addr} {n2 c2 : Nat} (h : Below w.heap.size w w1) (hg : w1.grownBy w2 (Value.slice A2 n2 c2).ownBlock) (h2 : ∀ ad, A2 = some ad → w.heap.size ≤ ad.block) : Below w.heap.size w w2 := by
  refine h.grown hg h.size fun k e => ?_
  cases A2 with
  | none => cases e
  | some ad2 =>
    have : ad2.block = k := by simpa [Value.ownBlock] using e
    have := h2 ad2 rfl
    omega
theorem bel_trans {w w1 w2 : World} (h : Below w.heap.size w w1) (h2 : Below w1.heap.size w1 w2) : Below w.heap.size w w2 := h.trans (h2.mono h.size)
theorem bel_drewN {B : Nat} {w w1 : World} (h : Below B w w1) (n : Nat) : Below B w (w1.drewN n) := below_drewN h n
theorem below_grown {B : Nat} {a w w' : World} {g : Nat} (h : Below B a w) (hg : w.grownBy w' (some g)) (hB : B ≤ w.heap.size) (hr : B ≤ g) : Below B a w' :=
  h.grown hg hB (fun k e => by cases e; exact hr)

/-- One element: its address, its cell, and (hidden from the walk) that it is the element. -/
theorem Nums.elem {k : IntKind} {w : World} {A : Option Addr} {xs : List Int} (h : Nums k w A xs) {i : Nat} (hi : i < xs.length) :
    ∃ b off x, A = some ⟨b, off, none⟩ ∧ w.cell? ⟨b, off + i, none⟩ = some (.int k x) ∧ Hid (xs[i]? = some x) ∧ Hid (b < w.heap.size) := by
  obtain ⟨b, off, hA, hb, hc⟩ := h (by omega)
  exact ⟨b, off, _, hA, hc i hi, by show _ = _; simp [hi], hb⟩
theorem elem_mem {xs : List Int} {i : Nat} {x : Int} (h : Hid (xs[i]? = some x)) : x ∈ xs := List.mem_of_getElem? h.out
theorem elem_lt {xs : List Int} {i : Nat} {x : Int} (h : Hid (xs[i]? = some x)) : i < xs.length := (List.getElem?_eq_some_iff.1 h.out).1
theorem take_snoc {xs : List Int} {i : Nat} {x : Int} (h : Hid (xs[i]? = some x)) : xs.take (i + 1) = xs.take i ++ [x] := by
  rw [List.take_succ_eq_append_getElem (elem_lt h), (List.getElem?_eq_some_iff.1 h.out).2]
theorem drop_cons {xs : List Int} {i : Nat} {x : Int} (h : Hid (xs[i]? = some x)) : xs.drop i = x :: xs.drop (i + 1) := by
  rw [List.drop_eq_getElem_cons (elem_lt h), (List.getElem?_eq_some_iff.1 h.out).2]

end Go.Proofs.Ytmdpolllmipppaa

namespace Go.Proofs.Ytmdpolllmipppaa
open Go.RowKit

theorem int_info : (Try.prog.info? 3).map (fun i => (i.zero, i.size, i.bytes)) = some (some (.int .i64 0), 1, 8) := by kernel_rfl

/-- The row that a loop fills: behind k rounds the first k places hold what they shall. -/
def part (xs : List Int) (k : Nat) : Nat → Value := fun j => if j < k then .int .i64 (xs.getD j 0) else .int .i64 0
theorem part_next {w : World} {g : Nat} {xs : List Int} {k : Nat} {x : Int} (h : w.rowIs g 3 xs.length (part xs k)) (hx : Hid (xs[k]? = some x)) : (w.setCell ⟨g, k, none⟩ (.int .i64 x)).rowIs g 3 xs.length (part xs (k + 1)) := by
  refine (h.set k _).congr fun j hj => ?_
  unfold part
  by_cases e : j = k
  · subst e
    rw [if_pos rfl, if_pos (by omega), List.getD_eq_getElem?_getD, hx.out]; rfl
  · rw [if_neg e]
    by_cases h1 : j < k
    · rw [if_pos h1, if_pos (by omega)]
    · rw [if_neg h1, if_neg (by omega)]
theorem owns_of_row {w : World} {base g : Nat} {xs : List Int} (h : w.rowIs g 3 xs.length (part xs xs.length)) (hb : base ≤ g) (hm : xs.length ≤ maxLen) : Owns w base (.slice (some ⟨g, 0, none⟩) xs.length xs.length) xs := by
  obtain ⟨c, hg, hn, hc⟩ := h
  refine ⟨by simp, .inr ⟨g, xs.length, c, rfl, hb, hg, Nat.le_refl _, hm, by omega, ?_⟩⟩
  apply List.ext_getElem?
  intro i
  rw [List.getElem?_take, List.getElem?_map]
  by_cases hi : i < xs.length
  · rw [if_pos (by omega), Array.getElem?_toList, hc i hi]
    simp [part, hi]
  · rw [if_neg (by omega), List.getElem?_eq_none (by omega)]; rfl

set_option maxHeartbeats 400000 in
theorem lEqIntS (A B : Option Addr) (nn mm c d : Nat) (xs ys : List Int) (w : World) (hn : nn = xs.length) (hm : mm = ys.length) (hl : nn ≤ 1048576) (hl2 : mm ≤ 1048576) (hA : Nums .i64 w A xs) (hB : Nums .i64 w B ys) :
    Calls Try.prog 24 #[.slice A nn c, .slice B mm d] w fun e w' => e = .returned (.bool (decide (xs = ys))) ∧ ∃ n, w' = w.drewN n := by
  subst hn hm
  have HA := Lib.hid hA
  have HB := Lib.hid hB
  clear hA hB
  by_cases hlen : xs.length = ys.length
  · have hd : ((xs.length : Int) != (ys.length : Int)) = false := by simp; omega
    have HL := Lib.hid hlen
    have hle1 : xs.length ≤ ys.length := by omega
    have hle2 : ys.length ≤ xs.length := by omega
    clear hlen
    go_enter Try.func24, Try.ntmps24
    go_wp2
    go_loopw [5] (fun i wr => ∃ k : Nat, k ≤ xs.length ∧ i = .int .i64 k ∧ Hid (xs.take k = ys.take k) ∧ ∃ n, wr = w.drewN n) (fun i _ => xs.length - (intOf i).toNat)
    case atStart => exact ⟨0, Nat.zero_le _, rfl, rfl, 0, rfl⟩
    case round =>
      obtain ⟨k, hk, rfl, hsofar, n, rfl⟩ := hrel
      by_cases hlt : k < xs.length
      · have hlt2 : k < ys.length := by omega
        obtain ⟨b, off, x, rfl, hcell, hx, _⟩ := HA.out.elem hlt
        obtain ⟨b', off', y, rfl, hcell', hy, _⟩ := HB.out.elem hlt2
        by_cases hxy : x = y
        · have hxy' : (x != y) = false := by simp [hxy]
          have HXY := Lib.hid hxy
          clear hxy
          go_wp2
          go_quiet (fail)
          go_wp2
          go_roundw
          case rel => exact ⟨k + 1, by omega, by go_num, by unfold Hid; rw [take_snoc hx, take_snoc hy, hsofar.out, HXY.out], _, rfl⟩
          case measure => simp [intOf]; omega
        · have hxy' : (x != y) = true := by simp [hxy]
          have HXY := Lib.hid hxy
          clear hxy
          go_wp2
          go_quiet (fail)
          go_wp2
          go_ret
          exact ⟨ret_bool (by symm; apply decide_eq_false; intro e; subst e; have := hx.out.symm.trans hy.out; cases this; exact HXY.out rfl), _, World.drewN_drewN _ _ _⟩
      · obtain rfl : k = xs.length := by omega
        have HE : Hid (xs = ys) := by
          have := hsofar.out
          rw [List.take_length, HL.out, List.take_length] at this
          exact this
        clear hsofar
        go_wp2
        go_ret
        exact ⟨ret_bool (by rw [decide_eq_true HE.out]), _, rfl⟩
  · have hd : ((xs.length : Int) != (ys.length : Int)) = true := by simp; omega
    have HL := Lib.hid hlen
    clear hlen
    go_enter Try.func24, Try.ntmps24
    go_wp2
    go_ret
    exact ⟨ret_bool (by symm; apply decide_eq_false; intro e; exact HL.out (by rw [e])), 0, rfl⟩

set_option maxHeartbeats 400000 in
theorem lHeldIntS (A : Option Addr) (nn c : Nat) (xs : List Int) (k0 : Int) (w : World) (hn : nn = xs.length) (hl : nn ≤ 1048576) (hk : 0 ≤ k0) (hk2 : k0 ≤ 1073741824) (hA : Nums .i64 w A xs) (hv : ∀ (i : Nat) (x : Int), xs[i]? = some x → x = k0 + (i : Int)) :
    Calls Try.prog 26 #[.slice A nn c, .int .i64 k0] w fun e w' => e = .returned (.int .i64 (k0 + xs.length)) ∧ w = w' := by
  subst hn
  have HA := Lib.hid hA
  have HV := Lib.hid hv
  clear hv hA
  go_enter Try.func26, Try.ntmps26
  go_wp2
  go_loop [1, 5] (fun q i => ∃ k : Nat, k ≤ xs.length ∧ i = .int .i64 k ∧ q = .int .i64 (k0 + k)) (fun _ i => xs.length - (intOf i).toNat)
  case atStart => exact ⟨0, Nat.zero_le _, rfl, by simp⟩
  case round =>
    obtain ⟨k, hk', rfl, rfl⟩ := hrel
    by_cases hlt : k < xs.length
    · obtain ⟨b, off, x, rfl, hcell, hx, _⟩ := HA.out.elem hlt
      have hxe : (x != k0 + (k : Int)) = false := by rw [HV.out k x hx.out]; simp
      go_wp2
      go_round
      case rel => exact ⟨k + 1, by omega, by go_num, by go_num⟩
      case measure => simp [intOf]; omega
    · obtain rfl : k = xs.length := by omega
      go_wp2
      go_ret
      exact ⟨rfl, rfl⟩

theorem grown_set {w0 w : World} {g : Nat} (h : w0.grownBy w (some g)) (i : Nat) (u : Value) : w0.grownBy (w.setCell ⟨g, i, none⟩ u) (some g) :=
  ⟨h.os, h.tape, h.output, by simpa [World.setCell] using h.size, fun k hk hne => (Below.heap_setCell w ⟨g, i, none⟩ u k (fun e => hne (by rw [e]))).trans (h.block k hk hne)⟩

set_option maxHeartbeats 400000 in
theorem lMarkIntS (base : Nat) (A : Option Addr) (nn c : Nat) (xs : List Int) (k0 : Int) (w : World) (hn : nn = xs.length) (hl : nn ≤ 1048576) (hk : 0 ≤ k0) (hk2 : k0 ≤ 1073741824) (hO : Owns w base (.slice A nn c) xs) :
    Calls Try.prog 25 #[.slice A nn c, .int .i64 k0] w fun e w' => ∃ ys : List Int, e = .returned (.int .i64 (k0 + nn)) ∧ ys.length = nn ∧ (∀ (i : Nat) (y : Int), ys[i]? = some y → y = k0 + (i : Int)) ∧
      Owns w' base (.slice A nn c) ys ∧ w.grownBy w' (Value.slice A nn c).ownBlock := by
  subst hn
  have HO := Lib.hid hO
  rcases hO.2 with ⟨hv, hz⟩ | ⟨g, cap, cur, hv, hb, hg, hnc, hcm, hcs, _⟩
  · simp only [Value.slice.injEq] at hv
    obtain ⟨rfl, _, rfl⟩ := hv
    obtain rfl : xs = [] := List.eq_nil_of_length_eq_zero (by omega)
    clear hO hz
    go_enter Try.func25, Try.ntmps25
    go_wp2
    refine wp_loop_rounds 1 ?_
    rw [rounds_succ]
    go_wp2
    go_ret
    exact ⟨[], by simp, rfl, by simp, HO.out, World.grownBy.refl w _⟩
  · simp only [Value.slice.injEq] at hv
    obtain ⟨rfl, _, rfl⟩ := hv
    clear hO hg hcs
    go_enter Try.func25, Try.ntmps25
    go_wp2
    go_loopw [1, 5] (fun q i wr => ∃ (k : Nat) (ys : List Int), k ≤ xs.length ∧ i = .int .i64 k ∧ q = .int .i64 (k0 + k) ∧ Hid (ys.length = xs.length) ∧ Hid (∀ (i : Nat) (y : Int), i < k → ys[i]? = some y → y = k0 + (i : Int)) ∧
      wr.ownsRow base 3 1 (.slice (some ⟨g, 0, none⟩) xs.length c) xs.length (ys.map (Value.int .i64)) ∧ w.grownBy wr (some g)) (fun _ i _ => xs.length - (intOf i).toNat)
    case atStart => exact ⟨0, xs, Nat.zero_le _, rfl, by simp, rfl, fun i y h => by omega, HO.out, World.grownBy.refl w _⟩
    case round =>
      obtain ⟨k, ys, hk', rfl, rfl, hlen, hso, hown, hgr⟩ := hrel
      have HW := Lib.hid hown
      have HG := Lib.hid hgr
      clear hown hgr
      by_cases hlt : k < xs.length
      · have hc1 := HW.out.cellAt k (by omega)
        have hf1 := HW.out.frozenAt k
        rw [List.getElem?_map, List.getElem?_eq_getElem (by rw [hlen.out]; exact hlt)] at hc1
        simp only [Option.map_some] at hc1
        generalize ys[k]'(by rw [hlen.out]; exact hlt) = y0 at hc1
        go_wp2
        go_roundw
        case rel =>
          have hst := HW.out.stored k (.int .i64 (k0 + k))
          refine ⟨k + 1, ys.set k (k0 + k), by omega, by go_num, by go_num, by unfold Hid; rw [List.length_set]; exact hlen.out, ?_, by rw [List.map_set]; exact hst.1, grown_set HG.out k _⟩
          intro i y hi hy
          rw [List.getElem?_set] at hy
          by_cases e : k = i
          · subst e
            rw [if_pos rfl, if_pos (by rw [hlen.out]; exact hlt)] at hy
            cases hy; rfl
          · rw [if_neg e] at hy
            exact hso.out i y (by omega) hy
        case measure => simp [intOf]; omega
      · obtain rfl : k = xs.length := by omega
        go_wp2
        go_ret
        refine ⟨ys, rfl, hlen.out, fun i y hy => hso.out i y (by rw [← hlen.out]; exact (List.getElem?_eq_some_iff.1 hy).1) hy, ?_, HG.out⟩
        have := HW.out
        rw [← hlen.out] at this
        unfold Owns
        rw [← hlen.out]
        exact this
end Go.Proofs.Ytmdpolllmipppaa

namespace Go.Proofs.Ytmdpolllmipppaa
open Go.RowKit

def anyWithin (s : Int) (xs : List Int) : Bool := xs.any (withinB s)
theorem anyWithin_nil (s : Int) : anyWithin s [] = false := rfl

theorem anyWithin_snoc {s x : Int} {xs : List Int} {i : Nat} (hx : Hid (xs[i]? = some x)) : anyWithin s (xs.take (i + 1)) = (anyWithin s (xs.take i) || withinB s x) := by
  rw [take_snoc hx]; simp [anyWithin]
theorem anyWithin_hit {s x : Int} {xs : List Int} {i : Nat} (hx : Hid (xs[i]? = some x)) (h : withinB s x = true) : anyWithin s xs = true := by
  unfold anyWithin; rw [List.any_eq_true]; exact ⟨_, elem_mem hx, h⟩

set_option maxHeartbeats 400000 in
theorem iWithinAny (s : Int) (A : Option Addr) (n c : Nat) (xs : List Int) (w : World) (hn : n = xs.length) (hs : 0 ≤ s) (hs2 : s < 256) (hr : ∀ x ∈ xs, 0 ≤ x ∧ x < 256) (hl : n ≤ 1048576) (hA : Nums .i64 w A xs) :
    Calls Try.prog 59 #[.int .i64 s, .slice A n c] w fun e w' => e = .returned (.bool (anyWithin s xs)) ∧ w = w' := by
  subst hn
  have HR := Lib.hid hr
  have HA := Lib.hid hA
  clear hr hA
  go_enter Try.func59, Try.ntmps59
  go_wp2
  go_loop [9] (fun i => ∃ k : Nat, k ≤ xs.length ∧ i = .int .i64 k ∧ Hid (anyWithin s (xs.take k) = false)) (fun i => xs.length - (intOf i).toNat)
  case atStart => exact ⟨0, Nat.zero_le _, rfl, rfl⟩
  case round =>
    obtain ⟨k, hk, rfl, hsofar⟩ := hrel
    by_cases hlt : k < xs.length
    · obtain ⟨b, off, x, rfl, hcell, hx, _⟩ := HA.out.elem hlt
      obtain ⟨he1, he2⟩ := HR.out x (elem_mem hx)
      go_wp2_with (go_at_call 91; refine (iWithin _ _ hs (by omega) he1 (by omega) _).mono ?_; rintro e w' ⟨rfl, rfl⟩)
      · rename_i hw
        go_ret
        exact ⟨ret_bool (by rw [anyWithin_hit hx hw]), rfl⟩
      · rename_i hw
        go_round
        case rel => exact ⟨k + 1, by omega, by go_num, by unfold Hid; rw [anyWithin_snoc hx, hsofar.out]; simpa using hw⟩
        case measure => simp [intOf]; omega
    · obtain rfl : k = xs.length := by omega
      go_wp2
      go_ret
      exact ⟨ret_bool (by rw [← hsofar.out, List.take_length]), rfl⟩

def partsOkB (t : Int) (xs : List Int) : Bool := decide (1 ≤ xs.length ∧ xs.length ≤ 70) && xs.all (setOkB t)
theorem partsOk_len {t : Int} {xs : List Int} (h : xs.length < 1 ∨ 70 < xs.length) : partsOkB t xs = false := by
  unfold partsOkB; rw [Bool.and_eq_false_iff]; left; simp; omega
theorem all_miss {t x : Int} {xs : List Int} {i : Nat} (hx : Hid (xs[i]? = some x)) (h : setOkB t x = false) : xs.all (setOkB t) = false := by
  rw [List.all_eq_false]; exact ⟨x, elem_mem hx, by simp [h]⟩
theorem partsOk_miss {t x : Int} {xs : List Int} {i : Nat} (hx : Hid (xs[i]? = some x)) (h : setOkB t x = false) : partsOkB t xs = false := by
  unfold partsOkB; rw [all_miss hx h]; simp
theorem all_snoc {t x : Int} {xs : List Int} {i : Nat} (hx : Hid (xs[i]? = some x)) : (xs.take (i + 1)).all (setOkB t) = ((xs.take i).all (setOkB t) && setOkB t x) := by
  rw [take_snoc hx]; simp
theorem partsOk_all {t : Int} {xs : List Int} (h1 : ¬ (xs.length < 1 ∨ 70 < xs.length)) (h : xs.all (setOkB t) = true) : partsOkB t xs = true := by
  unfold partsOkB; rw [h]; simp; omega
theorem partsOk_range {t : Int} {xs : List Int} (h : partsOkB t xs = true) : ∀ x ∈ xs, 0 ≤ x ∧ x < 256 := by
  intro x hx
  unfold partsOkB at h
  rw [Bool.and_eq_true, List.all_eq_true] at h
  have := setOkB_lt (h.2 x hx)
  omega

set_option maxHeartbeats 400000 in
theorem iPartsOk (t : Int) (A : Option Addr) (n c : Nat) (xs : List Int) (w : World) (hn : n = xs.length) (hl : n ≤ 1048576) (hA : Nums .i64 w A xs) :
    Calls Try.prog 57 #[.int .i64 t, .slice A n c] w fun e w' => e = .returned (.bool (partsOkB t xs)) ∧ w = w' := by
  subst hn
  have HA := Lib.hid hA
  clear hA
  by_cases h0 : xs.length < 1
  · have hd : decide ((xs.length : Int) < 1) = true := by simp; omega
    go_enter Try.func57, Try.ntmps57
    go_wp2
    go_ret
    exact ⟨ret_bool (by rw [partsOk_len (.inl h0)]), rfl⟩
  · by_cases h1 : 70 < xs.length
    · have hd : decide ((xs.length : Int) < 1) = false := by simp; omega
      have hd2 : decide ((70 : Int) < (xs.length : Int)) = true := by simp; omega
      go_enter Try.func57, Try.ntmps57
      go_wp2
      go_ret
      exact ⟨ret_bool (by rw [partsOk_len (.inr h1)]), rfl⟩
    · have hd : decide ((xs.length : Int) < 1) = false := by simp; omega
      have hd2 : decide ((70 : Int) < (xs.length : Int)) = false := by simp; omega
      go_enter Try.func57, Try.ntmps57
      go_wp2
      go_loop [17] (fun i => ∃ k : Nat, k ≤ xs.length ∧ i = .int .i64 k ∧ Hid ((xs.take k).all (setOkB t) = true)) (fun i => xs.length - (intOf i).toNat)
      case atStart => exact ⟨0, Nat.zero_le _, rfl, rfl⟩
      case round =>
        obtain ⟨k, hk, rfl, hsofar⟩ := hrel
        by_cases hlt : k < xs.length
        · obtain ⟨b, off, x, rfl, hcell, hx, _⟩ := HA.out.elem hlt
          go_wp2_with (go_at_call 60; refine (iSetOk _ _ _).mono ?_; rintro e w' ⟨rfl, rfl⟩)
          · rename_i hw
            go_ret
            exact ⟨ret_bool (by rw [partsOk_miss hx (by simpa using hw)]), rfl⟩
          · rename_i hw
            go_round
            case rel => exact ⟨k + 1, by omega, by go_num, by unfold Hid; rw [all_snoc hx, hsofar.out]; simpa using hw⟩
            case measure => simp [intOf]; omega
        · obtain rfl : k = xs.length := by omega
          go_wp2
          go_ret
          exact ⟨ret_bool (by rw [partsOk_all (by omega) (by rw [← hsofar.out, List.take_length])]), rfl⟩

def sortedB (xs : List Int) : Bool := decide (xs.Pairwise (· ≤ ·))
theorem sorted_cons {x y : Int} {xs : List Int} {i : Nat} (hx : Hid (xs[i + 1]? = some x)) (hy : Hid (xs[i]? = some y)) (h : sortedB (xs.drop (i + 1)) = true) (hle : y ≤ x) : sortedB (xs.drop i) = true := by
  unfold sortedB at *
  have h := of_decide_eq_true h
  apply decide_eq_true
  rw [drop_cons hy, List.pairwise_cons]
  refine ⟨fun z hz => ?_, h⟩
  rw [drop_cons hx] at h hz
  rw [List.pairwise_cons] at h
  rcases List.mem_cons.1 hz with rfl | hz
  · exact hle
  · have := h.1 z hz; omega
theorem sorted_miss {x y : Int} {xs : List Int} {i : Nat} (hx : Hid (xs[i + 1]? = some x)) (hy : Hid (xs[i]? = some y)) (hlt : x < y) : sortedB xs = false := by
  unfold sortedB
  apply decide_eq_false
  intro h
  obtain ⟨h1, e1⟩ := List.getElem?_eq_some_iff.1 hx.out
  obtain ⟨h2, e2⟩ := List.getElem?_eq_some_iff.1 hy.out
  have := List.pairwise_iff_getElem.1 h i (i + 1) h2 h1 (by omega)
  omega
theorem sorted_end {xs : List Int} {k : Nat} (h : xs.length ≤ k + 1) : sortedB (xs.drop k) = true := by
  unfold sortedB
  apply decide_eq_true
  have hl : (xs.drop k).length ≤ 1 := by rw [List.length_drop]; omega
  match xs.drop k, hl with
  | [], _ => exact List.Pairwise.nil
  | [x], _ => simp

theorem less_any (a b : Int) (w : World) : Calls Try.prog 90 #[.int .i64 a, .int .i64 b] w fun e w' => e = .returned (.bool (decide (a < b))) ∧ w = w' := by
  go_enter Try.func90, Try.ntmps90
  go_wp2
  go_ret
  exact ⟨rfl, rfl⟩
theorem quiet_left {P : Program} {f : FuncId} {args : Array Value} {w : World} {n : Nat} {v : Value}
    (h : Calls P f args (w.drewN n) fun e w' => e = .returned v ∧ w.drewN n = w') : Calls P f args (w.drewN n) fun e w' => e = .returned v ∧ ∃ m, w' = w.drewN m :=
  h.mono fun _ _ ⟨he, hw⟩ => ⟨he, n, hw.symm⟩
theorem quiet_add {P : Program} {f : FuncId} {args : Array Value} {w : World} {a n : Nat} {v : Value}
    (h : Calls P f args (w.drewN (a + n)) fun e w' => e = .returned v ∧ w.drewN (a + n) = w') : Calls P f args (w.drewN (a + n)) fun e w'' => e = .returned v ∧ ∃ m, w'' = w.drewN (a + m) :=
  h.mono fun _ _ ⟨he, hm⟩ => ⟨he, n, hm.symm⟩

set_option maxHeartbeats 400000 in
theorem isSorted_any (A : Option Addr) (nn c : Nat) (xs : List Int) (w : World) (hn : nn = xs.length) (hl : nn ≤ 1048576) (hA : Nums .i64 w A xs) :
    Calls Try.prog 58 #[.slice A nn c] w fun e w' => e = .returned (.bool (sortedB xs)) ∧ ∃ n, w' = w.drewN n := by
  subst hn
  have HA := Lib.hid hA
  clear hA
  go_enter Try.func58, Try.ntmps58
  go_wp2
  go_loopw [3] (fun i wr => ∃ k : Int, -1 ≤ k ∧ k < xs.length ∧ i = .int .i64 k ∧ Hid (sortedB (xs.drop k.toNat) = true) ∧ ∃ n, wr = w.drewN n) (fun i _ => (intOf i).toNat)
  case atStart => exact ⟨_, by omega, by omega, rfl, sorted_end (by omega), 0, rfl⟩
  case round =>
    obtain ⟨k, hk0, hk, rfl, hsofar, n, rfl⟩ := hrel
    by_cases hlt : 0 < k
    · obtain ⟨k, rfl⟩ : ∃ q : Nat, k = q := ⟨k.toNat, by omega⟩
      obtain ⟨b, off, x, rfl, hcell, hx, _⟩ := HA.out.elem (i := k) (by omega)
      obtain ⟨b', off', y, hAA, hcell2, hy, _⟩ := HA.out.elem (i := k - 1) (by omega)
      cases hAA
      have e1 : IntKind.i64.wrap ((k : Int) - 1) = (k : Int) - 1 := IntWalk.i64_in _ (by omega)
      have e2 : (0 : Int) ≤ (k : Int) - 1 := by omega
      have e3 : ((k : Int) - 1).toNat = k - 1 := by omega
      have e4 : (k : Int) - 1 < (xs.length : Int) := by omega
      have e5 : (1 : Int) ≤ (k : Int) := by omega
      go_wp2
      go_quiet ((go_at_call 90; exact quiet_add (less_any _ _ _)))
      go_wp2
      · rename_i hw
        go_ret
        exact ⟨ret_bool (by rw [sorted_miss (i := k - 1) (by rw [show k - 1 + 1 = k by omega]; exact hx) hy hw]), _, World.drewN_drewN _ _ _⟩
      · rename_i hw
        go_roundw
        case rel => exact ⟨(k : Int) - 1, by omega, by omega, rfl, by rw [e3]; exact sorted_cons (i := k - 1) (by rw [show k - 1 + 1 = k by omega]; exact hx) hy (by rw [show k - 1 + 1 = k by omega]; exact hsofar.out) (by omega), _, rfl⟩
        case measure => simp [intOf]; omega
    · have hz : k.toNat = 0 := by omega
      have HS : Hid (sortedB xs = true) := by unfold Hid; have := hsofar.out; rwa [hz, List.drop_zero] at this
      clear hsofar hz
      go_wp2
      go_ret
      exact ⟨ret_bool HS.out.symm, _, rfl⟩

def apartB (a b : Int) : Bool := decide (a < b) && !withinB a b && !withinB b a
def pairB (xs : List Int) : Bool := decide (xs.Pairwise (fun a b => apartB a b = true))
def issueOkB (t : Int) (xs : List Int) : Bool := partsOkB t xs && pairB xs
theorem within_refl (a : Int) (h : 0 ≤ a) : withinB a a = true := by unfold withinB andI; simp; omega
theorem within_le {a b : Int} (h : withinB a b = true) (hb : 0 ≤ b) : a ≤ b := by
  have := of_decide_eq_true h; have := andI_le' a b hb; omega
theorem issue_notParts {t : Int} {xs : List Int} (h : partsOkB t xs = false) : issueOkB t xs = false := by unfold issueOkB; rw [h]; rfl
theorem pair_sorted {xs : List Int} (h : pairB xs = true) : sortedB xs = true := by
  unfold pairB at h; unfold sortedB
  apply decide_eq_true
  refine (of_decide_eq_true h).imp ?_
  intro a b hab
  simp [apartB] at hab
  omega
theorem issue_notSorted {t : Int} {xs : List Int} (h : sortedB xs = false) : issueOkB t xs = false := by
  unfold issueOkB
  rw [Bool.and_eq_false_iff]; right
  cases hp : pairB xs
  · rfl
  · rw [pair_sorted hp] at h; cases h
theorem pair_later {xs : List Int} (h : pairB xs = true) {i : Nat} {x : Int} (hx : Hid (xs[i]? = some x)) : anyWithin x (xs.drop (i + 1)) = false := by
  unfold anyWithin
  rw [List.any_eq_false]
  intro y hy
  have h := of_decide_eq_true h
  have hs : (xs.drop i).Pairwise (fun a b => apartB a b = true) := h.sublist (List.drop_sublist i xs)
  rw [drop_cons hx, List.pairwise_cons] at hs
  have := hs.1 y hy
  simp [apartB] at this
  simp [this.1.2]
theorem issue_hit {t : Int} {xs : List Int} {i : Nat} {x : Int} (hx : Hid (xs[i]? = some x)) (h : anyWithin x (xs.drop (i + 1)) = true) : issueOkB t xs = false := by
  unfold issueOkB
  rw [Bool.and_eq_false_iff]; right
  cases hp : pairB xs
  · rfl
  · rw [pair_later hp hx] at h; cases h
theorem pair_of {xs : List Int} (hr : ∀ x ∈ xs, 0 ≤ x ∧ x < 256) (hs : sortedB xs = true) (hl : ∀ i x, xs[i]? = some x → anyWithin x (xs.drop (i + 1)) = false) : pairB xs = true := by
  unfold pairB
  apply decide_eq_true
  rw [List.pairwise_iff_getElem]
  intro i j hi hj hij
  have hle := List.pairwise_iff_getElem.1 (of_decide_eq_true hs) i j hi hj hij
  have h1 := hl i xs[i] (List.getElem?_eq_getElem hi)
  unfold anyWithin at h1
  rw [List.any_eq_false] at h1
  have hmem : xs[j] ∈ xs.drop (i + 1) := by
    rw [List.mem_iff_getElem]
    exact ⟨j - (i + 1), by rw [List.length_drop]; omega, by rw [List.getElem_drop]; congr 1; omega⟩
  have hn : withinB xs[i] xs[j] = false := by simpa using h1 _ hmem
  have ha := hr xs[i] (List.getElem_mem hi)
  have hb := hr xs[j] (List.getElem_mem hj)
  have hne : xs[i] ≠ xs[j] := by
    intro e
    rw [← e, within_refl _ ha.1] at hn
    cases hn
  have hn2 : withinB xs[j] xs[i] = false := by
    cases h : withinB xs[j] xs[i]
    · rfl
    · have := within_le h ha.1; omega
  simp [apartB, hn, hn2]
  omega
theorem issue_parts {t : Int} {xs : List Int} (h : issueOkB t xs = true) : partsOkB t xs = true := by
  unfold issueOkB at h; rw [Bool.and_eq_true] at h; exact h.1
theorem issue_range {t : Int} {xs : List Int} (h : issueOkB t xs = true) : ∀ x ∈ xs, 0 ≤ x ∧ x < 256 := partsOk_range (issue_parts h)

theorem later_snoc {xs : List Int} {k : Nat} {x : Int} (h : Hid (∀ i y, i < k → xs[i]? = some y → anyWithin y (xs.drop (i + 1)) = false)) (hx : Hid (xs[k]? = some x))
    (hw : anyWithin x (xs.drop (k + 1)) = false) : Hid (∀ i y, i < k + 1 → xs[i]? = some y → anyWithin y (xs.drop (i + 1)) = false) := by
  intro i y hi hy
  by_cases e : i = k
  · subst e
    have := hx.out.symm.trans hy
    cases this
    exact hw
  · exact h.out i y (by omega) hy

set_option maxHeartbeats 1000000 in
theorem iIssueOk (t : Int) (A : Option Addr) (nn c : Nat) (xs : List Int) (w : World) (hn : nn = xs.length) (hl : nn ≤ 1048576) (hc : nn ≤ c) (hm : c ≤ maxLen) (hA : Nums .i64 w A xs) :
    Calls Try.prog 20 #[.int .i64 t, .slice A nn c] w fun e w' => e = .returned (.bool (issueOkB t xs)) ∧ ∃ n, w' = w.drewN n := by
  subst hn
  have hm' : c ≤ 9223372036854775807 := by unfold maxLen at hm; omega
  clear hm
  have HA := Lib.hid hA
  clear hA
  rcases hp : partsOkB t xs with _ | _
  · have HP := Lib.hid hp
    clear hp
    go_enter Try.func20, Try.ntmps20
    go_wp2_with fail
    refine (iPartsOk _ _ _ _ _ _ rfl hl HA.out).mono ?_
    rintro e w' ⟨rfl, rfl⟩
    rw [HP.out]
    go_wp2_with fail
    go_ret
    exact ⟨ret_bool (by rw [issue_notParts HP.out]), 0, rfl⟩
  · rcases hs : sortedB xs with _ | _
    · have HP := Lib.hid hp
      have HS := Lib.hid hs
      clear hp hs
      go_enter Try.func20, Try.ntmps20
      go_wp2_with fail
      refine (iPartsOk _ _ _ _ _ _ rfl hl HA.out).mono ?_
      rintro e w' ⟨rfl, rfl⟩
      rw [HP.out]
      go_wp2_with fail
      refine (isSorted_any _ _ _ _ _ rfl hl HA.out).mono ?_
      rintro e w' ⟨rfl, n, rfl⟩
      rw [HS.out]
      go_wp2_with fail
      go_ret
      exact ⟨ret_bool (by rw [issue_notSorted HS.out]), n, rfl⟩
    · have HP := Lib.hid hp
      have HS := Lib.hid hs
      have HR := Lib.hid (partsOk_range hp)
      clear hp hs
      go_enter Try.func20, Try.ntmps20
      go_wp2_with fail
      refine (iPartsOk _ _ _ _ _ _ rfl hl HA.out).mono ?_
      rintro e w' ⟨rfl, rfl⟩
      rw [HP.out]
      go_wp2_with fail
      refine (isSorted_any _ _ _ _ _ rfl hl HA.out).mono ?_
      rintro e w' ⟨rfl, n, rfl⟩
      rw [HS.out]
      go_wp2_with fail
      go_loop [18] (fun i => ∃ k : Nat, k ≤ xs.length ∧ i = .int .i64 k ∧ Hid (∀ i x, i < k → xs[i]? = some x → anyWithin x (xs.drop (i + 1)) = false)) (fun i => xs.length - (intOf i).toNat)
      case atStart => exact ⟨0, Nat.zero_le _, rfl, fun i x h => by omega⟩
      case round =>
        obtain ⟨k, hk, rfl, hsofar⟩ := hrel
        by_cases hlt : k < xs.length
        · obtain ⟨b, off, x, rfl, hcell, hx, _⟩ := HA.out.elem hlt
          obtain ⟨he1, he2⟩ := HR.out x (elem_mem hx)
          have HD : Hid (∀ y ∈ xs.drop (k + 1), 0 ≤ y ∧ y < 256) := fun y hy => HR.out y (List.mem_of_mem_drop hy)
          have hlen : Hid (xs.length - (k + 1) = (xs.drop (k + 1)).length) := by unfold Hid; simp
          by_cases hck : c = k + 1
          · subst hck
            go_wp2_with fail
            refine (iWithinAny _ _ _ _ (xs.drop (k + 1)) _ (by rw [← hlen.out]; try omega) he1 he2 HD.out (by omega) (by exact Nums.none_ (by rw [← hlen.out]; omega))).mono ?_
            rintro e w' ⟨rfl, rfl⟩
            go_wp2_with fail
            · rename_i hw
              go_ret
              exact ⟨ret_bool (by rw [issue_hit hx hw]), _, rfl⟩
            · rename_i hw
              go_round
              case rel => exact ⟨k + 1, by omega, by go_num, later_snoc hsofar hx (by simpa using hw)⟩
              case measure => simp [intOf]; omega
          · skip
            go_wp2_with fail
            refine (iWithinAny _ _ _ _ (xs.drop (k + 1)) _ (by rw [← hlen.out]; try omega) he1 he2 HD.out (by omega) (by exact HA.out.from_ (k + 1))).mono ?_
            rintro e w' ⟨rfl, rfl⟩
            go_wp2_with fail
            · rename_i hw
              go_ret
              exact ⟨ret_bool (by rw [issue_hit hx hw]), _, rfl⟩
            · rename_i hw
              go_round
              case rel => exact ⟨k + 1, by omega, by go_num, later_snoc hsofar hx (by simpa using hw)⟩
              case measure => simp [intOf]; omega
        · obtain rfl : k = xs.length := by omega
          have HF : Hid (issueOkB t xs = true) := by
            unfold Hid issueOkB
            rw [HP.out, pair_of HR.out HS.out (fun i x hx => hsofar.out i x (List.getElem?_eq_some_iff.1 hx).1 hx)]; rfl
          clear hsofar
          go_wp2
          go_ret
          exact ⟨ret_bool HF.out.symm, _, rfl⟩
end Go.Proofs.Ytmdpolllmipppaa

namespace Go.Proofs.Ytmdpolllmipppaa
open Go.RowKit

theorem pair_snoc_of {ys : List Int} {x : Int} (h : pairB ys = true) (hx : ∀ y ∈ ys, y < x ∧ withinB x y = false ∧ withinB y x = false) : pairB (ys ++ [x]) = true := by
  unfold pairB at *
  apply decide_eq_true
  rw [List.pairwise_append]
  refine ⟨of_decide_eq_true h, by simp, fun a ha b hb => ?_⟩
  obtain rfl : b = x := by simpa using hb
  obtain ⟨h1, h2, h3⟩ := hx a ha
  simp [apartB, h1, h2, h3]
theorem pair_lt {xs : List Int} (h : pairB xs = true) {i j : Nat} {x y : Int} (hij : i < j) (hx : xs[i]? = some x) (hy : xs[j]? = some y) : x < y ∧ withinB x y = false ∧ withinB y x = false := by
  obtain ⟨hi, rfl⟩ := List.getElem?_eq_some_iff.1 hx
  obtain ⟨hj, rfl⟩ := List.getElem?_eq_some_iff.1 hy
  have := List.pairwise_iff_getElem.1 (of_decide_eq_true h) i j hi hj hij
  simp [apartB] at this
  exact ⟨this.1.1, by simp [this.1.2], by simp [this.2]⟩
theorem issue_notPair {t : Int} {xs : List Int} {i j : Nat} {x y : Int} (hij : i < j) (hx : xs[i]? = some x) (hy : xs[j]? = some y) (h : y ≤ x ∨ withinB x y = true ∨ withinB y x = true) : issueOkB t xs = false := by
  unfold issueOkB
  rw [Bool.and_eq_false_iff]; right
  cases hp : pairB xs
  · rfl
  · obtain ⟨h1, h2, h3⟩ := pair_lt hp hij hx hy
    rcases h with h | h | h
    · omega
    · rw [h2] at h; cases h
    · rw [h3] at h; cases h

/-- What stands behind k rounds: the first k sets are sets and stand apart. -/
def Pre (t : Int) (xs : List Int) (k : Nat) : Prop := (xs.take k).all (setOkB t) = true ∧ pairB (xs.take k) = true
theorem pre_zero (t : Int) (xs : List Int) : Hid (Pre t xs 0) := ⟨rfl, rfl⟩
theorem pre_next {t : Int} {xs : List Int} {k : Nat} {x : Int} (h : Hid (Pre t xs k)) (hx : Hid (xs[k]? = some x)) (hs : setOkB t x = true) (ha : k = 0 ∨ ∃ y, xs[k - 1]? = some y ∧ y < x)
    (hw : ∀ i y, i < k → xs[i]? = some y → withinB x y = false ∧ withinB y x = false) : Hid (Pre t xs (k + 1)) := by
  obtain ⟨h1, h2⟩ := h.out
  refine ⟨by rw [all_snoc hx, h1, hs]; rfl, ?_⟩
  rw [take_snoc hx]
  refine pair_snoc_of h2 fun y hy => ?_
  obtain ⟨i, hi, rfl⟩ := List.mem_iff_getElem.1 hy
  have hik : i < k := by rw [List.length_take] at hi; omega
  have hxi : xs[i]? = some (xs.take k)[i] := by rw [List.getElem_take, List.getElem?_eq_getElem]
  refine ⟨?_, hw i _ hik hxi⟩
  rcases ha with rfl | ⟨z, hz, hzx⟩
  · omega
  · by_cases e : i = k - 1
    · rw [← e, hxi] at hz; cases hz; exact hzx
    · have h3 : (xs.take k)[k - 1]? = some z := by rw [List.getElem?_take_of_lt (by omega)]; exact hz
      have := (pair_lt h2 (show i < k - 1 by omega) (List.getElem?_eq_getElem hi) h3).1
      omega
theorem pre_end {t : Int} {xs : List Int} (h : Hid (Pre t xs xs.length)) : issueOkB t xs = (inB t 1 3 && inB (xs.length : Int) 1 70) := by
  obtain ⟨h1, h2⟩ := h.out
  rw [List.take_length] at h1 h2
  unfold issueOkB partsOkB
  rw [h1, h2]
  cases xs with
  | nil => simp [inB]
  | cons x r =>
    have hx : setOkB t x = true := by rw [List.all_eq_true] at h1; exact h1 x (by simp)
    have := setOkB_lt hx
    unfold inB
    rw [Bool.eq_iff_iff]
    simp only [List.length_cons, Bool.and_eq_true, decide_eq_true_eq, and_true]
    omega

theorem sSetOk_is {t s : Int} {b : Bool} (h : Hid (setOkB t s = b)) (w : World) : Calls Try.prog 30 #[.int .i64 t, .int .i64 s] w fun e w' => e = .returned (.bool b) ∧ w = w' :=
  (sSetOk t s w).mono fun _ _ ⟨he, hw⟩ => ⟨he.trans (ret_bool h.out), hw⟩
theorem sWithin_is {a b : Int} {v : Bool} (h : Hid (withinB a b = v)) (ha : 0 ≤ a) (ha2 : a < 256) (hb : 0 ≤ b) (hb2 : b < 256) (w : World) :
    Calls Try.prog 95 #[.int .i64 a, .int .i64 b] w fun e w' => e = .returned (.bool v) ∧ ∃ n, w' = w.drewN n :=
  (sWithin a b ha ha2 hb hb2 w).mono fun _ _ ⟨he, hw⟩ => ⟨he.trans (ret_bool h.out), hw⟩
theorem quiet_more {P : Program} {f : FuncId} {args : Array Value} {w : World} {a n : Nat} {v : Value}
    (h : Calls P f args (w.drewN (a + n)) fun e w' => e = .returned v ∧ ∃ m, w' = (w.drewN (a + n)).drewN m) : Calls P f args (w.drewN (a + n)) fun e w'' => e = .returned v ∧ ∃ m, w'' = w.drewN (a + m) :=
  h.mono fun _ _ ⟨he, m, hm⟩ => ⟨he, n + m, by rw [hm, World.drewN_drewN, Nat.add_assoc]⟩

theorem apart_snoc {xs : List Int} {i : Nat} {x y : Int} (h : Hid (∀ i' y, i' < i → xs[i']? = some y → withinB x y = false ∧ withinB y x = false)) (hy : Hid (xs[i]? = some y))
    (h1 : withinB x y = false) (h2 : withinB y x = false) : Hid (∀ i' y, i' < i + 1 → xs[i']? = some y → withinB x y = false ∧ withinB y x = false) := by
  intro j z hj hz
  by_cases e : j = i
  · subst e
    have := hy.out.symm.trans hz
    cases this
    exact ⟨h1, h2⟩
  · exact h.out j z (by omega) hz

set_option maxHeartbeats 2000000 in
theorem sIssueOk (t : Int) (A : Option Addr) (nn c : Nat) (xs : List Int) (w : World) (hn : nn = xs.length) (hl : nn ≤ 1048576) (hA : Nums .i64 w A xs) :
    Calls Try.prog 98 #[.int .i64 t, .slice A nn c] w fun e w' => e = .returned (.bool (issueOkB t xs)) ∧ ∃ n, w' = w.drewN n := by
  subst hn
  have HA := Lib.hid hA
  clear hA
  go_enter Try.func98, Try.ntmps98
  go_wp2
  go_loopw [5] (fun i wr => ∃ k : Nat, k ≤ xs.length ∧ i = .int .i64 k ∧ Hid (Pre t xs k) ∧ ∃ n, wr = w.drewN n) (fun i _ => xs.length - (intOf i).toNat)
  case atStart => exact ⟨0, Nat.zero_le _, rfl, pre_zero t xs, 0, rfl⟩
  case round =>
    obtain ⟨k, hk, rfl, hpre, n, rfl⟩ := hrel
    by_cases hlt : k < xs.length
    · obtain ⟨b, off, x, rfl, hcell, hx, _⟩ := HA.out.elem hlt
      rcases hs : setOkB t x with _ | _
      · have HS := Lib.hid hs
        clear hs
        go_wp2
        go_quiet ((go_at_call 30; exact quiet_add (sSetOk_is HS _)))
        go_wp2
        go_ret
        exact ⟨ret_bool (by rw [issue_notParts (partsOk_miss hx HS.out)]), _, World.drewN_drewN _ _ _⟩
      · have HS := Lib.hid hs
        obtain ⟨_, _, hx0, _, hx1⟩ := setOkB_lt hs
        clear hs
        have HALL : Hid (∀ i y, i < k → xs[i]? = some y → 0 ≤ y ∧ y < 256) := by
          intro i y hi hy
          have h1 := hpre.out.1
          rw [List.all_eq_true] at h1
          have := setOkB_lt (h1 y (List.mem_of_getElem? (by rw [List.getElem?_take_of_lt hi]; exact hy)))
          omega
        by_cases hk0 : k = 0
        · have hd : decide (0 < k) = false := by simp; omega
          have hadj : Hid (k = 0 ∨ ∃ y, xs[k - 1]? = some y ∧ y < x) := .inl hk0
          have HK := Lib.hid hk0
          clear hk0
          go_wp2
          go_quiet ((go_at_call 30; exact quiet_add (sSetOk_is HS _)))
          go_wp2
          go_loopw [6] (fun j wr => ∃ i : Nat, i ≤ k ∧ j = .int .i64 i ∧ Hid (∀ i' y, i' < i → xs[i']? = some y → withinB x y = false ∧ withinB y x = false) ∧ ∃ m, wr = w.drewN m) (fun j _ => k - (intOf j).toNat)
          case atStart => exact ⟨0, Nat.zero_le _, rfl, fun i' y h => by omega, _, World.drewN_drewN _ _ _⟩
          case round =>
            obtain ⟨i, hi, rfl, hsofar, m, rfl⟩ := hrel
            by_cases hik : i < k
            · obtain ⟨b', off', y, hAA, hcy, hy, _⟩ := HA.out.elem (i := i) (by omega)
              cases hAA
              have hin : i < xs.length := by omega
              have hyr := HALL.out i y hik hy.out
              obtain ⟨hy0, hy1⟩ := hyr
              rcases h1 : withinB x y with _ | _
              · rcases h2 : withinB y x with _ | _
                · go_wp2
                  go_quiet ((go_at_call 95; exact quiet_more (sWithin _ _ (by omega) (by omega) (by omega) (by omega) _)))
                  go_wp2
                  go_roundw
                  case rel => exact ⟨i + 1, by omega, by go_num, apart_snoc hsofar hy h1 h2, _, rfl⟩
                  case measure => simp [intOf]; omega
                · have HF := Lib.hid (issue_notPair (t := t) hik hy.out hx.out (.inr (.inl h2)))
                  go_wp2
                  go_quiet ((go_at_call 95; exact quiet_more (sWithin _ _ (by omega) (by omega) (by omega) (by omega) _)))
                  go_wp2
                  go_ret
                  exact ⟨ret_bool HF.out.symm, _, World.drewN_drewN _ _ _⟩
              · have HF := Lib.hid (issue_notPair (t := t) hik hy.out hx.out (.inr (.inr h1)))
                have H1 := Lib.hid h1
                clear h1
                go_wp2
                go_quiet ((go_at_call 95; exact quiet_more (sWithin_is H1 (by omega) (by omega) (by omega) (by omega) _)))
                go_wp2
                go_ret
                exact ⟨ret_bool HF.out.symm, _, World.drewN_drewN _ _ _⟩
            · obtain rfl : i = k := by omega
              have hnext := pre_next hpre hx HS.out hadj.out hsofar.out
              clear hsofar
              go_wp2
              go_roundw
              case rel => exact ⟨i + 1, by omega, by go_num, hnext, _, rfl⟩
              case measure => simp [intOf]; omega
        · have hd : decide (0 < k) = true := by simp; omega
          have e1 : IntKind.i64.wrap ((k : Int) - 1) = (k : Int) - 1 := IntWalk.i64_in _ (by omega)
          have e2 : (0 : Int) ≤ (k : Int) - 1 := by omega
          have e3 : ((k : Int) - 1).toNat = k - 1 := by omega
          have e4 : (k : Int) - 1 < (xs.length : Int) := by omega
          have e5 : (1 : Int) ≤ (k : Int) := by omega
          obtain ⟨b', off', z, hAA, hcz, hz, _⟩ := HA.out.elem (i := k - 1) (by omega)
          cases hAA
          by_cases hle : x ≤ z
          · have hdd : decide (x ≤ z) = true := by simp; omega
            have HF := Lib.hid (issue_notPair (t := t) (show k - 1 < k by omega) hz.out hx.out (.inl hle))
            go_wp2
            go_quiet ((go_at_call 30; exact quiet_add (sSetOk_is HS _)))
            go_wp2
            go_ret
            exact ⟨ret_bool HF.out.symm, _, World.drewN_drewN _ _ _⟩
          have hdd : decide (x ≤ z) = false := by simp; omega
          have hadj : Hid (k = 0 ∨ ∃ y, xs[k - 1]? = some y ∧ y < x) := .inr ⟨z, hz.out, by omega⟩
          go_wp2
          go_quiet ((go_at_call 30; exact quiet_add (sSetOk_is HS _)))
          clear e1 e2 e3 e4 e5 hdd hd
          go_wp2
          go_loopw [6] (fun j wr => ∃ i : Nat, i ≤ k ∧ j = .int .i64 i ∧ Hid (∀ i' y, i' < i → xs[i']? = some y → withinB x y = false ∧ withinB y x = false) ∧ ∃ m, wr = w.drewN m) (fun j _ => k - (intOf j).toNat)
          case atStart => exact ⟨0, Nat.zero_le _, rfl, fun i' y h => by omega, _, World.drewN_drewN _ _ _⟩
          case round =>
            obtain ⟨i, hi, rfl, hsofar, m, rfl⟩ := hrel
            by_cases hik : i < k
            · obtain ⟨b', off', y, hAA, hcy, hy, _⟩ := HA.out.elem (i := i) (by omega)
              cases hAA
              have hin : i < xs.length := by omega
              have hyr := HALL.out i y hik hy.out
              obtain ⟨hy0, hy1⟩ := hyr
              rcases h1 : withinB x y with _ | _
              · rcases h2 : withinB y x with _ | _
                · go_wp2
                  go_quiet ((go_at_call 95; exact quiet_more (sWithin _ _ (by omega) (by omega) (by omega) (by omega) _)))
                  go_wp2
                  go_roundw
                  case rel => exact ⟨i + 1, by omega, by go_num, apart_snoc hsofar hy h1 h2, _, rfl⟩
                  case measure => simp [intOf]; omega
                · have HF := Lib.hid (issue_notPair (t := t) hik hy.out hx.out (.inr (.inl h2)))
                  go_wp2
                  go_quiet ((go_at_call 95; exact quiet_more (sWithin _ _ (by omega) (by omega) (by omega) (by omega) _)))
                  go_wp2
                  go_ret
                  exact ⟨ret_bool HF.out.symm, _, World.drewN_drewN _ _ _⟩
              · have HF := Lib.hid (issue_notPair (t := t) hik hy.out hx.out (.inr (.inr h1)))
                have H1 := Lib.hid h1
                clear h1
                go_wp2
                go_quiet ((go_at_call 95; exact quiet_more (sWithin_is H1 (by omega) (by omega) (by omega) (by omega) _)))
                go_wp2
                go_ret
                exact ⟨ret_bool HF.out.symm, _, World.drewN_drewN _ _ _⟩
            · obtain rfl : i = k := by omega
              have hnext := pre_next hpre hx HS.out hadj.out hsofar.out
              clear hsofar
              go_wp2
              go_roundw
              case rel => exact ⟨i + 1, by omega, by go_num, hnext, _, rfl⟩
              case measure => simp [intOf]; omega
    · obtain rfl : k = xs.length := by omega
      have HE := Lib.hid (pre_end hpre)
      clear hpre
      rcases ht : inB t 1 3 with _ | _
      · have HT := Lib.hid ht
        clear ht
        go_wp2_with fail
        refine (sIn _ _ _ _).mono ?_
        rintro e w' ⟨rfl, rfl⟩
        rw [HT.out]
        go_wp2_with fail
        go_ret
        exact ⟨ret_bool (by rw [HE.out, HT.out]; rfl), _, rfl⟩
      · have HT := Lib.hid ht
        clear ht
        go_wp2_with fail
        refine (sIn _ _ _ _).mono ?_
        rintro e w' ⟨rfl, rfl⟩
        rw [HT.out]
        go_wp2_with fail
        refine (sIn _ _ _ _).mono ?_
        rintro e w' ⟨rfl, rfl⟩
        go_wp2_with fail
        go_ret
        exact ⟨ret_bool (by rw [HE.out, HT.out]; rfl), _, rfl⟩
end Go.Proofs.Ytmdpolllmipppaa

namespace Go.Proofs.Ytmdpolllmipppaa
open Go.RowKit

def settlesB (t : Int) (xs : List Int) (s : Int) : Bool := issueOkB t xs && setOkB t s && anyWithin s xs

theorem iSetOk_is {t s : Int} {b : Bool} (h : Hid (setOkB t s = b)) (w : World) : Calls Try.prog 60 #[.int .i64 t, .int .i64 s] w fun e w' => e = .returned (.bool b) ∧ w = w' :=
  (iSetOk t s w).mono fun _ _ ⟨he, hw⟩ => ⟨he.trans (ret_bool h.out), hw⟩
theorem iIssueOk_is {t : Int} {xs : List Int} {b : Bool} (h : Hid (issueOkB t xs = b)) (A : Option Addr) (nn c : Nat) (w : World) (hn : nn = xs.length) (hl : nn ≤ 1048576) (hc : nn ≤ c) (hm : c ≤ maxLen) (hA : Nums .i64 w A xs) :
    Calls Try.prog 20 #[.int .i64 t, .slice A nn c] w fun e w' => e = .returned (.bool b) ∧ ∃ n, w' = w.drewN n :=
  (iIssueOk t A nn c xs w hn hl hc hm hA).mono fun _ _ ⟨he, hw⟩ => ⟨he.trans (ret_bool h.out), hw⟩
theorem sIssueOk_is {t : Int} {xs : List Int} {b : Bool} (h : Hid (issueOkB t xs = b)) (A : Option Addr) (nn c : Nat) (w : World) (hn : nn = xs.length) (hl : nn ≤ 1048576) (hA : Nums .i64 w A xs) :
    Calls Try.prog 98 #[.int .i64 t, .slice A nn c] w fun e w' => e = .returned (.bool b) ∧ ∃ n, w' = w.drewN n :=
  (sIssueOk t A nn c xs w hn hl hA).mono fun _ _ ⟨he, hw⟩ => ⟨he.trans (ret_bool h.out), hw⟩

set_option maxHeartbeats 1000000 in
theorem iSettles (t : Int) (A : Option Addr) (nn c : Nat) (xs : List Int) (s : Int) (w : World) (hn : nn = xs.length) (hl : nn ≤ 1048576) (hc : nn ≤ c) (hm : c ≤ maxLen) (hA : Nums .i64 w A xs) :
    Calls Try.prog 31 #[.int .i64 t, .slice A nn c, .int .i64 s] w fun e w' => e = .returned (.bool (settlesB t xs s)) ∧ ∃ n, w' = w.drewN n := by
  subst hn
  have HM := Lib.hid hm
  have HA := Lib.hid hA
  clear hA hm
  rcases h1 : setOkB t s with _ | _
  · have H1 := Lib.hid h1
    have HF : Hid (settlesB t xs s = false) := by unfold Hid settlesB; rw [h1]; simp
    clear h1
    go_enter Try.func31, Try.ntmps31
    go_wp2_with fail
    refine (iSetOk_is H1 _).mono ?_
    rintro e w' ⟨rfl, rfl⟩
    go_wp2_with fail
    go_ret
    exact ⟨ret_bool HF.out.symm, 0, rfl⟩
  · rcases h2 : issueOkB t xs with _ | _
    · have H1 := Lib.hid h1
      have H2 := Lib.hid h2
      have HF : Hid (settlesB t xs s = false) := by unfold Hid settlesB; rw [h2]; rfl
      clear h1 h2
      go_enter Try.func31, Try.ntmps31
      go_wp2_with fail
      refine (iSetOk_is H1 _).mono ?_
      rintro e w' ⟨rfl, rfl⟩
      go_wp2_with fail
      refine (iIssueOk_is H2 _ _ _ _ rfl hl hc HM.out HA.out).mono ?_
      rintro e w' ⟨rfl, n, rfl⟩
      go_wp2_with fail
      go_ret
      exact ⟨ret_bool HF.out.symm, _, rfl⟩
    · have H1 := Lib.hid h1
      have H2 := Lib.hid h2
      have HF : Hid (settlesB t xs s = anyWithin s xs) := by unfold Hid settlesB; rw [h1, h2]; rfl
      obtain ⟨_, _, hs0, _, hs1⟩ := setOkB_lt h1
      clear h1 h2
      go_enter Try.func31, Try.ntmps31
      go_wp2_with fail
      refine (iSetOk_is H1 _).mono ?_
      rintro e w' ⟨rfl, rfl⟩
      go_wp2_with fail
      refine (iIssueOk_is H2 _ _ _ _ rfl hl hc HM.out HA.out).mono ?_
      rintro e w' ⟨rfl, n, rfl⟩
      go_wp2_with fail
      refine (iWithinAny _ _ _ _ xs _ rfl hs0 hs1 (issue_range H2.out) hl (by exact HA.out)).mono ?_
      rintro e w' ⟨rfl, rfl⟩
      go_wp2_with fail
      go_ret
      exact ⟨ret_bool HF.out.symm, _, rfl⟩

def unionI (xs : List Int) : Int := xs.foldl orI 0
def grantedI (t : Int) (xs : List Int) : Int := if issueOkB t xs = true then unionI xs else -1
theorem union_snoc {xs : List Int} {i : Nat} {x : Int} (hx : Hid (xs[i]? = some x)) : unionI (xs.take (i + 1)) = orI (unionI (xs.take i)) x := by
  unfold unionI; rw [take_snoc hx, List.foldl_append]; rfl
theorem union_range {xs : List Int} (h : ∀ x ∈ xs, 0 ≤ x ∧ x < 256) : 0 ≤ unionI xs ∧ unionI xs < 256 := by
  unfold unionI
  have : ∀ (l : List Int) (a : Int), 0 ≤ a ∧ a < 256 → (∀ x ∈ l, 0 ≤ x ∧ x < 256) → 0 ≤ l.foldl orI a ∧ l.foldl orI a < 256 := by
    intro l
    induction l with
    | nil => intro a ha _; exact ha
    | cons x r ih =>
      intro a ha hr
      exact ih _ ⟨orI_nonneg _ _, orI_lt _ _ ha.2 (hr x (by simp)).2⟩ fun y hy => hr y (by simp [hy])
  exact this xs 0 (by omega) h
theorem union_take_range {xs : List Int} (h : Hid (∀ x ∈ xs, 0 ≤ x ∧ x < 256)) (k : Nat) : 0 ≤ unionI (xs.take k) ∧ unionI (xs.take k) < 256 :=
  union_range fun x hx => h.out x (List.mem_of_mem_take hx)

theorem ofInt_i64 (a : Nat) (ha : a < 9223372036854775808) : (BitVec.ofInt 64 (a : Int)).toNat = a := by
  rw [BitVec.ofInt_natCast, BitVec.toNat_ofNat]; exact Nat.mod_eq_of_lt (by omega)
theorem bits_or (a b : Int) (ha : 0 ≤ a) (ha2 : a < 1024) (hb : 0 ≤ b) (hb2 : b < 1024) : bits .or .i64 a b = orI a b := by
  obtain ⟨a, rfl⟩ := Int.eq_ofNat_of_zero_le ha
  obtain ⟨b, rfl⟩ := Int.eq_ofNat_of_zero_le hb
  have hx : a ||| b < 2 ^ 10 := Nat.or_lt_two_pow (by omega) (by omega)
  show IntKind.i64.wrap ((BitVec.ofInt 64 (a : Int) ||| BitVec.ofInt 64 (b : Int)).toNat : Int) = _
  rw [BitVec.toNat_or, ofInt_i64 a (by omega), ofInt_i64 b (by omega), IntKind.wrap_i64, orI_nat]
  omega
theorem bits_and (a b : Int) (ha : 0 ≤ a) (ha2 : a < 1024) (hb : 0 ≤ b) (_ : b < 1024) : bits .and .i64 a b = andI a b := by
  obtain ⟨a, rfl⟩ := Int.eq_ofNat_of_zero_le ha
  obtain ⟨b, rfl⟩ := Int.eq_ofNat_of_zero_le hb
  have hx : a &&& b ≤ a := Nat.and_le_left
  show IntKind.i64.wrap ((BitVec.ofInt 64 (a : Int) &&& BitVec.ofInt 64 (b : Int)).toNat : Int) = _
  rw [BitVec.toNat_and, ofInt_i64 a (by omega), ofInt_i64 b (by omega), IntKind.wrap_i64, andI_nat]
  omega

set_option maxHeartbeats 1000000 in
theorem iGrantedBy (t : Int) (A : Option Addr) (nn c : Nat) (xs : List Int) (w : World) (hn : nn = xs.length) (hl : nn ≤ 1048576) (hc : nn ≤ c) (hm : c ≤ maxLen) (hA : Nums .i64 w A xs) :
    Calls Try.prog 22 #[.int .i64 t, .slice A nn c] w fun e w' => e = .returned (.int .i64 (grantedI t xs)) ∧ ∃ n, w' = w.drewN n := by
  subst hn
  have HM := Lib.hid hm
  have HA := Lib.hid hA
  clear hA hm
  rcases h2 : issueOkB t xs with _ | _
  · have H2 := Lib.hid h2
    have HF : Hid (grantedI t xs = -1) := by unfold Hid grantedI; rw [h2]; rfl
    clear h2
    go_enter Try.func22, Try.ntmps22
    go_wp2_with fail
    refine (iIssueOk_is H2 _ _ _ _ rfl hl hc HM.out HA.out).mono ?_
    rintro e w' ⟨rfl, n, rfl⟩
    go_wp2_with fail
    go_ret
    exact ⟨ret_int HF.out.symm, _, rfl⟩
  · have H2 := Lib.hid h2
    have HR := Lib.hid (issue_range h2)
    have HF : Hid (grantedI t xs = unionI xs) := by unfold Hid grantedI; rw [h2]; rfl
    clear h2
    go_enter Try.func22, Try.ntmps22
    go_wp2_with fail
    refine (iIssueOk_is H2 _ _ _ _ rfl hl hc HM.out HA.out).mono ?_
    rintro e w' ⟨rfl, n, rfl⟩
    go_wp2_with fail
    go_loop [5, 14] (fun g i => ∃ k : Nat, k ≤ xs.length ∧ i = .int .i64 k ∧ g = .int .i64 (unionI (xs.take k))) (fun _ i => xs.length - (intOf i).toNat)
    case atStart => exact ⟨0, Nat.zero_le _, rfl, rfl⟩
    case round =>
      obtain ⟨k, hk, rfl, rfl⟩ := hrel
      by_cases hlt : k < xs.length
      · obtain ⟨b, off, x, rfl, hcell, hx, _⟩ := HA.out.elem hlt
        obtain ⟨he1, he2⟩ := HR.out x (elem_mem hx)
        obtain ⟨hg1, hg2⟩ := union_take_range HR k
        have HU : Hid (unionI (xs.take (k + 1)) = bits .or .i64 (unionI (xs.take k)) x) := by unfold Hid; rw [union_snoc hx, bits_or _ _ hg1 (by omega) he1 (by omega)]
        go_wp2
        go_round
        case rel => exact ⟨k + 1, by omega, by go_num, by rw [HU.out]⟩
        case measure => simp [intOf]; omega
      · obtain rfl : k = xs.length := by omega
        have HT : Hid (unionI (xs.take xs.length) = grantedI t xs) := by unfold Hid; rw [List.take_length, HF.out]
        go_wp2
        go_ret
        exact ⟨ret_int (by first | exact HT.out | (rw [HF.out])), _, rfl⟩

end Go.Proofs.Ytmdpolllmipppaa

namespace Go.Proofs.Ytmdpolllmipppaa
open Go.RowKit

def statementL (t s : Int) : List Int := if setOkB t s = true then [s] else []

set_option maxHeartbeats 400000 in
theorem iStatementOf (t s : Int) (w : World) : Calls Try.prog 21 #[.int .i64 t, .int .i64 s] w fun e w' => ∃ v, e = .returned v ∧ Owns w' w.heap.size v (statementL t s) ∧ Below w.heap.size w w' := by
  rcases h1 : setOkB t s with _ | _
  · have H1 := Lib.hid h1
    have HF : Hid (statementL t s = []) := by unfold Hid statementL; rw [h1]; rfl
    clear h1
    go_enter Try.func21, Try.ntmps21
    go_wp2_with fail
    refine (iSetOk_is H1 _).mono ?_
    rintro e w' ⟨rfl, rfl⟩
    go_wp2_with fail
    go_ret
    exact ⟨_, rfl, by rw [HF.out]; exact Owns.nil _ _, Below.refl _ _⟩
  · have H1 := Lib.hid h1
    have HF : Hid (statementL t s = [s]) := by unfold Hid statementL; rw [h1]; rfl
    clear h1
    go_enter Try.func21, Try.ntmps21
    go_wp2_with fail
    refine (iSetOk_is H1 _).mono ?_
    rintro e w' ⟨rfl, rfl⟩
    go_wp2_with fail
    go_ret
    exact ⟨_, rfl, by rw [HF.out]; exact Owns.lit _ _ [s] (Nat.le_refl _) (by simp [maxLen]), (Below.refl _ _).alloc (Nat.le_refl _) _⟩

end Go.Proofs.Ytmdpolllmipppaa

namespace Go.Proofs.Ytmdpolllmipppaa
open Go.RowKit

/-- Block g is a reader that has drawn at most u numbers. -/
def Rd (w : World) (g : Nat) (u : Nat) : Prop :=
  ∃ (A : Option Addr) (c : Nat) (zs : List Int) (p : Nat), w.heap[g]? = some (.cells #[.slice A zs.length c, .int .i64 p] 80 (0, 0)) ∧ Nums .u8 w A zs ∧ zs.length ≤ 2000 ∧ p ≤ u ∧
    (∀ z ∈ zs, 0 ≤ z ∧ z ≤ 255) ∧ (∀ ad, 0 < zs.length → A = some ad → ad.block < g)

theorem Rd.more {w : World} {g u v : Nat} (h : Rd w g u) (hv : u ≤ v) : Rd w g v := by
  obtain ⟨A, c, zs, p, h1, h2, h3, h4, h5, h6⟩ := h
  exact ⟨A, c, zs, p, h1, h2, h3, by omega, h5, h6⟩
theorem Rd.below {w w' : World} {g u : Nat} (h : Rd w g u) (hb : Below w.heap.size w w') : Rd w' g u := by
  obtain ⟨A, c, zs, p, h1, h2, h3, h4, h5, h6⟩ := h
  exact ⟨A, c, zs, p, (hb.block g (Array.getElem?_eq_some_iff.1 h1).1).trans h1, h2.below hb, h3, h4, h5, h6⟩
theorem Rd.drewN {w : World} {g u : Nat} (h : Rd w g u) (n : Nat) : Rd (w.drewN n) g u := h
theorem Rd.lt {w : World} {g u : Nat} (h : Rd w g u) : g < w.heap.size := by
  obtain ⟨A, c, zs, p, h1, _⟩ := h
  exact (Array.getElem?_eq_some_iff.1 h1).1

theorem grown_drewN {a w : World} {row : Option Nat} (h : a.grownBy w row) (n : Nat) : a.grownBy (w.drewN n) row := ⟨h.os, h.tape, h.output, h.size, h.block⟩
/-- What a draw leaves: a number of its range; the reader has drawn one more; nothing else has turned. -/
def PickPost (g u : Nat) (n : Int) (w : World) (e : Ending) (w' : World) : Prop := ∃ k : Int, e = .returned (.int .i64 k) ∧ 0 ≤ k ∧ (1 ≤ n → k < n) ∧ Rd w' g (u + 1) ∧ w.grownBy w' (some g)
theorem rd_step {w : World} {g u p c : Nat} {A : Option Addr} {zs : List Int} (h1 : w.heap[g]? = some (.cells #[.slice A zs.length c, .int .i64 p] 80 (0, 0))) (h2 : Nums .u8 w A zs) (h3 : zs.length ≤ 2000) (h4 : p ≤ u)
    (h5 : ∀ z ∈ zs, 0 ≤ z ∧ z ≤ 255) (h6 : ∀ ad, 0 < zs.length → A = some ad → ad.block < g) (n : Nat) :
    Rd ((w.setCell ⟨g, 1, none⟩ (.int .i64 ((p : Int) + 1))).drewN n) g (u + 1) ∧ w.grownBy ((w.setCell ⟨g, 1, none⟩ (.int .i64 ((p : Int) + 1))).drewN n) (some g) := by
  have hg : w.grownBy (w.setCell ⟨g, 1, none⟩ (.int .i64 ((p : Int) + 1))) (some g) := grown_set (World.grownBy.refl w _) 1 _
  refine ⟨⟨A, c, zs, p + 1, ?_, (fun hp => (h2.grown hg (fun ad ha e => by have := h6 ad hp ha; injection e; omega) : Nums .u8 (w.setCell ⟨g, 1, none⟩ (.int .i64 ((p : Int) + 1))) A zs) hp), h3, by omega, h5, h6⟩, grown_drewN hg n⟩
  show (w.setCell ⟨g, 1, none⟩ (.int .i64 ((p : Int) + 1))).heap[g]? = _
  simp [World.setCell, Array.getElem?_modify, h1]

theorem bits_xor_nonneg (a b : Int) (ha : 0 ≤ a) (ha2 : a < 1073741824) (hb : 0 ≤ b) (hb2 : b < 1073741824) : 0 ≤ bits .xor .i64 a b := by
  obtain ⟨a, rfl⟩ := Int.eq_ofNat_of_zero_le ha
  obtain ⟨b, rfl⟩ := Int.eq_ofNat_of_zero_le hb
  have hx : a ^^^ b < 2 ^ 30 := Nat.xor_lt_two_pow (by omega) (by omega)
  show 0 ≤ IntKind.i64.wrap ((BitVec.ofInt 64 (a : Int) ^^^ BitVec.ofInt 64 (b : Int)).toNat : Int)
  rw [BitVec.toNat_xor, BitVec.ofInt_natCast, BitVec.ofInt_natCast, BitVec.toNat_ofNat, BitVec.toNat_ofNat, Nat.mod_eq_of_lt (by omega), Nat.mod_eq_of_lt (by omega), IntKind.wrap_i64]
  omega

set_option maxHeartbeats 1000000 in
theorem pick_any (g u : Nat) (n : Int) (w : World) (hn : n ≤ 1048576) (hn0 : -1048576 ≤ n) (hu : u ≤ 1048576) (hR : Rd w g u) :
    Calls Try.prog 67 #[.pointer (some ⟨g, 0, none⟩), .int .i64 n] w fun e w' => PickPost g u n w e w' := by
  obtain ⟨A, c, zs, p, h1, h2, h3, h4, h5, h6⟩ := hR
  have hc0 : w.cell? ⟨g, 0, none⟩ = some (.slice A zs.length c) := by simp [World.cell?, h1]
  have hc1 : w.cell? ⟨g, 1, none⟩ = some (.int .i64 p) := by simp [World.cell?, h1]
  have hf1 : w.frozen? ⟨g, 1, none⟩ = false := by simp [World.frozen?, h1]
  have hf1' : (w.setCell ⟨g, 1, none⟩ (.int .i64 ((p : Int) + 1))).cell? ⟨g, 1, none⟩ = some (.int .i64 ((p : Int) + 1)) := by simp [World.cell?, World.setCell, Array.getElem?_modify, h1]
  have HF := Lib.hid (rd_step h1 h2 h3 h4 h5 h6)
  have HN := Lib.hid h2
  have H5 := Lib.hid h5
  have H6 := Lib.hid h6
  clear h1 h2 h5 h6
  by_cases hn1 : n < 1
  · go_enter Try.func67, Try.ntmps67
    go_wp2
    go_ret
    exact ⟨0, rfl, by omega, by omega, HF.out 0⟩
  · by_cases hz : zs.length = 0
    · have hz' : ((zs.length : Int) == 0) = true := by simp [hz]
      have HZ := Lib.hid hz
      clear hz
      go_enter Try.func67, Try.ntmps67
      go_wp2
      go_ret
      exact ⟨0, rfl, by omega, by omega, HF.out 0⟩
    · have hz' : ((zs.length : Int) == 0) = false := by simp; intro e; subst e; exact hz rfl
      by_cases hlt : p < zs.length
      · obtain ⟨b, off, z, rfl, hcell, hx, _⟩ := HN.out.elem hlt
        obtain ⟨hz1, hz2⟩ := H5.out z (elem_mem hx)
        have hne : b ≠ g := Nat.ne_of_lt (H6.out _ (by omega) rfl)
        go_enter Try.func67, Try.ntmps67
        go_wp2
        go_ret
        exact ⟨_, rfl, Int.emod_nonneg _ (by omega), fun _ => Int.emod_lt_of_pos _ (by omega), HF.out 0⟩
      · obtain ⟨r1, hr1⟩ : ∃ r, r = p % zs.length := ⟨_, rfl⟩
        obtain ⟨r2, hr2⟩ : ∃ r, r = (p * 7 + 3) % zs.length := ⟨_, rfl⟩
        obtain ⟨d, hd⟩ : ∃ d, d = p / zs.length := ⟨_, rfl⟩
        have hb1 : r1 < zs.length := by rw [hr1]; exact Nat.mod_lt _ (by omega)
        have hb2 : r2 < zs.length := by rw [hr2]; exact Nat.mod_lt _ (by omega)
        have hbd : d ≤ p := by rw [hd]; exact Nat.div_le_self _ _
        have t1 : (p : Int).tmod (zs.length : Int) = (r1 : Int) := by rw [hr1]; exact Int.ofNat_tmod _ _ |>.symm
        have t2 : ((p : Int) * 7 + 3).tmod (zs.length : Int) = (r2 : Int) := by rw [hr2]; exact (Int.ofNat_tmod (p * 7 + 3) _).symm
        have t3 : (p : Int).tdiv (zs.length : Int) = (d : Int) := by rw [hd]; exact Int.ofNat_tdiv _ _ |>.symm
        clear hr1 hr2 hd
        obtain ⟨b, off, z, rfl, hcell, hx, _⟩ := HN.out.elem (i := r1) hb1
        obtain ⟨b', off', y, hAA, hcell2, hy, _⟩ := HN.out.elem (i := r2) hb2
        cases hAA
        obtain ⟨hz1, hz2⟩ := H5.out z (elem_mem hx)
        obtain ⟨hy1, hy2⟩ := H5.out y (elem_mem hy)
        have hne : b ≠ g := Nat.ne_of_lt (H6.out _ (by omega) rfl)
        have hL : (0 : Int) < (zs.length : Int) := by omega
        have hb1' : (r1 : Int) < (zs.length : Int) := by omega
        have hb2' : (r2 : Int) < (zs.length : Int) := by omega
        have e1 : IntKind.i64.wrap (z * 131) = z * 131 := IntWalk.i64_in _ (by omega)
        have e2 : IntKind.i64.wrap (y * 1117) = y * 1117 := IntWalk.i64_in _ (by omega)
        have e3 : IntKind.i64.wrap (z * 131 + y * 1117) = z * 131 + y * 1117 := IntWalk.i64_in _ (by omega)
        have e4 : IntKind.i64.wrap ((p : Int) * 29) = (p : Int) * 29 := IntWalk.i64_in _ (by omega)
        have e5 : IntKind.i64.wrap (z * 131 + y * 1117 + (p : Int) * 29) = z * 131 + y * 1117 + (p : Int) * 29 := IntWalk.i64_in _ (by omega)
        have e6 : IntKind.i64.wrap (d : Int) = (d : Int) := IntWalk.i64_in _ (by omega)
        have e7 : IntKind.i64.wrap ((d : Int) * 53) = (d : Int) * 53 := IntWalk.i64_in _ (by omega)
        have e8 : IntKind.i64.wrap (z * 131 + y * 1117 + (p : Int) * 29 + (d : Int) * 53) = z * 131 + y * 1117 + (p : Int) * 29 + (d : Int) * 53 := IntWalk.i64_in _ (by omega)
        have m1 : IntKind.i64.wrap ((p : Int) * 7) = (p : Int) * 7 := IntWalk.i64_in _ (by omega)
        have m2 : IntKind.i64.wrap ((p : Int) * 7 + 3) = (p : Int) * 7 + 3 := IntWalk.i64_in _ (by omega)
        have e9 : IntKind.i64.wrap z = z := IntWalk.i64_in _ (by omega)
        have e10 : IntKind.i64.wrap y = y := IntWalk.i64_in _ (by omega)
        go_enter Try.func67, Try.ntmps67
        go_wp2
        go_quiet (fail)
        clear t1 t2 t3 e1 e2 e3 e4 e5 e6 e7 e8 m1 m2 e9 e10
        have hd0 : (0 : Int) ≤ (d : Int) := by omega
        have hx0 := bits_xor_nonneg (z * 131 + y * 1117 + (p : Int) * 29 + (d : Int) * 53) ((z * 131 + y * 1117 + (p : Int) * 29 + (d : Int) * 53) / 64) (by omega) (by omega) (by omega) (by omega)
        go_wp2
        go_ret
        exact ⟨_, rfl, Int.emod_nonneg _ (by omega), fun _ => Int.emod_lt_of_pos _ (by omega), HF.out _⟩
end Go.Proofs.Ytmdpolllmipppaa

namespace Go.Proofs.Ytmdpolllmipppaa
open Go.RowKit

theorem Rd.alloc {w : World} {g u : Nat} (h : Rd w g u) (o : Obj) : Rd (w.alloc o) g u := h.below ((Below.refl _ _).alloc (Nat.le_refl _) o)
theorem grown_alloc {a w : World} {row : Option Nat} (h : a.grownBy w row) (o : Obj) : a.grownBy (w.alloc o) row :=
  ⟨h.os, h.tape, h.output, Nat.le_trans h.size (by simp), fun i hi hne => (Below.heap_alloc w o i (Nat.lt_of_lt_of_le hi h.size)).trans (h.block i hi hne)⟩
theorem grown_below {a w w' : World} {row : Option Nat} (h : a.grownBy w row) (hb : Below w.heap.size w w') : a.grownBy w' row :=
  ⟨hb.os.trans h.os, hb.tape.trans h.tape, hb.output.trans h.output, Nat.le_trans h.size hb.size, fun i hi hn => (hb.block i (Nat.lt_of_lt_of_le hi h.size)).trans (h.block i hi hn)⟩
/-- What is written into a block that is newer than a is no change of a's. -/
theorem grown_fresh {a w w' : World} {row : Option Nat} {r : Option Nat} (h : a.grownBy w row) (hg : w.grownBy w' r) (hr : ∀ k, r = some k → a.heap.size ≤ k) : a.grownBy w' row :=
  ⟨hg.os.trans h.os, hg.tape.trans h.tape, hg.output.trans h.output, Nat.le_trans h.size hg.size, fun i hi hn => (hg.block i (Nat.lt_of_lt_of_le hi h.size) (fun e => by have := hr i e.symm; omega)).trans (h.block i hi hn)⟩

/-- A new row of numbers is still there behind a draw. -/
theorem lit_cell {w w' : World} {g : Nat} (xs : List Int) {t : TypeId} (hg : (w.alloc (.cells (xs.map (Value.int .i64)).toArray t)).grownBy w' (some g)) (hne : g < w.heap.size) {k : Int} (h0 : 0 ≤ k) (hk : k < xs.length) :
    ∃ x : Int, x ∈ xs ∧ w'.cell? ⟨w.heap.size, k.toNat, none⟩ = some (.int .i64 x) := by
  have hb : w'.heap[w.heap.size]? = (w.alloc (.cells (xs.map (Value.int .i64)).toArray t)).heap[w.heap.size]? := hg.block w.heap.size (by simp) (fun e => by injection e; omega)
  have hi : k.toNat < xs.length := by omega
  refine ⟨xs[k.toNat], List.getElem_mem hi, ?_⟩
  have h2 : (w.alloc (.cells (xs.map (Value.int .i64)).toArray t)).heap[w.heap.size]? = some (.cells (xs.map (Value.int .i64)).toArray t (0, 0)) := heap_alloc_new w _
  rw [h2] at hb
  rw [cell_of_row w' w.heap.size k.toNat _ t (0, 0) hb]
  simp [hi]

def NumPost (lo hi : Int) (g u : Nat) (w : World) (e : Ending) (w' : World) : Prop := ∃ k : Int, e = .returned (.int .i64 k) ∧ lo ≤ k ∧ k ≤ hi ∧ Rd w' g u ∧ w.grownBy w' (some g)
def BoolPost (g u : Nat) (w : World) (e : Ending) (w' : World) : Prop := ∃ b : Bool, e = .returned (.bool b) ∧ Rd w' g u ∧ w.grownBy w' (some g)

set_option maxHeartbeats 400000 in
theorem odd_any (g u : Nat) (n : Int) (w : World) (hn : n ≤ 1048576) (hn0 : 0 ≤ n) (hu : u ≤ 1048576) (hR : Rd w g u) :
    Calls Try.prog 75 #[.pointer (some ⟨g, 0, none⟩), .int .i64 n] w (BoolPost g (u + 1) w) := by
  have HR := Lib.hid hR
  clear hR
  by_cases h0 : 0 < n
  · go_enter Try.func75, Try.ntmps75
    go_wp2_with fail
    refine (pick_any g u n _ hn (by omega) hu HR.out).mono ?_
    rintro e w1 ⟨k, rfl, hk0, hk1, hr, hg⟩
    have HP := Lib.hid (And.intro hr hg)
    clear hr hg hk1
    go_wp2_with fail
    go_ret
    exact ⟨_, rfl, HP.out⟩
  · have HP : Hid (Rd w g (u + 1) ∧ w.grownBy w (some g)) := ⟨HR.out.more (by omega), World.grownBy.refl w _⟩
    go_enter Try.func75, Try.ntmps75
    go_wp2_with fail
    go_ret
    exact ⟨_, rfl, HP.out⟩

set_option maxHeartbeats 1000000 in
theorem things_any (g u : Nat) (n : Int) (w : World) (hn : n ≤ 1048576) (hn0 : 0 ≤ n) (hu : u ≤ 1000000) (hR : Rd w g u) :
    Calls Try.prog 74 #[.pointer (some ⟨g, 0, none⟩), .int .i64 n] w (NumPost (-1) 4 g (u + 2) w) := by
  have HR := Lib.hid hR
  have hlt := hR.lt
  clear hR
  go_enter Try.func74, Try.ntmps74
  go_wp2_with fail
  refine (odd_any g u n _ hn hn0 (by omega) HR.out).mono ?_
  rintro e w1 ⟨b, rfl, hr, hg⟩
  have hsz := hg.size
  have HR1 := Lib.hid hr
  have HG1 := Lib.hid hg
  clear hr hg
  cases b
  · go_wp2_with fail
    refine (pick_any g (u + 1) _ _ (by omega) (by omega) (by omega) (HR1.out.alloc _)).mono ?_
    rintro e w2 ⟨k, rfl, hk0, hk1, hr, hg⟩
    obtain ⟨x, hx, hcell⟩ := lit_cell [1, 2, 2, 3, 3] hg (by omega) hk0 (hk1 (by omega))
    have hk5 := hk1 (by omega)
    have HP : Hid (Rd w2 g (u + 2) ∧ w.grownBy w2 (some g)) := ⟨hr, (grown_alloc HG1.out _).trans hg⟩
    have HX : Hid (-1 ≤ x ∧ x ≤ 4) := by unfold Hid; simp only [List.mem_cons, List.not_mem_nil, or_false] at hx; omega
    clear hr hg hx hk1
    go_wp2_with fail
    go_ret
    exact ⟨_, rfl, HX.out.1, HX.out.2, HP.out⟩
  · go_wp2_with fail
    refine (pick_any g (u + 1) _ _ (by omega) (by omega) (by omega) (HR1.out.alloc _)).mono ?_
    rintro e w2 ⟨k, rfl, hk0, hk1, hr, hg⟩
    obtain ⟨x, hx, hcell⟩ := lit_cell [0, 4, -1] hg (by omega) hk0 (hk1 (by omega))
    have hk5 := hk1 (by omega)
    have HP : Hid (Rd w2 g (u + 2) ∧ w.grownBy w2 (some g)) := ⟨hr, (grown_alloc HG1.out _).trans hg⟩
    have HX : Hid (-1 ≤ x ∧ x ≤ 4) := by unfold Hid; simp only [List.mem_cons, List.not_mem_nil, or_false] at hx; omega
    clear hr hg hx hk1
    go_wp2_with fail
    go_ret
    exact ⟨_, rfl, HX.out.1, HX.out.2, HP.out⟩

/-- What the opening of a reader leaves. -/
def OpenPost (w : World) (e : Ending) (w' : World) : Prop := e = .returned (.pointer (some ⟨w.heap.size, 0, none⟩)) ∧ Rd w' w.heap.size 0 ∧ Below w.heap.size w w'
theorem open_rd {w : World} {A : Option Addr} {c : Nat} {zs : List Int} (h : Nums .u8 w A zs) (hl : zs.length ≤ 2000) (hr : ∀ z ∈ zs, 0 ≤ z ∧ z ≤ 255) :
    Rd (w.alloc (.cells #[.slice A zs.length c, .int .i64 0] 80)) w.heap.size 0 := by
  refine ⟨A, c, zs, 0, heap_alloc_new w _, h.alloc _, hl, Nat.le_refl _, hr, fun ad hp ha => ?_⟩
  obtain ⟨b, off, hA, hb, _⟩ := h hp
  rw [hA] at ha
  cases ha
  exact hb

set_option maxHeartbeats 400000 in
theorem open_any (A : Option Addr) (nn c : Nat) (zs : List Int) (w : World) (hn : nn = zs.length) (hc : nn ≤ c) (hm : c ≤ maxLen) (hr : ∀ z ∈ zs, 0 ≤ z ∧ z ≤ 255) (hA : Nums .u8 w A zs) :
    Calls Try.prog 51 #[.slice A nn c] w (OpenPost w) := by
  subst hn
  have hm' : c ≤ 9223372036854775807 := by unfold maxLen at hm; omega
  have HB : Hid (∀ o, Below w.heap.size w (w.alloc o)) := fun o => (Below.refl _ _).alloc (Nat.le_refl _) o
  by_cases hl : 2000 < zs.length
  · have hd : decide ((2000 : Int) < (zs.length : Int)) = true := by simp; omega
    have hlen : (zs.take 2000).length = 2000 := by rw [List.length_take]; omega
    have HR : Hid (Rd (w.alloc (.cells #[.slice A 2000 c, .int .i64 0] 80)) w.heap.size 0) := by
      have := open_rd (c := c) (hA.take 2000) (by omega) (fun z hz => hr z (List.mem_of_mem_take hz))
      rw [hlen] at this
      exact this
    clear hA hr hlen hm
    go_enter Try.func51, Try.ntmps51
    go_wp2
    go_ret
    exact ⟨rfl, HR.out, HB.out _⟩
  · have hd : decide ((2000 : Int) < (zs.length : Int)) = false := by simp; omega
    have HR := Lib.hid (open_rd (c := c) hA (by omega) hr)
    clear hA hr hm
    go_enter Try.func51, Try.ntmps51
    go_wp2
    go_ret
    exact ⟨rfl, HR.out, HB.out _⟩

/-- The greatest set that may be drawn for a number of things. -/
def topOf (t : Int) : Int := if 1 ≤ t ∧ t ≤ 3 then allOf t else 1
theorem topOf_range (t : Int) : 1 ≤ topOf t ∧ topOf t ≤ 255 := by
  unfold topOf allOf; split
  · rename_i h
    have : t = 1 ∨ t = 2 ∨ t = 3 := by omega
    rcases this with rfl | rfl | rfl <;> simp
  · omega

/-- The end of a set's drawing, from the greatest set on. -/
theorem range_set {all x : Int} (h1 : 1 ≤ all) (h2 : all ≤ 255) (hx : x = -1 ∨ x = all + 1) : -1 ≤ x ∧ x ≤ 256 := by omega

set_option maxHeartbeats 2000000 in
theorem set_any (g u : Nat) (t n : Int) (w : World) (hn : n ≤ 1048576) (hn0 : 0 ≤ n) (hu : u ≤ 1000000) (hR : Rd w g u) :
    Calls Try.prog 61 #[.pointer (some ⟨g, 0, none⟩), .int .i64 t, .int .i64 n] w (NumPost (-1) 256 g (u + 8) w) := by
  have HR := Lib.hid hR
  have hlt := hR.lt
  clear hR
  by_cases ht : 1 ≤ t ∧ t ≤ 3
  · obtain ⟨all, HA⟩ : ∃ a, Hid (allOf t = a) := ⟨_, rfl⟩
    have h1 : 1 ≤ all := by
      rw [← HA.out]; unfold allOf
      have : t = 1 ∨ t = 2 ∨ t = 3 := by omega
      rcases this with rfl | rfl | rfl <;> simp
    have h2 : all ≤ 255 := by rw [← HA.out]; have := allOf_lt t; omega
    obtain ⟨ht1, ht2⟩ := ht
    go_enter Try.func61, Try.ntmps61
    go_wp2_with fail
    refine (sIn_yes _ _ _ _ ht1 ht2).mono ?_
    rintro e w' ⟨rfl, rfl⟩
    go_wp2_with fail
    refine (sAll _ _ ht1 ht2).mono ?_
    rintro e w' ⟨rfl, rfl⟩
    rw [HA.out]
    go_wp2_with fail
    refine (odd_any g u n _ hn hn0 (by omega) HR.out).mono ?_
    rintro e w1 ⟨b, rfl, hr, hg⟩
    have hsz := hg.size
    have HR1 := Lib.hid hr
    have HG1 := Lib.hid hg
    clear hr hg
    cases b
    · go_wp2_with fail
      refine (pick_any g (u + 1) _ _ (by omega) (by omega) (by omega) HR1.out).mono ?_
      rintro e w2 ⟨k1, rfl, ha0, ha1, hr, hg⟩
      have hka := ha1 (by omega)
      have HR2 := Lib.hid hr
      have HG2 := Lib.hid (HG1.out.trans hg)
      clear hr hg ha1
      go_wp2_with fail
      refine (pick_any g (u + 2) _ _ (by omega) (by omega) (by omega) HR2.out).mono ?_
      rintro e w3 ⟨k2, rfl, hb0, hb1, hr, hg⟩
      have hkb := hb1 (by omega)
      have HR3 := Lib.hid hr
      have HG3 := Lib.hid (HG2.out.trans hg)
      clear hr hg hb1
      go_wp2_with fail
      refine (pick_any g (u + 3) _ _ (by omega) (by omega) (by omega) HR3.out).mono ?_
      rintro e w4 ⟨k3, rfl, hc0, hc1, hr, hg⟩
      have hkc := hc1 (by omega)
      have HR4 := Lib.hid hr
      have HG4 := Lib.hid (HG3.out.trans hg)
      clear hr hg hc1
      go_wp2_with fail
      refine (sBothS k2 k3 hb0 hkb hc0 hkc _).mono ?_
      rintro e w5 ⟨rfl, n5, rfl⟩
      have hd0 := andI_nonneg k2 k3
      have hd1 := andI_le k2 k3 hb0
      generalize andI k2 k3 = kd at hd0 hd1 ⊢
      go_wp2_with fail
      refine (pick_any g (u + 4) _ _ (by omega) (by omega) (by omega) (by exact HR4.out.drewN n5)).mono ?_
      rintro e w6 ⟨k4, rfl, he0, he1, hr, hg⟩
      have hke := he1 (by omega)
      have HR6 := Lib.hid hr
      have HG6 := Lib.hid ((grown_drewN HG4.out n5).trans hg)
      clear hr hg he1
      go_wp2_with fail
      refine (pick_any g (u + 5) _ _ (by omega) (by omega) (by omega) HR6.out).mono ?_
      rintro e w7 ⟨k5, rfl, hf0, hf1, hr, hg⟩
      have hkf := hf1 (by omega)
      have HR7 := Lib.hid hr
      have HG7 := Lib.hid (HG6.out.trans hg)
      clear hr hg hf1
      go_wp2_with fail
      refine (sEither k4 k5 he0 hke hf0 hkf _).mono ?_
      rintro e w8 ⟨rfl, n8, rfl⟩
      have hg0 := orI_nonneg k4 k5
      have hg1 := orI_lt k4 k5 hke hkf
      generalize orI k4 k5 = kg at hg0 hg1 ⊢
      have hs7 : Hid (w.heap.size ≤ w7.heap.size) := HG7.out.size
      go_wp2_with fail
      refine (pick_any g (u + 6) _ _ (by omega) (by omega) (by omega) (by exact (HR7.out.drewN n8).alloc _)).mono ?_
      rintro e w9 ⟨k, rfl, hk0, hk1, hr, hg⟩
      obtain ⟨x, hx, hcell⟩ := lit_cell (w := w7.drewN n8) [k1, kd, kg] hg (by have := hs7.out; exact Nat.lt_of_lt_of_le hlt this) hk0 (hk1 (by omega))
      have hcell : w9.cell? ⟨w7.heap.size, k.toNat, none⟩ = some (.int .i64 x) := hcell
      have hk5 := hk1 (by omega)
      have HP : Hid (Rd w9 g (u + 8) ∧ w.grownBy w9 (some g)) := ⟨hr.more (by omega), (grown_alloc (grown_drewN HG7.out n8) _).trans hg⟩
      have hx0 : 0 ≤ x := by simp only [List.mem_cons, List.not_mem_nil, or_false] at hx; omega
      have hx1 : x ≤ 255 := by simp only [List.mem_cons, List.not_mem_nil, or_false] at hx; omega
      clear hr hg hx hk1
      go_wp2_with fail
      go_ret
      refine ⟨_, rfl, ?_, ?_, HP.out⟩
      · have := Int.emod_nonneg x (show all + 1 ≠ 0 by omega); omega
      · have := Int.emod_lt_of_pos x (show 0 < all + 1 by omega); omega
    · go_wp2_with fail
      refine (pick_any g (u + 1) _ _ (by omega) (by omega) (by omega) (HR1.out.alloc _)).mono ?_
      rintro e w2 ⟨k, rfl, hk0, hk1, hr, hg⟩
      obtain ⟨x, hx, hcell⟩ := lit_cell [-1, all + 1] hg (by omega) hk0 (hk1 (by omega))
      have hk5 := hk1 (by omega)
      have HP : Hid (Rd w2 g (u + 8) ∧ w.grownBy w2 (some g)) := ⟨hr.more (by omega), (grown_alloc HG1.out _).trans hg⟩
      have HX : Hid (-1 ≤ x ∧ x ≤ 256) := by unfold Hid; simp only [List.mem_cons, List.not_mem_nil, or_false] at hx; omega
      clear hr hg hx hk1
      go_wp2_with fail
      go_ret
      exact ⟨_, rfl, HX.out.1, HX.out.2, HP.out⟩
  · have ht' : t < 1 ∨ 3 < t := by omega
    clear ht
    go_enter Try.func61, Try.ntmps61
    go_wp2_with fail
    refine (sIn_no _ _ _ _ ht').mono ?_
    rintro e w' ⟨rfl, rfl⟩
    go_wp2_with fail
    refine (odd_any g u n _ hn hn0 (by omega) HR.out).mono ?_
    rintro e w1 ⟨b, rfl, hr, hg⟩
    have hsz := hg.size
    have HR1 := Lib.hid hr
    have HG1 := Lib.hid hg
    clear hr hg
    cases b
    · go_wp2_with fail
      refine (pick_any g (u + 1) _ _ (by omega) (by omega) (by omega) HR1.out).mono ?_
      rintro e w2 ⟨k1, rfl, ha0, ha1, hr, hg⟩
      have hka := ha1 (by omega)
      have HR2 := Lib.hid hr
      have HG2 := Lib.hid (HG1.out.trans hg)
      clear hr hg ha1
      go_wp2_with fail
      refine (pick_any g (u + 2) _ _ (by omega) (by omega) (by omega) HR2.out).mono ?_
      rintro e w3 ⟨k2, rfl, hb0, hb1, hr, hg⟩
      have hkb := hb1 (by omega)
      have HR3 := Lib.hid hr
      have HG3 := Lib.hid (HG2.out.trans hg)
      clear hr hg hb1
      go_wp2_with fail
      refine (pick_any g (u + 3) _ _ (by omega) (by omega) (by omega) HR3.out).mono ?_
      rintro e w4 ⟨k3, rfl, hc0, hc1, hr, hg⟩
      have hkc := hc1 (by omega)
      have HR4 := Lib.hid hr
      have HG4 := Lib.hid (HG3.out.trans hg)
      clear hr hg hc1
      go_wp2_with fail
      refine (sBothS k2 k3 hb0 hkb hc0 hkc _).mono ?_
      rintro e w5 ⟨rfl, n5, rfl⟩
      have hd0 := andI_nonneg k2 k3
      have hd1 := andI_le k2 k3 hb0
      generalize andI k2 k3 = kd at hd0 hd1 ⊢
      go_wp2_with fail
      refine (pick_any g (u + 4) _ _ (by omega) (by omega) (by omega) (by exact HR4.out.drewN n5)).mono ?_
      rintro e w6 ⟨k4, rfl, he0, he1, hr, hg⟩
      have hke := he1 (by omega)
      have HR6 := Lib.hid hr
      have HG6 := Lib.hid ((grown_drewN HG4.out n5).trans hg)
      clear hr hg he1
      go_wp2_with fail
      refine (pick_any g (u + 5) _ _ (by omega) (by omega) (by omega) HR6.out).mono ?_
      rintro e w7 ⟨k5, rfl, hf0, hf1, hr, hg⟩
      have hkf := hf1 (by omega)
      have HR7 := Lib.hid hr
      have HG7 := Lib.hid (HG6.out.trans hg)
      clear hr hg hf1
      go_wp2_with fail
      refine (sEither k4 k5 he0 hke hf0 hkf _).mono ?_
      rintro e w8 ⟨rfl, n8, rfl⟩
      have hg0 := orI_nonneg k4 k5
      have hg1 := orI_lt k4 k5 hke hkf
      generalize orI k4 k5 = kg at hg0 hg1 ⊢
      have hs7 : Hid (w.heap.size ≤ w7.heap.size) := HG7.out.size
      go_wp2_with fail
      refine (pick_any g (u + 6) _ _ (by omega) (by omega) (by omega) (by exact (HR7.out.drewN n8).alloc _)).mono ?_
      rintro e w9 ⟨k, rfl, hk0, hk1, hr, hg⟩
      obtain ⟨x, hx, hcell⟩ := lit_cell (w := w7.drewN n8) [k1, kd, kg] hg (by have := hs7.out; exact Nat.lt_of_lt_of_le hlt this) hk0 (hk1 (by omega))
      have hcell : w9.cell? ⟨w7.heap.size, k.toNat, none⟩ = some (.int .i64 x) := hcell
      have hk5 := hk1 (by omega)
      have HP : Hid (Rd w9 g (u + 8) ∧ w.grownBy w9 (some g)) := ⟨hr.more (by omega), (grown_alloc (grown_drewN HG7.out n8) _).trans hg⟩
      have hx0 : 0 ≤ x := by simp only [List.mem_cons, List.not_mem_nil, or_false] at hx; omega
      have hx1 : x ≤ 255 := by simp only [List.mem_cons, List.not_mem_nil, or_false] at hx; omega
      clear hr hg hx hk1
      go_wp2_with fail
      go_ret
      refine ⟨_, rfl, ?_, ?_, HP.out⟩
      · have := Int.emod_nonneg x (show 1 + 1 ≠ 0 by omega); omega
      · have := Int.emod_lt_of_pos x (show 0 < 1 + 1 by omega); omega
    · go_wp2_with fail
      refine (pick_any g (u + 1) _ _ (by omega) (by omega) (by omega) (HR1.out.alloc _)).mono ?_
      rintro e w2 ⟨k, rfl, hk0, hk1, hr, hg⟩
      obtain ⟨x, hx, hcell⟩ := lit_cell [-1, 2] hg (by omega) hk0 (hk1 (by omega))
      have hk5 := hk1 (by omega)
      have HP : Hid (Rd w2 g (u + 8) ∧ w.grownBy w2 (some g)) := ⟨hr.more (by omega), (grown_alloc HG1.out _).trans hg⟩
      have HX : Hid (-1 ≤ x ∧ x ≤ 256) := by unfold Hid; simp only [List.mem_cons, List.not_mem_nil, or_false] at hx; omega
      clear hr hg hx hk1
      go_wp2_with fail
      go_ret
      exact ⟨_, rfl, HX.out.1, HX.out.2, HP.out⟩

end Go.Proofs.Ytmdpolllmipppaa

namespace Go.Proofs.Ytmdpolllmipppaa
open Go.RowKit

theorem bytes_range {xs : List Int} (h : ∀ x ∈ xs, (Lit.int .u8 x).wf = true) : ∀ z ∈ xs, 0 ≤ z ∧ z ≤ 255 := fun z hz => bounds_u8 (h z hz)
def Draw1 (lo hi : Int) (w : World) (e : Ending) (w' : World) : Prop := ∃ k : Int, e = .returned (.int .i64 k) ∧ lo ≤ k ∧ k ≤ hi ∧ Below w.heap.size w w'
def Draw2 (w : World) (e : Ending) (w' : World) : Prop := ∃ t s : Int, e = .returned (.tuple #[.int .i64 t, .int .i64 s]) ∧ -1 ≤ t ∧ t ≤ 4 ∧ -1 ≤ s ∧ s ≤ 256 ∧ Below w.heap.size w w'

end Go.Proofs.Ytmdpolllmipppaa

namespace Go.Proofs.Ytmdpolllmipppaa
open Go.RowKit

set_option maxHeartbeats 400000 in
theorem lSameInts (A B : Option Addr) (nn mm c d : Nat) (xs ys : List Int) (w : World) (hn : nn = xs.length) (hm : mm = ys.length) (hl : nn ≤ 1048576) (hl2 : mm ≤ 1048576) (hA : Nums .i64 w A xs) (hB : Nums .i64 w B ys) :
    Calls Try.prog 18 #[.slice A nn c, .slice B mm d] w fun e w' => e = .returned (.bool (decide (xs = ys))) ∧ ∃ n, w' = w.drewN n := by
  subst hn hm
  have HA := Lib.hid hA
  have HB := Lib.hid hB
  clear hA hB
  by_cases hlen : xs.length = ys.length
  · have hd : ((xs.length : Int) != (ys.length : Int)) = false := by simp; omega
    have HL := Lib.hid hlen
    have hle1 : xs.length ≤ ys.length := by omega
    have hle2 : ys.length ≤ xs.length := by omega
    clear hlen
    go_enter Try.func18, Try.ntmps18
    go_wp2
    go_loopw [5] (fun i wr => ∃ k : Nat, k ≤ xs.length ∧ i = .int .i64 k ∧ Hid (xs.take k = ys.take k) ∧ ∃ n, wr = w.drewN n) (fun i _ => xs.length - (intOf i).toNat)
    case atStart => exact ⟨0, Nat.zero_le _, rfl, rfl, 0, rfl⟩
    case round =>
      obtain ⟨k, hk, rfl, hsofar, n, rfl⟩ := hrel
      by_cases hlt : k < xs.length
      · have hlt2 : k < ys.length := by omega
        obtain ⟨b, off, x, rfl, hcell, hx, _⟩ := HA.out.elem hlt
        obtain ⟨b', off', y, rfl, hcell', hy, _⟩ := HB.out.elem hlt2
        by_cases hxy : x = y
        · have hxy' : (x != y) = false := by simp [hxy]
          have HXY := Lib.hid hxy
          clear hxy
          go_wp2
          go_quiet (fail)
          go_wp2
          go_roundw
          case rel => exact ⟨k + 1, by omega, by go_num, by unfold Hid; rw [take_snoc hx, take_snoc hy, hsofar.out, HXY.out], _, rfl⟩
          case measure => simp [intOf]; omega
        · have hxy' : (x != y) = true := by simp [hxy]
          have HXY := Lib.hid hxy
          clear hxy
          go_wp2
          go_quiet (fail)
          go_wp2
          go_ret
          exact ⟨ret_bool (by symm; apply decide_eq_false; intro e; subst e; have := hx.out.symm.trans hy.out; cases this; exact HXY.out rfl), _, World.drewN_drewN _ _ _⟩
      · obtain rfl : k = xs.length := by omega
        have HE : Hid (xs = ys) := by
          have := hsofar.out
          rw [List.take_length, HL.out, List.take_length] at this
          exact this
        clear hsofar
        go_wp2
        go_ret
        exact ⟨ret_bool (by rw [decide_eq_true HE.out]), _, rfl⟩
  · have hd : ((xs.length : Int) != (ys.length : Int)) = true := by simp; omega
    have HL := Lib.hid hlen
    clear hlen
    go_enter Try.func18, Try.ntmps18
    go_wp2
    go_ret
    exact ⟨ret_bool (by symm; apply decide_eq_false; intro e; exact HL.out (by rw [e])), 0, rfl⟩


theorem bit_zero (a b k : Nat) (h : a / 2 ^ k % 2 = 0 ∨ b / 2 ^ k % 2 = 0) : (a &&& b) % 2 ^ (k + 1) = (a &&& b) % 2 ^ k := by
  rw [bit_step a b k]
  rcases h with h | h <;> rw [h] <;> simp
theorem bit_one (a b k : Nat) (h1 : a / 2 ^ k % 2 = 1) (h2 : b / 2 ^ k % 2 = 1) (hk : k < 8) :
    wrap64 (↑(a &&& b) % 2 ^ k + wrap64 (2 ^ k)) = (((a &&& b) % 2 ^ (k + 1) : Nat) : Int) := by
  have hp : 2 ^ k ≤ 128 := by
    have : 2 ^ k ≤ 2 ^ 7 := Nat.pow_le_pow_right (by omega) (by omega)
    omega
  have hm : (a &&& b) % 2 ^ k < 2 ^ k := Nat.mod_lt _ (Nat.two_pow_pos k)
  have e4 : (2 : Int) ^ k = ((2 ^ k : Nat) : Int) := by push_cast; rfl
  rw [bit_step a b k, h1, h2, e4, ← Int.natCast_emod, IntWalk.wrap64_in ((2 ^ k : Nat) : Int) ⟨by omega, by omega⟩, IntWalk.wrap64_in _ ⟨by omega, by omega⟩]
  omega

set_option maxHeartbeats 1000000 in
theorem lBothN (a b : Nat) (w : World) : Calls Try.prog 32 #[.int .i64 a, .int .i64 b] w fun e w' => e = .returned (.int .i64 ((a &&& b) % 256 : Nat)) ∧ w = w' := by
  go_enter Try.func32, Try.ntmps32
  go_wp2
  go_loop [5, 6] (fun t i => ∃ k : Nat, k ≤ 8 ∧ i = .int .i64 k ∧ t = .int .i64 ((a &&& b) % 2 ^ k : Nat)) (fun _ i => 8 - (intOf i).toNat)
  case atStart => exact ⟨0, by omega, rfl, by simp [Nat.mod_one]⟩
  case round =>
    obtain ⟨k, hk, rfl, rfl⟩ := hrel
    by_cases hlt : k < 8
    · have e4 : (2 : Int) ^ k = ((2 ^ k : Nat) : Int) := by push_cast; rfl
      have ea : ((a : Int) / 2 ^ k).tmod 2 = ((a / 2 ^ k % 2 : Nat) : Int) := by rw [e4]; exact tmod2_nat _ _
      have eb : ((b : Int) / 2 ^ k).tmod 2 = ((b / 2 ^ k % 2 : Nat) : Int) := by rw [e4]; exact tmod2_nat _ _
      rcases Nat.mod_two_eq_zero_or_one (a / 2 ^ k) with h1 | h1
      · have HB := Lib.hid (bit_zero a b k (.inl h1))
        have ha : (((a : Int) / 2 ^ k).tmod 2 == 1) = false := by rw [ea, h1]; rfl
        clear e4 ea eb h1
        go_wp2
        go_round
        case rel => exact ⟨k + 1, by omega, by go_num, by rw [HB.out]⟩
        case measure => simp [intOf]; omega
      · have ha : (((a : Int) / 2 ^ k).tmod 2 == 1) = true := by rw [ea, h1]; rfl
        rcases Nat.mod_two_eq_zero_or_one (b / 2 ^ k) with h2 | h2
        · have HB := Lib.hid (bit_zero a b k (.inr h2))
          have hb : (((b : Int) / 2 ^ k).tmod 2 == 1) = false := by rw [eb, h2]; rfl
          clear e4 ea eb h1 h2
          go_wp2
          go_round
          case rel => exact ⟨k + 1, by omega, by go_num, by rw [HB.out]⟩
          case measure => simp [intOf]; omega
        · have HB := Lib.hid (bit_one a b k h1 h2 hlt)
          have hb : (((b : Int) / 2 ^ k).tmod 2 == 1) = true := by rw [eb, h2]; rfl
          clear e4 ea eb h1 h2
          go_wp2
          go_round
          case rel => exact ⟨k + 1, by omega, by go_num, by first | rw [← HB.out] | (rw [← HB.out]; rfl)⟩
          case measure => simp [intOf]; omega
    · obtain rfl : k = 8 := by omega
      go_wp2
      go_ret
      exact ⟨rfl, rfl⟩

theorem lBoth (a b : Int) (ha : 0 ≤ a) (ha2 : a < 256) (hb : 0 ≤ b) (w : World) :
    Calls Try.prog 32 #[.int .i64 a, .int .i64 b] w fun e w' => e = .returned (.int .i64 (andI a b)) ∧ w = w' := by
  have hm := andI_mod a b ha ha2
  obtain ⟨a, rfl⟩ := Int.eq_ofNat_of_zero_le ha
  obtain ⟨b, rfl⟩ := Int.eq_ofNat_of_zero_le hb
  exact (lBothN a b w).mono fun e w' ⟨he, hw⟩ => ⟨he.trans (ret_int (by rw [← hm, andI_nat]; omega)), hw⟩

set_option maxHeartbeats 400000 in
theorem lWithin (a b : Int) (ha : 0 ≤ a) (ha2 : a < 256) (hb : 0 ≤ b) (w : World) :
    Calls Try.prog 42 #[.int .i64 a, .int .i64 b] w fun e w' => e = .returned (.bool (withinB a b)) ∧ w = w' := by
  go_enter Try.func42, Try.ntmps42
  go_wp2_with fail
  refine (lBoth a b ha ha2 hb _).mono ?_
  rintro e w' ⟨rfl, rfl⟩
  go_wp2_with fail
  go_ret
  exact ⟨ret_bool (by unfold withinB; rw [Bool.eq_iff_iff]; simp), rfl⟩
end Go.Proofs.Ytmdpolllmipppaa

namespace Go.Proofs.Ytmdpolllmipppaa
open Go.RowKit

theorem iSettles_is {t : Int} {xs : List Int} {s : Int} {b : Bool} (h : Hid (settlesB t xs s = b)) (A : Option Addr) (nn c : Nat) (w : World) (hn : nn = xs.length) (hl : nn ≤ 1048576) (hc : nn ≤ c) (hm : c ≤ maxLen) (hA : Nums .i64 w A xs) :
    Calls Try.prog 31 #[.int .i64 t, .slice A nn c, .int .i64 s] w fun e w' => e = .returned (.bool b) ∧ ∃ n, w' = w.drewN n :=
  (iSettles t A nn c xs s w hn hl hc hm hA).mono fun _ _ ⟨he, hw⟩ => ⟨he.trans (ret_bool h.out), hw⟩
theorem lWithin_is {a b : Int} {v : Bool} (h : Hid (withinB a b = v)) (ha : 0 ≤ a) (ha2 : a < 256) (hb : 0 ≤ b) (w : World) :
    Calls Try.prog 42 #[.int .i64 a, .int .i64 b] w fun e w' => e = .returned (.bool v) ∧ w = w' :=
  (lWithin a b ha ha2 hb w).mono fun _ _ ⟨he, hw⟩ => ⟨he.trans (ret_bool h.out), hw⟩
theorem lWhole_is {t al : Int} (h : Hid (allOf t = al)) (h1 : 1 ≤ t) (h3 : t ≤ 3) (w : World) : Calls Try.prog 23 #[.int .i64 t] w fun e w' => e = .returned (.int .i64 al) ∧ w = w' :=
  (lWhole t w h1 h3).mono fun _ _ ⟨he, hw⟩ => ⟨he.trans (ret_int h.out), hw⟩
theorem setOk_of {t k : Int} (h1 : 1 ≤ t) (h3 : t ≤ 3) (h0 : 0 ≤ k) (hk : k ≤ allOf t) : setOkB t k = true := by
  unfold setOkB; apply decide_eq_true; exact ⟨h1, h3, h0, hk⟩
theorem issue_one {t s : Int} (h : setOkB t s = true) : issueOkB t [s] = true := by
  unfold issueOkB partsOkB pairB; simp [h]
theorem settles_one {t s k : Int} (h : setOkB t s = true) (hk : setOkB t k = true) : settlesB t [s] k = withinB k s := by
  unfold settlesB; rw [issue_one h, hk]; simp [anyWithin]
theorem granted_one {t s : Int} (h : setOkB t s = true) : grantedI t [s] = s := by
  have := setOkB_lt h
  unfold grantedI unionI; rw [issue_one h]; simp [orI]; omega

end Go.Proofs.Ytmdpolllmipppaa

namespace Go.Proofs.Ytmdpolllmipppaa
open Go.RowKit

theorem wp_append1 {W : World} {ops : Array Oper} {rest : List Oper} {o : Oper} {a : Act} {Q : Exit → Act → World → Prop} (hgd : o.guard = none) (s x : Operand)
    (ho : o.op = .call { callee := .builtin .append, args := #[s, x], argTypes := #[25, 25] }) (base : Nat) (v : Value) (xs : List Int) (hs : a.eval s = v) (hown : Owns W base v xs)
    (y : Int) (hx : a.eval x = .slice (some ⟨W.heap.size, 0, none⟩) 1 1) (hl : xs.length ≤ 1048576) (hb : base ≤ W.heap.size)
    (h : ∀ v' w', Owns w' base v' (xs ++ [y]) → (W.alloc (.cells #[.int .i64 y] 3)).grownBy w' v.ownBlock → wpList Try.prog ops Q rest (a.put o.dst v') w') :
    wpList Try.prog ops Q (o :: rest) a (W.alloc (.cells #[.int .i64 y] 3)) := by
  obtain ⟨i0, hi0, hz0, hz1, hz2⟩ := info_parts int_info
  refine wpList_append_own _ hgd s x 25 ho base 3 i0 (.int .i64 0) 1 8 Try.underlying25 hi0 hz0 hz1 hz2 rfl (by decide) v xs.length (xs.map (Value.int .i64)) hs (World.ownsRow.alloc hown _)
    ⟨W.heap.size, 0, none⟩ 1 1 [.int .i64 y] hx rfl (cell_one_new _ _ _) (fun u hu => by rw [List.mem_singleton] at hu; subst hu; rfl) (by simp only [maxLen]; omega) (by omega) (by rw [World.size_alloc]; omega) ?_
  intro v' w' h1 h2 _
  refine h v' w' ?_ h2
  unfold Owns
  simpa using h1
/-- What an append of the call's own row leaves below a block that is older than the row. -/
theorem below_append {B : Nat} {a W w' : World} {base : Nat} {v : Value} {xs : List Int} {o : Obj} (h : Below B a W) (hB : B ≤ W.heap.size) (hown : Owns W base v xs) (hbase : B ≤ base) (hg : (W.alloc o).grownBy w' v.ownBlock) : Below B a w' :=
  (h.alloc hB o).grown hg (by simp; omega) fun k e => by have := (World.ownsRow.lt hown k e).1; omega

def hereB (xs : List Int) (s : Int) (j : Nat) : Bool := decide (s ∈ xs.take j)
def topB (xs : List Int) (s : Int) (j : Nat) : Bool := (xs.take j).all (fun x => decide (x = s) || !withinB s x)
def keepB (xs : List Int) (s : Int) : Bool := decide (s ∈ xs) && xs.all (fun x => decide (x = s) || !withinB s x)
def tidyTo (xs : List Int) (k : Nat) : List Int := ((List.range k).map (fun n : Nat => (n : Int))).filter (keepB xs)
def tidyL (xs : List Int) : List Int := tidyTo xs 256
theorem here_next {xs : List Int} {s x : Int} {j : Nat} {b : Bool} (h : Hid (hereB xs s j = b)) (hx : Hid (xs[j]? = some x)) : hereB xs s (j + 1) = (b || decide (x = s)) := by
  rw [← h.out]; unfold hereB; rw [take_snoc hx, Bool.eq_iff_iff]; simp only [List.mem_append, List.mem_singleton, Bool.or_eq_true, decide_eq_true_eq]; exact or_congr Iff.rfl eq_comm
theorem top_next {xs : List Int} {s x : Int} {j : Nat} {b : Bool} (h : Hid (topB xs s j = b)) (hx : Hid (xs[j]? = some x)) : topB xs s (j + 1) = (b && (decide (x = s) || !withinB s x)) := by
  rw [← h.out]; unfold topB; rw [take_snoc hx, List.all_append]; simp
theorem keep_of {xs : List Int} {s : Int} {b1 b2 : Bool} (h1 : Hid (hereB xs s xs.length = b1)) (h2 : Hid (topB xs s xs.length = b2)) : keepB xs s = (b1 && b2) := by
  rw [← h1.out, ← h2.out]; unfold keepB hereB topB; rw [List.take_length]
theorem tidy_next (xs : List Int) (k : Nat) : tidyTo xs (k + 1) = tidyTo xs k ++ (if keepB xs k = true then [(k : Int)] else []) := by
  unfold tidyTo
  rw [List.range_succ, List.map_append, List.filter_append]
  simp only [List.map_cons, List.map_nil, List.filter_cons, List.filter_nil]
theorem tidy_len (xs : List Int) (k : Nat) : (tidyTo xs k).length ≤ k := by
  unfold tidyTo
  refine Nat.le_trans (List.length_filter_le _ _) (by simp)

set_option maxRecDepth 100000 in
set_option maxHeartbeats 4000000 in
theorem sTidy (A : Option Addr) (nn c : Nat) (xs : List Int) (w : World) (hn : nn = xs.length) (hl : nn ≤ 1048576) (hr : ∀ x ∈ xs, 0 ≤ x ∧ x < 256) (hA : Nums .i64 w A xs) :
    Calls Try.prog 109 #[.slice A nn c] w fun e w' => ∃ v, e = .returned v ∧ Owns w' w.heap.size v (tidyL xs) ∧ Below w.heap.size w w' := by
  subst hn
  have HA := Lib.hid hA
  have HR := Lib.hid hr
  clear hr hA
  go_enter Try.func109, Try.ntmps109
  go_wp2
  go_loopw [3, 4] (fun v i wr => ∃ k : Nat, k ≤ 256 ∧ i = .int .i64 k ∧ Owns wr w.heap.size v (tidyTo xs k) ∧ Below w.heap.size w wr) (fun _ i _ => 256 - (intOf i).toNat)
  case atStart => exact ⟨0, by omega, rfl, Owns.lit _ _ [] (Nat.le_refl _) (by simp [maxLen]), (Below.refl _ _).alloc (Nat.le_refl _) _⟩
  case round =>
    obtain ⟨k, hk, rfl, hown, hbel⟩ := hrel
    have HOW := Lib.hid hown
    have HB := Lib.hid hbel
    clear hown hbel
    by_cases hlt : k < 256
    · have hd256 : decide ((k : Int) < 256) = true := decide_eq_true (by omega)
      go_wp2
      clear hd256
      go_loopw [5, 6, 7] (fun h g j wi => ∃ (i : Nat) (b1 b2 : Bool), i ≤ xs.length ∧ j = .int .i64 i ∧ h = .bool b1 ∧ g = .bool b2 ∧ Hid (hereB xs k i = b1) ∧ Hid (topB xs k i = b2) ∧ ∃ m, wi = wr.drewN m) (fun _ _ j _ => xs.length - (intOf j).toNat)
      case atStart => exact ⟨0, false, true, Nat.zero_le _, rfl, rfl, rfl, by unfold Hid hereB; simp, rfl, 0, rfl⟩
      case round =>
        obtain ⟨i, b1, b2, hi, rfl, rfl, rfl, hh, ht, m, rfl⟩ := hrel
        by_cases hil : i < xs.length
        · obtain ⟨b, off, x, rfl, hcell, hx, _⟩ := (HA.out.below HB.out).elem hil
          obtain ⟨hx0, hx1⟩ := HR.out x (elem_mem hx)
          by_cases hxs : x = (k : Int)
          · have hq1 : (x == (k : Int)) = true := by simp [hxs]
            have hq2 : (x != (k : Int)) = false := by simp [hxs]
            have HH : Hid (hereB xs k (i + 1) = true) := by unfold Hid; rw [here_next hh hx, decide_eq_true hxs]; simp
            have HT : Hid (topB xs k (i + 1) = b2) := by unfold Hid; rw [top_next ht hx, decide_eq_true hxs]; simp
            clear hxs
            cases b1
            · go_wp2_with fail
              go_roundw
              case rel => exact ⟨i + 1, true, b2, by omega, by go_num, rfl, rfl, HH, HT, _, rfl⟩
              case measure => simp [intOf]; omega
            · go_wp2_with fail
              go_roundw
              case rel => exact ⟨i + 1, true, b2, by omega, by go_num, rfl, rfl, HH, HT, _, rfl⟩
              case measure => simp [intOf]; omega
          · have hq1 : (x == (k : Int)) = false := by simp [hxs]
            have hq2 : (x != (k : Int)) = true := by simp [hxs]
            have HH : Hid (hereB xs k (i + 1) = b1) := by unfold Hid; rw [here_next hh hx, decide_eq_false hxs]; simp
            obtain ⟨wb, HW⟩ : ∃ wb, Hid (withinB (k : Int) x = wb) := ⟨_, rfl⟩
            have HT : Hid (topB xs k (i + 1) = (b2 && !wb)) := by unfold Hid; rw [top_next ht hx, decide_eq_false hxs, HW.out]; simp
            clear hxs
            cases b1
            · cases wb
              · go_wp2_with fail
                refine (sWithin_is HW (by omega) (by omega) hx0 hx1 _).mono ?_
                rintro e w' ⟨rfl, m2, rfl⟩
                go_wp2_with fail
                go_roundw
                case rel => exact ⟨i + 1, false, b2, by omega, by go_num, rfl, rfl, HH, by unfold Hid; rw [HT.out]; simp, _, rfl⟩
                case measure => simp [intOf]; omega
              · go_wp2_with fail
                refine (sWithin_is HW (by omega) (by omega) hx0 hx1 _).mono ?_
                rintro e w' ⟨rfl, m2, rfl⟩
                go_wp2_with fail
                go_roundw
                case rel => exact ⟨i + 1, false, false, by omega, by go_num, rfl, rfl, HH, by unfold Hid; rw [HT.out]; simp, _, rfl⟩
                case measure => simp [intOf]; omega
            · cases wb
              · go_wp2_with fail
                refine (sWithin_is HW (by omega) (by omega) hx0 hx1 _).mono ?_
                rintro e w' ⟨rfl, m2, rfl⟩
                go_wp2_with fail
                go_roundw
                case rel => exact ⟨i + 1, true, b2, by omega, by go_num, rfl, rfl, HH, by unfold Hid; rw [HT.out]; simp, _, rfl⟩
                case measure => simp [intOf]; omega
              · go_wp2_with fail
                refine (sWithin_is HW (by omega) (by omega) hx0 hx1 _).mono ?_
                rintro e w' ⟨rfl, m2, rfl⟩
                go_wp2_with fail
                go_roundw
                case rel => exact ⟨i + 1, true, false, by omega, by go_num, rfl, rfl, HH, by unfold Hid; rw [HT.out]; simp, _, rfl⟩
                case measure => simp [intOf]; omega
        · obtain rfl : i = xs.length := by omega
          have HK := Lib.hid (keep_of hh ht)
          have HN := Lib.hid (tidy_next xs k)
          have hlen := tidy_len xs k
          clear hh ht
          cases b1
          · have HN2 : Hid (tidyTo xs (k + 1) = tidyTo xs k) := by unfold Hid; rw [HN.out, HK.out]; simp
            go_wp2_with fail
            go_roundw
            case rel => exact ⟨k + 1, by omega, by go_num, by rw [HN2.out]; exact HOW.out, bel_drewN HB.out m⟩
            case measure => simp [intOf]; omega
          · cases b2
            · have HN2 : Hid (tidyTo xs (k + 1) = tidyTo xs k) := by unfold Hid; rw [HN.out, HK.out]; simp
              go_wp2_with fail
              go_roundw
              case rel => exact ⟨k + 1, by omega, by go_num, by rw [HN2.out]; exact HOW.out, bel_drewN HB.out m⟩
              case measure => simp [intOf]; omega
            · have HN2 : Hid (tidyTo xs (k + 1) = tidyTo xs k ++ [(k : Int)]) := by unfold Hid; rw [HN.out, HK.out]; simp
              have HOW2 : Hid (Owns (wr.drewN m) w.heap.size u3 (tidyTo xs k)) := HOW.out
              have HB2 := Lib.hid (bel_drewN HB.out m)
              go_wp2_with (at_builtin; refine wp_append1 (W := wr.drewN m) rfl _ _ rfl w.heap.size u3 (tidyTo xs k) rfl HOW2.out (k : Int) rfl (by omega) HB2.out.size ?_; intro v' w' hown' hgrow)
              have hb' := below_append HB2.out HB2.out.size HOW2.out (Nat.le_refl _) hgrow
              go_roundw
              case rel => exact ⟨k + 1, by omega, by go_num, by rw [HN2.out]; exact hown', hb'⟩
              case measure => simp [intOf]; omega
    · obtain rfl : k = 256 := by omega
      go_wp2
      go_ret
      exact ⟨_, rfl, HOW.out, HB.out⟩

def issueFromL (t : Int) (xs : List Int) : List Int := if partsOkB t xs = true then tidyL xs else []
theorem from_bad {t : Int} {xs : List Int} (h : partsOkB t xs = false) : issueFromL t xs = [] := by unfold issueFromL; rw [h]; rfl
theorem from_ok {t : Int} {xs : List Int} (h : partsOkB t xs = true) : issueFromL t xs = tidyL xs := by unfold issueFromL; rw [h]; rfl
theorem parts_end {t : Int} {xs : List Int} (h : Hid ((xs.take xs.length).all (setOkB t) = true)) : partsOkB t xs = (inB t 1 3 && inB (xs.length : Int) 1 70) := by
  have h := h.out
  rw [List.take_length] at h
  unfold partsOkB inB
  rw [h, Bool.and_true, Bool.eq_iff_iff]
  simp only [Bool.and_eq_true, decide_eq_true_eq]
  cases xs with
  | nil => simp
  | cons x r =>
    rw [List.all_eq_true] at h
    have := setOkB_lt (h x (by simp))
    simp only [List.length_cons]
    omega
theorem sIn_is {n a b : Int} {v : Bool} (h : Hid (inB n a b = v)) (w : World) : Calls Try.prog 64 #[.int .i64 n, .int .i64 a, .int .i64 b] w fun e w' => e = .returned (.bool v) ∧ w = w' :=
  (sIn n a b w).mono fun _ _ ⟨he, hw⟩ => ⟨he.trans (ret_bool h.out), hw⟩

end Go.Proofs.Ytmdpolllmipppaa

namespace Go.Proofs.Ytmdpolllmipppaa
open Go.RowKit

theorem owns_grown {w w' : World} {base g : Nat} {v : Value} {xs : List Int} (h : Owns w base v xs) (hg : w.grownBy w' (some g)) (hb : g < base) : Owns w' base v xs := by
  refine h.kept hg ?_
  cases e : v.ownBlock with
  | none => exact .inl rfl
  | some k =>
    right
    intro e2
    have := (World.ownsRow.lt h k e).1
    injection e2
    omega
theorem rd_append {w W w' : World} {base g u : Nat} {v : Value} {xs : List Int} {o : Obj} (hR : Rd W g u) (hG : w.grownBy W (some g)) (hown : Owns W base v xs) (hb : w.heap.size ≤ base) (hlt : g < w.heap.size)
    (hg : (W.alloc o).grownBy w' v.ownBlock) : Rd w' g u ∧ w.grownBy w' (some g) := by
  have hk : ∀ k, v.ownBlock = some k → w.heap.size ≤ k ∧ k < W.heap.size := fun k e => by have := World.ownsRow.lt hown k e; omega
  have h1 := hR.alloc o
  refine ⟨?_, grown_fresh (grown_alloc hG o) hg fun k e => (hk k e).1⟩
  obtain ⟨A, c, zs, p, a1, a2, a3, a4, a5, a6⟩ := hR
  have hgl : g < W.heap.size := (Array.getElem?_eq_some_iff.1 a1).1
  have a1' : (W.alloc o).heap[g]? = W.heap[g]? := Below.heap_alloc W o g hgl
  refine ⟨A, c, zs, p, (hg.block g (by simp; omega) (fun e => by have := hk g e.symm; omega)).trans (a1'.trans a1), ?_, a3, a4, a5, a6⟩
  exact fun hp => (a2.alloc o).grown hg (fun ad ha e => by have := a6 ad hp ha; have := hk ad.block e.symm; omega) hp

def ListPost (m g u : Nat) (w : World) (e : Ending) (w' : World) : Prop :=
  ∃ (v : Value) (xs : List Int), e = .returned v ∧ Owns w' w.heap.size v xs ∧ xs.length ≤ m ∧ (∀ x ∈ xs, -1 ≤ x ∧ x ≤ 256) ∧ Rd w' g u ∧ w.grownBy w' (some g)

theorem tidyTo_range (xs : List Int) (k : Nat) : ∀ x ∈ tidyTo xs k, 0 ≤ x ∧ x < k := by
  intro x hx
  unfold tidyTo at hx
  rw [List.mem_filter, List.mem_map] at hx
  obtain ⟨⟨n, hn, rfl⟩, _⟩ := hx
  rw [List.mem_range] at hn
  omega
theorem issueFrom_range (t : Int) (xs : List Int) : (issueFromL t xs).length ≤ 256 ∧ ∀ x ∈ issueFromL t xs, -1 ≤ x ∧ x ≤ 256 := by
  unfold issueFromL
  split
  · exact ⟨tidy_len xs 256, fun x hx => by have := tidyTo_range xs 256 x hx; omega⟩
  · simp

/-- What a drawing of a number of things and an issue leaves. -/
def DrawTL (w : World) (e : Ending) (w' : World) : Prop :=
  ∃ (t : Int) (v : Value) (xs : List Int), e = .returned (.tuple #[.int .i64 t, v]) ∧ -1 ≤ t ∧ t ≤ 4 ∧ Owns w' w.heap.size v xs ∧ xs.length ≤ 257 ∧ (∀ x ∈ xs, -1 ≤ x ∧ x ≤ 256) ∧ Below w.heap.size w w'
def DrawTLS (w : World) (e : Ending) (w' : World) : Prop :=
  ∃ (t : Int) (v : Value) (xs : List Int) (s : Int), e = .returned (.tuple #[.int .i64 t, v, .int .i64 s]) ∧ -1 ≤ t ∧ t ≤ 4 ∧ Owns w' w.heap.size v xs ∧ xs.length ≤ 257 ∧ (∀ x ∈ xs, -1 ≤ x ∧ x ≤ 256) ∧ -1 ≤ s ∧ s ≤ 256 ∧ Below w.heap.size w w'

end Go.Proofs.Ytmdpolllmipppaa
