/-
  What the proofs of this seat's statements share (TlkQ, TlkR).
-/
import Derived.Test.YtmdogidflaplkaaU24
import Derived.Test.YtmdogidflaplkaaU21
import Derived.Test.YtmdogidflaplkaaU23

namespace Go.Proofs.Ytmdogidflaplkaa
open Go.RowKit

set_option maxRecDepth 100000 in
set_option maxHeartbeats 2000000 in
theorem lSzStringS (A : Option Addr) (n c : Nat) (xs : List ByteArray) (l : Int) (w : World) (hn : n = xs.length) (hc : n ≤ c) (hm : c ≤ maxLen) (hA : Strs w A xs) (hs : ∀ s ∈ xs, s.size ≤ maxLen) (hl0 : 0 ≤ l) (hl1 : l ≤ 1048576) :
    Calls Try.prog 48 #[.slice A n c, .int .i64 l] w fun e w' => (∃ q : Int, e = .returned (.int .i64 q) ∧ q ≤ l ∧ (0 ≤ q → n ≤ 1048576 ∧ ∀ s ∈ xs, s.size ≤ 1048576) ∧ -1 ≤ q) ∧ w = w' := by
  subst hn
  have hm' : xs.length ≤ 9223372036854775807 := by unfold maxLen at hm; omega
  have HA := Lib.hid hA
  have HS := Lib.hid hs
  clear hA hs hc hm
  by_cases hl : l - (xs.length : Int) < 0
  · have hd : decide (l - (xs.length : Int) < 0) = true := decide_eq_true hl
    go_enter Try.func48, Try.ntmps48
    go_wp2_with fail
    go_ret
    exact ⟨⟨-1, rfl, by omega, by omega, by omega⟩, rfl⟩
  have hd : decide (l - (xs.length : Int) < 0) = false := decide_eq_false hl
  go_enter Try.func48, Try.ntmps48
  go_wp2_with fail
  clear hd
  go_loop [1, 5] (fun q i => ∃ (k : Nat) (v : Int), k ≤ xs.length ∧ i = .int .i64 k ∧ q = .int .i64 v ∧ 0 ≤ v ∧ v ≤ l ∧ Hid (∀ j s, j < k → xs[j]? = some s → s.size ≤ 1048576)) (fun _ i => xs.length - (Go.RowKit.intOf i).toNat)
  case atStart => exact ⟨0, _, Nat.zero_le _, rfl, rfl, by omega, by omega, fun j d h => by omega⟩
  case round =>
    obtain ⟨k, v, hk, rfl, rfl, hv0, hv1, HSO⟩ := hrel
    by_cases hlt : k < xs.length
    · obtain ⟨b, off, s, rfl, hc0, hx, _⟩ := HA.out.elem hlt
      have hg : s.size ≤ 9223372036854775807 := by have := HS.out s (elem_memS hx); unfold maxLen at this; exact this
      by_cases hq : v - (s.size : Int) < 0
      · have hd : decide (v - (s.size : Int) < 0) = true := decide_eq_true hq
        go_wp2_with fail
        go_ret
        exact ⟨⟨-1, rfl, by omega, by omega, by omega⟩, rfl⟩
      · have hd : decide (v - (s.size : Int) < 0) = false := decide_eq_false hq
        have HSN : Hid (∀ j s, j < k + 1 → xs[j]? = some s → s.size ≤ 1048576) := by
          intro j d hj hdj
          by_cases e : j = k
          · subst e
            rw [hx.out] at hdj; cases hdj; omega
          · exact HSO.out j d (by omega) hdj
        go_wp2_with fail
        go_round
        case rel => exact ⟨k + 1, _, by omega, by go_num, rfl, by omega, by omega, HSN⟩
        case measure => simp [Go.RowKit.intOf]; omega
    · obtain rfl : k = xs.length := by omega
      have HALL : Hid (∀ s ∈ xs, s.size ≤ 1048576) := fun d hd => by
        obtain ⟨j, hj⟩ := List.mem_iff_getElem?.1 hd
        exact HSO.out j d (List.getElem?_eq_some_iff.1 hj).1 hj
      go_wp2_with fail
      go_ret
      exact ⟨⟨v, rfl, by omega, fun _ => ⟨by omega, HALL.out⟩, by omega⟩, rfl⟩
set_option maxRecDepth 100000 in
theorem lSzState (k : Int) (A : Option Addr) (n c : Nat) (xs : List ByteArray) (l : Int) (w : World) (hn : n = xs.length) (hc : n ≤ c) (hm : c ≤ maxLen) (hA : Strs w A xs) (hs : ∀ s ∈ xs, s.size ≤ maxLen) (hl0 : 0 ≤ l) (hl1 : l ≤ 1048576) :
    Calls Try.prog 31 #[.agg #[.int .i64 k, .slice A n c], .int .i64 l] w fun e w' => (∃ q : Int, e = .returned (.int .i64 q) ∧ q ≤ l ∧ (0 ≤ q → n ≤ 1048576 ∧ ∀ s ∈ xs, s.size ≤ 1048576) ∧ -1 ≤ q) ∧ Below w.heap.size w w' := by
  have hb : Below w.heap.size w (w.alloc (.cells #[.int .i64 k, .slice A n c] 37)) := (Below.refl _ _).alloc (Nat.le_refl _) _
  have HB := Lib.hid hb
  have HC := Lib.hid (lSzStringS A n c xs l _ hn hc hm (hA.below hb) hs hl0 hl1)
  clear hb hn hc hm hA hs hl0 hl1
  go_enter Try.func31, Try.ntmps31
  go_wp2_with fail
  refine HC.out.mono ?_
  rintro e w' ⟨⟨q, rfl, hq1, hq2, hq3⟩, rfl⟩
  have HQ := Lib.hid hq2
  clear hq2
  by_cases hq : q < 0
  · have hd : decide (q < 0) = true := decide_eq_true hq
    go_wp2_with fail
    go_ret
    exact ⟨⟨-1, rfl, by omega, by omega, by omega⟩, HB.out⟩
  · have hd : decide (q < 0) = false := decide_eq_false hq
    go_wp2_with fail
    go_ret
    exact ⟨⟨q, rfl, hq1, HQ.out, hq3⟩, HB.out⟩
/-- No text of a talk is longer than any machine's. -/
structure BigT (T : TalkV) : Prop where
  txt : ∀ s ∈ T.now.op, s.size ≤ maxLen
  ops : ∀ x ∈ T.past, ∀ s ∈ x.op, s.size ≤ maxLen
set_option maxRecDepth 100000 in
set_option maxHeartbeats 2000000 in
theorem lSzStateS (A : Option Addr) (n c : Nat) (xs : List (St ByteArray)) (l : Int) (w : World) (hn : n = xs.length) (hc : n ≤ c) (hm : c ≤ maxLen) (hA : StaRow w A xs) (hs : ∀ x ∈ xs, ∀ s ∈ x.op, s.size ≤ maxLen) (hl0 : 0 ≤ l) (hl1 : l ≤ 1048576) :
    Calls Try.prog 32 #[.slice A n c, .int .i64 l] w fun e w' => (∃ q : Int, e = .returned (.int .i64 q) ∧ q ≤ l ∧ (0 ≤ q → n ≤ 1048576 ∧ ∀ x ∈ xs, x.op.length ≤ 1048576 ∧ ∀ s ∈ x.op, s.size ≤ 1048576) ∧ -1 ≤ q) ∧ Below w.heap.size w w' := by
  subst hn
  have hm' : xs.length ≤ 9223372036854775807 := by unfold maxLen at hm; omega
  have HA := Lib.hid hA
  have HS := Lib.hid hs
  clear hA hs hc hm
  by_cases hl : l - (xs.length : Int) < 0
  · have hd : decide (l - (xs.length : Int) < 0) = true := decide_eq_true hl
    go_enter Try.func32, Try.ntmps32
    go_wp2_with fail
    go_ret
    exact ⟨⟨-1, rfl, by omega, by omega, by omega⟩, Below.refl _ _⟩
  have hd : decide (l - (xs.length : Int) < 0) = false := decide_eq_false hl
  go_enter Try.func32, Try.ntmps32
  go_wp2_with fail
  clear hd
  go_loopw [1, 5] (fun q i wr => ∃ (k : Nat) (v : Int), k ≤ xs.length ∧ i = .int .i64 k ∧ q = .int .i64 v ∧ 0 ≤ v ∧ v ≤ l ∧ Hid (∀ j x, j < k → xs[j]? = some x → x.op.length ≤ 1048576 ∧ ∀ s ∈ x.op, s.size ≤ 1048576) ∧ Hid (Below w.heap.size w wr)) (fun _ i _ => xs.length - (Go.RowKit.intOf i).toNat)
  case atStart => exact ⟨0, _, Nat.zero_le _, rfl, rfl, by omega, by omega, (fun j d h => by omega), Below.refl _ _⟩
  case round =>
    obtain ⟨k, v, hk, rfl, rfl, hv0, hv1, HSO, HB⟩ := hrel
    by_cases hlt : k < xs.length
    · obtain ⟨b, off, Ai, ci, x, rfl, he0, he1, hle, hmi, hx, hAi, hbl⟩ := (HA.out.below HB.out).elem hlt
      have HC := Lib.hid (lSzState x.known Ai x.op.length ci x.op v wr rfl hle hmi hAi.out (HS.out x (List.mem_of_getElem? hx.out)) hv0 (by omega))
      clear hmi
      go_wp2_with fail
      refine HC.out.mono ?_
      rintro e w2 ⟨⟨q, rfl, hq1, hq2, hq3⟩, hb⟩
      have HB2 := Lib.hid (bel_trans HB.out hb)
      have HQ := Lib.hid hq2
      clear hb hq2 he0 he1
      by_cases hq : q < 0
      · have hd : decide (q < 0) = true := decide_eq_true hq
        go_wp2_with fail
        go_ret
        exact ⟨⟨-1, rfl, by omega, by omega, by omega⟩, HB2.out⟩
      · have hd : decide (q < 0) = false := decide_eq_false hq
        have HSN : Hid (∀ j x, j < k + 1 → xs[j]? = some x → x.op.length ≤ 1048576 ∧ ∀ s ∈ x.op, s.size ≤ 1048576) := by
          intro j d hj hdj
          by_cases e : j = k
          · subst e
            rw [hx.out] at hdj; cases hdj; exact HQ.out (by omega)
          · exact HSO.out j d (by omega) hdj
        go_wp2_with fail
        go_roundw
        case rel => exact ⟨k + 1, q, by omega, by go_num, rfl, by omega, by omega, HSN, HB2⟩
        case measure => simp [Go.RowKit.intOf]; omega
    · obtain rfl : k = xs.length := by omega
      have HALL : Hid (∀ x ∈ xs, x.op.length ≤ 1048576 ∧ ∀ s ∈ x.op, s.size ≤ 1048576) := fun d hd => by
        obtain ⟨j, hj⟩ := List.mem_iff_getElem?.1 hd
        exact HSO.out j d (List.getElem?_eq_some_iff.1 hj).1 hj
      go_wp2_with fail
      go_ret
      exact ⟨⟨v, rfl, by omega, fun _ => ⟨by omega, HALL.out⟩, by omega⟩, HB.out⟩
set_option maxRecDepth 100000 in
set_option maxHeartbeats 2000000 in
theorem lSzTalk (T : TalkV) (A B : Option Addr) (n c m d : Nat) (l : Int) (w : World) (hT : TkAt w T A n c B m d) (hs : BigT T) (hl0 : 0 ≤ l) (hl1 : l ≤ 1048576) :
    Calls Try.prog 16 #[.agg #[.int .i64 T.things, .int .i64 T.now.known, .slice A n c, .slice B m d], .int .i64 l] w fun e w' => (∃ q : Int, e = .returned (.int .i64 q) ∧ q ≤ l ∧ (0 ≤ q → SmallT T) ∧ -1 ≤ q) ∧ Below w.heap.size w w' := by
  have hb : Below w.heap.size w (w.alloc (.cells #[.int .i64 T.things, .int .i64 T.now.known, .slice A n c, .slice B m d] 40)) := (Below.refl _ _).alloc (Nat.le_refl _) _
  have HX : Hid (Box (w.alloc (.cells #[.int .i64 T.things, .int .i64 T.now.known, .slice A n c, .slice B m d] 40)) w.heap.size 40 [.int .i64 T.things, .int .i64 T.now.known, .slice A n c, .slice B m d]) := Box.new w _ _
  have HB := Lib.hid hb
  have HC := Lib.hid (lSzState T.now.known A n c T.now.op l _ hT.hn hT.hc hT.hm (hT.hA.below hb) hs.txt hl0 hl1)
  have HC2 : Hid (∀ (W : World) (v : Int), Below w.heap.size w W → 0 ≤ v → v ≤ 1048576 → Calls Try.prog 32 #[.slice B m d, .int .i64 v] W fun e w' => (∃ q : Int, e = .returned (.int .i64 q) ∧ q ≤ v ∧ (0 ≤ q → m ≤ 1048576 ∧ ∀ x ∈ T.past, x.op.length ≤ 1048576 ∧ ∀ s ∈ x.op, s.size ≤ 1048576) ∧ -1 ≤ q) ∧ Below W.heap.size W w') :=
    fun W v h h0 h1 => lSzStateS B m d T.past v W hT.pn hT.pc hT.pm (hT.hB.below h) hs.ops h0 h1
  have HFIN : Hid (n ≤ 1048576 ∧ (∀ s ∈ T.now.op, s.size ≤ 1048576) → m ≤ 1048576 ∧ (∀ x ∈ T.past, x.op.length ≤ 1048576 ∧ ∀ s ∈ x.op, s.size ≤ 1048576) → SmallT T) := fun h1 h2 => ⟨by rw [← hT.hn]; exact h1.1, by rw [← hT.pn]; exact h2.1, h1.2, h2.2⟩
  clear hb hT hs
  go_enter Try.func16, Try.ntmps16
  go_wp2_with fail
  refine HC.out.mono ?_
  rintro e w1 ⟨⟨q, rfl, hq1, hq2, hq3⟩, hb⟩
  have HQ := Lib.hid hq2
  have HB1 := Lib.hid (bel_trans HB.out hb)
  have HX1 := Lib.hid (HX.out.below hb)
  clear hq2 hb
  by_cases hq : q < 0
  · have hd : decide (q < 0) = true := decide_eq_true hq
    go_wp2_with fail
    go_ret
    exact ⟨⟨-1, rfl, by omega, by omega, by omega⟩, HB1.out⟩
  have hd : decide (q < 0) = false := decide_eq_false hq
  have hc3 := HX1.out.cell (i := 3) (v := .slice B m d) rfl
  go_wp2_with fail
  refine (HC2.out _ q HB1.out (by omega) (by omega)).mono ?_
  rintro e w2 ⟨⟨q2, rfl, hr1, hr2, hr3⟩, hb⟩
  have HQ2 := Lib.hid hr2
  have HB2 := Lib.hid (bel_trans HB1.out hb)
  clear hr2 hb hc3 hd
  by_cases hq' : q2 < 0
  · have hd : decide (q2 < 0) = true := decide_eq_true hq'
    go_wp2_with fail
    go_ret
    exact ⟨⟨-1, rfl, by omega, by omega, by omega⟩, HB2.out⟩
  have hd : decide (q2 < 0) = false := decide_eq_false hq'
  go_wp2_with fail
  go_ret
  exact ⟨⟨q2, rfl, by omega, fun h => HFIN.out (HQ.out (by omega)) (HQ2.out h), hr3⟩, HB2.out⟩
end Go.Proofs.Ytmdogidflaplkaa

namespace Go.Proofs.Ytmdogidflaplkaa
open Go.RowKit

set_option maxRecDepth 100000 in
set_option maxHeartbeats 2000000 in
theorem lToState (k : Int) (A : Option Addr) (n c : Nat) (xs : List ByteArray) (w : World) (hn : n = xs.length) (hl : n ≤ 1048576) (hA : Strs w A xs) :
    Calls Try.prog 33 #[.agg #[.int .i64 k, .slice A n c]] w fun e w' => ∃ v, e = .returned (.agg #[.int .i64 k, v]) ∧ OwnsS w' w.heap.size v xs ∧ Below w.heap.size w w' := by
  have HRES : Hid (Box (((w.alloc (.cells #[.int .i64 k, .slice A n c] 37)).alloc (.cells #[.int .i64 0, .slice none 0 0] 25)).alloc (.cells #[.int .i64 k, .slice none 0 0] 25)) (w.heap.size + 1) 25 [.int .i64 0, .slice none 0 0]) := by
    have := Box.new (w.alloc (.cells #[.int .i64 k, .slice A n c] 37)) 25 [.int .i64 0, .slice none 0 0]
    rw [World.size_alloc] at this
    exact this.alloc _
  have HOUT : Hid (Box (((w.alloc (.cells #[.int .i64 k, .slice A n c] 37)).alloc (.cells #[.int .i64 0, .slice none 0 0] 25)).alloc (.cells #[.int .i64 k, .slice none 0 0] 25)) (w.heap.size + 1 + 1) 25 [.int .i64 k, .slice none 0 0]) := by
    have := Box.new ((w.alloc (.cells #[.int .i64 k, .slice A n c] 37)).alloc (.cells #[.int .i64 0, .slice none 0 0] 25)) 25 [.int .i64 k, .slice none 0 0]
    rw [World.size_alloc, World.size_alloc] at this
    exact this
  have hb : Below w.heap.size w (((w.alloc (.cells #[.int .i64 k, .slice A n c] 37)).alloc (.cells #[.int .i64 0, .slice none 0 0] 25)).alloc (.cells #[.int .i64 k, .slice none 0 0] 25)) :=
    (((Below.refl _ _).alloc (Nat.le_refl _) _).alloc (by rw [World.size_alloc]; omega) _).alloc (by rw [World.size_alloc, World.size_alloc]; omega) _
  have HB := Lib.hid hb
  have HC := Lib.hid (lToStringS A n c xs _ hn hl (hA.below hb))
  clear hb hn hl hA
  go_enter Try.func33, Try.ntmps33
  go_wp2_with fail
  refine HC.out.mono ?_
  rintro e w1 ⟨v, rfl, ho, hb⟩
  have HRES1 := Lib.hid (HRES.out.below hb)
  have HOUT1 := Lib.hid (HOUT.out.below hb)
  have hbase : w.heap.size ≤ (((w.alloc (.cells #[.int .i64 k, .slice A n c] 37)).alloc (.cells #[.int .i64 0, .slice none 0 0] 25)).alloc (.cells #[.int .i64 k, .slice none 0 0] 25)).heap.size := HB.out.size
  have HO1 := Lib.hid (ho.base hbase)
  replace HB := Lib.hid (bel_trans HB.out hb)
  obtain ⟨A1, c1, rfl, _, _, _, _⟩ := ho.form
  clear ho hb HC HRES HOUT hbase
  have hc0 := HOUT1.out.cell (i := 0) (v := .int .i64 k) rfl
  have hc1 := HOUT1.out.cell (i := 1) (v := .slice none 0 0) rfl
  have hf1 := HOUT1.out.frozen 1
  have HOUT2 := Lib.hid (HOUT1.out.set 1 (.slice A1 xs.length c1))
  have hd0 := HOUT2.out.cell (i := 0) (v := .int .i64 k) rfl
  have hd1 := HOUT2.out.cell (i := 1) (v := .slice A1 xs.length c1) rfl
  have HRES2 := Lib.hid (HRES1.out.other (a := w.heap.size + 1 + 1) (i := 1) (by omega) (.slice A1 xs.length c1))
  have HO2 := Lib.hid (HO1.out.setBox (i := 1) (u := .slice A1 xs.length c1) HOUT1.out (by decide))
  obtain ⟨⟨ha0, ha1, ha2, ha3⟩, ⟨ha4, ha5⟩, HRES3⟩ := HRES2.out.store2 (.int .i64 k) (.slice A1 xs.length c1)
  have HO3 := Lib.hid ((HO2.out.setBox (i := 0) (u := .int .i64 k) HRES2.out (by decide)).setBox (i := 1) (u := .slice A1 xs.length c1) (HRES2.out.set 0 _) (by decide))
  have HB3 := Lib.hid (bel_set2 (HB.out.setCell (p := ⟨w.heap.size + 1 + 1, 1, none⟩) (by show w.heap.size ≤ w.heap.size + 1 + 1; omega) (.slice A1 xs.length c1)) (show w.heap.size ≤ w.heap.size + 1 by omega) (.int .i64 k) (.slice A1 xs.length c1))
  go_wp2_with fail
  refine bodyPost_ret_by (results_state (b := w.heap.size + 1) rfl rfl HRES3) rfl ⟨_, rfl, HO3.out, HB3.out⟩

/-! Slices of states. -/
def partX (vs : List (Int × Value)) : Nat → Value := fun j => if j < vs.length * 2 then ((cellsX vs)[j]?).getD (.int .i64 0) else (if j % 2 = 0 then .int .i64 0 else .slice none 0 0)
theorem made_twoX (m : Nat) : ∀ i, i < (madeCells #[Value.int .i64 0, .slice none 0 0] (m * 2)).size → (madeCells #[Value.int .i64 0, .slice none 0 0] (m * 2))[i]? = some (if i % 2 = 0 then .int .i64 0 else .slice none 0 0) := by
  intro i hi
  rw [size_madeCells] at hi
  have h2 : i % 2 = 0 ∨ i % 2 = 1 := by omega
  unfold madeCells
  rw [Array.getElem?_map, Array.getElem?_range, if_pos hi]
  rcases h2 with h | h <;> simp [h]
theorem rowX_made (w : World) (n : Nat) : (w.alloc (.cells (madeCells #[Value.int .i64 0, .slice none 0 0] (n * 2)) 25)).rowIs w.heap.size 25 (n * 2) (partX []) := by
  have := World.rowIs_alloc w (madeCells #[Value.int .i64 0, .slice none 0 0] (n * 2)) 25 (partX []) (fun i hi => by rw [made_twoX _ i hi]; unfold partX; rw [if_neg (show ¬ i < ([] : List (Int × Value)).length * 2 by simp)])
  rwa [size_madeCells] at this
theorem partX_next {w : World} {g n : Nat} {vs : List (Int × Value)} {a : Int} {v : Value} (h : w.rowIs g 25 (n * 2) (partX vs)) :
    ((w.setCell ⟨g, vs.length * 2, none⟩ (.int .i64 a)).setCell ⟨g, vs.length * 2 + 1, none⟩ v).rowIs g 25 (n * 2) (partX (vs ++ [(a, v)])) := by
  have hg : (vs ++ [(a, v)])[vs.length]? = some (a, v) := by rw [List.getElem?_append_right (Nat.le_refl _), Nat.sub_self]; rfl
  obtain ⟨e1, e2⟩ := cellsX_get _ _ _ hg
  refine ((h.set (vs.length * 2) _).set (vs.length * 2 + 1) _).congr fun j hj => ?_
  unfold partX
  rw [List.length_append, List.length_singleton]
  by_cases e : j = vs.length * 2 + 1
  · subst e
    rw [if_pos rfl, if_pos (show vs.length * 2 + 1 < (vs.length + 1) * 2 by omega), e2]; rfl
  · rw [if_neg e]
    by_cases e' : j = vs.length * 2
    · subst e'
      rw [if_pos rfl, if_pos (show vs.length * 2 < (vs.length + 1) * 2 by omega), e1]; rfl
    · rw [if_neg e']
      by_cases h1 : j < vs.length * 2
      · rw [if_pos h1, if_pos (show j < (vs.length + 1) * 2 by omega), cellsX_append, List.getElem?_append_left (by rw [cellsX_len]; exact h1)]
      · rw [if_neg h1, if_neg (show ¬ j < (vs.length + 1) * 2 by omega)]
theorem row_of_partX {w : World} {base g : Nat} {vs : List (Int × Value)} (h : w.rowIs g 25 (vs.length * 2) (partX vs)) (hb : base ≤ g) (hm : vs.length ≤ maxLen) : w.ownsRow base 25 2 (.slice (some ⟨g, 0, none⟩) vs.length vs.length) vs.length (cellsX vs) := by
  obtain ⟨c, hg, hn, hc⟩ := h
  refine ⟨cellsX_len vs, .inr ⟨g, vs.length, c, rfl, hb, hg, Nat.le_refl _, hm, by omega, ?_⟩⟩
  apply List.ext_getElem?
  intro i
  rw [List.getElem?_take]
  by_cases hi : i < vs.length * 2
  · rw [if_pos (by omega), Array.getElem?_toList, hc i hi]
    unfold partX
    rw [if_pos hi, List.getElem?_eq_getElem (by rw [cellsX_len]; exact hi)]; rfl
  · rw [if_neg (by omega), List.getElem?_eq_none (by rw [cellsX_len]; omega)]
theorem run_make_X (n : Nat) (hn : n ≤ 1048576) (W : World) : (Instr.makeSlice 26 (.int .i64 (n : Int)) (.int .i64 (n : Int))).run Try.prog W = .ok (.slice (some ⟨W.heap.size, 0, none⟩) n n) (W.alloc (.cells (madeCells #[Value.int .i64 0, .slice none 0 0] (n * 2)) 25)) := by
  obtain ⟨i0, hi0, hz0, hz1, hz2⟩ := info_parts state_info
  have h := run_make (P := Try.prog) W 26 25 i0 _ Try.underlying26 hi0 hz0 .i64 .i64 (n : Int) (n : Int) (by omega) (Int.le_refl _) (by rw [hz2]; omega) (by omega)
  rw [hz1, Int.toNat_natCast] at h
  exact h
/-- The copies so far: each open slice lies by itself, the later ones later. -/
def SeenTo (w : World) (base : Nat) (vs : List (Int × Value)) (xs : List (St ByteArray)) : Prop :=
  (∀ (i : Nat) (x : St ByteArray), i < vs.length → xs[i]? = some x → ∃ v, vs[i]? = some (x.known, v) ∧ OwnsS w base v x.op) ∧ vs.Pairwise fun u v => ∀ k j, u.2.ownBlock = some k → v.2.ownBlock = some j → k < j
theorem SeenTo.next {w w' : World} {base : Nat} {vs : List (Int × Value)} {xs : List (St ByteArray)} {x : St ByteArray} {v : Value} (h : SeenTo w base vs xs) (hvl : vs.length ≤ xs.length) (hx : xs[vs.length]? = some x) (hk : Keeps base w w') (hv : OwnsS w' base v x.op) (hlt : ∀ k, v.ownBlock = some k → w.heap.size ≤ k) :
    SeenTo w' base (vs ++ [(x.known, v)]) xs := by
  refine ⟨fun i y hi hy => ?_, ?_⟩
  · rw [List.length_append, List.length_singleton] at hi
    by_cases e : i < vs.length
    · obtain ⟨u, h1, h2⟩ := h.1 i y e hy
      exact ⟨u, by rw [List.getElem?_append_left e]; exact h1, h2.keep hk⟩
    · have e2 : i = vs.length := by omega
      subst e2
      rw [hx] at hy
      cases hy
      exact ⟨v, by rw [List.getElem?_append_right (Nat.le_refl _), Nat.sub_self]; rfl, hv⟩
  · rw [List.pairwise_append]
    refine ⟨h.2, List.pairwise_singleton _ _, fun a ha b hb k j h1 h2 => ?_⟩
    rw [List.mem_singleton] at hb
    subst hb
    obtain ⟨i, hi⟩ := List.mem_iff_getElem?.1 ha
    have hil := (List.getElem?_eq_some_iff.1 hi).1
    obtain ⟨u, h3, h4⟩ := h.1 i xs[i] hil (List.getElem?_eq_getElem (by omega))
    rw [hi] at h3
    cases h3
    have := (h4.lt h1).2
    have := hlt j h2
    omega
theorem Keeps.set {lo : Nat} {w : World} {g i : Nat} {v : Value} (h : g < lo) : Keeps lo w (w.setCell ⟨g, i, none⟩ v) :=
  ⟨by rw [show (w.setCell ⟨g, i, none⟩ v).heap.size = w.heap.size by simp [World.setCell]]; exact Nat.le_refl _, fun b hb _ => Below.heap_setCell w ⟨g, i, none⟩ v b (fun e => by simp only at e; omega)⟩
set_option maxRecDepth 100000 in
set_option maxHeartbeats 4000000 in
theorem lToStateS (A : Option Addr) (n c : Nat) (xs : List (St ByteArray)) (w : World) (hn : n = xs.length) (hl : n ≤ 1048576) (hA : StaRow w A xs) (hs : ∀ x ∈ xs, x.op.length ≤ 1048576) :
    Calls Try.prog 34 #[.slice A n c] w fun e w' => ∃ v vs, e = .returned v ∧ OwnsX 25 w' w.heap.size v vs xs ∧ SeenTo w' (w.heap.size + 1) vs xs ∧ v.ownBlock = some w.heap.size ∧ Below w.heap.size w w' := by
  subst hn
  have HA := Lib.hid hA
  have HS := Lib.hid hs
  clear hA hs
  have hmk := fun W => run_make_X xs.length hl W
  go_enter Try.func34, Try.ntmps34
  go_wp2_with fail
  clear hmk
  go_loopw [4] (fun i wr => ∃ vs : List (Int × Value), vs.length ≤ xs.length ∧ i = .int .i64 vs.length ∧ Hid (wr.rowIs w.heap.size 25 (xs.length * 2) (partX vs)) ∧ Hid (SeenTo wr (w.heap.size + 1) vs xs) ∧ Hid (Below w.heap.size w wr)) (fun i _ => xs.length - (Go.RowKit.intOf i).toNat)
  case atStart => exact ⟨[], Nat.zero_le _, rfl, rowX_made _ _, ⟨fun i x h => by simp at h, List.Pairwise.nil⟩, (Below.refl _ _).alloc (Nat.le_refl _) _⟩
  case round =>
    obtain ⟨vs, hk, rfl, HW, HSN, HB⟩ := hrel
    obtain ⟨k, hkk⟩ : ∃ k, vs.length = k := ⟨_, rfl⟩
    rw [hkk] at hk ⊢
    by_cases hlt : k < xs.length
    · obtain ⟨b, off, Ai, ci, x, rfl, he0, he1, hle, _, hx, hAi, hbl⟩ := (HA.out.below HB.out).elem hlt
      have HC := Lib.hid (lToState x.known Ai x.op.length ci x.op wr rfl (HS.out x (List.mem_of_getElem? hx.out)) hAi.out)
      have HKK := Lib.hid hkk
      have hgw := HW.out.lt
      clear hkk
      go_wp2_with fail
      refine HC.out.mono ?_
      rintro e w1 ⟨v, rfl, ho, hb⟩
      have HB2 := Lib.hid (bel_trans HB.out hb)
      have HW2 := Lib.hid (HW.out.of_block (hb.block _ HW.out.lt))
      have hd1 := HW2.out.cell (i := k * 2) (by omega)
      have hf1 := HW2.out.frozen (k * 2)
      have hd2 := HW2.out.cell (i := k * 2 + 1) (by omega)
      have hf2 := HW2.out.frozen (k * 2 + 1)
      unfold partX at hd1 hd2
      rw [HKK.out, if_neg (show ¬ k * 2 < k * 2 by omega), if_pos (show k * 2 % 2 = 0 by omega)] at hd1
      rw [HKK.out, if_neg (show ¬ k * 2 + 1 < k * 2 by omega), if_neg (show ¬ (k * 2 + 1) % 2 = 0 by omega)] at hd2
      obtain ⟨A1, c1, rfl, _, _, _, _⟩ := ho.form
      have HF : Hid (SeenTo ((w1.setCell ⟨w.heap.size, k * 2, none⟩ (.int .i64 x.known)).setCell ⟨w.heap.size, k * 2 + 1, none⟩ (.slice A1 x.op.length c1)) (w.heap.size + 1) (vs ++ [(x.known, .slice A1 x.op.length c1)]) xs) := by
        have hk1 : Keeps (w.heap.size + 1) w1 ((w1.setCell ⟨w.heap.size, k * 2, none⟩ (.int .i64 x.known)).setCell ⟨w.heap.size, k * 2 + 1, none⟩ (.slice A1 x.op.length c1)) := (Keeps.set (Nat.lt_succ_self _)).trans (Keeps.set (Nat.lt_succ_self _)) (Nat.le_refl _)
        refine HSN.out.next (by rw [HKK.out]; exact hk) (by rw [HKK.out]; exact hx.out) ((Keeps.of_below hb).trans hk1 (Nat.le_refl _)) ((ho.base (by omega)).keep hk1) fun kk e => (ho.lt e).1
      have HR : Hid (((w1.setCell ⟨w.heap.size, k * 2, none⟩ (.int .i64 x.known)).setCell ⟨w.heap.size, k * 2 + 1, none⟩ (.slice A1 x.op.length c1)).rowIs w.heap.size 25 (xs.length * 2) (partX (vs ++ [(x.known, .slice A1 x.op.length c1)]))) := by
        have := partX_next (a := x.known) (v := .slice A1 x.op.length c1) HW2.out
        rw [HKK.out] at this
        exact this
      have HBF := Lib.hid ((HB2.out.setCell (p := ⟨w.heap.size, k * 2, none⟩) (Nat.le_refl _) (.int .i64 x.known)).setCell (p := ⟨w.heap.size, k * 2 + 1, none⟩) (Nat.le_refl _) (.slice A1 x.op.length c1))
      clear ho hb he0 he1 hgw
      go_wp2_with fail
      go_roundw
      case rel => exact ⟨vs ++ [(x.known, .slice A1 x.op.length c1)], by rw [List.length_append, List.length_singleton, HKK.out]; omega, by rw [List.length_append, List.length_singleton, HKK.out]; go_num, HR, HF, HBF⟩
      case measure => simp [Go.RowKit.intOf]; omega
    · have hkx : k = xs.length := by omega
      subst hkx
      have HKK := Lib.hid hkk
      have HR : Hid (OwnsX 25 wr w.heap.size (.slice (some ⟨w.heap.size, 0, none⟩) xs.length xs.length) vs xs) := by
        have hrow := row_of_partX (base := w.heap.size) (vs := vs) (by rw [hkk]; exact HW.out) (Nat.le_refl _) (by unfold maxLen; omega)
        rw [hkk] at hrow
        refine ⟨by rw [hkk]; exact hrow, hkk, fun i x hx => ?_⟩
        obtain ⟨v, h1, h2⟩ := HSN.out.1 i x (by rw [hkk]; exact (List.getElem?_eq_some_iff.1 hx).1) hx
        exact ⟨v, h1, h2.base (Nat.le_succ _), own_apart h2 hrow (by decide)⟩
      clear hkk
      go_wp2_with fail
      go_ret
      exact ⟨_, vs, rfl, HR.out, HSN.out, rfl, HB.out⟩
end Go.Proofs.Ytmdogidflaplkaa
