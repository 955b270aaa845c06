/-
  What the proofs of this seat's statements share (TlkR, TlkX, FrmT).
-/
import Derived.Deep.SlicePairs
import Derived.Deep.Strs
import Derived.Test.YtmdogidflaplkaaGreatU22
import Derived.Test.YtmdogidflaplkaaGreatU17
import Derived.Test.YtmdogidflaplkaaGreatU19

namespace Go.Proofs.YtmdogidflaplkaaGreat
open Go.RowKit

set_option maxRecDepth 100000 in
set_option maxHeartbeats 2000000 in
theorem lToState (k : Int) (A : Option Addr) (n c : Nat) (xs : List ByteArray) (w : World) (hn : n = xs.length) (hl : n ≤ 1048576) (hA : Strs w A xs) :
    Calls Tryz.prog 59 #[.agg #[.int .i64 k, .slice A n c]] w fun e w' => ∃ v, e = .returned (.agg #[.int .i64 k, v]) ∧ OwnsS w' w.heap.size v xs ∧ Below w.heap.size w w' := by
  have HRES : Hid (Box (((w.alloc (.cells #[.int .i64 k, .slice A n c] 47)).alloc (.cells #[.int .i64 0, .slice none 0 0] 25)).alloc (.cells #[.int .i64 k, .slice none 0 0] 25)) (w.heap.size + 1) 25 [.int .i64 0, .slice none 0 0]) := by
    have := Box.new (w.alloc (.cells #[.int .i64 k, .slice A n c] 47)) 25 [.int .i64 0, .slice none 0 0]
    rw [World.size_alloc] at this
    exact this.alloc _
  have HOUT : Hid (Box (((w.alloc (.cells #[.int .i64 k, .slice A n c] 47)).alloc (.cells #[.int .i64 0, .slice none 0 0] 25)).alloc (.cells #[.int .i64 k, .slice none 0 0] 25)) (w.heap.size + 1 + 1) 25 [.int .i64 k, .slice none 0 0]) := by
    have := Box.new ((w.alloc (.cells #[.int .i64 k, .slice A n c] 47)).alloc (.cells #[.int .i64 0, .slice none 0 0] 25)) 25 [.int .i64 k, .slice none 0 0]
    rw [World.size_alloc, World.size_alloc] at this
    exact this
  have hb : Below w.heap.size w (((w.alloc (.cells #[.int .i64 k, .slice A n c] 47)).alloc (.cells #[.int .i64 0, .slice none 0 0] 25)).alloc (.cells #[.int .i64 k, .slice none 0 0] 25)) :=
    (((Below.refl _ _).alloc (Nat.le_refl _) _).alloc (by rw [World.size_alloc]; omega) _).alloc (by rw [World.size_alloc, World.size_alloc]; omega) _
  have HB := Lib.hid hb
  have HC := Lib.hid (lToStringS A n c xs _ hn hl (hA.below hb))
  clear hb hn hl hA
  go_enter Tryz.func59, Tryz.ntmps59
  go_wp2_with fail
  refine HC.out.mono ?_
  rintro e w1 ⟨v, rfl, ho, hb⟩
  have HRES1 := Lib.hid (HRES.out.below hb)
  have HOUT1 := Lib.hid (HOUT.out.below hb)
  have hbase : w.heap.size ≤ (((w.alloc (.cells #[.int .i64 k, .slice A n c] 47)).alloc (.cells #[.int .i64 0, .slice none 0 0] 25)).alloc (.cells #[.int .i64 k, .slice none 0 0] 25)).heap.size := HB.out.size
  have HO1 := Lib.hid (ho.base hbase)
  replace HB := Lib.hid (bel_trans HB.out hb)
  obtain ⟨A1, c1, rfl, _, _, _, _⟩ := ho.form
  clear ho hb HC HRES HOUT hbase
  have hc0 := HOUT1.out.cell (i := 0) (v := .int .i64 k) rfl
  have hc1 := HOUT1.out.cell (i := 1) (v := .slice none 0 0) rfl
  have hf1 := HOUT1.out.frozen 1
  have HOUT2 := Lib.hid (HOUT1.out.set 1 (.slice A1 xs.length c1))
  have hd0 := HOUT2.out.cell (i := 0) (v := .int .i64 k) rfl
  have hd1 := HOUT2.out.cell (i := 1) (v := .slice A1 xs.length c1) rfl
  have HRES2 := Lib.hid (HRES1.out.other (a := w.heap.size + 1 + 1) (i := 1) (by omega) (.slice A1 xs.length c1))
  have HO2 := Lib.hid (HO1.out.setBox (i := 1) (u := .slice A1 xs.length c1) HOUT1.out (by decide))
  obtain ⟨⟨ha0, ha1, ha2, ha3⟩, ⟨ha4, ha5⟩, HRES3⟩ := HRES2.out.store2 (.int .i64 k) (.slice A1 xs.length c1)
  have HO3 := Lib.hid ((HO2.out.setBox (i := 0) (u := .int .i64 k) HRES2.out (by decide)).setBox (i := 1) (u := .slice A1 xs.length c1) (HRES2.out.set 0 _) (by decide))
  have HB3 := Lib.hid (bel_set2 (HB.out.setCell (p := ⟨w.heap.size + 1 + 1, 1, none⟩) (by show w.heap.size ≤ w.heap.size + 1 + 1; omega) (.slice A1 xs.length c1)) (show w.heap.size ≤ w.heap.size + 1 by omega) (.int .i64 k) (.slice A1 xs.length c1))
  go_wp2_with fail
  refine bodyPost_ret_by (results_state (b := w.heap.size + 1) rfl rfl HRES3) rfl ⟨_, rfl, HO3.out, HB3.out⟩

/-! Slices of states. -/
def partX (vs : List (Int × Value)) : Nat → Value := fun j => if j < vs.length * 2 then ((cellsX vs)[j]?).getD (.int .i64 0) else (if j % 2 = 0 then .int .i64 0 else .slice none 0 0)
theorem made_twoX (m : Nat) : ∀ i, i < (madeCells #[Value.int .i64 0, .slice none 0 0] (m * 2)).size → (madeCells #[Value.int .i64 0, .slice none 0 0] (m * 2))[i]? = some (if i % 2 = 0 then .int .i64 0 else .slice none 0 0) := by
  intro i hi
  rw [size_madeCells] at hi
  have h2 : i % 2 = 0 ∨ i % 2 = 1 := by omega
  unfold madeCells
  rw [Array.getElem?_map, Array.getElem?_range, if_pos hi]
  rcases h2 with h | h <;> simp [h]
theorem rowX_made (w : World) (n : Nat) : (w.alloc (.cells (madeCells #[Value.int .i64 0, .slice none 0 0] (n * 2)) 25)).rowIs w.heap.size 25 (n * 2) (partX []) := by
  have := World.rowIs_alloc w (madeCells #[Value.int .i64 0, .slice none 0 0] (n * 2)) 25 (partX []) (fun i hi => by rw [made_twoX _ i hi]; unfold partX; rw [if_neg (show ¬ i < ([] : List (Int × Value)).length * 2 by simp)])
  rwa [size_madeCells] at this
theorem partX_next {w : World} {g n : Nat} {vs : List (Int × Value)} {a : Int} {v : Value} (h : w.rowIs g 25 (n * 2) (partX vs)) :
    ((w.setCell ⟨g, vs.length * 2, none⟩ (.int .i64 a)).setCell ⟨g, vs.length * 2 + 1, none⟩ v).rowIs g 25 (n * 2) (partX (vs ++ [(a, v)])) := by
  have hg : (vs ++ [(a, v)])[vs.length]? = some (a, v) := by rw [List.getElem?_append_right (Nat.le_refl _), Nat.sub_self]; rfl
  obtain ⟨e1, e2⟩ := cellsX_get _ _ _ hg
  refine ((h.set (vs.length * 2) _).set (vs.length * 2 + 1) _).congr fun j hj => ?_
  unfold partX
  rw [List.length_append, List.length_singleton]
  by_cases e : j = vs.length * 2 + 1
  · subst e
    rw [if_pos rfl, if_pos (show vs.length * 2 + 1 < (vs.length + 1) * 2 by omega), e2]; rfl
  · rw [if_neg e]
    by_cases e' : j = vs.length * 2
    · subst e'
      rw [if_pos rfl, if_pos (show vs.length * 2 < (vs.length + 1) * 2 by omega), e1]; rfl
    · rw [if_neg e']
      by_cases h1 : j < vs.length * 2
      · rw [if_pos h1, if_pos (show j < (vs.length + 1) * 2 by omega), cellsX_append, List.getElem?_append_left (by rw [cellsX_len]; exact h1)]
      · rw [if_neg h1, if_neg (show ¬ j < (vs.length + 1) * 2 by omega)]
theorem row_of_partX {w : World} {base g : Nat} {vs : List (Int × Value)} (h : w.rowIs g 25 (vs.length * 2) (partX vs)) (hb : base ≤ g) (hm : vs.length ≤ maxLen) : w.ownsRow base 25 2 (.slice (some ⟨g, 0, none⟩) vs.length vs.length) vs.length (cellsX vs) := by
  obtain ⟨c, hg, hn, hc⟩ := h
  refine ⟨cellsX_len vs, .inr ⟨g, vs.length, c, rfl, hb, hg, Nat.le_refl _, hm, by omega, ?_⟩⟩
  apply List.ext_getElem?
  intro i
  rw [List.getElem?_take]
  by_cases hi : i < vs.length * 2
  · rw [if_pos (by omega), Array.getElem?_toList, hc i hi]
    unfold partX
    rw [if_pos hi, List.getElem?_eq_getElem (by rw [cellsX_len]; exact hi)]; rfl
  · rw [if_neg (by omega), List.getElem?_eq_none (by rw [cellsX_len]; omega)]
theorem run_make_X (n : Nat) (hn : n ≤ 1048576) (W : World) : (Instr.makeSlice 26 (.int .i64 (n : Int)) (.int .i64 (n : Int))).run Tryz.prog W = .ok (.slice (some ⟨W.heap.size, 0, none⟩) n n) (W.alloc (.cells (madeCells #[Value.int .i64 0, .slice none 0 0] (n * 2)) 25)) := by
  obtain ⟨i0, hi0, hz0, hz1, hz2⟩ := info_parts state_info
  have h := run_make (P := Tryz.prog) W 26 25 i0 _ Tryz.underlying26 hi0 hz0 .i64 .i64 (n : Int) (n : Int) (by omega) (Int.le_refl _) (by rw [hz2]; omega) (by omega)
  rw [hz1, Int.toNat_natCast] at h
  exact h
/-- The copies so far: each open slice lies by itself, the later ones later. -/
def SeenTo (w : World) (base : Nat) (vs : List (Int × Value)) (xs : List (St ByteArray)) : Prop :=
  (∀ (i : Nat) (x : St ByteArray), i < vs.length → xs[i]? = some x → ∃ v, vs[i]? = some (x.known, v) ∧ OwnsS w base v x.op) ∧ vs.Pairwise fun u v => ∀ k j, u.2.ownBlock = some k → v.2.ownBlock = some j → k < j
theorem SeenTo.next {w w' : World} {base : Nat} {vs : List (Int × Value)} {xs : List (St ByteArray)} {x : St ByteArray} {v : Value} (h : SeenTo w base vs xs) (hvl : vs.length ≤ xs.length) (hx : xs[vs.length]? = some x) (hk : Keeps base w w') (hv : OwnsS w' base v x.op) (hlt : ∀ k, v.ownBlock = some k → w.heap.size ≤ k) :
    SeenTo w' base (vs ++ [(x.known, v)]) xs := by
  refine ⟨fun i y hi hy => ?_, ?_⟩
  · rw [List.length_append, List.length_singleton] at hi
    by_cases e : i < vs.length
    · obtain ⟨u, h1, h2⟩ := h.1 i y e hy
      exact ⟨u, by rw [List.getElem?_append_left e]; exact h1, h2.keep hk⟩
    · have e2 : i = vs.length := by omega
      subst e2
      rw [hx] at hy
      cases hy
      exact ⟨v, by rw [List.getElem?_append_right (Nat.le_refl _), Nat.sub_self]; rfl, hv⟩
  · rw [List.pairwise_append]
    refine ⟨h.2, List.pairwise_singleton _ _, fun a ha b hb k j h1 h2 => ?_⟩
    rw [List.mem_singleton] at hb
    subst hb
    obtain ⟨i, hi⟩ := List.mem_iff_getElem?.1 ha
    have hil := (List.getElem?_eq_some_iff.1 hi).1
    obtain ⟨u, h3, h4⟩ := h.1 i xs[i] hil (List.getElem?_eq_getElem (by omega))
    rw [hi] at h3
    cases h3
    have := (h4.lt h1).2
    have := hlt j h2
    omega
theorem Keeps.set {lo : Nat} {w : World} {g i : Nat} {v : Value} (h : g < lo) : Keeps lo w (w.setCell ⟨g, i, none⟩ v) :=
  ⟨by rw [show (w.setCell ⟨g, i, none⟩ v).heap.size = w.heap.size by simp [World.setCell]]; exact Nat.le_refl _, fun b hb _ => Below.heap_setCell w ⟨g, i, none⟩ v b (fun e => by simp only at e; omega)⟩
set_option maxRecDepth 100000 in
set_option maxHeartbeats 4000000 in
theorem lToStateS (A : Option Addr) (n c : Nat) (xs : List (St ByteArray)) (w : World) (hn : n = xs.length) (hl : n ≤ 1048576) (hA : StaRow w A xs) (hs : ∀ x ∈ xs, x.op.length ≤ 1048576) :
    Calls Tryz.prog 60 #[.slice A n c] w fun e w' => ∃ v vs, e = .returned v ∧ OwnsX 25 w' w.heap.size v vs xs ∧ SeenTo w' (w.heap.size + 1) vs xs ∧ v.ownBlock = some w.heap.size ∧ Below w.heap.size w w' := by
  subst hn
  have HA := Lib.hid hA
  have HS := Lib.hid hs
  clear hA hs
  have hmk := fun W => run_make_X xs.length hl W
  go_enter Tryz.func60, Tryz.ntmps60
  go_wp2_with fail
  clear hmk
  go_loopw [4] (fun i wr => ∃ vs : List (Int × Value), vs.length ≤ xs.length ∧ i = .int .i64 vs.length ∧ Hid (wr.rowIs w.heap.size 25 (xs.length * 2) (partX vs)) ∧ Hid (SeenTo wr (w.heap.size + 1) vs xs) ∧ Hid (Below w.heap.size w wr)) (fun i _ => xs.length - (Go.RowKit.intOf i).toNat)
  case atStart => exact ⟨[], Nat.zero_le _, rfl, rowX_made _ _, ⟨fun i x h => by simp at h, List.Pairwise.nil⟩, (Below.refl _ _).alloc (Nat.le_refl _) _⟩
  case round =>
    obtain ⟨vs, hk, rfl, HW, HSN, HB⟩ := hrel
    obtain ⟨k, hkk⟩ : ∃ k, vs.length = k := ⟨_, rfl⟩
    rw [hkk] at hk ⊢
    by_cases hlt : k < xs.length
    · obtain ⟨b, off, Ai, ci, x, rfl, he0, he1, hle, _, hx, hAi, hbl⟩ := (HA.out.below HB.out).elem hlt
      have HC := Lib.hid (lToState x.known Ai x.op.length ci x.op wr rfl (HS.out x (List.mem_of_getElem? hx.out)) hAi.out)
      have HKK := Lib.hid hkk
      have hgw := HW.out.lt
      clear hkk
      go_wp2_with fail
      refine HC.out.mono ?_
      rintro e w1 ⟨v, rfl, ho, hb⟩
      have HB2 := Lib.hid (bel_trans HB.out hb)
      have HW2 := Lib.hid (HW.out.of_block (hb.block _ HW.out.lt))
      have hd1 := HW2.out.cell (i := k * 2) (by omega)
      have hf1 := HW2.out.frozen (k * 2)
      have hd2 := HW2.out.cell (i := k * 2 + 1) (by omega)
      have hf2 := HW2.out.frozen (k * 2 + 1)
      unfold partX at hd1 hd2
      rw [HKK.out, if_neg (show ¬ k * 2 < k * 2 by omega), if_pos (show k * 2 % 2 = 0 by omega)] at hd1
      rw [HKK.out, if_neg (show ¬ k * 2 + 1 < k * 2 by omega), if_neg (show ¬ (k * 2 + 1) % 2 = 0 by omega)] at hd2
      obtain ⟨A1, c1, rfl, _, _, _, _⟩ := ho.form
      have HF : Hid (SeenTo ((w1.setCell ⟨w.heap.size, k * 2, none⟩ (.int .i64 x.known)).setCell ⟨w.heap.size, k * 2 + 1, none⟩ (.slice A1 x.op.length c1)) (w.heap.size + 1) (vs ++ [(x.known, .slice A1 x.op.length c1)]) xs) := by
        have hk1 : Keeps (w.heap.size + 1) w1 ((w1.setCell ⟨w.heap.size, k * 2, none⟩ (.int .i64 x.known)).setCell ⟨w.heap.size, k * 2 + 1, none⟩ (.slice A1 x.op.length c1)) := (Keeps.set (Nat.lt_succ_self _)).trans (Keeps.set (Nat.lt_succ_self _)) (Nat.le_refl _)
        refine HSN.out.next (by rw [HKK.out]; exact hk) (by rw [HKK.out]; exact hx.out) ((Keeps.of_below hb).trans hk1 (Nat.le_refl _)) ((ho.base (by omega)).keep hk1) fun kk e => (ho.lt e).1
      have HR : Hid (((w1.setCell ⟨w.heap.size, k * 2, none⟩ (.int .i64 x.known)).setCell ⟨w.heap.size, k * 2 + 1, none⟩ (.slice A1 x.op.length c1)).rowIs w.heap.size 25 (xs.length * 2) (partX (vs ++ [(x.known, .slice A1 x.op.length c1)]))) := by
        have := partX_next (a := x.known) (v := .slice A1 x.op.length c1) HW2.out
        rw [HKK.out] at this
        exact this
      have HBF := Lib.hid ((HB2.out.setCell (p := ⟨w.heap.size, k * 2, none⟩) (Nat.le_refl _) (.int .i64 x.known)).setCell (p := ⟨w.heap.size, k * 2 + 1, none⟩) (Nat.le_refl _) (.slice A1 x.op.length c1))
      clear ho hb he0 he1 hgw
      go_wp2_with fail
      go_roundw
      case rel => exact ⟨vs ++ [(x.known, .slice A1 x.op.length c1)], by rw [List.length_append, List.length_singleton, HKK.out]; omega, by rw [List.length_append, List.length_singleton, HKK.out]; go_num, HR, HF, HBF⟩
      case measure => simp [Go.RowKit.intOf]; omega
    · have hkx : k = xs.length := by omega
      subst hkx
      have HKK := Lib.hid hkk
      have HR : Hid (OwnsX 25 wr w.heap.size (.slice (some ⟨w.heap.size, 0, none⟩) xs.length xs.length) vs xs) := by
        have hrow := row_of_partX (base := w.heap.size) (vs := vs) (by rw [hkk]; exact HW.out) (Nat.le_refl _) (by unfold maxLen; omega)
        rw [hkk] at hrow
        refine ⟨by rw [hkk]; exact hrow, hkk, fun i x hx => ?_⟩
        obtain ⟨v, h1, h2⟩ := HSN.out.1 i x (by rw [hkk]; exact (List.getElem?_eq_some_iff.1 hx).1) hx
        exact ⟨v, h1, h2.base (Nat.le_succ _), own_apart h2 hrow (by decide)⟩
      clear hkk
      go_wp2_with fail
      go_ret
      exact ⟨_, vs, rfl, HR.out, HSN.out, rfl, HB.out⟩
end Go.Proofs.YtmdogidflaplkaaGreat

namespace Go.Proofs.YtmdogidflaplkaaGreat
open Go.RowKit

/-- A talk of the law's own, all its slices apart: the questions ahead of mid, the row of the states of before at mid, their questions behind it. -/
def OwnT (w : World) (lo : Nat) (T : TalkV) (o p : Value) (vs : List (Int × Value)) (mid : Nat) : Prop :=
  OwnsS w lo o T.now.op ∧ (∀ k, o.ownBlock = some k → k < mid) ∧ OwnsX 25 w mid p vs T.past ∧ SeenTo w (mid + 1) vs T.past ∧ p.ownBlock = some mid ∧ lo ≤ mid
theorem SeenTo.keep {w w' : World} {base : Nat} {vs : List (Int × Value)} {xs : List (St ByteArray)} (h : SeenTo w base vs xs) (hk : Keeps base w w') : SeenTo w' base vs xs :=
  ⟨fun i x h1 h2 => by obtain ⟨v, h3, h4⟩ := h.1 i x h1 h2; exact ⟨v, h3, h4.keep hk⟩, h.2⟩
theorem Keeps.base {lo lo2 : Nat} {w w' : World} (h : Keeps lo w w') (hl : lo ≤ lo2) : Keeps lo2 w w' := ⟨h.1, fun b h1 h2 => h.2 b (by omega) h2⟩
theorem OwnT.keep {w w' : World} {lo : Nat} {T : TalkV} {o p : Value} {vs : List (Int × Value)} {mid : Nat} (h : OwnT w lo T o p vs mid) (hk : Keeps lo w w') : OwnT w' lo T o p vs mid := by
  obtain ⟨h1, h2, h3, h4, h5, h6⟩ := h
  exact ⟨h1.keep hk, h2, h3.keep (hk.base h6), h4.keep (hk.base (by omega)), h5, h6⟩
theorem OwnT.in_ {w : World} {lo : Nat} {T : TalkV} {o p : Value} {vs : List (Int × Value)} {mid : Nat} (h : OwnT w lo T o p vs mid) :
    ∃ A c B d, o = .slice A T.now.op.length c ∧ p = .slice B T.past.length d ∧ TkIn w lo T A T.now.op.length c B T.past.length d := tk_of_owns h.1 (h.2.2.1.base h.2.2.2.2.2)
set_option maxRecDepth 100000 in
set_option maxHeartbeats 4000000 in
theorem lToTalk (T : TalkV) (A B : Option Addr) (n c m d : Nat) (w : World) (hT : TkAt w T A n c B m d) (hs : SmallT T) :
    Calls Tryz.prog 23 #[.agg #[.int .i64 T.things, .int .i64 T.now.known, .slice A n c, .slice B m d]] w fun e w' => ∃ o p vs mid, e = .returned (.agg #[.int .i64 T.things, .int .i64 T.now.known, o, p]) ∧ OwnT w' w.heap.size T o p vs mid ∧ Below w.heap.size w w' := by
  obtain ⟨t, ht⟩ : ∃ t, T.things = t := ⟨_, rfl⟩
  obtain ⟨k, hk⟩ : ∃ k, T.now.known = k := ⟨_, rfl⟩
  rw [ht, hk]
  obtain ⟨W0, hW0⟩ : ∃ W, ((w.alloc (.cells #[.int .i64 t, .int .i64 k, .slice A n c, .slice B m d] 50)).alloc (.cells #[.int .i64 0, .int .i64 0, .slice none 0 0, .slice none 0 0] 28)).alloc (.cells #[.int .i64 t, .int .i64 0, .slice none 0 0, .slice none 0 0] 28) = W := ⟨_, rfl⟩
  have HARG : Hid (Box W0 w.heap.size 50 [.int .i64 t, .int .i64 k, .slice A n c, .slice B m d]) := by
    rw [← hW0]
    exact ((Box.new w 50 [.int .i64 t, .int .i64 k, .slice A n c, .slice B m d]).alloc _).alloc _
  have HRES : Hid (Box W0 (w.heap.size + 1) 28 [.int .i64 0, .int .i64 0, .slice none 0 0, .slice none 0 0]) := by
    have := Box.new (w.alloc (.cells #[.int .i64 t, .int .i64 k, .slice A n c, .slice B m d] 50)) 28 [.int .i64 0, .int .i64 0, .slice none 0 0, .slice none 0 0]
    rw [World.size_alloc] at this
    rw [← hW0]
    exact this.alloc _
  have HOUT : Hid (Box W0 (w.heap.size + 1 + 1) 28 [.int .i64 t, .int .i64 0, .slice none 0 0, .slice none 0 0]) := by
    have := Box.new ((w.alloc (.cells #[.int .i64 t, .int .i64 k, .slice A n c, .slice B m d] 50)).alloc (.cells #[.int .i64 0, .int .i64 0, .slice none 0 0, .slice none 0 0] 28)) 28 [.int .i64 t, .int .i64 0, .slice none 0 0, .slice none 0 0]
    rw [World.size_alloc, World.size_alloc] at this
    rw [← hW0]
    exact this
  have hb0 : Below w.heap.size w W0 := by
    rw [← hW0]
    exact (((Below.refl _ _).alloc (Nat.le_refl _) _).alloc (by rw [World.size_alloc]; omega) _).alloc (by rw [World.size_alloc, World.size_alloc]; omega) _
  have HB := Lib.hid hb0
  have hlt0 : w.heap.size + 1 + 1 < W0.heap.size := HOUT.out.lt
  have HC := Lib.hid (lToState k A n c T.now.op W0 hT.hn (by rw [hT.hn]; exact hs.op) (hT.hA.below hb0))
  have HC2 : Hid (∀ W : World, Below w.heap.size w W → Calls Tryz.prog 60 #[.slice B m d] W fun e w' => ∃ v vs, e = .returned v ∧ OwnsX 25 w' W.heap.size v vs T.past ∧ SeenTo w' (W.heap.size + 1) vs T.past ∧ v.ownBlock = some W.heap.size ∧ Below W.heap.size W w') :=
    fun W h => lToStateS B m d T.past W hT.pn (by rw [hT.pn]; exact hs.past) (hT.hB.below h) fun x hx => (hs.ops x hx).1
  have hx1 := HARG.out.cell (i := 1) (v := .int .i64 k) rfl
  have hx2 := HARG.out.cell (i := 2) (v := .slice A n c) rfl
  clear hT hs hb0 ht hk
  go_enter Tryz.func23, Tryz.ntmps23
  go_wp2_with fail
  clear hW0 hx1 hx2
  refine HC.out.mono ?_
  rintro e w1 ⟨o, rfl, ho, hb⟩
  have HARG1 := Lib.hid (HARG.out.below hb)
  have HRES1 := Lib.hid (HRES.out.below hb)
  have HOUT1 := Lib.hid (HOUT.out.below hb)
  have HO1 := Lib.hid ho
  have HB1 := Lib.hid (bel_trans HB.out hb)
  have hs01 : W0.heap.size ≤ w1.heap.size := hb.size
  obtain ⟨A1, c1, rfl, _, _, _, _⟩ := ho.form
  clear ho hb HC HRES HOUT HARG HB
  have hc1 := HOUT1.out.cell (i := 1) (v := .int .i64 0) rfl
  have hf1 := HOUT1.out.frozen 1
  have hc2 := (HOUT1.out.set 1 (.int .i64 k)).cell (i := 2) (v := .slice none 0 0) rfl
  have hf2 := (HOUT1.out.set 1 (.int .i64 k)).frozen 2
  have HOUT2 := Lib.hid ((HOUT1.out.set 1 (.int .i64 k)).set 2 (.slice A1 T.now.op.length c1))
  have HARG2 := Lib.hid ((HARG1.out.other (a := w.heap.size + 1 + 1) (i := 1) (by omega) (.int .i64 k)).other (a := w.heap.size + 1 + 1) (i := 2) (by omega) (.slice A1 T.now.op.length c1))
  have HRES2 := Lib.hid ((HRES1.out.other (a := w.heap.size + 1 + 1) (i := 1) (by omega) (.int .i64 k)).other (a := w.heap.size + 1 + 1) (i := 2) (by omega) (.slice A1 T.now.op.length c1))
  have HO2 := Lib.hid ((HO1.out.setBox (i := 1) (u := .int .i64 k) HOUT1.out (by decide)).setBox (i := 2) (u := .slice A1 T.now.op.length c1) (HOUT1.out.set 1 _) (by decide))
  have HB2 := Lib.hid ((HB1.out.setCell (p := ⟨w.heap.size + 1 + 1, 1, none⟩) (by show w.heap.size ≤ w.heap.size + 1 + 1; omega) (.int .i64 k)).setCell (p := ⟨w.heap.size + 1 + 1, 2, none⟩) (by show w.heap.size ≤ w.heap.size + 1 + 1; omega) (.slice A1 T.now.op.length c1))
  have hs12 : w1.heap.size ≤ ((w1.setCell ⟨w.heap.size + 1 + 1, 1, none⟩ (.int .i64 k)).setCell ⟨w.heap.size + 1 + 1, 2, none⟩ (.slice A1 T.now.op.length c1)).heap.size := by simp [World.setCell]
  have hc3 := HARG2.out.cell (i := 3) (v := .slice B m d) rfl
  have HC3 := Lib.hid (HC2.out _ HB2.out)
  obtain ⟨W2, hW2⟩ : ∃ W, ((w1.setCell ⟨w.heap.size + 1 + 1, 1, none⟩ (.int .i64 k)).setCell ⟨w.heap.size + 1 + 1, 2, none⟩ (.slice A1 T.now.op.length c1)) = W := ⟨_, rfl⟩
  rw [hW2] at HOUT2 HARG2 HRES2 HO2 HB2 hs12 hc3 HC3
  go_wp2_with fail
  clear hW2 hc1 hf1 hc2 hf2
  refine HC3.out.mono ?_
  rintro e w3 ⟨p, vs, rfl, hp, hsn, hown, hb⟩
  have HOUT3 := Lib.hid (HOUT2.out.below hb)
  have HRES3 := Lib.hid (HRES2.out.below hb)
  have HO3 := Lib.hid (HO2.out.below hb)
  have HB3 := Lib.hid (bel_trans HB2.out hb)
  obtain ⟨B1, d1, rfl, _, _, _, _⟩ := hp.form
  have HLT : Hid (∀ kk, (Value.slice A1 T.now.op.length c1).ownBlock = some kk → kk < W2.heap.size) := fun kk e => (HO2.out.lt e).2
  have HP3 := Lib.hid hp
  have HSN3 := Lib.hid hsn
  have HOWN := Lib.hid hown
  clear hp hsn hown hb hc3 HC2 HC3 HARG2 HARG1
  have hd0 := HOUT3.out.cell (i := 3) (v := .slice none 0 0) rfl
  have hf3 := HOUT3.out.frozen 3
  have HOUT4 := Lib.hid (HOUT3.out.set 3 (.slice B1 T.past.length d1))
  have he0 := HOUT4.out.cell (i := 0) (v := .int .i64 t) rfl
  have he1 := HOUT4.out.cell (i := 1) (v := .int .i64 k) rfl
  have he2 := HOUT4.out.cell (i := 2) (v := .slice A1 T.now.op.length c1) rfl
  have he3 := HOUT4.out.cell (i := 3) (v := .slice B1 T.past.length d1) rfl
  have HRES4 := Lib.hid (HRES3.out.other (a := w.heap.size + 1 + 1) (i := 3) (by omega) (.slice B1 T.past.length d1))
  obtain ⟨⟨ha0, ha1, ha2, ha3, ha4, ha5, ha6, ha7⟩, ⟨hb2, hb3⟩, ⟨hb4, hb5⟩, ⟨hb6, hb7⟩, HRES5⟩ := HRES4.out.store4 (.int .i64 t) (.int .i64 k) (.slice A1 T.now.op.length c1) (.slice B1 T.past.length d1)
  have HB5 := Lib.hid (bel_set4 (HB3.out.setCell (p := ⟨w.heap.size + 1 + 1, 3, none⟩) (by show w.heap.size ≤ w.heap.size + 1 + 1; omega) (.slice B1 T.past.length d1)) (show w.heap.size ≤ w.heap.size + 1 by omega) (.int .i64 t) (.int .i64 k) (.slice A1 T.now.op.length c1) (.slice B1 T.past.length d1))
  have hset : ∀ (W : World) (g i : Nat) (v : Value), g < w1.heap.size → Keeps W2.heap.size W (W.setCell ⟨g, i, none⟩ v) := fun W g i v h => Keeps.set (by omega)
  have HK : Hid (Keeps W2.heap.size w3 (((((w3.setCell ⟨w.heap.size + 1 + 1, 3, none⟩ (.slice B1 T.past.length d1)).setCell ⟨w.heap.size + 1, 0, none⟩ (.int .i64 t)).setCell ⟨w.heap.size + 1, 1, none⟩ (.int .i64 k)).setCell ⟨w.heap.size + 1, 2, none⟩ (.slice A1 T.now.op.length c1)).setCell ⟨w.heap.size + 1, 3, none⟩ (.slice B1 T.past.length d1))) :=
    ((((hset _ _ _ _ (by omega)).trans (hset _ _ _ _ (by omega)) (Nat.le_refl _)).trans (hset _ _ _ _ (by omega)) (Nat.le_refl _)).trans (hset _ _ _ _ (by omega)) (Nat.le_refl _)).trans (hset _ _ _ _ (by omega)) (Nat.le_refl _)
  have HO5 := Lib.hid ((HO3.out.setBox (i := 3) (u := .slice B1 T.past.length d1) HOUT3.out (by decide)).setBox4 HRES4.out (by decide) (.int .i64 t) (.int .i64 k) (.slice A1 T.now.op.length c1) (.slice B1 T.past.length d1))
  have hmid : w.heap.size ≤ W2.heap.size := by omega
  have HFIN : Hid (OwnT (((((w3.setCell ⟨w.heap.size + 1 + 1, 3, none⟩ (.slice B1 T.past.length d1)).setCell ⟨w.heap.size + 1, 0, none⟩ (.int .i64 t)).setCell ⟨w.heap.size + 1, 1, none⟩ (.int .i64 k)).setCell ⟨w.heap.size + 1, 2, none⟩ (.slice A1 T.now.op.length c1)).setCell ⟨w.heap.size + 1, 3, none⟩ (.slice B1 T.past.length d1)) w.heap.size T (.slice A1 T.now.op.length c1) (.slice B1 T.past.length d1) vs W2.heap.size) :=
    ⟨HO5.out.base (by omega), HLT.out, HP3.out.keep HK.out, HSN3.out.keep (HK.out.base (Nat.le_succ _)), HOWN.out, hmid⟩
  clear hset
  go_wp2_with fail
  refine bodyPost_ret_by (results_talk (b := w.heap.size + 1) rfl rfl HRES5) rfl ⟨_, _, vs, _, rfl, HFIN.out, HB5.out⟩
/-- What toTalk hands back, opened. -/
def ToPost (T : TalkV) (w : World) (e : Ending) (w' : World) : Prop := ∃ A n c B m d vs mid, e = .returned (.agg #[.int .i64 T.things, .int .i64 T.now.known, .slice A n c, .slice B m d]) ∧ TkIn w' w.heap.size T A n c B m d ∧ OwnT w' w.heap.size T (.slice A n c) (.slice B m d) vs mid ∧ Below w.heap.size w w'
theorem lToTalk_is {T : TalkV} {A B : Option Addr} {n c m d : Nat} {w : World} (hT : TkAt w T A n c B m d) (hs : SmallT T) :
    Calls Tryz.prog 23 #[.agg #[.int .i64 T.things, .int .i64 T.now.known, .slice A n c, .slice B m d]] w (ToPost T w) := by
  refine (lToTalk T A B n c m d w hT hs).mono ?_
  rintro e w' ⟨o, p, vs, mid, rfl, ho, hb⟩
  obtain ⟨A', c', B', d', rfl, rfl, h⟩ := ho.in_
  exact ⟨A', _, c', B', _, d', vs, mid, rfl, h, ho, hb⟩
end Go.Proofs.YtmdogidflaplkaaGreat

namespace Go.Proofs.YtmdogidflaplkaaGreat
open Go.ChangeShapes Go.WideShapes Go.ChangeAt Go.RowKit Go.Deep

theorem cells_talkT : Tryz.prog.cellsOf 50 = 4 := by kernel_rfl
theorem cells_stateT : Tryz.prog.cellsOf 47 = 2 := by kernel_rfl
theorem cells_statesT : Tryz.prog.cellsOf 48 = 1 := by kernel_rfl
theorem cells_numT : Tryz.prog.cellsOf 3 = 1 := by kernel_rfl
theorem cells_strsT : Tryz.prog.cellsOf 23 = 1 := by kernel_rfl
def numVT : Value → Int
  | .int _ n => n
  | _ => 0
section
variable {H : Type} {enc : TypeId × Value → H} {w : World} {base : Nat} {spare : Nat → Bool} {held : Bool}
set_option maxRecDepth 100000 in
theorem stas_of_cells {fuel : Nat} {v : Value} {x : DataW H × List MemPlace} (h : DataW.trod enc Tryz.prog w base spare held fuel 48 [v] = some x) :
    ∃ (A : Option Addr) (xs : List (St ByteArray)) (c : Nat), v = .slice A xs.length c ∧ xs.length ≤ c ∧ c ≤ maxLen ∧ StaRow w A xs ∧ ∀ x ∈ xs, ∀ s ∈ x.op, s.size ≤ maxLen := by
  rcases open_slice_pairs Tryz.underlying48 Tryz.underlying47 cells_stateT rfl rfl cells_numT cells_strsT h with ⟨hcs, _⟩ | ⟨a, l, c, m, n, V0, V1, D0, D1, P0, P1, hcs, _, hl, hm, hmm, _, hx⟩
  · simp only [List.cons.injEq, and_true] at hcs
    subst hcs
    exact ⟨none, [], 0, rfl, Nat.le_refl _, Nat.zero_le _, StaRow.nil _ _, fun d h => by cases h⟩
  · simp only [List.cons.injEq, and_true] at hcs
    subst hcs
    have hlm : l ≤ m := by rw [hmm]; split <;> omega
    have each : ∀ i : Nat, ∃ x : St ByteArray, i < l → V0 i = .int .i64 x.known ∧ ∃ Ai ci, V1 i = .slice Ai x.op.length ci ∧ x.op.length ≤ ci ∧ ci ≤ maxLen ∧ Strs w Ai x.op ∧ ∀ s ∈ x.op, s.size ≤ maxLen := fun i => by
      by_cases hi : i < l
      · obtain ⟨_, _, t0, t1⟩ := hx i (by omega)
        obtain ⟨k0, e0, _, _⟩ := DataW.trod_int Tryz.underlying3 t0
        obtain ⟨Ai, ss, ci, e1, h1, h2, h3, h4⟩ := strs_of_cells t1
        exact ⟨⟨k0, ss⟩, fun _ => ⟨by simpa [Value.cells] using e0, Ai, ci, e1, h1, h2, h3, h4⟩⟩
      · exact ⟨⟨0, []⟩, fun h => absurd h hi⟩
    obtain ⟨f, hf⟩ := Classical.axiomOfChoice each
    refine ⟨some a, (List.range l).map f, c, by simp, by simpa using hl, hm, fun hp => ?_, fun d hd => ?_⟩
    · simp only [List.length_map, List.length_range] at hp
      have hsp : a.spot = none := by
        have := (hx 0 (by omega)).1
        have := World.cell?_spot this
        simpa [Addr.add] using this
      obtain ⟨b, off, spot⟩ := a
      subst hsp
      refine ⟨b, off, rfl, ?_, fun i d hd => ?_⟩
      · have := (hx 0 (by omega)).1
        exact World.block_lt_of_cell? w _ this
      · have hi : i < l := Classical.byContradiction fun hn => by
          rw [List.getElem?_eq_none (by simp only [List.length_map, List.length_range]; omega)] at hd; cases hd
        rw [List.getElem?_map, List.getElem?_range hi] at hd
        obtain rfl := Option.some.inj hd
        obtain ⟨c0, c1, _, _⟩ := hx i (by omega)
        obtain ⟨f0, Ai, ci, f1, h1, h2, h3, _⟩ := hf i hi
        rw [add_plain] at c0 c1
        rw [f0] at c0
        rw [f1] at c1
        exact ⟨Ai, ci, c0, by rw [Nat.add_assoc]; exact c1, h1, h2, h3⟩
    · obtain ⟨i, hi, rfl⟩ := List.mem_map.1 hd
      rw [List.mem_range] at hi
      obtain ⟨_, _, _, _, _, _, _, h⟩ := hf i hi
      exact h
set_option maxRecDepth 100000 in
theorem talk_of_trod {r : Reach} {b0 : Nat} {v : Value} {d : DataW H} {ps : List MemPlace} (hval : Value.okWide Tryz.prog w r b0 50 v) (h : DataW.Trod enc Tryz.prog w base spare held 50 v d ps) :
    ∃ (T : TalkV) (A : Option Addr) (n c : Nat) (B : Option Addr) (m d : Nat), v = .agg #[.int .i64 T.things, .int .i64 T.now.known, .slice A n c, .slice B m d] ∧ TkAt w T A n c B m d ∧ BigT T := by
  obtain ⟨cs, rfl, hs⟩ := okWide_struct Tryz.underlying50 hval
  obtain ⟨fuel, hf⟩ := h
  obtain ⟨y0, y1, y2, n, _, hl, h0, h1, h2⟩ := trod_struct3 Tryz.underlying50 hf
  rw [cells_talkT] at hs
  obtain ⟨l⟩ := cs
  match l, hs with
  | [c0, c1, c2, c3], _ =>
    simp only [cells_numT, cells_stateT, cells_statesT] at h0 h1 h2
    obtain ⟨k0, e0, _, _⟩ := DataW.trod_int Tryz.underlying3 h0
    obtain ⟨z0, z1, n', _, _, g0, g1⟩ := trod_struct2 Tryz.underlying47 h1
    simp only [cells_numT, cells_strsT] at g0 g1
    obtain ⟨k1, e1, _, _⟩ := DataW.trod_int Tryz.underlying3 g0
    obtain ⟨A, ss, c, e2, s1, s2, s3, s4⟩ := strs_of_cells (v := c2) g1
    obtain ⟨B, xs, d, e3, t1, t2, t3, t4⟩ := stas_of_cells (v := c3) h2
    simp [Value.cells] at e0 e1
    subst e2 e3
    exact ⟨⟨k0, ⟨k1, ss⟩, xs⟩, A, _, c, B, _, d, by rw [e0, e1], ⟨rfl, s1, s2, s3, rfl, t1, t2, t3⟩, ⟨s4, t4⟩⟩
end
end Go.Proofs.YtmdogidflaplkaaGreat
