/-
  What the proofs of this seat's statements share (TxtA, TxtB, BndL, BndM).
-/
import Derived.Deep.RegionHeld3
import Derived.Test.YtannpnhboeopdaaDoorU16
import Derived.Test.YtannpnhboeopdaaDoorU7
import Derived.Test.YtannpnhboeopdaaDoorU2

namespace Go.Proofs.YtannpnhboeopdaaDoor
open Go.RowKit

/-- What the listed table of math/bits holds, as far as it is read. -/
def LaidTab (w : World) : Prop := w.cell? ⟨1, 0, none⟩ = some (.int .u8 0) ∧ w.cell? ⟨1, 1, none⟩ = some (.int .u8 1) ∧ w.cell? ⟨1, 3, none⟩ = some (.int .u8 2)
theorem LaidTab.below {w w' : World} (h : LaidTab w) (hb : Below w.heap.size w w') : LaidTab w' := by
  have hlt : 1 < w.heap.size := World.block_lt_of_cell? w _ h.1
  exact ⟨(hb.cell (p := ⟨1, 0, none⟩) hlt).trans h.1, (hb.cell (p := ⟨1, 1, none⟩) hlt).trans h.2.1, (hb.cell (p := ⟨1, 3, none⟩) hlt).trans h.2.2⟩
theorem LaidTab.drewN {w : World} (h : LaidTab w) (n : Nat) : LaidTab (w.drewN n) := h
def lowI (x : Int) : Int := if x = 1 ∨ x = 3 ∨ x = 5 ∨ x = 7 then 0 else if x = 2 ∨ x = 6 then 1 else 2
set_option maxRecDepth 100000 in
set_option maxHeartbeats 1000000 in
theorem iTz64 (x : Int) (w : World) (hx : 1 ≤ x ∧ x ≤ 7) (hg : LaidTab w) : Calls Tryd.prog 65 #[.int .u64 x] w fun e w' => e = .returned (.int .i64 (lowI x)) ∧ w = w' := by
  obtain ⟨h0, h1, h2⟩ := hg
  have hc : x = 1 ∨ x = 2 ∨ x = 3 ∨ x = 4 ∨ x = 5 ∨ x = 6 ∨ x = 7 := by omega
  clear hx
  rcases hc with rfl | rfl | rfl | rfl | rfl | rfl | rfl
  · have hi : IntKind.u64.wrap (bits BinOp.and IntKind.u64 1 (IntKind.u64.wrap (-1)) * 285870213051353865) / 288230376151711744 = 0 := by decide +kernel
    go_enter Tryd.func65, Tryd.ntmps65
    go_wp2_with fail
    go_ret
    exact ⟨rfl, rfl⟩
  · have hi : IntKind.u64.wrap (bits BinOp.and IntKind.u64 2 (IntKind.u64.wrap (-2)) * 285870213051353865) / 288230376151711744 = 1 := by decide +kernel
    go_enter Tryd.func65, Tryd.ntmps65
    go_wp2_with fail
    go_ret
    exact ⟨rfl, rfl⟩
  · have hi : IntKind.u64.wrap (bits BinOp.and IntKind.u64 3 (IntKind.u64.wrap (-3)) * 285870213051353865) / 288230376151711744 = 0 := by decide +kernel
    go_enter Tryd.func65, Tryd.ntmps65
    go_wp2_with fail
    go_ret
    exact ⟨rfl, rfl⟩
  · have hi : IntKind.u64.wrap (bits BinOp.and IntKind.u64 4 (IntKind.u64.wrap (-4)) * 285870213051353865) / 288230376151711744 = 3 := by decide +kernel
    go_enter Tryd.func65, Tryd.ntmps65
    go_wp2_with fail
    go_ret
    exact ⟨rfl, rfl⟩
  · have hi : IntKind.u64.wrap (bits BinOp.and IntKind.u64 5 (IntKind.u64.wrap (-5)) * 285870213051353865) / 288230376151711744 = 0 := by decide +kernel
    go_enter Tryd.func65, Tryd.ntmps65
    go_wp2_with fail
    go_ret
    exact ⟨rfl, rfl⟩
  · have hi : IntKind.u64.wrap (bits BinOp.and IntKind.u64 6 (IntKind.u64.wrap (-6)) * 285870213051353865) / 288230376151711744 = 1 := by decide +kernel
    go_enter Tryd.func65, Tryd.ntmps65
    go_wp2_with fail
    go_ret
    exact ⟨rfl, rfl⟩
  · have hi : IntKind.u64.wrap (bits BinOp.and IntKind.u64 7 (IntKind.u64.wrap (-7)) * 285870213051353865) / 288230376151711744 = 0 := by decide +kernel
    go_enter Tryd.func65, Tryd.ntmps65
    go_wp2_with fail
    go_ret
    exact ⟨rfl, rfl⟩
set_option maxRecDepth 100000 in
set_option maxHeartbeats 1000000 in
theorem iTz (x : Int) (w : World) (hx : 1 ≤ x ∧ x ≤ 7) (hg : LaidTab w) : Calls Tryd.prog 49 #[.int .u64 x] w fun e w' => e = .returned (.int .i64 (lowI x)) ∧ w = w' := by
  have HC := Lib.hid (iTz64 x w hx hg)
  go_enter Tryd.func49, Tryd.ntmps49
  go_wp2_with fail
  refine HC.out.mono ?_
  rintro e w' ⟨rfl, rfl⟩
  go_wp2_with fail
  go_ret
  exact ⟨rfl, rfl⟩
theorem ret_str {a b : ByteArray} (h : a = b) : Ending.returned (.string a) = .returned (.string b) := by rw [h]
set_option maxRecDepth 100000 in
set_option maxHeartbeats 1000000 in
theorem iQ1 (w : World) (hg : LaidTab w) : Calls Tryd.prog 35 #[.int .i64 1] w fun e w' => e = .returned (.string (askTxt 1)) ∧ w = w' := by
  have HC : Hid (Calls Tryd.prog 49 #[.int .u64 1] w fun e w' => e = .returned (.int .i64 0) ∧ w = w') := iTz 1 w (by omega) hg
  have hz : bits BinOp.andNot IntKind.i64 1 1 = 0 := by decide +kernel
  clear hg
  go_enter Tryd.func35, Tryd.ntmps35
  go_wp2_with fail
  refine HC.out.mono ?_
  rintro e w' ⟨rfl, rfl⟩
  go_wp2_with fail
  go_ret
  exact ⟨ret_str (by rfl), rfl⟩
set_option maxRecDepth 100000 in
set_option maxHeartbeats 1000000 in
theorem iQ2 (w : World) (hg : LaidTab w) : Calls Tryd.prog 35 #[.int .i64 2] w fun e w' => e = .returned (.string (askTxt 2)) ∧ w = w' := by
  have HC : Hid (Calls Tryd.prog 49 #[.int .u64 2] w fun e w' => e = .returned (.int .i64 1) ∧ w = w') := iTz 2 w (by omega) hg
  have hz : bits BinOp.andNot IntKind.i64 2 2 = 0 := by decide +kernel
  clear hg
  go_enter Tryd.func35, Tryd.ntmps35
  go_wp2_with fail
  refine HC.out.mono ?_
  rintro e w' ⟨rfl, rfl⟩
  go_wp2_with fail
  go_ret
  exact ⟨ret_str (by rfl), rfl⟩
set_option maxRecDepth 100000 in
set_option maxHeartbeats 1000000 in
theorem iQ4 (w : World) (hg : LaidTab w) : Calls Tryd.prog 35 #[.int .i64 4] w fun e w' => e = .returned (.string (askTxt 4)) ∧ w = w' := by
  have HC : Hid (Calls Tryd.prog 49 #[.int .u64 4] w fun e w' => e = .returned (.int .i64 2) ∧ w = w') := iTz 4 w (by omega) hg
  have hz : bits BinOp.andNot IntKind.i64 4 4 = 0 := by decide +kernel
  clear hg
  go_enter Tryd.func35, Tryd.ntmps35
  go_wp2_with fail
  refine HC.out.mono ?_
  rintro e w' ⟨rfl, rfl⟩
  go_wp2_with fail
  go_ret
  exact ⟨ret_str (by rfl), rfl⟩
set_option maxRecDepth 100000 in
set_option maxHeartbeats 1000000 in
theorem iQ3 (w : World) (hg : LaidTab w) : Calls Tryd.prog 35 #[.int .i64 3] w fun e w' => e = .returned (.string (askTxt 3)) ∧ w = w' := by
  have HC : Hid (Calls Tryd.prog 49 #[.int .u64 3] w fun e w' => e = .returned (.int .i64 0) ∧ w = w') := iTz 3 w (by omega) hg
  have HR := Lib.hid (iQ2 w hg)
  have hz : bits BinOp.andNot IntKind.i64 3 1 = 2 := by decide +kernel
  clear hg
  go_enter Tryd.func35, Tryd.ntmps35
  go_wp2_with fail
  refine HC.out.mono ?_
  rintro e w' ⟨rfl, rfl⟩
  go_wp2_with fail
  refine HR.out.mono ?_
  rintro e w' ⟨rfl, rfl⟩
  go_wp2_with fail
  go_ret
  exact ⟨ret_str (by rfl), rfl⟩
set_option maxRecDepth 100000 in
set_option maxHeartbeats 1000000 in
theorem iQ5 (w : World) (hg : LaidTab w) : Calls Tryd.prog 35 #[.int .i64 5] w fun e w' => e = .returned (.string (askTxt 5)) ∧ w = w' := by
  have HC : Hid (Calls Tryd.prog 49 #[.int .u64 5] w fun e w' => e = .returned (.int .i64 0) ∧ w = w') := iTz 5 w (by omega) hg
  have HR := Lib.hid (iQ4 w hg)
  have hz : bits BinOp.andNot IntKind.i64 5 1 = 4 := by decide +kernel
  clear hg
  go_enter Tryd.func35, Tryd.ntmps35
  go_wp2_with fail
  refine HC.out.mono ?_
  rintro e w' ⟨rfl, rfl⟩
  go_wp2_with fail
  refine HR.out.mono ?_
  rintro e w' ⟨rfl, rfl⟩
  go_wp2_with fail
  go_ret
  exact ⟨ret_str (by rfl), rfl⟩
set_option maxRecDepth 100000 in
set_option maxHeartbeats 1000000 in
theorem iQ6 (w : World) (hg : LaidTab w) : Calls Tryd.prog 35 #[.int .i64 6] w fun e w' => e = .returned (.string (askTxt 6)) ∧ w = w' := by
  have HC : Hid (Calls Tryd.prog 49 #[.int .u64 6] w fun e w' => e = .returned (.int .i64 1) ∧ w = w') := iTz 6 w (by omega) hg
  have HR := Lib.hid (iQ4 w hg)
  have hz : bits BinOp.andNot IntKind.i64 6 2 = 4 := by decide +kernel
  clear hg
  go_enter Tryd.func35, Tryd.ntmps35
  go_wp2_with fail
  refine HC.out.mono ?_
  rintro e w' ⟨rfl, rfl⟩
  go_wp2_with fail
  refine HR.out.mono ?_
  rintro e w' ⟨rfl, rfl⟩
  go_wp2_with fail
  go_ret
  exact ⟨ret_str (by rfl), rfl⟩
set_option maxRecDepth 100000 in
set_option maxHeartbeats 1000000 in
theorem iQ7 (w : World) (hg : LaidTab w) : Calls Tryd.prog 35 #[.int .i64 7] w fun e w' => e = .returned (.string (askTxt 7)) ∧ w = w' := by
  have HC : Hid (Calls Tryd.prog 49 #[.int .u64 7] w fun e w' => e = .returned (.int .i64 0) ∧ w = w') := iTz 7 w (by omega) hg
  have HR := Lib.hid (iQ6 w hg)
  have hz : bits BinOp.andNot IntKind.i64 7 1 = 6 := by decide +kernel
  clear hg
  go_enter Tryd.func35, Tryd.ntmps35
  go_wp2_with fail
  refine HC.out.mono ?_
  rintro e w' ⟨rfl, rfl⟩
  go_wp2_with fail
  refine HR.out.mono ?_
  rintro e w' ⟨rfl, rfl⟩
  go_wp2_with fail
  go_ret
  exact ⟨ret_str (by rfl), rfl⟩
set_option maxRecDepth 100000 in
set_option maxHeartbeats 1000000 in
theorem iQ0 (w : World) : Calls Tryd.prog 35 #[.int .i64 0] w fun e w' => e = .returned (.string (askTxt 0)) ∧ w = w' := by
  go_enter Tryd.func35, Tryd.ntmps35
  go_wp2_with fail
  go_ret
  exact ⟨ret_str (by rfl), rfl⟩
theorem iQuestions (f : Int) (w : World) (hf : 0 ≤ f ∧ f ≤ 7) (hg : LaidTab w) : Calls Tryd.prog 35 #[.int .i64 f] w fun e w' => e = .returned (.string (askTxt f)) ∧ w = w' := by
  have hc : f = 0 ∨ f = 1 ∨ f = 2 ∨ f = 3 ∨ f = 4 ∨ f = 5 ∨ f = 6 ∨ f = 7 := by omega
  rcases hc with rfl | rfl | rfl | rfl | rfl | rfl | rfl | rfl
  · exact iQ0 w
  · exact iQ1 w hg
  · exact iQ2 w hg
  · exact iQ3 w hg
  · exact iQ4 w hg
  · exact iQ5 w hg
  · exact iQ6 w hg
  · exact iQ7 w hg
end Go.Proofs.YtannpnhboeopdaaDoor

namespace Go.Proofs.YtannpnhboeopdaaDoor
open Go.RowKit

theorem loop_ne (b : ByteArray) : ∀ (k i : Nat) (r : List UInt8), b.size - i = k → (i < b.size ∨ r ≠ []) → ByteArray.toList.loop b i r ≠ [] := by
  intro k
  induction k with
  | zero =>
    intro i r hk h
    unfold ByteArray.toList.loop
    rw [if_neg (by omega)]
    rcases h with h | h
    · omega
    · simpa using h
  | succ k ih =>
    intro i r hk h
    unfold ByteArray.toList.loop
    rw [if_pos (by omega)]
    exact ih _ _ (by omega) (.inr (by simp))
theorem list_some (a : ByteArray) (c : UInt8) : (a ++ (⟨#[c]⟩ : ByteArray)).toList.isEmpty = false := by
  have : (a ++ (⟨#[c]⟩ : ByteArray)).toList ≠ [] := loop_ne _ _ _ _ rfl (.inl (by rw [ByteArray.size_append]; show 0 < a.size + 1; omega))
  cases h : (a ++ (⟨#[c]⟩ : ByteArray)).toList with
  | nil => exact absurd h this
  | cons x r => rfl
def TPost (s : ByteArray) (w : World) (e : Ending) (w' : World) : Prop := e = .returned (.string s) ∧ Below w.heap.size w w'
theorem quiet_eqt {P : Program} {f : FuncId} {args : Array Value} {w : World} {n : Nat} {v : Value} (h : Calls P f args (w.drewN n) fun e w' => e = .returned v ∧ w.drewN n = w') :
    Calls P f args (w.drewN n) fun e w'' => e = .returned v ∧ ∃ m, w'' = w.drewN m := h.mono fun _ _ ⟨he, hm⟩ => ⟨he, n, hm.symm⟩
theorem bel_more {w w1 : World} {o : Obj} (h : Below w.heap.size w w1) : Below w.heap.size w (w1.alloc o) := h.alloc h.size o
set_option maxRecDepth 100000 in
set_option maxHeartbeats 2000000 in
theorem iBondText (t f g : Int) (w : World) (hg : LaidTab w) : Calls Tryd.prog 13 #[.int .i64 t, .agg #[.int .i64 f, .int .i64 g]] w (TPost (bondTxt t f g) w) := by
  have HX1 : Hid (BoxAt (w.alloc (.cells #[.int .i64 f, .int .i64 g] 24)) w.heap.size f g) := BoxAt.new w f g _
  have HB1 : Hid (Below w.heap.size w (w.alloc (.cells #[.int .i64 f, .int .i64 g] 24))) := (Below.refl _ _).alloc (Nat.le_refl _) _
  obtain ⟨hc0, hc1, _⟩ := HX1.out
  have HG := Lib.hid (hg.below HB1.out)
  clear hg
  rcases hx : bondOkB t f g with _ | _
  · have HX := Lib.hid hx
    have HF := Lib.hid (bondTxt_none hx)
    clear hx
    go_enter Tryd.func13, Tryd.ntmps13
    go_wp2_with fail
    refine (iBondOk_is HX _).mono ?_
    rintro e w1 ⟨rfl, hb⟩
    have HB2 := Lib.hid (bel_trans HB1.out hb)
    clear hb hc0 hc1
    go_wp2_with fail
    go_ret
    exact ⟨ret_str (by rw [HF.out]), HB2.out⟩
  · have HX := Lib.hid hx
    have HF := Lib.hid (bondTxt_some hx)
    have hfo := hx
    unfold bondOkB at hfo
    rw [Bool.and_eq_true] at hfo
    obtain ⟨_, _, hf0, _, hf7⟩ := thingsOk_of hfo.1
    obtain ⟨_, _, hg0, _, hg7⟩ := thingsOk_of hfo.2
    have hsf12 : (askTxt f).size ≤ 12 := (ask_text hfo.1).2
    have hsg12 : (askTxt g).size ≤ 12 := (ask_text hfo.2).2
    have n1 : (9223372036854775807 < 1 + (askTxt f).size) = False := eq_false (by omega)
    have n2 : (9223372036854775807 < 1 + (askTxt f).size + 1) = False := eq_false (by omega)
    have n3 : (9223372036854775807 < 1 + (askTxt f).size + 1 + (askTxt g).size) = False := eq_false (by omega)
    have n4 : (9223372036854775807 < 1 + (askTxt f).size + 1 + (askTxt g).size + 1) = False := eq_false (by omega)
    clear hsf12 hsg12
    have HQ : Hid (∀ W x, LaidTab W → 0 ≤ x ∧ x ≤ 7 → Calls Tryd.prog 35 #[.int .i64 x] W (TPost (askTxt x) W)) := fun W x h hx => (iQuestions x W hx h).mono fun _ _ ⟨he, hw⟩ => ⟨he, hw ▸ Below.refl _ _⟩
    clear hx hfo
    go_enter Tryd.func13, Tryd.ntmps13
    go_wp2_with fail
    refine (iBondOk_is HX _).mono ?_
    rintro e w1 ⟨rfl, hb⟩
    have HB2 := Lib.hid (bel_trans HB1.out hb)
    have HX2 := Lib.hid (HX1.out.below hb)
    have HG2 := Lib.hid (HG.out.below hb)
    clear hc0 hc1
    obtain ⟨hc0, hc1, _⟩ := HX2.out
    clear hb
    go_wp2_with fail
    go_region_held3 (fun w' => w'.cell? ⟨w.heap.size, 0, none⟩ = some (.int .i64 f) ∧ w'.cell? ⟨w.heap.size, 1, none⟩ = some (.int .i64 g))
      (first | go_keep | exact ⟨HX4.out.1, HX4.out.2.1⟩ | exact ⟨HX3.out.1, HX3.out.2.1⟩)
      (first
        | (go_at_call 35; refine (HQ.out _ _ (by first | exact HG3.out | exact HG2.out.drewN 1) (by omega)).mono ?_; rintro e w2 ⟨rfl, hb⟩; first
            | (have HX4 := Lib.hid (BoxAt.below HX3.out hb); have HB4 := Lib.hid (bel_trans HB3.out hb); clear hb)
            | (have HX3 := Lib.hid (BoxAt.below (BoxAt.drew HX2.out) hb); have HG3 := Lib.hid (LaidTab.below (HG2.out.drewN 1) hb); have HB3 := Lib.hid (bel_trans (bel_drewN HB2.out 1) hb); clear hb)))
    all_goals
      go_wp2_with fail
      go_ret
      exact ⟨ret_str (by rw [HF.out]), HB4.out⟩
theorem iBondText_is {t f g : Int} {s : ByteArray} (h : Hid (bondTxt t f g = s)) {w : World} (hg : LaidTab w) : Calls Tryd.prog 13 #[.int .i64 t, .agg #[.int .i64 f, .int .i64 g]] w (TPost s w) := by
  have := iBondText t f g w hg
  rw [h.out] at this; exact this

set_option maxRecDepth 100000 in
set_option maxHeartbeats 2000000 in
theorem sAsk10 (w : World) : Calls Tryd.prog 37 #[.int .i64 1, .int .i64 0] w (TPost (askTxt 0) w) := by
  have hne := list_some
  go_enter Tryd.func37, Tryd.ntmps37
  go_wp2_with fail
  refine wp_loop_rounds 2 ?_
  repeat (rw [rounds_succ]; go_wp2_with fail)
  go_ret
  exact ⟨ret_str (by rfl), by first | exact Below.refl _ _ | exact bel_more (Below.refl _ _)  | exact bel_more (bel_more (Below.refl _ _)) | exact bel_more (bel_more (bel_more (Below.refl _ _)))⟩
set_option maxRecDepth 100000 in
set_option maxHeartbeats 2000000 in
theorem sAsk11 (w : World) : Calls Tryd.prog 37 #[.int .i64 1, .int .i64 1] w (TPost (askTxt 1) w) := by
  have hne := list_some
  go_enter Tryd.func37, Tryd.ntmps37
  go_wp2_with fail
  refine wp_loop_rounds 2 ?_
  repeat (rw [rounds_succ]; go_wp2_with fail)
  go_ret
  exact ⟨ret_str (by rfl), by first | exact Below.refl _ _ | exact bel_more (Below.refl _ _)  | exact bel_more (bel_more (Below.refl _ _)) | exact bel_more (bel_more (bel_more (Below.refl _ _)))⟩
set_option maxRecDepth 100000 in
set_option maxHeartbeats 2000000 in
theorem sAsk20 (w : World) : Calls Tryd.prog 37 #[.int .i64 2, .int .i64 0] w (TPost (askTxt 0) w) := by
  have hne := list_some
  go_enter Tryd.func37, Tryd.ntmps37
  go_wp2_with fail
  refine wp_loop_rounds 3 ?_
  repeat (rw [rounds_succ]; go_wp2_with fail)
  go_ret
  exact ⟨ret_str (by rfl), by first | exact Below.refl _ _ | exact bel_more (Below.refl _ _)  | exact bel_more (bel_more (Below.refl _ _)) | exact bel_more (bel_more (bel_more (Below.refl _ _)))⟩
set_option maxRecDepth 100000 in
set_option maxHeartbeats 2000000 in
theorem sAsk21 (w : World) : Calls Tryd.prog 37 #[.int .i64 2, .int .i64 1] w (TPost (askTxt 1) w) := by
  have hne := list_some
  go_enter Tryd.func37, Tryd.ntmps37
  go_wp2_with fail
  refine wp_loop_rounds 3 ?_
  repeat (rw [rounds_succ]; go_wp2_with fail)
  go_ret
  exact ⟨ret_str (by rfl), by first | exact Below.refl _ _ | exact bel_more (Below.refl _ _)  | exact bel_more (bel_more (Below.refl _ _)) | exact bel_more (bel_more (bel_more (Below.refl _ _)))⟩
set_option maxRecDepth 100000 in
set_option maxHeartbeats 2000000 in
theorem sAsk22 (w : World) : Calls Tryd.prog 37 #[.int .i64 2, .int .i64 2] w (TPost (askTxt 2) w) := by
  have hne := list_some
  go_enter Tryd.func37, Tryd.ntmps37
  go_wp2_with fail
  refine wp_loop_rounds 3 ?_
  repeat (rw [rounds_succ]; go_wp2_with fail)
  go_ret
  exact ⟨ret_str (by rfl), by first | exact Below.refl _ _ | exact bel_more (Below.refl _ _)  | exact bel_more (bel_more (Below.refl _ _)) | exact bel_more (bel_more (bel_more (Below.refl _ _)))⟩
set_option maxRecDepth 100000 in
set_option maxHeartbeats 2000000 in
theorem sAsk23 (w : World) : Calls Tryd.prog 37 #[.int .i64 2, .int .i64 3] w (TPost (askTxt 3) w) := by
  have hne := list_some
  go_enter Tryd.func37, Tryd.ntmps37
  go_wp2_with fail
  refine wp_loop_rounds 3 ?_
  repeat (rw [rounds_succ]; go_wp2_with fail)
  go_ret
  exact ⟨ret_str (by rfl), by first | exact Below.refl _ _ | exact bel_more (Below.refl _ _)  | exact bel_more (bel_more (Below.refl _ _)) | exact bel_more (bel_more (bel_more (Below.refl _ _)))⟩
set_option maxRecDepth 100000 in
set_option maxHeartbeats 2000000 in
theorem sAsk30 (w : World) : Calls Tryd.prog 37 #[.int .i64 3, .int .i64 0] w (TPost (askTxt 0) w) := by
  have hne := list_some
  go_enter Tryd.func37, Tryd.ntmps37
  go_wp2_with fail
  refine wp_loop_rounds 4 ?_
  repeat (rw [rounds_succ]; go_wp2_with fail)
  go_ret
  exact ⟨ret_str (by rfl), by first | exact Below.refl _ _ | exact bel_more (Below.refl _ _)  | exact bel_more (bel_more (Below.refl _ _)) | exact bel_more (bel_more (bel_more (Below.refl _ _)))⟩
set_option maxRecDepth 100000 in
set_option maxHeartbeats 2000000 in
theorem sAsk31 (w : World) : Calls Tryd.prog 37 #[.int .i64 3, .int .i64 1] w (TPost (askTxt 1) w) := by
  have hne := list_some
  go_enter Tryd.func37, Tryd.ntmps37
  go_wp2_with fail
  refine wp_loop_rounds 4 ?_
  repeat (rw [rounds_succ]; go_wp2_with fail)
  go_ret
  exact ⟨ret_str (by rfl), by first | exact Below.refl _ _ | exact bel_more (Below.refl _ _)  | exact bel_more (bel_more (Below.refl _ _)) | exact bel_more (bel_more (bel_more (Below.refl _ _)))⟩
set_option maxRecDepth 100000 in
set_option maxHeartbeats 2000000 in
theorem sAsk32 (w : World) : Calls Tryd.prog 37 #[.int .i64 3, .int .i64 2] w (TPost (askTxt 2) w) := by
  have hne := list_some
  go_enter Tryd.func37, Tryd.ntmps37
  go_wp2_with fail
  refine wp_loop_rounds 4 ?_
  repeat (rw [rounds_succ]; go_wp2_with fail)
  go_ret
  exact ⟨ret_str (by rfl), by first | exact Below.refl _ _ | exact bel_more (Below.refl _ _)  | exact bel_more (bel_more (Below.refl _ _)) | exact bel_more (bel_more (bel_more (Below.refl _ _)))⟩
set_option maxRecDepth 100000 in
set_option maxHeartbeats 2000000 in
theorem sAsk33 (w : World) : Calls Tryd.prog 37 #[.int .i64 3, .int .i64 3] w (TPost (askTxt 3) w) := by
  have hne := list_some
  go_enter Tryd.func37, Tryd.ntmps37
  go_wp2_with fail
  refine wp_loop_rounds 4 ?_
  repeat (rw [rounds_succ]; go_wp2_with fail)
  go_ret
  exact ⟨ret_str (by rfl), by first | exact Below.refl _ _ | exact bel_more (Below.refl _ _)  | exact bel_more (bel_more (Below.refl _ _)) | exact bel_more (bel_more (bel_more (Below.refl _ _)))⟩
set_option maxRecDepth 100000 in
set_option maxHeartbeats 2000000 in
theorem sAsk34 (w : World) : Calls Tryd.prog 37 #[.int .i64 3, .int .i64 4] w (TPost (askTxt 4) w) := by
  have hne := list_some
  go_enter Tryd.func37, Tryd.ntmps37
  go_wp2_with fail
  refine wp_loop_rounds 4 ?_
  repeat (rw [rounds_succ]; go_wp2_with fail)
  go_ret
  exact ⟨ret_str (by rfl), by first | exact Below.refl _ _ | exact bel_more (Below.refl _ _)  | exact bel_more (bel_more (Below.refl _ _)) | exact bel_more (bel_more (bel_more (Below.refl _ _)))⟩
set_option maxRecDepth 100000 in
set_option maxHeartbeats 2000000 in
theorem sAsk35 (w : World) : Calls Tryd.prog 37 #[.int .i64 3, .int .i64 5] w (TPost (askTxt 5) w) := by
  have hne := list_some
  go_enter Tryd.func37, Tryd.ntmps37
  go_wp2_with fail
  refine wp_loop_rounds 4 ?_
  repeat (rw [rounds_succ]; go_wp2_with fail)
  go_ret
  exact ⟨ret_str (by rfl), by first | exact Below.refl _ _ | exact bel_more (Below.refl _ _)  | exact bel_more (bel_more (Below.refl _ _)) | exact bel_more (bel_more (bel_more (Below.refl _ _)))⟩
set_option maxRecDepth 100000 in
set_option maxHeartbeats 2000000 in
theorem sAsk36 (w : World) : Calls Tryd.prog 37 #[.int .i64 3, .int .i64 6] w (TPost (askTxt 6) w) := by
  have hne := list_some
  go_enter Tryd.func37, Tryd.ntmps37
  go_wp2_with fail
  refine wp_loop_rounds 4 ?_
  repeat (rw [rounds_succ]; go_wp2_with fail)
  go_ret
  exact ⟨ret_str (by rfl), by first | exact Below.refl _ _ | exact bel_more (Below.refl _ _)  | exact bel_more (bel_more (Below.refl _ _)) | exact bel_more (bel_more (bel_more (Below.refl _ _)))⟩
set_option maxRecDepth 100000 in
set_option maxHeartbeats 2000000 in
theorem sAsk37 (w : World) : Calls Tryd.prog 37 #[.int .i64 3, .int .i64 7] w (TPost (askTxt 7) w) := by
  have hne := list_some
  go_enter Tryd.func37, Tryd.ntmps37
  go_wp2_with fail
  refine wp_loop_rounds 4 ?_
  repeat (rw [rounds_succ]; go_wp2_with fail)
  go_ret
  exact ⟨ret_str (by rfl), by first | exact Below.refl _ _ | exact bel_more (Below.refl _ _)  | exact bel_more (bel_more (Below.refl _ _)) | exact bel_more (bel_more (bel_more (Below.refl _ _)))⟩
theorem sAskT (t f : Int) (w : World) (h : thingsOk t f = true) : Calls Tryd.prog 37 #[.int .i64 t, .int .i64 f] w (TPost (askTxt f) w) := by
  obtain ⟨h1, h3, h0, h7, h77⟩ := thingsOk_of h
  have ht : t = 1 ∨ t = 2 ∨ t = 3 := by omega
  rcases ht with rfl | rfl | rfl
  · have hc : f = 0 ∨ f = 1 := by have : f ≤ 1 := h7; omega
    rcases hc with rfl | rfl
    · exact sAsk10 w
    · exact sAsk11 w
  · have hc : f = 0 ∨ f = 1 ∨ f = 2 ∨ f = 3 := by have : f ≤ 3 := h7; omega
    rcases hc with rfl | rfl | rfl | rfl
    · exact sAsk20 w
    · exact sAsk21 w
    · exact sAsk22 w
    · exact sAsk23 w
  · have hc : f = 0 ∨ f = 1 ∨ f = 2 ∨ f = 3 ∨ f = 4 ∨ f = 5 ∨ f = 6 ∨ f = 7 := by omega
    rcases hc with rfl | rfl | rfl | rfl | rfl | rfl | rfl | rfl
    · exact sAsk30 w
    · exact sAsk31 w
    · exact sAsk32 w
    · exact sAsk33 w
    · exact sAsk34 w
    · exact sAsk35 w
    · exact sAsk36 w
    · exact sAsk37 w
set_option maxRecDepth 100000 in
set_option maxHeartbeats 2000000 in
theorem sBondText (t f g : Int) (w : World) : Calls Tryd.prog 16 #[.int .i64 t, .agg #[.int .i64 f, .int .i64 g]] w (TPost (bondTxt t f g) w) := by
  have HX1 : Hid (BoxAt (w.alloc (.cells #[.int .i64 f, .int .i64 g] 24)) w.heap.size f g) := BoxAt.new w f g _
  have HB1 : Hid (Below w.heap.size w (w.alloc (.cells #[.int .i64 f, .int .i64 g] 24))) := (Below.refl _ _).alloc (Nat.le_refl _) _
  obtain ⟨hc0, hc1, _⟩ := HX1.out
  rcases hx : bondOkB t f g with _ | _
  · have HX := Lib.hid hx
    have HF := Lib.hid (bondTxt_none hx)
    clear hx
    go_enter Tryd.func16, Tryd.ntmps16
    go_wp2_with fail
    refine (sBondOk_is HX _).mono ?_
    rintro e w1 ⟨rfl, hb⟩
    have HB2 := Lib.hid (bel_trans HB1.out hb)
    clear hb hc0 hc1
    go_wp2_with fail
    go_ret
    exact ⟨ret_str (by rw [HF.out]), HB2.out⟩
  · have HX := Lib.hid hx
    have HF := Lib.hid (bondTxt_some hx)
    have hfo := hx
    unfold bondOkB at hfo
    rw [Bool.and_eq_true] at hfo
    have hsf12 : (askTxt f).size ≤ 12 := (ask_text hfo.1).2
    have hsg12 : (askTxt g).size ≤ 12 := (ask_text hfo.2).2
    have n1 : (9223372036854775807 < 1 + (askTxt f).size) = False := eq_false (by omega)
    have n2 : (9223372036854775807 < 1 + (askTxt f).size + 1) = False := eq_false (by omega)
    have n3 : (9223372036854775807 < 1 + (askTxt f).size + 1 + (askTxt g).size) = False := eq_false (by omega)
    have n4 : (9223372036854775807 < 1 + (askTxt f).size + 1 + (askTxt g).size + 1) = False := eq_false (by omega)
    clear hsf12 hsg12
    have HQ : Hid (∀ W x, x = f ∨ x = g → Calls Tryd.prog 37 #[.int .i64 t, .int .i64 x] W (TPost (askTxt x) W)) := fun W x hx => by
      rcases hx with rfl | rfl
      · exact sAskT t x W hfo.1
      · exact sAskT t x W hfo.2
    clear hx hfo
    go_enter Tryd.func16, Tryd.ntmps16
    go_wp2_with fail
    refine (sBondOk_is HX _).mono ?_
    rintro e w1 ⟨rfl, hb⟩
    have HB2 := Lib.hid (bel_trans HB1.out hb)
    have HX2 := Lib.hid (HX1.out.below hb)
    clear hc0 hc1
    obtain ⟨hc0, hc1, _⟩ := HX2.out
    clear hb
    go_wp2_with fail
    go_region_held3 (fun w' => w'.cell? ⟨w.heap.size, 0, none⟩ = some (.int .i64 f) ∧ w'.cell? ⟨w.heap.size, 1, none⟩ = some (.int .i64 g))
      (first | go_keep | exact ⟨HX4.out.1, HX4.out.2.1⟩ | exact ⟨HX3.out.1, HX3.out.2.1⟩)
      (first
        | (go_at_call 37; refine (HQ.out _ _ (by first | exact .inl rfl | exact .inr rfl)).mono ?_; rintro e w2 ⟨rfl, hb⟩; first
            | (have HX4 := Lib.hid (BoxAt.below HX3.out hb); have HB4 := Lib.hid (bel_trans HB3.out hb); clear hb)
            | (have HX3 := Lib.hid (BoxAt.below (BoxAt.drew HX2.out) hb); have HB3 := Lib.hid (bel_trans (bel_drewN HB2.out 1) hb); clear hb)))
    all_goals
      go_wp2_with fail
      go_ret
      exact ⟨ret_str (by rw [HF.out]), HB4.out⟩
theorem sBondText_is {t f g : Int} {s : ByteArray} (h : Hid (bondTxt t f g = s)) (w : World) : Calls Tryd.prog 16 #[.int .i64 t, .agg #[.int .i64 f, .int .i64 g]] w (TPost s w) := by
  have := sBondText t f g w
  rw [h.out] at this; exact this
end Go.Proofs.YtannpnhboeopdaaDoor

namespace Go.Proofs.YtannpnhboeopdaaDoor
open Go.RowKit

theorem bel_box {W : World} {T : TypeId} {a b : Value} : Below W.heap.size W (W.alloc (.cells #[a, b] T)) := (Below.refl _ _).alloc (Nat.le_refl _) _
theorem results_cell {fn : Func} {r : Tmp} (h : fn.results = #[.cell r 24]) {tmps : Array Value} {w : World} {b : Nat} {f g : Int} (ht : tmps.getD r undef = .pointer (some ⟨b, 0, none⟩))
   (hc0 : w.cell? ⟨b, 0, none⟩ = some (.int .i64 f)) (hc1 : w.cell? ⟨b, 1, none⟩ = some (.int .i64 g)) : (results fn tmps).run Tryd.prog w = .ok (.agg #[.int .i64 f, .int .i64 g]) w := by
  have ht : tmps[r]?.getD undef = .pointer (some ⟨b, 0, none⟩) := by simpa using ht
  simp [results, h, ht, go_sem, hc0, hc1]
theorem results_cell2 {fn : Func} {r q : Tmp} (h : fn.results = #[.tmp q, .cell r 24]) {tmps : Array Value} {w : World} {b : Nat} {f g : Int} {v : Value} (hv : tmps.getD q undef = v) (ht : tmps.getD r undef = .pointer (some ⟨b, 0, none⟩))
   (hc0 : w.cell? ⟨b, 0, none⟩ = some (.int .i64 f)) (hc1 : w.cell? ⟨b, 1, none⟩ = some (.int .i64 g)) : (results fn tmps).run Tryd.prog w = .ok (.tuple #[v, .agg #[.int .i64 f, .int .i64 g]]) w := by
  have ht : tmps[r]?.getD undef = .pointer (some ⟨b, 0, none⟩) := by simpa using ht
  have hv : tmps[q]?.getD undef = v := by simpa using hv
  simp [results, h, ht, hv, go_sem, hc0, hc1]
theorem results_cell3 {fn : Func} {r q p : Tmp} (h : fn.results = #[.tmp p, .tmp q, .cell r 24]) {tmps : Array Value} {w : World} {b : Nat} {f g : Int} {u v : Value} (hu : tmps.getD p undef = u) (hv : tmps.getD q undef = v) (ht : tmps.getD r undef = .pointer (some ⟨b, 0, none⟩))
   (hc0 : w.cell? ⟨b, 0, none⟩ = some (.int .i64 f)) (hc1 : w.cell? ⟨b, 1, none⟩ = some (.int .i64 g)) : (results fn tmps).run Tryd.prog w = .ok (.tuple #[u, v, .agg #[.int .i64 f, .int .i64 g]]) w := by
  have ht : tmps[r]?.getD undef = .pointer (some ⟨b, 0, none⟩) := by simpa using ht
  have hv : tmps[q]?.getD undef = v := by simpa using hv
  have hu : tmps[p]?.getD undef = u := by simpa using hu
  simp [results, h, ht, hv, hu, go_sem, hc0, hc1]
theorem lToBond (f g : Int) (w : World) :
    Calls Tryd.prog 21 #[.agg #[.int .i64 f, .int .i64 g]] w fun e w' => e = .returned (.agg #[.int .i64 f, .int .i64 g]) ∧ Below w.heap.size w w' := by
  go_enter Tryd.func21, Tryd.ntmps21
  go_wp2_with fail
  refine bodyPost_ret_by (results_cell (b := w.heap.size + 1) (f := f) (g := g) rfl rfl (by simp [go_sem]) (by simp [go_sem])) rfl ⟨rfl, ?_⟩
  exact ((bel_box).alloc (by rw [World.size_alloc]; omega) _).alloc (by rw [World.size_alloc, World.size_alloc]; omega) _

/-- The marks of n dependences from k on. -/
def marksP (k : Int) (n : Nat) : List (Int × Int) := (List.range n).map fun i : Nat => (k + 2 * (i : Int), k + 2 * (i : Int) + 1)
theorem marksP_len (k : Int) (n : Nat) : (marksP k n).length = n := by unfold marksP; simp
theorem marksP_at {k : Int} {n i : Nat} {f g : Int} (h : Hid ((marksP k n)[i]? = some (f, g))) : f = k + 2 * (i : Int) ∧ g = k + 2 * (i : Int) + 1 := by
  have h := h.out
  unfold marksP at h
  rw [List.getElem?_map] at h
  by_cases hi : i < n
  · rw [List.getElem?_range hi] at h
    simp only [Option.map_some, Option.some.injEq, Prod.mk.injEq] at h
    exact ⟨h.1.symm, h.2.symm⟩
  · rw [List.getElem?_eq_none (by simp; omega)] at h
    cases h
end Go.Proofs.YtannpnhboeopdaaDoor

namespace Go.Proofs.YtannpnhboeopdaaDoor
open Go.RowKit

theorem flatP_set : ∀ (es : List (Int × Int)) (k : Nat) (a b : Int), k < es.length → ((flatP es).set (k * 2) (.int .i64 a)).set (k * 2 + 1) (.int .i64 b) = flatP (es.set k (a, b))
  | [], k, a, b, h => by simp at h
  | x :: es, 0, a, b, h => rfl
  | x :: es, k + 1, a, b, h => by
    rw [flatP_cons, show (k + 1) * 2 = k * 2 + 1 + 1 by omega, List.set_cons_succ, List.set_cons_succ, List.set_cons_succ, List.set_cons_succ, List.set_cons_succ, flatP_cons, flatP_set es k a b (by simpa using h)]
/-- The row that the copying loop fills. -/
def partP (ds : List (Int × Int)) (k : Nat) : Nat → Value := fun j => if j < k * 2 then ((flatP ds)[j]?).getD (.int .i64 0) else .int .i64 0
theorem made_two (m : Nat) : ∀ i, i < (madeCells #[Value.int .i64 0, .int .i64 0] m).size → (madeCells #[Value.int .i64 0, .int .i64 0] m)[i]? = some (.int .i64 0) := by
  intro i hi
  rw [size_madeCells] at hi
  have h2 : i % 2 = 0 ∨ i % 2 = 1 := by omega
  unfold madeCells
  rw [Array.getElem?_map, Array.getElem?_range, if_pos hi]
  rcases h2 with h | h <;> simp [h]
theorem rowP_made (w : World) (n : Nat) (ds : List (Int × Int)) : (w.alloc (.cells (madeCells #[Value.int .i64 0, .int .i64 0] (n * 2)) 24)).rowIs w.heap.size 24 (n * 2) (partP ds 0) := by
  have := World.rowIs_alloc w (madeCells #[Value.int .i64 0, .int .i64 0] (n * 2)) 24 (partP ds 0) (fun i hi => by rw [made_two _ i hi]; unfold partP; rw [if_neg (by omega)])
  rwa [size_madeCells] at this
theorem partP_next {w : World} {g : Nat} {ds : List (Int × Int)} {k : Nat} {a b : Int} (h : w.rowIs g 24 (ds.length * 2) (partP ds k)) (hx : Hid (ds[k]? = some (a, b))) :
    ((w.setCell ⟨g, k * 2, none⟩ (.int .i64 a)).setCell ⟨g, k * 2 + 1, none⟩ (.int .i64 b)).rowIs g 24 (ds.length * 2) (partP ds (k + 1)) := by
  obtain ⟨e1, e2⟩ := flatP_at hx.out
  refine ((h.set (k * 2) _).set (k * 2 + 1) _).congr fun j hj => ?_
  unfold partP
  by_cases e : j = k * 2 + 1
  · subst e
    rw [if_pos rfl, if_pos (by omega), e2]; rfl
  · rw [if_neg e]
    by_cases e' : j = k * 2
    · subst e'
      rw [if_pos rfl, if_pos (by omega), e1]; rfl
    · rw [if_neg e']
      by_cases h1 : j < k * 2
      · rw [if_pos h1, if_pos (by omega)]
      · rw [if_neg h1, if_neg (by omega)]
theorem owns_of_rowP {w : World} {base g : Nat} {ds : List (Int × Int)} (h : w.rowIs g 24 (ds.length * 2) (partP ds ds.length)) (hb : base ≤ g) (hm : ds.length ≤ maxLen) : OwnsP w base (.slice (some ⟨g, 0, none⟩) ds.length ds.length) ds := by
  obtain ⟨c, hg, hn, hc⟩ := h
  refine ⟨flatP_len ds, .inr ⟨g, ds.length, c, rfl, hb, hg, Nat.le_refl _, hm, by omega, ?_⟩⟩
  apply List.ext_getElem?
  intro i
  rw [List.getElem?_take]
  by_cases hi : i < ds.length * 2
  · rw [if_pos (by omega), Array.getElem?_toList, hc i hi]
    unfold partP
    rw [if_pos hi, List.getElem?_eq_getElem (by rw [flatP_len]; exact hi)]; rfl
  · rw [if_neg (by omega), List.getElem?_eq_none (by rw [flatP_len]; omega)]
end Go.Proofs.YtannpnhboeopdaaDoor
