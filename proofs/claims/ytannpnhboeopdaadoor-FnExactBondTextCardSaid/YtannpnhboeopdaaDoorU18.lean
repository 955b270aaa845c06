/-
  What the proofs of this seat's statements share (BndW).
-/
import Derived.Test.YtannpnhboeopdaaDoorU17
import Derived.Test.YtannpnhboeopdaaDoorU3

namespace Go.Proofs.YtannpnhboeopdaaDoor
open Go.RowKit

/-- Block b is a dependence's variable that holds x, y. -/
def Blk (W : World) (b : Nat) (x y : Value) : Prop := W.heap[b]? = some (.cells #[x, y] 24 (0, 0))
theorem Blk.new (W : World) (x y : Value) : Blk (W.alloc (.cells #[x, y] 24)) W.heap.size x y := heap_alloc_new W _
theorem Blk.lt {W : World} {b : Nat} {x y : Value} (h : Blk W b x y) : b < W.heap.size := (Array.getElem?_eq_some_iff.1 h).1
theorem Blk.alloc {W : World} {b : Nat} {x y : Value} (h : Blk W b x y) (o : Obj) : Blk (W.alloc o) b x y := (Below.heap_alloc W o b h.lt).trans h
theorem Blk.grown {W W' : World} {b g : Nat} {x y : Value} (h : Blk W b x y) (hg : W.grownBy W' (some g)) (hne : g < b) : Blk W' b x y :=
  (hg.block b h.lt (by simp; omega)).trans h
theorem Blk.drewN {W : World} {b : Nat} {x y : Value} (h : Blk W b x y) (n : Nat) : Blk (W.drewN n) b x y := h
theorem Blk.cells {W : World} {b : Nat} {x y : Value} (h : Blk W b x y) : W.cell? ⟨b, 0, none⟩ = some x ∧ W.cell? ⟨b, 1, none⟩ = some y ∧ W.frozen? ⟨b, 0, none⟩ = false ∧ W.frozen? ⟨b, 1, none⟩ = false := by
  unfold Blk at h
  refine ⟨?_, ?_, ?_, ?_⟩ <;> simp [World.cell?, World.frozen?, h]
theorem Blk.set0 {W : World} {b : Nat} {x y : Value} (h : Blk W b x y) (v : Value) : Blk (W.setCell ⟨b, 0, none⟩ v) b v y := by
  unfold Blk at *
  simp [World.setCell, Array.getElem?_modify, h]
theorem Blk.set1 {W : World} {b : Nat} {x y : Value} (h : Blk W b x y) (v : Value) : Blk (W.setCell ⟨b, 1, none⟩ v) b x v := by
  unfold Blk at *
  simp [World.setCell, Array.getElem?_modify, h]
theorem Blk.other {W : World} {b a i : Nat} {x y : Value} (h : Blk W b x y) (hne : a ≠ b) (v : Value) : Blk (W.setCell ⟨a, i, none⟩ v) b x y :=
  (Below.heap_setCell W ⟨a, i, none⟩ v b (fun e => hne e.symm)).trans h
/-- All that a store into a dependence's variable asks and leaves. -/
theorem Blk.store {W : World} {b : Nat} {x y : Value} (h : Blk W b x y) (u v : Value) :
    (W.cell? ⟨b, 0, none⟩ = some x ∧ W.cell? ⟨b, 1, none⟩ = some y ∧ W.frozen? ⟨b, 0, none⟩ = false ∧ W.frozen? ⟨b, 1, none⟩ = false) ∧
    ((W.setCell ⟨b, 0, none⟩ u).cell? ⟨b, 1, none⟩ = some y ∧ (W.setCell ⟨b, 0, none⟩ u).frozen? ⟨b, 1, none⟩ = false) ∧
    ((W.setCell ⟨b, 0, none⟩ u).setCell ⟨b, 1, none⟩ v).cell? ⟨b, 0, none⟩ = some u ∧ ((W.setCell ⟨b, 0, none⟩ u).setCell ⟨b, 1, none⟩ v).cell? ⟨b, 1, none⟩ = some v :=
  ⟨h.cells, ⟨(h.set0 u).cells.2.1, (h.set0 u).cells.2.2.2⟩, ((h.set0 u).set1 v).cells.1, ((h.set0 u).set1 v).cells.2.1⟩
theorem grown_store {a w : World} {row : Option Nat} {b : Nat} (h : a.grownBy w row) (hb : a.heap.size ≤ b) (i : Nat) (v : Value) : a.grownBy (w.setCell ⟨b, i, none⟩ v) row :=
  grown_fresh h (grown_set (World.grownBy.refl w _) i v) fun k e => by cases e; exact hb
theorem rd_set {w : World} {g u b : Nat} (h : Rd w g u) (hb : g < b) (i : Nat) (v : Value) : Rd (w.setCell ⟨b, i, none⟩ v) g u := by
  obtain ⟨A, c, zs, p, h1, h2, h3, h4, h5, h6⟩ := h
  have hg : w.grownBy (w.setCell ⟨b, i, none⟩ v) (some b) := grown_set (World.grownBy.refl w _) i v
  have hlt : g < w.heap.size := (Array.getElem?_eq_some_iff.1 h1).1
  refine ⟨A, c, zs, p, (hg.block g hlt (by simp; omega)).trans h1, ?_, h3, h4, h5, h6⟩
  exact fun hp => h2.grown hg (fun ad ha e => by have := h6 ad hp ha; injection e; omega) hp

def DepPost (g u : Nat) (w : World) (e : Ending) (w' : World) : Prop :=
  ∃ (f h : Int), e = .returned (.agg #[.int .i64 f, .int .i64 h]) ∧ (-1 ≤ f ∧ f ≤ 8) ∧ (-1 ≤ h ∧ h ≤ 8) ∧ Rd w' g u ∧ w.grownBy w' (some g)

theorem all_pick {n : Nat} {k : Int} (hn : n ≤ 3) (h : ((2 ^ n : Nat) : Int) = k) : wrap64 ((2 : Int) ^ n) = k := by
  have h3 : 2 ^ n ≤ 2 ^ 3 := Nat.pow_le_pow_right (by omega) hn
  have e : (2 : Int) ^ n = ((2 ^ n : Nat) : Int) := by push_cast; rfl
  have h0 : 0 ≤ k := by rw [← h]; exact Int.natCast_nonneg _
  rw [e, h]
  exact IntWalk.wrap64_in _ ⟨by omega, by omega⟩
set_option maxHeartbeats 4000000 in
theorem bond_any (g u : Nat) (t n : Int) (w : World) (ht0 : -1 ≤ t) (ht1 : t ≤ 4) (hn : n ≤ 1048576) (hn0 : 0 ≤ n) (hu : u ≤ 1000000) (hR : Rd w g u) :
    Calls Tryd.prog 27 #[.pointer (some ⟨g, 0, none⟩), .int .i64 t, .int .i64 n] w (DepPost g (u + 4) w) := by
  have HR := Lib.hid hR
  have hlt := hR.lt
  have HZ : Hid (Blk (w.alloc (.cells #[.int .i64 0, .int .i64 0] 24)) w.heap.size (.int .i64 0) (.int .i64 0)) := Blk.new w _ _
  have HG : Hid (w.grownBy (w.alloc (.cells #[.int .i64 0, .int .i64 0] 24)) (some g)) := grown_alloc (World.grownBy.refl w _) _
  clear hR
  have ht : t = -1 ∨ t = 0 ∨ t = 1 ∨ t = 2 ∨ t = 3 ∨ t = 4 := by omega
  clear ht0 ht1
  rcases ht with rfl | rfl | rfl | rfl | rfl | rfl
  · go_enter Tryd.func27, Tryd.ntmps27
    go_wp2_with fail
    first | rw [all_pick (n := (min (max ((-1) : Int) 0) 3).toNat) (k := 1) (by decide) (by decide)] | rw [all_pick (n := (min ((-1) : Int) 3).toNat) (k := 1) (by decide) (by decide)] | skip
    refine (pick_any g u _ _ (by omega) (by omega) (by omega) (HR.out.alloc _)).mono ?_
    rintro e w1 ⟨k1, rfl, ha0, ha1, hr, hg⟩
    have hka := ha1 (by omega)
    have HR1 := Lib.hid hr
    have HG1 := Lib.hid (HG.out.trans hg)
    have HZ1 := Lib.hid (HZ.out.grown hg hlt)
    clear hr hg ha1
    go_wp2_with fail
    first | rw [all_pick (n := (min (max ((-1) : Int) 0) 3).toNat) (k := 1) (by decide) (by decide)] | rw [all_pick (n := (min ((-1) : Int) 3).toNat) (k := 1) (by decide) (by decide)] | skip
    refine (pick_any g (u + 1) _ _ (by omega) (by omega) (by omega) HR1.out).mono ?_
    rintro e w2 ⟨k2, rfl, hb0, hb1, hr, hg⟩
    have hkb := hb1 (by omega)
    have HR2 := Lib.hid hr
    have HG2 := Lib.hid (HG1.out.trans hg)
    have HZ2 := Lib.hid (HZ1.out.grown hg hlt)
    have hs2 : w.heap.size ≤ w2.heap.size := HG2.out.size
    have hzl := HZ2.out.lt
    clear hr hg hb1
    go_wp2_with fail
    refine (odd_any g (u + 2) n _ hn hn0 (by omega) (HR2.out.alloc _)).mono ?_
    rintro e w3 ⟨b, rfl, hr, hg⟩
    have HR3 := Lib.hid hr
    have HG3 := Lib.hid ((grown_alloc HG2.out _).trans hg)
    have HZ3 := Lib.hid ((HZ2.out.alloc _).grown hg hlt)
    have HD3 := Lib.hid ((Blk.new w2 (.int .i64 k1) (.int .i64 k2)).grown hg (by omega))
    clear hr hg
    cases b
    · obtain ⟨hd0, hd1, _, _⟩ := HD3.out.cells
      obtain ⟨⟨hz0, hz1, hz2, hz3⟩, ⟨hz4, hz5⟩, hz6, hz7⟩ := HZ3.out.store (.int .i64 k1) (.int .i64 k2)
      go_wp2_with fail
      refine bodyPost_ret_by (results_cell (b := w.heap.size) rfl rfl hz6 hz7) rfl ?_
      exact ⟨k1, k2, rfl, by omega, by omega, (rd_set (rd_set HR3.out hlt _ _) hlt _ _).more (by omega), grown_store (grown_store HG3.out (Nat.le_refl _) _ _) (Nat.le_refl _) _ _⟩
    · go_wp2_with fail
      first | rw [all_pick (n := (min (max ((-1) : Int) 0) 3).toNat) (k := 1) (by decide) (by decide)] | rw [all_pick (n := (min ((-1) : Int) 3).toNat) (k := 1) (by decide) (by decide)] | skip
      refine (pick_any g (u + 3) _ _ (by omega) (by omega) (by omega) HR3.out).mono ?_
      rintro e w4 ⟨k3, rfl, hc0, hc1, hr, hg⟩
      have hkc := hc1 (by omega)
      have HR4 := Lib.hid hr
      have HG4 := Lib.hid (HG3.out.trans hg)
      have HZ4 := Lib.hid (HZ3.out.grown hg hlt)
      have HD4 := Lib.hid (HD3.out.grown hg (by omega))
      clear hr hg hc1
      obtain ⟨hd0, hd1, hd2, hd3⟩ := HD4.out.cells
      by_cases h0 : k3 = 0
      · subst h0
        have HZ5 := Lib.hid (HZ4.out.other (a := w2.heap.size) (i := 0) (by omega) (.int .i64 1))
        obtain ⟨he0, he1, _, _⟩ := (HD4.out.set0 (.int .i64 1)).cells
        obtain ⟨⟨hz0, hz1, hz2, hz3⟩, ⟨hz4, hz5⟩, hz6, hz7⟩ := HZ5.out.store (.int .i64 1) (.int .i64 k2)
        go_wp2_with fail
        first | rw [all_pick (n := (min (max ((-1) : Int) 0) 3).toNat) (k := 1) (by decide) (by decide)] | rw [all_pick (n := (min ((-1) : Int) 3).toNat) (k := 1) (by decide) (by decide)] | skip
        refine bodyPost_ret_by (results_cell (b := w.heap.size) rfl rfl hz6 hz7) rfl ?_
        exact ⟨1, k2, rfl, by omega, by omega, (rd_set (rd_set (rd_set HR4.out (by omega) _ _) hlt _ _) hlt _ _).more (by omega), grown_store (grown_store (grown_store HG4.out hs2 _ _) (Nat.le_refl _) _ _) (Nat.le_refl _) _ _⟩
      · have hk1 : (k3 == 0) = false := by rw [beq_eq_false_iff_ne]; exact h0
        have HZ5 := Lib.hid (HZ4.out.other (a := w2.heap.size) (i := 1) (by omega) (.int .i64 (-1)))
        obtain ⟨he0, he1, _, _⟩ := (HD4.out.set1 (.int .i64 (-1))).cells
        obtain ⟨⟨hz0, hz1, hz2, hz3⟩, ⟨hz4, hz5⟩, hz6, hz7⟩ := HZ5.out.store (.int .i64 k1) (.int .i64 (-1))
        clear h0
        go_wp2_with fail
        refine bodyPost_ret_by (results_cell (b := w.heap.size) rfl rfl hz6 hz7) rfl ?_
        exact ⟨k1, -1, rfl, by omega, by omega, (rd_set (rd_set (rd_set HR4.out (by omega) _ _) hlt _ _) hlt _ _).more (by omega), grown_store (grown_store (grown_store HG4.out hs2 _ _) (Nat.le_refl _) _ _) (Nat.le_refl _) _ _⟩
  · go_enter Tryd.func27, Tryd.ntmps27
    go_wp2_with fail
    first | rw [all_pick (n := (min (max (0 : Int) 0) 3).toNat) (k := 1) (by decide) (by decide)] | rw [all_pick (n := (min (0 : Int) 3).toNat) (k := 1) (by decide) (by decide)] | skip
    refine (pick_any g u _ _ (by omega) (by omega) (by omega) (HR.out.alloc _)).mono ?_
    rintro e w1 ⟨k1, rfl, ha0, ha1, hr, hg⟩
    have hka := ha1 (by omega)
    have HR1 := Lib.hid hr
    have HG1 := Lib.hid (HG.out.trans hg)
    have HZ1 := Lib.hid (HZ.out.grown hg hlt)
    clear hr hg ha1
    go_wp2_with fail
    first | rw [all_pick (n := (min (max (0 : Int) 0) 3).toNat) (k := 1) (by decide) (by decide)] | rw [all_pick (n := (min (0 : Int) 3).toNat) (k := 1) (by decide) (by decide)] | skip
    refine (pick_any g (u + 1) _ _ (by omega) (by omega) (by omega) HR1.out).mono ?_
    rintro e w2 ⟨k2, rfl, hb0, hb1, hr, hg⟩
    have hkb := hb1 (by omega)
    have HR2 := Lib.hid hr
    have HG2 := Lib.hid (HG1.out.trans hg)
    have HZ2 := Lib.hid (HZ1.out.grown hg hlt)
    have hs2 : w.heap.size ≤ w2.heap.size := HG2.out.size
    have hzl := HZ2.out.lt
    clear hr hg hb1
    go_wp2_with fail
    refine (odd_any g (u + 2) n _ hn hn0 (by omega) (HR2.out.alloc _)).mono ?_
    rintro e w3 ⟨b, rfl, hr, hg⟩
    have HR3 := Lib.hid hr
    have HG3 := Lib.hid ((grown_alloc HG2.out _).trans hg)
    have HZ3 := Lib.hid ((HZ2.out.alloc _).grown hg hlt)
    have HD3 := Lib.hid ((Blk.new w2 (.int .i64 k1) (.int .i64 k2)).grown hg (by omega))
    clear hr hg
    cases b
    · obtain ⟨hd0, hd1, _, _⟩ := HD3.out.cells
      obtain ⟨⟨hz0, hz1, hz2, hz3⟩, ⟨hz4, hz5⟩, hz6, hz7⟩ := HZ3.out.store (.int .i64 k1) (.int .i64 k2)
      go_wp2_with fail
      refine bodyPost_ret_by (results_cell (b := w.heap.size) rfl rfl hz6 hz7) rfl ?_
      exact ⟨k1, k2, rfl, by omega, by omega, (rd_set (rd_set HR3.out hlt _ _) hlt _ _).more (by omega), grown_store (grown_store HG3.out (Nat.le_refl _) _ _) (Nat.le_refl _) _ _⟩
    · go_wp2_with fail
      first | rw [all_pick (n := (min (max (0 : Int) 0) 3).toNat) (k := 1) (by decide) (by decide)] | rw [all_pick (n := (min (0 : Int) 3).toNat) (k := 1) (by decide) (by decide)] | skip
      refine (pick_any g (u + 3) _ _ (by omega) (by omega) (by omega) HR3.out).mono ?_
      rintro e w4 ⟨k3, rfl, hc0, hc1, hr, hg⟩
      have hkc := hc1 (by omega)
      have HR4 := Lib.hid hr
      have HG4 := Lib.hid (HG3.out.trans hg)
      have HZ4 := Lib.hid (HZ3.out.grown hg hlt)
      have HD4 := Lib.hid (HD3.out.grown hg (by omega))
      clear hr hg hc1
      obtain ⟨hd0, hd1, hd2, hd3⟩ := HD4.out.cells
      by_cases h0 : k3 = 0
      · subst h0
        have HZ5 := Lib.hid (HZ4.out.other (a := w2.heap.size) (i := 0) (by omega) (.int .i64 1))
        obtain ⟨he0, he1, _, _⟩ := (HD4.out.set0 (.int .i64 1)).cells
        obtain ⟨⟨hz0, hz1, hz2, hz3⟩, ⟨hz4, hz5⟩, hz6, hz7⟩ := HZ5.out.store (.int .i64 1) (.int .i64 k2)
        go_wp2_with fail
        first | rw [all_pick (n := (min (max (0 : Int) 0) 3).toNat) (k := 1) (by decide) (by decide)] | rw [all_pick (n := (min (0 : Int) 3).toNat) (k := 1) (by decide) (by decide)] | skip
        refine bodyPost_ret_by (results_cell (b := w.heap.size) rfl rfl hz6 hz7) rfl ?_
        exact ⟨1, k2, rfl, by omega, by omega, (rd_set (rd_set (rd_set HR4.out (by omega) _ _) hlt _ _) hlt _ _).more (by omega), grown_store (grown_store (grown_store HG4.out hs2 _ _) (Nat.le_refl _) _ _) (Nat.le_refl _) _ _⟩
      · have hk1 : (k3 == 0) = false := by rw [beq_eq_false_iff_ne]; exact h0
        have HZ5 := Lib.hid (HZ4.out.other (a := w2.heap.size) (i := 1) (by omega) (.int .i64 (-1)))
        obtain ⟨he0, he1, _, _⟩ := (HD4.out.set1 (.int .i64 (-1))).cells
        obtain ⟨⟨hz0, hz1, hz2, hz3⟩, ⟨hz4, hz5⟩, hz6, hz7⟩ := HZ5.out.store (.int .i64 k1) (.int .i64 (-1))
        clear h0
        go_wp2_with fail
        refine bodyPost_ret_by (results_cell (b := w.heap.size) rfl rfl hz6 hz7) rfl ?_
        exact ⟨k1, -1, rfl, by omega, by omega, (rd_set (rd_set (rd_set HR4.out (by omega) _ _) hlt _ _) hlt _ _).more (by omega), grown_store (grown_store (grown_store HG4.out hs2 _ _) (Nat.le_refl _) _ _) (Nat.le_refl _) _ _⟩
  · go_enter Tryd.func27, Tryd.ntmps27
    go_wp2_with fail
    first | rw [all_pick (n := (min (max (1 : Int) 0) 3).toNat) (k := 2) (by decide) (by decide)] | rw [all_pick (n := (min (1 : Int) 3).toNat) (k := 2) (by decide) (by decide)] | skip
    refine (pick_any g u _ _ (by omega) (by omega) (by omega) (HR.out.alloc _)).mono ?_
    rintro e w1 ⟨k1, rfl, ha0, ha1, hr, hg⟩
    have hka := ha1 (by omega)
    have HR1 := Lib.hid hr
    have HG1 := Lib.hid (HG.out.trans hg)
    have HZ1 := Lib.hid (HZ.out.grown hg hlt)
    clear hr hg ha1
    go_wp2_with fail
    first | rw [all_pick (n := (min (max (1 : Int) 0) 3).toNat) (k := 2) (by decide) (by decide)] | rw [all_pick (n := (min (1 : Int) 3).toNat) (k := 2) (by decide) (by decide)] | skip
    refine (pick_any g (u + 1) _ _ (by omega) (by omega) (by omega) HR1.out).mono ?_
    rintro e w2 ⟨k2, rfl, hb0, hb1, hr, hg⟩
    have hkb := hb1 (by omega)
    have HR2 := Lib.hid hr
    have HG2 := Lib.hid (HG1.out.trans hg)
    have HZ2 := Lib.hid (HZ1.out.grown hg hlt)
    have hs2 : w.heap.size ≤ w2.heap.size := HG2.out.size
    have hzl := HZ2.out.lt
    clear hr hg hb1
    go_wp2_with fail
    refine (odd_any g (u + 2) n _ hn hn0 (by omega) (HR2.out.alloc _)).mono ?_
    rintro e w3 ⟨b, rfl, hr, hg⟩
    have HR3 := Lib.hid hr
    have HG3 := Lib.hid ((grown_alloc HG2.out _).trans hg)
    have HZ3 := Lib.hid ((HZ2.out.alloc _).grown hg hlt)
    have HD3 := Lib.hid ((Blk.new w2 (.int .i64 k1) (.int .i64 k2)).grown hg (by omega))
    clear hr hg
    cases b
    · obtain ⟨hd0, hd1, _, _⟩ := HD3.out.cells
      obtain ⟨⟨hz0, hz1, hz2, hz3⟩, ⟨hz4, hz5⟩, hz6, hz7⟩ := HZ3.out.store (.int .i64 k1) (.int .i64 k2)
      go_wp2_with fail
      refine bodyPost_ret_by (results_cell (b := w.heap.size) rfl rfl hz6 hz7) rfl ?_
      exact ⟨k1, k2, rfl, by omega, by omega, (rd_set (rd_set HR3.out hlt _ _) hlt _ _).more (by omega), grown_store (grown_store HG3.out (Nat.le_refl _) _ _) (Nat.le_refl _) _ _⟩
    · go_wp2_with fail
      first | rw [all_pick (n := (min (max (1 : Int) 0) 3).toNat) (k := 2) (by decide) (by decide)] | rw [all_pick (n := (min (1 : Int) 3).toNat) (k := 2) (by decide) (by decide)] | skip
      refine (pick_any g (u + 3) _ _ (by omega) (by omega) (by omega) HR3.out).mono ?_
      rintro e w4 ⟨k3, rfl, hc0, hc1, hr, hg⟩
      have hkc := hc1 (by omega)
      have HR4 := Lib.hid hr
      have HG4 := Lib.hid (HG3.out.trans hg)
      have HZ4 := Lib.hid (HZ3.out.grown hg hlt)
      have HD4 := Lib.hid (HD3.out.grown hg (by omega))
      clear hr hg hc1
      obtain ⟨hd0, hd1, hd2, hd3⟩ := HD4.out.cells
      by_cases h0 : k3 = 0
      · subst h0
        have HZ5 := Lib.hid (HZ4.out.other (a := w2.heap.size) (i := 0) (by omega) (.int .i64 2))
        obtain ⟨he0, he1, _, _⟩ := (HD4.out.set0 (.int .i64 2)).cells
        obtain ⟨⟨hz0, hz1, hz2, hz3⟩, ⟨hz4, hz5⟩, hz6, hz7⟩ := HZ5.out.store (.int .i64 2) (.int .i64 k2)
        go_wp2_with fail
        first | rw [all_pick (n := (min (max (1 : Int) 0) 3).toNat) (k := 2) (by decide) (by decide)] | rw [all_pick (n := (min (1 : Int) 3).toNat) (k := 2) (by decide) (by decide)] | skip
        refine bodyPost_ret_by (results_cell (b := w.heap.size) rfl rfl hz6 hz7) rfl ?_
        exact ⟨2, k2, rfl, by omega, by omega, (rd_set (rd_set (rd_set HR4.out (by omega) _ _) hlt _ _) hlt _ _).more (by omega), grown_store (grown_store (grown_store HG4.out hs2 _ _) (Nat.le_refl _) _ _) (Nat.le_refl _) _ _⟩
      · have hk1 : (k3 == 0) = false := by rw [beq_eq_false_iff_ne]; exact h0
        have HZ5 := Lib.hid (HZ4.out.other (a := w2.heap.size) (i := 1) (by omega) (.int .i64 (-1)))
        obtain ⟨he0, he1, _, _⟩ := (HD4.out.set1 (.int .i64 (-1))).cells
        obtain ⟨⟨hz0, hz1, hz2, hz3⟩, ⟨hz4, hz5⟩, hz6, hz7⟩ := HZ5.out.store (.int .i64 k1) (.int .i64 (-1))
        clear h0
        go_wp2_with fail
        refine bodyPost_ret_by (results_cell (b := w.heap.size) rfl rfl hz6 hz7) rfl ?_
        exact ⟨k1, -1, rfl, by omega, by omega, (rd_set (rd_set (rd_set HR4.out (by omega) _ _) hlt _ _) hlt _ _).more (by omega), grown_store (grown_store (grown_store HG4.out hs2 _ _) (Nat.le_refl _) _ _) (Nat.le_refl _) _ _⟩
  · go_enter Tryd.func27, Tryd.ntmps27
    go_wp2_with fail
    first | rw [all_pick (n := (min (max (2 : Int) 0) 3).toNat) (k := 4) (by decide) (by decide)] | rw [all_pick (n := (min (2 : Int) 3).toNat) (k := 4) (by decide) (by decide)] | skip
    refine (pick_any g u _ _ (by omega) (by omega) (by omega) (HR.out.alloc _)).mono ?_
    rintro e w1 ⟨k1, rfl, ha0, ha1, hr, hg⟩
    have hka := ha1 (by omega)
    have HR1 := Lib.hid hr
    have HG1 := Lib.hid (HG.out.trans hg)
    have HZ1 := Lib.hid (HZ.out.grown hg hlt)
    clear hr hg ha1
    go_wp2_with fail
    first | rw [all_pick (n := (min (max (2 : Int) 0) 3).toNat) (k := 4) (by decide) (by decide)] | rw [all_pick (n := (min (2 : Int) 3).toNat) (k := 4) (by decide) (by decide)] | skip
    refine (pick_any g (u + 1) _ _ (by omega) (by omega) (by omega) HR1.out).mono ?_
    rintro e w2 ⟨k2, rfl, hb0, hb1, hr, hg⟩
    have hkb := hb1 (by omega)
    have HR2 := Lib.hid hr
    have HG2 := Lib.hid (HG1.out.trans hg)
    have HZ2 := Lib.hid (HZ1.out.grown hg hlt)
    have hs2 : w.heap.size ≤ w2.heap.size := HG2.out.size
    have hzl := HZ2.out.lt
    clear hr hg hb1
    go_wp2_with fail
    refine (odd_any g (u + 2) n _ hn hn0 (by omega) (HR2.out.alloc _)).mono ?_
    rintro e w3 ⟨b, rfl, hr, hg⟩
    have HR3 := Lib.hid hr
    have HG3 := Lib.hid ((grown_alloc HG2.out _).trans hg)
    have HZ3 := Lib.hid ((HZ2.out.alloc _).grown hg hlt)
    have HD3 := Lib.hid ((Blk.new w2 (.int .i64 k1) (.int .i64 k2)).grown hg (by omega))
    clear hr hg
    cases b
    · obtain ⟨hd0, hd1, _, _⟩ := HD3.out.cells
      obtain ⟨⟨hz0, hz1, hz2, hz3⟩, ⟨hz4, hz5⟩, hz6, hz7⟩ := HZ3.out.store (.int .i64 k1) (.int .i64 k2)
      go_wp2_with fail
      refine bodyPost_ret_by (results_cell (b := w.heap.size) rfl rfl hz6 hz7) rfl ?_
      exact ⟨k1, k2, rfl, by omega, by omega, (rd_set (rd_set HR3.out hlt _ _) hlt _ _).more (by omega), grown_store (grown_store HG3.out (Nat.le_refl _) _ _) (Nat.le_refl _) _ _⟩
    · go_wp2_with fail
      first | rw [all_pick (n := (min (max (2 : Int) 0) 3).toNat) (k := 4) (by decide) (by decide)] | rw [all_pick (n := (min (2 : Int) 3).toNat) (k := 4) (by decide) (by decide)] | skip
      refine (pick_any g (u + 3) _ _ (by omega) (by omega) (by omega) HR3.out).mono ?_
      rintro e w4 ⟨k3, rfl, hc0, hc1, hr, hg⟩
      have hkc := hc1 (by omega)
      have HR4 := Lib.hid hr
      have HG4 := Lib.hid (HG3.out.trans hg)
      have HZ4 := Lib.hid (HZ3.out.grown hg hlt)
      have HD4 := Lib.hid (HD3.out.grown hg (by omega))
      clear hr hg hc1
      obtain ⟨hd0, hd1, hd2, hd3⟩ := HD4.out.cells
      by_cases h0 : k3 = 0
      · subst h0
        have HZ5 := Lib.hid (HZ4.out.other (a := w2.heap.size) (i := 0) (by omega) (.int .i64 4))
        obtain ⟨he0, he1, _, _⟩ := (HD4.out.set0 (.int .i64 4)).cells
        obtain ⟨⟨hz0, hz1, hz2, hz3⟩, ⟨hz4, hz5⟩, hz6, hz7⟩ := HZ5.out.store (.int .i64 4) (.int .i64 k2)
        go_wp2_with fail
        first | rw [all_pick (n := (min (max (2 : Int) 0) 3).toNat) (k := 4) (by decide) (by decide)] | rw [all_pick (n := (min (2 : Int) 3).toNat) (k := 4) (by decide) (by decide)] | skip
        refine bodyPost_ret_by (results_cell (b := w.heap.size) rfl rfl hz6 hz7) rfl ?_
        exact ⟨4, k2, rfl, by omega, by omega, (rd_set (rd_set (rd_set HR4.out (by omega) _ _) hlt _ _) hlt _ _).more (by omega), grown_store (grown_store (grown_store HG4.out hs2 _ _) (Nat.le_refl _) _ _) (Nat.le_refl _) _ _⟩
      · have hk1 : (k3 == 0) = false := by rw [beq_eq_false_iff_ne]; exact h0
        have HZ5 := Lib.hid (HZ4.out.other (a := w2.heap.size) (i := 1) (by omega) (.int .i64 (-1)))
        obtain ⟨he0, he1, _, _⟩ := (HD4.out.set1 (.int .i64 (-1))).cells
        obtain ⟨⟨hz0, hz1, hz2, hz3⟩, ⟨hz4, hz5⟩, hz6, hz7⟩ := HZ5.out.store (.int .i64 k1) (.int .i64 (-1))
        clear h0
        go_wp2_with fail
        refine bodyPost_ret_by (results_cell (b := w.heap.size) rfl rfl hz6 hz7) rfl ?_
        exact ⟨k1, -1, rfl, by omega, by omega, (rd_set (rd_set (rd_set HR4.out (by omega) _ _) hlt _ _) hlt _ _).more (by omega), grown_store (grown_store (grown_store HG4.out hs2 _ _) (Nat.le_refl _) _ _) (Nat.le_refl _) _ _⟩
  · go_enter Tryd.func27, Tryd.ntmps27
    go_wp2_with fail
    first | rw [all_pick (n := (min (max (3 : Int) 0) 3).toNat) (k := 8) (by decide) (by decide)] | rw [all_pick (n := (min (3 : Int) 3).toNat) (k := 8) (by decide) (by decide)] | skip
    refine (pick_any g u _ _ (by omega) (by omega) (by omega) (HR.out.alloc _)).mono ?_
    rintro e w1 ⟨k1, rfl, ha0, ha1, hr, hg⟩
    have hka := ha1 (by omega)
    have HR1 := Lib.hid hr
    have HG1 := Lib.hid (HG.out.trans hg)
    have HZ1 := Lib.hid (HZ.out.grown hg hlt)
    clear hr hg ha1
    go_wp2_with fail
    first | rw [all_pick (n := (min (max (3 : Int) 0) 3).toNat) (k := 8) (by decide) (by decide)] | rw [all_pick (n := (min (3 : Int) 3).toNat) (k := 8) (by decide) (by decide)] | skip
    refine (pick_any g (u + 1) _ _ (by omega) (by omega) (by omega) HR1.out).mono ?_
    rintro e w2 ⟨k2, rfl, hb0, hb1, hr, hg⟩
    have hkb := hb1 (by omega)
    have HR2 := Lib.hid hr
    have HG2 := Lib.hid (HG1.out.trans hg)
    have HZ2 := Lib.hid (HZ1.out.grown hg hlt)
    have hs2 : w.heap.size ≤ w2.heap.size := HG2.out.size
    have hzl := HZ2.out.lt
    clear hr hg hb1
    go_wp2_with fail
    refine (odd_any g (u + 2) n _ hn hn0 (by omega) (HR2.out.alloc _)).mono ?_
    rintro e w3 ⟨b, rfl, hr, hg⟩
    have HR3 := Lib.hid hr
    have HG3 := Lib.hid ((grown_alloc HG2.out _).trans hg)
    have HZ3 := Lib.hid ((HZ2.out.alloc _).grown hg hlt)
    have HD3 := Lib.hid ((Blk.new w2 (.int .i64 k1) (.int .i64 k2)).grown hg (by omega))
    clear hr hg
    cases b
    · obtain ⟨hd0, hd1, _, _⟩ := HD3.out.cells
      obtain ⟨⟨hz0, hz1, hz2, hz3⟩, ⟨hz4, hz5⟩, hz6, hz7⟩ := HZ3.out.store (.int .i64 k1) (.int .i64 k2)
      go_wp2_with fail
      refine bodyPost_ret_by (results_cell (b := w.heap.size) rfl rfl hz6 hz7) rfl ?_
      exact ⟨k1, k2, rfl, by omega, by omega, (rd_set (rd_set HR3.out hlt _ _) hlt _ _).more (by omega), grown_store (grown_store HG3.out (Nat.le_refl _) _ _) (Nat.le_refl _) _ _⟩
    · go_wp2_with fail
      first | rw [all_pick (n := (min (max (3 : Int) 0) 3).toNat) (k := 8) (by decide) (by decide)] | rw [all_pick (n := (min (3 : Int) 3).toNat) (k := 8) (by decide) (by decide)] | skip
      refine (pick_any g (u + 3) _ _ (by omega) (by omega) (by omega) HR3.out).mono ?_
      rintro e w4 ⟨k3, rfl, hc0, hc1, hr, hg⟩
      have hkc := hc1 (by omega)
      have HR4 := Lib.hid hr
      have HG4 := Lib.hid (HG3.out.trans hg)
      have HZ4 := Lib.hid (HZ3.out.grown hg hlt)
      have HD4 := Lib.hid (HD3.out.grown hg (by omega))
      clear hr hg hc1
      obtain ⟨hd0, hd1, hd2, hd3⟩ := HD4.out.cells
      by_cases h0 : k3 = 0
      · subst h0
        have HZ5 := Lib.hid (HZ4.out.other (a := w2.heap.size) (i := 0) (by omega) (.int .i64 8))
        obtain ⟨he0, he1, _, _⟩ := (HD4.out.set0 (.int .i64 8)).cells
        obtain ⟨⟨hz0, hz1, hz2, hz3⟩, ⟨hz4, hz5⟩, hz6, hz7⟩ := HZ5.out.store (.int .i64 8) (.int .i64 k2)
        go_wp2_with fail
        first | rw [all_pick (n := (min (max (3 : Int) 0) 3).toNat) (k := 8) (by decide) (by decide)] | rw [all_pick (n := (min (3 : Int) 3).toNat) (k := 8) (by decide) (by decide)] | skip
        refine bodyPost_ret_by (results_cell (b := w.heap.size) rfl rfl hz6 hz7) rfl ?_
        exact ⟨8, k2, rfl, by omega, by omega, (rd_set (rd_set (rd_set HR4.out (by omega) _ _) hlt _ _) hlt _ _).more (by omega), grown_store (grown_store (grown_store HG4.out hs2 _ _) (Nat.le_refl _) _ _) (Nat.le_refl _) _ _⟩
      · have hk1 : (k3 == 0) = false := by rw [beq_eq_false_iff_ne]; exact h0
        have HZ5 := Lib.hid (HZ4.out.other (a := w2.heap.size) (i := 1) (by omega) (.int .i64 (-1)))
        obtain ⟨he0, he1, _, _⟩ := (HD4.out.set1 (.int .i64 (-1))).cells
        obtain ⟨⟨hz0, hz1, hz2, hz3⟩, ⟨hz4, hz5⟩, hz6, hz7⟩ := HZ5.out.store (.int .i64 k1) (.int .i64 (-1))
        clear h0
        go_wp2_with fail
        refine bodyPost_ret_by (results_cell (b := w.heap.size) rfl rfl hz6 hz7) rfl ?_
        exact ⟨k1, -1, rfl, by omega, by omega, (rd_set (rd_set (rd_set HR4.out (by omega) _ _) hlt _ _) hlt _ _).more (by omega), grown_store (grown_store (grown_store HG4.out hs2 _ _) (Nat.le_refl _) _ _) (Nat.le_refl _) _ _⟩
  · go_enter Tryd.func27, Tryd.ntmps27
    go_wp2_with fail
    first | rw [all_pick (n := (min (max (4 : Int) 0) 3).toNat) (k := 8) (by decide) (by decide)] | rw [all_pick (n := (min (4 : Int) 3).toNat) (k := 8) (by decide) (by decide)] | skip
    refine (pick_any g u _ _ (by omega) (by omega) (by omega) (HR.out.alloc _)).mono ?_
    rintro e w1 ⟨k1, rfl, ha0, ha1, hr, hg⟩
    have hka := ha1 (by omega)
    have HR1 := Lib.hid hr
    have HG1 := Lib.hid (HG.out.trans hg)
    have HZ1 := Lib.hid (HZ.out.grown hg hlt)
    clear hr hg ha1
    go_wp2_with fail
    first | rw [all_pick (n := (min (max (4 : Int) 0) 3).toNat) (k := 8) (by decide) (by decide)] | rw [all_pick (n := (min (4 : Int) 3).toNat) (k := 8) (by decide) (by decide)] | skip
    refine (pick_any g (u + 1) _ _ (by omega) (by omega) (by omega) HR1.out).mono ?_
    rintro e w2 ⟨k2, rfl, hb0, hb1, hr, hg⟩
    have hkb := hb1 (by omega)
    have HR2 := Lib.hid hr
    have HG2 := Lib.hid (HG1.out.trans hg)
    have HZ2 := Lib.hid (HZ1.out.grown hg hlt)
    have hs2 : w.heap.size ≤ w2.heap.size := HG2.out.size
    have hzl := HZ2.out.lt
    clear hr hg hb1
    go_wp2_with fail
    refine (odd_any g (u + 2) n _ hn hn0 (by omega) (HR2.out.alloc _)).mono ?_
    rintro e w3 ⟨b, rfl, hr, hg⟩
    have HR3 := Lib.hid hr
    have HG3 := Lib.hid ((grown_alloc HG2.out _).trans hg)
    have HZ3 := Lib.hid ((HZ2.out.alloc _).grown hg hlt)
    have HD3 := Lib.hid ((Blk.new w2 (.int .i64 k1) (.int .i64 k2)).grown hg (by omega))
    clear hr hg
    cases b
    · obtain ⟨hd0, hd1, _, _⟩ := HD3.out.cells
      obtain ⟨⟨hz0, hz1, hz2, hz3⟩, ⟨hz4, hz5⟩, hz6, hz7⟩ := HZ3.out.store (.int .i64 k1) (.int .i64 k2)
      go_wp2_with fail
      refine bodyPost_ret_by (results_cell (b := w.heap.size) rfl rfl hz6 hz7) rfl ?_
      exact ⟨k1, k2, rfl, by omega, by omega, (rd_set (rd_set HR3.out hlt _ _) hlt _ _).more (by omega), grown_store (grown_store HG3.out (Nat.le_refl _) _ _) (Nat.le_refl _) _ _⟩
    · go_wp2_with fail
      first | rw [all_pick (n := (min (max (4 : Int) 0) 3).toNat) (k := 8) (by decide) (by decide)] | rw [all_pick (n := (min (4 : Int) 3).toNat) (k := 8) (by decide) (by decide)] | skip
      refine (pick_any g (u + 3) _ _ (by omega) (by omega) (by omega) HR3.out).mono ?_
      rintro e w4 ⟨k3, rfl, hc0, hc1, hr, hg⟩
      have hkc := hc1 (by omega)
      have HR4 := Lib.hid hr
      have HG4 := Lib.hid (HG3.out.trans hg)
      have HZ4 := Lib.hid (HZ3.out.grown hg hlt)
      have HD4 := Lib.hid (HD3.out.grown hg (by omega))
      clear hr hg hc1
      obtain ⟨hd0, hd1, hd2, hd3⟩ := HD4.out.cells
      by_cases h0 : k3 = 0
      · subst h0
        have HZ5 := Lib.hid (HZ4.out.other (a := w2.heap.size) (i := 0) (by omega) (.int .i64 8))
        obtain ⟨he0, he1, _, _⟩ := (HD4.out.set0 (.int .i64 8)).cells
        obtain ⟨⟨hz0, hz1, hz2, hz3⟩, ⟨hz4, hz5⟩, hz6, hz7⟩ := HZ5.out.store (.int .i64 8) (.int .i64 k2)
        go_wp2_with fail
        first | rw [all_pick (n := (min (max (4 : Int) 0) 3).toNat) (k := 8) (by decide) (by decide)] | rw [all_pick (n := (min (4 : Int) 3).toNat) (k := 8) (by decide) (by decide)] | skip
        refine bodyPost_ret_by (results_cell (b := w.heap.size) rfl rfl hz6 hz7) rfl ?_
        exact ⟨8, k2, rfl, by omega, by omega, (rd_set (rd_set (rd_set HR4.out (by omega) _ _) hlt _ _) hlt _ _).more (by omega), grown_store (grown_store (grown_store HG4.out hs2 _ _) (Nat.le_refl _) _ _) (Nat.le_refl _) _ _⟩
      · have hk1 : (k3 == 0) = false := by rw [beq_eq_false_iff_ne]; exact h0
        have HZ5 := Lib.hid (HZ4.out.other (a := w2.heap.size) (i := 1) (by omega) (.int .i64 (-1)))
        obtain ⟨he0, he1, _, _⟩ := (HD4.out.set1 (.int .i64 (-1))).cells
        obtain ⟨⟨hz0, hz1, hz2, hz3⟩, ⟨hz4, hz5⟩, hz6, hz7⟩ := HZ5.out.store (.int .i64 k1) (.int .i64 (-1))
        clear h0
        go_wp2_with fail
        refine bodyPost_ret_by (results_cell (b := w.heap.size) rfl rfl hz6 hz7) rfl ?_
        exact ⟨k1, -1, rfl, by omega, by omega, (rd_set (rd_set (rd_set HR4.out (by omega) _ _) hlt _ _) hlt _ _).more (by omega), grown_store (grown_store (grown_store HG4.out hs2 _ _) (Nat.le_refl _) _ _) (Nat.le_refl _) _ _⟩
theorem Blk.grown' {W W' : World} {b g : Nat} {x y : Value} (h : Blk W b x y) (hg : W.grownBy W' (some g)) (hne : b < g) : Blk W' b x y :=
  (hg.block b h.lt (by simp; omega)).trans h
theorem Blk.below {W W' : World} {b : Nat} {x y : Value} (h : Blk W b x y) (hb : Below W.heap.size W W') : Blk W' b x y := (hb.block b h.lt).trans h
theorem ownsP_grown {w w' : World} {base g : Nat} {v : Value} {ds : List (Int × Int)} (h : OwnsP w base v ds) (hg : w.grownBy w' (some g)) (hb : g < base) : OwnsP w' base v ds := by
  refine World.ownsRow.kept h hg ?_
  cases e : v.ownBlock with
  | none => exact .inl rfl
  | some k =>
    right
    intro e2
    have := (World.ownsRow.lt h k e).1
    injection e2
    omega
theorem ownsP_store {w : World} {base b : Nat} {v : Value} {ds : List (Int × Int)} (h : OwnsP w base v ds) (hb : b < base) (x y : Value) : OwnsP ((w.setCell ⟨b, 0, none⟩ x).setCell ⟨b, 1, none⟩ y) base v ds :=
  ownsP_grown h (grown_set (grown_set (World.grownBy.refl w _) 0 x) 1 y) hb
theorem rd_appendP {w W w' : World} {base g u : Nat} {v : Value} {ds : List (Int × Int)} {o : Obj} (hR : Rd W g u) (hG : w.grownBy W (some g)) (hown : OwnsP W base v ds) (hb : w.heap.size ≤ base) (hlt : g < w.heap.size)
    (hg : (W.alloc o).grownBy w' v.ownBlock) : Rd w' g u ∧ w.grownBy w' (some g) := by
  have hk : ∀ k, v.ownBlock = some k → w.heap.size ≤ k ∧ k < W.heap.size := fun k e => by have := World.ownsRow.lt hown k e; omega
  have h1 := hR.alloc o
  refine ⟨?_, grown_fresh (grown_alloc hG o) hg fun k e => (hk k e).1⟩
  obtain ⟨A, c, zs, p, a1, a2, a3, a4, a5, a6⟩ := hR
  have hgl : g < W.heap.size := (Array.getElem?_eq_some_iff.1 a1).1
  have a1' : (W.alloc o).heap[g]? = W.heap[g]? := Below.heap_alloc W o g hgl
  refine ⟨A, c, zs, p, (hg.block g (by simp; omega) (fun e => by have := hk g e.symm; omega)).trans (a1'.trans a1), ?_, a3, a4, a5, a6⟩
  exact fun hp => (a2.alloc o).grown hg (fun ad ha e => by have := a6 ad hp ha; have := hk ad.block e.symm; omega) hp
theorem nine_cells : (madeCells #[Value.int .i64 0, .int .i64 0] (9 * 2)).toList = flatP (List.replicate 9 ((0 : Int), (0 : Int))) := by
  have e : flatP (List.replicate 9 ((0 : Int), (0 : Int))) = List.replicate 18 (Value.int .i64 0) := rfl
  rw [e]
  apply List.ext_getElem?
  intro i
  rw [Array.getElem?_toList, List.getElem?_replicate]
  by_cases hi : i < 18
  · rw [if_pos hi, made_two _ i (by rw [size_madeCells]; omega)]
  · rw [if_neg hi, Array.getElem?_eq_none (by rw [size_madeCells]; omega)]
theorem nine_own (w : World) (base : Nat) (hb : base ≤ w.heap.size) : OwnsP (w.alloc (.cells (madeCells #[Value.int .i64 0, .int .i64 0] (9 * 2)) 24)) base (.slice (some ⟨w.heap.size, 0, none⟩) 9 9) (List.replicate 9 (0, 0)) := by
  have h := World.ownsRow_lit (base := base) (e := 24) (size := 2) w (madeCells #[Value.int .i64 0, .int .i64 0] (9 * 2)) 9 hb (by simp [maxLen]) (by rw [size_madeCells])
  rw [nine_cells] at h
  exact h
def DepsPost (g u : Nat) (w : World) (e : Ending) (w' : World) : Prop :=
  ∃ (v : Value) (ds : List (Int × Int)), e = .returned v ∧ OwnsP w' w.heap.size v ds ∧ ds.length ≤ 9 ∧ Rd w' g u ∧ w.grownBy w' (some g)
def DrawTD (w : World) (e : Ending) (w' : World) : Prop := ∃ (t f g : Int), e = .returned (.tuple #[.int .i64 t, .agg #[.int .i64 f, .int .i64 g]]) ∧ Below w.heap.size w w'
def DrawTSD (w : World) (e : Ending) (w' : World) : Prop := ∃ (t s f g : Int), e = .returned (.tuple #[.int .i64 t, .int .i64 s, .agg #[.int .i64 f, .int .i64 g]]) ∧ Below w.heap.size w w'
def DrawTB (w : World) (e : Ending) (w' : World) : Prop := ∃ (t s : Int), e = .returned (.tuple #[.int .i64 t, .int .i64 s]) ∧ Below w.heap.size w w'
def DrawTLN (w : World) (e : Ending) (w' : World) : Prop := ∃ (t f : Int) (ds : List (Int × Int)) (v : Value), e = .returned (.tuple #[.int .i64 t, v, .int .i64 f]) ∧ OwnsP w' w.heap.size v ds ∧ ds.length ≤ 9 ∧ Below w.heap.size w w'
def DrawTLD (w : World) (e : Ending) (w' : World) : Prop := ∃ (t f g : Int) (ds : List (Int × Int)) (v : Value), e = .returned (.tuple #[.int .i64 t, v, .agg #[.int .i64 f, .int .i64 g]]) ∧ OwnsP w' w.heap.size v ds ∧ ds.length ≤ 9 ∧ Below w.heap.size w w'
set_option maxHeartbeats 2000000 in
theorem drawBondOk_any (A : Option Addr) (nn c : Nat) (zs : List Int) (w : World) (hn : nn = zs.length) (hc : nn ≤ c) (hm : c ≤ maxLen) (hr : ∀ z ∈ zs, 0 ≤ z ∧ z ≤ 255) (hA : Nums .u8 w A zs) :
    Calls Tryd.prog 36 #[.slice A nn c] w (DrawTD w) := by
  have HO := Lib.hid (open_any A nn c zs (w.alloc (.cells #[.int .i64 0, .int .i64 0] 24)) hn hc hm hr (hA.alloc _))
  have HZ : Hid (Blk (w.alloc (.cells #[.int .i64 0, .int .i64 0] 24)) w.heap.size (.int .i64 0) (.int .i64 0)) := Blk.new w _ _
  have HB : Hid (Below w.heap.size w (w.alloc (.cells #[.int .i64 0, .int .i64 0] 24))) := bel_box
  have hsz : w.heap.size < (w.alloc (.cells #[.int .i64 0, .int .i64 0] 24)).heap.size := by rw [World.size_alloc]; omega
  clear hn hc hm hr hA
  go_enter Tryd.func36, Tryd.ntmps36
  go_wp2_with fail
  obtain ⟨W0, hW0⟩ : ∃ W, w.alloc (.cells #[.int .i64 0, .int .i64 0] 24) = W := ⟨_, rfl⟩
  rw [hW0] at HO HZ HB hsz ⊢
  clear hW0
  refine HO.out.mono ?_
  rintro e w1 ⟨rfl, hrd, hb⟩
  have HR := Lib.hid hrd
  replace HZ := Lib.hid (HZ.out.below hb)
  replace HB := Lib.hid (bel_trans HB.out hb)
  clear hrd hb
  go_wp2_with fail
  refine (things_any _ 0 _ _ (by omega) (by omega) (by omega) HR.out).mono ?_
  rintro e w2 ⟨t, rfl, ht0, ht1, hr, hg⟩
  have HR2 := Lib.hid hr
  replace HZ := Lib.hid (HZ.out.grown' hg hsz)
  replace HB := Lib.hid (below_grown HB.out hg HB.out.size (by omega))
  clear hr hg
  go_wp2_with fail
  refine (bond_any _ _ t _ _ ht0 ht1 (by omega) (by omega) (by omega) HR2.out).mono ?_
  rintro e w3 ⟨f, h, rfl, _, _, hr, hg⟩
  replace HZ := Lib.hid (HZ.out.grown' hg hsz)
  replace HB := Lib.hid (below_grown HB.out hg HB.out.size (by omega))
  clear hr hg
  obtain ⟨⟨hz0, hz1, hz2, hz3⟩, ⟨hz4, hz5⟩, hz6, hz7⟩ := HZ.out.store (.int .i64 f) (.int .i64 h)
  go_wp2_with fail
  refine bodyPost_ret_by (results_cell2 (b := w.heap.size) rfl rfl rfl hz6 hz7) rfl ?_
  exact ⟨t, f, h, rfl, (HB.out.setCell (Nat.le_refl _) _).setCell (Nat.le_refl _) _⟩
set_option maxHeartbeats 2000000 in
theorem drawHoldsIn_any (A : Option Addr) (nn c : Nat) (zs : List Int) (w : World) (hn : nn = zs.length) (hc : nn ≤ c) (hm : c ≤ maxLen) (hr : ∀ z ∈ zs, 0 ≤ z ∧ z ≤ 255) (hA : Nums .u8 w A zs) :
    Calls Tryd.prog 6 #[.slice A nn c] w (DrawTSD w) := by
  have HO := Lib.hid (open_any A nn c zs (w.alloc (.cells #[.int .i64 0, .int .i64 0] 24)) hn hc hm hr (hA.alloc _))
  have HZ : Hid (Blk (w.alloc (.cells #[.int .i64 0, .int .i64 0] 24)) w.heap.size (.int .i64 0) (.int .i64 0)) := Blk.new w _ _
  have HB : Hid (Below w.heap.size w (w.alloc (.cells #[.int .i64 0, .int .i64 0] 24))) := bel_box
  have hsz : w.heap.size < (w.alloc (.cells #[.int .i64 0, .int .i64 0] 24)).heap.size := by rw [World.size_alloc]; omega
  clear hn hc hm hr hA
  go_enter Tryd.func6, Tryd.ntmps6
  go_wp2_with fail
  obtain ⟨W0, hW0⟩ : ∃ W, w.alloc (.cells #[.int .i64 0, .int .i64 0] 24) = W := ⟨_, rfl⟩
  rw [hW0] at HO HZ HB hsz ⊢
  clear hW0
  refine HO.out.mono ?_
  rintro e w1 ⟨rfl, hrd, hb⟩
  have HR := Lib.hid hrd
  replace HZ := Lib.hid (HZ.out.below hb)
  replace HB := Lib.hid (bel_trans HB.out hb)
  clear hrd hb
  go_wp2_with fail
  refine (things_any _ 0 _ _ (by omega) (by omega) (by omega) HR.out).mono ?_
  rintro e w2 ⟨t, rfl, ht0, ht1, hr, hg⟩
  replace HR := Lib.hid hr
  replace HZ := Lib.hid (HZ.out.grown' hg hsz)
  replace HB := Lib.hid (below_grown HB.out hg HB.out.size (by omega))
  clear hr hg
  go_wp2_with fail
  refine (set_any _ _ _ _ _ (by omega) (by omega) (by omega) HR.out).mono ?_
  rintro e w3 ⟨s, rfl, hs0, hs1, hr, hg⟩
  replace HR := Lib.hid hr
  replace HZ := Lib.hid (HZ.out.grown' hg hsz)
  replace HB := Lib.hid (below_grown HB.out hg HB.out.size (by omega))
  clear hr hg
  go_wp2_with fail
  refine (pick_any _ _ _ _ (by omega) (by omega) (by omega) HR.out).mono ?_
  rintro e w4 ⟨k, rfl, hk0, hk1, hr, hg⟩
  replace HR := Lib.hid hr
  replace HZ := Lib.hid (HZ.out.grown' hg hsz)
  replace HB := Lib.hid (below_grown HB.out hg HB.out.size (by omega))
  clear hr hg hk1
  by_cases h0 : k = 0
  · subst h0
    go_wp2_with fail
    all_goals
      refine (pick_any _ _ _ _ (by omega) (by omega) (by omega) HR.out).mono ?_
      rintro e w5 ⟨k2, rfl, hq0, hq1, hr, hg⟩
      have hq2 := hq1 (by omega)
      replace HR := Lib.hid hr
      replace HZ := Lib.hid (HZ.out.grown' hg hsz)
      replace HB := Lib.hid (below_grown HB.out hg HB.out.size (by omega))
      clear hr hg hq1
      go_wp2_with fail
      refine (sBoth _ k2 (by omega) (by omega) hq0 (by omega) _).mono ?_
      rintro e w' ⟨rfl, n6, rfl⟩
      generalize andI _ k2 % 256 = r
      go_wp2_with fail
      refine (bond_any _ _ t _ _ ht0 ht1 (by omega) (by omega) (by omega) (HR.out.drewN n6)).mono ?_
      rintro e w7 ⟨f, h, rfl, _, _, hr, hg⟩
      replace HZ := Lib.hid ((HZ.out.drewN n6).grown' hg hsz)
      replace HB := Lib.hid (below_grown (bel_drewN HB.out n6) hg HB.out.size (by omega))
      clear hr hg
      obtain ⟨⟨hz0, hz1, hz2, hz3⟩, ⟨hz4, hz5⟩, hz6, hz7⟩ := HZ.out.store (.int .i64 f) (.int .i64 h)
      go_wp2_with fail
      refine bodyPost_ret_by (results_cell3 (b := w.heap.size) rfl rfl rfl rfl hz6 hz7) rfl ?_
      exact ⟨t, r, f, h, rfl, (HB.out.setCell (Nat.le_refl _) _).setCell (Nat.le_refl _) _⟩
  · have hk1 : (k == 0) = false := by rw [beq_eq_false_iff_ne]; exact h0
    clear h0
    go_wp2_with fail
    refine (bond_any _ _ t _ _ ht0 ht1 (by omega) (by omega) (by omega) HR.out).mono ?_
    rintro e w7 ⟨f, h, rfl, _, _, hr, hg⟩
    replace HZ := Lib.hid (HZ.out.grown' hg hsz)
    replace HB := Lib.hid (below_grown HB.out hg HB.out.size (by omega))
    clear hr hg
    obtain ⟨⟨hz0, hz1, hz2, hz3⟩, ⟨hz4, hz5⟩, hz6, hz7⟩ := HZ.out.store (.int .i64 f) (.int .i64 h)
    go_wp2_with fail
    refine bodyPost_ret_by (results_cell3 (b := w.heap.size) rfl rfl rfl rfl hz6 hz7) rfl ?_
    exact ⟨t, s, f, h, rfl, (HB.out.setCell (Nat.le_refl _) _).setCell (Nat.le_refl _) _⟩
theorem bond_field0 (f h : Int) (W : World) : (Instr.field 24 (Value.agg #[.int .i64 f, .int .i64 h]) 0).run Tryd.prog W = .ok (.int .i64 f) W := by
  kernel_rfl
end Go.Proofs.YtannpnhboeopdaaDoor
