/-
  What the proofs of this seat's statements share (DrwD).
-/
import Derived.Deep.Cut
import Derived.Deep.CutRange
import Derived.Deep.RegionWith
import Derived.Test.YtmdogidflaplkaaGreatU17
import Derived.Test.YtmdogidflaplkaaGreatU16

namespace Go.Proofs.YtmdogidflaplkaaGreat
open Go.RowKit

/-- What is drawn of a deed. -/
def DeedPost (g u : Nat) (w : World) (e : Ending) (w' : World) : Prop := ∃ (k : Int) (s : ByteArray), e = .returned (.agg #[.int .i64 k, .string s]) ∧ s.size ≤ 100 ∧ Rd w' g u ∧ w.grownBy w' (some g)
/-- A reader that has drawn at most u numbers since W0; nothing else of W0 has turned. -/
structure DM (g u : Nat) (W0 w : World) : Prop where
  rd : Rd w g u
  gr : W0.grownBy w (some g)
theorem DM.more {g u v : Nat} {W0 w : World} (h : DM g u W0 w) (hv : u ≤ v) : DM g v W0 w := ⟨h.rd.more hv, h.gr⟩
theorem DM.alloc {g u : Nat} {W0 w : World} (h : DM g u W0 w) (o : Obj) : DM g u W0 (w.alloc o) := ⟨h.rd.alloc o, grown_alloc h.gr o⟩
theorem DM.drew {g u : Nat} {W0 w : World} (h : DM g u W0 w) : DM g u W0 w.drew := ⟨h.rd.drewN 1, grown_drewN h.gr 1⟩
theorem DM.start {g u : Nat} {W0 : World} (h : Rd W0 g u) : DM g u W0 W0 := ⟨h, World.grownBy.refl _ _⟩
theorem DM.next {g u u' : Nat} {W0 w w' : World} (h : DM g u W0 w) (hr : Rd w' g u') (hg : w.grownBy w' (some g)) : DM g u' W0 w' := ⟨hr, h.gr.trans hg⟩
theorem DM.below {g u : Nat} {W0 w w' : World} (h : DM g u W0 w) (hb : Below w.heap.size w w') : DM g u W0 w' := ⟨h.rd.below hb, grown_below h.gr hb⟩
theorem rd_set {w : World} {g u h i : Nat} {v : Value} (hr : Rd w g u) (hA : g < h) : Rd (w.setCell ⟨h, i, none⟩ v) g u := by
  obtain ⟨A, c, zs, p, h1, h2, h3, h4, h5, h6⟩ := hr
  have hg : w.grownBy (w.setCell ⟨h, i, none⟩ v) (some h) := grown_set (World.grownBy.refl w _) i v
  refine ⟨A, c, zs, p, ?_, (fun hp => (h2.grown hg (fun ad ha e => by have := h6 ad hp ha; injection e; omega) : Nums .u8 (w.setCell ⟨h, i, none⟩ v) A zs) hp), h3, h4, h5, h6⟩
  rw [Below.heap_setCell w ⟨h, i, none⟩ v g (fun e => by simp only at e; omega)]; exact h1
theorem grown_setF {a w : World} {row : Option Nat} {b i : Nat} {v : Value} (h : a.grownBy w row) (hb : a.heap.size ≤ b) : a.grownBy (w.setCell ⟨b, i, none⟩ v) row :=
  grown_fresh h (grown_set (World.grownBy.refl w (some b)) i v) (fun k e => by cases e; exact hb)
theorem DM.set {g u h i : Nat} {W0 w : World} {v : Value} (hm : DM g u W0 w) (hh : W0.heap.size ≤ h) (hg : g < W0.heap.size) : DM g u W0 (w.setCell ⟨h, i, none⟩ v) := ⟨rd_set hm.rd (by omega), grown_setF hm.gr hh⟩
theorem DM.box {g u : Nat} {W0 w : World} {b : Nat} {T : TypeId} {cs : List Value} (h : DM g u W0 w) (hb : Box W0 b T cs) (hne : b ≠ g) : Box w b T cs := hb.grownO h.gr (fun k e => by cases e; exact fun e => hne e.symm)
theorem Box.storeA {W : World} {b : Nat} {T : TypeId} {x y : Value} (h : Box W b T [x, y]) :
    W.cell? ⟨b, 0, none⟩ = some x ∧ W.cell? ⟨b, 1, none⟩ = some y ∧ W.frozen? ⟨b, 0, none⟩ = false ∧ W.frozen? ⟨b, 1, none⟩ = false ∧ (∀ u, (W.setCell ⟨b, 0, none⟩ u).cell? ⟨b, 1, none⟩ = some y) ∧ (∀ u, (W.setCell ⟨b, 0, none⟩ u).frozen? ⟨b, 1, none⟩ = false) := by
  obtain ⟨⟨a, b2, c, d⟩, _⟩ := h.store2 x y
  exact ⟨a, b2, c, d, fun u => (h.store2 u y).2.1.1, fun u => (h.store2 u y).2.1.2⟩
theorem deed_end {g u : Nat} {w W0 X : World} (h : DM g u W0 X) (hb : Below w.heap.size w W0) (hg : g < w.heap.size) (a b : Value) :
    Rd ((X.setCell ⟨w.heap.size + 1, 0, none⟩ a).setCell ⟨w.heap.size + 1, 1, none⟩ b) g u ∧ w.grownBy ((X.setCell ⟨w.heap.size + 1, 0, none⟩ a).setCell ⟨w.heap.size + 1, 1, none⟩ b) (some g) :=
  ⟨rd_set (rd_set h.rd (by omega)) (by omega), grown_setF (grown_setF ((grown_below (World.grownBy.refl w (some g)) hb).trans h.gr) (by omega)) (by omega)⟩
theorem box_snd (w : World) (o : Obj) (T : TypeId) (cs : List Value) : Box ((w.alloc o).alloc (.cells cs.toArray T)) (w.heap.size + 1) T cs := by
  have := Box.new (w.alloc o) T cs
  rw [World.size_alloc] at this
  exact this
/-- Seven numbers lie in block b. -/
def Lit7 (w : World) (b : Nat) : Prop := b < w.heap.size ∧ ∀ k : Int, 0 ≤ k → k < 7 → ∃ x : Int, w.cell? ⟨b, k.toNat, none⟩ = some (.int .i64 x)
theorem lit7 {k : Int} (h0 : 0 ≤ k) (hk : k < 7) : ∃ x : Int, ∀ h, [Value.int .i64 0, .int .i64 0, .int .i64 0, .int .i64 1, .int .i64 1, .int .i64 1, .int .i64 2][k.toNat]'h = .int .i64 x := by
  have h5 : k = 0 ∨ k = 1 ∨ k = 2 ∨ k = 3 ∨ k = 4 ∨ k = 5 ∨ k = 6 := by omega
  rcases h5 with rfl | rfl | rfl | rfl | rfl | rfl | rfl <;> exact ⟨_, fun _ => rfl⟩
theorem Lit7.new (w : World) : Lit7 (w.alloc (.cells #[.int .i64 0, .int .i64 0, .int .i64 0, .int .i64 1, .int .i64 1, .int .i64 1, .int .i64 2] 3)) w.heap.size := by
  refine ⟨by rw [World.size_alloc]; exact Nat.lt_succ_self _, fun k h0 hk => ?_⟩
  obtain ⟨x, hx⟩ := lit7 h0 hk
  refine ⟨x, ?_⟩
  rw [cell_of_row _ _ _ _ _ _ (heap_alloc_new w _)]
  have hlt : k.toNat < 7 := by omega
  rw [List.getElem?_toArray, List.getElem?_eq_getElem hlt, hx hlt]
theorem Lit7.alloc {w : World} {b : Nat} (h : Lit7 w b) (o : Obj) : Lit7 (w.alloc o) b := ⟨Nat.lt_of_lt_of_le h.1 (by rw [World.size_alloc]; exact Nat.le_succ _), fun k h0 hk => by
  obtain ⟨x, hx⟩ := h.2 k h0 hk
  exact ⟨x, by rw [World.cell?_alloc_lt _ _ _ h.1]; exact hx⟩⟩
theorem Lit7.drew {w : World} {b : Nat} (h : Lit7 w b) : Lit7 w.drew b := h
theorem Lit7.grown {w w' : World} {b g : Nat} (h : Lit7 w b) (hg : w.grownBy w' (some g)) (hne : b ≠ g) : Lit7 w' b := ⟨Nat.lt_of_lt_of_le h.1 hg.size, fun k h0 hk => by
  obtain ⟨x, hx⟩ := h.2 k h0 hk
  exact ⟨x, hg.cell hx (by simp only [ne_eq, Option.some.injEq]; exact hne)⟩⟩
/-- What the drawing of a deed's kind leaves: its variable. -/
def DeedMid (g u : Nat) (W0 : World) (s5 : Value) (wx : World) : Prop := ∃ (h : Nat) (k : Int), s5 = .pointer (some ⟨h, 0, none⟩) ∧ W0.heap.size ≤ h ∧ Hid (Box wx h 30 [.int .i64 k, .string ⟨#[]⟩]) ∧ Hid (DM g (u + 2) W0 wx)
theorem deed_start (w : World) (a b c d : Value) : ∃ W, (w.alloc (.cells #[a, b, c, d] 28)).alloc (.cells #[.int .i64 0, .string ⟨#[]⟩] 30) = W ∧ Hid (Box W w.heap.size 28 [a, b, c, d]) ∧ Hid (Box W (w.heap.size + 1) 30 [.int .i64 0, .string ⟨#[]⟩]) ∧ Hid (Below w.heap.size w W) := by
  refine ⟨_, rfl, (Box.new w _ [a, b, c, d]).alloc _, ?_, ((Below.refl _ _).alloc (Nat.le_refl _) _).alloc (by rw [World.size_alloc]; omega) _⟩
  have := Box.new (w.alloc (.cells #[a, b, c, d] 28)) 30 [.int .i64 0, .string ⟨#[]⟩]
  rw [World.size_alloc] at this
  exact this
theorem lf1 {g u : Nat} {W0 w3 : World} {a : Int} (hm : DM g (u + 2) W0 w3) (h : W0.heap.size ≤ w3.heap.size) : DeedMid g u W0 (.pointer (some ⟨w3.heap.size, 0, none⟩)) (w3.alloc (.cells #[.int .i64 a, .string ⟨#[]⟩] 30)) :=
  ⟨_, _, rfl, h, Box.new w3 30 [.int .i64 a, .string ⟨#[]⟩], hm.alloc _⟩
theorem lf2 {g u h : Nat} {W0 w3 : World} {a : Int} (hm : DM g (u + 2) W0 w3) (hb : Box w3 h 30 [.int .i64 0, .string ⟨#[]⟩]) (hh : W0.heap.size ≤ h) (hg : g < W0.heap.size) :
    DeedMid g u W0 (.pointer (some ⟨h, 0, none⟩)) ((w3.setCell ⟨h, 0, none⟩ (.int .i64 a)).setCell ⟨h, 1, none⟩ (.string ⟨#[]⟩)) :=
  ⟨h, a, rfl, hh, (hb.set 0 _).set 1 _, (hm.set hh hg).set hh hg⟩
theorem lf3 {g u : Nat} {W0 w3 : World} {a : Int} {o : Obj} (hm : DM g (u + 2) W0 w3) (h : W0.heap.size ≤ w3.heap.size) : DeedMid g u W0 (.pointer (some ⟨w3.heap.size + 1, 0, none⟩)) ((w3.alloc o).alloc (.cells #[.int .i64 a, .string ⟨#[]⟩] 30)) :=
  ⟨_, a, rfl, by omega, box_snd w3 o 30 [.int .i64 a, .string ⟨#[]⟩], (hm.alloc _).alloc _⟩
theorem lf4 {g u : Nat} {W0 w3 : World} {a : Int} {o : Obj} (hm : DM g (u + 2) W0 w3) (h : W0.heap.size ≤ w3.heap.size) : DeedMid g u W0 (.pointer (some ⟨w3.heap.size, 0, none⟩)) ((w3.alloc (.cells #[.int .i64 a, .string ⟨#[]⟩] 30)).alloc o) :=
  ⟨_, a, rfl, h, (Box.new w3 30 [.int .i64 a, .string ⟨#[]⟩]).alloc _, (hm.alloc _).alloc _⟩
theorem lf5 {g u h : Nat} {W0 w3 : World} {a : Int} {o : Obj} (hm : DM g (u + 2) W0 w3) (hb : Box w3 h 30 [.int .i64 0, .string ⟨#[]⟩]) (hh : W0.heap.size ≤ h) (hg : g < W0.heap.size) :
    DeedMid g u W0 (.pointer (some ⟨h, 0, none⟩)) (((w3.alloc o).setCell ⟨h, 0, none⟩ (.int .i64 a)).setCell ⟨h, 1, none⟩ (.string ⟨#[]⟩)) :=
  ⟨h, a, rfl, hh, ((hb.alloc o).set 0 _).set 1 _, ((hm.alloc o).set hh hg).set hh hg⟩
set_option maxRecDepth 100000 in
set_option maxHeartbeats 8000000 in
theorem deed_any (g u : Nat) (t q : Int) (o p : Value) (A B : Option Addr) (n c m d : Nat) (ho : o = .slice A n c) (hp : p = .slice B m d) (w : World) (hu : u ≤ 800000) (hR : Rd w g u) :
    Calls Tryz.prog 34 #[.pointer (some ⟨g, 0, none⟩), .agg #[.int .i64 t, .int .i64 q, o, p]] w (DeedPost g (u + 50) w) := by
  subst ho hp
  have hlt := hR.lt
  obtain ⟨W0, hW0, HT0, HD0, HB0⟩ := deed_start w (.int .i64 t) (.int .i64 q) (.slice A n c) (.slice B m d)
  have HS : Hid (DM g u W0 W0) := DM.start (hR.below HB0.out)
  have hlt0 : g < W0.heap.size := Nat.lt_of_lt_of_le hlt HB0.out.size
  have hx1lt : w.heap.size + 1 < W0.heap.size := HD0.out.lt
  clear hR
  go_enter Tryz.func34, Tryz.ntmps34
  go_upto_region 1 with fail
  clear hW0
  have HP7 := Lib.hid (pick_any g u 7 (W0.drew) (by omega) (by omega) (by omega) HS.out.drew.rd)
  have HP7L := Lib.hid (pick_any g u 7 ((W0.alloc (.cells #[.int .i64 0, .int .i64 0, .int .i64 0, .int .i64 1, .int .i64 1, .int .i64 1, .int .i64 2] 3)).drew) (by omega) (by omega) (by omega) (HS.out.alloc _).drew.rd)
  have HL7L : Hid (Lit7 ((W0.alloc (.cells #[.int .i64 0, .int .i64 0, .int .i64 0, .int .i64 1, .int .i64 1, .int .i64 1, .int .i64 2] 3)).drew) (W0.heap.size)) := by have := Lit7.new W0; (try rw [World.size_alloc] at this); exact this
  have HP7A := Lib.hid (pick_any g u 7 ((W0.alloc (.cells #[.int .i64 0, .string ⟨#[]⟩] 30)).drew) (by omega) (by omega) (by omega) (HS.out.alloc _).drew.rd)
  have HB7A : Hid (Box ((W0.alloc (.cells #[.int .i64 0, .string ⟨#[]⟩] 30)).drew) (W0.heap.size) 30 [.int .i64 0, .string ⟨#[]⟩]) := by have := Box.new W0 30 [.int .i64 0, .string ⟨#[]⟩]; (try rw [World.size_alloc] at this); exact this
  have HP7LA := Lib.hid (pick_any g u 7 (((W0.alloc (.cells #[.int .i64 0, .int .i64 0, .int .i64 0, .int .i64 1, .int .i64 1, .int .i64 1, .int .i64 2] 3)).alloc (.cells #[.int .i64 0, .string ⟨#[]⟩] 30)).drew) (by omega) (by omega) (by omega) ((HS.out.alloc _).alloc _).drew.rd)
  have HL7LA : Hid (Lit7 (((W0.alloc (.cells #[.int .i64 0, .int .i64 0, .int .i64 0, .int .i64 1, .int .i64 1, .int .i64 1, .int .i64 2] 3)).alloc (.cells #[.int .i64 0, .string ⟨#[]⟩] 30)).drew) (W0.heap.size)) := by have := (Lit7.new W0).alloc (.cells #[.int .i64 0, .string ⟨#[]⟩] 30); (try rw [World.size_alloc] at this); exact this
  have HB7LA : Hid (Box (((W0.alloc (.cells #[.int .i64 0, .int .i64 0, .int .i64 0, .int .i64 1, .int .i64 1, .int .i64 1, .int .i64 2] 3)).alloc (.cells #[.int .i64 0, .string ⟨#[]⟩] 30)).drew) (W0.heap.size + 1) 30 [.int .i64 0, .string ⟨#[]⟩]) := by have := Box.new (W0.alloc (.cells #[.int .i64 0, .int .i64 0, .int .i64 0, .int .i64 1, .int .i64 1, .int .i64 1, .int .i64 2] 3)) 30 [.int .i64 0, .string ⟨#[]⟩]; (try rw [World.size_alloc] at this); exact this
  have HP7AL := Lib.hid (pick_any g u 7 (((W0.alloc (.cells #[.int .i64 0, .string ⟨#[]⟩] 30)).alloc (.cells #[.int .i64 0, .int .i64 0, .int .i64 0, .int .i64 1, .int .i64 1, .int .i64 1, .int .i64 2] 3)).drew) (by omega) (by omega) (by omega) ((HS.out.alloc _).alloc _).drew.rd)
  have HL7AL : Hid (Lit7 (((W0.alloc (.cells #[.int .i64 0, .string ⟨#[]⟩] 30)).alloc (.cells #[.int .i64 0, .int .i64 0, .int .i64 0, .int .i64 1, .int .i64 1, .int .i64 1, .int .i64 2] 3)).drew) (W0.heap.size + 1)) := by have := Lit7.new (W0.alloc (.cells #[.int .i64 0, .string ⟨#[]⟩] 30)); (try rw [World.size_alloc] at this); exact this
  have HB7AL : Hid (Box (((W0.alloc (.cells #[.int .i64 0, .string ⟨#[]⟩] 30)).alloc (.cells #[.int .i64 0, .int .i64 0, .int .i64 0, .int .i64 1, .int .i64 1, .int .i64 1, .int .i64 2] 3)).drew) (W0.heap.size) 30 [.int .i64 0, .string ⟨#[]⟩]) := by have := (Box.new W0 30 [.int .i64 0, .string ⟨#[]⟩]).alloc (.cells #[.int .i64 0, .int .i64 0, .int .i64 0, .int .i64 1, .int .i64 1, .int .i64 1, .int .i64 2] 3); (try rw [World.size_alloc] at this); exact this
  have HQ : Hid (∀ X, Rd X g (u + 1) → Calls Tryz.prog 70 #[.pointer (some ⟨g, 0, none⟩), .int .i64 60] X fun e w' => PickPost g (u + 1) 60 X e w') := fun X h => pick_any g (u + 1) 60 X (by omega) (by omega) (by omega) h
  go_cut [5] from 6 to 16 (fun s5 wx => DeedMid g u W0 s5 wx)
  case first =>
    go_region_with (first
      | (go_at_call 70; (with_reducible refine HP7.out.mono ?_); rintro e w2 ⟨k, rfl, hk0, hk1, hr, hg⟩; have hk7 := hk1 (by omega); obtain ⟨x1, hlit⟩ := lit7 hk0 hk7; have HM2 : Hid (DM g (u + 1) W0 w2) := (HS.out.drew).next hr hg; have hs2 : W0.heap.size ≤ w2.heap.size := HM2.out.gr.size; clear hr hg hk1)
      | (go_at_call 70; (with_reducible refine HP7L.out.mono ?_); rintro e w2 ⟨k, rfl, hk0, hk1, hr, hg⟩; have hk7 := hk1 (by omega); obtain ⟨x1, hlit⟩ := lit7 hk0 hk7; have HM2 : Hid (DM g (u + 1) W0 w2) := ((HS.out.alloc _).drew).next hr hg; have hs2 : W0.heap.size ≤ w2.heap.size := HM2.out.gr.size; have HL2 : Hid (Lit7 w2 (W0.heap.size)) := HL7L.out.grown hg (by omega); obtain ⟨x2, hc2⟩ := HL2.out.2 k hk0 hk7; have hc2a := (World.cell?_alloc_lt w2 (.cells #[.int .i64 0, .string ⟨#[]⟩] 30) ⟨W0.heap.size, k.toNat, none⟩ HL2.out.1).trans hc2; clear hr hg hk1)
      | (go_at_call 70; (with_reducible refine HP7A.out.mono ?_); rintro e w2 ⟨k, rfl, hk0, hk1, hr, hg⟩; have hk7 := hk1 (by omega); obtain ⟨x1, hlit⟩ := lit7 hk0 hk7; have HM2 : Hid (DM g (u + 1) W0 w2) := ((HS.out.alloc _).drew).next hr hg; have hs2 : W0.heap.size ≤ w2.heap.size := HM2.out.gr.size; have HB2 : Hid (Box w2 (W0.heap.size) 30 [.int .i64 0, .string ⟨#[]⟩]) := HB7A.out.grownO hg (fun j e => by cases e; omega); clear hr hg hk1)
      | (go_at_call 70; (with_reducible refine HP7LA.out.mono ?_); rintro e w2 ⟨k, rfl, hk0, hk1, hr, hg⟩; have hk7 := hk1 (by omega); obtain ⟨x1, hlit⟩ := lit7 hk0 hk7; have HM2 : Hid (DM g (u + 1) W0 w2) := (((HS.out.alloc _).alloc _).drew).next hr hg; have hs2 : W0.heap.size ≤ w2.heap.size := HM2.out.gr.size; have HL2 : Hid (Lit7 w2 (W0.heap.size)) := HL7LA.out.grown hg (by omega); obtain ⟨x2, hc2⟩ := HL2.out.2 k hk0 hk7; have hc2a := (World.cell?_alloc_lt w2 (.cells #[.int .i64 0, .string ⟨#[]⟩] 30) ⟨W0.heap.size, k.toNat, none⟩ HL2.out.1).trans hc2; have HB2 : Hid (Box w2 (W0.heap.size + 1) 30 [.int .i64 0, .string ⟨#[]⟩]) := HB7LA.out.grownO hg (fun j e => by cases e; omega); clear hr hg hk1)
      | (go_at_call 70; (with_reducible refine HP7AL.out.mono ?_); rintro e w2 ⟨k, rfl, hk0, hk1, hr, hg⟩; have hk7 := hk1 (by omega); obtain ⟨x1, hlit⟩ := lit7 hk0 hk7; have HM2 : Hid (DM g (u + 1) W0 w2) := (((HS.out.alloc _).alloc _).drew).next hr hg; have hs2 : W0.heap.size ≤ w2.heap.size := HM2.out.gr.size; have HL2 : Hid (Lit7 w2 (W0.heap.size + 1)) := HL7AL.out.grown hg (by omega); obtain ⟨x2, hc2⟩ := HL2.out.2 k hk0 hk7; have hc2a := (World.cell?_alloc_lt w2 (.cells #[.int .i64 0, .string ⟨#[]⟩] 30) ⟨W0.heap.size + 1, k.toNat, none⟩ HL2.out.1).trans hc2; have HB2 : Hid (Box w2 (W0.heap.size) 30 [.int .i64 0, .string ⟨#[]⟩]) := HB7AL.out.grownO hg (fun j e => by cases e; omega); clear hr hg hk1)
      | (go_at_call 70; (with_reducible refine (HQ.out w2 ?_).mono ?_); (exact HM2.out.rd); rintro e w3 ⟨k2, rfl, hj0, hj1, hr, hg⟩; have hj60 := hj1 (by omega); have HM3 : Hid (DM g (u + 2) W0 w3) := HM2.out.next hr hg; have hs3 : w2.heap.size ≤ w3.heap.size := Nat.le_trans (by (try simp only [World.size_alloc]); omega) hg.size; have HL3 : Hid (Lit7 w3 (W0.heap.size)) := (HL2.out).grown hg (by omega); obtain ⟨x3, hc3⟩ := HL3.out.2 k hk0 hk7; have hc3a := (World.cell?_alloc_lt w3 (.cells #[.int .i64 0, .string ⟨#[]⟩] 30) ⟨W0.heap.size, k.toNat, none⟩ HL3.out.1).trans hc3; have HB3 : Hid (Box w3 (W0.heap.size + 1) 30 [.int .i64 0, .string ⟨#[]⟩]) := (HB2.out).grownO hg (fun j e => by cases e; omega); obtain ⟨h3a, h3b, h3c, h3d, h3e, h3f⟩ := HB3.out.storeA; clear hr hg hj1)
      | (go_at_call 70; (with_reducible refine (HQ.out w2 ?_).mono ?_); (exact HM2.out.rd); rintro e w3 ⟨k2, rfl, hj0, hj1, hr, hg⟩; have hj60 := hj1 (by omega); have HM3 : Hid (DM g (u + 2) W0 w3) := HM2.out.next hr hg; have hs3 : w2.heap.size ≤ w3.heap.size := Nat.le_trans (by (try simp only [World.size_alloc]); omega) hg.size; have HL3 : Hid (Lit7 w3 (W0.heap.size + 1)) := (HL2.out).grown hg (by omega); obtain ⟨x3, hc3⟩ := HL3.out.2 k hk0 hk7; have hc3a := (World.cell?_alloc_lt w3 (.cells #[.int .i64 0, .string ⟨#[]⟩] 30) ⟨W0.heap.size + 1, k.toNat, none⟩ HL3.out.1).trans hc3; have HB3 : Hid (Box w3 (W0.heap.size) 30 [.int .i64 0, .string ⟨#[]⟩]) := (HB2.out).grownO hg (fun j e => by cases e; omega); obtain ⟨h3a, h3b, h3c, h3d, h3e, h3f⟩ := HB3.out.storeA; clear hr hg hj1)
      | (go_at_call 70; (with_reducible refine (HQ.out w2 ?_).mono ?_); (exact HM2.out.rd); rintro e w3 ⟨k2, rfl, hj0, hj1, hr, hg⟩; have hj60 := hj1 (by omega); have HM3 : Hid (DM g (u + 2) W0 w3) := HM2.out.next hr hg; have hs3 : w2.heap.size ≤ w3.heap.size := Nat.le_trans (by (try simp only [World.size_alloc]); omega) hg.size; have HL3 : Hid (Lit7 w3 (W0.heap.size)) := (HL2.out).grown hg (by omega); obtain ⟨x3, hc3⟩ := HL3.out.2 k hk0 hk7; have hc3a := (World.cell?_alloc_lt w3 (.cells #[.int .i64 0, .string ⟨#[]⟩] 30) ⟨W0.heap.size, k.toNat, none⟩ HL3.out.1).trans hc3; clear hr hg hj1)
      | (go_at_call 70; (with_reducible refine (HQ.out (w2.alloc (.cells #[.int .i64 0, .string ⟨#[]⟩] 30)) ?_).mono ?_); (exact (HM2.out.alloc _).rd); rintro e w3 ⟨k2, rfl, hj0, hj1, hr, hg⟩; have hj60 := hj1 (by omega); have HM3 : Hid (DM g (u + 2) W0 w3) := (HM2.out.alloc _).next hr hg; have hs3 : w2.heap.size ≤ w3.heap.size := Nat.le_trans (by (try simp only [World.size_alloc]); omega) hg.size; have HL3 : Hid (Lit7 w3 (W0.heap.size)) := (HL2.out.alloc _).grown hg (by omega); obtain ⟨x3, hc3⟩ := HL3.out.2 k hk0 hk7; have hc3a := (World.cell?_alloc_lt w3 (.cells #[.int .i64 0, .string ⟨#[]⟩] 30) ⟨W0.heap.size, k.toNat, none⟩ HL3.out.1).trans hc3; have HB3 : Hid (Box w3 (w2.heap.size) 30 [.int .i64 0, .string ⟨#[]⟩]) := (by have := Box.grownO (Box.new w2 30 [.int .i64 0, .string ⟨#[]⟩]) hg (fun j e => by cases e; (try simp only [World.size_alloc]); omega); (try rw [World.size_alloc] at this); exact this); obtain ⟨h3a, h3b, h3c, h3d, h3e, h3f⟩ := HB3.out.storeA; clear hr hg hj1)
      | (go_at_call 70; (with_reducible refine (HQ.out w2 ?_).mono ?_); (exact HM2.out.rd); rintro e w3 ⟨k2, rfl, hj0, hj1, hr, hg⟩; have hj60 := hj1 (by omega); have HM3 : Hid (DM g (u + 2) W0 w3) := HM2.out.next hr hg; have hs3 : w2.heap.size ≤ w3.heap.size := Nat.le_trans (by (try simp only [World.size_alloc]); omega) hg.size; have HB3 : Hid (Box w3 (W0.heap.size) 30 [.int .i64 0, .string ⟨#[]⟩]) := (HB2.out).grownO hg (fun j e => by cases e; omega); obtain ⟨h3a, h3b, h3c, h3d, h3e, h3f⟩ := HB3.out.storeA; obtain ⟨h4a, h4b, h4c, h4d, h4e, h4f⟩ := (HB3.out.alloc (.cells #[.int .i64 0, .int .i64 0, .int .i64 0, .int .i64 1, .int .i64 1, .int .i64 1, .int .i64 2] 3)).storeA; clear hr hg hj1)
      | (go_at_call 70; (with_reducible refine (HQ.out (w2.alloc (.cells #[.int .i64 0, .int .i64 0, .int .i64 0, .int .i64 1, .int .i64 1, .int .i64 1, .int .i64 2] 3)) ?_).mono ?_); (exact (HM2.out.alloc _).rd); rintro e w3 ⟨k2, rfl, hj0, hj1, hr, hg⟩; have hj60 := hj1 (by omega); have HM3 : Hid (DM g (u + 2) W0 w3) := (HM2.out.alloc _).next hr hg; have hs3 : w2.heap.size ≤ w3.heap.size := Nat.le_trans (by (try simp only [World.size_alloc]); omega) hg.size; have HL3 : Hid (Lit7 w3 (w2.heap.size)) := (by have := Lit7.grown (Lit7.new w2) hg (by (try simp only [World.size_alloc]); omega); (try rw [World.size_alloc] at this); exact this); obtain ⟨x3, hc3⟩ := HL3.out.2 k hk0 hk7; have hc3a := (World.cell?_alloc_lt w3 (.cells #[.int .i64 0, .string ⟨#[]⟩] 30) ⟨w2.heap.size, k.toNat, none⟩ HL3.out.1).trans hc3; have HB3 : Hid (Box w3 (W0.heap.size) 30 [.int .i64 0, .string ⟨#[]⟩]) := (HB2.out.alloc _).grownO hg (fun j e => by cases e; omega); obtain ⟨h3a, h3b, h3c, h3d, h3e, h3f⟩ := HB3.out.storeA; clear hr hg hj1)
      | (go_at_call 70; (with_reducible refine (HQ.out w2 ?_).mono ?_); (exact HM2.out.rd); rintro e w3 ⟨k2, rfl, hj0, hj1, hr, hg⟩; have hj60 := hj1 (by omega); have HM3 : Hid (DM g (u + 2) W0 w3) := HM2.out.next hr hg; have hs3 : w2.heap.size ≤ w3.heap.size := Nat.le_trans (by (try simp only [World.size_alloc]); omega) hg.size; obtain ⟨h4a, h4b, h4c, h4d, h4e, h4f⟩ := ((Box.new w3 30 [.int .i64 0, .string ⟨#[]⟩]).alloc (.cells #[.int .i64 0, .int .i64 0, .int .i64 0, .int .i64 1, .int .i64 1, .int .i64 1, .int .i64 2] 3)).storeA; clear hr hg hj1)
      | (go_at_call 70; (with_reducible refine (HQ.out (w2.alloc (.cells #[.int .i64 0, .int .i64 0, .int .i64 0, .int .i64 1, .int .i64 1, .int .i64 1, .int .i64 2] 3)) ?_).mono ?_); (exact (HM2.out.alloc _).rd); rintro e w3 ⟨k2, rfl, hj0, hj1, hr, hg⟩; have hj60 := hj1 (by omega); have HM3 : Hid (DM g (u + 2) W0 w3) := (HM2.out.alloc _).next hr hg; have hs3 : w2.heap.size ≤ w3.heap.size := Nat.le_trans (by (try simp only [World.size_alloc]); omega) hg.size; have HL3 : Hid (Lit7 w3 (w2.heap.size)) := (by have := Lit7.grown (Lit7.new w2) hg (by (try simp only [World.size_alloc]); omega); (try rw [World.size_alloc] at this); exact this); obtain ⟨x3, hc3⟩ := HL3.out.2 k hk0 hk7; have hc3a := (World.cell?_alloc_lt w3 (.cells #[.int .i64 0, .string ⟨#[]⟩] 30) ⟨w2.heap.size, k.toNat, none⟩ HL3.out.1).trans hc3; clear hr hg hj1)
      | (go_at_call 70; (with_reducible refine (HQ.out (w2.alloc (.cells #[.int .i64 0, .string ⟨#[]⟩] 30)) ?_).mono ?_); (exact (HM2.out.alloc _).rd); rintro e w3 ⟨k2, rfl, hj0, hj1, hr, hg⟩; have hj60 := hj1 (by omega); have HM3 : Hid (DM g (u + 2) W0 w3) := (HM2.out.alloc _).next hr hg; have hs3 : w2.heap.size ≤ w3.heap.size := Nat.le_trans (by (try simp only [World.size_alloc]); omega) hg.size; have HB3 : Hid (Box w3 (w2.heap.size) 30 [.int .i64 0, .string ⟨#[]⟩]) := (by have := Box.grownO (Box.new w2 30 [.int .i64 0, .string ⟨#[]⟩]) hg (fun j e => by cases e; (try simp only [World.size_alloc]); omega); (try rw [World.size_alloc] at this); exact this); obtain ⟨h3a, h3b, h3c, h3d, h3e, h3f⟩ := HB3.out.storeA; obtain ⟨h4a, h4b, h4c, h4d, h4e, h4f⟩ := (HB3.out.alloc (.cells #[.int .i64 0, .int .i64 0, .int .i64 0, .int .i64 1, .int .i64 1, .int .i64 1, .int .i64 2] 3)).storeA; clear hr hg hj1)
      | (go_at_call 70; (with_reducible refine (HQ.out ((w2.alloc (.cells #[.int .i64 0, .int .i64 0, .int .i64 0, .int .i64 1, .int .i64 1, .int .i64 1, .int .i64 2] 3)).alloc (.cells #[.int .i64 0, .string ⟨#[]⟩] 30)) ?_).mono ?_); (exact ((HM2.out.alloc _).alloc _).rd); rintro e w3 ⟨k2, rfl, hj0, hj1, hr, hg⟩; have hj60 := hj1 (by omega); have HM3 : Hid (DM g (u + 2) W0 w3) := ((HM2.out.alloc _).alloc _).next hr hg; have hs3 : w2.heap.size ≤ w3.heap.size := Nat.le_trans (by (try simp only [World.size_alloc]); omega) hg.size; have HL3 : Hid (Lit7 w3 (w2.heap.size)) := (by have := Lit7.grown ((Lit7.new w2).alloc (.cells #[.int .i64 0, .string ⟨#[]⟩] 30)) hg (by (try simp only [World.size_alloc]); omega); (try rw [World.size_alloc] at this); exact this); obtain ⟨x3, hc3⟩ := HL3.out.2 k hk0 hk7; have hc3a := (World.cell?_alloc_lt w3 (.cells #[.int .i64 0, .string ⟨#[]⟩] 30) ⟨w2.heap.size, k.toNat, none⟩ HL3.out.1).trans hc3; have HB3 : Hid (Box w3 (w2.heap.size + 1) 30 [.int .i64 0, .string ⟨#[]⟩]) := (by have := Box.grownO (Box.new (w2.alloc (.cells #[.int .i64 0, .int .i64 0, .int .i64 0, .int .i64 1, .int .i64 1, .int .i64 1, .int .i64 2] 3)) 30 [.int .i64 0, .string ⟨#[]⟩]) hg (fun j e => by cases e; (try simp only [World.size_alloc]); omega); (try rw [World.size_alloc] at this); exact this); obtain ⟨h3a, h3b, h3c, h3d, h3e, h3f⟩ := HB3.out.storeA; clear hr hg hj1)
      | (go_at_call 70; (with_reducible refine (HQ.out ((w2.alloc (.cells #[.int .i64 0, .string ⟨#[]⟩] 30)).alloc (.cells #[.int .i64 0, .int .i64 0, .int .i64 0, .int .i64 1, .int .i64 1, .int .i64 1, .int .i64 2] 3)) ?_).mono ?_); (exact ((HM2.out.alloc _).alloc _).rd); rintro e w3 ⟨k2, rfl, hj0, hj1, hr, hg⟩; have hj60 := hj1 (by omega); have HM3 : Hid (DM g (u + 2) W0 w3) := ((HM2.out.alloc _).alloc _).next hr hg; have hs3 : w2.heap.size ≤ w3.heap.size := Nat.le_trans (by (try simp only [World.size_alloc]); omega) hg.size; have HL3 : Hid (Lit7 w3 (w2.heap.size + 1)) := (by have := Lit7.grown (Lit7.new (w2.alloc (.cells #[.int .i64 0, .string ⟨#[]⟩] 30))) hg (by (try simp only [World.size_alloc]); omega); (try rw [World.size_alloc] at this); exact this); obtain ⟨x3, hc3⟩ := HL3.out.2 k hk0 hk7; have hc3a := (World.cell?_alloc_lt w3 (.cells #[.int .i64 0, .string ⟨#[]⟩] 30) ⟨w2.heap.size + 1, k.toNat, none⟩ HL3.out.1).trans hc3; have HB3 : Hid (Box w3 (w2.heap.size) 30 [.int .i64 0, .string ⟨#[]⟩]) := (by have := Box.grownO ((Box.new w2 30 [.int .i64 0, .string ⟨#[]⟩]).alloc (.cells #[.int .i64 0, .int .i64 0, .int .i64 0, .int .i64 1, .int .i64 1, .int .i64 1, .int .i64 2] 3)) hg (fun j e => by cases e; (try simp only [World.size_alloc]); omega); (try rw [World.size_alloc] at this); exact this); obtain ⟨h3a, h3b, h3c, h3d, h3e, h3f⟩ := HB3.out.storeA; clear hr hg hj1))
    all_goals
      go_wp2_with fail
      go_meet
      first | exact lf1 HM3.out (by omega) | exact lf2 HM3.out HB3.out (by omega) hlt0 | exact lf3 HM3.out (by omega) | exact lf4 HM3.out (by omega) | exact lf5 HM3.out HB3.out (by omega) hlt0
  case rest =>
    obtain ⟨h, k, rfl, hh, HBX, HM⟩ := hcut
    clear HS HQ
    have hc0 := HBX.out.cell (i := 0) (v := .int .i64 k) rfl
    have hc1 := HBX.out.cell (i := 1) (v := .string ⟨#[]⟩) rfl
    have HT1 := Lib.hid (HM.out.box HT0.out (by omega))
    have ht0 := HT1.out.cell (i := 0) (v := .int .i64 t) rfl
    have e0 : (ByteArray.mk #[]).size = 0 := rfl
    by_cases h0 : k = 0
    · have hkb : (k == 0) = true := by rw [h0]; rfl
      clear h0
      go_wp2_with fail
      refine (sent1_any g _ t _ (by omega) HM.out.rd).mono ?_
      rintro e w4 ⟨s, rfl, hs1, hs2, hr, hg⟩
      have HM4 := Lib.hid (HM.out.next hr hg)
      have HX4 := Lib.hid (HBX.out.grownO hg (fun j e => by cases e; omega))
      clear hr hg hc0 hc1 ht0
      have hf1 := HX4.out.frozen 1
      have hv1 := HX4.out.cell (i := 1) rfl
      have HM5 := Lib.hid (HM4.out.set (h := h) (i := 1) (v := .string s) hh hlt0)
      have HX5 := Lib.hid (HX4.out.set 1 (.string s))
      go_upto_region 9 with fail
      obtain ⟨X5, hX5⟩ : ∃ W, w4.setCell ⟨h, 1, none⟩ (.string s) = W := ⟨_, rfl⟩
      rw [hX5] at HM5 HX5 ⊢
      clear hX5 hf1 hv1
      go_wp2_with fail
      refine (odd_any g _ 40 _ (by omega) (by omega) (by omega) HM5.out.rd).mono ?_
      rintro e w8 ⟨b, rfl, hr, hg⟩
      have HM8 := Lib.hid (HM5.out.next hr hg)
      have HX8 := Lib.hid (HX5.out.grownO hg (fun j e => by cases e; omega))
      have HD8 := Lib.hid (HM8.out.box HD0.out (by omega))
      clear hr hg
      have hv0 := HX8.out.cell (i := 0) (v := .int .i64 k) rfl
      have hv1 := HX8.out.cell (i := 1) rfl
      cases b
      · obtain ⟨⟨ha0, ha1, ha2, ha3⟩, ⟨hb0, hb1⟩, HOUT⟩ := HD8.out.store2 (.int .i64 k) (.string s)
        have HFIN := Lib.hid (deed_end (HM8.out.more (v := u + 50) (by omega)) HB0.out hlt (.int .i64 k) (.string s))
        go_wp2_with fail
        refine bodyPost_ret_by (results_deed (b := w.heap.size + 1) rfl rfl HOUT) rfl ⟨k, s, rfl, by omega, HFIN.out⟩
      · have hf1 := HX8.out.frozen 1
        have HX9 := Lib.hid (HX8.out.set 1 (.string (s ++ ⟨#[41]⟩)))
        have HM9 := Lib.hid (HM8.out.set (h := h) (i := 1) (v := .string (s ++ ⟨#[41]⟩)) hh hlt0)
        have HD9 := Lib.hid (HM9.out.box HD0.out (by omega))
        have hn : (s ++ ⟨#[41]⟩ : ByteArray).size ≤ 100 := by rw [ByteArray.size_append, one_size]; omega
        go_upto_region 11 with fail
        obtain ⟨X9, hX9⟩ : ∃ W, w8.setCell ⟨h, 1, none⟩ (.string (s ++ ⟨#[41]⟩)) = W := ⟨_, rfl⟩
        rw [hX9] at HX9 HM9 HD9 ⊢
        clear hX9 hv0 hv1 hf1
        have hv0 := HX9.out.cell (i := 0) (v := .int .i64 k) rfl
        have hv1 := HX9.out.cell (i := 1) rfl
        obtain ⟨⟨ha0, ha1, ha2, ha3⟩, ⟨hb0, hb1⟩, HOUT⟩ := HD9.out.store2 (.int .i64 k) (.string (s ++ ⟨#[41]⟩))
        have HFIN := Lib.hid (deed_end (HM9.out.more (v := u + 50) (by omega)) HB0.out hlt (.int .i64 k) (.string (s ++ ⟨#[41]⟩)))
        go_wp2_with fail
        refine bodyPost_ret_by (results_deed (b := w.heap.size + 1) rfl rfl HOUT) rfl ⟨k, _, rfl, hn, HFIN.out⟩
    by_cases h1 : k = 1
    · have hkb : (k == 0) = false := by rw [beq_eq_false_iff_ne]; exact h0
      have hkc : (k == 1) = true := by rw [h1]; rfl
      clear h0 h1
      go_wp2_with fail
      refine (sent1_any g _ t _ (by omega) HM.out.rd).mono ?_
      rintro e w4 ⟨s, rfl, hs1, hs2, hr, hg⟩
      have HM4 := Lib.hid (HM.out.next hr hg)
      have HX4 := Lib.hid (HBX.out.grownO hg (fun j e => by cases e; omega))
      clear hr hg hc0 hc1 ht0
      have hf1 := HX4.out.frozen 1
      have hv1 := HX4.out.cell (i := 1) rfl
      have hn0 : (⟨#[63]⟩ ++ s : ByteArray).size ≤ 6 := by rw [ByteArray.size_append, one_size]; omega
      have HM5 := Lib.hid (HM4.out.set (h := h) (i := 1) (v := .string (⟨#[63]⟩ ++ s)) hh hlt0)
      have HX5 := Lib.hid (HX4.out.set 1 (.string (⟨#[63]⟩ ++ s)))
      go_upto_region 7 with fail
      obtain ⟨X5, hX5⟩ : ∃ W, w4.setCell ⟨h, 1, none⟩ (.string (⟨#[63]⟩ ++ s)) = W := ⟨_, rfl⟩
      rw [hX5] at HM5 HX5 ⊢
      obtain ⟨s5, hs5⟩ : ∃ s5, (⟨#[63]⟩ ++ s : ByteArray) = s5 := ⟨_, rfl⟩
      rw [hs5] at hn0 HX5
      clear hX5 hf1 hv1 hs5 hs1 hs2
      have HX5 : Hid (Box X5 h 30 [.int .i64 k, .string s5]) := HX5
      go_wp2_with fail
      refine (pick_any g _ 3 _ (by omega) (by omega) (by omega) HM5.out.rd).mono ?_
      rintro e w6 ⟨k3, rfl, hk30, hk31, hr, hg⟩
      have HM6 := Lib.hid (HM5.out.next hr hg)
      have HX6 := Lib.hid (HX5.out.grownO hg (fun j e => by cases e; omega))
      clear hr hg hk31
      by_cases h3 : k3 = 0
      · have hkd : (k3 == 0) = true := by rw [h3]; rfl
        have HT6 := Lib.hid (HM6.out.box HT0.out (by omega))
        have ht0 := HT6.out.cell (i := 0) (v := .int .i64 t) rfl
        clear h3
        go_wp2_with fail
        refine (sent2_any g _ t _ (by omega) HM6.out.rd).mono ?_
        rintro e w7 ⟨s, rfl, hs1, hs2, hr, hg⟩
        have HM7 := Lib.hid (HM6.out.next hr hg)
        have HX7 := Lib.hid (HX6.out.grownO hg (fun j e => by cases e; omega))
        clear hr hg ht0
        have hf1 := HX7.out.frozen 1
        have hv1 := HX7.out.cell (i := 1) rfl
        have HMB := Lib.hid (HM7.out.set (h := h) (i := 1) (v := .string s) hh hlt0)
        have HXB := Lib.hid (HX7.out.set 1 (.string s))
        go_upto_region 9 with fail
        obtain ⟨XB, hXB⟩ : ∃ W, w7.setCell ⟨h, 1, none⟩ (.string s) = W := ⟨_, rfl⟩
        rw [hXB] at HMB HXB ⊢
        clear hXB hf1 hv1
        go_wp2_with fail
        refine (odd_any g _ 40 _ (by omega) (by omega) (by omega) HMB.out.rd).mono ?_
        rintro e w8 ⟨b, rfl, hr, hg⟩
        have HM8 := Lib.hid (HMB.out.next hr hg)
        have HX8 := Lib.hid (HXB.out.grownO hg (fun j e => by cases e; omega))
        have HD8 := Lib.hid (HM8.out.box HD0.out (by omega))
        clear hr hg
        have hv0 := HX8.out.cell (i := 0) (v := .int .i64 k) rfl
        have hv1 := HX8.out.cell (i := 1) rfl
        cases b
        · obtain ⟨⟨ha0, ha1, ha2, ha3⟩, ⟨hb0, hb1⟩, HOUT⟩ := HD8.out.store2 (.int .i64 k) (.string s)
          have HFIN := Lib.hid (deed_end (HM8.out.more (v := u + 50) (by omega)) HB0.out hlt (.int .i64 k) (.string s))
          go_wp2_with fail
          refine bodyPost_ret_by (results_deed (b := w.heap.size + 1) rfl rfl HOUT) rfl ⟨k, s, rfl, by omega, HFIN.out⟩
        · have hf1 := HX8.out.frozen 1
          have HX9 := Lib.hid (HX8.out.set 1 (.string (s ++ ⟨#[41]⟩)))
          have HM9 := Lib.hid (HM8.out.set (h := h) (i := 1) (v := .string (s ++ ⟨#[41]⟩)) hh hlt0)
          have HD9 := Lib.hid (HM9.out.box HD0.out (by omega))
          have hn : (s ++ ⟨#[41]⟩ : ByteArray).size ≤ 100 := by rw [ByteArray.size_append, one_size]; omega
          go_upto_region 11 with fail
          obtain ⟨X9, hX9⟩ : ∃ W, w8.setCell ⟨h, 1, none⟩ (.string (s ++ ⟨#[41]⟩)) = W := ⟨_, rfl⟩
          rw [hX9] at HX9 HM9 HD9 ⊢
          clear hX9 hv0 hv1 hf1
          have hv0 := HX9.out.cell (i := 0) (v := .int .i64 k) rfl
          have hv1 := HX9.out.cell (i := 1) rfl
          obtain ⟨⟨ha0, ha1, ha2, ha3⟩, ⟨hb0, hb1⟩, HOUT⟩ := HD9.out.store2 (.int .i64 k) (.string (s ++ ⟨#[41]⟩))
          have HFIN := Lib.hid (deed_end (HM9.out.more (v := u + 50) (by omega)) HB0.out hlt (.int .i64 k) (.string (s ++ ⟨#[41]⟩)))
          go_wp2_with fail
          refine bodyPost_ret_by (results_deed (b := w.heap.size + 1) rfl rfl HOUT) rfl ⟨k, _, rfl, hn, HFIN.out⟩
      · have hkd : (k3 == 0) = false := by rw [beq_eq_false_iff_ne]; exact h3
        clear h3
        go_wp2_with fail
        refine (odd_any g _ 40 _ (by omega) (by omega) (by omega) HM6.out.rd).mono ?_
        rintro e w8 ⟨b, rfl, hr, hg⟩
        have HM8 := Lib.hid (HM6.out.next hr hg)
        have HX8 := Lib.hid (HX6.out.grownO hg (fun j e => by cases e; omega))
        have HD8 := Lib.hid (HM8.out.box HD0.out (by omega))
        clear hr hg
        have hv0 := HX8.out.cell (i := 0) (v := .int .i64 k) rfl
        have hv1 := HX8.out.cell (i := 1) rfl
        cases b
        · obtain ⟨⟨ha0, ha1, ha2, ha3⟩, ⟨hb0, hb1⟩, HOUT⟩ := HD8.out.store2 (.int .i64 k) (.string s5)
          have HFIN := Lib.hid (deed_end (HM8.out.more (v := u + 50) (by omega)) HB0.out hlt (.int .i64 k) (.string s5))
          go_wp2_with fail
          refine bodyPost_ret_by (results_deed (b := w.heap.size + 1) rfl rfl HOUT) rfl ⟨k, s5, rfl, by omega, HFIN.out⟩
        · have hf1 := HX8.out.frozen 1
          have HX9 := Lib.hid (HX8.out.set 1 (.string (s5 ++ ⟨#[41]⟩)))
          have HM9 := Lib.hid (HM8.out.set (h := h) (i := 1) (v := .string (s5 ++ ⟨#[41]⟩)) hh hlt0)
          have HD9 := Lib.hid (HM9.out.box HD0.out (by omega))
          have hn : (s5 ++ ⟨#[41]⟩ : ByteArray).size ≤ 100 := by rw [ByteArray.size_append, one_size]; omega
          go_upto_region 11 with fail
          obtain ⟨X9, hX9⟩ : ∃ W, w8.setCell ⟨h, 1, none⟩ (.string (s5 ++ ⟨#[41]⟩)) = W := ⟨_, rfl⟩
          rw [hX9] at HX9 HM9 HD9 ⊢
          clear hX9 hv0 hv1 hf1
          have hv0 := HX9.out.cell (i := 0) (v := .int .i64 k) rfl
          have hv1 := HX9.out.cell (i := 1) rfl
          obtain ⟨⟨ha0, ha1, ha2, ha3⟩, ⟨hb0, hb1⟩, HOUT⟩ := HD9.out.store2 (.int .i64 k) (.string (s5 ++ ⟨#[41]⟩))
          have HFIN := Lib.hid (deed_end (HM9.out.more (v := u + 50) (by omega)) HB0.out hlt (.int .i64 k) (.string (s5 ++ ⟨#[41]⟩)))
          go_wp2_with fail
          refine bodyPost_ret_by (results_deed (b := w.heap.size + 1) rfl rfl HOUT) rfl ⟨k, _, rfl, hn, HFIN.out⟩
    · have hkb : (k == 0) = false := by rw [beq_eq_false_iff_ne]; exact h0
      have hkc : (k == 1) = false := by rw [beq_eq_false_iff_ne]; exact h1
      clear h0 h1 ht0
      go_wp2_with fail
      refine (odd_any g _ 40 _ (by omega) (by omega) (by omega) HM.out.rd).mono ?_
      rintro e w8 ⟨b, rfl, hr, hg⟩
      have HM8 := Lib.hid (HM.out.next hr hg)
      have HX8 := Lib.hid (HBX.out.grownO hg (fun j e => by cases e; omega))
      have HD8 := Lib.hid (HM8.out.box HD0.out (by omega))
      clear hr hg
      have hv0 := HX8.out.cell (i := 0) (v := .int .i64 k) rfl
      have hv1 := HX8.out.cell (i := 1) rfl
      cases b
      · obtain ⟨⟨ha0, ha1, ha2, ha3⟩, ⟨hb0, hb1⟩, HOUT⟩ := HD8.out.store2 (.int .i64 k) (.string ⟨#[]⟩)
        have HFIN := Lib.hid (deed_end (HM8.out.more (v := u + 50) (by omega)) HB0.out hlt (.int .i64 k) (.string ⟨#[]⟩))
        go_wp2_with fail
        refine bodyPost_ret_by (results_deed (b := w.heap.size + 1) rfl rfl HOUT) rfl ⟨k, ⟨#[]⟩, rfl, by rw [e0]; omega, HFIN.out⟩
      · have hf1 := HX8.out.frozen 1
        have HX9 := Lib.hid (HX8.out.set 1 (.string (⟨#[]⟩ ++ ⟨#[41]⟩)))
        have HM9 := Lib.hid (HM8.out.set (h := h) (i := 1) (v := .string (⟨#[]⟩ ++ ⟨#[41]⟩)) hh hlt0)
        have HD9 := Lib.hid (HM9.out.box HD0.out (by omega))
        have hn : (⟨#[]⟩ ++ ⟨#[41]⟩ : ByteArray).size ≤ 100 := by rw [ByteArray.size_append, one_size]; rw [e0]; omega
        go_upto_region 11 with fail
        obtain ⟨X9, hX9⟩ : ∃ W, w8.setCell ⟨h, 1, none⟩ (.string (⟨#[]⟩ ++ ⟨#[41]⟩)) = W := ⟨_, rfl⟩
        rw [hX9] at HX9 HM9 HD9 ⊢
        clear hX9 hv0 hv1 hf1
        have hv0 := HX9.out.cell (i := 0) (v := .int .i64 k) rfl
        have hv1 := HX9.out.cell (i := 1) rfl
        obtain ⟨⟨ha0, ha1, ha2, ha3⟩, ⟨hb0, hb1⟩, HOUT⟩ := HD9.out.store2 (.int .i64 k) (.string (⟨#[]⟩ ++ ⟨#[41]⟩))
        have HFIN := Lib.hid (deed_end (HM9.out.more (v := u + 50) (by omega)) HB0.out hlt (.int .i64 k) (.string (⟨#[]⟩ ++ ⟨#[41]⟩)))
        go_wp2_with fail
        refine bodyPost_ret_by (results_deed (b := w.heap.size + 1) rfl rfl HOUT) rfl ⟨k, _, rfl, hn, HFIN.out⟩
end Go.Proofs.YtmdogidflaplkaaGreat
