/-
  What the proofs of this seat's statements share (DrwT, TlkW).
-/
import Derived.Test.YtmdogidflaplkaaGreatU28
import Derived.Test.YtmdogidflaplkaaGreatU27
import Derived.Test.YtmdogidflaplkaaGreatU29
import Derived.Test.YtmdogidflaplkaaGreatU21
import Derived.Test.YtmdogidflaplkaaGreatU22
import Derived.Test.YtmdogidflaplkaaGreatU3

namespace Go.Proofs.YtmdogidflaplkaaGreat
open Go.RowKit

def TalkPost (n : Int) (g u : Nat) (w : World) (e : Ending) (w' : World) : Prop := ∃ (T : TalkV) (A : Option Addr) (nn c : Nat) (B : Option Addr) (m d : Nat), e = .returned (.agg #[.int .i64 T.things, .int .i64 T.now.known, .slice A nn c, .slice B m d]) ∧
  TkIn w' w.heap.size T A nn c B m d ∧ SmallT T ∧ (n = 0 → okT T = true) ∧ Rd w' g u ∧ w.grownBy w' (some g)
theorem keeps_grown {w w' : World} {g lo : Nat} (hg : w.grownBy w' (some g)) (h : g < lo) : Keeps lo w w' := ⟨hg.size, fun b h1 h2 => hg.block b h2 (by simp only [ne_eq, Option.some.injEq]; omega)⟩
theorem TkOwn.keep {w w' : World} {lo : Nat} {T : TalkV} {A B : Option Addr} {n c m d : Nat} (h : TkOwn w lo T A n c B m d) (hk : Keeps lo w w') : TkOwn w' lo T A n c B m d := ⟨h.1.keep hk, h.2.1.keep hk, h.2.2⟩
theorem TkOwn.base {w : World} {lo lo2 : Nat} {T : TalkV} {A B : Option Addr} {n c m d : Nat} (h : TkOwn w lo T A n c B m d) (hl : lo2 ≤ lo) : TkOwn w lo2 T A n c B m d := ⟨h.1.base hl, h.2.1.base hl, h.2.2.1, fun b hb => Nat.le_trans hl (h.2.2.2 b hb)⟩
theorem TkOwn.new {w : World} {lo : Nat} (t k : Int) : TkOwn w lo ⟨t, ⟨k, []⟩, []⟩ none 0 0 none 0 0 :=
  ⟨fun w' _ => ⟨rfl, Nat.le_refl _, Nat.zero_le _, Strs.nil _ _, rfl, Nat.le_refl _, Nat.zero_le _, StaRow.nil _ _⟩, OwnsS.nil _ _, (fun a b h => by cases h), fun b h => by cases h⟩
set_option maxRecDepth 100000 in
theorem odd_zero {g : Nat} {n : Int} (h : n = 0) (w : World) : Calls Tryz.prog 55 #[.pointer (some ⟨g, 0, none⟩), .int .i64 n] w fun e w' => e = .returned (.bool false) ∧ w = w' := by
  subst h
  go_enter Tryz.func55, Tryz.ntmps55
  go_wp2_with fail
  go_ret
  exact ⟨rfl, rfl⟩
def OddPost (n : Int) (g u : Nat) (w : World) (e : Ending) (w' : World) : Prop := ∃ b : Bool, e = .returned (.bool b) ∧ (n = 0 → b = false) ∧ Rd w' g u ∧ w.grownBy w' (some g)
theorem odd_both {g u : Nat} {n : Int} (w : World) (hn : n ≤ 1048576) (hn0 : 0 ≤ n) (hu : u ≤ 1048576) (hR : Rd w g u) : Calls Tryz.prog 55 #[.pointer (some ⟨g, 0, none⟩), .int .i64 n] w (OddPost n g (u + 1) w) := by
  by_cases h : n = 0
  · refine (odd_zero h w).mono ?_
    rintro e w' ⟨rfl, rfl⟩
    exact ⟨false, rfl, fun _ => rfl, hR.more (by omega), World.grownBy.refl _ _⟩
  · refine (odd_any g u n w hn hn0 hu hR).mono ?_
    rintro e w' ⟨b, rfl, hr, hg⟩
    exact ⟨b, rfl, fun e => absurd e h, hr, hg⟩
/-- The end: the talk goes into the variable of the results. -/
theorem talk_fin {g u lo : Nat} {w X : World} {T : TalkV} {A B : Option Addr} {n c m d : Nat} (hm : DM g u w X) (hg : g < w.heap.size) (hin : TkIn X lo T A n c B m d) (hlo : w.heap.size < lo) (a b r q : Value) :
    TkIn ((((X.setCell ⟨w.heap.size, 0, none⟩ a).setCell ⟨w.heap.size, 1, none⟩ b).setCell ⟨w.heap.size, 2, none⟩ r).setCell ⟨w.heap.size, 3, none⟩ q) w.heap.size T A n c B m d ∧
    Rd ((((X.setCell ⟨w.heap.size, 0, none⟩ a).setCell ⟨w.heap.size, 1, none⟩ b).setCell ⟨w.heap.size, 2, none⟩ r).setCell ⟨w.heap.size, 3, none⟩ q) g u ∧
    w.grownBy ((((X.setCell ⟨w.heap.size, 0, none⟩ a).setCell ⟨w.heap.size, 1, none⟩ b).setCell ⟨w.heap.size, 2, none⟩ r).setCell ⟨w.heap.size, 3, none⟩ q) (some g) := by
  have hset : ∀ (W : World) (i : Nat) (v : Value), Keeps lo W (W.setCell ⟨w.heap.size, i, none⟩ v) := fun W i v => Keeps.set hlo
  have hk := (((hset X 0 a).trans (hset _ 1 b) (Nat.le_refl _)).trans (hset _ 2 r) (Nat.le_refl _)).trans (hset _ 3 q) (Nat.le_refl _)
  have h4 := (((hm.set (h := w.heap.size) (i := 0) (v := a) (Nat.le_refl _) hg).set (h := w.heap.size) (i := 1) (v := b) (Nat.le_refl _) hg).set (h := w.heap.size) (i := 2) (v := r) (Nat.le_refl _) hg).set (h := w.heap.size) (i := 3) (v := q) (Nat.le_refl _) hg
  exact ⟨(hin.keep hk).base (by omega), h4.rd, h4.gr⟩
/-- A talk in a variable of block h, its memory behind h. -/
structure TV (w : World) (h : Nat) (T : TalkV) (A : Option Addr) (n c : Nat) (B : Option Addr) (m d : Nat) : Prop where
  box : Box w h 28 [.int .i64 T.things, .int .i64 T.now.known, .slice A n c, .slice B m d]
  own : TkOwn w (h + 1) T A n c B m d
theorem TV.below {w w' : World} {h : Nat} {T : TalkV} {A B : Option Addr} {n c m d : Nat} (hv : TV w h T A n c B m d) (hb : Below w.heap.size w w') : TV w' h T A n c B m d := ⟨hv.box.below hb, hv.own.keep (Keeps.of_below hb)⟩
theorem TV.grown {w w' : World} {h g : Nat} {T : TalkV} {A B : Option Addr} {n c m d : Nat} (hv : TV w h T A n c B m d) (hg : w.grownBy w' (some g)) (hlt : g < h) : TV w' h T A n c B m d :=
  ⟨hv.box.grownO hg (fun k e => by cases e; omega), hv.own.keep (keeps_grown hg (by omega))⟩
/-- Behind a deed: the talk of before and the talk behind. -/
def StepMid (g u h s : Nat) (w wr : World) (T : TalkV) (A : Option Addr) (n c : Nat) (B : Option Addr) (m d : Nat) (s7 s8 : Value) (wx : World) : Prop :=
  ∃ (b7 : Nat) (X : TalkV) (b : Bool) (A2 : Option Addr) (n2 c2 : Nat) (B2 : Option Addr) (m2 d2 : Nat), s7 = .pointer (some ⟨b7, 0, none⟩) ∧ s8 = .bool b ∧ okT X = true ∧ SmallT X ∧ wr.heap.size ≤ b7 ∧ Hid (Box wx b7 28 [.int .i64 X.things, .int .i64 X.now.known, .slice A2 n2 c2, .slice B2 m2 d2]) ∧
    Hid (TkOwn wx (h + 1) X A2 n2 c2 B2 m2 d2) ∧ Hid (TV wx h T A n c B m d) ∧ Hid (Box wx s 28 [.int .i64 0, .int .i64 0, .slice none 0 0, .slice none 0 0]) ∧ Hid (DM g u w wx)
theorem DM.fresh {g u : Nat} {W0 w w' : World} {row : Option Nat} (h : DM g u W0 w) (hg : w.grownBy w' row) (hr : ∀ k, row = some k → W0.heap.size ≤ k) (hlt : g < W0.heap.size) : DM g u W0 w' := by
  refine ⟨?_, grown_fresh h.gr hg hr⟩
  obtain ⟨A, c, zs, p, a1, a2, a3, a4, a5, a6⟩ := h.rd
  have hgl : g < w.heap.size := (Array.getElem?_eq_some_iff.1 a1).1
  refine ⟨A, c, zs, p, (hg.block g hgl (fun e => by have := hr g e.symm; omega)).trans a1, fun hp => a2.grown hg (fun ad ha e => by have := a6 ad hp ha; have := hr ad.block e.symm; omega) hp, a3, a4, a5, a6⟩
theorem step_fin {g u h s lo : Nat} {w wr w6 : World} {T X : TalkV} {A B A2 B2 : Option Addr} {n c m d n2 c2 m2 d2 : Nat} (hg : g < w.heap.size) (hwh : w.heap.size ≤ h) (hws : w.heap.size ≤ s) (hwr : w.heap.size ≤ wr.heap.size) (hm : DM g u w w6) (hG : wr.grownBy w6 (some g)) (hv : TV wr h T A n c B m d)
    (hS : Box wr s 28 [.int .i64 0, .int .i64 0, .slice none 0 0, .slice none 0 0]) (hx1 : okT X = true) (hx2 : SmallT X) (hown : TkOwn w6 lo X A2 n2 c2 B2 m2 d2) (hlo : h + 1 ≤ lo) (b : Bool) :
    StepMid g u h s w wr T A n c B m d (.pointer (some ⟨w6.heap.size, 0, none⟩)) (.bool b) (w6.alloc (.cells #[.int .i64 X.things, .int .i64 X.now.known, .slice A2 n2 c2, .slice B2 m2 d2] 28)) ∧
    ∀ b7, Box w6 b7 28 [.int .i64 0, .int .i64 0, .slice none 0 0, .slice none 0 0] → wr.heap.size ≤ b7 → b7 < lo → StepMid g u h s w wr T A n c B m d (.pointer (some ⟨b7, 0, none⟩)) (.bool b) ((((w6.setCell ⟨b7, 0, none⟩ (.int .i64 X.things)).setCell ⟨b7, 1, none⟩ (.int .i64 X.now.known)).setCell ⟨b7, 2, none⟩ (.slice A2 n2 c2)).setCell ⟨b7, 3, none⟩ (.slice B2 m2 d2)) := by
  refine ⟨⟨_, X, b, A2, n2, c2, B2, m2, d2, rfl, rfl, hx1, hx2, hG.size, Box.new w6 28 [.int .i64 X.things, .int .i64 X.now.known, .slice A2 n2 c2, .slice B2 m2 d2], (hown.base hlo).keep (keeps_alloc _), hv.grown (grown_alloc hG _) (by omega), hS.grownO (grown_alloc hG _) (fun j e => by cases e; omega), hm.alloc _⟩, fun b7 hb h1 h2 => ?_⟩
  have hset : ∀ (W : World) (i : Nat) (v : Value), Keeps lo W (W.setCell ⟨b7, i, none⟩ v) := fun W i v => Keeps.set h2
  have hk := (((hset w6 0 (.int .i64 X.things)).trans (hset _ 1 (.int .i64 X.now.known)) (Nat.le_refl _)).trans (hset _ 2 (.slice A2 n2 c2)) (Nat.le_refl _)).trans (hset _ 3 (.slice B2 m2 d2)) (Nat.le_refl _)
  have hG4 := grown_setF (b := b7) (i := 3) (v := .slice B2 m2 d2) (grown_setF (b := b7) (i := 2) (v := .slice A2 n2 c2) (grown_setF (b := b7) (i := 1) (v := .int .i64 X.now.known) (grown_setF (b := b7) (i := 0) (v := .int .i64 X.things) hG h1) h1) h1) h1
  exact ⟨b7, X, b, A2, n2, c2, B2, m2, d2, rfl, rfl, hx1, hx2, h1, (hb.store4 _ _ _ _).2.2.2.2, (hown.keep hk).base hlo, hv.grown hG4 (by omega), hS.grownO hG4 (fun j e => by cases e; omega), ((((hm.set (by omega) hg).set (by omega) hg).set (by omega) hg).set (by omega) hg)⟩
/-- A store of a whole talk into its variable. -/
theorem tv_put {g u h s : Nat} {w wx : World} {T X : TalkV} {A B A2 B2 : Option Addr} {n c m d n2 c2 m2 d2 : Nat} (hg : g < w.heap.size) (hwh : w.heap.size ≤ h) (hsh : s ≠ h) (hv : TV wx h T A n c B m d) (hown : TkOwn wx (h + 1) X A2 n2 c2 B2 m2 d2) (hS : Box wx s 28 [.int .i64 0, .int .i64 0, .slice none 0 0, .slice none 0 0]) (hm : DM g u w wx) :
    TV ((((wx.setCell ⟨h, 0, none⟩ (.int .i64 X.things)).setCell ⟨h, 1, none⟩ (.int .i64 X.now.known)).setCell ⟨h, 2, none⟩ (.slice A2 n2 c2)).setCell ⟨h, 3, none⟩ (.slice B2 m2 d2)) h X A2 n2 c2 B2 m2 d2 ∧
    Box ((((wx.setCell ⟨h, 0, none⟩ (.int .i64 X.things)).setCell ⟨h, 1, none⟩ (.int .i64 X.now.known)).setCell ⟨h, 2, none⟩ (.slice A2 n2 c2)).setCell ⟨h, 3, none⟩ (.slice B2 m2 d2)) s 28 [.int .i64 0, .int .i64 0, .slice none 0 0, .slice none 0 0] ∧
    DM g u w ((((wx.setCell ⟨h, 0, none⟩ (.int .i64 X.things)).setCell ⟨h, 1, none⟩ (.int .i64 X.now.known)).setCell ⟨h, 2, none⟩ (.slice A2 n2 c2)).setCell ⟨h, 3, none⟩ (.slice B2 m2 d2)) := by
  have hset : ∀ (W : World) (i : Nat) (v : Value), Keeps (h + 1) W (W.setCell ⟨h, i, none⟩ v) := fun W i v => Keeps.set (Nat.lt_succ_self _)
  have hk := (((hset wx 0 (.int .i64 X.things)).trans (hset _ 1 (.int .i64 X.now.known)) (Nat.le_refl _)).trans (hset _ 2 (.slice A2 n2 c2)) (Nat.le_refl _)).trans (hset _ 3 (.slice B2 m2 d2)) (Nat.le_refl _)
  exact ⟨⟨(hv.box.store4 _ _ _ _).2.2.2.2, hown.keep hk⟩, hS.other4 (fun e => hsh e.symm) _ _ _ _, ((((hm.set hwh hg).set hwh hg).set hwh hg).set hwh hg)⟩
/-- One cell of a talk's variable is stored. -/
theorem tv_set {g u h s i : Nat} {w wx : World} {v : Value} {X : TalkV} {A2 B2 : Option Addr} {n2 c2 m2 d2 : Nat} (hg : g < w.heap.size) (hwh : w.heap.size ≤ h) (hsh : s ≠ h) (hin : TkIn wx (h + 1) X A2 n2 c2 B2 m2 d2) (hS : Box wx s 28 [.int .i64 0, .int .i64 0, .slice none 0 0, .slice none 0 0]) (hm : DM g u w wx) :
    TkIn (wx.setCell ⟨h, i, none⟩ v) (h + 1) X A2 n2 c2 B2 m2 d2 ∧ Box (wx.setCell ⟨h, i, none⟩ v) s 28 [.int .i64 0, .int .i64 0, .slice none 0 0, .slice none 0 0] ∧ DM g u w (wx.setCell ⟨h, i, none⟩ v) :=
  ⟨hin.keep (Keeps.set (Nat.lt_succ_self _)), hS.other (fun e => hsh e.symm) _, hm.set hwh hg⟩
set_option maxRecDepth 100000 in
set_option maxHeartbeats 8000000 in
theorem talk_any (g u : Nat) (n : Int) (w : World) (hn : n ≤ 1048576) (hn0 : 0 ≤ n) (hu : u ≤ 700000) (hR : Rd w g u) :
    Calls Tryz.prog 33 #[.pointer (some ⟨g, 0, none⟩), .int .i64 n] w (TalkPost n g (u + 300) w) := by
  have hlt := hR.lt
  have HS : Hid (Box (w.alloc (.cells #[.int .i64 0, .int .i64 0, .slice none 0 0, .slice none 0 0] 28)) w.heap.size 28 [.int .i64 0, .int .i64 0, .slice none 0 0, .slice none 0 0]) := Box.new w _ [.int .i64 0, .int .i64 0, .slice none 0 0, .slice none 0 0]
  have HM : Hid (DM g u w (w.alloc (.cells #[.int .i64 0, .int .i64 0, .slice none 0 0, .slice none 0 0] 28))) := (DM.start hR).alloc _
  have HODD : Hid (∀ (W : World) (v : Nat), v ≤ 1048576 → Rd W g v → Calls Tryz.prog 55 #[.pointer (some ⟨g, 0, none⟩), .int .i64 n] W (OddPost n g (v + 1) W)) := fun W v hv h => odd_both W hn hn0 hv h
  clear hR
  go_enter Tryz.func33, Tryz.ntmps33
  go_upto_region 1 with fail
  obtain ⟨W0, hW0⟩ : ∃ W, w.alloc (.cells #[.int .i64 0, .int .i64 0, .slice none 0 0, .slice none 0 0] 28) = W := ⟨_, rfl⟩
  rw [hW0] at HS HM ⊢
  clear hW0
  have hs0 := HS.out.lt
  go_wp2_with fail
  refine (pick_any g u 5 _ (by omega) (by omega) (by omega) (HM.out.rd.alloc _)).mono ?_
  rintro e w1 ⟨k, rfl, hk0, hk1, hr, hg⟩
  have hk5 := hk1 (by omega)
  obtain ⟨x, hx, hcell⟩ := lit_cell [1, 2, 2, 2, 3] hg (by omega) hk0 (hk1 (by omega))
  have hx3 : 1 ≤ x ∧ x ≤ 3 := by simp only [List.mem_cons, List.not_mem_nil, or_false] at hx; omega
  have HM1 := Lib.hid ((HM.out.alloc (.cells #[.int .i64 1, .int .i64 2, .int .i64 2, .int .i64 2, .int .i64 3] 3)).next hr hg)
  have HS1 := Lib.hid ((HS.out.alloc (.cells #[.int .i64 1, .int .i64 2, .int .i64 2, .int .i64 2, .int .i64 3] 3)).grownO hg (fun j e => by cases e; omega))
  clear hr hg hk1 hx
  go_wp2_with fail
  refine (sTalkNew x _).mono ?_
  rintro e w2 ⟨rfl, hb⟩
  rw [show newN x = x by unfold newN; rw [if_pos hx3], show newK x = allOf x by unfold newK; rw [if_pos hx3]]
  have hok : okT ⟨x, ⟨allOf x, []⟩, []⟩ = true := by
    have := (new_ok hx3.1 hx3.2).1
    unfold newT at this
    rw [if_pos hx3] at this
    exact this
  obtain ⟨q, hq⟩ : ∃ q, allOf x = q := ⟨_, rfl⟩
  rw [hq] at hok ⊢
  obtain ⟨h, hh⟩ : ∃ h, w2.heap.size = h := ⟨_, rfl⟩
  have HV2 : Hid (TV (w2.alloc (.cells #[.int .i64 x, .int .i64 q, .slice none 0 0, .slice none 0 0] 28)) h ⟨x, ⟨q, []⟩, []⟩ none 0 0 none 0 0) := by
    rw [← hh]
    exact ⟨Box.new w2 _ [.int .i64 x, .int .i64 q, .slice none 0 0, .slice none 0 0], TkOwn.new x q⟩
  have HM2 := Lib.hid ((HM1.out.below hb).alloc (.cells #[.int .i64 x, .int .i64 q, .slice none 0 0, .slice none 0 0] 28))
  have HS2 := Lib.hid ((HS1.out.below hb).alloc (.cells #[.int .i64 x, .int .i64 q, .slice none 0 0, .slice none 0 0] 28))
  have hwh : w.heap.size < h := by rw [← hh]; exact (HS1.out.below hb).lt
  clear hb hcell hq HM1 HS1 HM HS hx3 hk0 hk5
  go_upto_region 2 with fail
  obtain ⟨X, hX⟩ : ∃ W, w2.alloc (.cells #[.int .i64 x, .int .i64 q, .slice none 0 0, .slice none 0 0] 28) = W := ⟨_, rfl⟩
  rw [hX] at HV2 HM2 HS2 ⊢
  try rw [hh]
  clear hX hh
  go_wp2_with fail
  refine (pick_any g _ 5 _ (by omega) (by omega) (by omega) HM2.out.rd).mono ?_
  rintro e w3 ⟨k0, rfl, hk0, hk1, hr, hg⟩
  have hk5 := hk1 (by omega)
  have HV3 := Lib.hid (HV2.out.grown hg (by omega))
  have HM3 := Lib.hid (HM2.out.next hr hg)
  have HS3 := Lib.hid (HS2.out.grownO hg (fun j e => by cases e; omega))
  obtain ⟨kk, rfl⟩ : ∃ kk : Nat, k0 = (kk : Int) := ⟨k0.toNat, by omega⟩
  clear hr hg hk1 HV2 HM2 HS2
  go_wp2_with fail
  go_loopw [6] (fun i wr => ∃ (k : Nat) (T : TalkV) (A : Option Addr) (n1 c1 : Nat) (B : Option Addr) (m1 d1 : Nat), k ≤ 4 ∧ i = .int .i64 k ∧ Hid (okT T = true ∧ SmallT T) ∧ Hid (TV wr h T A n1 c1 B m1 d1) ∧ Hid (Box wr w.heap.size 28 [.int .i64 0, .int .i64 0, .slice none 0 0, .slice none 0 0]) ∧ Hid (DM g (u + 2 + 51 * (4 - k)) w wr)) (fun i _ => (Go.RowKit.intOf i).toNat)
  case atStart => exact ⟨kk, _, _, _, _, _, _, _, by omega, rfl, ⟨hok, small_ok hok⟩, HV3, HS3, HM3.out.more (by omega)⟩
  case round =>
    obtain ⟨k, T, A, n1, c1, B, m1, d1, hk, rfl, HT, HV, HS, HM⟩ := hrel
    have hc0 := HV.out.box.cell (i := 0) (v := .int .i64 T.things) rfl
    have hc1 := HV.out.box.cell (i := 1) (v := .int .i64 T.now.known) rfl
    have hc2 := HV.out.box.cell (i := 2) (v := .slice A n1 c1) rfl
    have hc3 := HV.out.box.cell (i := 3) (v := .slice B m1 d1) rfl
    have hwr : w.heap.size ≤ wr.heap.size := HM.out.gr.size
    by_cases hpos : 0 < k
    · have hd : decide ((0 : Int) < (k : Int)) = true := decide_eq_true (by omega)
      obtain ⟨v, hv⟩ : ∃ v, u + 2 + 51 * (4 - k) = v := ⟨_, rfl⟩
      have hvb : v ≤ 701000 := by omega
      rw [hv] at HM
      have HVE : Hid (v + 51 = u + 2 + 51 * (4 - (k - 1))) := by unfold Hid; omega
      have HDEED : Hid (∀ W, Rd W g v → Calls Tryz.prog 34 #[.pointer (some ⟨g, 0, none⟩), .agg #[.int .i64 T.things, .int .i64 T.now.known, .slice A n1 c1, .slice B m1 d1]] W (DeedPost g (v + 50) W)) := fun W hW => deed_any g v _ _ _ _ A B n1 c1 m1 d1 rfl rfl W (by omega) hW
      have HDO : Hid (∀ (W : World) (kd : Int) (tx : ByteArray), TkAt W T A n1 c1 B m1 d1 → tx.size ≤ 100 → Calls Tryz.prog 9 #[.agg #[.int .i64 T.things, .int .i64 T.now.known, .slice A n1 c1, .slice B m1 d1], .agg #[.int .i64 kd, .string tx]] W (DoPost (doTo T kd tx).1 (doTo T kd tx).2 W)) := fun W kd tx hW hx => sTalkDo T A B n1 c1 m1 d1 kd tx W hW HT.out.2 (by omega)
      have hhr : h < wr.heap.size := HV.out.box.lt
      clear hv
      go_upto_region 5 with fail
      go_cut [7, 8] from 17 to 30 (fun s7 s8 wx => StepMid g (v + 50) h w.heap.size w wr T A n1 c1 B m1 d1 s7 s8 wx)
      case first =>
        go_region_held3 (fun w' => w'.cell? ⟨h, 0, none⟩ = some (.int .i64 T.things) ∧ w'.cell? ⟨h, 1, none⟩ = some (.int .i64 T.now.known) ∧ w'.cell? ⟨h, 2, none⟩ = some (.slice A n1 c1) ∧ w'.cell? ⟨h, 3, none⟩ = some (.slice B m1 d1))
          (first | exact HK3.out | exact HK2.out | exact HK1.out | exact ⟨hc0, hc1, hc2, hc3⟩ | go_keep)
          (first
            | (go_at_call 34; refine (HDEED.out _ ?_).mono ?_; (first | exact HM.out.rd.drewN 1 | exact (HM.out.rd.alloc _).drewN 1); rintro e w5 ⟨kd, tx, rfl, hsz, hr, hg⟩; have hG5 : wr.grownBy w5 (some g) := (by first | exact (grown_drewN (World.grownBy.refl wr (some g)) 1).trans hg | exact (grown_alloc (grown_drewN (World.grownBy.refl wr (some g)) 1) _).trans hg); (first | have HZ5 : Hid (Box w5 wr.heap.size 28 [.int .i64 0, .int .i64 0, .slice none 0 0, .slice none 0 0]) := (Box.new wr.drew 28 [.int .i64 0, .int .i64 0, .slice none 0 0, .slice none 0 0]).grownO hg (fun j e => by cases e; simp only [World.drew]; omega) | skip); have HM5 : Hid (DM g (v + 50) w w5) := ⟨hr, HM.out.gr.trans hG5⟩; have HV5 := Lib.hid (HV.out.grown hG5 (by omega)); have HG5 := Lib.hid hG5; have HK1 := Lib.hid (And.intro (HV5.out.box.cell (i := 0) (v := .int .i64 T.things) rfl) (And.intro (HV5.out.box.cell (i := 1) (v := .int .i64 T.now.known) rfl) (And.intro (HV5.out.box.cell (i := 2) (v := .slice A n1 c1) rfl) (HV5.out.box.cell (i := 3) (v := .slice B m1 d1) rfl)))); clear hr hg hG5)
            | (go_at_call 9; have HZQ := HZ5; refine (HDO.out w5 kd tx ?_ hsz).mono ?_; (exact HV5.out.own.1.at_); rintro e w6 ⟨A2, n2, c2, B2, m2, d2, rfl, hown, hb⟩; obtain ⟨hx1, _, hx3⟩ := doTo_ok kd tx HT.out.1; generalize doTo T kd tx = XB at hown hx1 hx3 ⊢; have hG6 : wr.grownBy w6 (some g) := grown_below HG5.out hb; have hM6 : DM g (v + 50) w w6 := HM5.out.below hb; have hs5 : wr.heap.size ≤ w5.heap.size := HG5.out.size; have hfin := step_fin hlt (by omega) (Nat.le_refl _) hwr hM6 hG6 HV.out HS.out hx1 hx3 hown (by omega) XB.2; have HV6 := Lib.hid (HV.out.grown hG6 (by omega)); have HK2 := Lib.hid (And.intro (HV6.out.box.cell (i := 0) (v := .int .i64 T.things) rfl) (And.intro (HV6.out.box.cell (i := 1) (v := .int .i64 T.now.known) rfl) (And.intro (HV6.out.box.cell (i := 2) (v := .slice A n1 c1) rfl) (HV6.out.box.cell (i := 3) (v := .slice B m1 d1) rfl)))); have hz6 := HZQ.out.below hb; have HFIN := Lib.hid (hfin.2 _ hz6 (Nat.le_refl _) (by have := HZQ.out.lt; omega)); obtain ⟨⟨ha0, ha1, ha2, ha3, ha4, ha5, ha6, ha7⟩, ⟨hb2, hb3⟩, ⟨hb4, hb5⟩, ⟨hb6, hb7⟩, _⟩ := hz6.store4 (.int .i64 XB.1.things) (.int .i64 XB.1.now.known) (.slice A2 n2 c2) (.slice B2 m2 d2); have hv7 := HV6.out.box.other4 (g := wr.heap.size) (by omega) (.int .i64 XB.1.things) (.int .i64 XB.1.now.known) (.slice A2 n2 c2) (.slice B2 m2 d2); have HK3 := Lib.hid (And.intro (hv7.cell (i := 0) (v := .int .i64 T.things) rfl) (And.intro (hv7.cell (i := 1) (v := .int .i64 T.now.known) rfl) (And.intro (hv7.cell (i := 2) (v := .slice A n1 c1) rfl) (hv7.cell (i := 3) (v := .slice B m1 d1) rfl)))); clear hown hb hx1 hx3 hG6 hM6 hfin hz6 hv7)
            | (go_at_call 9; refine (HDO.out (w5.alloc (.cells #[.int .i64 0, .int .i64 0, .slice none 0 0, .slice none 0 0] 28)) kd tx ?_ hsz).mono ?_; (exact (HV5.out.own.1.keep (keeps_alloc _)).at_); rintro e w6 ⟨A2, n2, c2, B2, m2, d2, rfl, hown, hb⟩; obtain ⟨hx1, _, hx3⟩ := doTo_ok kd tx HT.out.1; generalize doTo T kd tx = XB at hown hx1 hx3 ⊢; have hG6 : wr.grownBy w6 (some g) := grown_below (grown_alloc HG5.out _) hb; have hM6 : DM g (v + 50) w w6 := (HM5.out.alloc _).below hb; have hs5 : wr.heap.size ≤ w5.heap.size := HG5.out.size; have hfin := step_fin hlt (by omega) (Nat.le_refl _) hwr hM6 hG6 HV.out HS.out hx1 hx3 hown (by rw [World.size_alloc]; omega) XB.2; have HV6 := Lib.hid (HV.out.grown hG6 (by omega)); have HK2 := Lib.hid (And.intro (HV6.out.box.cell (i := 0) (v := .int .i64 T.things) rfl) (And.intro (HV6.out.box.cell (i := 1) (v := .int .i64 T.now.known) rfl) (And.intro (HV6.out.box.cell (i := 2) (v := .slice A n1 c1) rfl) (HV6.out.box.cell (i := 3) (v := .slice B m1 d1) rfl)))); have hz6 := (Box.new w5 28 [.int .i64 0, .int .i64 0, .slice none 0 0, .slice none 0 0]).below hb; have HFIN := Lib.hid (hfin.2 _ hz6 hs5 (by rw [World.size_alloc]; omega)); obtain ⟨⟨ha0, ha1, ha2, ha3, ha4, ha5, ha6, ha7⟩, ⟨hb2, hb3⟩, ⟨hb4, hb5⟩, ⟨hb6, hb7⟩, _⟩ := hz6.store4 (.int .i64 XB.1.things) (.int .i64 XB.1.now.known) (.slice A2 n2 c2) (.slice B2 m2 d2); have hv7 := HV6.out.box.other4 (g := w5.heap.size) (by omega) (.int .i64 XB.1.things) (.int .i64 XB.1.now.known) (.slice A2 n2 c2) (.slice B2 m2 d2); have HK3 := Lib.hid (And.intro (hv7.cell (i := 0) (v := .int .i64 T.things) rfl) (And.intro (hv7.cell (i := 1) (v := .int .i64 T.now.known) rfl) (And.intro (hv7.cell (i := 2) (v := .slice A n1 c1) rfl) (hv7.cell (i := 3) (v := .slice B m1 d1) rfl)))); clear hown hb hx1 hx3 hG6 hM6 hfin hz6 hv7)
            | (go_at_call 9; refine (HDO.out w5 kd tx ?_ hsz).mono ?_; (exact HV5.out.own.1.at_); rintro e w6 ⟨A2, n2, c2, B2, m2, d2, rfl, hown, hb⟩; obtain ⟨hx1, _, hx3⟩ := doTo_ok kd tx HT.out.1; generalize doTo T kd tx = XB at hown hx1 hx3 ⊢; have hG6 : wr.grownBy w6 (some g) := grown_below HG5.out hb; have hM6 : DM g (v + 50) w w6 := HM5.out.below hb; have hs5 : wr.heap.size ≤ w5.heap.size := HG5.out.size; have hfin := step_fin hlt (by omega) (Nat.le_refl _) hwr hM6 hG6 HV.out HS.out hx1 hx3 hown (by omega) XB.2; have HV6 := Lib.hid (HV.out.grown hG6 (by omega)); have HK2 := Lib.hid (And.intro (HV6.out.box.cell (i := 0) (v := .int .i64 T.things) rfl) (And.intro (HV6.out.box.cell (i := 1) (v := .int .i64 T.now.known) rfl) (And.intro (HV6.out.box.cell (i := 2) (v := .slice A n1 c1) rfl) (HV6.out.box.cell (i := 3) (v := .slice B m1 d1) rfl)))); have hv7 := HV6.out.box.alloc (.cells #[.int .i64 XB.1.things, .int .i64 XB.1.now.known, .slice A2 n2 c2, .slice B2 m2 d2] 28); have HK3 := Lib.hid (And.intro (hv7.cell (i := 0) (v := .int .i64 T.things) rfl) (And.intro (hv7.cell (i := 1) (v := .int .i64 T.now.known) rfl) (And.intro (hv7.cell (i := 2) (v := .slice A n1 c1) rfl) (hv7.cell (i := 3) (v := .slice B m1 d1) rfl)))); have HFIN := Lib.hid hfin.1; clear hv7 hown hb hx1 hx3 hG6 hM6 hfin))
        all_goals
          go_wp2_with fail
          go_meet
          exact HFIN.out
      case rest =>
        obtain ⟨b7, X, b, A2, n2, c2, B2, m2, d2, rfl, rfl, hok, hsm, hb7, HB7, HX, HV2, HS2, HM2⟩ := hcut
        clear hc0 hc1 hc2 hc3 HDEED HDO
        cases b
        · go_wp2_with fail
          go_roundw
          case rel => exact ⟨k - 1, T, A, n1, c1, B, m1, d1, by omega, by go_num, HT, HV2, HS2, HM2.out.more (by have := HVE.out; omega)⟩
          case measure => simp [Go.RowKit.intOf]; omega
        · have hz0 := HB7.out.cell (i := 0) (v := .int .i64 X.things) rfl
          have hz1 := HB7.out.cell (i := 1) (v := .int .i64 X.now.known) rfl
          have hz2 := HB7.out.cell (i := 2) (v := .slice A2 n2 c2) rfl
          have hz3 := HB7.out.cell (i := 3) (v := .slice B2 m2 d2) rfl
          obtain ⟨⟨ha0, ha1, ha2, ha3, ha4, ha5, ha6, ha7⟩, ⟨hb2, hb3⟩, ⟨hb4, hb5⟩, ⟨hb6, hb7⟩, _⟩ := HV2.out.box.store4 (.int .i64 X.things) (.int .i64 X.now.known) (.slice A2 n2 c2) (.slice B2 m2 d2)
          obtain ⟨hv, hs, hm⟩ := tv_put hlt (by omega) (by omega) HV2.out HX.out HS2.out HM2.out
          have HV3 := Lib.hid hv
          have HS3 := Lib.hid hs
          have HM3 := Lib.hid hm
          clear hv hs hm
          go_wp2_with fail
          go_roundw
          case rel => exact ⟨k - 1, X, A2, n2, c2, B2, m2, d2, by omega, by go_num, ⟨hok, hsm⟩, HV3, HS3, HM3.out.more (by have := HVE.out; omega)⟩
          case measure => simp [Go.RowKit.intOf]; omega
    · obtain rfl : k = 0 := by omega
      clear hpos
      go_wp2_with fail
      refine (HODD.out _ _ (by omega) HM.out.rd).mono ?_
      rintro e w4 ⟨b, rfl, hbn, hr, hg⟩
      have HV4 := Lib.hid (HV.out.grown hg (by omega))
      have HM4 := Lib.hid (HM.out.next hr hg)
      have HS4 := Lib.hid (HS.out.grownO hg (fun j e => by cases e; omega))
      clear hr hg hc0 hc1 hc2 hc3 HODD
      cases b
      · have hc0 := HV4.out.box.cell (i := 0) (v := .int .i64 T.things) rfl
        have hc1 := HV4.out.box.cell (i := 1) (v := .int .i64 T.now.known) rfl
        have hc2 := HV4.out.box.cell (i := 2) (v := .slice A n1 c1) rfl
        have hc3 := HV4.out.box.cell (i := 3) (v := .slice B m1 d1) rfl
        obtain ⟨⟨ha0, ha1, ha2, ha3, ha4, ha5, ha6, ha7⟩, ⟨hb2, hb3⟩, ⟨hb4, hb5⟩, ⟨hb6, hb7⟩, HOUT⟩ := HS4.out.store4 (.int .i64 T.things) (.int .i64 T.now.known) (.slice A n1 c1) (.slice B m1 d1)
        have HFIN := Lib.hid (talk_fin (HM4.out.more (v := u + 300) (by omega)) hlt HV4.out.own.1 (by omega) (.int .i64 T.things) (.int .i64 T.now.known) (.slice A n1 c1) (.slice B m1 d1))
        go_wp2_with fail
        refine bodyPost_ret_by (results_talk (b := w.heap.size) rfl rfl HOUT) rfl ⟨T, A, n1, c1, B, m1, d1, rfl, HFIN.out.1, HT.out.2, (fun _ => HT.out.1), HFIN.out.2⟩
      · have HN : Hid (n ≠ 0) := fun e => by have := hbn e; cases this
        clear hbn
        go_wp2_with fail
        refine (pick_any g _ 3 _ (by omega) (by omega) (by omega) HM4.out.rd).mono ?_
        rintro e w5 ⟨k3, rfl, hk30, hk31, hr, hg⟩
        have HV5 := Lib.hid (HV4.out.grown hg (by omega))
        have HM5 := Lib.hid (HM4.out.next hr hg)
        have HS5 := Lib.hid (HS4.out.grownO hg (fun j e => by cases e; omega))
        clear hr hg hk31
        have hc0 := HV5.out.box.cell (i := 0) (v := .int .i64 T.things) rfl
        have hc1 := HV5.out.box.cell (i := 1) (v := .int .i64 T.now.known) rfl
        have hc2 := HV5.out.box.cell (i := 2) (v := .slice A n1 c1) rfl
        have hc3 := HV5.out.box.cell (i := 3) (v := .slice B m1 d1) rfl
        have hf0 := HV5.out.box.frozen 0
        have hf1 := HV5.out.box.frozen 1
        have hf2 := HV5.out.box.frozen 2
        by_cases h30 : k3 = 0
        · have hkb : (k3 == 0) = true := by rw [h30]; rfl
          clear h30
          obtain ⟨hi, hs, hm⟩ := tv_set (i := 0) (v := .int .i64 4) hlt (by omega) (by omega) HV5.out.own.1 HS5.out HM5.out
          have HI6 := Lib.hid hi
          have HS6 := Lib.hid hs
          have HM6 := Lib.hid hm
          have HX6 := Lib.hid (HV5.out.box.set 0 (.int .i64 4))
          clear hi hs hm
          go_upto_region 15 with fail
          obtain ⟨X6, hX6⟩ : ∃ W, w5.setCell ⟨h, 0, none⟩ (.int .i64 4) = W := ⟨_, rfl⟩
          rw [hX6] at HI6 HS6 HM6 HX6 ⊢
          clear hX6 hc0 hc1 hc2 hc3 hf0 hf1 hf2
          have hc0 := HX6.out.cell (i := 0) rfl
          have hc1 := HX6.out.cell (i := 1) rfl
          have hc2 := HX6.out.cell (i := 2) rfl
          have hc3 := HX6.out.cell (i := 3) rfl
          obtain ⟨⟨ha0, ha1, ha2, ha3, ha4, ha5, ha6, ha7⟩, ⟨hb2, hb3⟩, ⟨hb4, hb5⟩, ⟨hb6, hb7⟩, HOUT⟩ := HS6.out.store4 (.int .i64 4) (.int .i64 T.now.known) (.slice A n1 c1) (.slice B m1 d1)
          have HFIN := Lib.hid (talk_fin (HM6.out.more (v := u + 300) (by omega)) hlt (HI6.out.same 4 T.now.known) (by omega) (.int .i64 4) (.int .i64 T.now.known) (.slice A n1 c1) (.slice B m1 d1))
          go_wp2_with fail
          refine bodyPost_ret_by (results_talk (b := w.heap.size) rfl rfl HOUT) rfl ⟨⟨4, ⟨T.now.known, T.now.op⟩, T.past⟩, A, n1, c1, B, m1, d1, rfl, HFIN.out.1, (HT.out.2.same 4 T.now.known), (fun e => absurd e HN.out), HFIN.out.2⟩
        by_cases h31 : k3 = 1
        · have hkb : (k3 == 0) = false := by rw [beq_eq_false_iff_ne]; exact h30
          have hkc : (k3 == 1) = true := by rw [h31]; rfl
          clear h30 h31
          obtain ⟨hi, hs, hm⟩ := tv_set (i := 1) (v := .int .i64 0) hlt (by omega) (by omega) HV5.out.own.1 HS5.out HM5.out
          have HI6 := Lib.hid hi
          have HS6 := Lib.hid hs
          have HM6 := Lib.hid hm
          have HX6 := Lib.hid (HV5.out.box.set 1 (.int .i64 0))
          clear hi hs hm
          go_upto_region 15 with fail
          obtain ⟨X6, hX6⟩ : ∃ W, w5.setCell ⟨h, 1, none⟩ (.int .i64 0) = W := ⟨_, rfl⟩
          rw [hX6] at HI6 HS6 HM6 HX6 ⊢
          clear hX6 hc0 hc1 hc2 hc3 hf0 hf1 hf2
          have hc0 := HX6.out.cell (i := 0) rfl
          have hc1 := HX6.out.cell (i := 1) rfl
          have hc2 := HX6.out.cell (i := 2) rfl
          have hc3 := HX6.out.cell (i := 3) rfl
          obtain ⟨⟨ha0, ha1, ha2, ha3, ha4, ha5, ha6, ha7⟩, ⟨hb2, hb3⟩, ⟨hb4, hb5⟩, ⟨hb6, hb7⟩, HOUT⟩ := HS6.out.store4 (.int .i64 T.things) (.int .i64 0) (.slice A n1 c1) (.slice B m1 d1)
          have HFIN := Lib.hid (talk_fin (HM6.out.more (v := u + 300) (by omega)) hlt (HI6.out.same T.things 0) (by omega) (.int .i64 T.things) (.int .i64 0) (.slice A n1 c1) (.slice B m1 d1))
          go_wp2_with fail
          refine bodyPost_ret_by (results_talk (b := w.heap.size) rfl rfl HOUT) rfl ⟨⟨T.things, ⟨0, T.now.op⟩, T.past⟩, A, n1, c1, B, m1, d1, rfl, HFIN.out.1, (HT.out.2.same T.things 0), (fun e => absurd e HN.out), HFIN.out.2⟩
        · have hkb : (k3 == 0) = false := by rw [beq_eq_false_iff_ne]; exact h30
          have hkc : (k3 == 1) = false := by rw [beq_eq_false_iff_ne]; exact h31
          have hol : T.now.op.length ≤ 4 := (small_state ((talk_parts asksT).1 HT.out.1).1).1
          have HSZ : Hid (h + 1 ≤ w5.heap.size) := HV5.out.box.lt
          have HOL : Hid (T.now.op.length ≤ 1048576) := by unfold Hid; omega
          clear h30 h31 hc0 hc1 hc3 hf0 hf1 hf2
          go_upto_region 15 with (at_builtin; refine wpL_appQ (W := w5) rfl _ _ rfl (h + 1) (.slice A n1 c1) T.now.op ⟨#[40, 97]⟩ rfl HV5.out.own.2.1 rfl HOL.out HSZ.out ?_; intro v1 w6 ho hg hcell; obtain ⟨A3, c3, rfl, _⟩ := ho.form; obtain ⟨past, hi6, hs6⟩ := tk_app HV5.out.own HT.out.2 (by decide) (by omega) ho hg hcell; have hb6 := (HV5.out.box.alloc _).grownO hg (fun j e => by have := (HV5.out.own.2.1.lt e).1; omega); have HS6 := Lib.hid ((HS5.out.alloc _).grownO hg (fun j e => by have := (HV5.out.own.2.1.lt e).1; omega)); have HM6 := Lib.hid ((HM5.out.alloc _).fresh hg (fun j e => by have := (HV5.out.own.2.1.lt e).1; omega) hlt); obtain ⟨n3, hn3⟩ : ∃ n3, (T.now.op ++ [(⟨#[40, 97]⟩ : ByteArray)]).length = n3 := ⟨_, rfl⟩; rw [hn3] at hi6 ⊢; have hd2 := hb6.cell (i := 2) (v := .slice A n1 c1) rfl; have hf2 := hb6.frozen 2; have HX6 := Lib.hid (hb6.set 2 (.slice A3 n3 c3)); have HI6 := Lib.hid hi6; have HSM := Lib.hid hs6; clear ho hg hcell hn3 hi6 hs6 hb6)
          obtain ⟨hi, hs, hm⟩ := tv_set (i := 2) (v := .slice A3 n3 c3) hlt (by omega) (by omega) HI6.out HS6.out HM6.out
          have HI7 := Lib.hid hi
          have HS7 := Lib.hid hs
          have HM7 := Lib.hid hm
          obtain ⟨X7, hX7⟩ : ∃ W, w6.setCell ⟨h, 2, none⟩ (.slice A3 n3 c3) = W := ⟨_, rfl⟩
          rw [hX7] at HI7 HS7 HM7 HX6 ⊢
          clear hi hs hm hX7 hd2 hf2 hc2
          have hc0 := HX6.out.cell (i := 0) rfl
          have hc1 := HX6.out.cell (i := 1) rfl
          have hc2 := HX6.out.cell (i := 2) rfl
          have hc3 := HX6.out.cell (i := 3) rfl
          obtain ⟨⟨ha0, ha1, ha2, ha3, ha4, ha5, ha6, ha7⟩, ⟨hb2, hb3⟩, ⟨hb4, hb5⟩, ⟨hb6, hb7⟩, HOUT⟩ := HS7.out.store4 (.int .i64 T.things) (.int .i64 T.now.known) (.slice A3 n3 c3) (.slice B m1 d1)
          have HFIN := Lib.hid (talk_fin (HM7.out.more (v := u + 300) (by omega)) hlt HI7.out (by omega) (.int .i64 T.things) (.int .i64 T.now.known) (.slice A3 n3 c3) (.slice B m1 d1))
          go_wp2_with fail
          refine bodyPost_ret_by (results_talk (b := w.heap.size) rfl rfl HOUT) rfl ⟨⟨T.things, ⟨T.now.known, T.now.op ++ [(⟨#[40, 97]⟩ : ByteArray)]⟩, past⟩, A3, n3, c3, B, m1, d1, rfl, HFIN.out.1, HSM.out, (fun e => absurd e HN.out), HFIN.out.2⟩
end Go.Proofs.YtmdogidflaplkaaGreat

namespace Go.Proofs.YtmdogidflaplkaaGreat
open Go.RowKit

theorem keeps_set4 {w : World} {b lo : Nat} (h : b < lo) (a b' c d : Value) : Keeps lo w ((((w.setCell ⟨b, 0, none⟩ a).setCell ⟨b, 1, none⟩ b').setCell ⟨b, 2, none⟩ c).setCell ⟨b, 3, none⟩ d) := by
  have hset : ∀ (W : World) (i : Nat) (v : Value), Keeps lo W (W.setCell ⟨b, i, none⟩ v) := fun W i v => Keeps.set h
  exact (((hset w 0 a).trans (hset _ 1 b') (Nat.le_refl _)).trans (hset _ 2 c) (Nat.le_refl _)).trans (hset _ 3 d) (Nat.le_refl _)
end Go.Proofs.YtmdogidflaplkaaGreat
