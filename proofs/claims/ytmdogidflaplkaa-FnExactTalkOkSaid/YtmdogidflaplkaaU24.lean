/-
  What the proofs of this seat's statements share (TlkX, FrmT).
-/
import Derived.Deep.SlicePairs
import Derived.Deep.Strs
import Derived.Test.YtmdogidflaplkaaU23
import Derived.Test.YtmdogidflaplkaaU22
import Derived.Test.YtmdogidflaplkaaU20
import Derived.Test.YtmdogidflaplkaaU21

namespace Go.Proofs.Ytmdogidflaplkaa
open Go.RowKit

/-- A talk of the law's own, all its slices apart: the questions ahead of mid, the row of the states of before at mid, their questions behind it. -/
def OwnT (w : World) (lo : Nat) (T : TalkV) (o p : Value) (vs : List (Int × Value)) (mid : Nat) : Prop :=
  OwnsS w lo o T.now.op ∧ (∀ k, o.ownBlock = some k → k < mid) ∧ OwnsX 25 w mid p vs T.past ∧ SeenTo w (mid + 1) vs T.past ∧ p.ownBlock = some mid ∧ lo ≤ mid
theorem SeenTo.keep {w w' : World} {base : Nat} {vs : List (Int × Value)} {xs : List (St ByteArray)} (h : SeenTo w base vs xs) (hk : Keeps base w w') : SeenTo w' base vs xs :=
  ⟨fun i x h1 h2 => by obtain ⟨v, h3, h4⟩ := h.1 i x h1 h2; exact ⟨v, h3, h4.keep hk⟩, h.2⟩
theorem Keeps.base {lo lo2 : Nat} {w w' : World} (h : Keeps lo w w') (hl : lo ≤ lo2) : Keeps lo2 w w' := ⟨h.1, fun b h1 h2 => h.2 b (by omega) h2⟩
theorem OwnT.keep {w w' : World} {lo : Nat} {T : TalkV} {o p : Value} {vs : List (Int × Value)} {mid : Nat} (h : OwnT w lo T o p vs mid) (hk : Keeps lo w w') : OwnT w' lo T o p vs mid := by
  obtain ⟨h1, h2, h3, h4, h5, h6⟩ := h
  exact ⟨h1.keep hk, h2, h3.keep (hk.base h6), h4.keep (hk.base (by omega)), h5, h6⟩
theorem OwnT.in_ {w : World} {lo : Nat} {T : TalkV} {o p : Value} {vs : List (Int × Value)} {mid : Nat} (h : OwnT w lo T o p vs mid) :
    ∃ A c B d, o = .slice A T.now.op.length c ∧ p = .slice B T.past.length d ∧ TkIn w lo T A T.now.op.length c B T.past.length d := tk_of_owns h.1 (h.2.2.1.base h.2.2.2.2.2)
set_option maxRecDepth 100000 in
set_option maxHeartbeats 4000000 in
theorem lToTalk (T : TalkV) (A B : Option Addr) (n c m d : Nat) (w : World) (hT : TkAt w T A n c B m d) (hs : SmallT T) :
    Calls Try.prog 17 #[.agg #[.int .i64 T.things, .int .i64 T.now.known, .slice A n c, .slice B m d]] w fun e w' => ∃ o p vs mid, e = .returned (.agg #[.int .i64 T.things, .int .i64 T.now.known, o, p]) ∧ OwnT w' w.heap.size T o p vs mid ∧ Below w.heap.size w w' := by
  obtain ⟨t, ht⟩ : ∃ t, T.things = t := ⟨_, rfl⟩
  obtain ⟨k, hk⟩ : ∃ k, T.now.known = k := ⟨_, rfl⟩
  rw [ht, hk]
  obtain ⟨W0, hW0⟩ : ∃ W, ((w.alloc (.cells #[.int .i64 t, .int .i64 k, .slice A n c, .slice B m d] 40)).alloc (.cells #[.int .i64 0, .int .i64 0, .slice none 0 0, .slice none 0 0] 28)).alloc (.cells #[.int .i64 t, .int .i64 0, .slice none 0 0, .slice none 0 0] 28) = W := ⟨_, rfl⟩
  have HARG : Hid (Box W0 w.heap.size 40 [.int .i64 t, .int .i64 k, .slice A n c, .slice B m d]) := by
    rw [← hW0]
    exact ((Box.new w 40 [.int .i64 t, .int .i64 k, .slice A n c, .slice B m d]).alloc _).alloc _
  have HRES : Hid (Box W0 (w.heap.size + 1) 28 [.int .i64 0, .int .i64 0, .slice none 0 0, .slice none 0 0]) := by
    have := Box.new (w.alloc (.cells #[.int .i64 t, .int .i64 k, .slice A n c, .slice B m d] 40)) 28 [.int .i64 0, .int .i64 0, .slice none 0 0, .slice none 0 0]
    rw [World.size_alloc] at this
    rw [← hW0]
    exact this.alloc _
  have HOUT : Hid (Box W0 (w.heap.size + 1 + 1) 28 [.int .i64 t, .int .i64 0, .slice none 0 0, .slice none 0 0]) := by
    have := Box.new ((w.alloc (.cells #[.int .i64 t, .int .i64 k, .slice A n c, .slice B m d] 40)).alloc (.cells #[.int .i64 0, .int .i64 0, .slice none 0 0, .slice none 0 0] 28)) 28 [.int .i64 t, .int .i64 0, .slice none 0 0, .slice none 0 0]
    rw [World.size_alloc, World.size_alloc] at this
    rw [← hW0]
    exact this
  have hb0 : Below w.heap.size w W0 := by
    rw [← hW0]
    exact (((Below.refl _ _).alloc (Nat.le_refl _) _).alloc (by rw [World.size_alloc]; omega) _).alloc (by rw [World.size_alloc, World.size_alloc]; omega) _
  have HB := Lib.hid hb0
  have hlt0 : w.heap.size + 1 + 1 < W0.heap.size := HOUT.out.lt
  have HC := Lib.hid (lToState k A n c T.now.op W0 hT.hn (by rw [hT.hn]; exact hs.op) (hT.hA.below hb0))
  have HC2 : Hid (∀ W : World, Below w.heap.size w W → Calls Try.prog 34 #[.slice B m d] W fun e w' => ∃ v vs, e = .returned v ∧ OwnsX 25 w' W.heap.size v vs T.past ∧ SeenTo w' (W.heap.size + 1) vs T.past ∧ v.ownBlock = some W.heap.size ∧ Below W.heap.size W w') :=
    fun W h => lToStateS B m d T.past W hT.pn (by rw [hT.pn]; exact hs.past) (hT.hB.below h) fun x hx => (hs.ops x hx).1
  have hx1 := HARG.out.cell (i := 1) (v := .int .i64 k) rfl
  have hx2 := HARG.out.cell (i := 2) (v := .slice A n c) rfl
  clear hT hs hb0 ht hk
  go_enter Try.func17, Try.ntmps17
  go_wp2_with fail
  clear hW0 hx1 hx2
  refine HC.out.mono ?_
  rintro e w1 ⟨o, rfl, ho, hb⟩
  have HARG1 := Lib.hid (HARG.out.below hb)
  have HRES1 := Lib.hid (HRES.out.below hb)
  have HOUT1 := Lib.hid (HOUT.out.below hb)
  have HO1 := Lib.hid ho
  have HB1 := Lib.hid (bel_trans HB.out hb)
  have hs01 : W0.heap.size ≤ w1.heap.size := hb.size
  obtain ⟨A1, c1, rfl, _, _, _, _⟩ := ho.form
  clear ho hb HC HRES HOUT HARG HB
  have hc1 := HOUT1.out.cell (i := 1) (v := .int .i64 0) rfl
  have hf1 := HOUT1.out.frozen 1
  have hc2 := (HOUT1.out.set 1 (.int .i64 k)).cell (i := 2) (v := .slice none 0 0) rfl
  have hf2 := (HOUT1.out.set 1 (.int .i64 k)).frozen 2
  have HOUT2 := Lib.hid ((HOUT1.out.set 1 (.int .i64 k)).set 2 (.slice A1 T.now.op.length c1))
  have HARG2 := Lib.hid ((HARG1.out.other (a := w.heap.size + 1 + 1) (i := 1) (by omega) (.int .i64 k)).other (a := w.heap.size + 1 + 1) (i := 2) (by omega) (.slice A1 T.now.op.length c1))
  have HRES2 := Lib.hid ((HRES1.out.other (a := w.heap.size + 1 + 1) (i := 1) (by omega) (.int .i64 k)).other (a := w.heap.size + 1 + 1) (i := 2) (by omega) (.slice A1 T.now.op.length c1))
  have HO2 := Lib.hid ((HO1.out.setBox (i := 1) (u := .int .i64 k) HOUT1.out (by decide)).setBox (i := 2) (u := .slice A1 T.now.op.length c1) (HOUT1.out.set 1 _) (by decide))
  have HB2 := Lib.hid ((HB1.out.setCell (p := ⟨w.heap.size + 1 + 1, 1, none⟩) (by show w.heap.size ≤ w.heap.size + 1 + 1; omega) (.int .i64 k)).setCell (p := ⟨w.heap.size + 1 + 1, 2, none⟩) (by show w.heap.size ≤ w.heap.size + 1 + 1; omega) (.slice A1 T.now.op.length c1))
  have hs12 : w1.heap.size ≤ ((w1.setCell ⟨w.heap.size + 1 + 1, 1, none⟩ (.int .i64 k)).setCell ⟨w.heap.size + 1 + 1, 2, none⟩ (.slice A1 T.now.op.length c1)).heap.size := by simp [World.setCell]
  have hc3 := HARG2.out.cell (i := 3) (v := .slice B m d) rfl
  have HC3 := Lib.hid (HC2.out _ HB2.out)
  obtain ⟨W2, hW2⟩ : ∃ W, ((w1.setCell ⟨w.heap.size + 1 + 1, 1, none⟩ (.int .i64 k)).setCell ⟨w.heap.size + 1 + 1, 2, none⟩ (.slice A1 T.now.op.length c1)) = W := ⟨_, rfl⟩
  rw [hW2] at HOUT2 HARG2 HRES2 HO2 HB2 hs12 hc3 HC3
  go_wp2_with fail
  clear hW2 hc1 hf1 hc2 hf2
  refine HC3.out.mono ?_
  rintro e w3 ⟨p, vs, rfl, hp, hsn, hown, hb⟩
  have HOUT3 := Lib.hid (HOUT2.out.below hb)
  have HRES3 := Lib.hid (HRES2.out.below hb)
  have HO3 := Lib.hid (HO2.out.below hb)
  have HB3 := Lib.hid (bel_trans HB2.out hb)
  obtain ⟨B1, d1, rfl, _, _, _, _⟩ := hp.form
  have HLT : Hid (∀ kk, (Value.slice A1 T.now.op.length c1).ownBlock = some kk → kk < W2.heap.size) := fun kk e => (HO2.out.lt e).2
  have HP3 := Lib.hid hp
  have HSN3 := Lib.hid hsn
  have HOWN := Lib.hid hown
  clear hp hsn hown hb hc3 HC2 HC3 HARG2 HARG1
  have hd0 := HOUT3.out.cell (i := 3) (v := .slice none 0 0) rfl
  have hf3 := HOUT3.out.frozen 3
  have HOUT4 := Lib.hid (HOUT3.out.set 3 (.slice B1 T.past.length d1))
  have he0 := HOUT4.out.cell (i := 0) (v := .int .i64 t) rfl
  have he1 := HOUT4.out.cell (i := 1) (v := .int .i64 k) rfl
  have he2 := HOUT4.out.cell (i := 2) (v := .slice A1 T.now.op.length c1) rfl
  have he3 := HOUT4.out.cell (i := 3) (v := .slice B1 T.past.length d1) rfl
  have HRES4 := Lib.hid (HRES3.out.other (a := w.heap.size + 1 + 1) (i := 3) (by omega) (.slice B1 T.past.length d1))
  obtain ⟨⟨ha0, ha1, ha2, ha3, ha4, ha5, ha6, ha7⟩, ⟨hb2, hb3⟩, ⟨hb4, hb5⟩, ⟨hb6, hb7⟩, HRES5⟩ := HRES4.out.store4 (.int .i64 t) (.int .i64 k) (.slice A1 T.now.op.length c1) (.slice B1 T.past.length d1)
  have HB5 := Lib.hid (bel_set4 (HB3.out.setCell (p := ⟨w.heap.size + 1 + 1, 3, none⟩) (by show w.heap.size ≤ w.heap.size + 1 + 1; omega) (.slice B1 T.past.length d1)) (show w.heap.size ≤ w.heap.size + 1 by omega) (.int .i64 t) (.int .i64 k) (.slice A1 T.now.op.length c1) (.slice B1 T.past.length d1))
  have hset : ∀ (W : World) (g i : Nat) (v : Value), g < w1.heap.size → Keeps W2.heap.size W (W.setCell ⟨g, i, none⟩ v) := fun W g i v h => Keeps.set (by omega)
  have HK : Hid (Keeps W2.heap.size w3 (((((w3.setCell ⟨w.heap.size + 1 + 1, 3, none⟩ (.slice B1 T.past.length d1)).setCell ⟨w.heap.size + 1, 0, none⟩ (.int .i64 t)).setCell ⟨w.heap.size + 1, 1, none⟩ (.int .i64 k)).setCell ⟨w.heap.size + 1, 2, none⟩ (.slice A1 T.now.op.length c1)).setCell ⟨w.heap.size + 1, 3, none⟩ (.slice B1 T.past.length d1))) :=
    ((((hset _ _ _ _ (by omega)).trans (hset _ _ _ _ (by omega)) (Nat.le_refl _)).trans (hset _ _ _ _ (by omega)) (Nat.le_refl _)).trans (hset _ _ _ _ (by omega)) (Nat.le_refl _)).trans (hset _ _ _ _ (by omega)) (Nat.le_refl _)
  have HO5 := Lib.hid ((HO3.out.setBox (i := 3) (u := .slice B1 T.past.length d1) HOUT3.out (by decide)).setBox4 HRES4.out (by decide) (.int .i64 t) (.int .i64 k) (.slice A1 T.now.op.length c1) (.slice B1 T.past.length d1))
  have hmid : w.heap.size ≤ W2.heap.size := by omega
  have HFIN : Hid (OwnT (((((w3.setCell ⟨w.heap.size + 1 + 1, 3, none⟩ (.slice B1 T.past.length d1)).setCell ⟨w.heap.size + 1, 0, none⟩ (.int .i64 t)).setCell ⟨w.heap.size + 1, 1, none⟩ (.int .i64 k)).setCell ⟨w.heap.size + 1, 2, none⟩ (.slice A1 T.now.op.length c1)).setCell ⟨w.heap.size + 1, 3, none⟩ (.slice B1 T.past.length d1)) w.heap.size T (.slice A1 T.now.op.length c1) (.slice B1 T.past.length d1) vs W2.heap.size) :=
    ⟨HO5.out.base (by omega), HLT.out, HP3.out.keep HK.out, HSN3.out.keep (HK.out.base (Nat.le_succ _)), HOWN.out, hmid⟩
  clear hset
  go_wp2_with fail
  refine bodyPost_ret_by (results_talk (b := w.heap.size + 1) rfl rfl HRES5) rfl ⟨_, _, vs, _, rfl, HFIN.out, HB5.out⟩
/-- What toTalk hands back, opened. -/
def ToPost (T : TalkV) (w : World) (e : Ending) (w' : World) : Prop := ∃ A n c B m d vs mid, e = .returned (.agg #[.int .i64 T.things, .int .i64 T.now.known, .slice A n c, .slice B m d]) ∧ TkIn w' w.heap.size T A n c B m d ∧ OwnT w' w.heap.size T (.slice A n c) (.slice B m d) vs mid ∧ Below w.heap.size w w'
theorem lToTalk_is {T : TalkV} {A B : Option Addr} {n c m d : Nat} {w : World} (hT : TkAt w T A n c B m d) (hs : SmallT T) :
    Calls Try.prog 17 #[.agg #[.int .i64 T.things, .int .i64 T.now.known, .slice A n c, .slice B m d]] w (ToPost T w) := by
  refine (lToTalk T A B n c m d w hT hs).mono ?_
  rintro e w' ⟨o, p, vs, mid, rfl, ho, hb⟩
  obtain ⟨A', c', B', d', rfl, rfl, h⟩ := ho.in_
  exact ⟨A', _, c', B', _, d', vs, mid, rfl, h, ho, hb⟩
set_option maxRecDepth 100000 in
set_option maxHeartbeats 8000000 in
theorem wExactTalkOk (T : TalkV) (A B : Option Addr) (n c m d : Nat) (w : World) (hT : TkAt w T A n c B m d) (hs : BigT T) :
    Calls Try.prog 5 #[.agg #[.int .i64 T.things, .int .i64 T.now.known, .slice A n c, .slice B m d]] w fun e w' => e = .returned (.bool true) ∧ Below w.heap.size w w' := by
  obtain ⟨t, ht⟩ : ∃ t, T.things = t := ⟨_, rfl⟩
  obtain ⟨k, hk⟩ : ∃ k, T.now.known = k := ⟨_, rfl⟩
  have HSZ : Hid (∀ W : World, Below w.heap.size w W → Calls Try.prog 16 #[.agg #[.int .i64 t, .int .i64 k, .slice A n c, .slice B m d], .int .i64 1048576] W fun e w' => (∃ q : Int, e = .returned (.int .i64 q) ∧ q ≤ 1048576 ∧ (0 ≤ q → SmallT T) ∧ -1 ≤ q) ∧ Below W.heap.size W w') := fun W h => by
    have := lSzTalk T A B n c m d 1048576 W (hT.below h) hs (by omega) (by omega)
    rw [ht, hk] at this; exact this
  have HTO : Hid (SmallT T → ∀ W : World, Below w.heap.size w W → Calls Try.prog 17 #[.agg #[.int .i64 t, .int .i64 k, .slice A n c, .slice B m d]] W (ToPost T W)) := fun h W hb => by
    have := lToTalk_is (hT.below hb) h
    rw [ht, hk] at this; exact this
  have HTK : Hid (T.things = t ∧ T.now.known = k) := ⟨ht, hk⟩
  have HX : Hid (Box (w.alloc (.cells #[.int .i64 t, .int .i64 k, .slice A n c, .slice B m d] 40)) w.heap.size 40 [.int .i64 t, .int .i64 k, .slice A n c, .slice B m d]) := Box.new w _ [.int .i64 t, .int .i64 k, .slice A n c, .slice B m d]
  have HB : Hid (Below w.heap.size w (w.alloc (.cells #[.int .i64 t, .int .i64 k, .slice A n c, .slice B m d] 40))) := (Below.refl _ _).alloc (Nat.le_refl _) _
  rw [ht, hk]
  clear hT hs ht hk
  go_enter Try.func5, Try.ntmps5
  go_wp2_with fail
  refine (HSZ.out _ HB.out).mono ?_
  rintro e w1 ⟨⟨q, rfl, hq1, hq2, hq3⟩, hb⟩
  replace HX := Lib.hid (HX.out.below hb)
  replace HB := Lib.hid (bel_trans HB.out hb)
  have HQ := Lib.hid hq2
  clear hb hq2
  by_cases hq : q < 0
  · have hd : decide (q < 0) = true := decide_eq_true hq
    go_wp2_with fail
    go_ret
    exact ⟨rfl, HB.out⟩
  have hd : decide (q < 0) = false := decide_eq_false hq
  have HS := Lib.hid (HQ.out (by omega))
  replace HTO := Lib.hid (HTO.out HS.out)
  obtain ⟨r, HR⟩ : ∃ r, Hid (okT T = r) := ⟨_, rfl⟩
  have hc0 := HX.out.cell (i := 0) (v := .int .i64 t) rfl
  have hc1 := HX.out.cell (i := 1) (v := .int .i64 k) rfl
  have hc2 := HX.out.cell (i := 2) (v := .slice A n c) rfl
  have hc3 := HX.out.cell (i := 3) (v := .slice B m d) rfl
  go_wp2_with fail
  refine (HTO.out _ HB.out).mono ?_
  rintro e w2 ⟨A2, n2, c2, B2, m2, d2, vs2, mid2, rfl, hi2, _, hb⟩
  replace HX := Lib.hid (HX.out.below hb)
  replace HB := Lib.hid (bel_trans HB.out hb)
  have HSO := Lib.hid (sTalkOk T A2 B2 n2 c2 m2 d2 w2 hi2.at_ HS.out)
  rw [HR.out, HTK.out.1, HTK.out.2] at HSO
  rw [HTK.out.1, HTK.out.2]
  clear hb hi2 hc0 hc1 hc2 hc3 hd
  go_wp2_with fail
  refine HSO.out.mono ?_
  rintro e w3 ⟨rfl, hb⟩
  replace HX := Lib.hid (HX.out.below hb)
  replace HB := Lib.hid (bel_trans HB.out hb)
  clear hb HSO
  have hc0 := HX.out.cell (i := 0) (v := .int .i64 t) rfl
  have hc1 := HX.out.cell (i := 1) (v := .int .i64 k) rfl
  have hc2 := HX.out.cell (i := 2) (v := .slice A n c) rfl
  have hc3 := HX.out.cell (i := 3) (v := .slice B m d) rfl
  go_wp2_with fail
  refine (HTO.out _ HB.out).mono ?_
  rintro e w4 ⟨A4, n4, c4, B4, m4, d4, vs4, mid4, rfl, hi4, _, hb⟩
  have HY := Lib.hid (Box.new w4 28 [.int .i64 t, .int .i64 k, .slice A4 n4 c4, .slice B4 m4 d4])
  replace HX := Lib.hid ((HX.out.below hb).alloc (.cells #[.int .i64 t, .int .i64 k, .slice A4 n4 c4, .slice B4 m4 d4] 28))
  replace HB := Lib.hid ((bel_trans HB.out hb).alloc (bel_trans HB.out hb).size (.cells #[.int .i64 t, .int .i64 k, .slice A4 n4 c4, .slice B4 m4 d4] 28))
  have HI4 := Lib.hid (hi4.at_.below ((Below.refl _ _).alloc (Nat.le_refl _) (.cells #[.int .i64 t, .int .i64 k, .slice A4 n4 c4, .slice B4 m4 d4] 28)))
  have HIO := Lib.hid (iTalkOk T A4 B4 n4 c4 m4 d4 _ HI4.out HS.out)
  rw [HR.out, HTK.out.1, HTK.out.2] at HIO
  rw [HTK.out.1, HTK.out.2]
  clear hb hi4 hc0 hc1 hc2 hc3
  go_wp2_with fail
  refine HIO.out.mono ?_
  rintro e w5 ⟨rfl, hb⟩
  replace HX := Lib.hid (HX.out.below hb)
  replace HY := Lib.hid (HY.out.below hb)
  replace HB := Lib.hid (bel_trans HB.out hb)
  replace HI4 := Lib.hid (HI4.out.below hb)
  clear hb HIO
  have hc0 := HX.out.cell (i := 0) (v := .int .i64 t) rfl
  have hc1 := HX.out.cell (i := 1) (v := .int .i64 k) rfl
  have hc2 := HX.out.cell (i := 2) (v := .slice A n c) rfl
  have hc3 := HX.out.cell (i := 3) (v := .slice B m d) rfl
  have hy0 := HY.out.cell (i := 0) (v := .int .i64 t) rfl
  have hy1 := HY.out.cell (i := 1) (v := .int .i64 k) rfl
  have hy2 := HY.out.cell (i := 2) (v := .slice A4 n4 c4) rfl
  have hy3 := HY.out.cell (i := 3) (v := .slice B4 m4 d4) rfl
  go_wp2_with fail
  go_region_held3 (fun w' => w'.cell? ⟨w.heap.size, 0, none⟩ = some (.int .i64 t) ∧ w'.cell? ⟨w.heap.size, 1, none⟩ = some (.int .i64 k) ∧ w'.cell? ⟨w.heap.size, 2, none⟩ = some (.slice A n c) ∧ w'.cell? ⟨w.heap.size, 3, none⟩ = some (.slice B m d) ∧
      w'.cell? ⟨w4.heap.size, 0, none⟩ = some (.int .i64 t) ∧ w'.cell? ⟨w4.heap.size, 1, none⟩ = some (.int .i64 k) ∧ w'.cell? ⟨w4.heap.size, 2, none⟩ = some (.slice A4 n4 c4) ∧ w'.cell? ⟨w4.heap.size, 3, none⟩ = some (.slice B4 m4 d4))
    (first | exact HK2.out | exact HK1.out | exact ⟨hc0, hc1, hc2, hc3, hy0, hy1, hy2, hy3⟩ | go_keep)
    (first
      | (go_at_call 17; refine (HTO.out _ (bel_drewN HB.out 1)).mono ?_; rintro e w6 ⟨A6, n6, c6, B6, m6, d6, vs6, mid6, rfl, hi6, _, hb⟩; rw [HTK.out.1, HTK.out.2]; have HX1 := Lib.hid (Box.below (Box.drew HX.out) hb); have HY1 := Lib.hid (Box.below (Box.drew HY.out) hb); have HB1 := Lib.hid (bel_trans (bel_drewN HB.out 1) hb); have HI41 := Lib.hid ((HI4.out.drewN 1).below hb); have HI6 := Lib.hid hi6.at_; have HK1 := Lib.hid (And.intro (HX1.out.cell (i := 0) (v := .int .i64 t) rfl) (And.intro (HX1.out.cell (i := 1) (v := .int .i64 k) rfl) (And.intro (HX1.out.cell (i := 2) (v := .slice A n c) rfl) (And.intro (HX1.out.cell (i := 3) (v := .slice B m d) rfl) (And.intro (HY1.out.cell (i := 0) (v := .int .i64 t) rfl) (And.intro (HY1.out.cell (i := 1) (v := .int .i64 k) rfl) (And.intro (HY1.out.cell (i := 2) (v := .slice A4 n4 c4) rfl) (HY1.out.cell (i := 3) (v := .slice B4 m4 d4) rfl)))))))); have HEQ := Lib.hid (lEqTalk T A4 B4 A6 B6 n4 c4 m4 d4 n6 c6 m6 d6 w6 HI41.out HI6.out HS.out); rw [HTK.out.1, HTK.out.2] at HEQ; clear hb hi6)
      | (go_at_call 18; refine HEQ.out.mono ?_; rintro e w7 ⟨rfl, hb⟩; have HX2 := Lib.hid (HX1.out.below hb); have HY2 := Lib.hid (HY1.out.below hb); have HB2 := Lib.hid (bel_trans HB1.out hb); have HK2 := Lib.hid (And.intro (HX2.out.cell (i := 0) (v := .int .i64 t) rfl) (And.intro (HX2.out.cell (i := 1) (v := .int .i64 k) rfl) (And.intro (HX2.out.cell (i := 2) (v := .slice A n c) rfl) (And.intro (HX2.out.cell (i := 3) (v := .slice B m d) rfl) (And.intro (HY2.out.cell (i := 0) (v := .int .i64 t) rfl) (And.intro (HY2.out.cell (i := 1) (v := .int .i64 k) rfl) (And.intro (HY2.out.cell (i := 2) (v := .slice A4 n4 c4) rfl) (HY2.out.cell (i := 3) (v := .slice B4 m4 d4) rfl)))))))); clear hb))
  all_goals
    go_wp2_with fail
    go_ret
    exact ⟨rfl, HB2.out⟩
end Go.Proofs.Ytmdogidflaplkaa

namespace Go.Proofs.Ytmdogidflaplkaa
open Go.ChangeShapes Go.WideShapes Go.ChangeAt Go.RowKit Go.Deep

theorem cells_talkT : Try.prog.cellsOf 40 = 4 := by kernel_rfl
theorem cells_stateT : Try.prog.cellsOf 37 = 2 := by kernel_rfl
theorem cells_statesT : Try.prog.cellsOf 38 = 1 := by kernel_rfl
theorem cells_numT : Try.prog.cellsOf 3 = 1 := by kernel_rfl
theorem cells_strsT : Try.prog.cellsOf 23 = 1 := by kernel_rfl
def numVT : Value → Int
  | .int _ n => n
  | _ => 0
section
variable {H : Type} {enc : TypeId × Value → H} {w : World} {base : Nat} {spare : Nat → Bool} {held : Bool}
set_option maxRecDepth 100000 in
theorem stas_of_cells {fuel : Nat} {v : Value} {x : DataW H × List MemPlace} (h : DataW.trod enc Try.prog w base spare held fuel 38 [v] = some x) :
    ∃ (A : Option Addr) (xs : List (St ByteArray)) (c : Nat), v = .slice A xs.length c ∧ xs.length ≤ c ∧ c ≤ maxLen ∧ StaRow w A xs ∧ ∀ x ∈ xs, ∀ s ∈ x.op, s.size ≤ maxLen := by
  rcases open_slice_pairs Try.underlying38 Try.underlying37 cells_stateT rfl rfl cells_numT cells_strsT h with ⟨hcs, _⟩ | ⟨a, l, c, m, n, V0, V1, D0, D1, P0, P1, hcs, _, hl, hm, hmm, _, hx⟩
  · simp only [List.cons.injEq, and_true] at hcs
    subst hcs
    exact ⟨none, [], 0, rfl, Nat.le_refl _, Nat.zero_le _, StaRow.nil _ _, fun d h => by cases h⟩
  · simp only [List.cons.injEq, and_true] at hcs
    subst hcs
    have hlm : l ≤ m := by rw [hmm]; split <;> omega
    have each : ∀ i : Nat, ∃ x : St ByteArray, i < l → V0 i = .int .i64 x.known ∧ ∃ Ai ci, V1 i = .slice Ai x.op.length ci ∧ x.op.length ≤ ci ∧ ci ≤ maxLen ∧ Strs w Ai x.op ∧ ∀ s ∈ x.op, s.size ≤ maxLen := fun i => by
      by_cases hi : i < l
      · obtain ⟨_, _, t0, t1⟩ := hx i (by omega)
        obtain ⟨k0, e0, _, _⟩ := DataW.trod_int Try.underlying3 t0
        obtain ⟨Ai, ss, ci, e1, h1, h2, h3, h4⟩ := strs_of_cells t1
        exact ⟨⟨k0, ss⟩, fun _ => ⟨by simpa [Value.cells] using e0, Ai, ci, e1, h1, h2, h3, h4⟩⟩
      · exact ⟨⟨0, []⟩, fun h => absurd h hi⟩
    obtain ⟨f, hf⟩ := Classical.axiomOfChoice each
    refine ⟨some a, (List.range l).map f, c, by simp, by simpa using hl, hm, fun hp => ?_, fun d hd => ?_⟩
    · simp only [List.length_map, List.length_range] at hp
      have hsp : a.spot = none := by
        have := (hx 0 (by omega)).1
        have := World.cell?_spot this
        simpa [Addr.add] using this
      obtain ⟨b, off, spot⟩ := a
      subst hsp
      refine ⟨b, off, rfl, ?_, fun i d hd => ?_⟩
      · have := (hx 0 (by omega)).1
        exact World.block_lt_of_cell? w _ this
      · have hi : i < l := Classical.byContradiction fun hn => by
          rw [List.getElem?_eq_none (by simp only [List.length_map, List.length_range]; omega)] at hd; cases hd
        rw [List.getElem?_map, List.getElem?_range hi] at hd
        obtain rfl := Option.some.inj hd
        obtain ⟨c0, c1, _, _⟩ := hx i (by omega)
        obtain ⟨f0, Ai, ci, f1, h1, h2, h3, _⟩ := hf i hi
        rw [add_plain] at c0 c1
        rw [f0] at c0
        rw [f1] at c1
        exact ⟨Ai, ci, c0, by rw [Nat.add_assoc]; exact c1, h1, h2, h3⟩
    · obtain ⟨i, hi, rfl⟩ := List.mem_map.1 hd
      rw [List.mem_range] at hi
      obtain ⟨_, _, _, _, _, _, _, h⟩ := hf i hi
      exact h
set_option maxRecDepth 100000 in
theorem talk_of_trod {r : Reach} {b0 : Nat} {v : Value} {d : DataW H} {ps : List MemPlace} (hval : Value.okWide Try.prog w r b0 40 v) (h : DataW.Trod enc Try.prog w base spare held 40 v d ps) :
    ∃ (T : TalkV) (A : Option Addr) (n c : Nat) (B : Option Addr) (m d : Nat), v = .agg #[.int .i64 T.things, .int .i64 T.now.known, .slice A n c, .slice B m d] ∧ TkAt w T A n c B m d ∧ BigT T := by
  obtain ⟨cs, rfl, hs⟩ := okWide_struct Try.underlying40 hval
  obtain ⟨fuel, hf⟩ := h
  obtain ⟨y0, y1, y2, n, _, hl, h0, h1, h2⟩ := trod_struct3 Try.underlying40 hf
  rw [cells_talkT] at hs
  obtain ⟨l⟩ := cs
  match l, hs with
  | [c0, c1, c2, c3], _ =>
    simp only [cells_numT, cells_stateT, cells_statesT] at h0 h1 h2
    obtain ⟨k0, e0, _, _⟩ := DataW.trod_int Try.underlying3 h0
    obtain ⟨z0, z1, n', _, _, g0, g1⟩ := trod_struct2 Try.underlying37 h1
    simp only [cells_numT, cells_strsT] at g0 g1
    obtain ⟨k1, e1, _, _⟩ := DataW.trod_int Try.underlying3 g0
    obtain ⟨A, ss, c, e2, s1, s2, s3, s4⟩ := strs_of_cells (v := c2) g1
    obtain ⟨B, xs, d, e3, t1, t2, t3, t4⟩ := stas_of_cells (v := c3) h2
    simp [Value.cells] at e0 e1
    subst e2 e3
    exact ⟨⟨k0, ⟨k1, ss⟩, xs⟩, A, _, c, B, _, d, by rw [e0, e1], ⟨rfl, s1, s2, s3, rfl, t1, t2, t3⟩, ⟨s4, t4⟩⟩
end
end Go.Proofs.Ytmdogidflaplkaa
