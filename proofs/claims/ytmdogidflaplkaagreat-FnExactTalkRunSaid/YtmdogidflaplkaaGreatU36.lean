/-
  What the proofs of this seat's statements share (DoI, GoI).
-/
import Derived.Test.YtmdogidflaplkaaGreatU35
import Derived.Test.YtmdogidflaplkaaGreatU22
import Derived.Test.YtmdogidflaplkaaGreatU27

namespace Go.Proofs.YtmdogidflaplkaaGreat
open Go.RowKit

theorem doTo_way {T : TalkV} (k : Int) (s : ByteArray) (hok : okT T = true) : (doT T k s = none ∧ (doTo T k s).1 = T ∧ (doTo T k s).2 = false) ∨ (doT T k s = some (doTo T k s).1 ∧ (doTo T k s).2 = true) := by
  cases h : doT T k s with
  | none => rw [doTo_no hok h]; exact .inl ⟨rfl, rfl, rfl⟩
  | some X => rw [doTo_yes hok h]; exact .inr ⟨rfl, rfl⟩
theorem do_else {T : TalkV} {k : Int} (s : ByteArray) (h0 : k ≠ 0) (h1 : k ≠ 1) (h2 : k ≠ 2) : doT T k s = none := by
  unfold doT talkDo
  rw [if_neg h2, if_neg h0, if_neg h1]
theorem did_start (w : World) (a b c d k x e f g h : Value) :
    Hid (Box (((w.alloc (.cells #[a, b, c, d] 69)).alloc (.cells #[k, x] 30)).alloc (.cells #[e, f, g, h] 69)) w.heap.size 69 [a, b, c, d]) ∧
    Hid (Box (((w.alloc (.cells #[a, b, c, d] 69)).alloc (.cells #[k, x] 30)).alloc (.cells #[e, f, g, h] 69)) (w.heap.size + 1) 30 [k, x]) ∧
    Hid (Box (((w.alloc (.cells #[a, b, c, d] 69)).alloc (.cells #[k, x] 30)).alloc (.cells #[e, f, g, h] 69)) (w.heap.size + 2) 69 [e, f, g, h]) ∧
    Hid (Below w.heap.size w (((w.alloc (.cells #[a, b, c, d] 69)).alloc (.cells #[k, x] 30)).alloc (.cells #[e, f, g, h] 69))) := by
  refine ⟨((Box.new w _ [a, b, c, d]).alloc _).alloc _, ?_, ?_, (((Below.refl _ _).alloc (Nat.le_refl _) _).alloc (by rw [World.size_alloc]; omega) _).alloc (by rw [World.size_alloc, World.size_alloc]; omega) _⟩
  · have := (Box.new (w.alloc (.cells #[a, b, c, d] 69)) 30 [k, x]).alloc (.cells #[e, f, g, h] 69)
    rw [World.size_alloc] at this; exact this
  · have := Box.new ((w.alloc (.cells #[a, b, c, d] 69)).alloc (.cells #[k, x] 30)) 69 [e, f, g, h]
    rw [World.size_alloc, World.size_alloc] at this; exact this
set_option maxRecDepth 100000 in
set_option maxHeartbeats 4000000 in
theorem iDo (T : TalkV) (A B : Option Addr) (n c m d : Nat) (kind : Int) (text : ByteArray) (R : World → Prop) (w : World) (hT : TkR R T A n c B m d) (hbw : R w) (hok : okT T = true) (hx : text.size ≤ 1048576) :
    Calls Tryz.prog 36 #[.agg #[.int .i64 T.now.known, .slice A n c, .int .i64 T.things, .slice B m d], .agg #[.int .i64 kind, .string text]] w (GoPost (doTo T kind text).1 (doTo T kind text).2 R w) := by
  have hway := doTo_way kind text hok
  obtain ⟨X, hX⟩ : ∃ X, (doTo T kind text).1 = X := ⟨_, rfl⟩
  obtain ⟨r, hr⟩ : ∃ r, (doTo T kind text).2 = r := ⟨_, rfl⟩
  rw [hX, hr] at hway ⊢
  have hpl : T.past.length ≤ 1048576 := (small_ok hok).past
  have HT := Lib.hid hT
  have HW := Lib.hid hbw
  have HCT : Hid (kind = 0 → ∀ W, R W → Calls Tryz.prog 72 #[.agg #[.int .i64 T.now.known, .slice A n c, .int .i64 T.things, .slice B m d], .string text] W (GoPost X r R W)) := fun e W hb => by
    subst e; exact iTell T A B n c m d text R W hT hb hok hx X r hway
  have HCA : Hid (kind = 1 → ∀ W, R W → Calls Tryz.prog 73 #[.agg #[.int .i64 T.now.known, .slice A n c, .int .i64 T.things, .slice B m d], .string text] W (GoPost X r R W)) := fun e W hb => by
    subst e; exact iAsk T A B n c m d text R W hT hb hok hx X r hway
  have HCB : Hid (kind = 2 → ∀ W, R W → Calls Tryz.prog 74 #[.agg #[.int .i64 T.now.known, .slice A n c, .int .i64 T.things, .slice B m d], .string text] W (GoPost X r R W)) := fun e W hb => by
    subst e; exact iBack T A B n c m d text R W hT hb hpl X r hway
  have HNO : Hid (kind ≠ 0 → kind ≠ 1 → kind ≠ 2 → X = T ∧ r = false) := fun h0 h1 h2 => by
    rw [do_else text h0 h1 h2] at hway
    rcases hway with ⟨_, h⟩ | ⟨h, _⟩
    · exact h
    · cases h
  obtain ⟨t, ht⟩ : ∃ t, T.things = t := ⟨_, rfl⟩
  obtain ⟨q, hq⟩ : ∃ q, T.now.known = q := ⟨_, rfl⟩
  have HTQ : Hid (T.things = t ∧ T.now.known = q) := ⟨ht, hq⟩
  obtain ⟨HX, HY, HZ, HB⟩ := did_start w (.int .i64 q) (.slice A n c) (.int .i64 t) (.slice B m d) (.int .i64 kind) (.string text) (.int .i64 0) (.slice none 0 0) (.int .i64 0) (.slice none 0 0)
  rw [ht, hq] at HCT HCA HCB ⊢
  clear hway hX hr hpl hT hbw hok hx ht hq
  go_enter Tryz.func36, Tryz.ntmps36
  go_upto_region 1 with fail
  obtain ⟨W0, hW0⟩ : ∃ W, ((w.alloc (.cells #[.int .i64 q, .slice A n c, .int .i64 t, .slice B m d] 69)).alloc (.cells #[.int .i64 kind, .string text] 30)).alloc (.cells #[.int .i64 0, .slice none 0 0, .int .i64 0, .slice none 0 0] 69) = W := ⟨_, rfl⟩
  rw [hW0] at HX HY HZ HB ⊢
  clear hW0
  have hc0 := HX.out.cell (i := 0) (v := .int .i64 q) rfl
  have hc1 := HX.out.cell (i := 1) (v := .slice A n c) rfl
  have hc2 := HX.out.cell (i := 2) (v := .int .i64 t) rfl
  have hc3 := HX.out.cell (i := 3) (v := .slice B m d) rfl
  have hy0 := HY.out.cell (i := 0) (v := .int .i64 kind) rfl
  have hy1 := HY.out.cell (i := 1) (v := .string text) rfl
  by_cases h0 : kind = 0
  · subst h0
    go_wp2_with fail
    refine (HCT.out trivial _ (HT.out.fw _ _ HW.out HB.out)).mono ?_
    rintro e w1 ⟨A', n', c', B', m', d', rfl, hat, hb⟩
    have HZ1 := Lib.hid (HZ.out.below hb)
    have HB1 := Lib.hid (bel_trans HB.out hb)
    have hzl : w.heap.size + 2 < W0.heap.size := HZ.out.lt
    obtain ⟨⟨ha0, ha1, ha2, ha3, ha4, ha5, ha6, ha7⟩, ⟨hb2, hb3⟩, ⟨hb4, hb5⟩, ⟨hb6, hb7⟩, HOUT⟩ := HZ1.out.store4 (.int .i64 X.now.known) (.slice A' n' c') (.int .i64 X.things) (.slice B' m' d')
    have HBE := Lib.hid (bel_set4 HB1.out (show w.heap.size ≤ w.heap.size + 2 by omega) (.int .i64 X.now.known) (.slice A' n' c') (.int .i64 X.things) (.slice B' m' d'))
    have HFT : Hid (∀ w2, R w2 → Keeps w.heap.size ((((w1.setCell ⟨w.heap.size + 2, 0, none⟩ (.int .i64 X.now.known)).setCell ⟨w.heap.size + 2, 1, none⟩ (.slice A' n' c')).setCell ⟨w.heap.size + 2, 2, none⟩ (.int .i64 X.things)).setCell ⟨w.heap.size + 2, 3, none⟩ (.slice B' m' d')) w2 → TkAt w2 X A' n' c' B' m' d') := fun w2 g1 g2 => hat w2 g1 ((keeps_set4i hzl (.int .i64 X.now.known) (.slice A' n' c') (.int .i64 X.things) (.slice B' m' d')).trans g2 HB.out.size)
    clear hat hb
    go_wp2_with fail
    refine bodyPost_ret_by (results_goingB (b := w.heap.size + 2) rfl rfl rfl HOUT) rfl ⟨A', n', c', B', m', d', rfl, HFT.out, HBE.out⟩
  by_cases h1 : kind = 1
  · subst h1
    clear h0
    go_wp2_with fail
    refine (HCA.out trivial _ (HT.out.fw _ _ HW.out HB.out)).mono ?_
    rintro e w1 ⟨A', n', c', B', m', d', rfl, hat, hb⟩
    have HZ1 := Lib.hid (HZ.out.below hb)
    have HB1 := Lib.hid (bel_trans HB.out hb)
    have hzl : w.heap.size + 2 < W0.heap.size := HZ.out.lt
    obtain ⟨⟨ha0, ha1, ha2, ha3, ha4, ha5, ha6, ha7⟩, ⟨hb2, hb3⟩, ⟨hb4, hb5⟩, ⟨hb6, hb7⟩, HOUT⟩ := HZ1.out.store4 (.int .i64 X.now.known) (.slice A' n' c') (.int .i64 X.things) (.slice B' m' d')
    have HBE := Lib.hid (bel_set4 HB1.out (show w.heap.size ≤ w.heap.size + 2 by omega) (.int .i64 X.now.known) (.slice A' n' c') (.int .i64 X.things) (.slice B' m' d'))
    have HFT : Hid (∀ w2, R w2 → Keeps w.heap.size ((((w1.setCell ⟨w.heap.size + 2, 0, none⟩ (.int .i64 X.now.known)).setCell ⟨w.heap.size + 2, 1, none⟩ (.slice A' n' c')).setCell ⟨w.heap.size + 2, 2, none⟩ (.int .i64 X.things)).setCell ⟨w.heap.size + 2, 3, none⟩ (.slice B' m' d')) w2 → TkAt w2 X A' n' c' B' m' d') := fun w2 g1 g2 => hat w2 g1 ((keeps_set4i hzl (.int .i64 X.now.known) (.slice A' n' c') (.int .i64 X.things) (.slice B' m' d')).trans g2 HB.out.size)
    clear hat hb
    go_wp2_with fail
    refine bodyPost_ret_by (results_goingB (b := w.heap.size + 2) rfl rfl rfl HOUT) rfl ⟨A', n', c', B', m', d', rfl, HFT.out, HBE.out⟩
  by_cases h2 : kind = 2
  · subst h2
    clear h0 h1
    go_wp2_with fail
    refine (HCB.out trivial _ (HT.out.fw _ _ HW.out HB.out)).mono ?_
    rintro e w1 ⟨A', n', c', B', m', d', rfl, hat, hb⟩
    have HZ1 := Lib.hid (HZ.out.below hb)
    have HB1 := Lib.hid (bel_trans HB.out hb)
    have hzl : w.heap.size + 2 < W0.heap.size := HZ.out.lt
    obtain ⟨⟨ha0, ha1, ha2, ha3, ha4, ha5, ha6, ha7⟩, ⟨hb2, hb3⟩, ⟨hb4, hb5⟩, ⟨hb6, hb7⟩, HOUT⟩ := HZ1.out.store4 (.int .i64 X.now.known) (.slice A' n' c') (.int .i64 X.things) (.slice B' m' d')
    have HBE := Lib.hid (bel_set4 HB1.out (show w.heap.size ≤ w.heap.size + 2 by omega) (.int .i64 X.now.known) (.slice A' n' c') (.int .i64 X.things) (.slice B' m' d'))
    have HFT : Hid (∀ w2, R w2 → Keeps w.heap.size ((((w1.setCell ⟨w.heap.size + 2, 0, none⟩ (.int .i64 X.now.known)).setCell ⟨w.heap.size + 2, 1, none⟩ (.slice A' n' c')).setCell ⟨w.heap.size + 2, 2, none⟩ (.int .i64 X.things)).setCell ⟨w.heap.size + 2, 3, none⟩ (.slice B' m' d')) w2 → TkAt w2 X A' n' c' B' m' d') := fun w2 g1 g2 => hat w2 g1 ((keeps_set4i hzl (.int .i64 X.now.known) (.slice A' n' c') (.int .i64 X.things) (.slice B' m' d')).trans g2 HB.out.size)
    clear hat hb
    go_wp2_with fail
    refine bodyPost_ret_by (results_goingB (b := w.heap.size + 2) rfl rfl rfl HOUT) rfl ⟨A', n', c', B', m', d', rfl, HFT.out, HBE.out⟩
  · obtain ⟨hXT, rfl⟩ := HNO.out h0 h1 h2
    obtain rfl : T = X := hXT.symm
    have h0' : (kind == 0) = false := beq_eq_false_iff_ne.2 h0
    have h1' : (kind == 1) = false := beq_eq_false_iff_ne.2 h1
    have h2' : (kind == 2) = false := beq_eq_false_iff_ne.2 h2
    clear h0 h1 h2 hXT
    obtain ⟨⟨ha0, ha1, ha2, ha3, ha4, ha5, ha6, ha7⟩, ⟨hb2, hb3⟩, ⟨hb4, hb5⟩, ⟨hb6, hb7⟩, HOUT⟩ := HZ.out.store4 (.int .i64 q) (.slice A n c) (.int .i64 t) (.slice B m d)
    have HBE := Lib.hid (bel_set4 HB.out (show w.heap.size ≤ w.heap.size + 2 by omega) (.int .i64 q) (.slice A n c) (.int .i64 t) (.slice B m d))
    go_wp2_with fail
    refine bodyPost_ret_by (results_goingB (b := w.heap.size + 2) rfl rfl rfl HOUT) rfl ⟨A, _, c, B, _, d, by rw [HTQ.out.1, HTQ.out.2]; rfl, fun _ h _ => HT.out.at_ h, HBE.out⟩
end Go.Proofs.YtmdogidflaplkaaGreat

namespace Go.Proofs.YtmdogidflaplkaaGreat
open Go.RowKit

end Go.Proofs.YtmdogidflaplkaaGreat
