/-
  What the proofs of this seat's statements share (TlkD).
-/
import Derived.Deep.RegionHeld3
import Derived.Test.YtmdogidflaplkaaGreatU20
import Derived.Test.YtmdogidflaplkaaGreatU22
import Derived.Test.YtmdogidflaplkaaGreatU23
import Derived.Test.YtmdogidflaplkaaGreatU17

namespace Go.Proofs.YtmdogidflaplkaaGreat
open Go.RowKit

theorem lo_own {w : World} {lo m d : Nat} {B : Option Addr} {vs : List (Int × Value)} {xs : List (St ByteArray)} (h : OwnsX 25 w lo (.slice B m d) vs xs) : ∀ b, B = some b → lo ≤ b.block := by
  intro b hb
  obtain ⟨_, _, e, _, _, _, hl⟩ := h.form
  cases e
  exact (hl b hb).1
/-- Two slices lie in blocks of their own. -/
def ApB (A B : Option Addr) : Prop := ∀ a b, A = some a → B = some b → a.block ≠ b.block
theorem ap_own {w : World} {b1 b2 n c m d : Nat} {A B : Option Addr} {xs : List ByteArray} {T : TypeId} {sz k : Nat} {cs : List Value} (h1 : OwnsS w b1 (.slice A n c) xs) (h2 : w.ownsRow b2 T sz (.slice B m d) k cs) (hT : T ≠ 9) : ApB A B := by
  intro a b ha hb
  subst ha hb
  rcases own_apart h1 h2 hT with h | h
  · cases h
  · intro e
    exact h (by simp only [Value.ownBlock]; rw [e])
/-- A talk whose memory lies from lo on, its open questions the call's own. -/
def TkOwn (w : World) (lo : Nat) (T : TalkV) (A : Option Addr) (n c : Nat) (B : Option Addr) (m d : Nat) : Prop := TkIn w lo T A n c B m d ∧ OwnsS w lo (.slice A n c) T.now.op ∧ ApB A B ∧ ∀ b, B = some b → lo ≤ b.block
/-- What TalkDo hands back. -/
def DoPost (T : TalkV) (b : Bool) (w : World) (e : Ending) (w' : World) : Prop := ∃ A n c B m d, e = .returned (.tuple #[.agg #[.int .i64 T.things, .int .i64 T.now.known, .slice A n c, .slice B m d], .bool b]) ∧ TkOwn w' w.heap.size T A n c B m d ∧ Below w.heap.size w w'
/-- A talk after a deed, whatever the talk. -/
def doTo (T : TalkV) (k : Int) (s : ByteArray) : TalkV × Bool := if okT T = true then (match doT T k s with | some X => (X, true) | none => (T, false)) else (noTalk, false)
theorem doTo_bad {T : TalkV} (k : Int) (s : ByteArray) (h : okT T = false) : doTo T k s = (noTalk, false) := by unfold doTo; rw [h]; rfl
theorem doTo_no {T : TalkV} {k : Int} {s : ByteArray} (h : okT T = true) (hd : doT T k s = none) : doTo T k s = (T, false) := by unfold doTo; rw [if_pos h, hd]
theorem doTo_yes {T X : TalkV} {k : Int} {s : ByteArray} (h : okT T = true) (hd : doT T k s = some X) : doTo T k s = (X, true) := by unfold doTo; rw [if_pos h, hd]
theorem sen_size {t : Int} {s : ByteArray} (h : asksT.isS t s = true) : s.size ≤ 60 := by
  obtain ⟨x, hx⟩ := isS_some.1 h
  exact (senT_ok hx).2.2.1
theorem small_state {t : Int} {x : St ByteArray} (h : stateOk asksT t x = true) : x.op.length ≤ 4 ∧ ∀ s ∈ x.op, s.size ≤ 60 := by
  obtain ⟨_, _, h3, h4, _⟩ := (state_parts asksT).1 h
  exact ⟨h3, fun s hs => sen_size (h4 s hs).1⟩
/-- A talk is small. -/
theorem small_ok {T : TalkV} (h : okT T = true) : SmallT T := by
  obtain ⟨h1, h2, h3⟩ := (talk_parts asksT).1 h
  obtain ⟨h4, h5⟩ := small_state h1
  exact ⟨by omega, by omega, fun s hs => by have := h5 s hs; omega, fun x hx => by
    obtain ⟨h6, h7⟩ := small_state (h3 x hx)
    exact ⟨by omega, fun s hs => by have := h7 s hs; omega⟩⟩
/-- All that lies while TalkDo works. -/
structure DoAt (w : World) (g : Nat) (arg kd out : List Value) (wx : World) : Prop where
  x : Box wx w.heap.size 28 arg
  d : Box wx (w.heap.size + 1) 30 kd
  r : Box wx (w.heap.size + 2) 28 [.int .i64 0, .int .i64 0, .slice none 0 0, .slice none 0 0]
  o : Box wx g 28 out
  b : Below w.heap.size w wx
  lo : w.heap.size + 2 < g
theorem DoAt.below {w wx wy : World} {g : Nat} {arg kd out : List Value} (h : DoAt w g arg kd out wx) (hb : Below wx.heap.size wx wy) : DoAt w g arg kd out wy :=
  ⟨h.x.below hb, h.d.below hb, h.r.below hb, h.o.below hb, bel_trans h.b hb, h.lo⟩
theorem DoAt.drewN {w wx : World} {g : Nat} {arg kd out : List Value} (h : DoAt w g arg kd out wx) (n : Nat) : DoAt w g arg kd out (wx.drewN n) := ⟨h.x.drewN n, h.d.drewN n, h.r.drewN n, h.o.drewN n, bel_drewN h.b n, h.lo⟩
theorem DoAt.alloc {w wx : World} {g : Nat} {arg kd out : List Value} (h : DoAt w g arg kd out wx) (o : Obj) : DoAt w g arg kd out (wx.alloc o) := h.below ((Below.refl _ _).alloc (Nat.le_refl _) _)
theorem do_start (w : World) (t q kind : Int) (text : ByteArray) (o p : Value) :
    Hid (Box (((w.alloc (.cells #[.int .i64 t, .int .i64 q, o, p] 28)).alloc (.cells #[.int .i64 kind, .string text] 30)).alloc (.cells #[.int .i64 0, .int .i64 0, .slice none 0 0, .slice none 0 0] 28)) w.heap.size 28 [.int .i64 t, .int .i64 q, o, p]) ∧
    Hid (Box (((w.alloc (.cells #[.int .i64 t, .int .i64 q, o, p] 28)).alloc (.cells #[.int .i64 kind, .string text] 30)).alloc (.cells #[.int .i64 0, .int .i64 0, .slice none 0 0, .slice none 0 0] 28)) (w.heap.size + 1) 30 [.int .i64 kind, .string text]) ∧
    Hid (Box (((w.alloc (.cells #[.int .i64 t, .int .i64 q, o, p] 28)).alloc (.cells #[.int .i64 kind, .string text] 30)).alloc (.cells #[.int .i64 0, .int .i64 0, .slice none 0 0, .slice none 0 0] 28)) (w.heap.size + 2) 28 [.int .i64 0, .int .i64 0, .slice none 0 0, .slice none 0 0]) ∧
    Hid (Below w.heap.size w (((w.alloc (.cells #[.int .i64 t, .int .i64 q, o, p] 28)).alloc (.cells #[.int .i64 kind, .string text] 30)).alloc (.cells #[.int .i64 0, .int .i64 0, .slice none 0 0, .slice none 0 0] 28))) := by
  have h2 := Box.new (w.alloc (.cells #[.int .i64 t, .int .i64 q, o, p] 28)) 30 [.int .i64 kind, .string text]
  have h3 := Box.new ((w.alloc (.cells #[.int .i64 t, .int .i64 q, o, p] 28)).alloc (.cells #[.int .i64 kind, .string text] 30)) 28 [.int .i64 0, .int .i64 0, .slice none 0 0, .slice none 0 0]
  rw [World.size_alloc] at h2
  rw [World.size_alloc, World.size_alloc] at h3
  exact ⟨((Box.new w _ [.int .i64 t, .int .i64 q, o, p]).alloc _).alloc _, h2.alloc _, h3, (((Below.refl _ _).alloc (Nat.le_refl _) _).alloc (by rw [World.size_alloc]; omega) _).alloc (by rw [World.size_alloc, World.size_alloc]; omega) _⟩
/-- The last store. -/
theorem do_ret {w wx : World} {g : Nat} {arg kd : List Value} {T : TalkV} {t k : Int} {A B : Option Addr} {n c m d : Nat} (h : DoAt w g arg kd [.int .i64 t, .int .i64 k, .slice A n c, .slice B m d] wx) (hin : TkOwn wx (w.heap.size + 3) T A n c B m d) :
    ((wx.cell? ⟨w.heap.size + 2, 0, none⟩ = some (.int .i64 0) ∧ wx.cell? ⟨w.heap.size + 2, 1, none⟩ = some (.int .i64 0) ∧ wx.cell? ⟨w.heap.size + 2, 2, none⟩ = some (.slice none 0 0) ∧ wx.cell? ⟨w.heap.size + 2, 3, none⟩ = some (.slice none 0 0) ∧ wx.frozen? ⟨w.heap.size + 2, 0, none⟩ = false ∧ wx.frozen? ⟨w.heap.size + 2, 1, none⟩ = false ∧ wx.frozen? ⟨w.heap.size + 2, 2, none⟩ = false ∧ wx.frozen? ⟨w.heap.size + 2, 3, none⟩ = false) ∧
    ((wx.setCell ⟨w.heap.size + 2, 0, none⟩ (.int .i64 t)).cell? ⟨w.heap.size + 2, 1, none⟩ = some (.int .i64 0) ∧ (wx.setCell ⟨w.heap.size + 2, 0, none⟩ (.int .i64 t)).frozen? ⟨w.heap.size + 2, 1, none⟩ = false) ∧
    (((wx.setCell ⟨w.heap.size + 2, 0, none⟩ (.int .i64 t)).setCell ⟨w.heap.size + 2, 1, none⟩ (.int .i64 k)).cell? ⟨w.heap.size + 2, 2, none⟩ = some (.slice none 0 0) ∧ ((wx.setCell ⟨w.heap.size + 2, 0, none⟩ (.int .i64 t)).setCell ⟨w.heap.size + 2, 1, none⟩ (.int .i64 k)).frozen? ⟨w.heap.size + 2, 2, none⟩ = false) ∧
    ((((wx.setCell ⟨w.heap.size + 2, 0, none⟩ (.int .i64 t)).setCell ⟨w.heap.size + 2, 1, none⟩ (.int .i64 k)).setCell ⟨w.heap.size + 2, 2, none⟩ (.slice A n c)).cell? ⟨w.heap.size + 2, 3, none⟩ = some (.slice none 0 0) ∧ (((wx.setCell ⟨w.heap.size + 2, 0, none⟩ (.int .i64 t)).setCell ⟨w.heap.size + 2, 1, none⟩ (.int .i64 k)).setCell ⟨w.heap.size + 2, 2, none⟩ (.slice A n c)).frozen? ⟨w.heap.size + 2, 3, none⟩ = false)) ∧
    Hid (Box ((((wx.setCell ⟨w.heap.size + 2, 0, none⟩ (.int .i64 t)).setCell ⟨w.heap.size + 2, 1, none⟩ (.int .i64 k)).setCell ⟨w.heap.size + 2, 2, none⟩ (.slice A n c)).setCell ⟨w.heap.size + 2, 3, none⟩ (.slice B m d)) (w.heap.size + 2) 28 [.int .i64 t, .int .i64 k, .slice A n c, .slice B m d]) ∧
    Hid (TkOwn ((((wx.setCell ⟨w.heap.size + 2, 0, none⟩ (.int .i64 t)).setCell ⟨w.heap.size + 2, 1, none⟩ (.int .i64 k)).setCell ⟨w.heap.size + 2, 2, none⟩ (.slice A n c)).setCell ⟨w.heap.size + 2, 3, none⟩ (.slice B m d)) w.heap.size T A n c B m d) ∧
    Hid (Below w.heap.size w ((((wx.setCell ⟨w.heap.size + 2, 0, none⟩ (.int .i64 t)).setCell ⟨w.heap.size + 2, 1, none⟩ (.int .i64 k)).setCell ⟨w.heap.size + 2, 2, none⟩ (.slice A n c)).setCell ⟨w.heap.size + 2, 3, none⟩ (.slice B m d))) := by
  obtain ⟨h1, h2, h3, h4, h5⟩ := h.r.store4 (.int .i64 t) (.int .i64 k) (.slice A n c) (.slice B m d)
  refine ⟨⟨h1, h2, h3, h4⟩, h5, ?_, bel_set4 h.b (by omega) _ _ _ _⟩
  have hset : ∀ (W : World) (i : Nat) (v : Value), Keeps (w.heap.size + 3) W (W.setCell ⟨w.heap.size + 2, i, none⟩ v) := fun W i v => Keeps.set (by omega)
  have hk := (((hset wx 0 (.int .i64 t)).trans (hset _ 1 (.int .i64 k)) (Nat.le_refl _)).trans (hset _ 2 (.slice A n c)) (Nat.le_refl _)).trans (hset _ 3 (.slice B m d)) (Nat.le_refl _)
  exact ⟨(hin.1.keep hk).base (by omega), (hin.2.1.keep hk).base (by omega), hin.2.2.1, fun b hb => Nat.le_trans (by omega) (hin.2.2.2 b hb)⟩
/-- What the copy hands back. -/
def CpPost (T : TalkV) (lo : Nat) (t q : Int) (w : World) (e : Ending) (w' : World) : Prop := ∃ A c B d vs, e = .returned (.agg #[.int .i64 t, .int .i64 q, .slice A T.now.op.length c, .slice B T.past.length d]) ∧ OwnsS w' lo (.slice A T.now.op.length c) T.now.op ∧ OwnsX 25 w' lo (.slice B T.past.length d) vs T.past ∧ Below w.heap.size w w'
theorem sCopy_is {T : TalkV} {t q : Int} {lo : Nat} (ht : Hid (T.things = t ∧ T.now.known = q)) {A B : Option Addr} {n c m d : Nat} {w : World} (hT : TkAt w T A n c B m d) (hs : SmallT T) (hlo : lo ≤ w.heap.size) :
    Calls Tryz.prog 38 #[.agg #[.int .i64 t, .int .i64 q, .slice A n c, .slice B m d]] w (CpPost T lo t q w) := by
  obtain ⟨rfl, rfl⟩ := ht.out
  refine (sCopy9 T A B n c m d w hT hs).mono ?_
  rintro e w' ⟨o, p, vs, rfl, ho, hp, hb⟩
  obtain ⟨A', c', rfl, _⟩ := ho.form
  obtain ⟨B', d', rfl, _⟩ := hp.form
  exact ⟨A', c', B', d', vs, rfl, ho.base hlo, hp.base hlo, hb⟩
theorem tk_in {w : World} {lo : Nat} {T : TalkV} {A B : Option Addr} {c d : Nat} {vs : List (Int × Value)} (ho : OwnsS w lo (.slice A T.now.op.length c) T.now.op) (hp : OwnsX 25 w lo (.slice B T.past.length d) vs T.past) : TkOwn w lo T A T.now.op.length c B T.past.length d := by
  obtain ⟨A', c', B', d', h1, h2, h3⟩ := tk_of_owns ho hp
  cases h1; cases h2
  exact ⟨h3, ho, ap_own ho hp.row (by decide), lo_own hp⟩
set_option maxRecDepth 100000 in
set_option maxHeartbeats 8000000 in
theorem sDoBad (T : TalkV) (A B : Option Addr) (n c m d : Nat) (kind : Int) (text : ByteArray) (w : World) (hT : TkAt w T A n c B m d) (hs : SmallT T) (hx : text.size ≤ 1048576) (hok : okT T = false) :
    Calls Tryz.prog 9 #[.agg #[.int .i64 T.things, .int .i64 T.now.known, .slice A n c, .slice B m d], .agg #[.int .i64 kind, .string text]] w (DoPost noTalk false w) := by
  obtain rfl := hT.hn
  obtain rfl := hT.pn
  obtain ⟨HX0, HK0, HR0, HB0⟩ := do_start w T.things T.now.known kind text (.slice A T.now.op.length c) (.slice B T.past.length d)
  have HT := Lib.hid hT
  have HS := Lib.hid hs
  have hol := hs.op
  have hpl := hs.past
  have hx9 : text.size ≤ 9223372036854775807 := by omega
  obtain ⟨t, ht⟩ : ∃ t, T.things = t := ⟨_, rfl⟩
  obtain ⟨q, hq⟩ : ∃ q, T.now.known = q := ⟨_, rfl⟩
  have HTQ : Hid (T.things = t ∧ T.now.known = q) := ⟨ht, hq⟩
  have HOK : Hid (∀ W : World, Below w.heap.size w W → Calls Tryz.prog 19 #[.agg #[.int .i64 t, .int .i64 q, .slice A T.now.op.length c, .slice B T.past.length d]] W fun e w' => e = .returned (.bool (okT T)) ∧ Below W.heap.size W w') := fun W h => by
    have := sTalkOk T A B _ c _ d W (hT.below h) hs
    rw [ht, hq] at this; exact this
  have HCP : Hid (∀ W : World, Below w.heap.size w W → w.heap.size + 3 ≤ W.heap.size → Calls Tryz.prog 38 #[.agg #[.int .i64 t, .int .i64 q, .slice A T.now.op.length c, .slice B T.past.length d]] W (CpPost T (w.heap.size + 3) t q W)) := fun W h h2 => sCopy_is HTQ (hT.below h) hs h2
  rw [hok] at HOK
  rw [ht, hq] at HX0 HK0 HR0 HB0 ⊢
  have HOT := Lib.hid hok
  clear hT hs ht hq hok
  go_enter Tryz.func9, Tryz.ntmps9
  go_wp2_with fail
  obtain ⟨W0, hW0⟩ : ∃ W, ((w.alloc (.cells #[.int .i64 t, .int .i64 q, .slice A T.now.op.length c, .slice B T.past.length d] 28)).alloc (.cells #[.int .i64 kind, .string text] 30)).alloc (.cells #[.int .i64 0, .int .i64 0, .slice none 0 0, .slice none 0 0] 28) = W := ⟨_, rfl⟩
  rw [hW0] at HX0 HK0 HR0 HB0 ⊢
  clear hW0
  refine (HOK.out _ HB0.out).mono ?_
  rintro e w1 ⟨rfl, hb⟩
  have HX1 := Lib.hid (HX0.out.below hb)
  have HK1 := Lib.hid (HK0.out.below hb)
  have HR1 := Lib.hid (HR0.out.below hb)
  have HB1 := Lib.hid (bel_trans HB0.out hb)
  clear hb HX0 HK0 HR0 HB0 HOK
  have hx0 := HX1.out.cell (i := 0) (v := .int .i64 t) rfl
  have hx1 := HX1.out.cell (i := 1) (v := .int .i64 q) rfl
  have hx2 := HX1.out.cell (i := 2) (v := .slice A T.now.op.length c) rfl
  have hx3 := HX1.out.cell (i := 3) (v := .slice B T.past.length d) rfl
  obtain ⟨⟨ha0, ha1, ha2, ha3, ha4, ha5, ha6, ha7⟩, ⟨hb2, hb3⟩, ⟨hb4, hb5⟩, ⟨hb6, hb7⟩, HOUT⟩ := HR1.out.store4 (.int .i64 0) (.int .i64 0) (.slice none 0 0) (.slice none 0 0)
  have HB2 := Lib.hid (bel_set4 HB1.out (show w.heap.size ≤ w.heap.size + 2 by omega) (.int .i64 0) (.int .i64 0) (.slice none 0 0) (.slice none 0 0))
  clear hx0 hx1 hx2 hx3
  go_wp2_with fail
  refine bodyPost_ret_by (results_talkB (b := w.heap.size + 2) rfl rfl rfl HOUT) rfl ⟨none, 0, 0, none, 0, 0, rfl, ⟨fun w' _ => ⟨rfl, Nat.le_refl _, Nat.zero_le _, Strs.nil _ _, rfl, Nat.le_refl _, Nat.zero_le _, StaRow.nil _ _⟩, OwnsS.nil _ _, (fun a b h => by cases h), fun b h => by cases h⟩, HB2.out⟩
theorem text_ne {text : ByteArray} (h : text ≠ ⟨#[]⟩) : (text.toList == (ByteArray.mk #[]).toList) = false ∧ text.toList.isEmpty = false ∧ (text.toList == []) = false := by
  have hn2 : text.toList.isEmpty = false := by
    rw [ByteArray.toList_eq, List.isEmpty_eq_false_iff]
    intro e
    exact h (ByteArray.ext (Array.toList_inj.mp e))
  exact ⟨str_ne h, hn2, by rw [beq_eq_false_iff_ne]; intro e; rw [e] at hn2; cases hn2⟩
set_option maxRecDepth 100000 in
set_option maxHeartbeats 8000000 in
theorem sDoOut (T : TalkV) (A B : Option Addr) (n c m d : Nat) (kind : Int) (text : ByteArray) (w : World) (hT : TkAt w T A n c B m d) (hs : SmallT T) (hx : text.size ≤ 1048576) (hok : okT T = true)
    (hc : ((kind < 0 ∨ 1 < kind) ∧ ¬(kind = 2 ∧ text = ⟨#[]⟩ ∧ 0 < T.past.length)) ∨ (0 ≤ kind ∧ kind ≤ 1 ∧ isT T.things text = false)) :
    Calls Tryz.prog 9 #[.agg #[.int .i64 T.things, .int .i64 T.now.known, .slice A n c, .slice B m d], .agg #[.int .i64 kind, .string text]] w (DoPost T false w) := by
  obtain rfl := hT.hn
  obtain rfl := hT.pn
  obtain ⟨HX0, HK0, HR0, HB0⟩ := do_start w T.things T.now.known kind text (.slice A T.now.op.length c) (.slice B T.past.length d)
  have HT := Lib.hid hT
  have HS := Lib.hid hs
  have hol := hs.op
  have hpl := hs.past
  have hx9 : text.size ≤ 9223372036854775807 := by omega
  obtain ⟨t, ht⟩ : ∃ t, T.things = t := ⟨_, rfl⟩
  obtain ⟨q, hq⟩ : ∃ q, T.now.known = q := ⟨_, rfl⟩
  have HTQ : Hid (T.things = t ∧ T.now.known = q) := ⟨ht, hq⟩
  have HOK : Hid (∀ W : World, Below w.heap.size w W → Calls Tryz.prog 19 #[.agg #[.int .i64 t, .int .i64 q, .slice A T.now.op.length c, .slice B T.past.length d]] W fun e w' => e = .returned (.bool (okT T)) ∧ Below W.heap.size W w') := fun W h => by
    have := sTalkOk T A B _ c _ d W (hT.below h) hs
    rw [ht, hq] at this; exact this
  have HCP : Hid (∀ W : World, Below w.heap.size w W → w.heap.size + 3 ≤ W.heap.size → Calls Tryz.prog 38 #[.agg #[.int .i64 t, .int .i64 q, .slice A T.now.op.length c, .slice B T.past.length d]] W (CpPost T (w.heap.size + 3) t q W)) := fun W h h2 => sCopy_is HTQ (hT.below h) hs h2
  rw [hok] at HOK
  rw [ht, hq] at HX0 HK0 HR0 HB0 ⊢
  have HOT := Lib.hid hok
  clear hT hs ht hq hok
  go_enter Tryz.func9, Tryz.ntmps9
  go_wp2_with fail
  obtain ⟨W0, hW0⟩ : ∃ W, ((w.alloc (.cells #[.int .i64 t, .int .i64 q, .slice A T.now.op.length c, .slice B T.past.length d] 28)).alloc (.cells #[.int .i64 kind, .string text] 30)).alloc (.cells #[.int .i64 0, .int .i64 0, .slice none 0 0, .slice none 0 0] 28) = W := ⟨_, rfl⟩
  rw [hW0] at HX0 HK0 HR0 HB0 ⊢
  clear hW0
  refine (HOK.out _ HB0.out).mono ?_
  rintro e w1 ⟨rfl, hb⟩
  have HX1 := Lib.hid (HX0.out.below hb)
  have HK1 := Lib.hid (HK0.out.below hb)
  have HR1 := Lib.hid (HR0.out.below hb)
  have HB1 := Lib.hid (bel_trans HB0.out hb)
  clear hb HX0 HK0 HR0 HB0 HOK
  have hx0 := HX1.out.cell (i := 0) (v := .int .i64 t) rfl
  have hx1 := HX1.out.cell (i := 1) (v := .int .i64 q) rfl
  have hx2 := HX1.out.cell (i := 2) (v := .slice A T.now.op.length c) rfl
  have hx3 := HX1.out.cell (i := 3) (v := .slice B T.past.length d) rfl
  have HC := Lib.hid hc
  rw [HTQ.out.1] at HC
  clear hc
  have hlo1 : w.heap.size + 3 ≤ w1.heap.size := by have := HR1.out.lt; omega
  go_wp2_with fail
  refine (HCP.out _ HB1.out hlo1).mono ?_
  rintro e w2 ⟨A2, c2, B2, d2, vs, rfl, ho, hp, hb⟩
  obtain ⟨g, hg⟩ : ∃ g, w2.heap.size = g := ⟨_, rfl⟩
  have hsz2 : w1.heap.size ≤ w2.heap.size := hb.size
  have hD : DoAt w g [.int .i64 t, .int .i64 q, .slice A T.now.op.length c, .slice B T.past.length d] [.int .i64 kind, .string text] [.int .i64 t, .int .i64 q, .slice A2 T.now.op.length c2, .slice B2 T.past.length d2] (w2.alloc (.cells #[.int .i64 t, .int .i64 q, .slice A2 T.now.op.length c2, .slice B2 T.past.length d2] 28)) := by
    have := Box.new w2 28 [.int .i64 t, .int .i64 q, .slice A2 T.now.op.length c2, .slice B2 T.past.length d2]
    rw [hg] at this
    exact ⟨(HX1.out.below hb).alloc _, (HK1.out.below hb).alloc _, (HR1.out.below hb).alloc _, this, (bel_trans HB1.out hb).alloc (bel_trans HB1.out hb).size _, by omega⟩
  have hbn : Below w2.heap.size w2 (w2.alloc (.cells #[.int .i64 t, .int .i64 q, .slice A2 T.now.op.length c2, .slice B2 T.past.length d2] 28)) := (Below.refl _ _).alloc (Nat.le_refl _) _
  have HO : Hid (OwnsS (w2.alloc (.cells #[.int .i64 t, .int .i64 q, .slice A2 T.now.op.length c2, .slice B2 T.past.length d2] 28)) (w.heap.size + 3) (.slice A2 T.now.op.length c2) T.now.op) := ho.below hbn
  have HP : Hid (OwnsX 25 (w2.alloc (.cells #[.int .i64 t, .int .i64 q, .slice A2 T.now.op.length c2, .slice B2 T.past.length d2] 28)) (w.heap.size + 3) (.slice B2 T.past.length d2) vs T.past) := hp.below hbn
  have HLT : Hid ((∀ k, (Value.slice A2 T.now.op.length c2).ownBlock = some k → k < g) ∧ ∀ k, (Value.slice B2 T.past.length d2).ownBlock = some k → k < g) := by
    refine ⟨fun k hk => ?_, fun k hk => ?_⟩
    · have := (ho.lt hk).2; omega
    · have := (hp.lt hk).2; omega
  have HD := Lib.hid hD
  clear hD ho hp hb hbn hsz2 hlo1 hx0 hx1 hx2 hx3 HX1 HK1 HR1 HB1 HCP
  go_upto_region 4 with fail
  obtain ⟨w3, hw3⟩ : ∃ w3, w2.alloc (.cells #[.int .i64 t, .int .i64 q, .slice A2 T.now.op.length c2, .slice B2 T.past.length d2] 28) = w3 := ⟨_, rfl⟩
  rw [hw3] at HD HO HP ⊢
  have HSZ : Hid (w3.heap.size = g + 1) := by unfold Hid; rw [← hw3, World.size_alloc, hg]
  clear hw3 hg
  have hx0 := HD.out.x.cell (i := 0) (v := .int .i64 t) rfl
  have hx1 := HD.out.x.cell (i := 1) (v := .int .i64 q) rfl
  have hx2 := HD.out.x.cell (i := 2) (v := .slice A T.now.op.length c) rfl
  have hx3 := HD.out.x.cell (i := 3) (v := .slice B T.past.length d) rfl
  have hk0 := HD.out.d.cell (i := 0) (v := .int .i64 kind) rfl
  have hk1 := HD.out.d.cell (i := 1) (v := .string text) rfl
  have ho0 := HD.out.o.cell (i := 0) (v := .int .i64 t) rfl
  have ho1 := HD.out.o.cell (i := 1) (v := .int .i64 q) rfl
  have ho2 := HD.out.o.cell (i := 2) (v := .slice A2 T.now.op.length c2) rfl
  have ho3 := HD.out.o.cell (i := 3) rfl
  have hsp : (0 : Int) ≤ (T.past.length : Int) := Int.natCast_nonneg _
  rcases HC.out with ⟨h01, h2⟩ | ⟨h0, h1, hS⟩
  · by_cases hk2 : kind = 2
    · subst hk2
      by_cases hte : text = ⟨#[]⟩
      · subst hte
        have hp0 : T.past.length = 0 := Classical.byContradiction fun h => h2 ⟨rfl, rfl, by omega⟩
        have HP0 := Lib.hid hp0
        have hd : decide (0 < T.past.length) = false := decide_eq_false (by omega)
        clear h2 hp0 HC
        obtain ⟨⟨⟨ha0, ha1, ha2, ha3, ha4, ha5, ha6, ha7⟩, ⟨hb2, hb3⟩, ⟨hb4, hb5⟩, ⟨hb6, hb7⟩⟩, HOUT, HIN, HBE⟩ := do_ret HD.out (tk_in HO.out HP.out)
        go_wp2_with (go_at_call 39; refine (sIn_no _ _ _ _ (.inr (by decide))).mono ?_; rintro e w' ⟨rfl, rfl⟩)
        refine bodyPost_ret_by (results_talkB (b := w.heap.size + 2) rfl rfl rfl HOUT) rfl ⟨A2, _, c2, B2, _, d2, by rw [HTQ.out.1, HTQ.out.2]; rfl, HIN.out, HBE.out⟩
      · obtain ⟨hn1, hn2, hn3⟩ := text_ne hte
        clear h2 hte HC
        obtain ⟨⟨⟨ha0, ha1, ha2, ha3, ha4, ha5, ha6, ha7⟩, ⟨hb2, hb3⟩, ⟨hb4, hb5⟩, ⟨hb6, hb7⟩⟩, HOUT, HIN, HBE⟩ := do_ret HD.out (tk_in HO.out HP.out)
        go_wp2_with (go_at_call 39; refine (sIn_no _ _ _ _ (.inr (by decide))).mono ?_; rintro e w' ⟨rfl, rfl⟩)
        refine bodyPost_ret_by (results_talkB (b := w.heap.size + 2) rfl rfl rfl HOUT) rfl ⟨A2, _, c2, B2, _, d2, by rw [HTQ.out.1, HTQ.out.2]; rfl, HIN.out, HBE.out⟩
    · have hkb : (kind == 2) = false := by rw [beq_eq_false_iff_ne]; exact hk2
      have HK := Lib.hid h01
      clear h2 hk2 HC h01
      obtain ⟨⟨⟨ha0, ha1, ha2, ha3, ha4, ha5, ha6, ha7⟩, ⟨hb2, hb3⟩, ⟨hb4, hb5⟩, ⟨hb6, hb7⟩⟩, HOUT, HIN, HBE⟩ := do_ret HD.out (tk_in HO.out HP.out)
      go_wp2_with (go_at_call 39; refine (sIn_no _ _ _ _ HK.out).mono ?_; rintro e w' ⟨rfl, rfl⟩)
      refine bodyPost_ret_by (results_talkB (b := w.heap.size + 2) rfl rfl rfl HOUT) rfl ⟨A2, _, c2, B2, _, d2, by rw [HTQ.out.1, HTQ.out.2]; rfl, HIN.out, HBE.out⟩
  · have hkb : (kind == 2) = false := by rw [beq_eq_false_iff_ne]; omega
    have HK := Lib.hid (And.intro h0 h1)
    have HIS := Lib.hid hS
    clear HC h0 h1 hS
    go_wp2_with (go_at_call 39; refine (sIn_yes _ _ _ _ HK.out.1 HK.out.2).mono ?_; rintro e w' ⟨rfl, rfl⟩)
    refine (sSentence_is HIS _ hx9).mono ?_
    rintro e w4 ⟨rfl, hb⟩
    clear hx0 hx1 hx2 hx3 hk0 hk1 ho0 ho1 ho2 ho3
    replace HD := Lib.hid (HD.out.below hb)
    replace HO := Lib.hid (HO.out.below hb)
    replace HP := Lib.hid (HP.out.below hb)
    clear hb
    have hx0 := HD.out.x.cell (i := 0) (v := .int .i64 t) rfl
    have hx1 := HD.out.x.cell (i := 1) (v := .int .i64 q) rfl
    have hx2 := HD.out.x.cell (i := 2) (v := .slice A T.now.op.length c) rfl
    have hx3 := HD.out.x.cell (i := 3) (v := .slice B T.past.length d) rfl
    have hk0 := HD.out.d.cell (i := 0) (v := .int .i64 kind) rfl
    have hk1 := HD.out.d.cell (i := 1) (v := .string text) rfl
    have ho0 := HD.out.o.cell (i := 0) (v := .int .i64 t) rfl
    have ho1 := HD.out.o.cell (i := 1) (v := .int .i64 q) rfl
    have ho2 := HD.out.o.cell (i := 2) (v := .slice A2 T.now.op.length c2) rfl
    have ho3 := HD.out.o.cell (i := 3) rfl
    obtain ⟨⟨⟨ha0, ha1, ha2, ha3, ha4, ha5, ha6, ha7⟩, ⟨hb2, hb3⟩, ⟨hb4, hb5⟩, ⟨hb6, hb7⟩⟩, HOUT, HIN, HBE⟩ := do_ret HD.out (tk_in HO.out HP.out)
    go_wp2_with fail
    refine bodyPost_ret_by (results_talkB (b := w.heap.size + 2) rfl rfl rfl HOUT) rfl ⟨A2, _, c2, B2, _, d2, by rw [HTQ.out.1, HTQ.out.2]; rfl, HIN.out, HBE.out⟩
/-! A state into the copy. -/
theorem DoAt.put12 {w wx : World} {g : Nat} {arg kd : List Value} {a0 a1 a2 a3 : Value} (h : DoAt w g arg kd [a0, a1, a2, a3] wx) (u v : Value) :
    (wx.cell? ⟨g, 1, none⟩ = some a1 ∧ wx.cell? ⟨g, 2, none⟩ = some a2 ∧ wx.frozen? ⟨g, 1, none⟩ = false ∧ wx.frozen? ⟨g, 2, none⟩ = false ∧ (wx.setCell ⟨g, 1, none⟩ u).cell? ⟨g, 2, none⟩ = some a2 ∧ (wx.setCell ⟨g, 1, none⟩ u).frozen? ⟨g, 2, none⟩ = false) ∧
    Hid (DoAt w g arg kd [a0, u, v, a3] ((wx.setCell ⟨g, 1, none⟩ u).setCell ⟨g, 2, none⟩ v)) := by
  have hlo := h.lo
  have h1 := h.o.set 1 u
  refine ⟨⟨h.o.cell rfl, h.o.cell rfl, h.o.frozen 1, h.o.frozen 2, h1.cell rfl, h1.frozen 2⟩, ?_⟩
  exact ⟨(h.x.other (by omega) _).other (by omega) _, (h.d.other (by omega) _).other (by omega) _, (h.r.other (by omega) _).other (by omega) _, h1.set 2 v, (h.b.setCell (p := ⟨g, 1, none⟩) (by show w.heap.size ≤ g; omega) _).setCell (p := ⟨g, 2, none⟩) (by show w.heap.size ≤ g; omega) _, hlo⟩
theorem DoAt.put3 {w wx : World} {g : Nat} {arg kd : List Value} {a0 a1 a2 a3 : Value} (h : DoAt w g arg kd [a0, a1, a2, a3] wx) (v : Value) :
    (wx.cell? ⟨g, 3, none⟩ = some a3 ∧ wx.frozen? ⟨g, 3, none⟩ = false) ∧ Hid (DoAt w g arg kd [a0, a1, a2, v] (wx.setCell ⟨g, 3, none⟩ v)) := by
  have hlo := h.lo
  exact ⟨⟨h.o.cell rfl, h.o.frozen 3⟩, h.x.other (by omega) _, h.d.other (by omega) _, h.r.other (by omega) _, h.o.set 3 v, h.b.setCell (p := ⟨g, 3, none⟩) (by show w.heap.size ≤ g; omega) _, hlo⟩
theorem OwnsS.set12 {w : World} {base g : Nat} {v : Value} {xs : List ByteArray} {cs : List Value} (h : OwnsS w base v xs) (hb : Box w g 28 cs) (a b : Value) : OwnsS ((w.setCell ⟨g, 1, none⟩ a).setCell ⟨g, 2, none⟩ b) base v xs :=
  (h.setBox hb (by decide)).setBox (hb.set 1 a) (by decide)
theorem OwnsX.set12 {w : World} {base g : Nat} {v : Value} {vs : List (Int × Value)} {xs : List (St ByteArray)} {cs : List Value} (h : OwnsX 25 w base v vs xs) (hb : Box w g 28 cs) (a b : Value) : OwnsX 25 ((w.setCell ⟨g, 1, none⟩ a).setCell ⟨g, 2, none⟩ b) base v vs xs :=
  (h.setBox hb (by decide) (by decide)).setBox (hb.set 1 a) (by decide) (by decide)
theorem StaRow.take {w : World} {A : Option Addr} {xs : List (St ByteArray)} (h : StaRow w A xs) (k : Nat) : StaRow w A (xs.take k) := by
  intro hp
  rw [List.length_take] at hp
  obtain ⟨b, off, rfl, hlt, hc⟩ := h (by omega)
  refine ⟨b, off, rfl, hlt, fun i x hx => hc i x ?_⟩
  have hi : i < k := by
    have := (List.getElem?_eq_some_iff.1 hx).1
    rw [List.length_take] at this; omega
  rw [List.getElem?_take_of_lt hi] at hx
  exact hx
theorem StaRow.drop1 {w : World} {b off : Nat} {xs : List (St ByteArray)} (h : StaRow w (some ⟨b, off, none⟩) xs) : StaRow w (some ⟨b, off + 2, none⟩) xs.tail := by
  intro hp
  rw [List.length_tail] at hp
  obtain ⟨b', off', e, hlt, hc⟩ := h (by omega)
  cases e
  refine ⟨b, off + 2, rfl, hlt, fun i x hx => ?_⟩
  rw [List.getElem?_tail] at hx
  obtain ⟨Ai, ci, h1, h2, h3⟩ := hc (i + 1) x hx
  exact ⟨Ai, ci, by rw [show off + 2 + i * 2 = off + (i + 1) * 2 by omega]; exact h1, by rw [show off + 2 + i * 2 + 1 = off + (i + 1) * 2 + 1 by omega]; exact h2, h3⟩
/-- One state of a slice of the call's own. -/
theorem OwnsX.elem {w : World} {lo d : Nat} {B : Option Addr} {vs : List (Int × Value)} {xs : List (St ByteArray)} (h : OwnsX 25 w lo (.slice B xs.length d) vs xs) {i : Nat} (hi : i < xs.length) :
    ∃ b off Ai ci x, B = some ⟨b, off, none⟩ ∧ w.cell? ⟨b, off + i * 2, none⟩ = some (.int .i64 x.known) ∧ w.cell? ⟨b, off + i * 2 + 1, none⟩ = some (.slice Ai x.op.length ci) ∧ Hid (xs[i]? = some x) ∧ Hid (OwnsS w lo (.slice Ai x.op.length ci) x.op) := by
  have hx : xs[i]? = some xs[i] := List.getElem?_eq_getElem hi
  obtain ⟨v, h1, h2, _⟩ := h.sees.at_ i _ hx
  obtain ⟨A', c', e, _, _, hrow, _⟩ := h.form
  cases e
  obtain ⟨b, off, rfl, hlt, hc⟩ := hrow (by omega)
  obtain ⟨Ai, ci, e0, e1, _⟩ := hc i _ hx
  refine ⟨b, off, Ai, ci, xs[i], rfl, e0, e1, hx, ?_⟩
  rcases h.row.2 with ⟨hv, hl⟩ | ⟨k, cap, cur, hv, hb, hg, hn, hm, _, _⟩
  · simp at hv
  · simp only [Value.slice.injEq, Option.some.injEq, Addr.mk.injEq] at hv
    obtain ⟨⟨rfl, rfl, _⟩, _, rfl⟩ := hv
    obtain ⟨_, g2⟩ := cellsX_get vs i _ h1
    have e2 := World.ownsRow.cells h.row (g := b) rfl _ _ g2
    have ea : ∀ j, (⟨b, 0, none⟩ : Addr).add j = ⟨b, 0 + j, none⟩ := fun j => by unfold Addr.add; split <;> simp_all
    rw [ea, ← Nat.add_assoc] at e2
    rw [e2] at e1
    cases e1
    exact h2
theorem back_in {w : World} {lo d j ci : Nat} {t : Int} {Ai B : Option Addr} {x : St ByteArray} {vs : List (Int × Value)} {xs : List (St ByteArray)} (hu : OwnsS w lo (.slice Ai x.op.length ci) x.op) (hp : OwnsX 25 w lo (.slice B xs.length d) vs xs) (hj : xs.length = j + 1) :
    TkOwn w lo ⟨t, x, xs.dropLast⟩ Ai x.op.length ci B j d := by
  refine ⟨fun w' hk => ?_, hu, ap_own hu hp.row (by decide), lo_own hp⟩
  obtain ⟨A', c', e, h1, h2, h3, _⟩ := (hu.keep hk).form
  cases e
  obtain ⟨B', d', e, h4, h5, h6, _⟩ := (hp.keep hk).form
  cases e
  refine ⟨rfl, h1, h2, h3, by rw [List.length_dropLast, hj]; rfl, by omega, h5, ?_⟩
  rw [List.dropLast_eq_take]
  exact h6.take _
set_option maxRecDepth 100000 in
set_option maxHeartbeats 8000000 in
theorem sDoBack (T : TalkV) (A B : Option Addr) (n c m d : Nat) (w : World) (hT : TkAt w T A n c B m d) (hs : SmallT T) (hok : okT T = true) (X : TalkV) (hX : doT T 2 ⟨#[]⟩ = some X) :
    Calls Tryz.prog 9 #[.agg #[.int .i64 T.things, .int .i64 T.now.known, .slice A n c, .slice B m d], .agg #[.int .i64 2, .string ⟨#[]⟩]] w (DoPost X true w) := by
  obtain ⟨j, hjl⟩ : ∃ j, T.past.length = j + 1 := by
    refine ⟨T.past.length - 1, ?_⟩
    have : T.past ≠ [] := fun e => by
      unfold doT talkDo at hX
      rw [if_pos rfl, if_pos (show (ByteArray.mk #[]) = asksT.none from rfl), e] at hX
      cases hX
    have := List.length_pos_iff.2 this
    omega
  have HXX : Hid (∀ x, T.past[j]? = some x → X = ⟨T.things, x, T.past.dropLast⟩) := fun x hx => by
    unfold doT talkDo at hX
    rw [if_pos rfl, if_pos (show (ByteArray.mk #[]) = asksT.none from rfl), List.getLast?_eq_getElem?, hjl, Nat.add_sub_cancel, hx] at hX
    exact (Option.some.inj hX).symm
  have HJL := Lib.hid hjl
  clear hX hjl
  obtain rfl := hT.hn
  obtain rfl := hT.pn
  obtain ⟨HX0, HK0, HR0, HB0⟩ := do_start w T.things T.now.known 2 ⟨#[]⟩ (.slice A T.now.op.length c) (.slice B T.past.length d)
  have HT := Lib.hid hT
  have HS := Lib.hid hs
  have hol := hs.op
  have hpl := hs.past
  obtain ⟨t, ht⟩ : ∃ t, T.things = t := ⟨_, rfl⟩
  obtain ⟨q, hq⟩ : ∃ q, T.now.known = q := ⟨_, rfl⟩
  have HTQ : Hid (T.things = t ∧ T.now.known = q) := ⟨ht, hq⟩
  have HOK : Hid (∀ W : World, Below w.heap.size w W → Calls Tryz.prog 19 #[.agg #[.int .i64 t, .int .i64 q, .slice A T.now.op.length c, .slice B T.past.length d]] W fun e w' => e = .returned (.bool (okT T)) ∧ Below W.heap.size W w') := fun W h => by
    have := sTalkOk T A B _ c _ d W (hT.below h) hs
    rw [ht, hq] at this; exact this
  have HCP : Hid (∀ W : World, Below w.heap.size w W → w.heap.size + 3 ≤ W.heap.size → Calls Tryz.prog 38 #[.agg #[.int .i64 t, .int .i64 q, .slice A T.now.op.length c, .slice B T.past.length d]] W (CpPost T (w.heap.size + 3) t q W)) := fun W h h2 => sCopy_is HTQ (hT.below h) hs h2
  rw [hok] at HOK
  rw [ht, hq] at HX0 HK0 HR0 HB0 ⊢
  have HOT := Lib.hid hok
  clear hT hs ht hq hok
  go_enter Tryz.func9, Tryz.ntmps9
  go_wp2_with fail
  obtain ⟨W0, hW0⟩ : ∃ W, ((w.alloc (.cells #[.int .i64 t, .int .i64 q, .slice A T.now.op.length c, .slice B T.past.length d] 28)).alloc (.cells #[.int .i64 2, .string ⟨#[]⟩] 30)).alloc (.cells #[.int .i64 0, .int .i64 0, .slice none 0 0, .slice none 0 0] 28) = W := ⟨_, rfl⟩
  rw [hW0] at HX0 HK0 HR0 HB0 ⊢
  clear hW0
  refine (HOK.out _ HB0.out).mono ?_
  rintro e w1 ⟨rfl, hb⟩
  have HX1 := Lib.hid (HX0.out.below hb)
  have HK1 := Lib.hid (HK0.out.below hb)
  have HR1 := Lib.hid (HR0.out.below hb)
  have HB1 := Lib.hid (bel_trans HB0.out hb)
  clear hb HX0 HK0 HR0 HB0 HOK
  have hx0 := HX1.out.cell (i := 0) (v := .int .i64 t) rfl
  have hx1 := HX1.out.cell (i := 1) (v := .int .i64 q) rfl
  have hx2 := HX1.out.cell (i := 2) (v := .slice A T.now.op.length c) rfl
  have hx3 := HX1.out.cell (i := 3) (v := .slice B T.past.length d) rfl
  have hlo1 : w.heap.size + 3 ≤ w1.heap.size := by have := HR1.out.lt; omega
  go_wp2_with fail
  refine (HCP.out _ HB1.out hlo1).mono ?_
  rintro e w2 ⟨A2, c2, B2, d2, vs, rfl, ho, hp, hb⟩
  obtain ⟨g, hg⟩ : ∃ g, w2.heap.size = g := ⟨_, rfl⟩
  have hsz2 : w1.heap.size ≤ w2.heap.size := hb.size
  have hD : DoAt w g [.int .i64 t, .int .i64 q, .slice A T.now.op.length c, .slice B T.past.length d] [.int .i64 2, .string ⟨#[]⟩] [.int .i64 t, .int .i64 q, .slice A2 T.now.op.length c2, .slice B2 T.past.length d2] (w2.alloc (.cells #[.int .i64 t, .int .i64 q, .slice A2 T.now.op.length c2, .slice B2 T.past.length d2] 28)) := by
    have := Box.new w2 28 [.int .i64 t, .int .i64 q, .slice A2 T.now.op.length c2, .slice B2 T.past.length d2]
    rw [hg] at this
    exact ⟨(HX1.out.below hb).alloc _, (HK1.out.below hb).alloc _, (HR1.out.below hb).alloc _, this, (bel_trans HB1.out hb).alloc (bel_trans HB1.out hb).size _, by omega⟩
  have hbn : Below w2.heap.size w2 (w2.alloc (.cells #[.int .i64 t, .int .i64 q, .slice A2 T.now.op.length c2, .slice B2 T.past.length d2] 28)) := (Below.refl _ _).alloc (Nat.le_refl _) _
  have HO : Hid (OwnsS (w2.alloc (.cells #[.int .i64 t, .int .i64 q, .slice A2 T.now.op.length c2, .slice B2 T.past.length d2] 28)) (w.heap.size + 3) (.slice A2 T.now.op.length c2) T.now.op) := ho.below hbn
  have HP : Hid (OwnsX 25 (w2.alloc (.cells #[.int .i64 t, .int .i64 q, .slice A2 T.now.op.length c2, .slice B2 T.past.length d2] 28)) (w.heap.size + 3) (.slice B2 T.past.length d2) vs T.past) := hp.below hbn
  have HLT : Hid ((∀ k, (Value.slice A2 T.now.op.length c2).ownBlock = some k → k < g) ∧ ∀ k, (Value.slice B2 T.past.length d2).ownBlock = some k → k < g) := by
    refine ⟨fun k hk => ?_, fun k hk => ?_⟩
    · have := (ho.lt hk).2; omega
    · have := (hp.lt hk).2; omega
  have HD := Lib.hid hD
  clear hD ho hp hb hbn hsz2 hlo1 hx0 hx1 hx2 hx3 HX1 HK1 HR1 HB1 HCP
  go_upto_region 4 with fail
  obtain ⟨w3, hw3⟩ : ∃ w3, w2.alloc (.cells #[.int .i64 t, .int .i64 q, .slice A2 T.now.op.length c2, .slice B2 T.past.length d2] 28) = w3 := ⟨_, rfl⟩
  rw [hw3] at HD HO HP ⊢
  have HSZ : Hid (w3.heap.size = g + 1) := by unfold Hid; rw [← hw3, World.size_alloc, hg]
  clear hw3 hg
  have hjlt : j < T.past.length := by have := HJL.out; omega
  have hji : (T.past.length : Int) - 1 = (j : Int) := by have := HJL.out; omega
  obtain ⟨b, off, Ai, ci, x, rfl, he0, he1, hx, hu⟩ := HP.out.elem hjlt
  have HXE := Lib.hid (HXX.out x hx.out)
  have hd : decide (0 < T.past.length) = true := decide_eq_true (by omega)
  obtain ⟨⟨hp0, hp1, hp2, hp3, hp4, hp5⟩, HD2⟩ := HD.out.put12 (.int .i64 x.known) (.slice Ai x.op.length ci)
  have HO2 := Lib.hid (hu.out.set12 HD.out.o (.int .i64 x.known) (.slice Ai x.op.length ci))
  have HP2 := Lib.hid (HP.out.set12 HD.out.o (.int .i64 x.known) (.slice Ai x.op.length ci))
  have hx0 := HD.out.x.cell (i := 0) (v := .int .i64 t) rfl
  have hx1 := HD.out.x.cell (i := 1) (v := .int .i64 q) rfl
  have hx2 := HD.out.x.cell (i := 2) (v := .slice A T.now.op.length c) rfl
  have hx3 := HD.out.x.cell (i := 3) (v := .slice B T.past.length d) rfl
  have hk0 := HD.out.d.cell (i := 0) (v := .int .i64 2) rfl
  have hk1 := HD.out.d.cell (i := 1) (v := .string ⟨#[]⟩) rfl
  have ho0 := HD.out.o.cell (i := 0) (v := .int .i64 t) rfl
  have ho1 := HD.out.o.cell (i := 1) (v := .int .i64 q) rfl
  have ho2 := HD.out.o.cell (i := 2) (v := .slice A2 T.now.op.length c2) rfl
  have ho3 := HD.out.o.cell (i := 3) rfl
  go_upto_region 7 with fail
  obtain ⟨w4, hw4⟩ : ∃ w4, (w3.setCell ⟨g, 1, none⟩ (.int .i64 x.known)).setCell ⟨g, 2, none⟩ (.slice Ai x.op.length ci) = w4 := ⟨_, rfl⟩
  rw [hw4] at HD2 HO2 HP2 ⊢
  clear hw4 hx0 hx1 hx2 hx3 hk0 hk1 ho0 ho1 ho2 ho3 hp0 hp1 hp2 hp3 hp4 hp5 he0 he1 hd HD HO HP hu
  obtain ⟨⟨hq0, hq1⟩, HD3⟩ := HD2.out.put3 (.slice (some ⟨b, off, none⟩) j d2)
  have HO3 := Lib.hid (HO2.out.setBox (i := 3) (u := .slice (some ⟨b, off, none⟩) j d2) HD2.out.o (by decide))
  have HP3 := Lib.hid (HP2.out.setBox (i := 3) (u := .slice (some ⟨b, off, none⟩) j d2) HD2.out.o (by decide) (by decide))
  have hjd : j ≤ d2 := by
    obtain ⟨_, _, e, h, _⟩ := HP2.out.form
    cases e
    omega
  go_upto_region 8 with fail
  obtain ⟨w5, hw5⟩ : ∃ w5, w4.setCell ⟨g, 3, none⟩ (.slice (some ⟨b, off, none⟩) j d2) = w5 := ⟨_, rfl⟩
  rw [hw5] at HD3 HO3 HP3 ⊢
  clear hw5 hq0 hq1 HD2 HO2 HP2
  have ho0 := HD3.out.o.cell (i := 0) rfl
  have ho1 := HD3.out.o.cell (i := 1) rfl
  have ho2 := HD3.out.o.cell (i := 2) rfl
  have ho3 := HD3.out.o.cell (i := 3) rfl
  obtain ⟨⟨⟨ha0, ha1, ha2, ha3, ha4, ha5, ha6, ha7⟩, ⟨hb2, hb3⟩, ⟨hb4, hb5⟩, ⟨hb6, hb7⟩⟩, HOUT, HIN, HBE⟩ := do_ret HD3.out (back_in (t := T.things) HO3.out HP3.out HJL.out)
  go_wp2_with fail
  refine bodyPost_ret_by (results_talkB (b := w.heap.size + 2) rfl rfl rfl HOUT) rfl ⟨Ai, _, ci, _, _, d2, by rw [HXE.out]; show _ = Ending.returned (.tuple #[.agg #[.int .i64 T.things, _, _, _], _]); rw [HTQ.out.1]; rfl, by rw [HXE.out]; exact HIN.out, HBE.out⟩
end Go.Proofs.YtmdogidflaplkaaGreat
