/-
  What the proofs of this seat's statements share (TdxA).
-/
import Derived.Test.YtmdogidflaplkaaGreatU32
import Derived.Test.YtmdogidflaplkaaGreatU37
import Derived.Test.YtmdogidflaplkaaGreatU27
import Derived.Test.YtmdogidflaplkaaGreatU39

namespace Go.Proofs.YtmdogidflaplkaaGreat
open Go.RowKit

theorem OwnT.ownA {w : World} {lo mid : Nat} {T : TalkV} {o p : Value} {vs : List (Int × Value)} (h : OwnT w lo T o p vs mid) : OwnA w lo o p vs T.now.op T.past := by
  obtain ⟨h1, h2, h3, h4, _, h6⟩ := h
  have hvl := h3.sees.len
  refine ⟨h1, h3.base h6, fun u hu k hk e => ?_, h4.2.imp fun {u v} huv k h5 h7 => by have := huv k k h5 h7; omega⟩
  obtain ⟨i, hi⟩ := List.mem_iff_getElem?.1 hu
  have hil := (List.getElem?_eq_some_iff.1 hi).1
  obtain ⟨v, g1, g2⟩ := h4.1 i T.past[i] hil (List.getElem?_eq_getElem (by omega))
  rw [hi] at g1
  cases g1
  have a1 := (g2.lt hk).1
  have a2 := h2 k e
  omega
theorem OwnA.below {w w' : World} {lo : Nat} {o p : Value} {vs : List (Int × Value)} {os : List ByteArray} {xs : List (St ByteArray)} (h : OwnA w lo o p vs os xs) (hb : Below w.heap.size w w') : OwnA w' lo o p vs os xs := ⟨h.1.below hb, h.2.1.below hb, h.2.2⟩
theorem OwnA.base {w : World} {lo lo2 : Nat} {o p : Value} {vs : List (Int × Value)} {os : List ByteArray} {xs : List (St ByteArray)} (h : OwnA w lo o p vs os xs) (hl : lo2 ≤ lo) : OwnA w lo2 o p vs os xs := ⟨h.1.base hl, h.2.1.base hl, h.2.2⟩
theorem OwnA.turns {P : Nat → Prop} {w w' : World} {lo : Nat} {o p : Value} {vs : List (Int × Value)} {os : List ByteArray} {xs : List (St ByteArray)} (h : OwnA w lo o p vs os xs) (ht : Turns P w w') (hp : ∀ b, BlkT o p vs b → ¬ P b) : OwnA w' lo o p vs os xs :=
  ⟨h.1.turns ht (fun k e => hp k (.inl e)), h.2.1.turns ht (fun k e => hp k (.inr (.inl e))) (fun u hu k e => hp k (.inr (.inr ⟨_, List.mem_map.2 ⟨u, hu, rfl⟩, e⟩))), h.2.2⟩
theorem OwnA.set4 {w : World} {lo g : Nat} {o p : Value} {vs : List (Int × Value)} {os : List ByteArray} {xs : List (St ByteArray)} {T : TypeId} {cs : List Value} (h : OwnA w lo o p vs os xs) (hb : Box w g T cs) (hT : T ≠ 9) (hT2 : T ≠ 25) (a b c d : Value) : OwnA ((((w.setCell ⟨g, 0, none⟩ a).setCell ⟨g, 1, none⟩ b).setCell ⟨g, 2, none⟩ c).setCell ⟨g, 3, none⟩ d) lo o p vs os xs :=
  ⟨h.1.setBox4 hb hT a b c d, h.2.1.setBox4 hb hT hT2 a b c d, h.2.2⟩
theorem OwnA.at_ {w : World} {lo n c m d : Nat} {A B : Option Addr} {vs : List (Int × Value)} {T : TalkV} (h : OwnA w lo (.slice A n c) (.slice B m d) vs T.now.op T.past) : TkAt w T A n c B m d := by
  obtain ⟨A', c', B', d', e1, e2, hin⟩ := tk_of_owns h.1 h.2.1
  cases e1
  cases e2
  exact hin.at_
theorem box_blkt {w : World} {lo b : Nat} {o p : Value} {vs : List (Int × Value)} {os : List ByteArray} {xs : List (St ByteArray)} {T : TypeId} {cs : List Value} (h : OwnA w lo o p vs os xs) (hb : Box w b T cs) (hT : T ≠ 9) (hT2 : T ≠ 25) : ¬ BlkT o p vs b := by
  rintro (e | e | ⟨u, hu, e⟩)
  · exact box_apart hb h.1 hT b e rfl
  · exact box_apart hb h.2.1.row hT2 b e rfl
  · obtain ⟨x, hx, rfl⟩ := List.mem_map.1 hu
    obtain ⟨i, hi⟩ := List.mem_iff_getElem?.1 hx
    have hil := (List.getElem?_eq_some_iff.1 hi).1
    have hl := h.2.1.sees.len
    obtain ⟨v, g1, g2, _⟩ := h.2.1.sees.at_ i xs[i] (List.getElem?_eq_getElem (by omega))
    rw [hi] at g1
    cases g1
    exact box_apart hb g2 hT b e rfl
/-- A talk and a bool that were handed back, in memory that lies from the call on. -/
def InPost (X : TalkV) (b : Bool) (W : World) (e : Ending) (w' : World) : Prop := ∃ A n c B m d, e = .returned (.tuple #[.agg #[.int .i64 X.things, .int .i64 X.now.known, .slice A n c, .slice B m d], .bool b]) ∧ TkIn w' W.heap.size X A n c B m d ∧ Below W.heap.size W w'
theorem iTalkDo_in {T X : TalkV} {A B : Option Addr} {n c m d : Nat} {kind : Int} {text : ByteArray} {b : Bool} {w : World} (h : Hid (doTo T kind text = (X, b))) (hT : TkAt w T A n c B m d) (hs : SmallT T) (hx : text.size ≤ 1048576) :
    Calls Tryz.prog 8 #[.agg #[.int .i64 T.things, .int .i64 T.now.known, .slice A n c, .slice B m d], .agg #[.int .i64 kind, .string text]] w (InPost X b w) := by
  have := iTalkDo T A B n c m d kind text w hT hs hx
  rw [h.out] at this
  refine this.mono ?_
  rintro e w' ⟨o, p, vs, rfl, ho, hp, _, hb⟩
  obtain ⟨A', c', B', d', rfl, rfl, hin⟩ := tk_of_owns ho hp
  exact ⟨A', _, c', B', _, d', rfl, hin, hb⟩
theorem sTalkDo_in {T X : TalkV} {A B : Option Addr} {n c m d : Nat} {kind : Int} {text : ByteArray} {b : Bool} {w : World} (h : Hid (doTo T kind text = (X, b))) (hT : TkAt w T A n c B m d) (hs : SmallT T) (hx : text.size ≤ 1048576) :
    Calls Tryz.prog 9 #[.agg #[.int .i64 T.things, .int .i64 T.now.known, .slice A n c, .slice B m d], .agg #[.int .i64 kind, .string text]] w (InPost X b w) := by
  have := sTalkDo T A B n c m d kind text w hT hs hx
  rw [h.out] at this
  refine this.mono ?_
  rintro e w' ⟨A', n', c', B', m', d', rfl, hown, hb⟩
  exact ⟨A', n', c', B', m', d', rfl, hown.1, hb⟩
/-- A talk of the call's own and a bool. -/
def OwnPostT (X : TalkV) (b : Bool) (W : World) (e : Ending) (w' : World) : Prop := ∃ A n c B m d vs, e = .returned (.tuple #[.agg #[.int .i64 X.things, .int .i64 X.now.known, .slice A n c, .slice B m d], .bool b]) ∧ OwnA w' W.heap.size (.slice A n c) (.slice B m d) vs X.now.op X.past ∧ Below W.heap.size W w'
theorem iTalkDo_own {T X : TalkV} {A B : Option Addr} {n c m d : Nat} {kind : Int} {text : ByteArray} {b : Bool} {w : World} (h : Hid (doTo T kind text = (X, b))) (hT : TkAt w T A n c B m d) (hs : SmallT T) (hx : text.size ≤ 1048576) :
    Calls Tryz.prog 8 #[.agg #[.int .i64 T.things, .int .i64 T.now.known, .slice A n c, .slice B m d], .agg #[.int .i64 kind, .string text]] w (OwnPostT X b w) := by
  have := iTalkDo T A B n c m d kind text w hT hs hx
  rw [h.out] at this
  refine this.mono ?_
  rintro e w' ⟨o, p, vs, rfl, ho, hp, hap, hb⟩
  obtain ⟨A', c', B', d', rfl, rfl, _⟩ := tk_of_owns ho hp
  exact ⟨A', _, c', B', _, d', vs, rfl, ⟨ho, hp, hap⟩, hb⟩
theorem strs_own {w : World} {lo n c : Nat} {A : Option Addr} {xs : List ByteArray} (h : OwnsS w lo (.slice A n c) xs) : Strs w A xs := by
  obtain ⟨A', c', e1, _, _, h4, _⟩ := h.form
  simp only [Value.slice.injEq] at e1
  obtain ⟨rfl, _, rfl⟩ := e1
  exact h4
theorem sta_own {e : TypeId} {w : World} {lo n c : Nat} {B : Option Addr} {vs : List (Int × Value)} {xs : List (St ByteArray)} (h : OwnsX e w lo (.slice B n c) vs xs) : StaRow w B xs := by
  obtain ⟨A', c', e1, _, _, h4, _⟩ := h.form
  simp only [Value.slice.injEq] at e1
  obtain ⟨rfl, _, rfl⟩ := e1
  exact h4
theorem bel_al (W : World) (o : Obj) : Below W.heap.size W (W.alloc o) := (Below.refl _ _).alloc (Nat.le_refl _) _
theorem zbox {B : Nat} {W0 wx : World} (_ : Below B W0 wx) : Box (wx.alloc (.cells #[.int .i64 0, .int .i64 0, .slice none 0 0, .slice none 0 0] 28)) wx.heap.size 28 [.int .i64 0, .int .i64 0, .slice none 0 0, .slice none 0 0] := Box.new wx _ [.int .i64 0, .int .i64 0, .slice none 0 0, .slice none 0 0]
/-- A result that the variable's block, laid later, does not turn. -/
theorem at_set4 {w : World} {X : TalkV} {A B : Option Addr} {n c m d : Nat} (h : TkAt w X A n c B m d) (o : Obj) (a b r q : Value) : TkAt (((((w.alloc o).setCell ⟨w.heap.size, 0, none⟩ a).setCell ⟨w.heap.size, 1, none⟩ b).setCell ⟨w.heap.size, 2, none⟩ r).setCell ⟨w.heap.size, 3, none⟩ q) X A n c B m d := h.below (bel_set4 (bel_al w o) (Nat.le_refl _) a b r q)
/-- A new variable for a talk: the world gets a letter. -/
theorem al_gen {B : Nat} {W0 wx : World} (h : Below B W0 wx) (hB : B ≤ wx.heap.size) : ∃ wz, wx.alloc (.cells #[.int .i64 0, .int .i64 0, .slice none 0 0, .slice none 0 0] 28) = wz ∧ Hid (Box wz wx.heap.size 28 [.int .i64 0, .int .i64 0, .slice none 0 0, .slice none 0 0]) ∧ Hid (B ≤ wx.heap.size) ∧ Hid (Below B W0 wz) ∧ Hid (Below wx.heap.size wx wz) :=
  ⟨_, rfl, zbox h, hB, h.alloc hB _, bel_al _ _⟩
theorem at_set4z {w wz : World} {X : TalkV} {A B : Option Addr} {n c m d : Nat} {o : Obj} (h : TkAt w X A n c B m d) (hz : w.alloc o = wz) (a b r q : Value) : TkAt ((((wz.setCell ⟨w.heap.size, 0, none⟩ a).setCell ⟨w.heap.size, 1, none⟩ b).setCell ⟨w.heap.size, 2, none⟩ r).setCell ⟨w.heap.size, 3, none⟩ q) X A n c B m d := by
  subst hz
  exact at_set4 h o a b r q
end Go.Proofs.YtmdogidflaplkaaGreat
