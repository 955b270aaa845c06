/-
  What the proofs of this seat's statements share (DrwJ, DrwK, TdwD, TdwA, TdxA, RunA).
-/
import Derived.Maps.AppendAt
import Derived.Deep.RegionHeld3
import Derived.Test.YtmdogidflaplkaaGreatU37
import Derived.Test.YtmdogidflaplkaaGreatU17
import Derived.Test.YtmdogidflaplkaaGreatU16
import Derived.Test.YtmdogidflaplkaaGreatU36
import Derived.Test.YtmdogidflaplkaaGreatU27
import Derived.Test.YtmdogidflaplkaaGreatU21
import Derived.Test.YtmdogidflaplkaaGreatU32

namespace Go.Proofs.YtmdogidflaplkaaGreat
open Go.RowKit

/-- A talk whose memory none of the blocks 'bad' may turn. -/
def Live (wr : World) (bad : Nat → Prop) (T : TalkV) (A : Option Addr) (n c : Nat) (B : Option Addr) (m d : Nat) : Prop := ∃ wb lo, TkIn wb lo T A n c B m d ∧ Keeps lo wb wr ∧ ∀ k, bad k → k < lo ∨ wb.heap.size ≤ k
section
variable {wr w' : World} {bad bad' : Nat → Prop} {T : TalkV} {A B : Option Addr} {n c m d : Nat}
theorem Live.at_ (h : Live wr bad T A n c B m d) : TkAt wr T A n c B m d := by
  obtain ⟨wb, lo, h1, h2, _⟩ := h
  exact (h1.keep h2).at_
theorem Live.grown {row : Option Nat} (h : Live wr bad T A n c B m d) (hg : wr.grownBy w' row) (hr : ∀ k, row = some k → bad k) : Live w' bad T A n c B m d := by
  obtain ⟨wb, lo, h1, h2, h3⟩ := h
  refine ⟨wb, lo, h1, ⟨Nat.le_trans h2.1 hg.size, fun b hb1 hb2 => (hg.block b (Nat.lt_of_lt_of_le hb2 h2.1) fun e => ?_).trans (h2.2 b hb1 hb2)⟩, h3⟩
  have := h3 b (hr b e.symm)
  omega
theorem Live.below (h : Live wr bad T A n c B m d) (hb : Below wr.heap.size wr w') : Live w' bad T A n c B m d := h.grown (row := none) ⟨hb.os, hb.tape, hb.output, hb.size, fun k hk _ => hb.block k hk⟩ (fun k e => by cases e)
theorem Live.set {b i : Nat} {v : Value} (h : Live wr bad T A n c B m d) (hb : bad b) : Live (wr.setCell ⟨b, i, none⟩ v) bad T A n c B m d :=
  h.grown (row := some b) (grown_set (World.grownBy.refl wr (some b)) i v) (fun k e => by cases e; exact hb)
theorem Live.more (h : Live wr bad T A n c B m d) (hb : ∀ k, bad' k → bad k ∨ wr.heap.size ≤ k) : Live wr bad' T A n c B m d := by
  obtain ⟨wb, lo, h1, h2, h3⟩ := h
  refine ⟨wb, lo, h1, h2, fun k hk => ?_⟩
  rcases hb k hk with h | h
  · exact h3 k h
  · have := h2.1; omega
theorem Live.new {lo : Nat} (h : TkIn wr lo T A n c B m d) (hb : ∀ k, bad k → k < lo) : Live wr bad T A n c B m d := ⟨wr, lo, h, Keeps.refl _ _, fun k hk => .inl (hb k hk)⟩
end
theorem doTo_small {T : TalkV} {k : Int} {s : ByteArray} (h : (doTo T k s).2 = true) : SmallT (doTo T k s).1 := by
  cases hok : okT T with
  | false => rw [doTo_bad k s hok] at h; cases h
  | true => exact (doTo_ok k s hok).2.2
theorem wp_append1Da {W : World} {ops : Array Oper} {rest : List Oper} {o : Oper} {a : Act} {Q : Exit → Act → World → Prop} (hgd : o.guard = none) (s x : Operand)
    (ho : o.op = .call { callee := .builtin .append, args := #[s, x], argTypes := #[42, 42] }) (base : Nat) (v : Value) (ds : List DeedV) (hs : a.eval s = v) (hown : OwnsD W base v ds)
    (f : Int) (g : ByteArray) (hx : a.eval x = .slice (some ⟨W.heap.size, 0, none⟩) 1 1) (hl : ds.length ≤ 1048576) (hb : base ≤ W.heap.size)
    (h : ∀ v' w', OwnsD w' base v' (ds ++ [(f, g)]) → (W.alloc (.cells #[.int .i64 f, .string g] 30)).grownBy w' v.ownBlock → (∀ k, v'.ownBlock = some k → v.ownBlock = some k ∨ W.heap.size ≤ k) → wpList Tryz.prog ops Q rest (a.put o.dst v') w') :
    wpList Tryz.prog ops Q (o :: rest) a (W.alloc (.cells #[.int .i64 f, .string g] 30)) := by
  obtain ⟨i0, hi0, hz0, hz1, hz2⟩ := info_parts deed_info
  refine wpList_append_own_at _ hgd s x 42 ho base 30 i0 (.agg #[.int .i64 0, .string ByteArray.empty]) 2 24 Tryz.underlying42 hi0 hz0 hz1 hz2 rfl (by decide) v ds.length (flatD ds) hs (World.ownsRow.alloc hown _)
    ⟨W.heap.size, 0, none⟩ 1 1 [.int .i64 f, .string g] hx rfl ?_ (fun u hu => by
      rw [List.mem_cons, List.mem_singleton] at hu
      rcases hu with rfl | rfl <;> rfl) (by simp only [maxLen]; omega) (by omega) (by rw [World.size_alloc]; omega) ?_
  · exact cell_two_new _ _ _ _
  intro v' w' h1 h2 _ h4
  refine h v' w' ?_ h2 (fun k hk => ?_)
  · unfold OwnsD
    rw [flatD_snoc, List.length_append]
    exact h1
  · rcases h4 with h4 | h4
    · left; rw [← h4]; exact hk
    · right; rw [h4, World.size_alloc] at hk; injection hk with hk; omega
def DeedsPost (m g u : Nat) (w : World) (e : Ending) (w' : World) : Prop := ∃ (v : Value) (ds : List DeedV), e = .returned v ∧ OwnsD w' w.heap.size v ds ∧ ds.length ≤ m ∧ (∀ d ∈ ds, d.2.size ≤ 100) ∧ Rd w' g u ∧ w.grownBy w' (some g)
theorem owns_grownD {w w' : World} {base g : Nat} {v : Value} {ds : List DeedV} (h : OwnsD w base v ds) (hg : w.grownBy w' (some g)) (hb : g < base) : OwnsD w' base v ds := by
  refine h.kept hg ?_
  cases e : v.ownBlock with
  | none => exact .inl rfl
  | some k =>
    right
    intro e2
    have := (World.ownsRow.lt h k e).1
    injection e2
    omega
theorem OwnsD.set {w : World} {base b i : Nat} {v u : Value} {ds : List DeedV} {T : TypeId} {cs : List Value} (h : OwnsD w base v ds) (hb : Box w b T cs) (hT : T ≠ 30) : OwnsD (w.setCell ⟨b, i, none⟩ u) base v ds := by
  refine h.kept (row := some b) (grown_set (World.grownBy.refl w (some b)) i u) ?_
  cases e : v.ownBlock with
  | none => exact .inl rfl
  | some k => right; intro e2; injection e2 with e2; exact box_apart hb h hT k e e2
theorem OwnsD.lt {w : World} {base : Nat} {v : Value} {ds : List DeedV} (h : OwnsD w base v ds) {k : Nat} (hk : v.ownBlock = some k) : base ≤ k ∧ k < w.heap.size := World.ownsRow.lt h k hk
set_option maxRecDepth 100000 in
set_option maxHeartbeats 8000000 in
theorem deeds_any (g u : Nat) (T : TalkV) (A B : Option Addr) (n c m d : Nat) (w : World) (lo : Nat) (hlo : g < lo) (hT : TkIn w lo T A n c B m d) (hs : SmallT T) (hu : u ≤ 700000) (hR : Rd w g u) :
    Calls Tryz.prog 56 #[.pointer (some ⟨g, 0, none⟩), .agg #[.int .i64 T.things, .int .i64 T.now.known, .slice A n c, .slice B m d]] w (DeedsPost 5 g (u + 300) w) := by
  have hlt := hR.lt
  have HM : Hid (DM g u w (w.alloc (.cells #[.int .i64 T.things, .int .i64 T.now.known, .slice A n c, .slice B m d] 28))) := (DM.start hR).alloc _
  have HX : Hid (Box (w.alloc (.cells #[.int .i64 T.things, .int .i64 T.now.known, .slice A n c, .slice B m d] 28)) w.heap.size 28 [.int .i64 T.things, .int .i64 T.now.known, .slice A n c, .slice B m d]) := Box.new w _ [.int .i64 T.things, .int .i64 T.now.known, .slice A n c, .slice B m d]
  have HL : Hid (Live w (fun k => k = g ∨ w.heap.size ≤ k) T A n c B m d) := ⟨w, lo, hT, Keeps.refl _ _, fun k hk => by omega⟩
  have HSM := Lib.hid hs
  clear hR hT hs hlo
  go_enter Tryz.func56, Tryz.ntmps56
  go_upto_region 1 with fail
  obtain ⟨W1, hW1⟩ : ∃ W, w.alloc (.cells #[.int .i64 T.things, .int .i64 T.now.known, .slice A n c, .slice B m d] 28) = W := ⟨_, rfl⟩
  rw [hW1] at HM HX ⊢
  have HB1 : Hid (Below w.heap.size w W1) := by unfold Hid; rw [← hW1]; exact (Below.refl _ _).alloc (Nat.le_refl _) _
  clear hW1
  have HXA := Lib.hid (HX.out.alloc (.cells #[] 30))
  have hx0 := HXA.out.cell (i := 0) (v := .int .i64 T.things) rfl
  have hx1 := HXA.out.cell (i := 1) (v := .int .i64 T.now.known) rfl
  have hx2 := HXA.out.cell (i := 2) (v := .slice A n c) rfl
  have hx3 := HXA.out.cell (i := 3) (v := .slice B m d) rfl
  go_upto_region 3 with fail
  have hsz1 : w.heap.size ≤ W1.heap.size := HB1.out.size
  have hX3 := Box.new (W1.alloc (.cells #[] 30)) 28 [.int .i64 T.things, .int .i64 T.now.known, .slice A n c, .slice B m d]
  have hO3 := (OwnsD.lit0 W1 w.heap.size hsz1).below ((Below.refl _ _).alloc (Nat.le_refl _) (.cells #[.int .i64 T.things, .int .i64 T.now.known, .slice A n c, .slice B m d] 28))
  have hM3 := (HM.out.alloc (.cells #[] 30)).alloc (.cells #[.int .i64 T.things, .int .i64 T.now.known, .slice A n c, .slice B m d] 28)
  have hL3 := (HL.out.below HB1.out).below (((Below.refl W1.heap.size W1).alloc (Nat.le_refl _) (.cells #[] 30)).alloc (by rw [World.size_alloc]; omega) (.cells #[.int .i64 T.things, .int .i64 T.now.known, .slice A n c, .slice B m d] 28))
  have hd3 : (Value.slice (some ⟨W1.heap.size, 0, none⟩) 0 0).ownBlock = some W1.heap.size := rfl
  rw [World.size_alloc] at hX3
  obtain ⟨W3, hW3⟩ : ∃ W, (W1.alloc (.cells #[] 30)).alloc (.cells #[.int .i64 T.things, .int .i64 T.now.known, .slice A n c, .slice B m d] 28) = W := ⟨_, rfl⟩
  obtain ⟨h, hh⟩ : ∃ h, W1.heap.size + 1 = h := ⟨_, rfl⟩
  rw [hW3] at hX3 hO3 hM3 hL3 ⊢
  rw [hh] at hX3 ⊢
  have HX3 := Lib.hid hX3
  have HO3 := Lib.hid hO3
  have HM3 := Lib.hid hM3
  have HL3 : Hid (Live W3 (fun k => k = g ∨ k = h ∨ (Value.slice (some ⟨W1.heap.size, 0, none⟩) 0 0).ownBlock = some k) T A n c B m d) := hL3.more (fun k hk => by rw [hd3] at hk; simp only [Option.some.injEq] at hk; rcases hk with h | h | h <;> left <;> omega)
  have hwh : w.heap.size < h := by omega
  clear hX3 hO3 hM3 hL3 hd3 hW3 hx0 hx1 hx2 hx3 HXA HX HM HL HB1 hsz1
  go_wp2_with fail
  refine (pick_any g _ 6 _ (by omega) (by omega) (by omega) HM3.out.rd).mono ?_
  rintro e w4 ⟨k0, rfl, hk0, hk1, hr, hg⟩
  have hk5 := hk1 (by omega)
  have HX4 := Lib.hid (HX3.out.grownO hg (fun j e => by cases e; omega))
  have HO4 := Lib.hid (owns_grownD HO3.out hg hlt)
  have HL4 := Lib.hid (HL3.out.grown hg (fun j e => by cases e; exact .inl rfl))
  have HM4 := Lib.hid (HM3.out.next hr hg)
  obtain ⟨kk, rfl⟩ : ∃ kk : Nat, k0 = (kk : Int) := ⟨k0.toNat, by omega⟩
  clear hr hg hk1 HX3 HO3 HL3 HM3
  go_wp2_with fail
  go_loopw [5, 7] (fun v i wr => ∃ (k : Nat) (T : TalkV) (A : Option Addr) (n c : Nat) (B : Option Addr) (m d : Nat) (ds : List DeedV), k ≤ 5 ∧ i = .int .i64 k ∧ Hid (ds.length + k ≤ 5) ∧ Hid (SmallT T) ∧ Hid (Live wr (fun k => k = g ∨ k = h ∨ v.ownBlock = some k) T A n c B m d) ∧ Hid (Box wr h 28 [.int .i64 T.things, .int .i64 T.now.known, .slice A n c, .slice B m d]) ∧ Hid (OwnsD wr w.heap.size v ds) ∧ Hid (∀ d ∈ ds, d.2.size ≤ 100) ∧ Hid (DM g (u + 1 + 51 * (5 - k)) w wr)) (fun _ i _ => (Go.RowKit.intOf i).toNat)
  case atStart => exact ⟨kk, T, A, n, c, B, m, d, [], by omega, rfl, by unfold Hid; simp; omega, HSM, HL4, HX4, HO4, by unfold Hid; simp, HM4.out.more (by omega)⟩
  case round =>
    obtain ⟨k, T, A, n, c, B, m, d, ds, hk, rfl, HLN, HSM, HL, HX, HO, HDS, HM⟩ := hrel
    by_cases hpos : 0 < k
    · have hdp : decide ((0 : Int) < (k : Int)) = true := decide_eq_true (by omega)
      obtain ⟨y, hy⟩ : ∃ y, u + 1 + 51 * (5 - k) = y := ⟨_, rfl⟩
      have hyb : y ≤ 701000 := by omega
      rw [hy] at HM
      have HYE : Hid (y + 51 = u + 1 + 51 * (5 - (k - 1))) := by unfold Hid; omega
      clear hy
      have hx0 := HX.out.cell (i := 0) (v := .int .i64 T.things) rfl
      have hx1 := HX.out.cell (i := 1) (v := .int .i64 T.now.known) rfl
      have hx2 := HX.out.cell (i := 2) (v := .slice A n c) rfl
      have hx3 := HX.out.cell (i := 3) (v := .slice B m d) rfl
      obtain ⟨Ao, co, rfl, _⟩ := HO.out.form
      obtain ⟨no, hno⟩ : ∃ no, ds.length = no := ⟨_, rfl⟩
      have HNO := Lib.hid hno
      rw [hno] at HL HO ⊢
      clear hno
      go_wp2_with fail
      refine (deed_any g y _ _ _ _ A B n c m d rfl rfl _ (by omega) HM.out.rd).mono ?_
      rintro e w5 ⟨kd, tx, rfl, hsz, hr, hg⟩
      have HX5 := Lib.hid (HX.out.grownO hg (fun j e => by cases e; omega))
      have HO5 := Lib.hid (owns_grownD HO.out hg hlt)
      have HL5 := Lib.hid (HL.out.grown hg (fun j e => by cases e; exact .inl rfl))
      have HM5 := Lib.hid (HM.out.next hr hg)
      have HTX := Lib.hid hsz
      clear hr hg hx0 hx1 hx2 hx3 hsz HX HO HL HM
      go_upto_region 7 with fail
      have hD6 := Box.new w5 30 [.int .i64 kd, .string tx]
      have HX6 := Lib.hid (HX5.out.alloc (.cells #[.int .i64 kd, .string tx] 30))
      have HO6 := Lib.hid (HO5.out.below ((Below.refl _ _).alloc (Nat.le_refl _) (.cells #[.int .i64 kd, .string tx] 30)))
      have HL6 := Lib.hid (HL5.out.below ((Below.refl _ _).alloc (Nat.le_refl _) (.cells #[.int .i64 kd, .string tx] 30)))
      have HM6 := Lib.hid (HM5.out.alloc (.cells #[.int .i64 kd, .string tx] 30))
      obtain ⟨h8, hh8⟩ : ∃ h8, w5.heap.size = h8 := ⟨_, rfl⟩
      have hhb : h < h8 := by rw [← hh8]; exact HX5.out.lt
      have HOB : Hid (∀ j, (Value.slice Ao no co).ownBlock = some j → j < h8) := fun j hj => by rw [← hh8]; exact (HO5.out.lt hj).2
      obtain ⟨w6, hw6⟩ : ∃ W, w5.alloc (.cells #[.int .i64 kd, .string tx] 30) = W := ⟨_, rfl⟩
      rw [hw6] at hD6 HX6 HO6 HL6 HM6 ⊢
      rw [hh8] at hD6
      try rw [hh8]
      have HD6 := Lib.hid hD6
      clear hw6 hh8 hD6 HX5 HO5 HL5 HM5
      have hx0 := HX6.out.cell (i := 0) (v := .int .i64 T.things) rfl
      have hx1 := HX6.out.cell (i := 1) (v := .int .i64 T.now.known) rfl
      have hx2 := HX6.out.cell (i := 2) (v := .slice A n c) rfl
      have hx3 := HX6.out.cell (i := 3) (v := .slice B m d) rfl
      have hd0 := HD6.out.cell (i := 0) (v := .int .i64 kd) rfl
      have hd1 := HD6.out.cell (i := 1) (v := .string tx) rfl
      go_wp2_with fail
      refine (sTalkDo T A B n c m d kd tx _ HL6.out.at_ HSM.out (by have := HTX.out; omega)).mono ?_
      rintro e w7 ⟨A2, n2, c2, B2, m2, d2, rfl, hown, hb⟩
      have hsm := doTo_small (T := T) (k := kd) (s := tx)
      generalize doTo T kd tx = XB at hown hsm ⊢
      have HX7 := Lib.hid (HX6.out.below hb)
      have HO7 := Lib.hid (HO6.out.below hb)
      have HL7 := Lib.hid (HL6.out.below hb)
      have HM7 := Lib.hid (HM6.out.below hb)
      have HD7 := Lib.hid (HD6.out.below hb)
      have HN7 : Hid (Live w7 (fun k => k = g ∨ k = h ∨ (Value.slice Ao no co).ownBlock = some k) XB.1 A2 n2 c2 B2 m2 d2) := Live.new hown.1 (fun j hj => by
        have h6 := HX6.out.lt
        have hg6 := HM6.out.rd.lt
        rcases hj with e | e | e
        · omega
        · omega
        · exact (HO6.out.lt e).2)
      have HSX := Lib.hid hsm
      clear hown hb hsm hx0 hx1 hx2 hx3 hd0 hd1 HX6 HO6 HL6 HM6 HD6
      go_upto_region 8 with fail
      have hY8 := Box.new w7 28 [.int .i64 XB.1.things, .int .i64 XB.1.now.known, .slice A2 n2 c2, .slice B2 m2 d2]
      have hbel : Below w7.heap.size w7 (w7.alloc (.cells #[.int .i64 XB.1.things, .int .i64 XB.1.now.known, .slice A2 n2 c2, .slice B2 m2 d2] 28)) := (Below.refl _ _).alloc (Nat.le_refl _) _
      have HX8 := Lib.hid (HX7.out.below hbel)
      have HO8 := Lib.hid (HO7.out.below hbel)
      have HL8 := Lib.hid (HL7.out.below hbel)
      have HN8 := Lib.hid (HN7.out.below hbel)
      have HM8 := Lib.hid (HM7.out.below hbel)
      have HD8 := Lib.hid (HD7.out.below hbel)
      obtain ⟨h9, hh9⟩ : ∃ h9, w7.heap.size = h9 := ⟨_, rfl⟩
      obtain ⟨w8, hw8⟩ : ∃ W, w7.alloc (.cells #[.int .i64 XB.1.things, .int .i64 XB.1.now.known, .slice A2 n2 c2, .slice B2 m2 d2] 28) = W := ⟨_, rfl⟩
      rw [hw8] at hY8 HX8 HO8 HL8 HN8 HM8 HD8 ⊢
      rw [hh9] at hY8
      try rw [hh9]
      have HY8 := Lib.hid hY8
      have hh9b : h < h9 := by rw [← hh9]; exact HX7.out.lt
      clear hw8 hh9 hY8 hbel HX7 HO7 HL7 HN7 HM7 HD7
      have hnol : no ≤ 4 := by have := HLN.out; have := HNO.out; omega
      cases hb : XB.2
      · (try rw [hb])
        have hd0 := HD8.out.cell (i := 0) (v := .int .i64 kd) rfl
        have hd1 := HD8.out.cell (i := 1) (v := .string tx) rfl
        have hob : w.heap.size ≤ w8.heap.size := HM8.out.gr.size
        have hap : ∀ j, (Value.slice Ao no co).ownBlock = some j → j ≠ h := fun j hj => box_apart HX8.out HO8.out (by decide) j hj
        have HNO4 : Hid (ds.length ≤ 1048576) := by unfold Hid; rw [HNO.out]; omega
        go_wp2_with (at_builtin; refine wp_append1Da (W := w8) rfl _ _ rfl w.heap.size (.slice Ao no co) ds rfl HO8.out kd tx rfl HNO4.out hob ?_; intro v' w10 ho hg hat)
        have HFO := Lib.hid ho
        have HFX := Lib.hid ((HX8.out.alloc (.cells #[.int .i64 kd, .string tx] 30)).grownO hg hap)
        have HFM := Lib.hid ((HM8.out.alloc (.cells #[.int .i64 kd, .string tx] 30)).fresh hg (fun j e => (HO8.out.lt e).1) hlt)
        have HFL : Hid (Live w10 (fun k => k = g ∨ k = h ∨ v'.ownBlock = some k) T A n c B m d) := by
          have h0 := HL8.out.more (bad' := fun k => (k = g ∨ k = h ∨ (Value.slice Ao no co).ownBlock = some k) ∨ w8.heap.size ≤ k) (fun k hk => hk)
          have h1 := (h0.below ((Below.refl _ _).alloc (Nat.le_refl _) (.cells #[.int .i64 kd, .string tx] 30))).grown hg (fun j e => .inl (.inr (.inr e)))
          exact h1.more (fun k hk => .inl (by
            rcases hk with e | e | e
            · exact .inl (.inl e)
            · exact .inl (.inr (.inl e))
            · rcases hat k e with e | e
              · exact .inl (.inr (.inr e))
              · exact .inr e))
        go_roundw
        case rel => exact ⟨k - 1, T, A, n, c, B, m, d, ds ++ [(kd, tx)], by omega, by go_num, by unfold Hid; rw [List.length_append]; have := HLN.out; simp; omega, HSM, HFL, HFX, HFO, fun d hd => by
          rcases List.mem_append.1 hd with h | h
          · exact HDS.out d h
          · rw [List.mem_singleton] at h; rw [h]; exact HTX.out, HFM.out.more (by have := HYE.out; omega)⟩
        case measure => simp [Go.RowKit.intOf]; omega
      · have hz0 := HY8.out.cell (i := 0) (v := .int .i64 XB.1.things) rfl
        have hz1 := HY8.out.cell (i := 1) (v := .int .i64 XB.1.now.known) rfl
        have hz2 := HY8.out.cell (i := 2) (v := .slice A2 n2 c2) rfl
        have hz3 := HY8.out.cell (i := 3) (v := .slice B2 m2 d2) rfl
        obtain ⟨⟨ha0, ha1, ha2, ha3, ha4, ha5, ha6, ha7⟩, ⟨hb2, hb3⟩, ⟨hb4, hb5⟩, ⟨hb6, hb7⟩, HX9⟩ := HX8.out.store4 (.int .i64 XB.1.things) (.int .i64 XB.1.now.known) (.slice A2 n2 c2) (.slice B2 m2 d2)
        have HSX2 := Lib.hid (HSX.out hb)
        have HO9 : Hid (OwnsD ((((w8.setCell ⟨h, 0, none⟩ (.int .i64 XB.1.things)).setCell ⟨h, 1, none⟩ (.int .i64 XB.1.now.known)).setCell ⟨h, 2, none⟩ (.slice A2 n2 c2)).setCell ⟨h, 3, none⟩ (.slice B2 m2 d2)) w.heap.size (.slice Ao no co) ds) := ((((HO8.out.set HX8.out (by decide)).set (HX8.out.set 0 _) (by decide)).set ((HX8.out.set 0 _).set 1 _) (by decide)).set (((HX8.out.set 0 _).set 1 _).set 2 _) (by decide))
        have HN9 : Hid (Live ((((w8.setCell ⟨h, 0, none⟩ (.int .i64 XB.1.things)).setCell ⟨h, 1, none⟩ (.int .i64 XB.1.now.known)).setCell ⟨h, 2, none⟩ (.slice A2 n2 c2)).setCell ⟨h, 3, none⟩ (.slice B2 m2 d2)) (fun k => k = g ∨ k = h ∨ (Value.slice Ao no co).ownBlock = some k) XB.1 A2 n2 c2 B2 m2 d2) := (((HN8.out.set (.inr (.inl rfl))).set (.inr (.inl rfl))).set (.inr (.inl rfl))).set (.inr (.inl rfl))
        have HM9 : Hid (DM g (y + 50) w ((((w8.setCell ⟨h, 0, none⟩ (.int .i64 XB.1.things)).setCell ⟨h, 1, none⟩ (.int .i64 XB.1.now.known)).setCell ⟨h, 2, none⟩ (.slice A2 n2 c2)).setCell ⟨h, 3, none⟩ (.slice B2 m2 d2))) := (((HM8.out.set (by omega) hlt).set (by omega) hlt).set (by omega) hlt).set (by omega) hlt
        have HD9 := Lib.hid (HD8.out.other4 (g := h) (by omega) (.int .i64 XB.1.things) (.int .i64 XB.1.now.known) (.slice A2 n2 c2) (.slice B2 m2 d2))
        (try rw [hb])
        go_upto_region 10 with fail
        obtain ⟨w9, hw9⟩ : ∃ W, (((w8.setCell ⟨h, 0, none⟩ (.int .i64 XB.1.things)).setCell ⟨h, 1, none⟩ (.int .i64 XB.1.now.known)).setCell ⟨h, 2, none⟩ (.slice A2 n2 c2)).setCell ⟨h, 3, none⟩ (.slice B2 m2 d2) = W := ⟨_, rfl⟩
        rw [hw9] at HX9 HO9 HN9 HM9 HD9 ⊢
        clear hw9 hz0 hz1 hz2 hz3 ha0 ha1 ha2 ha3 ha4 ha5 ha6 ha7 hb2 hb3 hb4 hb5 hb6 hb7
        have hd0 := HD9.out.cell (i := 0) (v := .int .i64 kd) rfl
        have hd1 := HD9.out.cell (i := 1) (v := .string tx) rfl
        have hob : w.heap.size ≤ w9.heap.size := HM9.out.gr.size
        have hap : ∀ j, (Value.slice Ao no co).ownBlock = some j → j ≠ h := fun j hj => box_apart HX9.out HO9.out (by decide) j hj
        have HNO4 : Hid (ds.length ≤ 1048576) := by unfold Hid; rw [HNO.out]; omega
        go_wp2_with (at_builtin; refine wp_append1Da (W := w9) rfl _ _ rfl w.heap.size (.slice Ao no co) ds rfl HO9.out kd tx rfl HNO4.out hob ?_; intro v' w10 ho hg hat)
        have HFO := Lib.hid ho
        have HFX := Lib.hid ((HX9.out.alloc (.cells #[.int .i64 kd, .string tx] 30)).grownO hg hap)
        have HFM := Lib.hid ((HM9.out.alloc (.cells #[.int .i64 kd, .string tx] 30)).fresh hg (fun j e => (HO9.out.lt e).1) hlt)
        have HFL : Hid (Live w10 (fun k => k = g ∨ k = h ∨ v'.ownBlock = some k) XB.1 A2 n2 c2 B2 m2 d2) := by
          have h0 := HN9.out.more (bad' := fun k => (k = g ∨ k = h ∨ (Value.slice Ao no co).ownBlock = some k) ∨ w9.heap.size ≤ k) (fun k hk => hk)
          have h1 := (h0.below ((Below.refl _ _).alloc (Nat.le_refl _) (.cells #[.int .i64 kd, .string tx] 30))).grown hg (fun j e => .inl (.inr (.inr e)))
          exact h1.more (fun k hk => .inl (by
            rcases hk with e | e | e
            · exact .inl (.inl e)
            · exact .inl (.inr (.inl e))
            · rcases hat k e with e | e
              · exact .inl (.inr (.inr e))
              · exact .inr e))
        go_roundw
        case rel => exact ⟨k - 1, XB.1, A2, n2, c2, B2, m2, d2, ds ++ [(kd, tx)], by omega, by go_num, by unfold Hid; rw [List.length_append]; have := HLN.out; simp; omega, HSX2, HFL, HFX, HFO, fun d hd => by
          rcases List.mem_append.1 hd with h | h
          · exact HDS.out d h
          · rw [List.mem_singleton] at h; rw [h]; exact HTX.out, HFM.out.more (by have := HYE.out; omega)⟩
        case measure => simp [Go.RowKit.intOf]; omega
    · obtain rfl : k = 0 := by omega
      go_wp2_with fail
      go_ret
      exact ⟨_, ds, rfl, HO.out, by have := HLN.out; omega, HDS.out, HM.out.rd.more (by omega), HM.out.gr⟩
end Go.Proofs.YtmdogidflaplkaaGreat

namespace Go.Proofs.YtmdogidflaplkaaGreat
open Go.RowKit

/-- A slice of deeds still lies where a world has kept its block. -/
theorem OwnsD.keep {w w' : World} {lo : Nat} {v : Value} {ds : List DeedV} (h : OwnsD w lo v ds) (hk : Keeps lo w w') : OwnsD w' lo v ds := by
  refine ⟨h.1, ?_⟩
  rcases h.2 with h | ⟨g, cap, cur, h1, h2, h3, h4⟩
  · exact .inl h
  · exact .inr ⟨g, cap, cur, h1, h2, (hk.2 g h2 (Array.getElem?_eq_some_iff.1 h3).1).trans h3, h4⟩
end Go.Proofs.YtmdogidflaplkaaGreat

namespace Go.Proofs.YtmdogidflaplkaaGreat
open Go.RowKit

end Go.Proofs.YtmdogidflaplkaaGreat

namespace Go.Proofs.YtmdogidflaplkaaGreat
open Go.RowKit

/-- A talk that lies in a variable. -/
structure DX (wx : World) (h : Nat) (X : TalkV) (A : Option Addr) (n c : Nat) (B : Option Addr) (m d : Nat) : Prop where
  x : Box wx h 28 [.int .i64 X.things, .int .i64 X.now.known, .slice A n c, .slice B m d]
  t : TkAt wx X A n c B m d
theorem DX.below {wx wy : World} {h : Nat} {X : TalkV} {A B : Option Addr} {n c m d : Nat} (hd : DX wx h X A n c B m d) (hb : Below wx.heap.size wx wy) : DX wy h X A n c B m d := ⟨hd.x.below hb, hd.t.below hb⟩
theorem DX.new {wx : World} {X : TalkV} {A B : Option Addr} {n c m d : Nat} (ht : TkAt wx X A n c B m d) : DX (wx.alloc (.cells #[.int .i64 X.things, .int .i64 X.now.known, .slice A n c, .slice B m d] 28)) wx.heap.size X A n c B m d := ⟨Box.new wx _ [.int .i64 X.things, .int .i64 X.now.known, .slice A n c, .slice B m d], ht.below ((Below.refl _ _).alloc (Nat.le_refl _) _)⟩
theorem DX.cells {wx : World} {h : Nat} {X : TalkV} {A B : Option Addr} {n c m d : Nat} (hd : DX wx h X A n c B m d) : wx.cell? ⟨h, 0, none⟩ = some (.int .i64 X.things) ∧ wx.cell? ⟨h, 1, none⟩ = some (.int .i64 X.now.known) ∧ wx.cell? ⟨h, 2, none⟩ = some (.slice A n c) ∧ wx.cell? ⟨h, 3, none⟩ = some (.slice B m d) := ⟨hd.x.cell rfl, hd.x.cell rfl, hd.x.cell rfl, hd.x.cell rfl⟩
end Go.Proofs.YtmdogidflaplkaaGreat

namespace Go.Proofs.YtmdogidflaplkaaGreat
open Go.RowKit

theorem OwnT.ownA {w : World} {lo mid : Nat} {T : TalkV} {o p : Value} {vs : List (Int × Value)} (h : OwnT w lo T o p vs mid) : OwnA w lo o p vs T.now.op T.past := by
  obtain ⟨h1, h2, h3, h4, _, h6⟩ := h
  have hvl := h3.sees.len
  refine ⟨h1, h3.base h6, fun u hu k hk e => ?_, h4.2.imp fun {u v} huv k h5 h7 => by have := huv k k h5 h7; omega⟩
  obtain ⟨i, hi⟩ := List.mem_iff_getElem?.1 hu
  have hil := (List.getElem?_eq_some_iff.1 hi).1
  obtain ⟨v, g1, g2⟩ := h4.1 i T.past[i] hil (List.getElem?_eq_getElem (by omega))
  rw [hi] at g1
  cases g1
  have a1 := (g2.lt hk).1
  have a2 := h2 k e
  omega
theorem OwnA.below {w w' : World} {lo : Nat} {o p : Value} {vs : List (Int × Value)} {os : List ByteArray} {xs : List (St ByteArray)} (h : OwnA w lo o p vs os xs) (hb : Below w.heap.size w w') : OwnA w' lo o p vs os xs := ⟨h.1.below hb, h.2.1.below hb, h.2.2⟩
theorem OwnA.base {w : World} {lo lo2 : Nat} {o p : Value} {vs : List (Int × Value)} {os : List ByteArray} {xs : List (St ByteArray)} (h : OwnA w lo o p vs os xs) (hl : lo2 ≤ lo) : OwnA w lo2 o p vs os xs := ⟨h.1.base hl, h.2.1.base hl, h.2.2⟩
theorem OwnA.turns {P : Nat → Prop} {w w' : World} {lo : Nat} {o p : Value} {vs : List (Int × Value)} {os : List ByteArray} {xs : List (St ByteArray)} (h : OwnA w lo o p vs os xs) (ht : Turns P w w') (hp : ∀ b, BlkT o p vs b → ¬ P b) : OwnA w' lo o p vs os xs :=
  ⟨h.1.turns ht (fun k e => hp k (.inl e)), h.2.1.turns ht (fun k e => hp k (.inr (.inl e))) (fun u hu k e => hp k (.inr (.inr ⟨_, List.mem_map.2 ⟨u, hu, rfl⟩, e⟩))), h.2.2⟩
theorem OwnA.set4 {w : World} {lo g : Nat} {o p : Value} {vs : List (Int × Value)} {os : List ByteArray} {xs : List (St ByteArray)} {T : TypeId} {cs : List Value} (h : OwnA w lo o p vs os xs) (hb : Box w g T cs) (hT : T ≠ 9) (hT2 : T ≠ 25) (a b c d : Value) : OwnA ((((w.setCell ⟨g, 0, none⟩ a).setCell ⟨g, 1, none⟩ b).setCell ⟨g, 2, none⟩ c).setCell ⟨g, 3, none⟩ d) lo o p vs os xs :=
  ⟨h.1.setBox4 hb hT a b c d, h.2.1.setBox4 hb hT hT2 a b c d, h.2.2⟩
theorem OwnA.at_ {w : World} {lo n c m d : Nat} {A B : Option Addr} {vs : List (Int × Value)} {T : TalkV} (h : OwnA w lo (.slice A n c) (.slice B m d) vs T.now.op T.past) : TkAt w T A n c B m d := by
  obtain ⟨A', c', B', d', e1, e2, hin⟩ := tk_of_owns h.1 h.2.1
  cases e1
  cases e2
  exact hin.at_
theorem box_blkt {w : World} {lo b : Nat} {o p : Value} {vs : List (Int × Value)} {os : List ByteArray} {xs : List (St ByteArray)} {T : TypeId} {cs : List Value} (h : OwnA w lo o p vs os xs) (hb : Box w b T cs) (hT : T ≠ 9) (hT2 : T ≠ 25) : ¬ BlkT o p vs b := by
  rintro (e | e | ⟨u, hu, e⟩)
  · exact box_apart hb h.1 hT b e rfl
  · exact box_apart hb h.2.1.row hT2 b e rfl
  · obtain ⟨x, hx, rfl⟩ := List.mem_map.1 hu
    obtain ⟨i, hi⟩ := List.mem_iff_getElem?.1 hx
    have hil := (List.getElem?_eq_some_iff.1 hi).1
    have hl := h.2.1.sees.len
    obtain ⟨v, g1, g2, _⟩ := h.2.1.sees.at_ i xs[i] (List.getElem?_eq_getElem (by omega))
    rw [hi] at g1
    cases g1
    exact box_apart hb g2 hT b e rfl
/-- A talk and a bool that were handed back, in memory that lies from the call on. -/
def InPost (X : TalkV) (b : Bool) (W : World) (e : Ending) (w' : World) : Prop := ∃ A n c B m d, e = .returned (.tuple #[.agg #[.int .i64 X.things, .int .i64 X.now.known, .slice A n c, .slice B m d], .bool b]) ∧ TkIn w' W.heap.size X A n c B m d ∧ Below W.heap.size W w'
theorem sTalkDo_in {T X : TalkV} {A B : Option Addr} {n c m d : Nat} {kind : Int} {text : ByteArray} {b : Bool} {w : World} (h : Hid (doTo T kind text = (X, b))) (hT : TkAt w T A n c B m d) (hs : SmallT T) (hx : text.size ≤ 1048576) :
    Calls Tryz.prog 9 #[.agg #[.int .i64 T.things, .int .i64 T.now.known, .slice A n c, .slice B m d], .agg #[.int .i64 kind, .string text]] w (InPost X b w) := by
  have := sTalkDo T A B n c m d kind text w hT hs hx
  rw [h.out] at this
  refine this.mono ?_
  rintro e w' ⟨A', n', c', B', m', d', rfl, hown, hb⟩
  exact ⟨A', n', c', B', m', d', rfl, hown.1, hb⟩
theorem strs_own {w : World} {lo n c : Nat} {A : Option Addr} {xs : List ByteArray} (h : OwnsS w lo (.slice A n c) xs) : Strs w A xs := by
  obtain ⟨A', c', e1, _, _, h4, _⟩ := h.form
  simp only [Value.slice.injEq] at e1
  obtain ⟨rfl, _, rfl⟩ := e1
  exact h4
theorem sta_own {e : TypeId} {w : World} {lo n c : Nat} {B : Option Addr} {vs : List (Int × Value)} {xs : List (St ByteArray)} (h : OwnsX e w lo (.slice B n c) vs xs) : StaRow w B xs := by
  obtain ⟨A', c', e1, _, _, h4, _⟩ := h.form
  simp only [Value.slice.injEq] at e1
  obtain ⟨rfl, _, rfl⟩ := e1
  exact h4
theorem bel_al (W : World) (o : Obj) : Below W.heap.size W (W.alloc o) := (Below.refl _ _).alloc (Nat.le_refl _) _
theorem zbox {B : Nat} {W0 wx : World} (_ : Below B W0 wx) : Box (wx.alloc (.cells #[.int .i64 0, .int .i64 0, .slice none 0 0, .slice none 0 0] 28)) wx.heap.size 28 [.int .i64 0, .int .i64 0, .slice none 0 0, .slice none 0 0] := Box.new wx _ [.int .i64 0, .int .i64 0, .slice none 0 0, .slice none 0 0]
/-- A result that the variable's block, laid later, does not turn. -/
theorem at_set4 {w : World} {X : TalkV} {A B : Option Addr} {n c m d : Nat} (h : TkAt w X A n c B m d) (o : Obj) (a b r q : Value) : TkAt (((((w.alloc o).setCell ⟨w.heap.size, 0, none⟩ a).setCell ⟨w.heap.size, 1, none⟩ b).setCell ⟨w.heap.size, 2, none⟩ r).setCell ⟨w.heap.size, 3, none⟩ q) X A n c B m d := h.below (bel_set4 (bel_al w o) (Nat.le_refl _) a b r q)
/-- A new variable for a talk: the world gets a letter. -/
theorem al_gen {B : Nat} {W0 wx : World} (h : Below B W0 wx) (hB : B ≤ wx.heap.size) : ∃ wz, wx.alloc (.cells #[.int .i64 0, .int .i64 0, .slice none 0 0, .slice none 0 0] 28) = wz ∧ Hid (Box wz wx.heap.size 28 [.int .i64 0, .int .i64 0, .slice none 0 0, .slice none 0 0]) ∧ Hid (B ≤ wx.heap.size) ∧ Hid (Below B W0 wz) ∧ Hid (Below wx.heap.size wx wz) :=
  ⟨_, rfl, zbox h, hB, h.alloc hB _, bel_al _ _⟩
theorem at_set4z {w wz : World} {X : TalkV} {A B : Option Addr} {n c m d : Nat} {o : Obj} (h : TkAt w X A n c B m d) (hz : w.alloc o = wz) (a b r q : Value) : TkAt ((((wz.setCell ⟨w.heap.size, 0, none⟩ a).setCell ⟨w.heap.size, 1, none⟩ b).setCell ⟨w.heap.size, 2, none⟩ r).setCell ⟨w.heap.size, 3, none⟩ q) X A n c B m d := by
  subst hz
  exact at_set4 h o a b r q
end Go.Proofs.YtmdogidflaplkaaGreat

namespace Go.Proofs.YtmdogidflaplkaaGreat
open Go.RowKit

/-- A talk after deeds, whatever the talk, and how many were done. -/
def runTo (T : TalkV) (ds : List DeedV) : TalkV × Nat := if okT T = true ∧ ds.length ≤ 40 then talkRun asksT T ds else (noTalk, 0)
theorem run_bad {T : TalkV} {ds : List DeedV} (h : ¬ (okT T = true ∧ ds.length ≤ 40)) : runTo T ds = (noTalk, 0) := if_neg h
theorem run_good {T : TalkV} {ds : List DeedV} (h : okT T = true) (hl : ds.length ≤ 40) : runTo T ds = talkRun asksT T ds := if_pos ⟨h, hl⟩
theorem run_next {T : TalkV} {ds : List DeedV} {k : Nat} {d : DeedV} (h : Hid (ds[k]? = some d)) : talkRun asksT T (ds.take (k + 1)) = runStep asksT (talkRun asksT T (ds.take k)) d := by
  rw [takeD_snoc h, run_snoc]
theorem run_oks (T : TalkV) (l : List DeedV) (h : okT T = true) : okT (talkRun asksT T l).1 = true := (run_ok asksT l h).1
/-- A step: the deed cannot be done, or is done. -/
theorem step_way {X : TalkV} {N : Nat} {d : DeedV} (h : okT X = true) : ((doTo X d.1 d.2).2 = false ∧ (doTo X d.1 d.2).1 = X ∧ runStep asksT (X, N) d = (X, N)) ∨ ((doTo X d.1 d.2).2 = true ∧ runStep asksT (X, N) d = ((doTo X d.1 d.2).1, N + 1)) := by
  cases hd : doT X d.1 d.2 with
  | none => left; rw [doTo_no h hd]; refine ⟨rfl, rfl, ?_⟩; unfold runStep; rw [show talkDo asksT (X, N).1 d.1 d.2 = none from hd]
  | some Y => right; rw [doTo_yes h hd]; refine ⟨rfl, ?_⟩; unfold runStep; rw [show talkDo asksT (X, N).1 d.1 d.2 = some Y from hd]
theorem runTo_small (T : TalkV) (ds : List DeedV) : SmallT (runTo T ds).1 := by
  by_cases h : okT T = true ∧ ds.length ≤ 40
  · rw [run_good h.1 h.2]; exact small_ok (run_oks T ds h.1)
  · rw [run_bad h]; exact ⟨by decide, by decide, (fun s hs => by cases hs), (fun x hx => by cases hx)⟩
/-- What the program's TalkRun hands back: all its memory is new. -/
def RunPost (X : TalkV) (N : Nat) (w : World) (e : Ending) (w' : World) : Prop := ∃ o p vs, e = .returned (.tuple #[.agg #[.int .i64 X.things, .int .i64 X.now.known, o, p], .int .i64 (N : Int)]) ∧ OwnsS w' w.heap.size o X.now.op ∧ OwnsX 25 w' w.heap.size p vs X.past ∧ ApX o vs ∧ Below w.heap.size w w'
theorem run_start (w : World) (a b c d : Value) :
    Hid (Box ((w.alloc (.cells #[a, b, c, d] 28)).alloc (.cells #[.int .i64 0, .int .i64 0, .slice none 0 0, .slice none 0 0] 28)) w.heap.size 28 [a, b, c, d]) ∧ Hid (Box ((w.alloc (.cells #[a, b, c, d] 28)).alloc (.cells #[.int .i64 0, .int .i64 0, .slice none 0 0, .slice none 0 0] 28)) (w.heap.size + 1) 28 [.int .i64 0, .int .i64 0, .slice none 0 0, .slice none 0 0]) ∧ Hid (Below w.heap.size w ((w.alloc (.cells #[a, b, c, d] 28)).alloc (.cells #[.int .i64 0, .int .i64 0, .slice none 0 0, .slice none 0 0] 28))) := by
  have h := Box.new (w.alloc (.cells #[a, b, c, d] 28)) 28 [.int .i64 0, .int .i64 0, .slice none 0 0, .slice none 0 0]
  rw [World.size_alloc] at h
  exact ⟨(Box.new w 28 [a, b, c, d]).alloc _, h, ((Below.refl _ _).alloc (Nat.le_refl _) _).alloc (by rw [World.size_alloc]; omega) _⟩
theorem Exc.set4 (h : Nat) (w : World) (a b c d : Value) : Exc h w ((((w.setCell ⟨h, 0, none⟩ a).setCell ⟨h, 1, none⟩ b).setCell ⟨h, 2, none⟩ c).setCell ⟨h, 3, none⟩ d) := (((Exc.set h 0 w a).trans (Exc.set h 1 _ b)).trans (Exc.set h 2 _ c)).trans (Exc.set h 3 _ d)
/-- The talk that goes on is put into its variable of block h: it still reads so wherever all blocks but h stand. -/
theorem exc_next {h : Nat} {w0 w8 w9 : World} {X : TalkV} {A B : Option Addr} {n c m d : Nat} (hh : h < w0.heap.size) (hat : ∀ w2, Exc h w0 w2 → Keeps w0.heap.size w8 w2 → TkAt w2 X A n c B m d) (hb : Below w0.heap.size w0 w8) (hb9 : Below w8.heap.size w8 w9) (a b r q : Value) :
    ∀ W, Exc h ((((w9.setCell ⟨h, 0, none⟩ a).setCell ⟨h, 1, none⟩ b).setCell ⟨h, 2, none⟩ r).setCell ⟨h, 3, none⟩ q) W → TkAt W X A n c B m d := by
  intro W hW
  have h89 : Exc h w8 W := ((Exc.of_below hb9).trans (Exc.set4 h w9 a b r q)).trans hW
  exact hat W ((Exc.of_below hb).trans h89) ⟨h89.1, fun k h1 h2 => h89.2 k h2 (by omega)⟩
theorem strs_blocks {w W : World} {A : Option Addr} {xs : List ByteArray} (h : Strs w A xs) (hle : w.heap.size ≤ W.heap.size) (he : ∀ k, k < w.heap.size → W.heap[k]? = w.heap[k]?) : Strs W A xs := h.keep hle fun b hb _ _ _ => he b hb
theorem tk_blocks {w W : World} {T : TalkV} {A B : Option Addr} {n c m d : Nat} (h : TkAt w T A n c B m d) (hle : w.heap.size ≤ W.heap.size) (he : ∀ k, k < w.heap.size → W.heap[k]? = w.heap[k]?) : TkAt W T A n c B m d := by
  refine ⟨h.hn, h.hc, h.hm, strs_blocks h.hA hle he, h.pn, h.pc, h.pm, fun hn => ?_⟩
  obtain ⟨b, off, e, hlt, hc⟩ := h.hB hn
  refine ⟨b, off, e, Nat.lt_of_lt_of_le hlt hle, fun i x hx => ?_⟩
  obtain ⟨Ai, ci, h1, h2, h3, h4, h5⟩ := hc i x hx
  exact ⟨Ai, ci, (World.cell?_of_block (a := ⟨b, off + i * 2, none⟩) (he b hlt)).trans h1, (World.cell?_of_block (a := ⟨b, off + i * 2 + 1, none⟩) (he b hlt)).trans h2, h3, h4, strs_blocks h5 hle he⟩
/-- Deeds stand where the variable's block is another one. -/
theorem deeds_exc {w W : World} {L : Option Addr} {ds : List DeedV} {h : Nat} (hd : Deeds w L ds) (hW : Exc h w W) (hL : 0 < ds.length → ∀ ad, L = some ad → ad.block ≠ h) : Deeds W L ds := by
  intro hn
  obtain ⟨b, off, e, hlt, hc⟩ := hd hn
  have hb : W.heap[b]? = w.heap[b]? := hW.2 b hlt (hL hn _ e)
  exact ⟨b, off, e, Nat.lt_of_lt_of_le hlt hW.1, fun i x hx => by
    obtain ⟨h1, h2⟩ := hc i x hx
    exact ⟨(World.cell?_of_block (a := ⟨b, off + i * 2, none⟩) hb).trans h1, (World.cell?_of_block (a := ⟨b, off + i * 2 + 1, none⟩) hb).trans h2⟩⟩
end Go.Proofs.YtmdogidflaplkaaGreat
