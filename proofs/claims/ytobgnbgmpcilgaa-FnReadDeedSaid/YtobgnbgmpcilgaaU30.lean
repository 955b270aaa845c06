/-
  What the proofs of this seat's statements share (DrwJ, DrwK).
-/
import Derived.Maps.AppendAt
import Derived.Test.YtobgnbgmpcilgaaU29
import Derived.Test.YtobgnbgmpcilgaaU17
import Derived.Test.YtobgnbgmpcilgaaU18
import Derived.Test.YtobgnbgmpcilgaaU14
import Derived.Test.YtobgnbgmpcilgaaU19

namespace Go.Proofs.Ytobgnbgmpcilgaa
open Go.RowKit

/-- A talk whose memory none of the blocks 'bad' may turn. -/
def Live (wr : World) (bad : Nat → Prop) (T : TalkV) (A : Option Addr) (n c : Nat) (B : Option Addr) (m d : Nat) : Prop := ∃ wb lo, TkIn wb lo T A n c B m d ∧ Keeps lo wb wr ∧ ∀ k, bad k → k < lo ∨ wb.heap.size ≤ k
section
variable {wr w' : World} {bad bad' : Nat → Prop} {T : TalkV} {A B : Option Addr} {n c m d : Nat}
theorem Live.at_ (h : Live wr bad T A n c B m d) : TkAt wr T A n c B m d := by
  obtain ⟨wb, lo, h1, h2, _⟩ := h
  exact (h1.keep h2).at_
theorem Live.grown {row : Option Nat} (h : Live wr bad T A n c B m d) (hg : wr.grownBy w' row) (hr : ∀ k, row = some k → bad k) : Live w' bad T A n c B m d := by
  obtain ⟨wb, lo, h1, h2, h3⟩ := h
  refine ⟨wb, lo, h1, ⟨Nat.le_trans h2.1 hg.size, fun b hb1 hb2 => (hg.block b (Nat.lt_of_lt_of_le hb2 h2.1) fun e => ?_).trans (h2.2 b hb1 hb2)⟩, h3⟩
  have := h3 b (hr b e.symm)
  omega
theorem Live.below (h : Live wr bad T A n c B m d) (hb : Below wr.heap.size wr w') : Live w' bad T A n c B m d := h.grown (row := none) ⟨hb.os, hb.tape, hb.output, hb.size, fun k hk _ => hb.block k hk⟩ (fun k e => by cases e)
theorem Live.set {b i : Nat} {v : Value} (h : Live wr bad T A n c B m d) (hb : bad b) : Live (wr.setCell ⟨b, i, none⟩ v) bad T A n c B m d :=
  h.grown (row := some b) (grown_set (World.grownBy.refl wr (some b)) i v) (fun k e => by cases e; exact hb)
theorem Live.more (h : Live wr bad T A n c B m d) (hb : ∀ k, bad' k → bad k ∨ wr.heap.size ≤ k) : Live wr bad' T A n c B m d := by
  obtain ⟨wb, lo, h1, h2, h3⟩ := h
  refine ⟨wb, lo, h1, h2, fun k hk => ?_⟩
  rcases hb k hk with h | h
  · exact h3 k h
  · have := h2.1; omega
theorem Live.new {lo : Nat} (h : TkIn wr lo T A n c B m d) (hb : ∀ k, bad k → k < lo) : Live wr bad T A n c B m d := ⟨wr, lo, h, Keeps.refl _ _, fun k hk => .inl (hb k hk)⟩
end
theorem doTo_small {T : TalkV} {k : Int} {s : ByteArray} (h : (doTo T k s).2 = true) : SmallT (doTo T k s).1 := by
  cases hok : okT T with
  | false => rw [doTo_bad k s hok] at h; cases h
  | true => exact (doTo_ok k s hok).2.2
theorem wp_append1Da {W : World} {ops : Array Oper} {rest : List Oper} {o : Oper} {a : Act} {Q : Exit → Act → World → Prop} (hgd : o.guard = none) (s x : Operand)
    (ho : o.op = .call { callee := .builtin .append, args := #[s, x], argTypes := #[32, 32] }) (base : Nat) (v : Value) (ds : List DeedV) (hs : a.eval s = v) (hown : OwnsD W base v ds)
    (f : Int) (g : ByteArray) (hx : a.eval x = .slice (some ⟨W.heap.size, 0, none⟩) 1 1) (hl : ds.length ≤ 1048576) (hb : base ≤ W.heap.size)
    (h : ∀ v' w', OwnsD w' base v' (ds ++ [(f, g)]) → (W.alloc (.cells #[.int .i64 f, .string g] 24)).grownBy w' v.ownBlock → (∀ k, v'.ownBlock = some k → v.ownBlock = some k ∨ W.heap.size ≤ k) → wpList Try.prog ops Q rest (a.put o.dst v') w') :
    wpList Try.prog ops Q (o :: rest) a (W.alloc (.cells #[.int .i64 f, .string g] 24)) := by
  obtain ⟨i0, hi0, hz0, hz1, hz2⟩ := info_parts deed_info
  refine wpList_append_own_at _ hgd s x 32 ho base 24 i0 (.agg #[.int .i64 0, .string ByteArray.empty]) 2 24 Try.underlying32 hi0 hz0 hz1 hz2 rfl (by decide) v ds.length (flatD ds) hs (World.ownsRow.alloc hown _)
    ⟨W.heap.size, 0, none⟩ 1 1 [.int .i64 f, .string g] hx rfl ?_ (fun u hu => by
      rw [List.mem_cons, List.mem_singleton] at hu
      rcases hu with rfl | rfl <;> rfl) (by simp only [maxLen]; omega) (by omega) (by rw [World.size_alloc]; omega) ?_
  · exact cell_two_new _ _ _ _
  intro v' w' h1 h2 _ h4
  refine h v' w' ?_ h2 (fun k hk => ?_)
  · unfold OwnsD
    rw [flatD_snoc, List.length_append]
    exact h1
  · rcases h4 with h4 | h4
    · left; rw [← h4]; exact hk
    · right; rw [h4, World.size_alloc] at hk; injection hk with hk; omega
def DeedsPost (m g u : Nat) (w : World) (e : Ending) (w' : World) : Prop := ∃ (v : Value) (ds : List DeedV), e = .returned v ∧ OwnsD w' w.heap.size v ds ∧ ds.length ≤ m ∧ (∀ d ∈ ds, d.2.size ≤ 100) ∧ Rd w' g u ∧ w.grownBy w' (some g)
theorem owns_grownD {w w' : World} {base g : Nat} {v : Value} {ds : List DeedV} (h : OwnsD w base v ds) (hg : w.grownBy w' (some g)) (hb : g < base) : OwnsD w' base v ds := by
  refine h.kept hg ?_
  cases e : v.ownBlock with
  | none => exact .inl rfl
  | some k =>
    right
    intro e2
    have := (World.ownsRow.lt h k e).1
    injection e2
    omega
theorem OwnsD.set {w : World} {base b i : Nat} {v u : Value} {ds : List DeedV} {T : TypeId} {cs : List Value} (h : OwnsD w base v ds) (hb : Box w b T cs) (hT : T ≠ 24) : OwnsD (w.setCell ⟨b, i, none⟩ u) base v ds := by
  refine h.kept (row := some b) (grown_set (World.grownBy.refl w (some b)) i u) ?_
  cases e : v.ownBlock with
  | none => exact .inl rfl
  | some k => right; intro e2; injection e2 with e2; exact box_apart hb h hT k e e2
theorem OwnsD.lt {w : World} {base : Nat} {v : Value} {ds : List DeedV} (h : OwnsD w base v ds) {k : Nat} (hk : v.ownBlock = some k) : base ≤ k ∧ k < w.heap.size := World.ownsRow.lt h k hk
set_option maxRecDepth 100000 in
set_option maxHeartbeats 8000000 in
theorem deeds_any (g u : Nat) (T : TalkV) (A B : Option Addr) (n c m d : Nat) (w : World) (lo : Nat) (hlo : g < lo) (hT : TkIn w lo T A n c B m d) (hs : SmallT T) (hu : u ≤ 700000) (hR : Rd w g u) :
    Calls Try.prog 64 #[.pointer (some ⟨g, 0, none⟩), .agg #[.int .i64 T.things, .int .i64 T.now.known, .slice A n c, .slice B m d]] w (DeedsPost 5 g (u + 300) w) := by
  have hlt := hR.lt
  have HM : Hid (DM g u w (w.alloc (.cells #[.int .i64 T.things, .int .i64 T.now.known, .slice A n c, .slice B m d] 43))) := (DM.start hR).alloc _
  have HX : Hid (Box (w.alloc (.cells #[.int .i64 T.things, .int .i64 T.now.known, .slice A n c, .slice B m d] 43)) w.heap.size 43 [.int .i64 T.things, .int .i64 T.now.known, .slice A n c, .slice B m d]) := Box.new w _ [.int .i64 T.things, .int .i64 T.now.known, .slice A n c, .slice B m d]
  have HL : Hid (Live w (fun k => k = g ∨ w.heap.size ≤ k) T A n c B m d) := ⟨w, lo, hT, Keeps.refl _ _, fun k hk => by omega⟩
  have HSM := Lib.hid hs
  clear hR hT hs hlo
  go_enter Try.func64, Try.ntmps64
  go_upto_region 1 with fail
  obtain ⟨W1, hW1⟩ : ∃ W, w.alloc (.cells #[.int .i64 T.things, .int .i64 T.now.known, .slice A n c, .slice B m d] 43) = W := ⟨_, rfl⟩
  rw [hW1] at HM HX ⊢
  have HB1 : Hid (Below w.heap.size w W1) := by unfold Hid; rw [← hW1]; exact (Below.refl _ _).alloc (Nat.le_refl _) _
  clear hW1
  have HXA := Lib.hid (HX.out.alloc (.cells #[] 24))
  have hx0 := HXA.out.cell (i := 0) (v := .int .i64 T.things) rfl
  have hx1 := HXA.out.cell (i := 1) (v := .int .i64 T.now.known) rfl
  have hx2 := HXA.out.cell (i := 2) (v := .slice A n c) rfl
  have hx3 := HXA.out.cell (i := 3) (v := .slice B m d) rfl
  go_upto_region 3 with fail
  have hsz1 : w.heap.size ≤ W1.heap.size := HB1.out.size
  have hX3 := Box.new (W1.alloc (.cells #[] 24)) 43 [.int .i64 T.things, .int .i64 T.now.known, .slice A n c, .slice B m d]
  have hO3 := (OwnsD.lit0 W1 w.heap.size hsz1).below ((Below.refl _ _).alloc (Nat.le_refl _) (.cells #[.int .i64 T.things, .int .i64 T.now.known, .slice A n c, .slice B m d] 43))
  have hM3 := (HM.out.alloc (.cells #[] 24)).alloc (.cells #[.int .i64 T.things, .int .i64 T.now.known, .slice A n c, .slice B m d] 43)
  have hL3 := (HL.out.below HB1.out).below (((Below.refl W1.heap.size W1).alloc (Nat.le_refl _) (.cells #[] 24)).alloc (by rw [World.size_alloc]; omega) (.cells #[.int .i64 T.things, .int .i64 T.now.known, .slice A n c, .slice B m d] 43))
  have hd3 : (Value.slice (some ⟨W1.heap.size, 0, none⟩) 0 0).ownBlock = some W1.heap.size := rfl
  rw [World.size_alloc] at hX3
  obtain ⟨W3, hW3⟩ : ∃ W, (W1.alloc (.cells #[] 24)).alloc (.cells #[.int .i64 T.things, .int .i64 T.now.known, .slice A n c, .slice B m d] 43) = W := ⟨_, rfl⟩
  obtain ⟨h, hh⟩ : ∃ h, W1.heap.size + 1 = h := ⟨_, rfl⟩
  rw [hW3] at hX3 hO3 hM3 hL3 ⊢
  rw [hh] at hX3 ⊢
  have HX3 := Lib.hid hX3
  have HO3 := Lib.hid hO3
  have HM3 := Lib.hid hM3
  have HL3 : Hid (Live W3 (fun k => k = g ∨ k = h ∨ (Value.slice (some ⟨W1.heap.size, 0, none⟩) 0 0).ownBlock = some k) T A n c B m d) := hL3.more (fun k hk => by rw [hd3] at hk; simp only [Option.some.injEq] at hk; rcases hk with h | h | h <;> left <;> omega)
  have hwh : w.heap.size < h := by omega
  clear hX3 hO3 hM3 hL3 hd3 hW3 hx0 hx1 hx2 hx3 HXA HX HM HL HB1 hsz1
  go_wp2_with fail
  refine (pick_any g _ 6 _ (by omega) (by omega) (by omega) HM3.out.rd).mono ?_
  rintro e w4 ⟨k0, rfl, hk0, hk1, hr, hg⟩
  have hk5 := hk1 (by omega)
  have HX4 := Lib.hid (HX3.out.grownO hg (fun j e => by cases e; omega))
  have HO4 := Lib.hid (owns_grownD HO3.out hg hlt)
  have HL4 := Lib.hid (HL3.out.grown hg (fun j e => by cases e; exact .inl rfl))
  have HM4 := Lib.hid (HM3.out.next hr hg)
  obtain ⟨kk, rfl⟩ : ∃ kk : Nat, k0 = (kk : Int) := ⟨k0.toNat, by omega⟩
  clear hr hg hk1 HX3 HO3 HL3 HM3
  go_wp2_with fail
  go_loopw [5, 7] (fun v i wr => ∃ (k : Nat) (T : TalkV) (A : Option Addr) (n c : Nat) (B : Option Addr) (m d : Nat) (ds : List DeedV), k ≤ 5 ∧ i = .int .i64 k ∧ Hid (ds.length + k ≤ 5) ∧ Hid (SmallT T) ∧ Hid (Live wr (fun k => k = g ∨ k = h ∨ v.ownBlock = some k) T A n c B m d) ∧ Hid (Box wr h 43 [.int .i64 T.things, .int .i64 T.now.known, .slice A n c, .slice B m d]) ∧ Hid (OwnsD wr w.heap.size v ds) ∧ Hid (∀ d ∈ ds, d.2.size ≤ 100) ∧ Hid (DM g (u + 1 + 51 * (5 - k)) w wr)) (fun _ i _ => (Go.RowKit.intOf i).toNat)
  case atStart => exact ⟨kk, T, A, n, c, B, m, d, [], by omega, rfl, by unfold Hid; simp; omega, HSM, HL4, HX4, HO4, by unfold Hid; simp, HM4.out.more (by omega)⟩
  case round =>
    obtain ⟨k, T, A, n, c, B, m, d, ds, hk, rfl, HLN, HSM, HL, HX, HO, HDS, HM⟩ := hrel
    by_cases hpos : 0 < k
    · have hdp : decide ((0 : Int) < (k : Int)) = true := decide_eq_true (by omega)
      obtain ⟨y, hy⟩ : ∃ y, u + 1 + 51 * (5 - k) = y := ⟨_, rfl⟩
      have hyb : y ≤ 701000 := by omega
      rw [hy] at HM
      have HYE : Hid (y + 51 = u + 1 + 51 * (5 - (k - 1))) := by unfold Hid; omega
      clear hy
      have hx0 := HX.out.cell (i := 0) (v := .int .i64 T.things) rfl
      have hx1 := HX.out.cell (i := 1) (v := .int .i64 T.now.known) rfl
      have hx2 := HX.out.cell (i := 2) (v := .slice A n c) rfl
      have hx3 := HX.out.cell (i := 3) (v := .slice B m d) rfl
      obtain ⟨Ao, co, rfl, _⟩ := HO.out.form
      obtain ⟨no, hno⟩ : ∃ no, ds.length = no := ⟨_, rfl⟩
      have HNO := Lib.hid hno
      rw [hno] at HL HO ⊢
      clear hno
      go_wp2_with fail
      refine (deed_any g y _ _ _ _ A B n c m d rfl rfl _ (by omega) HM.out.rd).mono ?_
      rintro e w5 ⟨kd, tx, rfl, hsz, hr, hg⟩
      have HX5 := Lib.hid (HX.out.grownO hg (fun j e => by cases e; omega))
      have HO5 := Lib.hid (owns_grownD HO.out hg hlt)
      have HL5 := Lib.hid (HL.out.grown hg (fun j e => by cases e; exact .inl rfl))
      have HM5 := Lib.hid (HM.out.next hr hg)
      have HTX := Lib.hid hsz
      clear hr hg hx0 hx1 hx2 hx3 hsz HX HO HL HM
      go_upto_region 7 with fail
      have hD6 := Box.new w5 24 [.int .i64 kd, .string tx]
      have HX6 := Lib.hid (HX5.out.alloc (.cells #[.int .i64 kd, .string tx] 24))
      have HO6 := Lib.hid (HO5.out.below ((Below.refl _ _).alloc (Nat.le_refl _) (.cells #[.int .i64 kd, .string tx] 24)))
      have HL6 := Lib.hid (HL5.out.below ((Below.refl _ _).alloc (Nat.le_refl _) (.cells #[.int .i64 kd, .string tx] 24)))
      have HM6 := Lib.hid (HM5.out.alloc (.cells #[.int .i64 kd, .string tx] 24))
      obtain ⟨h8, hh8⟩ : ∃ h8, w5.heap.size = h8 := ⟨_, rfl⟩
      have hhb : h < h8 := by rw [← hh8]; exact HX5.out.lt
      have HOB : Hid (∀ j, (Value.slice Ao no co).ownBlock = some j → j < h8) := fun j hj => by rw [← hh8]; exact (HO5.out.lt hj).2
      obtain ⟨w6, hw6⟩ : ∃ W, w5.alloc (.cells #[.int .i64 kd, .string tx] 24) = W := ⟨_, rfl⟩
      rw [hw6] at hD6 HX6 HO6 HL6 HM6 ⊢
      rw [hh8] at hD6
      try rw [hh8]
      have HD6 := Lib.hid hD6
      clear hw6 hh8 hD6 HX5 HO5 HL5 HM5
      have hx0 := HX6.out.cell (i := 0) (v := .int .i64 T.things) rfl
      have hx1 := HX6.out.cell (i := 1) (v := .int .i64 T.now.known) rfl
      have hx2 := HX6.out.cell (i := 2) (v := .slice A n c) rfl
      have hx3 := HX6.out.cell (i := 3) (v := .slice B m d) rfl
      have hd0 := HD6.out.cell (i := 0) (v := .int .i64 kd) rfl
      have hd1 := HD6.out.cell (i := 1) (v := .string tx) rfl
      go_wp2_with fail
      refine (sTalkDo T A B n c m d kd tx _ HL6.out.at_ HSM.out (by have := HTX.out; omega)).mono ?_
      rintro e w7 ⟨A2, n2, c2, B2, m2, d2, rfl, hown, hb⟩
      have hsm := doTo_small (T := T) (k := kd) (s := tx)
      generalize doTo T kd tx = XB at hown hsm ⊢
      have HX7 := Lib.hid (HX6.out.below hb)
      have HO7 := Lib.hid (HO6.out.below hb)
      have HL7 := Lib.hid (HL6.out.below hb)
      have HM7 := Lib.hid (HM6.out.below hb)
      have HD7 := Lib.hid (HD6.out.below hb)
      have HN7 : Hid (Live w7 (fun k => k = g ∨ k = h ∨ (Value.slice Ao no co).ownBlock = some k) XB.1 A2 n2 c2 B2 m2 d2) := Live.new hown.1 (fun j hj => by
        have h6 := HX6.out.lt
        have hg6 := HM6.out.rd.lt
        rcases hj with e | e | e
        · omega
        · omega
        · exact (HO6.out.lt e).2)
      have HSX := Lib.hid hsm
      clear hown hb hsm hx0 hx1 hx2 hx3 hd0 hd1 HX6 HO6 HL6 HM6 HD6
      go_upto_region 8 with fail
      have hY8 := Box.new w7 43 [.int .i64 XB.1.things, .int .i64 XB.1.now.known, .slice A2 n2 c2, .slice B2 m2 d2]
      have hbel : Below w7.heap.size w7 (w7.alloc (.cells #[.int .i64 XB.1.things, .int .i64 XB.1.now.known, .slice A2 n2 c2, .slice B2 m2 d2] 43)) := (Below.refl _ _).alloc (Nat.le_refl _) _
      have HX8 := Lib.hid (HX7.out.below hbel)
      have HO8 := Lib.hid (HO7.out.below hbel)
      have HL8 := Lib.hid (HL7.out.below hbel)
      have HN8 := Lib.hid (HN7.out.below hbel)
      have HM8 := Lib.hid (HM7.out.below hbel)
      have HD8 := Lib.hid (HD7.out.below hbel)
      obtain ⟨h9, hh9⟩ : ∃ h9, w7.heap.size = h9 := ⟨_, rfl⟩
      obtain ⟨w8, hw8⟩ : ∃ W, w7.alloc (.cells #[.int .i64 XB.1.things, .int .i64 XB.1.now.known, .slice A2 n2 c2, .slice B2 m2 d2] 43) = W := ⟨_, rfl⟩
      rw [hw8] at hY8 HX8 HO8 HL8 HN8 HM8 HD8 ⊢
      rw [hh9] at hY8
      try rw [hh9]
      have HY8 := Lib.hid hY8
      have hh9b : h < h9 := by rw [← hh9]; exact HX7.out.lt
      clear hw8 hh9 hY8 hbel HX7 HO7 HL7 HN7 HM7 HD7
      have hnol : no ≤ 4 := by have := HLN.out; have := HNO.out; omega
      cases hb : XB.2
      · (try rw [hb])
        have hd0 := HD8.out.cell (i := 0) (v := .int .i64 kd) rfl
        have hd1 := HD8.out.cell (i := 1) (v := .string tx) rfl
        have hob : w.heap.size ≤ w8.heap.size := HM8.out.gr.size
        have hap : ∀ j, (Value.slice Ao no co).ownBlock = some j → j ≠ h := fun j hj => box_apart HX8.out HO8.out (by decide) j hj
        have HNO4 : Hid (ds.length ≤ 1048576) := by unfold Hid; rw [HNO.out]; omega
        go_wp2_with (at_builtin; refine wp_append1Da (W := w8) rfl _ _ rfl w.heap.size (.slice Ao no co) ds rfl HO8.out kd tx rfl HNO4.out hob ?_; intro v' w10 ho hg hat)
        have HFO := Lib.hid ho
        have HFX := Lib.hid ((HX8.out.alloc (.cells #[.int .i64 kd, .string tx] 24)).grownO hg hap)
        have HFM := Lib.hid ((HM8.out.alloc (.cells #[.int .i64 kd, .string tx] 24)).fresh hg (fun j e => (HO8.out.lt e).1) hlt)
        have HFL : Hid (Live w10 (fun k => k = g ∨ k = h ∨ v'.ownBlock = some k) T A n c B m d) := by
          have h0 := HL8.out.more (bad' := fun k => (k = g ∨ k = h ∨ (Value.slice Ao no co).ownBlock = some k) ∨ w8.heap.size ≤ k) (fun k hk => hk)
          have h1 := (h0.below ((Below.refl _ _).alloc (Nat.le_refl _) (.cells #[.int .i64 kd, .string tx] 24))).grown hg (fun j e => .inl (.inr (.inr e)))
          exact h1.more (fun k hk => .inl (by
            rcases hk with e | e | e
            · exact .inl (.inl e)
            · exact .inl (.inr (.inl e))
            · rcases hat k e with e | e
              · exact .inl (.inr (.inr e))
              · exact .inr e))
        go_roundw
        case rel => exact ⟨k - 1, T, A, n, c, B, m, d, ds ++ [(kd, tx)], by omega, by go_num, by unfold Hid; rw [List.length_append]; have := HLN.out; simp; omega, HSM, HFL, HFX, HFO, fun d hd => by
          rcases List.mem_append.1 hd with h | h
          · exact HDS.out d h
          · rw [List.mem_singleton] at h; rw [h]; exact HTX.out, HFM.out.more (by have := HYE.out; omega)⟩
        case measure => simp [Go.RowKit.intOf]; omega
      · have hz0 := HY8.out.cell (i := 0) (v := .int .i64 XB.1.things) rfl
        have hz1 := HY8.out.cell (i := 1) (v := .int .i64 XB.1.now.known) rfl
        have hz2 := HY8.out.cell (i := 2) (v := .slice A2 n2 c2) rfl
        have hz3 := HY8.out.cell (i := 3) (v := .slice B2 m2 d2) rfl
        obtain ⟨⟨ha0, ha1, ha2, ha3, ha4, ha5, ha6, ha7⟩, ⟨hb2, hb3⟩, ⟨hb4, hb5⟩, ⟨hb6, hb7⟩, HX9⟩ := HX8.out.store4 (.int .i64 XB.1.things) (.int .i64 XB.1.now.known) (.slice A2 n2 c2) (.slice B2 m2 d2)
        have HSX2 := Lib.hid (HSX.out hb)
        have HO9 : Hid (OwnsD ((((w8.setCell ⟨h, 0, none⟩ (.int .i64 XB.1.things)).setCell ⟨h, 1, none⟩ (.int .i64 XB.1.now.known)).setCell ⟨h, 2, none⟩ (.slice A2 n2 c2)).setCell ⟨h, 3, none⟩ (.slice B2 m2 d2)) w.heap.size (.slice Ao no co) ds) := ((((HO8.out.set HX8.out (by decide)).set (HX8.out.set 0 _) (by decide)).set ((HX8.out.set 0 _).set 1 _) (by decide)).set (((HX8.out.set 0 _).set 1 _).set 2 _) (by decide))
        have HN9 : Hid (Live ((((w8.setCell ⟨h, 0, none⟩ (.int .i64 XB.1.things)).setCell ⟨h, 1, none⟩ (.int .i64 XB.1.now.known)).setCell ⟨h, 2, none⟩ (.slice A2 n2 c2)).setCell ⟨h, 3, none⟩ (.slice B2 m2 d2)) (fun k => k = g ∨ k = h ∨ (Value.slice Ao no co).ownBlock = some k) XB.1 A2 n2 c2 B2 m2 d2) := (((HN8.out.set (.inr (.inl rfl))).set (.inr (.inl rfl))).set (.inr (.inl rfl))).set (.inr (.inl rfl))
        have HM9 : Hid (DM g (y + 50) w ((((w8.setCell ⟨h, 0, none⟩ (.int .i64 XB.1.things)).setCell ⟨h, 1, none⟩ (.int .i64 XB.1.now.known)).setCell ⟨h, 2, none⟩ (.slice A2 n2 c2)).setCell ⟨h, 3, none⟩ (.slice B2 m2 d2))) := (((HM8.out.set (by omega) hlt).set (by omega) hlt).set (by omega) hlt).set (by omega) hlt
        have HD9 := Lib.hid (HD8.out.other4 (g := h) (by omega) (.int .i64 XB.1.things) (.int .i64 XB.1.now.known) (.slice A2 n2 c2) (.slice B2 m2 d2))
        (try rw [hb])
        go_upto_region 10 with fail
        obtain ⟨w9, hw9⟩ : ∃ W, (((w8.setCell ⟨h, 0, none⟩ (.int .i64 XB.1.things)).setCell ⟨h, 1, none⟩ (.int .i64 XB.1.now.known)).setCell ⟨h, 2, none⟩ (.slice A2 n2 c2)).setCell ⟨h, 3, none⟩ (.slice B2 m2 d2) = W := ⟨_, rfl⟩
        rw [hw9] at HX9 HO9 HN9 HM9 HD9 ⊢
        clear hw9 hz0 hz1 hz2 hz3 ha0 ha1 ha2 ha3 ha4 ha5 ha6 ha7 hb2 hb3 hb4 hb5 hb6 hb7
        have hd0 := HD9.out.cell (i := 0) (v := .int .i64 kd) rfl
        have hd1 := HD9.out.cell (i := 1) (v := .string tx) rfl
        have hob : w.heap.size ≤ w9.heap.size := HM9.out.gr.size
        have hap : ∀ j, (Value.slice Ao no co).ownBlock = some j → j ≠ h := fun j hj => box_apart HX9.out HO9.out (by decide) j hj
        have HNO4 : Hid (ds.length ≤ 1048576) := by unfold Hid; rw [HNO.out]; omega
        go_wp2_with (at_builtin; refine wp_append1Da (W := w9) rfl _ _ rfl w.heap.size (.slice Ao no co) ds rfl HO9.out kd tx rfl HNO4.out hob ?_; intro v' w10 ho hg hat)
        have HFO := Lib.hid ho
        have HFX := Lib.hid ((HX9.out.alloc (.cells #[.int .i64 kd, .string tx] 24)).grownO hg hap)
        have HFM := Lib.hid ((HM9.out.alloc (.cells #[.int .i64 kd, .string tx] 24)).fresh hg (fun j e => (HO9.out.lt e).1) hlt)
        have HFL : Hid (Live w10 (fun k => k = g ∨ k = h ∨ v'.ownBlock = some k) XB.1 A2 n2 c2 B2 m2 d2) := by
          have h0 := HN9.out.more (bad' := fun k => (k = g ∨ k = h ∨ (Value.slice Ao no co).ownBlock = some k) ∨ w9.heap.size ≤ k) (fun k hk => hk)
          have h1 := (h0.below ((Below.refl _ _).alloc (Nat.le_refl _) (.cells #[.int .i64 kd, .string tx] 24))).grown hg (fun j e => .inl (.inr (.inr e)))
          exact h1.more (fun k hk => .inl (by
            rcases hk with e | e | e
            · exact .inl (.inl e)
            · exact .inl (.inr (.inl e))
            · rcases hat k e with e | e
              · exact .inl (.inr (.inr e))
              · exact .inr e))
        go_roundw
        case rel => exact ⟨k - 1, XB.1, A2, n2, c2, B2, m2, d2, ds ++ [(kd, tx)], by omega, by go_num, by unfold Hid; rw [List.length_append]; have := HLN.out; simp; omega, HSX2, HFL, HFX, HFO, fun d hd => by
          rcases List.mem_append.1 hd with h | h
          · exact HDS.out d h
          · rw [List.mem_singleton] at h; rw [h]; exact HTX.out, HFM.out.more (by have := HYE.out; omega)⟩
        case measure => simp [Go.RowKit.intOf]; omega
    · obtain rfl : k = 0 := by omega
      go_wp2_with fail
      go_ret
      exact ⟨_, ds, rfl, HO.out, by have := HLN.out; omega, HDS.out, HM.out.rd.more (by omega), HM.out.gr⟩
end Go.Proofs.Ytobgnbgmpcilgaa

namespace Go.Proofs.Ytobgnbgmpcilgaa
open Go.RowKit

theorem deeds_at {w : World} {base : Nat} {A : Option Addr} {n c : Nat} {ds : List DeedV} (h : OwnsD w base (.slice A n c) ds) : Deeds w A ds := by
  obtain ⟨A', c', e, _, _, h2, _⟩ := h.form
  cases e
  exact h2
/-- A slice of deeds still lies where a world has kept its block. -/
theorem OwnsD.keep {w w' : World} {lo : Nat} {v : Value} {ds : List DeedV} (h : OwnsD w lo v ds) (hk : Keeps lo w w') : OwnsD w' lo v ds := by
  refine ⟨h.1, ?_⟩
  rcases h.2 with h | ⟨g, cap, cur, h1, h2, h3, h4⟩
  · exact .inl h
  · exact .inr ⟨g, cap, cur, h1, h2, (hk.2 g h2 (Array.getElem?_eq_some_iff.1 h3).1).trans h3, h4⟩
set_option maxRecDepth 100000 in
set_option maxHeartbeats 8000000 in
theorem written_any (g u : Nat) (w : World) (hu : u ≤ 600000) (hR : Rd w g u) :
    Calls Try.prog 47 #[.pointer (some ⟨g, 0, none⟩)] w (DeedsPost 5 g (u + 600) w) := by
  have hlt := hR.lt
  have HO : Hid (OwnsD (w.alloc (.cells #[] 24)) w.heap.size (.slice (some ⟨w.heap.size, 0, none⟩) 0 0) []) := OwnsD.lit0 w _ (Nat.le_refl _)
  have HM : Hid (DM g u w (w.alloc (.cells #[] 24))) := (DM.start hR).alloc _
  have hs1 : g < (w.alloc (.cells #[] 24)).heap.size := by rw [World.size_alloc]; omega
  have hs2 : w.heap.size < (w.alloc (.cells #[] 24)).heap.size := by rw [World.size_alloc]; omega
  clear hR
  go_enter Try.func47, Try.ntmps47
  go_upto_region 2 with fail
  obtain ⟨W1, hW1⟩ : ∃ W, w.alloc (.cells #[] 24) = W := ⟨_, rfl⟩
  rw [hW1] at HO HM hs1 hs2 ⊢
  clear hW1
  go_wp2_with fail
  refine (talk_any g u 0 _ (by omega) (by omega) (by omega) HM.out.rd).mono ?_
  rintro e w2 ⟨T, A, n, c, B, m, d, rfl, hin, hsm, _, hr, hg⟩
  have HO2 := Lib.hid (owns_grownD HO.out hg hlt)
  have HM2 := Lib.hid (HM.out.next hr hg)
  have HIN := Lib.hid hin
  have HSM := Lib.hid hsm
  have hs3 : W1.heap.size ≤ w2.heap.size := hg.size
  clear hin hsm hr hg HO HM
  go_wp2_with fail
  refine (deeds_any g (u + 300) T A B n c m d _ W1.heap.size hs1 HIN.out HSM.out (by omega) HM2.out.rd).mono ?_
  rintro e w3 ⟨v, ds, rfl, ho, hlen, hds, hr, hg⟩
  obtain ⟨Al, cl, rfl, _⟩ := ho.form
  have HO3 := Lib.hid (owns_grownD HO2.out hg hlt)
  have HM3 := Lib.hid (HM2.out.next hr hg)
  have HL3 := Lib.hid ho
  have HDS := Lib.hid hds
  have hs4 : w2.heap.size ≤ w3.heap.size := hg.size
  obtain ⟨nl, hnl⟩ : ∃ nl, ds.length = nl := ⟨_, rfl⟩
  have HNL := Lib.hid hnl
  rw [hnl] at HL3 hlen ⊢
  clear ho hr hg hds HO2 HM2 HIN HSM hnl
  go_wp2_with fail
  go_loopw [3, 5] (fun v i wr => ∃ (j : Nat) (es : List DeedV), j ≤ nl ∧ i = .int .i64 j ∧ Hid (es.length ≤ j) ∧ Hid (OwnsD wr w.heap.size v es) ∧ Hid (OwnsD wr w2.heap.size (.slice Al nl cl) ds) ∧ Hid (∀ k, v.ownBlock = some k → k < w2.heap.size ∨ w3.heap.size ≤ k) ∧ Hid (∀ d ∈ es, d.2.size ≤ 100) ∧ Hid (DM g (u + 600) w wr) ∧ Hid (Keeps w2.heap.size w3 wr)) (fun _ i _ => nl - (Go.RowKit.intOf i).toNat)
  case atStart => exact ⟨0, [], Nat.zero_le _, rfl, Nat.le_refl _, HO3, HL3, fun k hk => by simp only [Value.ownBlock, Option.some.injEq] at hk; omega, by unfold Hid; simp, HM3, Keeps.refl _ _⟩
  case round =>
    obtain ⟨j, es, hj, rfl, HEL, HO, HL, HAP, HES, HM, HK⟩ := hrel
    by_cases hlt2 : j < nl
    · obtain ⟨b, off, f, s, rfl, hc0, hc1, hx, hbl⟩ := (deeds_at HL.out).elem (i := j) (by rw [HNL.out]; exact hlt2)
      have hss : s.size ≤ 100 := HDS.out (f, s) (elem_memD hx)
      obtain ⟨Ao, co, rfl, _⟩ := HO.out.form
      obtain ⟨no, hno⟩ : ∃ no, es.length = no := ⟨_, rfl⟩
      have HNO := Lib.hid hno
      rw [hno] at HO HAP ⊢
      have hnol : no ≤ 5 := by have := HEL.out; have := HNO.out; omega
      clear hno
      obtain ⟨x, hxe⟩ : ∃ x, deedB (f, s) = x := ⟨_, rfl⟩
      have HD : Hid (∀ W : World, Calls Try.prog 13 #[.agg #[.int .i64 f, .string s]] W fun e w' => e = .returned (.string x) ∧ Below W.heap.size W w') := fun W => by rw [← hxe]; exact sDeedText f s W (by omega)
      clear hxe
      by_cases he : x = ⟨#[]⟩
      · subst he
        go_wp2_with (go_at_call 13; refine (HD.out _).mono ?_; rintro e w5 ⟨rfl, hb⟩; have HO5 := Lib.hid (HO.out.below hb); have HL5 := Lib.hid (HL.out.below hb); have HM5 := Lib.hid (HM.out.below hb); have HK5 := Lib.hid (HK.out.below hb); clear hb hc0 hc1)
        go_roundw
        case rel => exact ⟨j + 1, es, by omega, by go_num, by have := HEL.out; unfold Hid; omega, HO5, HL5, HAP, HES, HM5, HK5⟩
        case measure => simp [Go.RowKit.intOf]; omega
      · obtain ⟨hn1, hn2, hn3, hn4, hn5⟩ := text_full he
        have HNO4 : Hid (es.length ≤ 1048576) := by unfold Hid; rw [HNO.out]; omega
        have HW0 : Hid (w.heap.size ≤ wr.heap.size) := HM.out.gr.size
        clear he
        go_wp2_with (first
          | (go_at_call 13; refine (HD.out _).mono ?_; rintro e w5 ⟨rfl, hb⟩; have HO5 := Lib.hid (HO.out.below hb); have HL5 := Lib.hid (HL.out.below hb); have HM5 := Lib.hid (HM.out.below hb); have HK5 := Lib.hid (HK.out.below hb); have HW5 := Lib.hid (Nat.le_trans HW0.out hb.size); replace hc0 := ((Below.cell hb (p := ⟨b, off + j * 2, none⟩)) hbl.out).trans hc0; replace hc1 := ((Below.cell hb (p := ⟨b, off + j * 2 + 1, none⟩)) hbl.out).trans hc1; clear hb)
          | (at_builtin; refine wp_append1Da (W := w5) rfl _ _ rfl w.heap.size (.slice Ao no co) es rfl HO5.out f s rfl HNO4.out HW5.out ?_; intro v' w10 ho hg hat; have HFO := Lib.hid ho; have HFM := Lib.hid ((HM5.out.alloc (.cells #[.int .i64 f, .string s] 24)).fresh hg (fun j e => (HO5.out.lt e).1) hlt); have hkk : Keeps w2.heap.size w3 w10 := ⟨Nat.le_trans HK5.out.1 (Nat.le_trans (by rw [World.size_alloc]; omega) hg.size), fun q hq1 hq2 => (hg.block q (by rw [World.size_alloc]; have := HK5.out.1; omega) (fun e => by have := HAP.out q e.symm; omega)).trans ((Below.heap_alloc w5 _ q (Nat.lt_of_lt_of_le hq2 HK5.out.1)).trans (HK5.out.2 q hq1 hq2))⟩; have HFK := Lib.hid hkk; have HFL := Lib.hid (HL3.out.keep hkk); have HFA : Hid (∀ k, v'.ownBlock = some k → k < w2.heap.size ∨ w3.heap.size ≤ k) := (fun k hk => by rcases hat k hk with e | e; exact HAP.out k e; have := HK5.out.1; omega); clear ho hg hat hkk))
        go_roundw
        case rel => exact ⟨j + 1, es ++ [(f, s)], by omega, by go_num, by have := HEL.out; unfold Hid; rw [List.length_append]; simp; omega, HFO, HFL, HFA, fun d hd => by
          rcases List.mem_append.1 hd with h | h
          · exact HES.out d h
          · rw [List.mem_singleton] at h; rw [h]; exact hss, HFM, HFK⟩
        case measure => simp [Go.RowKit.intOf]; omega
    · obtain rfl : j = nl := by omega
      go_wp2_with fail
      go_ret
      exact ⟨_, es, rfl, HO.out, by have := HEL.out; omega, HES.out, HM.out.rd, HM.out.gr⟩
def wordsS : List ByteArray := [⟨#[]⟩, ⟨#[97]⟩, ⟨#[32]⟩, ⟨#[10]⟩, ⟨#[40]⟩, ⟨#[98, 97, 99, 107]⟩]
theorem wordsS_size {x : ByteArray} (h : x ∈ wordsS) : x.size ≤ 4 := by
  simp only [wordsS, List.mem_cons, List.not_mem_nil, or_false] at h
  rcases h with rfl | rfl | rfl | rfl | rfl | rfl <;> decide
theorem litS_here {k : Int} (h0 : 0 ≤ k) (hk : k < 6) : ∃ x : ByteArray, x ∈ wordsS ∧ ∀ h, [Value.string ⟨#[]⟩, .string ⟨#[97]⟩, .string ⟨#[32]⟩, .string ⟨#[10]⟩, .string ⟨#[40]⟩, .string ⟨#[98, 97, 99, 107]⟩][k.toNat]'h = .string x := by
  have h5 : k = 0 ∨ k = 1 ∨ k = 2 ∨ k = 3 ∨ k = 4 ∨ k = 5 := by omega
  rcases h5 with rfl | rfl | rfl | rfl | rfl | rfl <;> exact ⟨_, by simp [wordsS], fun _ => rfl⟩
def SpoilPost (hi g u : Nat) (w : World) (e : Ending) (w' : World) : Prop := ∃ s : ByteArray, e = .returned (.string s) ∧ s.size ≤ hi ∧ Rd w' g u ∧ w.grownBy w' (some g)
set_option maxRecDepth 100000 in
set_option maxHeartbeats 4000000 in
theorem spoil_any (g u : Nat) (s : ByteArray) (w : World) (hs : s.size ≤ 100000) (hu : u ≤ 900000) (hR : Rd w g u) :
    Calls Try.prog 46 #[.pointer (some ⟨g, 0, none⟩), .string s] w (SpoilPost (s.size + 4) g (u + 2) w) := by
  have HR := Lib.hid hR
  have hlt := hR.lt
  clear hR
  by_cases he : s = ⟨#[]⟩
  · subst he
    have HP : Hid (Rd w g (u + 2) ∧ w.grownBy w (some g)) := ⟨HR.out.more (by omega), World.grownBy.refl _ _⟩
    go_enter Try.func46, Try.ntmps46
    go_wp2_with fail
    go_ret
    exact ⟨_, rfl, by decide, HP.out⟩
  · have hpos : 0 < s.size := by
      rcases Nat.eq_zero_or_pos s.size with h | h
      · exact absurd (by apply ByteArray.ext; exact Array.eq_empty_of_size_eq_zero h) he
      · exact h
    have hz : ((s.size : Int) == 0) = false := by rw [beq_eq_false_iff_ne]; omega
    clear he
    go_enter Try.func46, Try.ntmps46
    go_wp2_with fail
    refine (pick_any g _ _ _ (by omega) (by omega) (by omega) HR.out).mono ?_
    rintro e w4 ⟨k, rfl, hk0, hk1, hr, hg⟩
    have hkk := hk1 (by omega)
    have hlt4 : g < w4.heap.size := hr.lt
    have HR4 := Lib.hid hr
    have HG4 := Lib.hid hg
    clear hr hg hk1
    obtain ⟨l, hl⟩ : ∃ l, k + 1 = l := ⟨_, rfl⟩
    obtain ⟨p1, hp1⟩ : ∃ p, s.extract 0 k.toNat = p := ⟨_, rfl⟩
    obtain ⟨p2, hp2⟩ : ∃ p, s.extract l.toNat s.size = p := ⟨_, rfl⟩
    have hE1 : p1.size ≤ s.size := by rw [← hp1, ByteArray.size_extract]; omega
    have hE2 : p2.size ≤ s.size := by rw [← hp2, ByteArray.size_extract]; omega
    have HE : Hid (p1.size + p2.size ≤ s.size) := by unfold Hid; rw [← hp1, ← hp2, ByteArray.size_extract, ByteArray.size_extract]; omega
    have hks : k ≤ (s.size : Int) := by omega
    have hl1 : l ≤ (s.size : Int) := by omega
    have hl0 : 0 ≤ l := by omega
    have HRd := Lib.hid (pick_any g _ 6 w4.drew (by omega) (by omega) (by omega) (HR4.out.drewN 1))
    have HRa := Lib.hid (pick_any g _ 6 (w4.alloc (.cells #[.string ⟨#[]⟩, .string ⟨#[97]⟩, .string ⟨#[32]⟩, .string ⟨#[10]⟩, .string ⟨#[40]⟩, .string ⟨#[98, 97, 99, 107]⟩] 9)).drew (by omega) (by omega) (by omega) ((HR4.out.alloc _).drewN 1))
    have hw : IntKind.i64.wrap (k + 1) = l := (IntWalk.i64_in _ (by omega)).trans hl
    clear hl
    go_upto_region 4 with fail
    go_region_with (first
      | (go_at_call 45; (with_reducible refine HRa.out.mono ?_); rintro e w5 ⟨k5, rfl, hk50, hk51, hr, hg⟩; have hk52 := hk51 (by omega); obtain ⟨x, HX, hcell⟩ := lit_drew wordsS hg hlt4 hk50 (by simp [wordsS]; omega); have hx1 := wordsS_size HX; have HP := Lib.hid (text_last (u' := u + 2) HG4.out hr hg (by omega)); clear hr hg hk51 HX)
      | (go_at_call 45; (with_reducible refine HRd.out.mono ?_); rintro e w5 ⟨k5, rfl, hk50, hk51, hr, hg⟩; have hk52 := hk51 (by omega); obtain ⟨x, HX, hcell⟩ := litS_here hk50 hk52; have hx1 := wordsS_size HX; have HP := Lib.hid (text_last2 (u' := u + 2) HG4.out hr hg (by omega)); clear hr hg hk51 HX))
    all_goals
      clear HRd HRa hp1 hp2 hks hl1 hl0 hw
      go_wp2_with fail
      go_ret
      refine ⟨_, rfl, ?_, by first | exact HP.out | exact HP.out _⟩
      have := HE.out
      rw [ByteArray.size_append, ByteArray.size_append]
      omega
def DeedD (w : World) (e : Ending) (w' : World) : Prop := ∃ (k : Int) (s : ByteArray), e = .returned (.agg #[.int .i64 k, .string s]) ∧ s.size ≤ 100 ∧ Below w.heap.size w w'
set_option maxRecDepth 100000 in
set_option maxHeartbeats 4000000 in
theorem drawDeedText_any (A : Option Addr) (nn c : Nat) (zs : List Int) (w : World) (hn : nn = zs.length) (hc : nn ≤ c) (hm : c ≤ maxLen) (hr : ∀ z ∈ zs, 0 ≤ z ∧ z ≤ 255) (hA : Nums .u8 w A zs) :
    Calls Try.prog 11 #[.slice A nn c] w (DeedD w) := by
  have HO := Lib.hid (open_any A nn c zs (w.alloc (.cells #[.int .i64 0, .string ⟨#[]⟩] 24)) hn hc hm hr (hA.alloc _))
  have HX : Hid (Box (w.alloc (.cells #[.int .i64 0, .string ⟨#[]⟩] 24)) w.heap.size 24 [.int .i64 0, .string ⟨#[]⟩]) := Box.new w _ [.int .i64 0, .string ⟨#[]⟩]
  have HB : Hid (Below w.heap.size w (w.alloc (.cells #[.int .i64 0, .string ⟨#[]⟩] 24))) := (Below.refl _ _).alloc (Nat.le_refl _) _
  clear hn hc hm hr hA
  go_enter Try.func11, Try.ntmps11
  go_upto_region 1 with fail
  obtain ⟨W1, hW1⟩ : ∃ W, w.alloc (.cells #[.int .i64 0, .string ⟨#[]⟩] 24) = W := ⟨_, rfl⟩
  rw [hW1] at HO HX HB ⊢
  clear hW1
  have hs1 := HX.out.lt
  go_wp2_with fail
  refine HO.out.mono ?_
  rintro e w2 ⟨rfl, hrd, hb⟩
  have HR := Lib.hid hrd
  have HX2 := Lib.hid (HX.out.below hb)
  have HB2 := Lib.hid (bel_trans HB.out hb)
  have hs2 : W1.heap.size ≤ w2.heap.size := hb.size
  obtain ⟨g, hg⟩ : ∃ g, W1.heap.size = g := ⟨_, rfl⟩
  rw [hg] at HR hs1 hs2 ⊢
  clear hrd hb HO HX HB hg
  go_wp2_with fail
  refine (talk_any g 0 0 _ (by omega) (by omega) (by omega) HR.out).mono ?_
  rintro e w3 ⟨T, B1, n1, c1, B2, m1, d1, rfl, _, _, _, hr, hg⟩
  have HR3 := Lib.hid hr
  have HX3 := Lib.hid (HX2.out.grownO hg (fun j e => by cases e; omega))
  have HB3 := Lib.hid (below_grown HB2.out hg HB2.out.size (by omega))
  clear hr hg HX2 HR
  go_wp2_with fail
  refine (deed_any g (0 + 300) _ _ _ _ B1 B2 n1 c1 m1 d1 rfl rfl _ (by omega) HR3.out).mono ?_
  rintro e w4 ⟨k, s, rfl, hs, hr, hg⟩
  have HX4 := Lib.hid (HX3.out.grownO hg (fun j e => by cases e; omega))
  have HB4 := Lib.hid (below_grown HB3.out hg HB3.out.size (by omega))
  obtain ⟨⟨ha0, ha1, ha2, ha3⟩, ⟨hb0, hb1⟩, HOUT⟩ := HX4.out.store2 (.int .i64 k) (.string s)
  have HB5 := Lib.hid (bel_set2 HB4.out (Nat.le_refl _) (.int .i64 k) (.string s))
  clear hr hg HX3
  go_wp2_with fail
  refine bodyPost_ret_by (results_deed (b := w.heap.size) rfl rfl HOUT) rfl ⟨k, s, rfl, hs, HB5.out⟩
def TextD (hi : Nat) (w : World) (e : Ending) (w' : World) : Prop := ∃ s : ByteArray, e = .returned (.string s) ∧ s.size ≤ hi ∧ Below w.heap.size w w'
set_option maxRecDepth 100000 in
set_option maxHeartbeats 4000000 in
theorem drawReadDeed_any (A : Option Addr) (nn c : Nat) (zs : List Int) (w : World) (hn : nn = zs.length) (hc : nn ≤ c) (hm : c ≤ maxLen) (hr : ∀ z ∈ zs, 0 ≤ z ∧ z ≤ 255) (hA : Nums .u8 w A zs) :
    Calls Try.prog 16 #[.slice A nn c] w (TextD 120 w) := by
  have HO := Lib.hid (open_any A nn c zs w hn hc hm hr hA)
  clear hn hc hm hr hA
  go_enter Try.func16, Try.ntmps16
  go_wp2_with fail
  refine HO.out.mono ?_
  rintro e w2 ⟨rfl, hrd, hb⟩
  have HR := Lib.hid hrd
  have HB2 := Lib.hid hb
  obtain ⟨g, hg⟩ : ∃ g, w.heap.size = g := ⟨_, rfl⟩
  rw [hg] at HR ⊢
  have hgw : w.heap.size ≤ g := by omega
  clear hrd hb HO
  go_wp2_with fail
  refine (talk_any g 0 0 _ (by omega) (by omega) (by omega) HR.out).mono ?_
  rintro e w3 ⟨T, B1, n1, c1, B2, m1, d1, rfl, _, _, _, hr, hg⟩
  have HR3 := Lib.hid hr
  have HB3 := Lib.hid (below_grown HB2.out hg HB2.out.size hgw)
  clear hr hg HR
  go_wp2_with fail
  refine (deed_any g (0 + 300) _ _ _ _ B1 B2 n1 c1 m1 d1 rfl rfl _ (by omega) HR3.out).mono ?_
  rintro e w4 ⟨k, s, rfl, hs, hr, hg⟩
  have HR4 := Lib.hid hr
  have HB4 := Lib.hid (below_grown HB3.out hg HB3.out.size hgw)
  clear hr hg HR3
  go_wp2_with fail
  refine (sDeedText k s _ (by omega)).mono ?_
  rintro e w5 ⟨rfl, hb⟩
  have hds := deed_size (k, s)
  obtain ⟨x, hx⟩ : ∃ x, deedB (k, s) = x := ⟨_, rfl⟩
  rw [hx] at hds ⊢
  have hxs : x.size ≤ 110 := Nat.le_trans hds (by show s.size + 5 ≤ _; omega)
  have HR5 := Lib.hid (HR4.out.below hb)
  have HB5 := Lib.hid (bel_trans HB4.out hb)
  clear hb hds hx HR4
  go_wp2_with fail
  refine (pick_any g _ 3 _ (by omega) (by omega) (by omega) HR5.out).mono ?_
  rintro e w6 ⟨q, rfl, hq0, hq1, hr, hg⟩
  have HR6 := Lib.hid hr
  have HB6 := Lib.hid (below_grown HB5.out hg HB5.out.size hgw)
  clear hr hg hq1
  by_cases h0 : q = 0
  · have hqb : (q == 0) = true := by rw [h0]; rfl
    clear h0
    go_wp2_with fail
    refine (spoil_any g _ x _ (by omega) (by omega) HR6.out).mono ?_
    rintro e w7 ⟨y, rfl, hy, hr, hg⟩
    have HB7 := Lib.hid (below_grown HB6.out hg HB6.out.size hgw)
    clear hr hg
    go_wp2_with fail
    go_ret
    exact ⟨y, rfl, by omega, HB7.out⟩
  · have hqb : (q == 0) = false := by rw [beq_eq_false_iff_ne]; exact h0
    clear h0
    go_wp2_with fail
    go_ret
    exact ⟨x, rfl, by omega, HB6.out⟩
def DeedsD (m : Nat) (w : World) (e : Ending) (w' : World) : Prop := ∃ (v : Value) (ds : List DeedV), e = .returned v ∧ OwnsD w' w.heap.size v ds ∧ ds.length ≤ m ∧ (∀ d ∈ ds, d.2.size ≤ 100) ∧ Below w.heap.size w w'
set_option maxRecDepth 100000 in
set_option maxHeartbeats 4000000 in
theorem drawJournalText_any (A : Option Addr) (nn c : Nat) (zs : List Int) (w : World) (hn : nn = zs.length) (hc : nn ≤ c) (hm : c ≤ maxLen) (hr : ∀ z ∈ zs, 0 ≤ z ∧ z ≤ 255) (hA : Nums .u8 w A zs) :
    Calls Try.prog 18 #[.slice A nn c] w (DeedsD 6 w) := by
  have HO := Lib.hid (open_any A nn c zs w hn hc hm hr hA)
  clear hn hc hm hr hA
  go_enter Try.func18, Try.ntmps18
  go_wp2_with fail
  refine HO.out.mono ?_
  rintro e w2 ⟨rfl, hrd, hb⟩
  have HR := Lib.hid hrd
  have HB2 := Lib.hid hb
  obtain ⟨g, hg⟩ : ∃ g, w.heap.size = g := ⟨_, rfl⟩
  rw [hg] at HR ⊢
  have hgw : w.heap.size ≤ g := by omega
  have hg2 : g < w2.heap.size := HR.out.lt
  clear hrd hb HO
  go_wp2_with fail
  refine (written_any g 0 _ (by omega) HR.out).mono ?_
  rintro e w3 ⟨v, ds, rfl, ho, hlen, hds, hr, hg'⟩
  obtain ⟨A3, c3, rfl, _⟩ := ho.form
  obtain ⟨n3, hn3⟩ : ∃ n3, ds.length = n3 := ⟨_, rfl⟩
  have HN := Lib.hid hn3
  rw [hn3] at ho hlen ⊢
  have HR3 := Lib.hid hr
  have HB3 := Lib.hid (below_grown HB2.out hg' HB2.out.size hgw)
  have HO3 := Lib.hid ho
  have HDS := Lib.hid hds
  have hs3 : w2.heap.size ≤ w3.heap.size := hg'.size
  clear ho hds hr hg' hn3 HR
  go_wp2_with fail
  refine (odd_any g _ 12 _ (by omega) (by omega) (by omega) HR3.out).mono ?_
  rintro e w4 ⟨b, rfl, hr, hg'⟩
  have HB4 := Lib.hid (below_grown HB3.out hg' HB3.out.size hgw)
  have HO4 := Lib.hid (owns_grownD HO3.out hg' hg2)
  have hs4 : w3.heap.size ≤ w4.heap.size := hg'.size
  clear hr hg'
  cases b
  · go_wp2_with fail
    go_ret
    exact ⟨_, ds, rfl, HO4.out.base (by omega), by have := HN.out; omega, HDS.out, HB4.out⟩
  · have HNL : Hid (ds.length ≤ 1048576) := by unfold Hid; rw [HN.out]; omega
    have HSZ : Hid (w2.heap.size ≤ w4.heap.size) := by unfold Hid; omega
    have hw2 : w.heap.size ≤ w2.heap.size := by omega
    go_wp2_with (at_builtin; refine wp_append1Da (W := w4) rfl _ _ rfl w2.heap.size (.slice A3 n3 c3) ds rfl HO4.out 9 ⟨#[]⟩ rfl HNL.out HSZ.out ?_; intro v' w5 ho hg hat; obtain ⟨A5, c5, rfl, _⟩ := ho.form; obtain ⟨n5, hn5⟩ : ∃ n5, (ds ++ [((9 : Int), (⟨#[]⟩ : ByteArray))]).length = n5 := ⟨_, rfl⟩; rw [hn5] at ho ⊢; have HB5 := Lib.hid (below_appendD HB4.out HB4.out.size HO4.out hw2 hg); have HO5 := Lib.hid (ho.base hw2); clear ho hg hat hn5)
    go_ret
    exact ⟨.slice A5 n5 c5, ds ++ [(9, ⟨#[]⟩)], rfl, HO5.out, by rw [List.length_append, HN.out]; simp; omega, fun d hd => by
      rcases List.mem_append.1 hd with h | h
      · exact HDS.out d h
      · rw [List.mem_singleton] at h; rw [h]; decide, HB5.out⟩
end Go.Proofs.Ytobgnbgmpcilgaa
