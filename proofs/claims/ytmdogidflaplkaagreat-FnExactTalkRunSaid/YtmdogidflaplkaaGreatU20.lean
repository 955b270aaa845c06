/-
  What the proofs of this seat's statements share (TlkC).
-/
import Derived.Deep.Cut
import Derived.Deep.CutRange
import Derived.Deep.CutBlock
import Derived.Test.YtmdogidflaplkaaGreatU19

namespace Go.Proofs.YtmdogidflaplkaaGreat
open Go.RowKit

/-- A store into a variable of another type leaves what is owned. -/
theorem OwnsS.setBox {w : World} {base g i : Nat} {v u : Value} {xs : List ByteArray} {T : TypeId} {cs : List Value} (h : OwnsS w base v xs) (hb : Box w g T cs) (hT : T ≠ 9) : OwnsS (w.setCell ⟨g, i, none⟩ u) base v xs := by
  refine h.kept (row := some g) (grown_set (World.grownBy.refl w _) i u) ?_
  rcases h.2 with ⟨rfl, _⟩ | ⟨k, cap, cur, rfl, _, hk, _⟩
  · exact .inl rfl
  · right
    intro e
    simp only [Value.ownBlock, Option.some.injEq] at e
    rw [e, show w.heap[g]? = _ from hb] at hk
    cases hk
    exact hT rfl
theorem OwnsX.setBox {w : World} {base g i : Nat} {v u : Value} {vs : List (Int × Value)} {xs : List (St ByteArray)} {T : TypeId} {cs : List Value} (h : OwnsX 25 w base v vs xs) (hb : Box w g T cs) (hT : T ≠ 9) (hT2 : T ≠ 25) : OwnsX 25 (w.setCell ⟨g, i, none⟩ u) base v vs xs := by
  refine ⟨World.ownsRow.kept (row := some g) h.row (grown_set (World.grownBy.refl w _) i u) ?_, h.sees.len, fun j x hx => by obtain ⟨y, h1, h2, h3⟩ := h.sees.at_ j x hx; exact ⟨y, h1, h2.setBox hb hT, h3⟩⟩
  rcases h.row.2 with ⟨rfl, _⟩ | ⟨k, cap, cur, rfl, _, hk, _⟩
  · exact .inl rfl
  · right
    intro e
    simp only [Value.ownBlock, Option.some.injEq] at e
    rw [e, show w.heap[g]? = _ from hb] at hk
    cases hk
    exact hT2 rfl
theorem OwnsS.setBox4 {w : World} {base g : Nat} {v : Value} {xs : List ByteArray} {T : TypeId} {cs : List Value} (h : OwnsS w base v xs) (hb : Box w g T cs) (hT : T ≠ 9) (a b c d : Value) : OwnsS ((((w.setCell ⟨g, 0, none⟩ a).setCell ⟨g, 1, none⟩ b).setCell ⟨g, 2, none⟩ c).setCell ⟨g, 3, none⟩ d) base v xs :=
  (((h.setBox hb hT).setBox (hb.set 0 a) hT).setBox ((hb.set 0 a).set 1 b) hT).setBox (((hb.set 0 a).set 1 b).set 2 c) hT
/-- While the states of before are copied: all that lies. -/
def CopyTo (w : World) (t q : Int) (pv ov : Value) (g : Nat) (o : Value) (xs : List ByteArray) (ys : List (St ByteArray)) (wx : World) : Prop :=
  ∃ (p : Value) (vs : List (Int × Value)), Hid (Box wx w.heap.size 28 [.int .i64 t, .int .i64 q, ov, pv]) ∧ Hid (Box wx (w.heap.size + 1) 28 [.int .i64 0, .int .i64 0, .slice none 0 0, .slice none 0 0]) ∧
    Hid (Box wx g 28 [.int .i64 t, .int .i64 q, o, p]) ∧ Hid (OwnsS wx w.heap.size o xs) ∧ Hid (OwnsX 25 wx w.heap.size p vs ys) ∧ Hid (Below w.heap.size w wx)
theorem box_apart {w : World} {b base sz n : Nat} {T e : TypeId} {cs xs : List Value} {p : Value} (hb : Box w b T cs) (h : w.ownsRow base e sz p n xs) (hT : T ≠ e) : ∀ k, p.ownBlock = some k → k ≠ b := by
  intro k hk he
  rcases h.2 with ⟨rfl, _⟩ | ⟨g, cap, cur, rfl, _, hg, _⟩
  · cases hk
  · simp only [Value.ownBlock, Option.some.injEq] at hk
    rw [hk, he, show w.heap[b]? = _ from hb] at hg
    cases hg
    exact hT rfl
theorem cell_far2 {w1 w2 : World} {o : Obj} {b oo : Nat} {u : Value} {row : Option Nat} (h : w1.cell? ⟨b, oo, none⟩ = some u) (hlt : b < w1.heap.size) (hg : (w1.alloc o).grownBy w2 row) (hne : ∀ k, row = some k → k ≠ b) : w2.cell? ⟨b, oo, none⟩ = some u := by
  rw [World.cell?_of_block (w' := w2) (hg.block b (by rw [World.size_alloc]; omega) (fun e => hne b e.symm rfl)), World.cell?_alloc_lt _ _ _ hlt]
  exact h
theorem cell_set_far {w : World} {g i b oo : Nat} {v : Value} (h : g ≠ b) : (w.setCell ⟨g, i, none⟩ v).cell? ⟨b, oo, none⟩ = w.cell? ⟨b, oo, none⟩ := World.cell?_setCell_far w ⟨g, i, none⟩ ⟨b, oo, none⟩ v h
/-- Behind the second append of a round: what lies, what the store into the copy asks and leaves. -/
theorem copy_next {w w1 w2 : World} {t q : Int} {tv ov : Value} {g : Nat} {A1 Apq A2 : Option Addr} {n1 c1 np cp c2 b o0 : Nat} {xs : List ByteArray} {ys : List (St ByteArray)} {x : St ByteArray} {vs : List (Int × Value)} {v2 : Value} {e0 e1 : Value}
    (hX : Box w1 w.heap.size 28 [.int .i64 t, .int .i64 q, ov, tv]) (hZ : Box w1 (w.heap.size + 1) 28 [.int .i64 0, .int .i64 0, .slice none 0 0, .slice none 0 0]) (hU : Box w1 g 28 [.int .i64 t, .int .i64 q, .slice A1 n1 c1, .slice Apq np cp])
    (hO : OwnsS w1 w.heap.size (.slice A1 n1 c1) xs) (hP : OwnsX 25 w1 w.heap.size (.slice Apq np cp) vs ys) (hB : Below w.heap.size w w1) (hgw : w.heap.size ≤ g) (hg0 : g ≠ w.heap.size) (hg1 : g ≠ w.heap.size + 1) (hbw : b < w.heap.size)
    (he0 : w1.cell? ⟨b, o0, none⟩ = some e0) (he1 : w1.cell? ⟨b, o0 + 1, none⟩ = some e1)
    (hx2 : OwnsX 25 w2 w.heap.size v2 (vs ++ [(x.known, .slice A2 x.op.length c2)]) (ys ++ [x])) (hg2 : (w1.alloc (.cells #[.int .i64 x.known, .slice A2 x.op.length c2] 25)).grownBy w2 (Value.slice Apq np cp).ownBlock) :
    ∃ A3 n3 c3, v2 = .slice A3 n3 c3 ∧ (w2.cell? ⟨w.heap.size, 3, none⟩ = some tv ∧ w2.cell? ⟨b, o0, none⟩ = some e0 ∧ w2.cell? ⟨b, o0 + 1, none⟩ = some e1) ∧ w2.cell? ⟨g, 3, none⟩ = some (.slice Apq np cp) ∧ w2.frozen? ⟨g, 3, none⟩ = false ∧
      ((w2.setCell ⟨g, 3, none⟩ (.slice A3 n3 c3)).cell? ⟨w.heap.size, 3, none⟩ = some tv ∧ (w2.setCell ⟨g, 3, none⟩ (.slice A3 n3 c3)).cell? ⟨b, o0, none⟩ = some e0 ∧ (w2.setCell ⟨g, 3, none⟩ (.slice A3 n3 c3)).cell? ⟨b, o0 + 1, none⟩ = some e1) ∧
      CopyTo w t q tv ov g (.slice A1 n1 c1) xs (ys ++ [x]) (w2.setCell ⟨g, 3, none⟩ (.slice A3 n3 c3)) := by
  obtain ⟨A3, c3, rfl, _, _, _, _⟩ := hx2.form
  have hsz1 : w.heap.size ≤ w1.heap.size := hB.size
  have hapT : ∀ (bb : Nat) (cs : List Value), Box w1 bb 28 cs → ∀ kk, (Value.slice Apq np cp).ownBlock = some kk → kk ≠ bb := fun bb cs hbx kk he => box_apart hbx hP.row (by decide) kk he
  have HX2 := (hX.alloc (.cells #[.int .i64 x.known, .slice A2 x.op.length c2] 25)).grownO hg2 (hapT _ _ hX)
  have HZ2 := (hZ.alloc (.cells #[.int .i64 x.known, .slice A2 x.op.length c2] 25)).grownO hg2 (hapT _ _ hZ)
  have HU2 := (hU.alloc (.cells #[.int .i64 x.known, .slice A2 x.op.length c2] 25)).grownO hg2 (hapT _ _ hU)
  have HOO2 := (hO.below ((Below.refl _ _).alloc (Nat.le_refl _) (.cells #[.int .i64 x.known, .slice A2 x.op.length c2] 25))).kept hg2 (own_apart hO hP.row (by decide))
  have HB2 := (hB.alloc hsz1 (.cells #[.int .i64 x.known, .slice A2 x.op.length c2] 25)).grown hg2 (by rw [World.size_alloc]; omega) (fun kk he => (hP.lt he).1)
  have hfar : ∀ (oo : Nat) (u : Value), w1.cell? ⟨b, oo, none⟩ = some u → w2.cell? ⟨b, oo, none⟩ = some u := fun oo u hu => cell_far2 hu (by omega) hg2 (fun kk he => by have := (hP.lt he).1; omega)
  have HX3 := HX2.other (a := g) (i := 3) hg0 (.slice A3 (ys ++ [x]).length c3)
  refine ⟨A3, _, c3, rfl, ⟨HX2.cell rfl, hfar _ _ he0, hfar _ _ he1⟩, HU2.cell rfl, HU2.frozen 3, ⟨HX3.cell rfl, (cell_set_far (show g ≠ b by omega)).trans (hfar _ _ he0), (cell_set_far (show g ≠ b by omega)).trans (hfar _ _ he1)⟩, ?_⟩
  exact ⟨_, _, HX3, HZ2.other hg1 _, HU2.set 3 _, HOO2.setBox HU2 (by decide), hx2.setBox HU2 (by decide) (by decide), HB2.setCell (p := ⟨g, 3, none⟩) hgw _⟩
/-- Behind the first region: the variable that the copy is made in. -/
def CopyMid (w : World) (t q : Int) (A : Option Addr) (n c : Nat) (B : Option Addr) (m d : Nat) (xs : List ByteArray) (s3 : Value) (wx : World) : Prop :=
  ∃ (g : Nat) (A1 : Option Addr) (c1 : Nat), s3 = .pointer (some ⟨g, 0, none⟩) ∧ w.heap.size ≤ g ∧ g ≠ w.heap.size ∧ g ≠ w.heap.size + 1 ∧ Hid (Box wx w.heap.size 28 [.int .i64 t, .int .i64 q, .slice A n c, .slice B m d]) ∧ Hid (Box wx (w.heap.size + 1) 28 [.int .i64 0, .int .i64 0, .slice none 0 0, .slice none 0 0]) ∧
    Hid (Box wx g 28 [.int .i64 t, .int .i64 q, .slice A1 n c1, .slice none 0 0]) ∧ Hid (OwnsS wx w.heap.size (.slice A1 n c1) xs) ∧ Hid (Below w.heap.size w wx)
theorem OwnsX.setBox4 {w : World} {base g : Nat} {v : Value} {vs : List (Int × Value)} {xs : List (St ByteArray)} {T : TypeId} {cs : List Value} (h : OwnsX 25 w base v vs xs) (hb : Box w g T cs) (hT : T ≠ 9) (hT2 : T ≠ 25) (a b c d : Value) : OwnsX 25 ((((w.setCell ⟨g, 0, none⟩ a).setCell ⟨g, 1, none⟩ b).setCell ⟨g, 2, none⟩ c).setCell ⟨g, 3, none⟩ d) base v vs xs :=
  (((h.setBox hb hT hT2).setBox (hb.set 0 a) hT hT2).setBox ((hb.set 0 a).set 1 b) hT hT2).setBox (((hb.set 0 a).set 1 b).set 2 c) hT hT2
theorem OwnsS.lit0 (w : World) (base : Nat) (hb : base ≤ w.heap.size) : OwnsS (w.alloc (.cells #[] 9)) base (.slice (some ⟨w.heap.size, 0, none⟩) 0 0) [] := OwnsS.lit w base [] hb (by simp [maxLen])
set_option maxRecDepth 100000 in
set_option maxHeartbeats 8000000 in
theorem sCopy9 (T : TalkV) (A B : Option Addr) (n c m d : Nat) (w : World) (hT : TkAt w T A n c B m d) (hs : SmallT T) :
    Calls Tryz.prog 38 #[.agg #[.int .i64 T.things, .int .i64 T.now.known, .slice A n c, .slice B m d]] w fun e w' => ∃ o p vs, e = .returned (.agg #[.int .i64 T.things, .int .i64 T.now.known, o, p]) ∧ OwnsS w' w.heap.size o T.now.op ∧ OwnsX 25 w' w.heap.size p vs T.past ∧ Below w.heap.size w w' := by
  obtain ⟨HX0, HZ0, HB0⟩ : Hid (Box ((w.alloc (.cells #[.int .i64 T.things, .int .i64 T.now.known, .slice A n c, .slice B m d] 28)).alloc (.cells #[.int .i64 0, .int .i64 0, .slice none 0 0, .slice none 0 0] 28)) w.heap.size 28 [.int .i64 T.things, .int .i64 T.now.known, .slice A n c, .slice B m d]) ∧
      Hid (Box ((w.alloc (.cells #[.int .i64 T.things, .int .i64 T.now.known, .slice A n c, .slice B m d] 28)).alloc (.cells #[.int .i64 0, .int .i64 0, .slice none 0 0, .slice none 0 0] 28)) (w.heap.size + 1) 28 [.int .i64 0, .int .i64 0, .slice none 0 0, .slice none 0 0]) ∧
      Hid (Below w.heap.size w ((w.alloc (.cells #[.int .i64 T.things, .int .i64 T.now.known, .slice A n c, .slice B m d] 28)).alloc (.cells #[.int .i64 0, .int .i64 0, .slice none 0 0, .slice none 0 0] 28))) := by
    refine ⟨(Box.new w _ [.int .i64 T.things, .int .i64 T.now.known, .slice A n c, .slice B m d]).alloc _, ?_, ((Below.refl _ _).alloc (Nat.le_refl _) _).alloc (by rw [World.size_alloc]; omega) _⟩
    have := Box.new (w.alloc (.cells #[.int .i64 T.things, .int .i64 T.now.known, .slice A n c, .slice B m d] 28)) 28 [.int .i64 0, .int .i64 0, .slice none 0 0, .slice none 0 0]
    rw [World.size_alloc] at this
    exact this
  have HT := Lib.hid hT
  have HS := Lib.hid hs
  obtain rfl := hT.pn
  obtain rfl := hT.hn
  have hml : T.past.length ≤ 1048576 := hs.past
  have hnl : T.now.op.length ≤ 1048576 := hs.op
  obtain ⟨t, HTT⟩ : ∃ t, Hid (T.things = t) := ⟨_, rfl⟩
  obtain ⟨q, HQQ⟩ : ∃ q, Hid (T.now.known = q) := ⟨_, rfl⟩
  rw [HTT.out, HQQ.out] at HX0 HZ0 HB0 ⊢
  clear hT hs
  go_enter Tryz.func38, Tryz.ntmps38
  go_wp2_with fail
  obtain ⟨W0, hW0⟩ : ∃ W, (w.alloc (.cells #[.int .i64 t, .int .i64 q, .slice A T.now.op.length c, .slice B T.past.length d] 28)).alloc (.cells #[.int .i64 0, .int .i64 0, .slice none 0 0, .slice none 0 0] 28) = W := ⟨_, rfl⟩
  rw [hW0] at HX0 HZ0 HB0 ⊢
  clear hW0
  have hc0 := HX0.out.cell (i := 0) (v := .int .i64 t) rfl
  have hc1 := HX0.out.cell (i := 1) (v := .int .i64 q) rfl
  have hc2 := HX0.out.cell (i := 2) (v := .slice A T.now.op.length c) rfl
  have hsz0 : w.heap.size ≤ W0.heap.size := HB0.out.size
  have hmc := HT.out.hc
  have hl0 : ([] : List ByteArray).length + T.now.op.length ≤ 4194304 := by simp; omega
  have HAW0 := Lib.hid (HT.out.hA.below HB0.out)
  have HW0 : Hid (W0.drew.heap.size = W0.heap.size) := rfl
  -- behind a growth of a block from W0's size on
  have HXF : Hid (∀ (W w1 : World) (k : Nat) (O2 : Obj), Below W0.heap.size W0 W → W.grownBy w1 (some k) → W0.heap.size ≤ k → Box w1 w.heap.size 28 [.int .i64 t, .int .i64 q, .slice A T.now.op.length c, .slice B T.past.length d] ∧ Box w1 (w.heap.size + 1) 28 [.int .i64 0, .int .i64 0, .slice none 0 0, .slice none 0 0] ∧ Below w.heap.size w w1 ∧ Box (w1.alloc O2) w.heap.size 28 [.int .i64 t, .int .i64 q, .slice A T.now.op.length c, .slice B T.past.length d]) := fun W w1 k O2 hb hg hk => by
    have h1 := HX0.out.lt
    have h2 := HZ0.out.lt
    have hx := (HX0.out.below hb).grownO hg (fun j e => by cases e; omega)
    exact ⟨hx, (HZ0.out.below hb).grownO hg (fun j e => by cases e; omega), (HB0.out.trans (hb.mono hsz0)).grown hg (Nat.le_trans hsz0 hb.size) fun j e => by cases e; omega, hx.alloc _⟩
  have HZA : Hid (Below W0.heap.size W0 (W0.drew.alloc (.cells #[] 9))) := (bel_drewN (Below.refl _ _) 1).alloc (Nat.le_refl _) _
  have HZB : Hid (Below W0.heap.size W0 ((W0.drew.alloc (.cells #[] 9)).alloc (.cells #[.int .i64 0, .int .i64 0, .slice none 0 0, .slice none 0 0] 28))) := HZA.out.alloc HZA.out.size _
  have HZC : Hid (Below W0.heap.size W0 ((W0.drew.alloc (.cells #[.int .i64 0, .int .i64 0, .slice none 0 0, .slice none 0 0] 28)).alloc (.cells #[] 9))) := ((bel_drewN (Below.refl _ _) 1).alloc (Nat.le_refl _) _).alloc (by rw [World.size_alloc]; exact Nat.le_succ _) _
  have HOA : Hid (OwnsS (W0.drew.alloc (.cells #[] 9)) w.heap.size (.slice (some ⟨W0.heap.size, 0, none⟩) 0 0) []) := OwnsS.lit0 W0.drew _ hsz0
  have HOB : Hid (OwnsS ((W0.drew.alloc (.cells #[] 9)).alloc (.cells #[.int .i64 0, .int .i64 0, .slice none 0 0, .slice none 0 0] 28)) w.heap.size (.slice (some ⟨W0.heap.size, 0, none⟩) 0 0) []) := HOA.out.below ((Below.refl _ _).alloc (Nat.le_refl _) _)
  have HOC : Hid (OwnsS ((W0.drew.alloc (.cells #[.int .i64 0, .int .i64 0, .slice none 0 0, .slice none 0 0] 28)).alloc (.cells #[] 9)) w.heap.size (.slice (some ⟨W0.heap.size + 1, 0, none⟩) 0 0) []) := by
    have := OwnsS.lit0 (W0.drew.alloc (.cells #[.int .i64 0, .int .i64 0, .slice none 0 0, .slice none 0 0] 28)) w.heap.size (by rw [World.size_alloc]; exact Nat.le_succ_of_le hsz0)
    rw [World.size_alloc] at this
    exact this
  have HXB : Hid (Box ((W0.drew.alloc (.cells #[] 9)).alloc (.cells #[.int .i64 0, .int .i64 0, .slice none 0 0, .slice none 0 0] 28)) (W0.heap.size + 1) 28 [.int .i64 0, .int .i64 0, .slice none 0 0, .slice none 0 0]) := by
    have := Box.new (W0.drew.alloc (.cells #[] 9)) 28 [.int .i64 0, .int .i64 0, .slice none 0 0, .slice none 0 0]
    rw [World.size_alloc] at this
    exact this
  have HXC : Hid (Box ((W0.drew.alloc (.cells #[.int .i64 0, .int .i64 0, .slice none 0 0, .slice none 0 0] 28)).alloc (.cells #[] 9)) W0.heap.size 28 [.int .i64 0, .int .i64 0, .slice none 0 0, .slice none 0 0]) := (Box.new W0.drew 28 [.int .i64 0, .int .i64 0, .slice none 0 0, .slice none 0 0]).alloc _
  have hsA : w.heap.size ≤ (W0.drew.alloc (.cells #[] 9)).heap.size := Nat.le_trans hsz0 HZA.out.size
  have hsB : w.heap.size ≤ ((W0.drew.alloc (.cells #[] 9)).alloc (.cells #[.int .i64 0, .int .i64 0, .slice none 0 0, .slice none 0 0] 28)).heap.size := Nat.le_trans hsz0 HZB.out.size
  have hsC : w.heap.size ≤ ((W0.drew.alloc (.cells #[.int .i64 0, .int .i64 0, .slice none 0 0, .slice none 0 0] 28)).alloc (.cells #[] 9)).heap.size := Nat.le_trans hsz0 HZC.out.size
  have HAA := Lib.hid (HAW0.out.below HZA.out)
  have HAB := Lib.hid (HAW0.out.below HZB.out)
  have HAC := Lib.hid (HAW0.out.below HZC.out)
  have hx0lt := HX0.out.lt
  have hz0lt := HZ0.out.lt
  go_cut [3] from 5 to 16 (fun s3 wx => CopyMid w t q A T.now.op.length c B T.past.length d T.now.op s3 wx)
  case first =>
    go_region_held3 (fun w' => w'.cell? ⟨w.heap.size, 0, none⟩ = some (.int .i64 t) ∧ w'.cell? ⟨w.heap.size, 1, none⟩ = some (.int .i64 q) ∧ w'.cell? ⟨w.heap.size, 2, none⟩ = some (.slice A T.now.op.length c))
      (first | go_keep | exact ⟨hc0, hc1, hc2⟩ | exact HK1.out | exact HK2.out)
      (first
        | (refine step_appS rfl _ _ rfl w.heap.size (.slice (some ⟨W0.heap.size, 0, none⟩) 0 0) [] T.now.op rfl HOA.out A T.now.op.length c rfl rfl hmc HAA.out hl0 hsA ?_; intro v1 w1 ho1 hg1; obtain ⟨A1, c1, rfl, _, _, _, _⟩ := ho1.form; obtain ⟨hx1, hz1, hb1, hx2⟩ := HXF.out _ w1 W0.heap.size (.cells #[.int .i64 t, .int .i64 q, .slice A1 T.now.op.length c1, .slice none 0 0] 28) HZA.out hg1 (Nat.le_refl _); have HZ1 := Lib.hid hz1; have HB1 := Lib.hid hb1; have HX2 := Lib.hid hx2; have HK1 := Lib.hid (And.intro (hx1.cell (i := 0) (v := .int .i64 t) rfl) (And.intro (hx1.cell (i := 1) (v := .int .i64 q) rfl) (hx1.cell (i := 2) (v := .slice A T.now.op.length c) rfl))); have HK2 := Lib.hid (And.intro (hx2.cell (i := 0) (v := .int .i64 t) rfl) (And.intro (hx2.cell (i := 1) (v := .int .i64 q) rfl) (hx2.cell (i := 2) (v := .slice A T.now.op.length c) rfl))); have HFIN : Hid (CopyMid w t q A T.now.op.length c B T.past.length d T.now.op (.pointer (some ⟨w1.heap.size, 0, none⟩)) (w1.alloc (.cells #[.int .i64 t, .int .i64 q, .slice A1 T.now.op.length c1, .slice none 0 0] 28))) := ⟨w1.heap.size, A1, c1, rfl, hb1.size, (by have := hz1.lt; omega), (by have := hz1.lt; omega), HX2, hz1.alloc _, Box.new w1 _ [.int .i64 t, .int .i64 q, .slice A1 T.now.op.length c1, .slice none 0 0], ho1.below ((Below.refl _ _).alloc (Nat.le_refl _) _), hb1.alloc hb1.size _⟩; clear ho1 hg1 hx1 hz1 hb1 hx2)
        | (refine step_appS rfl _ _ rfl w.heap.size (.slice (some ⟨W0.heap.size, 0, none⟩) 0 0) [] T.now.op rfl HOB.out A T.now.op.length c rfl rfl hmc HAB.out hl0 hsB ?_; intro v1 w1 ho1 hg1; obtain ⟨A1, c1, rfl, _, _, _, _⟩ := ho1.form; obtain ⟨hx1, hz1, hb1, _⟩ := HXF.out _ w1 W0.heap.size (.cells #[] 0) HZB.out hg1 (Nat.le_refl _); have ho2 := HXB.out.grownO hg1 (fun k e => by simp only [Value.ownBlock, Option.some.injEq] at e; omega); obtain ⟨⟨ha0, ha1, ha2, ha3, ha4, ha5, ha6, ha7⟩, ⟨hb2, hb3⟩, ⟨hb4, hb5⟩, ⟨hb6, hb7⟩, HOUT⟩ := ho2.store4 (.int .i64 t) (.int .i64 q) (.slice A1 T.now.op.length c1) (.slice none 0 0); have hx2 := hx1.other4 (g := W0.heap.size + 1) (by have := HX0.out.lt; omega) (.int .i64 t) (.int .i64 q) (.slice A1 T.now.op.length c1) (.slice none 0 0); have HZ1 := Lib.hid hz1; have HB1 := Lib.hid hb1; have HX2 := Lib.hid hx2; have HK1 := Lib.hid (And.intro (hx1.cell (i := 0) (v := .int .i64 t) rfl) (And.intro (hx1.cell (i := 1) (v := .int .i64 q) rfl) (hx1.cell (i := 2) (v := .slice A T.now.op.length c) rfl))); have HK2 := Lib.hid (And.intro (hx2.cell (i := 0) (v := .int .i64 t) rfl) (And.intro (hx2.cell (i := 1) (v := .int .i64 q) rfl) (hx2.cell (i := 2) (v := .slice A T.now.op.length c) rfl))); have HFIN : Hid (CopyMid w t q A T.now.op.length c B T.past.length d T.now.op (.pointer (some ⟨W0.heap.size + 1, 0, none⟩)) ((((w1.setCell ⟨W0.heap.size + 1, 0, none⟩ (.int .i64 t)).setCell ⟨W0.heap.size + 1, 1, none⟩ (.int .i64 q)).setCell ⟨W0.heap.size + 1, 2, none⟩ (.slice A1 T.now.op.length c1)).setCell ⟨W0.heap.size + 1, 3, none⟩ (.slice none 0 0))) := ⟨W0.heap.size + 1, A1, c1, rfl, (by omega), (by omega), (by omega), HX2, hz1.other4 (by omega) _ _ _ _, HOUT, ho1.setBox4 ho2 (by decide) _ _ _ _, bel_set4 hb1 (by omega) _ _ _ _⟩; clear ho1 hg1 hx1 hz1 hb1 hx2 ho2)
        | (refine step_appS rfl _ _ rfl w.heap.size (.slice (some ⟨W0.heap.size + 1, 0, none⟩) 0 0) [] T.now.op rfl HOC.out A T.now.op.length c rfl rfl hmc HAC.out hl0 hsC ?_; intro v1 w1 ho1 hg1; obtain ⟨A1, c1, rfl, _, _, _, _⟩ := ho1.form; obtain ⟨hx1, hz1, hb1, _⟩ := HXF.out _ w1 (W0.heap.size + 1) (.cells #[] 0) HZC.out hg1 (Nat.le_succ _); have ho2 := HXC.out.grownO hg1 (fun k e => by simp only [Value.ownBlock, Option.some.injEq] at e; omega); obtain ⟨⟨ha0, ha1, ha2, ha3, ha4, ha5, ha6, ha7⟩, ⟨hb2, hb3⟩, ⟨hb4, hb5⟩, ⟨hb6, hb7⟩, HOUT⟩ := ho2.store4 (.int .i64 t) (.int .i64 q) (.slice A1 T.now.op.length c1) (.slice none 0 0); have hx2 := hx1.other4 (g := W0.heap.size) (by have := HX0.out.lt; omega) (.int .i64 t) (.int .i64 q) (.slice A1 T.now.op.length c1) (.slice none 0 0); have HZ1 := Lib.hid hz1; have HB1 := Lib.hid hb1; have HX2 := Lib.hid hx2; have HK1 := Lib.hid (And.intro (hx1.cell (i := 0) (v := .int .i64 t) rfl) (And.intro (hx1.cell (i := 1) (v := .int .i64 q) rfl) (hx1.cell (i := 2) (v := .slice A T.now.op.length c) rfl))); have HK2 := Lib.hid (And.intro (hx2.cell (i := 0) (v := .int .i64 t) rfl) (And.intro (hx2.cell (i := 1) (v := .int .i64 q) rfl) (hx2.cell (i := 2) (v := .slice A T.now.op.length c) rfl))); have HFIN : Hid (CopyMid w t q A T.now.op.length c B T.past.length d T.now.op (.pointer (some ⟨W0.heap.size, 0, none⟩)) ((((w1.setCell ⟨W0.heap.size, 0, none⟩ (.int .i64 t)).setCell ⟨W0.heap.size, 1, none⟩ (.int .i64 q)).setCell ⟨W0.heap.size, 2, none⟩ (.slice A1 T.now.op.length c1)).setCell ⟨W0.heap.size, 3, none⟩ (.slice none 0 0))) := ⟨W0.heap.size, A1, c1, rfl, (by omega), (by omega), (by omega), HX2, hz1.other4 (by omega) _ _ _ _, HOUT, ho1.setBox4 ho2 (by decide) _ _ _ _, bel_set4 hb1 (by omega) _ _ _ _⟩; clear ho1 hg1 hx1 hz1 hb1 hx2 ho2))
    all_goals
      go_wp2_with fail
      go_meet
      exact HFIN.out
  case rest =>
    obtain ⟨g, A1, c1, rfl, hgw, hg0, hg1, HX, HZ, HU, HO, HB⟩ := hcut
    clear HX0 HZ0 HB0 hc0 hc1 hc2 HOA HOB HOC HXB HXC HAA HAB HAC HZA HZB HZC HXF HAW0 HW0 hsA hsB hsC hsz0 hx0lt hz0lt hl0 hmc
    go_wp2_with fail
    go_loopw [4] (fun i wr => ∃ (j : Nat) (p : Value) (vs : List (Int × Value)), j ≤ T.past.length ∧ i = .int .i64 j ∧ Hid (Box wr w.heap.size 28 [.int .i64 t, .int .i64 q, .slice A T.now.op.length c, .slice B T.past.length d]) ∧ Hid (Box wr (w.heap.size + 1) 28 [.int .i64 0, .int .i64 0, .slice none 0 0, .slice none 0 0]) ∧
      Hid (Box wr g 28 [.int .i64 t, .int .i64 q, .slice A1 T.now.op.length c1, p]) ∧ Hid (OwnsS wr w.heap.size (.slice A1 T.now.op.length c1) T.now.op) ∧ Hid (OwnsX 25 wr w.heap.size p vs (T.past.take j)) ∧ Hid (Below w.heap.size w wr)) (fun i _ => T.past.length - (Go.RowKit.intOf i).toNat)
    case atStart => exact ⟨0, _, [], Nat.zero_le _, rfl, HX, HZ, HU, HO, OwnsX.nil _ _ _, HB⟩
    case round =>
      obtain ⟨j, p, vs, hj, rfl, HX, HZ, HU, HO, HP, HB⟩ := hrel
      have hc3 := HX.out.cell (i := 3) (v := .slice B T.past.length d) rfl
      by_cases hlt : j < T.past.length
      · obtain ⟨b, off, Ai, ci, x, rfl, he0, he1, hle, hmi, hx, hAi, hbl⟩ := (HT.out.hB.below HB.out).elem hlt
        obtain ⟨hxl, hxs⟩ := HS.out.ops x (List.mem_of_getElem? hx.out)
        obtain ⟨Apq, cp, hpe, _, _, _, _⟩ := HP.out.form
        obtain ⟨np, hnp⟩ : ∃ np, (T.past.take j).length = np := ⟨_, rfl⟩
        rw [hnp] at hpe
        subst hpe
        have hu3 := HU.out.cell (i := 3) (v := .slice Apq np cp) rfl
        have hnl2 : (T.past.take j).length ≤ 1048576 := by rw [List.length_take]; omega
        have HTK : Hid (T.past.take (j + 1) = T.past.take j ++ [x]) := by
          unfold Hid
          rw [List.take_succ_eq_append_getElem (by omega), (List.getElem?_eq_some_iff.1 hx.out).2]
        have hbw : b < w.heap.size := by
          obtain ⟨b0, off0, _, _, _, hA0, _, _, _, _, _, _, hlt0⟩ := HT.out.hB.elem hlt
          cases hA0
          exact hlt0.out
        have hszr : w.heap.size ≤ wr.heap.size := HB.out.size
        have HO0 : Hid (OwnsS (wr.drew.alloc (.cells #[] 9)) w.heap.size (.slice (some ⟨wr.heap.size, 0, none⟩) 0 0) []) := OwnsS.lit0 wr.drew _ hszr
        have HAZ : Hid (Strs (wr.drew.alloc (.cells #[] 9)) Ai x.op) := (hAi.out.drewN 1).alloc _
        have hszA : w.heap.size ≤ (wr.drew.alloc (.cells #[] 9)).heap.size := by rw [World.size_alloc]; exact Nat.le_succ_of_le hszr
        have hl0 : ([] : List ByteArray).length + x.op.length ≤ 4194304 := by simp; omega
        have huA : (wr.drew.alloc (.cells #[] 9)).cell? ⟨g, 3, none⟩ = some (.slice Apq np cp) := (Box.alloc (W := wr.drew) (Box.drew HU.out) _).cell rfl
        have huB : (wr.alloc (.cells #[] 9)).cell? ⟨g, 3, none⟩ = some (.slice Apq np cp) := (Box.alloc (W := wr) HU.out _).cell rfl
        -- behind the first append: all that lies is kept, the new open slice is the call's own
        have HF1 : Hid (∀ (w1 : World) (A2 : Option Addr) (c2 : Nat), OwnsS w1 w.heap.size (.slice A2 x.op.length c2) x.op → (wr.drew.alloc (.cells #[] 9)).grownBy w1 (Value.slice (some ⟨wr.heap.size, 0, none⟩) 0 0).ownBlock →
            Below wr.heap.size wr w1) := fun w1 A2 c2 _ hg => by
          have h0 : Below wr.heap.size wr (wr.drew.alloc (.cells #[] 9)) := (bel_drewN (Below.refl wr.heap.size wr) 1).alloc (Nat.le_refl _) _
          exact h0.grown hg h0.size fun e he => by simp only [Value.ownBlock, Option.some.injEq] at he; omega
        go_wp2_with fail
        refine wp_region_held_drew (S := (fun w' => w'.cell? ⟨w.heap.size, 3, none⟩ = some (.slice (some ⟨b, off, none⟩) T.past.length d) ∧ w'.cell? ⟨b, off + j * 2, none⟩ = some (.int .i64 x.known) ∧ w'.cell? ⟨b, off + j * 2 + 1, none⟩ = some (.slice Ai x.op.length ci))) (by kernel_rfl) ?_ (fun hHeld => ?_)
        · exact ⟨hc3, he0, he1⟩
        refine wpAnyH_take (i := 0) (v := ?_) rfl (by kernel_rfl) (by kernel_rfl) (by kernel_rfl) (fun _ _ _ h => h) (Or.inl ⟨by rfl, ?_⟩) (by assumption) ?_
        rotate_left
        · ((intro wz hSw; (try dsimp only at hSw); go_simp) <;> with_reducible rfl)
        try simp only [Act.put, List.setIfInBounds_toArray]
        refine wpAnyH_take (i := 2) (v := ?_) rfl (by kernel_rfl) (by kernel_rfl) (by kernel_rfl) (fun _ _ _ h => h) (Or.inl ⟨by rfl, ?_⟩) (by assumption) ?_
        rotate_left
        · ((intro wz hSw; (try dsimp only at hSw); go_simp) <;> with_reducible rfl)
        try simp only [Act.put]
        refine wpAnyH_take (i := 3) (v := ?_) rfl (by kernel_rfl) (by kernel_rfl) (by kernel_rfl) (fun _ _ _ h => h) (Or.inl ⟨by rfl, ?_⟩) (by assumption) ?_
        rotate_left
        · ((intro wz hSw; (try dsimp only at hSw); go_simp) <;> with_reducible rfl)
        try simp only [Act.put]
        refine wpAnyH_take (i := 4) (v := ?_) rfl (by kernel_rfl) (by kernel_rfl) (by kernel_rfl) (fun _ _ _ h => h) (Or.inl ⟨by rfl, ?_⟩) (by assumption) ?_
        rotate_left
        · ((intro wz hSw; (try dsimp only at hSw); go_simp) <;> with_reducible rfl)
        try simp only [Act.put]
        refine wpAnyH_take (i := 5) (v := ?_) rfl (by kernel_rfl) (by kernel_rfl) (by kernel_rfl) (fun _ _ _ h => h) (Or.inl ⟨by rfl, ?_⟩) (by assumption) ?_
        rotate_left
        · ((intro wz hSw; (try dsimp only at hSw); go_simp) <;> with_reducible rfl)
        try simp only [Act.put]
        refine wpAnyH_take (i := 6) (v := ?_) rfl (by kernel_rfl) (by kernel_rfl) (by kernel_rfl) (fun _ _ _ h => h) (Or.inl ⟨by rfl, ?_⟩) (by assumption) ?_
        rotate_left
        · ((intro wz hSw; (try dsimp only at hSw); go_simp) <;> with_reducible rfl)
        try simp only [Act.put]
        refine wpAnyH_take (i := 7) (v := ?_) rfl (by kernel_rfl) (by kernel_rfl) (by kernel_rfl) (fun _ _ _ h => h) (Or.inl ⟨by rfl, ?_⟩) (by assumption) ?_
        rotate_left
        · ((intro wz hSw; (try dsimp only at hSw); go_simp) <;> with_reducible rfl)
        try simp only [Act.put]
        refine wpAnyH_take (i := 9) (v := ?_) rfl (by kernel_rfl) (by kernel_rfl) (by kernel_rfl) (fun _ _ _ h => h) (Or.inl ⟨by rfl, ?_⟩) (by assumption) ?_
        rotate_left
        · ((intro wz hSw; (try dsimp only at hSw); go_simp) <;> with_reducible rfl)
        try simp only [Act.put]
        refine wpAnyH_take (i := 10) (v := ?_) rfl (by kernel_rfl) (by kernel_rfl) (by kernel_rfl) (fun _ _ _ h => h) (Or.inl ⟨by rfl, ?_⟩) (by assumption) ?_
        rotate_left
        · ((intro wz hSw; (try dsimp only at hSw); go_simp) <;> with_reducible rfl)
        try simp only [Act.put]
        refine wpAnyH_take (i := 11) (v := ?_) rfl (by kernel_rfl) (by kernel_rfl) (by kernel_rfl) (fun _ _ _ h => h) (Or.inl ⟨by rfl, ?_⟩) (by assumption) ?_
        rotate_left
        · ((intro wz hSw; (try dsimp only at hSw); go_simp) <;> with_reducible rfl)
        try simp only [Act.put]
        refine wpAnyH_take (i := 12) (v := ?_) rfl (by kernel_rfl) (by kernel_rfl) (by kernel_rfl) (fun _ _ _ h => h) (Or.inl ⟨by rfl, ?_⟩) (by assumption) ?_
        rotate_left
        · ((intro wz hSw; (try dsimp only at hSw); go_simp) <;> with_reducible rfl)
        try simp only [Act.put]
        refine wpAnyH_take (i := 13) (v := ?_) rfl (by kernel_rfl) (by kernel_rfl) (by kernel_rfl) (fun _ _ _ h => h) (Or.inl ⟨by rfl, ?_⟩) (by assumption) ?_
        rotate_left
        · ((intro wz hSw; (try dsimp only at hSw); go_simp) <;> with_reducible rfl)
        try simp only [Act.put]
        refine wpAnyH_take (i := 14) (v := ?_) rfl (by kernel_rfl) (by kernel_rfl) (by kernel_rfl) (fun _ _ _ h => h) (Or.inl ⟨by rfl, ?_⟩) (by assumption) ?_
        rotate_left
        · ((intro wz hSw; (try dsimp only at hSw); go_simp) <;> with_reducible rfl)
        try simp only [Act.put]
        refine wpAnyH_ready (rs := [1, 8]) (by kernel_rfl) (by simp) ?_
        refine AllReadyH.cons rfl (fun K hK => ?_) ?_
        · go_simp
          refine hK.out _ _ ?_ (fun hHeld => ?_)
          · (first | exact HK3.out | exact HK2.out | exact HK1.out | exact ⟨hc3, he0, he1⟩ | go_keep)
          clear hK K
          try simp only [Act.put, List.setIfInBounds_toArray, List.set_cons_zero, List.set_cons_succ]
          refine wpAnyH_ready (rs := [8]) (by kernel_rfl) (by simp) ?_
          refine AllReadyH.cons rfl (fun K hK => ?_) ?_
          · go_simp
            refine hK.out _ _ ?_ (fun hHeld => ?_)
            · (first | exact HK3.out | exact HK2.out | exact HK1.out | exact ⟨hc3, he0, he1⟩ | go_keep)
            clear hK K
            try simp only [Act.put, List.setIfInBounds_toArray, List.set_cons_zero, List.set_cons_succ]
            refine wpAnyH_ready (rs := [15]) (by kernel_rfl) (by simp) ?_
            refine AllReadyH.cons rfl (fun K hK => ?_) ?_
            · refine step_appS rfl _ _ rfl w.heap.size (.slice (some ⟨wr.heap.size, 0, none⟩) 0 0) [] x.op rfl HO0.out Ai x.op.length ci rfl rfl hle HAZ.out hl0 hszA ?_; intro v1 w1 ho1 hg1; obtain ⟨A2, c2, rfl, _, _, _, _⟩ := ho1.form; have hb1 := HF1.out w1 A2 c2 ho1 hg1; have HX1 := Lib.hid (HX.out.below hb1); have HZ1 := Lib.hid (HZ.out.below hb1); have HU1 := Lib.hid (HU.out.below hb1); have HOO1 := Lib.hid (HO.out.below hb1); have HP1 := Lib.hid (HP.out.below hb1); have HB1 := Lib.hid (bel_trans HB.out hb1); have hu1 := HU1.out.cell (i := 3) (v := .slice Apq np cp) rfl; have hu1L : (w1.alloc (.cells #[.int .i64 x.known, .slice A2 x.op.length c2] 25)).cell? ⟨g, 3, none⟩ = some (.slice Apq np cp) := (HU1.out.alloc _).cell rfl; have HK1 := Lib.hid (And.intro (HX1.out.cell (i := 3) (v := .slice (some ⟨b, off, none⟩) T.past.length d) rfl) (And.intro (((Below.cell hb1 (p := ⟨b, off + j * 2, none⟩)) hbl.out).trans he0) (((Below.cell hb1 (p := ⟨b, off + j * 2 + 1, none⟩)) hbl.out).trans he1))); have HO1 := Lib.hid ho1; have hsz1 : w.heap.size ≤ w1.heap.size := HB1.out.size; clear ho1 hg1 hb1
              refine hK.out _ _ ?_ (fun hHeld => ?_)
              · (first | exact HK3.out | exact HK2.out | exact HK1.out | exact ⟨hc3, he0, he1⟩ | go_keep)
              clear hK K
              try simp only [Act.put, List.setIfInBounds_toArray]
              refine wpAnyH_take (i := 16) (v := ?_) rfl (by kernel_rfl) (by kernel_rfl) (by kernel_rfl) (fun _ _ _ h => h) (Or.inl ⟨by rfl, ?_⟩) (by assumption) ?_
              rotate_left
              · ((intro wz hSw; (try dsimp only at hSw); go_simp) <;> with_reducible rfl)
              try simp only [Act.put]
              refine wpAnyH_ready (rs := [17]) (by kernel_rfl) (by simp) ?_
              refine AllReadyH.cons rfl (fun K hK => ?_) ?_
              · go_simp
                refine hK.out _ _ ?_ (fun hHeld => ?_)
                · (first | exact HK3.out | exact HK2.out | exact HK1.out | exact ⟨hc3, he0, he1⟩ | go_keep)
                clear hK K
                try simp only [Act.put, List.setIfInBounds_toArray, List.set_cons_zero, List.set_cons_succ]
                refine wpAnyH_ready (rs := [18]) (by kernel_rfl) (by simp) ?_
                refine AllReadyH.cons rfl (fun K hK => ?_) ?_
                · refine step_appX rfl _ _ rfl w.heap.size (.slice Apq np cp) (.slice A2 x.op.length c2) vs (T.past.take j) x rfl HP1.out HO1.out rfl hnl2 hsz1 (own_apart HO1.out HP1.out.row (by decide)) ?_; intro v2 w2 hx2 hg2; obtain ⟨A3, n3, c3, rfl, hk2, hu2, hf2, hk3, hfin⟩ := copy_next HX1.out HZ1.out HU1.out HOO1.out HP1.out HB1.out hgw hg0 hg1 hbw HK1.out.2.1 HK1.out.2.2 hx2 hg2; have HK2 := Lib.hid hk2; have HK3 := Lib.hid hk3; have HFIN := Lib.hid hfin; clear hx2 hg2 hk2 hk3 hfin
                  refine hK.out _ _ ?_ (fun hHeld => ?_)
                  · (first | exact HK3.out | exact HK2.out | exact HK1.out | exact ⟨hc3, he0, he1⟩ | go_keep)
                  clear hK K
                  try simp only [Act.put, List.setIfInBounds_toArray]
                  refine wpAnyH_take (i := 19) (v := ?_) rfl (by kernel_rfl) (by kernel_rfl) (by kernel_rfl) (fun _ _ _ h => h) (Or.inl ⟨by rfl, ?_⟩) (by assumption) ?_
                  rotate_left
                  · ((intro wz hSw; (try dsimp only at hSw); go_simp) <;> with_reducible rfl)
                  try simp only [Act.put]
                  refine wpAnyH_ready (rs := [20]) (by kernel_rfl) (by simp) ?_
                  refine AllReadyH.cons rfl (fun K hK => ?_) ?_
                  · go_simp
                    refine hK.out _ _ ?_ (fun hHeld => ?_)
                    · (first | exact HK3.out | exact HK2.out | exact HK1.out | exact ⟨hc3, he0, he1⟩ | go_keep)
                    clear hK K
                    try simp only [Act.put]
                    refine wpAnyH_done (by kernel_rfl) ?_ _
                    go_wp2_with fail
                    obtain ⟨p', vs', h1, h2, h3, h4, h5, h6⟩ := HFIN.out
                    rw [← HTK.out] at h5
                    go_roundw
                    case rel => exact ⟨j + 1, p', vs', by omega, by go_num, h1, h2, h3, h4, h5, h6⟩
                    case measure => simp [Go.RowKit.intOf]; omega
                  exact AllReadyH.nil
                exact AllReadyH.nil
              exact AllReadyH.nil
            exact AllReadyH.nil
          exact AllReadyH.nil
        refine AllReadyH.cons rfl (fun K hK => ?_) ?_
        · go_simp
          refine hK.out _ _ ?_ (fun hHeld => ?_)
          · (first | exact HK3.out | exact HK2.out | exact HK1.out | exact ⟨hc3, he0, he1⟩ | go_keep)
          clear hK K
          try simp only [Act.put, List.setIfInBounds_toArray, List.set_cons_zero, List.set_cons_succ]
          refine wpAnyH_ready (rs := [1, 15]) (by kernel_rfl) (by simp) ?_
          refine AllReadyH.cons rfl (fun K hK => ?_) ?_
          · go_simp
            refine hK.out _ _ ?_ (fun hHeld => ?_)
            · (first | exact HK3.out | exact HK2.out | exact HK1.out | exact ⟨hc3, he0, he1⟩ | go_keep)
            clear hK K
            try simp only [Act.put, List.setIfInBounds_toArray, List.set_cons_zero, List.set_cons_succ]
            refine wpAnyH_ready (rs := [15]) (by kernel_rfl) (by simp) ?_
            refine AllReadyH.cons rfl (fun K hK => ?_) ?_
            · refine step_appS rfl _ _ rfl w.heap.size (.slice (some ⟨wr.heap.size, 0, none⟩) 0 0) [] x.op rfl HO0.out Ai x.op.length ci rfl rfl hle HAZ.out hl0 hszA ?_; intro v1 w1 ho1 hg1; obtain ⟨A2, c2, rfl, _, _, _, _⟩ := ho1.form; have hb1 := HF1.out w1 A2 c2 ho1 hg1; have HX1 := Lib.hid (HX.out.below hb1); have HZ1 := Lib.hid (HZ.out.below hb1); have HU1 := Lib.hid (HU.out.below hb1); have HOO1 := Lib.hid (HO.out.below hb1); have HP1 := Lib.hid (HP.out.below hb1); have HB1 := Lib.hid (bel_trans HB.out hb1); have hu1 := HU1.out.cell (i := 3) (v := .slice Apq np cp) rfl; have hu1L : (w1.alloc (.cells #[.int .i64 x.known, .slice A2 x.op.length c2] 25)).cell? ⟨g, 3, none⟩ = some (.slice Apq np cp) := (HU1.out.alloc _).cell rfl; have HK1 := Lib.hid (And.intro (HX1.out.cell (i := 3) (v := .slice (some ⟨b, off, none⟩) T.past.length d) rfl) (And.intro (((Below.cell hb1 (p := ⟨b, off + j * 2, none⟩)) hbl.out).trans he0) (((Below.cell hb1 (p := ⟨b, off + j * 2 + 1, none⟩)) hbl.out).trans he1))); have HO1 := Lib.hid ho1; have hsz1 : w.heap.size ≤ w1.heap.size := HB1.out.size; clear ho1 hg1 hb1
              refine hK.out _ _ ?_ (fun hHeld => ?_)
              · (first | exact HK3.out | exact HK2.out | exact HK1.out | exact ⟨hc3, he0, he1⟩ | go_keep)
              clear hK K
              try simp only [Act.put, List.setIfInBounds_toArray]
              refine wpAnyH_take (i := 16) (v := ?_) rfl (by kernel_rfl) (by kernel_rfl) (by kernel_rfl) (fun _ _ _ h => h) (Or.inl ⟨by rfl, ?_⟩) (by assumption) ?_
              rotate_left
              · ((intro wz hSw; (try dsimp only at hSw); go_simp) <;> with_reducible rfl)
              try simp only [Act.put]
              refine wpAnyH_ready (rs := [17]) (by kernel_rfl) (by simp) ?_
              refine AllReadyH.cons rfl (fun K hK => ?_) ?_
              · go_simp
                refine hK.out _ _ ?_ (fun hHeld => ?_)
                · (first | exact HK3.out | exact HK2.out | exact HK1.out | exact ⟨hc3, he0, he1⟩ | go_keep)
                clear hK K
                try simp only [Act.put, List.setIfInBounds_toArray, List.set_cons_zero, List.set_cons_succ]
                refine wpAnyH_ready (rs := [18]) (by kernel_rfl) (by simp) ?_
                refine AllReadyH.cons rfl (fun K hK => ?_) ?_
                · refine step_appX rfl _ _ rfl w.heap.size (.slice Apq np cp) (.slice A2 x.op.length c2) vs (T.past.take j) x rfl HP1.out HO1.out rfl hnl2 hsz1 (own_apart HO1.out HP1.out.row (by decide)) ?_; intro v2 w2 hx2 hg2; obtain ⟨A3, n3, c3, rfl, hk2, hu2, hf2, hk3, hfin⟩ := copy_next HX1.out HZ1.out HU1.out HOO1.out HP1.out HB1.out hgw hg0 hg1 hbw HK1.out.2.1 HK1.out.2.2 hx2 hg2; have HK2 := Lib.hid hk2; have HK3 := Lib.hid hk3; have HFIN := Lib.hid hfin; clear hx2 hg2 hk2 hk3 hfin
                  refine hK.out _ _ ?_ (fun hHeld => ?_)
                  · (first | exact HK3.out | exact HK2.out | exact HK1.out | exact ⟨hc3, he0, he1⟩ | go_keep)
                  clear hK K
                  try simp only [Act.put, List.setIfInBounds_toArray]
                  refine wpAnyH_take (i := 19) (v := ?_) rfl (by kernel_rfl) (by kernel_rfl) (by kernel_rfl) (fun _ _ _ h => h) (Or.inl ⟨by rfl, ?_⟩) (by assumption) ?_
                  rotate_left
                  · ((intro wz hSw; (try dsimp only at hSw); go_simp) <;> with_reducible rfl)
                  try simp only [Act.put]
                  refine wpAnyH_ready (rs := [20]) (by kernel_rfl) (by simp) ?_
                  refine AllReadyH.cons rfl (fun K hK => ?_) ?_
                  · go_simp
                    refine hK.out _ _ ?_ (fun hHeld => ?_)
                    · (first | exact HK3.out | exact HK2.out | exact HK1.out | exact ⟨hc3, he0, he1⟩ | go_keep)
                    clear hK K
                    try simp only [Act.put]
                    refine wpAnyH_done (by kernel_rfl) ?_ _
                    go_wp2_with fail
                    obtain ⟨p', vs', h1, h2, h3, h4, h5, h6⟩ := HFIN.out
                    rw [← HTK.out] at h5
                    go_roundw
                    case rel => exact ⟨j + 1, p', vs', by omega, by go_num, h1, h2, h3, h4, h5, h6⟩
                    case measure => simp [Go.RowKit.intOf]; omega
                  exact AllReadyH.nil
                exact AllReadyH.nil
              exact AllReadyH.nil
            exact AllReadyH.nil
          refine AllReadyH.cons rfl (fun K hK => ?_) ?_
          · refine step_appS rfl _ _ rfl w.heap.size (.slice (some ⟨wr.heap.size, 0, none⟩) 0 0) [] x.op rfl HO0.out Ai x.op.length ci rfl rfl hle HAZ.out hl0 hszA ?_; intro v1 w1 ho1 hg1; obtain ⟨A2, c2, rfl, _, _, _, _⟩ := ho1.form; have hb1 := HF1.out w1 A2 c2 ho1 hg1; have HX1 := Lib.hid (HX.out.below hb1); have HZ1 := Lib.hid (HZ.out.below hb1); have HU1 := Lib.hid (HU.out.below hb1); have HOO1 := Lib.hid (HO.out.below hb1); have HP1 := Lib.hid (HP.out.below hb1); have HB1 := Lib.hid (bel_trans HB.out hb1); have hu1 := HU1.out.cell (i := 3) (v := .slice Apq np cp) rfl; have hu1L : (w1.alloc (.cells #[.int .i64 x.known, .slice A2 x.op.length c2] 25)).cell? ⟨g, 3, none⟩ = some (.slice Apq np cp) := (HU1.out.alloc _).cell rfl; have HK1 := Lib.hid (And.intro (HX1.out.cell (i := 3) (v := .slice (some ⟨b, off, none⟩) T.past.length d) rfl) (And.intro (((Below.cell hb1 (p := ⟨b, off + j * 2, none⟩)) hbl.out).trans he0) (((Below.cell hb1 (p := ⟨b, off + j * 2 + 1, none⟩)) hbl.out).trans he1))); have HO1 := Lib.hid ho1; have hsz1 : w.heap.size ≤ w1.heap.size := HB1.out.size; clear ho1 hg1 hb1
            refine hK.out _ _ ?_ (fun hHeld => ?_)
            · (first | exact HK3.out | exact HK2.out | exact HK1.out | exact ⟨hc3, he0, he1⟩ | go_keep)
            clear hK K
            try simp only [Act.put, List.setIfInBounds_toArray]
            refine wpAnyH_take (i := 16) (v := ?_) rfl (by kernel_rfl) (by kernel_rfl) (by kernel_rfl) (fun _ _ _ h => h) (Or.inl ⟨by rfl, ?_⟩) (by assumption) ?_
            rotate_left
            · ((intro wz hSw; (try dsimp only at hSw); go_simp) <;> with_reducible rfl)
            try simp only [Act.put]
            refine wpAnyH_ready (rs := [1, 17]) (by kernel_rfl) (by simp) ?_
            refine AllReadyH.cons rfl (fun K hK => ?_) ?_
            · go_simp
              refine hK.out _ _ ?_ (fun hHeld => ?_)
              · (first | exact HK3.out | exact HK2.out | exact HK1.out | exact ⟨hc3, he0, he1⟩ | go_keep)
              clear hK K
              try simp only [Act.put, List.setIfInBounds_toArray, List.set_cons_zero, List.set_cons_succ]
              refine wpAnyH_ready (rs := [17]) (by kernel_rfl) (by simp) ?_
              refine AllReadyH.cons rfl (fun K hK => ?_) ?_
              · go_simp
                refine hK.out _ _ ?_ (fun hHeld => ?_)
                · (first | exact HK3.out | exact HK2.out | exact HK1.out | exact ⟨hc3, he0, he1⟩ | go_keep)
                clear hK K
                try simp only [Act.put, List.setIfInBounds_toArray, List.set_cons_zero, List.set_cons_succ]
                refine wpAnyH_ready (rs := [18]) (by kernel_rfl) (by simp) ?_
                refine AllReadyH.cons rfl (fun K hK => ?_) ?_
                · refine step_appX rfl _ _ rfl w.heap.size (.slice Apq np cp) (.slice A2 x.op.length c2) vs (T.past.take j) x rfl HP1.out HO1.out rfl hnl2 hsz1 (own_apart HO1.out HP1.out.row (by decide)) ?_; intro v2 w2 hx2 hg2; obtain ⟨A3, n3, c3, rfl, hk2, hu2, hf2, hk3, hfin⟩ := copy_next HX1.out HZ1.out HU1.out HOO1.out HP1.out HB1.out hgw hg0 hg1 hbw HK1.out.2.1 HK1.out.2.2 hx2 hg2; have HK2 := Lib.hid hk2; have HK3 := Lib.hid hk3; have HFIN := Lib.hid hfin; clear hx2 hg2 hk2 hk3 hfin
                  refine hK.out _ _ ?_ (fun hHeld => ?_)
                  · (first | exact HK3.out | exact HK2.out | exact HK1.out | exact ⟨hc3, he0, he1⟩ | go_keep)
                  clear hK K
                  try simp only [Act.put, List.setIfInBounds_toArray]
                  refine wpAnyH_take (i := 19) (v := ?_) rfl (by kernel_rfl) (by kernel_rfl) (by kernel_rfl) (fun _ _ _ h => h) (Or.inl ⟨by rfl, ?_⟩) (by assumption) ?_
                  rotate_left
                  · ((intro wz hSw; (try dsimp only at hSw); go_simp) <;> with_reducible rfl)
                  try simp only [Act.put]
                  refine wpAnyH_ready (rs := [20]) (by kernel_rfl) (by simp) ?_
                  refine AllReadyH.cons rfl (fun K hK => ?_) ?_
                  · go_simp
                    refine hK.out _ _ ?_ (fun hHeld => ?_)
                    · (first | exact HK3.out | exact HK2.out | exact HK1.out | exact ⟨hc3, he0, he1⟩ | go_keep)
                    clear hK K
                    try simp only [Act.put]
                    refine wpAnyH_done (by kernel_rfl) ?_ _
                    go_wp2_with fail
                    obtain ⟨p', vs', h1, h2, h3, h4, h5, h6⟩ := HFIN.out
                    rw [← HTK.out] at h5
                    go_roundw
                    case rel => exact ⟨j + 1, p', vs', by omega, by go_num, h1, h2, h3, h4, h5, h6⟩
                    case measure => simp [Go.RowKit.intOf]; omega
                  exact AllReadyH.nil
                exact AllReadyH.nil
              exact AllReadyH.nil
            refine AllReadyH.cons rfl (fun K hK => ?_) ?_
            · go_simp
              refine hK.out _ _ ?_ (fun hHeld => ?_)
              · (first | exact HK3.out | exact HK2.out | exact HK1.out | exact ⟨hc3, he0, he1⟩ | go_keep)
              clear hK K
              try simp only [Act.put, List.setIfInBounds_toArray, List.set_cons_zero, List.set_cons_succ]
              refine wpAnyH_ready (rs := [1]) (by kernel_rfl) (by simp) ?_
              refine AllReadyH.cons rfl (fun K hK => ?_) ?_
              · go_simp
                refine hK.out _ _ ?_ (fun hHeld => ?_)
                · (first | exact HK3.out | exact HK2.out | exact HK1.out | exact ⟨hc3, he0, he1⟩ | go_keep)
                clear hK K
                try simp only [Act.put, List.setIfInBounds_toArray, List.set_cons_zero, List.set_cons_succ]
                refine wpAnyH_ready (rs := [18]) (by kernel_rfl) (by simp) ?_
                refine AllReadyH.cons rfl (fun K hK => ?_) ?_
                · refine step_appX rfl _ _ rfl w.heap.size (.slice Apq np cp) (.slice A2 x.op.length c2) vs (T.past.take j) x rfl HP1.out HO1.out rfl hnl2 hsz1 (own_apart HO1.out HP1.out.row (by decide)) ?_; intro v2 w2 hx2 hg2; obtain ⟨A3, n3, c3, rfl, hk2, hu2, hf2, hk3, hfin⟩ := copy_next HX1.out HZ1.out HU1.out HOO1.out HP1.out HB1.out hgw hg0 hg1 hbw HK1.out.2.1 HK1.out.2.2 hx2 hg2; have HK2 := Lib.hid hk2; have HK3 := Lib.hid hk3; have HFIN := Lib.hid hfin; clear hx2 hg2 hk2 hk3 hfin
                  refine hK.out _ _ ?_ (fun hHeld => ?_)
                  · (first | exact HK3.out | exact HK2.out | exact HK1.out | exact ⟨hc3, he0, he1⟩ | go_keep)
                  clear hK K
                  try simp only [Act.put, List.setIfInBounds_toArray]
                  refine wpAnyH_take (i := 19) (v := ?_) rfl (by kernel_rfl) (by kernel_rfl) (by kernel_rfl) (fun _ _ _ h => h) (Or.inl ⟨by rfl, ?_⟩) (by assumption) ?_
                  rotate_left
                  · ((intro wz hSw; (try dsimp only at hSw); go_simp) <;> with_reducible rfl)
                  try simp only [Act.put]
                  refine wpAnyH_ready (rs := [20]) (by kernel_rfl) (by simp) ?_
                  refine AllReadyH.cons rfl (fun K hK => ?_) ?_
                  · go_simp
                    refine hK.out _ _ ?_ (fun hHeld => ?_)
                    · (first | exact HK3.out | exact HK2.out | exact HK1.out | exact ⟨hc3, he0, he1⟩ | go_keep)
                    clear hK K
                    try simp only [Act.put]
                    refine wpAnyH_done (by kernel_rfl) ?_ _
                    go_wp2_with fail
                    obtain ⟨p', vs', h1, h2, h3, h4, h5, h6⟩ := HFIN.out
                    rw [← HTK.out] at h5
                    go_roundw
                    case rel => exact ⟨j + 1, p', vs', by omega, by go_num, h1, h2, h3, h4, h5, h6⟩
                    case measure => simp [Go.RowKit.intOf]; omega
                  exact AllReadyH.nil
                exact AllReadyH.nil
              exact AllReadyH.nil
            exact AllReadyH.nil
          exact AllReadyH.nil
        exact AllReadyH.nil
      · obtain rfl : j = T.past.length := by omega
        rw [List.take_length] at HP
        obtain ⟨Apq, cp, hpe, _, _, _, _⟩ := HP.out.form
        subst hpe
        have hu0 := HU.out.cell (i := 0) (v := .int .i64 t) rfl
        have hu1 := HU.out.cell (i := 1) (v := .int .i64 q) rfl
        have hu2 := HU.out.cell (i := 2) (v := .slice A1 T.now.op.length c1) rfl
        have hu3 := HU.out.cell (i := 3) (v := .slice Apq T.past.length cp) rfl
        obtain ⟨⟨ha0, ha1, ha2, ha3, ha4, ha5, ha6, ha7⟩, ⟨hb2, hb3⟩, ⟨hb4, hb5⟩, ⟨hb6, hb7⟩, HOUT⟩ := HZ.out.store4 (.int .i64 t) (.int .i64 q) (.slice A1 T.now.op.length c1) (.slice Apq T.past.length cp)
        have HB5 := Lib.hid (bel_set4 HB.out (show w.heap.size ≤ w.heap.size + 1 by omega) (.int .i64 t) (.int .i64 q) (.slice A1 T.now.op.length c1) (.slice Apq T.past.length cp))
        have HO5 := Lib.hid (HO.out.setBox4 HZ.out (by decide) (.int .i64 t) (.int .i64 q) (.slice A1 T.now.op.length c1) (.slice Apq T.past.length cp))
        have HP5 := Lib.hid (HP.out.setBox4 HZ.out (by decide) (by decide) (.int .i64 t) (.int .i64 q) (.slice A1 T.now.op.length c1) (.slice Apq T.past.length cp))
        go_wp2_with fail
        refine bodyPost_ret_by (results_talk (b := w.heap.size + 1) rfl rfl HOUT) rfl ⟨.slice A1 T.now.op.length c1, .slice Apq T.past.length cp, vs, rfl, HO5.out, HP5.out, HB5.out⟩
end Go.Proofs.YtmdogidflaplkaaGreat
