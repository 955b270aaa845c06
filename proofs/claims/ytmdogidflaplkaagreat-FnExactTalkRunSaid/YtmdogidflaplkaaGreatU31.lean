/-
  What the proofs of this seat's statements share (TlkY).
-/
import Derived.Test.YtmdogidflaplkaaGreatU30
import Derived.Test.YtmdogidflaplkaaGreatU29

namespace Go.Proofs.YtmdogidflaplkaaGreat
open Go.RowKit

/-- The slices of texts of a talk share no block. -/
def ApX (o : Value) (vs : List (Int × Value)) : Prop := (∀ u ∈ vs, ∀ k, u.2.ownBlock = some k → o.ownBlock ≠ some k) ∧ vs.Pairwise fun u v => ∀ k, u.2.ownBlock = some k → v.2.ownBlock ≠ some k
theorem ApX.nil (o : Value) : ApX o [] := ⟨fun u hu => (by cases hu), List.Pairwise.nil⟩
theorem ApX.snoc {o : Value} {vs : List (Int × Value)} {a : Int} {v : Value} {s : Nat} (h : ApX o vs) (ho : ∀ k, o.ownBlock = some k → k < s) (hs : ∀ u ∈ vs, ∀ k, u.2.ownBlock = some k → k < s) (hv : ∀ k, v.ownBlock = some k → s ≤ k) : ApX o (vs ++ [(a, v)]) := by
  refine ⟨fun u hu k hk e => ?_, List.pairwise_append.2 ⟨h.2, List.pairwise_singleton _ _, fun u hu x hx k hk e => ?_⟩⟩
  · rcases List.mem_append.1 hu with hu | hu
    · exact h.1 u hu k hk e
    · rw [List.mem_singleton] at hu
      subst hu
      have := hv k hk
      have := ho k e
      omega
  · rw [List.mem_singleton] at hx
    subst hx
    have := hs u hu k hk
    have := hv k e
    omega
theorem OwnsX.inner {e : TypeId} {w : World} {base : Nat} {v : Value} {vs : List (Int × Value)} {xs : List (St ByteArray)} (h : OwnsX e w base v vs xs) : ∀ u ∈ vs, ∀ k, u.2.ownBlock = some k → base ≤ k ∧ k < w.heap.size := by
  intro u hu k hk
  obtain ⟨i, hi⟩ := List.mem_iff_getElem?.1 hu
  have hil : i < xs.length := by rw [← h.sees.len]; exact (List.getElem?_eq_some_iff.1 hi).1
  obtain ⟨v2, h1, h2, _⟩ := h.sees.at_ i xs[i] (List.getElem?_eq_getElem hil)
  rw [hi] at h1
  cases h1
  exact h2.lt hk
/-- What is given out: all its memory is new. -/
def GivePost (T : TalkV) (w : World) (e : Ending) (w' : World) : Prop := ∃ o p vs, e = .returned (.agg #[.int .i64 T.things, .int .i64 T.now.known, o, p]) ∧ OwnsS w' w.heap.size o T.now.op ∧ OwnsX 25 w' w.heap.size p vs T.past ∧ ApX o vs ∧ Below w.heap.size w w'
def GiveMid (w : World) (t q : Int) (A : Option Addr) (n c : Nat) (B : Option Addr) (m d : Nat) (xs : List ByteArray) (s3 : Value) (wx : World) : Prop :=
  ∃ (g : Nat) (A1 : Option Addr) (c1 : Nat), s3 = .pointer (some ⟨g, 0, none⟩) ∧ w.heap.size ≤ g ∧ g ≠ w.heap.size ∧ g ≠ w.heap.size + 1 ∧ Hid (Box wx w.heap.size 69 [.int .i64 q, .slice A n c, .int .i64 t, .slice B m d]) ∧ Hid (Box wx (w.heap.size + 1) 28 [.int .i64 0, .int .i64 0, .slice none 0 0, .slice none 0 0]) ∧
    Hid (Box wx g 28 [.int .i64 t, .int .i64 q, .slice A1 n c1, .slice none 0 0]) ∧ Hid (OwnsS wx w.heap.size (.slice A1 n c1) xs) ∧ Hid (Below w.heap.size w wx)
theorem give_next {w w1 w2 : World} {t q : Int} {av bv : Value} {g : Nat} {A1 Apq A2 : Option Addr} {n1 c1 np cp c2 h5 : Nat} {xs : List ByteArray} {ys : List (St ByteArray)} {x : St ByteArray} {vs : List (Int × Value)} {v2 : Value} {e0 e1 : Value}
    (hX : Box w1 w.heap.size 69 [.int .i64 q, av, .int .i64 t, bv]) (hZ : Box w1 (w.heap.size + 1) 28 [.int .i64 0, .int .i64 0, .slice none 0 0, .slice none 0 0]) (hU : Box w1 g 28 [.int .i64 t, .int .i64 q, .slice A1 n1 c1, .slice Apq np cp])
    (hO : OwnsS w1 w.heap.size (.slice A1 n1 c1) xs) (hP : OwnsX 25 w1 w.heap.size (.slice Apq np cp) vs ys) (hB : Below w.heap.size w w1) (hgw : w.heap.size ≤ g) (hg0 : g ≠ w.heap.size) (hg1 : g ≠ w.heap.size + 1)
    (hE : Box w1 h5 25 [e0, e1]) (hh5 : g ≠ h5) (h5o : ∀ k, (Value.slice Apq np cp).ownBlock = some k → k ≠ h5)
    (hx2 : OwnsX 25 w2 w.heap.size v2 (vs ++ [(x.known, .slice A2 x.op.length c2)]) (ys ++ [x])) (hg2 : (w1.alloc (.cells #[.int .i64 x.known, .slice A2 x.op.length c2] 25)).grownBy w2 (Value.slice Apq np cp).ownBlock) :
    ∃ A3 n3 c3, v2 = .slice A3 n3 c3 ∧ (w2.cell? ⟨h5, 0, none⟩ = some e0 ∧ w2.cell? ⟨h5, 1, none⟩ = some e1) ∧ w2.cell? ⟨g, 3, none⟩ = some (.slice Apq np cp) ∧ w2.frozen? ⟨g, 3, none⟩ = false ∧
      ((w2.setCell ⟨g, 3, none⟩ (.slice A3 n3 c3)).cell? ⟨h5, 0, none⟩ = some e0 ∧ (w2.setCell ⟨g, 3, none⟩ (.slice A3 n3 c3)).cell? ⟨h5, 1, none⟩ = some e1) ∧
      (Box (w2.setCell ⟨g, 3, none⟩ (.slice A3 n3 c3)) w.heap.size 69 [.int .i64 q, av, .int .i64 t, bv] ∧ Box (w2.setCell ⟨g, 3, none⟩ (.slice A3 n3 c3)) (w.heap.size + 1) 28 [.int .i64 0, .int .i64 0, .slice none 0 0, .slice none 0 0] ∧ Box (w2.setCell ⟨g, 3, none⟩ (.slice A3 n3 c3)) g 28 [.int .i64 t, .int .i64 q, .slice A1 n1 c1, .slice A3 n3 c3] ∧
        OwnsS (w2.setCell ⟨g, 3, none⟩ (.slice A3 n3 c3)) w.heap.size (.slice A1 n1 c1) xs ∧ OwnsX 25 (w2.setCell ⟨g, 3, none⟩ (.slice A3 n3 c3)) w.heap.size (.slice A3 n3 c3) (vs ++ [(x.known, .slice A2 x.op.length c2)]) (ys ++ [x]) ∧ Below w.heap.size w (w2.setCell ⟨g, 3, none⟩ (.slice A3 n3 c3))) := by
  obtain ⟨A3, c3, rfl, _, _, _, _⟩ := hx2.form
  have hsz1 : w.heap.size ≤ w1.heap.size := hB.size
  have HX2 := (hX.alloc (.cells #[.int .i64 x.known, .slice A2 x.op.length c2] 25)).grownO hg2 (fun k e => box_apart hX hP.row (by decide) k e)
  have HZ2 := (hZ.alloc (.cells #[.int .i64 x.known, .slice A2 x.op.length c2] 25)).grownO hg2 (fun k e => box_apart hZ hP.row (by decide) k e)
  have HU2 := (hU.alloc (.cells #[.int .i64 x.known, .slice A2 x.op.length c2] 25)).grownO hg2 (fun k e => box_apart hU hP.row (by decide) k e)
  have HE2 := (hE.alloc (.cells #[.int .i64 x.known, .slice A2 x.op.length c2] 25)).grownO hg2 h5o
  have HOO2 := (hO.below ((Below.refl _ _).alloc (Nat.le_refl _) (.cells #[.int .i64 x.known, .slice A2 x.op.length c2] 25))).kept hg2 (own_apart hO hP.row (by decide))
  have HB2 := (hB.alloc hsz1 (.cells #[.int .i64 x.known, .slice A2 x.op.length c2] 25)).grown hg2 (by rw [World.size_alloc]; omega) (fun kk he => (hP.lt he).1)
  have HE3 := HE2.other (a := g) (i := 3) hh5 (.slice A3 (ys ++ [x]).length c3)
  refine ⟨A3, _, c3, rfl, ⟨HE2.cell rfl, HE2.cell rfl⟩, HU2.cell rfl, HU2.frozen 3, ⟨HE3.cell rfl, HE3.cell rfl⟩, HX2.other hg0 _, HZ2.other hg1 _, HU2.set 3 _, HOO2.setBox HU2 (by decide), hx2.setBox HU2 (by decide) (by decide), HB2.setCell (p := ⟨g, 3, none⟩) hgw _⟩
set_option maxRecDepth 100000 in
set_option maxHeartbeats 8000000 in
theorem iGive (T : TalkV) (A B : Option Addr) (n c m d : Nat) (w : World) (hT : TkAt w T A n c B m d) (hs : SmallT T) :
    Calls Tryz.prog 37 #[.agg #[.int .i64 T.now.known, .slice A n c, .int .i64 T.things, .slice B m d]] w (GivePost T w) := by
  have HT := Lib.hid hT
  have HS := Lib.hid hs
  obtain rfl := hT.pn
  obtain rfl := hT.hn
  have hml : T.past.length ≤ 1048576 := hs.past
  have hnl : T.now.op.length ≤ 1048576 := hs.op
  obtain ⟨t, HTT⟩ : ∃ t, Hid (T.things = t) := ⟨_, rfl⟩
  obtain ⟨q, HQQ⟩ : ∃ q, Hid (T.now.known = q) := ⟨_, rfl⟩
  obtain ⟨HX0, HZ0, HB0⟩ := two_boxesT w 69 28 [.int .i64 q, .slice A T.now.op.length c, .int .i64 t, .slice B T.past.length d] [.int .i64 0, .int .i64 0, .slice none 0 0, .slice none 0 0]
  unfold GivePost
  rw [HTT.out, HQQ.out]
  clear hT hs
  go_enter Tryz.func37, Tryz.ntmps37
  go_upto_region 1 with fail
  obtain ⟨W0, hW0⟩ : ∃ W, (w.alloc (.cells #[.int .i64 q, .slice A T.now.op.length c, .int .i64 t, .slice B T.past.length d] 69)).alloc (.cells #[.int .i64 0, .int .i64 0, .slice none 0 0, .slice none 0 0] 28) = W := ⟨_, rfl⟩
  have hW0' : (w.alloc (.cells [Value.int .i64 q, .slice A T.now.op.length c, .int .i64 t, .slice B T.past.length d].toArray 69)).alloc (.cells [Value.int .i64 0, .int .i64 0, .slice none 0 0, .slice none 0 0].toArray 28) = W0 := hW0
  rw [hW0'] at HX0 HZ0 HB0
  rw [hW0]
  clear hW0 hW0'
  have hc0 := HX0.out.cell (i := 0) (v := .int .i64 q) rfl
  have hc1 := HX0.out.cell (i := 1) (v := .slice A T.now.op.length c) rfl
  have hc2 := HX0.out.cell (i := 2) (v := .int .i64 t) rfl
  have hsz0 : w.heap.size ≤ W0.heap.size := HB0.out.size
  have hx0lt := HX0.out.lt
  have hz0lt := HZ0.out.lt
  have HCP : Hid (∀ W : World, Below w.heap.size w W → Calls Tryz.prog 75 #[.agg #[.int .i64 q, .slice A T.now.op.length c]] W fun e w' => ∃ v, e = .returned (.agg #[.int .i64 q, v]) ∧ OwnsS w' W.heap.size v T.now.op ∧ Below W.heap.size W w') := fun W h => iCopied q A _ c _ W rfl HT.out.hc hnl (HT.out.hA.below h)
  go_cut [3] from 6 to 11 (fun s3 wx => GiveMid w t q A T.now.op.length c B T.past.length d T.now.op s3 wx)
  case first =>
    go_region_held3 (fun w' => w'.cell? ⟨w.heap.size, 0, none⟩ = some (.int .i64 q) ∧ w'.cell? ⟨w.heap.size, 1, none⟩ = some (.slice A T.now.op.length c) ∧ w'.cell? ⟨w.heap.size, 2, none⟩ = some (.int .i64 t))
      (first | exact HK2.out | exact HK1.out | exact ⟨hc0, hc1, hc2⟩ | go_keep)
      (first
        | (go_at_call 75; refine (HCP.out W0.drew (bel_drewN HB0.out 1)).mono ?_; rintro e w1 ⟨v, rfl, ho, hb⟩; obtain ⟨A1, c1, rfl, _⟩ := ho.form; have hx1 := (HX0.out.drew).below hb; have hz1 := (HZ0.out.drew).below hb; have hb1 := bel_trans (bel_drewN HB0.out 1) hb; have hx2 := hx1.alloc (.cells #[.int .i64 t, .int .i64 q, .slice A1 T.now.op.length c1, .slice none 0 0] 28); have HK1 := Lib.hid (And.intro (hx1.cell (i := 0) (v := .int .i64 q) rfl) (And.intro (hx1.cell (i := 1) (v := .slice A T.now.op.length c) rfl) (hx1.cell (i := 2) (v := .int .i64 t) rfl))); have HK2 := Lib.hid (And.intro (hx2.cell (i := 0) (v := .int .i64 q) rfl) (And.intro (hx2.cell (i := 1) (v := .slice A T.now.op.length c) rfl) (hx2.cell (i := 2) (v := .int .i64 t) rfl))); have HFIN : Hid (GiveMid w t q A T.now.op.length c B T.past.length d T.now.op (.pointer (some ⟨w1.heap.size, 0, none⟩)) (w1.alloc (.cells #[.int .i64 t, .int .i64 q, .slice A1 T.now.op.length c1, .slice none 0 0] 28))) := ⟨w1.heap.size, A1, c1, rfl, hb1.size, (by have := hz1.lt; omega), (by have := hz1.lt; omega), hx2, hz1.alloc _, Box.new w1 28 [.int .i64 t, .int .i64 q, .slice A1 T.now.op.length c1, .slice none 0 0], (ho.base hsz0).below ((Below.refl _ _).alloc (Nat.le_refl _) _), hb1.alloc hb1.size _⟩; clear ho hb hx1 hz1 hb1 hx2)
        | (go_at_call 75; refine (HCP.out (W0.drew.alloc (.cells #[.int .i64 0, .int .i64 0, .slice none 0 0, .slice none 0 0] 28)) ((bel_drewN HB0.out 1).alloc hsz0 _)).mono ?_; rintro e w1 ⟨v, rfl, ho, hb⟩; obtain ⟨A1, c1, rfl, _⟩ := ho.form; have hx1 := ((HX0.out.drew).alloc (.cells #[.int .i64 0, .int .i64 0, .slice none 0 0, .slice none 0 0] 28)).below hb; have hz1 := ((HZ0.out.drew).alloc (.cells #[.int .i64 0, .int .i64 0, .slice none 0 0, .slice none 0 0] 28)).below hb; have hb1 := bel_trans ((bel_drewN HB0.out 1).alloc hsz0 (.cells #[.int .i64 0, .int .i64 0, .slice none 0 0, .slice none 0 0] 28)) hb; have ho2 : Box w1 W0.heap.size 28 [.int .i64 0, .int .i64 0, .slice none 0 0, .slice none 0 0] := (Box.new W0.drew 28 [.int .i64 0, .int .i64 0, .slice none 0 0, .slice none 0 0]).below hb; have hbase : w.heap.size ≤ (W0.drew.alloc (.cells #[.int .i64 0, .int .i64 0, .slice none 0 0, .slice none 0 0] 28)).heap.size := (by rw [World.size_alloc]; exact Nat.le_succ_of_le hsz0); obtain ⟨⟨ha0, ha1, ha2, ha3, ha4, ha5, ha6, ha7⟩, ⟨hb2, hb3⟩, ⟨hb4, hb5⟩, ⟨hb6, hb7⟩, HOUT⟩ := ho2.store4 (.int .i64 t) (.int .i64 q) (.slice A1 T.now.op.length c1) (.slice none 0 0); have hx2 := hx1.other4 (g := W0.heap.size) (by omega) (.int .i64 t) (.int .i64 q) (.slice A1 T.now.op.length c1) (.slice none 0 0); have HK1 := Lib.hid (And.intro (hx1.cell (i := 0) (v := .int .i64 q) rfl) (And.intro (hx1.cell (i := 1) (v := .slice A T.now.op.length c) rfl) (hx1.cell (i := 2) (v := .int .i64 t) rfl))); have HK2 := Lib.hid (And.intro (hx2.cell (i := 0) (v := .int .i64 q) rfl) (And.intro (hx2.cell (i := 1) (v := .slice A T.now.op.length c) rfl) (hx2.cell (i := 2) (v := .int .i64 t) rfl))); have HFIN : Hid (GiveMid w t q A T.now.op.length c B T.past.length d T.now.op (.pointer (some ⟨W0.heap.size, 0, none⟩)) ((((w1.setCell ⟨W0.heap.size, 0, none⟩ (.int .i64 t)).setCell ⟨W0.heap.size, 1, none⟩ (.int .i64 q)).setCell ⟨W0.heap.size, 2, none⟩ (.slice A1 T.now.op.length c1)).setCell ⟨W0.heap.size, 3, none⟩ (.slice none 0 0))) := ⟨W0.heap.size, A1, c1, rfl, hsz0, (by omega), (by omega), hx2, hz1.other4 (by omega) _ _ _ _, HOUT, (ho.base hbase).setBox4 ho2 (by decide) _ _ _ _, bel_set4 hb1 hsz0 _ _ _ _⟩; clear ho hb hx1 hz1 hb1 hx2 ho2 hbase))
    all_goals
      go_wp2_with fail
      go_meet
      exact HFIN.out
  case rest =>
    obtain ⟨g, A1, c1, rfl, hgw, hg0, hg1, HX, HZ, HU, HO, HB⟩ := hcut
    clear HX0 HZ0 HB0 hc0 hc1 hc2 hsz0 hx0lt hz0lt HCP
    have hp3 := HX.out.cell (i := 3) (v := .slice B T.past.length d) rfl
    go_wp2_with fail
    go_loopw [15] (fun i wr => ∃ (j : Nat) (p : Value) (vs : List (Int × Value)), j ≤ T.past.length ∧ i = .int .i64 j ∧ Hid (Box wr w.heap.size 69 [.int .i64 q, .slice A T.now.op.length c, .int .i64 t, .slice B T.past.length d]) ∧ Hid (Box wr (w.heap.size + 1) 28 [.int .i64 0, .int .i64 0, .slice none 0 0, .slice none 0 0]) ∧
      Hid (Box wr g 28 [.int .i64 t, .int .i64 q, .slice A1 T.now.op.length c1, p]) ∧ Hid (OwnsS wr w.heap.size (.slice A1 T.now.op.length c1) T.now.op) ∧ Hid (OwnsX 25 wr w.heap.size p vs (T.past.take j)) ∧ Hid (ApX (.slice A1 T.now.op.length c1) vs) ∧ Hid (Below w.heap.size w wr)) (fun i _ => T.past.length - (Go.RowKit.intOf i).toNat)
    case atStart => exact ⟨0, _, [], Nat.zero_le _, rfl, HX, HZ, HU, HO, OwnsX.nil _ _ _, ApX.nil _, HB⟩
    case round =>
      obtain ⟨j, p, vs, hj, rfl, HX, HZ, HU, HO, HP, HAX, HB⟩ := hrel
      by_cases hlt : j < T.past.length
      · obtain ⟨b, off, Ai, ci, x, rfl, he0, he1, hle, hmi, hx, hAi, hbl⟩ := (HT.out.hB.below HB.out).elem hlt
        obtain ⟨hxl, hxs⟩ := HS.out.ops x (List.mem_of_getElem? hx.out)
        obtain ⟨Apq, cp, hpe, _, _, _, _⟩ := HP.out.form
        obtain ⟨np, hnp⟩ : ∃ np, (T.past.take j).length = np := ⟨_, rfl⟩
        rw [hnp] at hpe
        subst hpe
        have HNL : Hid ((T.past.take j).length ≤ 1048576) := by unfold Hid; rw [List.length_take]; omega
        have HTK : Hid (T.past.take (j + 1) = T.past.take j ++ [x]) := by
          unfold Hid
          rw [List.take_succ_eq_append_getElem (by omega), (List.getElem?_eq_some_iff.1 hx.out).2]
        have hszr : w.heap.size ≤ wr.heap.size := HB.out.size
        have hglt : g < wr.heap.size := HU.out.lt
        have HE5 : Hid (Box (wr.alloc (.cells #[.int .i64 x.known, .slice Ai x.op.length ci] 25)) wr.heap.size 25 [.int .i64 x.known, .slice Ai x.op.length ci]) := Box.new wr 25 [.int .i64 x.known, .slice Ai x.op.length ci]
        have hbel : Below wr.heap.size wr (wr.alloc (.cells #[.int .i64 x.known, .slice Ai x.op.length ci] 25)) := (Below.refl _ _).alloc (Nat.le_refl _) _
        have HX5 := Lib.hid (HX.out.below hbel)
        have HZ5 := Lib.hid (HZ.out.below hbel)
        have HU5 := Lib.hid (HU.out.below hbel)
        have HO5 := Lib.hid (HO.out.below hbel)
        have HP5 := Lib.hid (HP.out.below hbel)
        have HB5 := Lib.hid (bel_trans HB.out hbel)
        have HA5 := Lib.hid (hAi.out.below hbel)
        have HLO : Hid ((∀ k, (Value.slice A1 T.now.op.length c1).ownBlock = some k → k < wr.heap.size) ∧ (∀ u ∈ vs, ∀ k, u.2.ownBlock = some k → k < wr.heap.size) ∧ (∀ k, (Value.slice Apq np cp).ownBlock = some k → k < wr.heap.size)) := ⟨fun k hk => (HO.out.lt hk).2, fun u hu k hk => (HP.out.inner u hu k hk).2, fun k hk => (HP.out.lt hk).2⟩
        go_upto_region 5 with fail
        obtain ⟨h5, hh5⟩ : ∃ h5, wr.heap.size = h5 := ⟨_, rfl⟩
        obtain ⟨W5, hW5⟩ : ∃ W, wr.alloc (.cells #[.int .i64 x.known, .slice Ai x.op.length ci] 25) = W := ⟨_, rfl⟩
        rw [hW5] at HE5 HX5 HZ5 HU5 HO5 HP5 HB5 HA5 ⊢
        rw [hh5] at HE5 HLO hglt hszr
        try rw [hh5]
        clear hW5 hh5 hbel HX HZ HU HO HP HB he0 he1 hAi hnp
        have hu3 := HU5.out.cell (i := 3) (v := .slice Apq np cp) rfl
        have hu3d : W5.drew.cell? ⟨g, 3, none⟩ = some (.slice Apq np cp) := hu3
        have hE0 := HE5.out.cell (i := 0) (v := .int .i64 x.known) rfl
        have hE1 := HE5.out.cell (i := 1) (v := .slice Ai x.op.length ci) rfl
        have hs5 : w.heap.size ≤ W5.heap.size := HB5.out.size
        have h5lt : h5 < W5.heap.size := HE5.out.lt
        refine wp_region_held_drew (S := (fun w' => w'.cell? ⟨h5, 0, none⟩ = some (.int .i64 x.known) ∧ w'.cell? ⟨h5, 1, none⟩ = some (.slice Ai x.op.length ci))) (by kernel_rfl) ?_ (fun hHeld => ?_)
        · exact ⟨hE0, hE1⟩
        refine wpAnyH_take (i := 0) (v := ?_) rfl (by kernel_rfl) (by kernel_rfl) (by kernel_rfl) (fun _ _ _ h => h) (Or.inl ⟨by rfl, ?_⟩) (by assumption) ?_
        rotate_left
        · ((intro wz hSw; (try dsimp only at hSw); go_simp) <;> with_reducible rfl)
        try simp only [Act.put, List.setIfInBounds_toArray]
        refine wpAnyH_take (i := 2) (v := ?_) rfl (by kernel_rfl) (by kernel_rfl) (by kernel_rfl) (fun _ _ _ h => h) (Or.inl ⟨by rfl, ?_⟩) (by assumption) ?_
        rotate_left
        · ((intro wz hSw; (try dsimp only at hSw); go_simp) <;> with_reducible rfl)
        try simp only [Act.put]
        refine wpAnyH_ready (rs := [1, 3]) (by kernel_rfl) (by simp) ?_
        refine AllReadyH.cons rfl (fun K hK => ?_) ?_
        · go_simp
          refine hK.out _ _ ?_ (fun hHeld => ?_)
          · (first | exact HK3.out | exact HK2.out | exact HK1.out | exact ⟨hE0, hE1⟩ | go_keep)
          clear hK K
          try simp only [Act.put, List.setIfInBounds_toArray, List.set_cons_zero, List.set_cons_succ]
          refine wpAnyH_ready (rs := [3]) (by kernel_rfl) (by simp) ?_
          refine AllReadyH.cons rfl (fun K hK => ?_) ?_
          · (go_simp; go_at_call 75; refine (iCopied x.known Ai _ ci x.op W5.drew rfl hle hxl HA5.out).mono ?_; rintro e w1 ⟨v, rfl, ho, hb⟩; obtain ⟨A2, c2, rfl, _⟩ := ho.form; have HNEW : Hid (∀ k, (Value.slice A2 x.op.length c2).ownBlock = some k → h5 ≤ k) := (fun k hk => by have := (ho.lt hk).1; have : W5.drew.heap.size = W5.heap.size := rfl; omega); have HX1 := Lib.hid ((HX5.out.drew).below hb); have HZ1 := Lib.hid ((HZ5.out.drew).below hb); have HU1 := Lib.hid ((HU5.out.drew).below hb); have HE1 := Lib.hid ((HE5.out.drew).below hb); have HOO1 := Lib.hid ((HO5.out.drewN 1).below hb); have HP1 := Lib.hid ((HP5.out.drewN 1).below hb); have HB1 := Lib.hid (bel_trans (bel_drewN HB5.out 1) hb); have hu1 := HU1.out.cell (i := 3) (v := .slice Apq np cp) rfl; have hu1L : (w1.alloc (.cells #[.int .i64 x.known, .slice A2 x.op.length c2] 25)).cell? ⟨g, 3, none⟩ = some (.slice Apq np cp) := (HU1.out.alloc _).cell rfl; have HK1 := Lib.hid (And.intro (HE1.out.cell (i := 0) (v := .int .i64 x.known) rfl) (HE1.out.cell (i := 1) (v := .slice Ai x.op.length ci) rfl)); have HO1 := Lib.hid (ho.base hs5); have hsz1 : w.heap.size ≤ w1.heap.size := HB1.out.size; clear ho hb; (try go_simp))
            refine hK.out _ _ ?_ (fun hHeld => ?_)
            · (first | exact HK3.out | exact HK2.out | exact HK1.out | exact ⟨hE0, hE1⟩ | go_keep)
            clear hK K
            try simp only [Act.put, List.setIfInBounds_toArray, List.set_cons_zero, List.set_cons_succ]
            refine wpAnyH_ready (rs := [4]) (by kernel_rfl) (by simp) ?_
            refine AllReadyH.cons rfl (fun K hK => ?_) ?_
            · go_simp
              refine hK.out _ _ ?_ (fun hHeld => ?_)
              · (first | exact HK3.out | exact HK2.out | exact HK1.out | exact ⟨hE0, hE1⟩ | go_keep)
              clear hK K
              try simp only [Act.put, List.setIfInBounds_toArray, List.set_cons_zero, List.set_cons_succ]
              refine wpAnyH_ready (rs := [5]) (by kernel_rfl) (by simp) ?_
              refine AllReadyH.cons rfl (fun K hK => ?_) ?_
              · refine step_appX rfl _ _ rfl w.heap.size (.slice Apq np cp) (.slice A2 x.op.length c2) vs (T.past.take j) x rfl HP1.out HO1.out rfl HNL.out hsz1 (own_apart HO1.out HP1.out.row (by decide)) ?_; intro v2 w2 hx2 hg2; obtain ⟨A3, n3, c3, rfl, hk2, hu2, hf2, hk3, hfin⟩ := give_next HX1.out HZ1.out HU1.out HOO1.out HP1.out HB1.out hgw hg0 hg1 HE1.out (by omega) (fun k hk => by have := HLO.out.2.2 k hk; omega) hx2 hg2; have HK2 := Lib.hid hk2; have HK3 := Lib.hid hk3; have HFIN := Lib.hid hfin; have HAF : Hid (ApX (.slice A1 T.now.op.length c1) (vs ++ [(x.known, .slice A2 x.op.length c2)])) := HAX.out.snoc (s := h5) HLO.out.1 HLO.out.2.1 HNEW.out; clear hx2 hg2 hk2 hk3 hfin
                refine hK.out _ _ ?_ (fun hHeld => ?_)
                · (first | exact HK3.out | exact HK2.out | exact HK1.out | exact ⟨hE0, hE1⟩ | go_keep)
                clear hK K
                try simp only [Act.put, List.setIfInBounds_toArray]
                refine wpAnyH_take (i := 6) (v := ?_) rfl (by kernel_rfl) (by kernel_rfl) (by kernel_rfl) (fun _ _ _ h => h) (Or.inl ⟨by rfl, ?_⟩) (by assumption) ?_
                rotate_left
                · ((intro wz hSw; (try dsimp only at hSw); go_simp) <;> with_reducible rfl)
                try simp only [Act.put]
                refine wpAnyH_ready (rs := [7]) (by kernel_rfl) (by simp) ?_
                refine AllReadyH.cons rfl (fun K hK => ?_) ?_
                · go_simp
                  refine hK.out _ _ ?_ (fun hHeld => ?_)
                  · (first | exact HK3.out | exact HK2.out | exact HK1.out | exact ⟨hE0, hE1⟩ | go_keep)
                  clear hK K
                  try simp only [Act.put]
                  refine wpAnyH_done (by kernel_rfl) ?_ _
                  go_wp2_with fail
                  obtain ⟨h1, h2, h3, h4, h5', h6⟩ := HFIN.out
                  rw [← HTK.out] at h5'
                  go_roundw
                  case rel => exact ⟨j + 1, _, _, by omega, by go_num, h1, h2, h3, h4, h5', HAF, h6⟩
                  case measure => simp [Go.RowKit.intOf]; omega
                exact AllReadyH.nil
              exact AllReadyH.nil
            exact AllReadyH.nil
          exact AllReadyH.nil
        refine AllReadyH.cons rfl (fun K hK => ?_) ?_
        · (go_simp; go_at_call 75; refine (iCopied x.known Ai _ ci x.op W5.drew rfl hle hxl HA5.out).mono ?_; rintro e w1 ⟨v, rfl, ho, hb⟩; obtain ⟨A2, c2, rfl, _⟩ := ho.form; have HNEW : Hid (∀ k, (Value.slice A2 x.op.length c2).ownBlock = some k → h5 ≤ k) := (fun k hk => by have := (ho.lt hk).1; have : W5.drew.heap.size = W5.heap.size := rfl; omega); have HX1 := Lib.hid ((HX5.out.drew).below hb); have HZ1 := Lib.hid ((HZ5.out.drew).below hb); have HU1 := Lib.hid ((HU5.out.drew).below hb); have HE1 := Lib.hid ((HE5.out.drew).below hb); have HOO1 := Lib.hid ((HO5.out.drewN 1).below hb); have HP1 := Lib.hid ((HP5.out.drewN 1).below hb); have HB1 := Lib.hid (bel_trans (bel_drewN HB5.out 1) hb); have hu1 := HU1.out.cell (i := 3) (v := .slice Apq np cp) rfl; have hu1L : (w1.alloc (.cells #[.int .i64 x.known, .slice A2 x.op.length c2] 25)).cell? ⟨g, 3, none⟩ = some (.slice Apq np cp) := (HU1.out.alloc _).cell rfl; have HK1 := Lib.hid (And.intro (HE1.out.cell (i := 0) (v := .int .i64 x.known) rfl) (HE1.out.cell (i := 1) (v := .slice Ai x.op.length ci) rfl)); have HO1 := Lib.hid (ho.base hs5); have hsz1 : w.heap.size ≤ w1.heap.size := HB1.out.size; clear ho hb; (try go_simp))
          refine hK.out _ _ ?_ (fun hHeld => ?_)
          · (first | exact HK3.out | exact HK2.out | exact HK1.out | exact ⟨hE0, hE1⟩ | go_keep)
          clear hK K
          try simp only [Act.put, List.setIfInBounds_toArray, List.set_cons_zero, List.set_cons_succ]
          refine wpAnyH_ready (rs := [1, 4]) (by kernel_rfl) (by simp) ?_
          refine AllReadyH.cons rfl (fun K hK => ?_) ?_
          · go_simp
            refine hK.out _ _ ?_ (fun hHeld => ?_)
            · (first | exact HK3.out | exact HK2.out | exact HK1.out | exact ⟨hE0, hE1⟩ | go_keep)
            clear hK K
            try simp only [Act.put, List.setIfInBounds_toArray, List.set_cons_zero, List.set_cons_succ]
            refine wpAnyH_ready (rs := [4]) (by kernel_rfl) (by simp) ?_
            refine AllReadyH.cons rfl (fun K hK => ?_) ?_
            · go_simp
              refine hK.out _ _ ?_ (fun hHeld => ?_)
              · (first | exact HK3.out | exact HK2.out | exact HK1.out | exact ⟨hE0, hE1⟩ | go_keep)
              clear hK K
              try simp only [Act.put, List.setIfInBounds_toArray, List.set_cons_zero, List.set_cons_succ]
              refine wpAnyH_ready (rs := [5]) (by kernel_rfl) (by simp) ?_
              refine AllReadyH.cons rfl (fun K hK => ?_) ?_
              · refine step_appX rfl _ _ rfl w.heap.size (.slice Apq np cp) (.slice A2 x.op.length c2) vs (T.past.take j) x rfl HP1.out HO1.out rfl HNL.out hsz1 (own_apart HO1.out HP1.out.row (by decide)) ?_; intro v2 w2 hx2 hg2; obtain ⟨A3, n3, c3, rfl, hk2, hu2, hf2, hk3, hfin⟩ := give_next HX1.out HZ1.out HU1.out HOO1.out HP1.out HB1.out hgw hg0 hg1 HE1.out (by omega) (fun k hk => by have := HLO.out.2.2 k hk; omega) hx2 hg2; have HK2 := Lib.hid hk2; have HK3 := Lib.hid hk3; have HFIN := Lib.hid hfin; have HAF : Hid (ApX (.slice A1 T.now.op.length c1) (vs ++ [(x.known, .slice A2 x.op.length c2)])) := HAX.out.snoc (s := h5) HLO.out.1 HLO.out.2.1 HNEW.out; clear hx2 hg2 hk2 hk3 hfin
                refine hK.out _ _ ?_ (fun hHeld => ?_)
                · (first | exact HK3.out | exact HK2.out | exact HK1.out | exact ⟨hE0, hE1⟩ | go_keep)
                clear hK K
                try simp only [Act.put, List.setIfInBounds_toArray]
                refine wpAnyH_take (i := 6) (v := ?_) rfl (by kernel_rfl) (by kernel_rfl) (by kernel_rfl) (fun _ _ _ h => h) (Or.inl ⟨by rfl, ?_⟩) (by assumption) ?_
                rotate_left
                · ((intro wz hSw; (try dsimp only at hSw); go_simp) <;> with_reducible rfl)
                try simp only [Act.put]
                refine wpAnyH_ready (rs := [7]) (by kernel_rfl) (by simp) ?_
                refine AllReadyH.cons rfl (fun K hK => ?_) ?_
                · go_simp
                  refine hK.out _ _ ?_ (fun hHeld => ?_)
                  · (first | exact HK3.out | exact HK2.out | exact HK1.out | exact ⟨hE0, hE1⟩ | go_keep)
                  clear hK K
                  try simp only [Act.put]
                  refine wpAnyH_done (by kernel_rfl) ?_ _
                  go_wp2_with fail
                  obtain ⟨h1, h2, h3, h4, h5', h6⟩ := HFIN.out
                  rw [← HTK.out] at h5'
                  go_roundw
                  case rel => exact ⟨j + 1, _, _, by omega, by go_num, h1, h2, h3, h4, h5', HAF, h6⟩
                  case measure => simp [Go.RowKit.intOf]; omega
                exact AllReadyH.nil
              exact AllReadyH.nil
            exact AllReadyH.nil
          refine AllReadyH.cons rfl (fun K hK => ?_) ?_
          · go_simp
            refine hK.out _ _ ?_ (fun hHeld => ?_)
            · (first | exact HK3.out | exact HK2.out | exact HK1.out | exact ⟨hE0, hE1⟩ | go_keep)
            clear hK K
            try simp only [Act.put, List.setIfInBounds_toArray, List.set_cons_zero, List.set_cons_succ]
            refine wpAnyH_ready (rs := [1]) (by kernel_rfl) (by simp) ?_
            refine AllReadyH.cons rfl (fun K hK => ?_) ?_
            · go_simp
              refine hK.out _ _ ?_ (fun hHeld => ?_)
              · (first | exact HK3.out | exact HK2.out | exact HK1.out | exact ⟨hE0, hE1⟩ | go_keep)
              clear hK K
              try simp only [Act.put, List.setIfInBounds_toArray, List.set_cons_zero, List.set_cons_succ]
              refine wpAnyH_ready (rs := [5]) (by kernel_rfl) (by simp) ?_
              refine AllReadyH.cons rfl (fun K hK => ?_) ?_
              · refine step_appX rfl _ _ rfl w.heap.size (.slice Apq np cp) (.slice A2 x.op.length c2) vs (T.past.take j) x rfl HP1.out HO1.out rfl HNL.out hsz1 (own_apart HO1.out HP1.out.row (by decide)) ?_; intro v2 w2 hx2 hg2; obtain ⟨A3, n3, c3, rfl, hk2, hu2, hf2, hk3, hfin⟩ := give_next HX1.out HZ1.out HU1.out HOO1.out HP1.out HB1.out hgw hg0 hg1 HE1.out (by omega) (fun k hk => by have := HLO.out.2.2 k hk; omega) hx2 hg2; have HK2 := Lib.hid hk2; have HK3 := Lib.hid hk3; have HFIN := Lib.hid hfin; have HAF : Hid (ApX (.slice A1 T.now.op.length c1) (vs ++ [(x.known, .slice A2 x.op.length c2)])) := HAX.out.snoc (s := h5) HLO.out.1 HLO.out.2.1 HNEW.out; clear hx2 hg2 hk2 hk3 hfin
                refine hK.out _ _ ?_ (fun hHeld => ?_)
                · (first | exact HK3.out | exact HK2.out | exact HK1.out | exact ⟨hE0, hE1⟩ | go_keep)
                clear hK K
                try simp only [Act.put, List.setIfInBounds_toArray]
                refine wpAnyH_take (i := 6) (v := ?_) rfl (by kernel_rfl) (by kernel_rfl) (by kernel_rfl) (fun _ _ _ h => h) (Or.inl ⟨by rfl, ?_⟩) (by assumption) ?_
                rotate_left
                · ((intro wz hSw; (try dsimp only at hSw); go_simp) <;> with_reducible rfl)
                try simp only [Act.put]
                refine wpAnyH_ready (rs := [7]) (by kernel_rfl) (by simp) ?_
                refine AllReadyH.cons rfl (fun K hK => ?_) ?_
                · go_simp
                  refine hK.out _ _ ?_ (fun hHeld => ?_)
                  · (first | exact HK3.out | exact HK2.out | exact HK1.out | exact ⟨hE0, hE1⟩ | go_keep)
                  clear hK K
                  try simp only [Act.put]
                  refine wpAnyH_done (by kernel_rfl) ?_ _
                  go_wp2_with fail
                  obtain ⟨h1, h2, h3, h4, h5', h6⟩ := HFIN.out
                  rw [← HTK.out] at h5'
                  go_roundw
                  case rel => exact ⟨j + 1, _, _, by omega, by go_num, h1, h2, h3, h4, h5', HAF, h6⟩
                  case measure => simp [Go.RowKit.intOf]; omega
                exact AllReadyH.nil
              exact AllReadyH.nil
            exact AllReadyH.nil
          exact AllReadyH.nil
        exact AllReadyH.nil
      · obtain rfl : j = T.past.length := by omega
        rw [List.take_length] at HP
        obtain ⟨Apq, cp, hpe, _, _, _, _⟩ := HP.out.form
        subst hpe
        have hu0 := HU.out.cell (i := 0) (v := .int .i64 t) rfl
        have hu1 := HU.out.cell (i := 1) (v := .int .i64 q) rfl
        have hu2 := HU.out.cell (i := 2) (v := .slice A1 T.now.op.length c1) rfl
        have hu3 := HU.out.cell (i := 3) (v := .slice Apq T.past.length cp) rfl
        obtain ⟨⟨ha0, ha1, ha2, ha3, ha4, ha5, ha6, ha7⟩, ⟨hb2, hb3⟩, ⟨hb4, hb5⟩, ⟨hb6, hb7⟩, HOUT⟩ := HZ.out.store4 (.int .i64 t) (.int .i64 q) (.slice A1 T.now.op.length c1) (.slice Apq T.past.length cp)
        have HB5 := Lib.hid (bel_set4 HB.out (show w.heap.size ≤ w.heap.size + 1 by omega) (.int .i64 t) (.int .i64 q) (.slice A1 T.now.op.length c1) (.slice Apq T.past.length cp))
        have HO5 := Lib.hid (HO.out.setBox4 HZ.out (by decide) (.int .i64 t) (.int .i64 q) (.slice A1 T.now.op.length c1) (.slice Apq T.past.length cp))
        have HP5 := Lib.hid (HP.out.setBox4 HZ.out (by decide) (by decide) (.int .i64 t) (.int .i64 q) (.slice A1 T.now.op.length c1) (.slice Apq T.past.length cp))
        go_wp2_with fail
        refine bodyPost_ret_by (results_talk (b := w.heap.size + 1) rfl rfl HOUT) rfl ⟨_, _, vs, rfl, HO5.out, HP5.out, HAX.out, HB5.out⟩
end Go.Proofs.YtmdogidflaplkaaGreat
