/-
  What the proofs of this seat's statements share (TrxX).
-/
import Derived.Deep.Cut
import Derived.Deep.CutRange
import Derived.Deep.CutBlock
import Derived.Test.YtmdogidflaplkaaGreatU42
import Derived.Test.YtmdogidflaplkaaGreatU21

namespace Go.Proofs.YtmdogidflaplkaaGreat
open Go.RowKit

/-- A talk of the call's own and a number. -/
def OwnRun (X : TalkV) (N : Nat) (W : World) (e : Ending) (w' : World) : Prop := ∃ A n c B m d vs, e = .returned (.tuple #[.agg #[.int .i64 X.things, .int .i64 X.now.known, .slice A n c, .slice B m d], .int .i64 (N : Int)]) ∧ OwnA w' W.heap.size (.slice A n c) (.slice B m d) vs X.now.op X.past ∧ Below W.heap.size W w'
theorem iTalkRun_own {T X : TalkV} {A B L : Option Addr} {n c m d ln lc N : Nat} {ds : List DeedV} {w : World} (h : Hid (runTo T ds = (X, N))) (hT : TkAt w T A n c B m d) (hs : SmallT T) (hL : DRow w L ln lc ds) (hds : ∀ x ∈ ds, x.2.size ≤ 1048576) :
    Calls Tryz.prog 17 #[.agg #[.int .i64 T.things, .int .i64 T.now.known, .slice A n c, .slice B m d], .slice L ln lc] w (OwnRun X N w) := by
  have := iTalkRun T A B L n c m d ln lc ds w hT hs hL hds
  rw [h.out] at this
  refine this.mono ?_
  rintro e w' ⟨o, p, vs, rfl, ho, hp, hap, hb⟩
  obtain ⟨A', c', B', d', rfl, rfl, _⟩ := tk_of_owns ho hp
  exact ⟨A', _, c', B', _, d', vs, rfl, ⟨ho, hp, hap⟩, hb⟩
theorem OwnsD.turns {P : Nat → Prop} {w w' : World} {base : Nat} {v : Value} {xs : List DeedV} (h : OwnsD w base v xs) (ht : Turns P w w') (hp : ∀ k, v.ownBlock = some k → ¬ P k) : OwnsD w' base v xs := rowT h ht hp
set_option linter.unusedSimpArgs false in
set_option maxRecDepth 100000 in
set_option maxHeartbeats 16000000 in
theorem wExactTalkRun (T : TalkV) (A B L : Option Addr) (n c m d ln lc : Nat) (ds : List DeedV) (w : World) (hT : TkAt w T A n c B m d) (hs : BigT T) (hln : ln = ds.length) (hlc : ln ≤ lc) (hlm : lc ≤ maxLen) (hL : Deeds w L ds) (hds : ∀ x ∈ ds, x.2.size ≤ maxLen) :
    Calls Tryz.prog 6 #[.agg #[.int .i64 T.things, .int .i64 T.now.known, .slice A n c, .slice B m d], .slice L ln lc] w fun e w' => e = .returned (.bool true) ∧ Below w.heap.size w w' := by
  subst hln
  have HX : Hid (Box (w.alloc (.cells #[.int .i64 T.things, .int .i64 T.now.known, .slice A n c, .slice B m d] 50)) w.heap.size 50 [.int .i64 T.things, .int .i64 T.now.known, .slice A n c, .slice B m d]) := Box.new w _ [.int .i64 T.things, .int .i64 T.now.known, .slice A n c, .slice B m d]
  have HB0 := Lib.hid (bel_al w (.cells #[.int .i64 T.things, .int .i64 T.now.known, .slice A n c, .slice B m d] 50))
  have HT0 := Lib.hid (hT.below HB0.out)
  have HL0 := Lib.hid (hL.below HB0.out)
  have HBG := Lib.hid hs
  have HDG := Lib.hid hds
  have HLC := Lib.hid (And.intro hlc hlm)
  clear hT hs hL hds hlc hlm
  go_enter Tryz.func6, Tryz.ntmps6
  go_upto_region 2 with fail
  obtain ⟨W0, hW0⟩ : ∃ W, w.alloc (.cells #[.int .i64 T.things, .int .i64 T.now.known, .slice A n c, .slice B m d] 50) = W := ⟨_, rfl⟩
  rw [hW0] at HX HB0 HT0 HL0 ⊢
  clear hW0
  have HQ : Hid (∀ W, Below W0.heap.size W0 W → (W.cell? ⟨w.heap.size, 0, none⟩ = some (.int .i64 T.things) ∧ W.cell? ⟨w.heap.size, 1, none⟩ = some (.int .i64 T.now.known) ∧ W.cell? ⟨w.heap.size, 2, none⟩ = some (.slice A n c) ∧ W.cell? ⟨w.heap.size, 3, none⟩ = some (.slice B m d))) := fun W hb => ⟨(HX.out.below hb).cell rfl, (HX.out.below hb).cell rfl, (HX.out.below hb).cell rfl, (HX.out.below hb).cell rfl⟩
  obtain ⟨hc0, hc1, hc2, hc3⟩ := HQ.out W0 (Below.refl _ _)
  go_wp2_with fail
  refine (lSzTalk T A B n c m d 1048576 W0 HT0.out HBG.out (by omega) (by omega)).mono ?_
  rintro e w1 ⟨⟨q, rfl, hq1, hq2, hq3⟩, hb⟩
  have HB1 := Lib.hid hb
  have HQQ := Lib.hid hq2
  clear hb hq2 hc0 hc1 hc2 hc3
  by_cases hq : q < 0
  · have hd : decide (q < 0) = true := decide_eq_true hq
    go_wp2_with fail
    go_ret
    exact ⟨rfl, bel_trans HB0.out HB1.out⟩
  have hd : decide (q < 0) = false := decide_eq_false hq
  have HS := Lib.hid (HQQ.out (by omega))
  go_wp2_with fail
  refine (lSzDeedS L ds.length lc ds q w1 rfl HLC.out.1 HLC.out.2 (HL0.out.below HB1.out) HDG.out (by omega) hq1).mono ?_
  rintro e w2 ⟨q2, rfl, hr1, hr2, hr3, hb⟩
  have HB2 := Lib.hid (bel_trans HB1.out hb)
  have HRR := Lib.hid hr2
  clear hb hr2 hd
  by_cases hqq : q2 < 0
  · have hd : decide (q2 < 0) = true := decide_eq_true hqq
    go_wp2_with fail
    go_ret
    exact ⟨rfl, bel_trans HB0.out HB2.out⟩
  have hd : decide (q2 < 0) = false := decide_eq_false hqq
  have hlen := (HRR.out (by omega)).1
  have HSZ := Lib.hid (HRR.out (by omega)).2
  obtain ⟨P, hP⟩ : ∃ P, runTo T ds = P := ⟨_, rfl⟩
  have HSX : Hid (SmallT P.1) := by unfold Hid; rw [← hP]; exact runTo_small T ds
  obtain ⟨X, N⟩ := P
  have HD := Lib.hid hP
  have HTO : Hid (∀ W, Below W0.heap.size W0 W → Calls Tryz.prog 23 #[.agg #[.int .i64 T.things, .int .i64 T.now.known, .slice A n c, .slice B m d]] W (ToPost T W)) := fun W hb => lToTalk_is (HT0.out.below hb) HS.out
  have HTD : Hid (∀ W, Below W0.heap.size W0 W → Calls Tryz.prog 29 #[.slice L ds.length lc] W fun e w' => ∃ A2 c2, e = .returned (.slice A2 ds.length c2) ∧ DRow w' A2 ds.length c2 ds ∧ OwnsD w' W.heap.size (.slice A2 ds.length c2) ds ∧ Below W.heap.size W w') := fun W hb =>
    (lToDeedS L ds.length lc ds W rfl hlen (HL0.out.below hb)).mono fun e w' ⟨v, he, ho, hb2⟩ => by
      obtain ⟨A2, c2, rfl, _⟩ := ho.form
      exact ⟨A2, c2, he, OwnsD.row ho hlen, ho, hb2⟩
  have hrr : ((N : Int) != (N : Int)) = false := by simp
  clear hP
  obtain ⟨hc0, hc1, hc2, hc3⟩ := HQ.out w2 HB2.out
  go_wp2_with fail
  refine (HTO.out _ HB2.out).mono ?_
  rintro e wa ⟨Aa, na, ca, Ba, ma, da, vsa, mida, rfl, hia, _, hb⟩
  have HBa := Lib.hid (bel_trans HB2.out hb)
  have HIa := Lib.hid hia.at_
  clear hb hia hc0 hc1 hc2 hc3 hd
  go_wp2_with fail
  refine (HTD.out _ HBa.out).mono ?_
  rintro e wb ⟨Ab, cb, rfl, hrb, _, hb⟩
  have HBb := Lib.hid (bel_trans HBa.out hb)
  have HIb := Lib.hid (HIa.out.below hb)
  have HRb := Lib.hid hrb
  clear hb hrb
  go_wp2_with fail
  refine (sTalkRun_in HD HIb.out HS.out HRb.out HSZ.out).mono ?_
  rintro e wt ⟨A5, n5, c5, B5, m5, d5, rfl, hin, hb⟩
  have HBt := Lib.hid (bel_trans HBb.out hb)
  go_upto_region 9 with fail
  have hZ := DX.new hin.at_
  have hbel := bel_al wt (.cells #[.int .i64 X.things, .int .i64 X.now.known, .slice A5 n5 c5, .slice B5 m5 d5] 28)
  have HB3 := Lib.hid (bel_trans HBt.out hbel)
  obtain ⟨h6, hh6⟩ : ∃ h6, wt.heap.size = h6 := ⟨_, rfl⟩
  obtain ⟨W3, hW3⟩ : ∃ W, wt.alloc (.cells #[.int .i64 X.things, .int .i64 X.now.known, .slice A5 n5 c5, .slice B5 m5 d5] 28) = W := ⟨_, rfl⟩
  rw [hW3] at hZ HB3
  rw [hW3]
  rw [hh6] at hZ
  try rw [hh6]
  have H6 := Lib.hid hZ
  clear hZ hbel hW3 hh6 hin hb HBa HIa HBb HIb HRb HBt
  obtain ⟨hc0, hc1, hc2, hc3⟩ := HQ.out W3 HB3.out
  go_wp2_with fail
  refine (HTO.out _ HB3.out).mono ?_
  rintro e w4 ⟨A8, n8, c8, B8, m8, d8, vs8, mid8, rfl, _, ho8, hb⟩
  have HO4 := Lib.hid ho8.ownA
  have HB4 := Lib.hid hb
  clear hc0 hc1 hc2 hc3 ho8 hb
  go_upto_region 10 with fail
  have hZ := Box.new w4 28 [.int .i64 T.things, .int .i64 T.now.known, .slice A8 n8 c8, .slice B8 m8 d8]
  have hbel := bel_al w4 (.cells #[.int .i64 T.things, .int .i64 T.now.known, .slice A8 n8 c8, .slice B8 m8 d8] 28)
  have HO5 := Lib.hid (HO4.out.below hbel)
  have HB5 := Lib.hid (bel_trans HB4.out hbel)
  obtain ⟨h8, hh8⟩ : ∃ h8, w4.heap.size = h8 := ⟨_, rfl⟩
  obtain ⟨W5, hW5⟩ : ∃ W, w4.alloc (.cells #[.int .i64 T.things, .int .i64 T.now.known, .slice A8 n8 c8, .slice B8 m8 d8] 28) = W := ⟨_, rfl⟩
  have hle : w4.heap.size ≤ W5.heap.size := by rw [← hW5]; exact hbel.size
  rw [hW5] at hZ HO5 HB5
  rw [hW5]
  rw [hh8] at hZ
  try rw [hh8]
  have HZ8 := Lib.hid hZ
  have HLT5 : Hid (∀ b, BlkT (.slice A8 n8 c8) (.slice B8 m8 d8) vs8 b → W3.heap.size ≤ b ∧ b < W5.heap.size) := fun b hb => blkt_lt HO5.out.1 HO5.out.2.1 hb
  have HL35 : Hid (W3.heap.size ≤ W5.heap.size) := HB5.out.size
  clear hZ hbel hW5 hh8 HO4 HB4 hle
  have HB5W := Lib.hid (bel_trans HB3.out HB5.out)
  go_wp2_with fail
  refine (HTD.out _ HB5W.out).mono ?_
  rintro e w5 ⟨A1, c1, rfl, hr1', ho1, hb⟩
  have HRX := Lib.hid hr1'
  have HOX := Lib.hid ho1
  have HO5b := Lib.hid (HO5.out.below hb)
  have HZ8b := Lib.hid (HZ8.out.below hb)
  have HB5b := Lib.hid (bel_trans HB5.out hb)
  have HL5b : Hid (W5.heap.size ≤ w5.heap.size) := hb.size
  have HLX : Hid (∀ b, (Value.slice A1 ds.length c1).ownBlock = some b → W5.heap.size ≤ b ∧ b < w5.heap.size) := fun b e => ho1.lt e
  clear hr1' ho1 hb
  have hc0 := HZ8b.out.cell (i := 0) (v := .int .i64 T.things) rfl
  have hc1 := HZ8b.out.cell (i := 1) (v := .int .i64 T.now.known) rfl
  have hc2 := HZ8b.out.cell (i := 2) (v := .slice A8 n8 c8) rfl
  have hc3 := HZ8b.out.cell (i := 3) (v := .slice B8 m8 d8) rfl
  go_wp2_with fail
  refine (iTalkRun_own HD HO5b.out.at_ HS.out HRX.out HSZ.out).mono ?_
  rintro e w6 ⟨A9, n9, c9, B9, m9, d9, vs9, rfl, hown, hb⟩
  have HO6 := Lib.hid (HO5b.out.below hb)
  have HZ86 := Lib.hid (HZ8b.out.below hb)
  have HOX6 := Lib.hid (HOX.out.below hb)
  have HB56 := Lib.hid (bel_trans HB5b.out hb)
  clear hc0 hc1 hc2 hc3
  go_upto_region 12 with fail
  have hZ := Box.new w6 28 [.int .i64 X.things, .int .i64 X.now.known, .slice A9 n9 c9, .slice B9 m9 d9]
  have hbel := bel_al w6 (.cells #[.int .i64 X.things, .int .i64 X.now.known, .slice A9 n9 c9, .slice B9 m9 d9] 28)
  have HG := Lib.hid (hown.below hbel)
  have HOB := Lib.hid (HO6.out.below hbel)
  have HZB := Lib.hid (HZ86.out.below hbel)
  have HOXB := Lib.hid (HOX6.out.below hbel)
  have HB36 := Lib.hid (bel_trans HB56.out hbel)
  obtain ⟨h9, hh9⟩ : ∃ h9, w6.heap.size = h9 := ⟨_, rfl⟩
  obtain ⟨W6, hW6⟩ : ∃ W, w6.alloc (.cells #[.int .i64 X.things, .int .i64 X.now.known, .slice A9 n9 c9, .slice B9 m9 d9] 28) = W := ⟨_, rfl⟩
  rw [hW6] at hZ HG HOB HZB HOXB HB36
  rw [hW6]
  rw [hh9] at hZ
  try rw [hh9]
  have H9 := Lib.hid hZ
  clear hZ hbel hW6 hh9 hown hb HO6 HZ86 HOX6 HB56 HO5b HZ8b HB5b HOX
  have H66 := Lib.hid (H6.out.below HB36.out)
  have hc0 := H9.out.cell (i := 0) (v := .int .i64 X.things) rfl
  have hc1 := H9.out.cell (i := 1) (v := .int .i64 X.now.known) rfl
  have hc2 := H9.out.cell (i := 2) (v := .slice A9 n9 c9) rfl
  have hc3 := H9.out.cell (i := 3) (v := .slice B9 m9 d9) rfl
  obtain ⟨hd0, hd1, hd2, hd3⟩ := H66.out.cells
  go_wp2_with fail
  refine (lEqTalk X A9 B9 A5 B5 n9 c9 m9 d9 n5 c5 m5 d5 _ HG.out.at_ H66.out.t HSX.out).mono ?_
  rintro e w7 ⟨rfl, hb⟩
  have H97 := Lib.hid (H9.out.below hb)
  have HG7 := Lib.hid (HG.out.below hb)
  have HB37 := Lib.hid (bel_trans HB36.out hb)
  have HO7 := Lib.hid (HOB.out.below hb)
  have HZ87 := Lib.hid (HZB.out.below hb)
  have HOX7 := Lib.hid (HOXB.out.below hb)
  clear hb hc0 hc1 hc2 hc3 hd0 hd1 hd2 hd3 H66 HB36 H9 HG HOB HZB HOXB
  go_upto_region 14 with fail
  obtain ⟨W7, hW7⟩ : ∃ W, w7 = W := ⟨_, rfl⟩
  rw [hW7] at H97 HG7 HB37 HO7 HZ87 HOX7 ⊢
  clear hW7
  have HBU : Hid (∀ W, Below W7.heap.size W7 W → Below W0.heap.size W0 W) := fun W hb => bel_trans (bel_trans HB3.out HB37.out) hb
  have HQ13 : Hid (∀ W, Below W7.heap.size W7 W → (W.cell? ⟨h8, 0, none⟩ = some (.int .i64 T.things) ∧ W.cell? ⟨h8, 1, none⟩ = some (.int .i64 T.now.known) ∧ W.cell? ⟨h8, 2, none⟩ = some (.slice A8 n8 c8) ∧ W.cell? ⟨h8, 3, none⟩ = some (.slice B8 m8 d8)) ∧ (W.cell? ⟨w.heap.size, 0, none⟩ = some (.int .i64 T.things) ∧ W.cell? ⟨w.heap.size, 1, none⟩ = some (.int .i64 T.now.known) ∧ W.cell? ⟨w.heap.size, 2, none⟩ = some (.slice A n c) ∧ W.cell? ⟨w.heap.size, 3, none⟩ = some (.slice B m d))) := fun W hb => ⟨⟨(HZ87.out.below hb).cell rfl, (HZ87.out.below hb).cell rfl, (HZ87.out.below hb).cell rfl, (HZ87.out.below hb).cell rfl⟩, HQ.out W (HBU.out W hb)⟩
  have HE13 : Hid (∀ W A6 n6 c6 B6 m6 d6, Below W7.heap.size W7 W → TkAt W T A6 n6 c6 B6 m6 d6 → Calls Tryz.prog 25 #[.agg #[.int .i64 T.things, .int .i64 T.now.known, .slice A8 n8 c8, .slice B8 m8 d8], .agg #[.int .i64 T.things, .int .i64 T.now.known, .slice A6 n6 c6, .slice B6 m6 d6]] W fun e w' => e = .returned (.bool true) ∧ Below W.heap.size W w') := fun W A6 n6 c6 B6 m6 d6 hb ht => lEqTalk T A8 B8 A6 B6 n8 c8 m8 d8 n6 c6 m6 d6 W (HO7.out.below hb).at_ ht HS.out
  obtain ⟨⟨hc0, hc1, hc2, hc3⟩, hd0, hd1, hd2, hd3⟩ := HQ13.out W7 (Below.refl _ _)
  go_cut [58] from 54 to 59 (fun s58 wx => s58 = .bool false ∧ Below W7.heap.size W7 wx)
  case first =>
    have HB : Hid (Below W7.heap.size W7 W7.drew) := bel_drewN (Below.refl _ _) 1
    refine wp_region_held_drew (S := (fun w' => (w'.cell? ⟨h8, 0, none⟩ = some (.int .i64 T.things) ∧ w'.cell? ⟨h8, 1, none⟩ = some (.int .i64 T.now.known) ∧ w'.cell? ⟨h8, 2, none⟩ = some (.slice A8 n8 c8) ∧ w'.cell? ⟨h8, 3, none⟩ = some (.slice B8 m8 d8)) ∧ (w'.cell? ⟨w.heap.size, 0, none⟩ = some (.int .i64 T.things) ∧ w'.cell? ⟨w.heap.size, 1, none⟩ = some (.int .i64 T.now.known) ∧ w'.cell? ⟨w.heap.size, 2, none⟩ = some (.slice A n c) ∧ w'.cell? ⟨w.heap.size, 3, none⟩ = some (.slice B m d)))) (by kernel_rfl) ?_ (fun hHeld => ?_)
    · exact HQ13.out _ HB.out
    obtain ⟨wd, hwd⟩ : ∃ wd, W7.drew = wd := ⟨_, rfl⟩
    rw [hwd] at HB hHeld ⊢
    clear hwd
    refine wpAnyH_take (i := 0) (v := ?_) rfl (by kernel_rfl) (by kernel_rfl) (by kernel_rfl) (fun _ _ _ h => h) (Or.inl ⟨by rfl, ?_⟩) (by assumption) ?_
    rotate_left
    · ((intro wz hSw; (try dsimp only at hSw); go_simp) <;> with_reducible rfl)
    try simp only [List.getElem_toArray, List.getElem_cons_succ, List.getElem_cons_zero, Act.put, List.setIfInBounds_toArray, List.set_cons_zero, List.set_cons_succ]
    refine wpAnyH_take (i := 1) (v := ?_) rfl (by kernel_rfl) (by kernel_rfl) (by kernel_rfl) (fun _ _ _ h => h) (Or.inl ⟨by rfl, ?_⟩) (by assumption) ?_
    rotate_left
    · ((intro wz hSw; (try dsimp only at hSw); go_simp) <;> with_reducible rfl)
    try simp only [List.getElem_toArray, List.getElem_cons_succ, List.getElem_cons_zero, Act.put, List.setIfInBounds_toArray, List.set_cons_zero, List.set_cons_succ]
    refine wpAnyH_ready (rs := [2]) (by kernel_rfl) (by simp) ?_
    refine AllReadyH.cons rfl (fun K hK => ?_) ?_
    · (go_simp; go_at_call 23; refine (HTO.out _ (HBU.out _ HB.out)).mono ?_; rintro e wA ⟨A6, n6, c6, B6, m6, d6, vs6, mid6, rfl, hi6, _, hb⟩; replace HB := Lib.hid (bel_trans HB.out hb); have HI := Lib.hid hi6.at_; clear hb hi6)
      refine hK.out _ _ ?_ (fun hHeld => ?_)
      · exact HQ13.out _ HB.out
      clear hK K
      try simp only [List.getElem_toArray, List.getElem_cons_succ, List.getElem_cons_zero, Act.put, List.setIfInBounds_toArray, List.set_cons_zero, List.set_cons_succ]
      refine wpAnyH_ready (rs := [3]) (by kernel_rfl) (by simp) ?_
      refine AllReadyH.cons rfl (fun K hK => ?_) ?_
      · (go_simp; go_at_call 25; refine (HE13.out _ _ _ _ _ _ _ HB.out HI.out).mono ?_; rintro e wE ⟨rfl, hb⟩; replace HB := Lib.hid (bel_trans HB.out hb); clear hb)
        refine hK.out _ _ ?_ (fun hHeld => ?_)
        · exact HQ13.out _ HB.out
        clear hK K
        try simp only [List.getElem_toArray, List.getElem_cons_succ, List.getElem_cons_zero, Act.put, List.setIfInBounds_toArray, List.set_cons_zero, List.set_cons_succ]
        refine wpAnyH_take (i := 4) (v := ?_) rfl (by kernel_rfl) (by kernel_rfl) (by kernel_rfl) (fun _ _ _ h => h) (Or.inl ⟨by rfl, ?_⟩) (by assumption) ?_
        rotate_left
        · ((intro wz hSw; (try dsimp only at hSw); go_simp) <;> with_reducible rfl)
        try simp only [List.getElem_toArray, List.getElem_cons_succ, List.getElem_cons_zero, Act.put, List.setIfInBounds_toArray, List.set_cons_zero, List.set_cons_succ]
        refine wpAnyH_done (by kernel_rfl) ?_ _
        go_wp2_with fail
        go_meet
        exact ⟨rfl, HB.out⟩
      exact AllReadyH.nil
    exact AllReadyH.nil
  case rest =>
    obtain ⟨rfl, hbw⟩ := hcut
    obtain ⟨W8, rfl⟩ : ∃ W, W = wc := ⟨_, rfl⟩
    have H98 := Lib.hid (H97.out.below hbw)
    have HG8 := Lib.hid (HG7.out.below hbw)
    have HO8 := Lib.hid (HO7.out.below hbw)
    have HZ88 := Lib.hid (HZ87.out.below hbw)
    have HB38 := Lib.hid (bel_trans HB37.out hbw)
    have HOX8 := Lib.hid (HOX7.out.below hbw)
    clear hbw hc0 hc1 hc2 hc3 hd0 hd1 hd2 hd3 HBU HQ13 HE13 H97 HG7 HO7 HZ87 HB37 HOX7
    go_wp2_with fail
    refine (HTD.out _ (bel_trans HB3.out HB38.out)).mono ?_
    rintro e wq ⟨Aq, cq, rfl, hrq, _, hb⟩
    replace H98 := Lib.hid (H98.out.below hb)
    replace HG8 := Lib.hid (HG8.out.below hb)
    replace HO8 := Lib.hid (HO8.out.below hb)
    replace HZ88 := Lib.hid (HZ88.out.below hb)
    replace HB38 := Lib.hid (bel_trans HB38.out hb)
    replace HOX8 := Lib.hid (HOX8.out.below hb)
    have HRQ := Lib.hid hrq
    clear hrq hb
    go_wp2_with fail
    refine (lEqDeedS A1 Aq _ _ c1 cq ds _ (OwnsD.row HOX8.out hlen) HRQ.out).mono ?_
    rintro e wr ⟨rfl, hb⟩
    replace H98 := Lib.hid (H98.out.below hb)
    replace HG8 := Lib.hid (HG8.out.below hb)
    replace HO8 := Lib.hid (HO8.out.below hb)
    replace HZ88 := Lib.hid (HZ88.out.below hb)
    replace HB38 := Lib.hid (bel_trans HB38.out hb)
    replace HOX8 := Lib.hid (HOX8.out.below hb)
    clear hb HRQ
    have hc0 := HZ88.out.cell (i := 0) (v := .int .i64 T.things) rfl
    have hc1 := HZ88.out.cell (i := 1) (v := .int .i64 T.now.known) rfl
    have hc2 := HZ88.out.cell (i := 2) (v := .slice A8 n8 c8) rfl
    have hc3 := HZ88.out.cell (i := 3) (v := .slice B8 m8 d8) rfl
    have HMK := Lib.hid (lMarkTalk T.things T.now.known T.now.op T.past A8 B8 n8 c8 m8 d8 W3.heap.size vs8 _ HO8.out.at_.hn HO8.out.at_.pn (by rw [HO8.out.at_.hn]; exact HS.out.op) (by rw [HO8.out.at_.pn]; exact HS.out.past) (fun x hx => (HS.out.ops x hx).1) HO8.out)
    obtain ⟨y, hy⟩ : ∃ y : Nat, 1 + n8 + cntX (lensX T.past) = y := ⟨_, rfl⟩
    rw [hy] at HMK
    have hn8l : n8 ≤ 1048576 := by rw [HO8.out.at_.hn]; exact HS.out.op
    have hcnt : cntX (lensX T.past) ≤ 1099512676352 := by
      have := cnt_bound (ns := lensX T.past) (by rw [lensX_len]; exact HS.out.past) (lensX_le fun x hx => (HS.out.ops x hx).1) (lensX T.past).length
      rwa [List.take_length] at this
    have hy1 : 1 ≤ y := by omega
    have hy2 : y ≤ 35184372088832 := by omega
    clear hy hcnt hn8l
    go_wp2_with fail
    refine HMK.out.mono ?_
    rintro e w9 ⟨rfl, _, _, ht⟩
    have HB39 := Lib.hid (ht.below HB38.out HB38.out.size (fun b hb => (HLT5.out b hb).1))
    have H99 := Lib.hid (H98.out.turns ht (box_blkt HO8.out H98.out (by decide) (by decide)))
    have HG9 := Lib.hid (HG8.out.turns ht (fun b h1 h2 => by have a1 := (blkt_lt HG8.out.1 HG8.out.2.1 h1).1; have a2 := (HLT5.out b h2).2; have a3 := HL5b.out; omega))
    have HOX9 := Lib.hid (HOX8.out.turns ht (fun b h1 h2 => by have a1 := (HLX.out b h1).1; have a2 := (HLT5.out b h2).2; omega))
    clear ht hc0 hc1 hc2 hc3 H98 HG8 HO8 HZ88 HB38 HMK HOX8
    have HMD := Lib.hid (lMarkDeedL W5.heap.size A1 ds.length c1 ds y _ rfl hlen hy1 hy2 HOX9.out)
    obtain ⟨y2, hy2e⟩ : ∃ y2 : Nat, y + 2 * ds.length = y2 := ⟨_, rfl⟩
    rw [hy2e] at HMD
    clear hy2e hy1 hy2
    have hyn : decide ((y2 : Int) < 0) = false := decide_eq_false (by omega)
    go_wp2_with fail
    refine HMD.out.mono ?_
    rintro e wm ⟨rfl, _, hgr⟩
    have ht := Turns.of_grown (P := fun b => (Value.slice A1 ds.length c1).ownBlock = some b) hgr (fun b e => e)
    replace HB39 := Lib.hid (ht.below HB39.out HB39.out.size (fun b hb => by have a1 := (HLX.out b hb).1; have a2 := HL35.out; omega))
    replace H99 := Lib.hid (H99.out.turns ht (fun e => box_apart H99.out HOX9.out (by decide) _ e rfl))
    replace HG9 := Lib.hid (HG9.out.turns ht (fun b h1 h2 => by have a1 := (blkt_lt HG9.out.1 HG9.out.2.1 h1).1; have a2 := (HLX.out b h2).2; omega))
    have H69 := Lib.hid (H6.out.below HB39.out)
    clear ht hgr HMD HOX9
    have hc0 := H99.out.cell (i := 0) (v := .int .i64 X.things) rfl
    have hc1 := H99.out.cell (i := 1) (v := .int .i64 X.now.known) rfl
    have hc2 := H99.out.cell (i := 2) (v := .slice A9 n9 c9) rfl
    have hc3 := H99.out.cell (i := 3) (v := .slice B9 m9 d9) rfl
    obtain ⟨hd0, hd1, hd2, hd3⟩ := H69.out.cells
    go_wp2_with fail
    refine (lEqTalk X A9 B9 A5 B5 n9 c9 m9 d9 n5 c5 m5 d5 _ HG9.out.at_ H69.out.t HSX.out).mono ?_
    rintro e w10 ⟨rfl, hb⟩
    have H910 := Lib.hid (H99.out.below hb)
    have HG10 := Lib.hid (HG9.out.below hb)
    have HB310 := Lib.hid (bel_trans HB39.out hb)
    clear hb hc0 hc1 hc2 hc3 hd0 hd1 hd2 hd3 H99 HG9 HB39 H69
    have hc0 := H910.out.cell (i := 0) (v := .int .i64 X.things) rfl
    have hc1 := H910.out.cell (i := 1) (v := .int .i64 X.now.known) rfl
    have hc2 := H910.out.cell (i := 2) (v := .slice A9 n9 c9) rfl
    have hc3 := H910.out.cell (i := 3) (v := .slice B9 m9 d9) rfl
    have hn9 := HG10.out.at_.hn
    have hm9 := HG10.out.at_.pn
    have hn9l : n9 ≤ 1048576 := by rw [hn9]; exact HSX.out.op
    have hm9l : m9 ≤ 1048576 := by rw [hm9]; exact HSX.out.past
    have HM9 : Hid (m9 = (lensX X.past).length) := by unfold Hid; rw [lensX_len]; exact hm9
    have HMK := Lib.hid (lMarkTalk X.things X.now.known X.now.op X.past A9 B9 n9 c9 m9 d9 w5.heap.size vs9 _ hn9 hm9 hn9l hm9l (fun x hx => (HSX.out.ops x hx).1) HG10.out)
    obtain ⟨z, hz⟩ : ∃ z : Nat, 1 + n9 + cntX (lensX X.past) = z := ⟨_, rfl⟩
    have HZE := Lib.hid hz
    rw [hz] at HMK
    clear hz hn9 hm9
    have hzn : decide ((z : Int) < 0) = false := decide_eq_false (by omega)
    have hzz : ((z : Int) != (z : Int)) = false := by simp
    go_wp2_with fail
    refine HMK.out.mono ?_
    rintro e w11 ⟨rfl, hos, ⟨us, hox⟩, ht⟩
    have HB311 := Lib.hid (ht.below HB310.out HB310.out.size (fun b hb => by have a1 := (blkt_lt HG10.out.1 HG10.out.2.1 hb).1; have a2 := HL35.out; have a3 := HL5b.out; omega))
    have H911 := Lib.hid (H910.out.turns ht (box_blkt HG10.out H910.out (by decide) (by decide)))
    have HMA : Hid (Strs w11 A9 (marksS 1 n9)) := strs_own hos
    have HMB : Hid (StaRow w11 B9 (marksX (1 + n9) (lensX X.past))) := sta_own hox
    clear ht hos hox hc0 hc1 hc2 hc3 HMK H910 HG10 HB310
    have HHE : Hid (∀ W, Strs W A9 (marksS 1 n9) → StaRow W B9 (marksX (1 + n9) (lensX X.past)) → Calls Tryz.prog 27 #[.agg #[.int .i64 X.things, .int .i64 X.now.known, .slice A9 n9 c9, .slice B9 m9 d9], .int .i64 1] W fun e w' => e = .returned (.int .i64 (z : Int)) ∧ Below W.heap.size W w') := fun W h1 h2 => by
      have := lHeldTalk X.things X.now.known A9 B9 n9 c9 m9 d9 (lensX X.past) W hn9l HM9.out hm9l (lensX_le fun x hx => (HSX.out.ops x hx).1) h1 h2
      rw [HZE.out] at this; exact this
    have hc0 := H911.out.cell (i := 0) (v := .int .i64 X.things) rfl
    have hc1 := H911.out.cell (i := 1) (v := .int .i64 X.now.known) rfl
    have hc2 := H911.out.cell (i := 2) (v := .slice A9 n9 c9) rfl
    have hc3 := H911.out.cell (i := 3) (v := .slice B9 m9 d9) rfl
    go_wp2_with fail
    refine (HHE.out _ HMA.out HMB.out).mono ?_
    rintro e w12 ⟨rfl, hb⟩
    have H912 := Lib.hid (H911.out.below hb)
    have HMA2 := Lib.hid (HMA.out.below hb)
    have HMB2 := Lib.hid (HMB.out.below hb)
    have HB312 := Lib.hid (bel_trans HB311.out hb)
    clear hb hc0 hc1 hc2 hc3 H911 HMA HMB HB311
    obtain ⟨hc0, hc1, hc2, hc3⟩ := HQ.out w12 (bel_trans HB3.out HB312.out)
    go_wp2_with fail
    refine (HTO.out _ (bel_trans HB3.out HB312.out)).mono ?_
    rintro e wa ⟨Aa, na, ca, Ba, ma, da, vsa, mida, rfl, hia, _, hb⟩
    have HBX := Lib.hid hb
    have HIa := Lib.hid hia.at_
    clear hb hia hc0 hc1 hc2 hc3
    go_wp2_with fail
    refine (HTD.out _ (bel_trans (bel_trans HB3.out HB312.out) HBX.out)).mono ?_
    rintro e wb ⟨Ab, cb, rfl, hrb, _, hb⟩
    replace HBX := Lib.hid (bel_trans HBX.out hb)
    have HIb := Lib.hid (HIa.out.below hb)
    have HRb := Lib.hid hrb
    clear hb hrb HIa
    go_wp2_with fail
    refine (iTalkRun_in HD HIb.out HS.out HRb.out HSZ.out).mono ?_
    rintro e wt ⟨A14, n14, c14, B14, m14, d14, rfl, hin, hb⟩
    replace HBX := Lib.hid (bel_trans HBX.out hb)
    clear HIb HRb hb
    go_upto_region 32 with fail
    have hZ := DX.new hin.at_
    have hbel := bel_al wt (.cells #[.int .i64 X.things, .int .i64 X.now.known, .slice A14 n14 c14, .slice B14 m14 d14] 28)
    replace HBX := Lib.hid (bel_trans HBX.out hbel)
    obtain ⟨h14, hh14⟩ : ∃ h14, wt.heap.size = h14 := ⟨_, rfl⟩
    obtain ⟨W10, hW10⟩ : ∃ W, wt.alloc (.cells #[.int .i64 X.things, .int .i64 X.now.known, .slice A14 n14 c14, .slice B14 m14 d14] 28) = W := ⟨_, rfl⟩
    rw [hW10] at hZ HBX
    rw [hW10]
    rw [hh14] at hZ
    try rw [hh14]
    have H14 := Lib.hid hZ
    clear hZ hbel hW10 hh14 hin
    have HB313 := Lib.hid (bel_trans HB312.out HBX.out)
    have H913 := Lib.hid (H912.out.below HBX.out)
    have HMA3 := Lib.hid (HMA2.out.below HBX.out)
    have HMB3 := Lib.hid (HMB2.out.below HBX.out)
    have H613 := Lib.hid (H6.out.below HB313.out)
    clear HBX H912 HMA2 HMB2 HB312
    obtain ⟨hc0, hc1, hc2, hc3⟩ := H14.out.cells
    obtain ⟨hd0, hd1, hd2, hd3⟩ := H613.out.cells
    go_wp2_with fail
    refine (lEqTalk X A14 B14 A5 B5 n14 c14 m14 d14 n5 c5 m5 d5 _ H14.out.t H613.out.t HSX.out).mono ?_
    rintro e w13 ⟨rfl, hb⟩
    have H914 := Lib.hid (H913.out.below hb)
    have HMA4 := Lib.hid (HMA3.out.below hb)
    have HMB4 := Lib.hid (HMB3.out.below hb)
    have HB314 := Lib.hid (bel_trans HB313.out hb)
    clear hb hc0 hc1 hc2 hc3 hd0 hd1 hd2 hd3 H913 HMA3 HMB3 HB313 H14 H613
    have hc0 := H914.out.cell (i := 0) (v := .int .i64 X.things) rfl
    have hc1 := H914.out.cell (i := 1) (v := .int .i64 X.now.known) rfl
    have hc2 := H914.out.cell (i := 2) (v := .slice A9 n9 c9) rfl
    have hc3 := H914.out.cell (i := 3) (v := .slice B9 m9 d9) rfl
    go_wp2_with fail
    refine (HHE.out _ HMA4.out HMB4.out).mono ?_
    rintro e w14 ⟨rfl, hb⟩
    have HBE := Lib.hid (bel_trans (bel_trans HB0.out HB3.out) (bel_trans HB314.out hb))
    clear hb hc0 hc1 hc2 hc3
    go_wp2_with fail
    go_ret
    exact ⟨rfl, HBE.out⟩

end Go.Proofs.YtmdogidflaplkaaGreat
