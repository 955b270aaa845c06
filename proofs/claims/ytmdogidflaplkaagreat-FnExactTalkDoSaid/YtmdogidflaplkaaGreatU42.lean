/-
  What the proofs of this seat's statements share (TdxX).
-/
import Derived.Deep.Cut
import Derived.Deep.CutRange
import Derived.Deep.CutBlock
import Derived.Test.YtmdogidflaplkaaGreatU41
import Derived.Test.YtmdogidflaplkaaGreatU38
import Derived.Test.YtmdogidflaplkaaGreatU18

namespace Go.Proofs.YtmdogidflaplkaaGreat
open Go.RowKit

theorem args_start (w : World) (a b c d e f : Value) :
    Hid (Box ((w.alloc (.cells #[a, b, c, d] 50)).alloc (.cells #[e, f] 51)) w.heap.size 50 [a, b, c, d]) ∧ Hid (Box ((w.alloc (.cells #[a, b, c, d] 50)).alloc (.cells #[e, f] 51)) (w.heap.size + 1) 51 [e, f]) ∧ Hid (Below w.heap.size w ((w.alloc (.cells #[a, b, c, d] 50)).alloc (.cells #[e, f] 51))) := by
  have h := Box.new (w.alloc (.cells #[a, b, c, d] 50)) 51 [e, f]
  rw [World.size_alloc] at h
  exact ⟨(Box.new w 50 [a, b, c, d]).alloc _, h, ((Below.refl _ _).alloc (Nat.le_refl _) _).alloc (by rw [World.size_alloc]; omega) _⟩
set_option linter.unusedSimpArgs false in
set_option maxRecDepth 100000 in
set_option maxHeartbeats 16000000 in
theorem wExactTalkDo (T : TalkV) (A B : Option Addr) (n c m d : Nat) (k : Int) (s : ByteArray) (w : World) (hT : TkAt w T A n c B m d) (hs : BigT T) (hsz : s.size ≤ maxLen) :
    Calls Tryz.prog 5 #[.agg #[.int .i64 T.things, .int .i64 T.now.known, .slice A n c, .slice B m d], .agg #[.int .i64 k, .string s]] w fun e w' => e = .returned (.bool true) ∧ Below w.heap.size w w' := by
  obtain ⟨HX, HY, HB0⟩ := args_start w (.int .i64 T.things) (.int .i64 T.now.known) (.slice A n c) (.slice B m d) (.int .i64 k) (.string s)
  have HT0 := Lib.hid (hT.below HB0.out)
  have HBG := Lib.hid hs
  unfold maxLen at hsz
  clear hT hs
  go_enter Tryz.func5, Tryz.ntmps5
  go_upto_region 2 with fail
  obtain ⟨W0, hW0⟩ : ∃ W, (w.alloc (.cells #[.int .i64 T.things, .int .i64 T.now.known, .slice A n c, .slice B m d] 50)).alloc (.cells #[.int .i64 k, .string s] 51) = W := ⟨_, rfl⟩
  rw [hW0] at HX HY HB0 HT0 ⊢
  clear hW0
  have HQ : Hid (∀ W, Below W0.heap.size W0 W → (W.cell? ⟨w.heap.size, 0, none⟩ = some (.int .i64 T.things) ∧ W.cell? ⟨w.heap.size, 1, none⟩ = some (.int .i64 T.now.known) ∧ W.cell? ⟨w.heap.size, 2, none⟩ = some (.slice A n c) ∧ W.cell? ⟨w.heap.size, 3, none⟩ = some (.slice B m d)) ∧ (W.cell? ⟨w.heap.size + 1, 0, none⟩ = some (.int .i64 k) ∧ W.cell? ⟨w.heap.size + 1, 1, none⟩ = some (.string s))) := fun W hb => ⟨⟨(HX.out.below hb).cell rfl, (HX.out.below hb).cell rfl, (HX.out.below hb).cell rfl, (HX.out.below hb).cell rfl⟩, (HY.out.below hb).cell rfl, (HY.out.below hb).cell rfl⟩
  obtain ⟨⟨hc0, hc1, hc2, hc3⟩, hc4, hc5⟩ := HQ.out W0 (Below.refl _ _)
  go_wp2_with fail
  refine (lSzTalk T A B n c m d 1048576 W0 HT0.out HBG.out (by omega) (by omega)).mono ?_
  rintro e w1 ⟨⟨q, rfl, hq1, hq2, hq3⟩, hb⟩
  have HB1 := Lib.hid hb
  have HQQ := Lib.hid hq2
  clear hb hq2 hc0 hc1 hc2 hc3 hc4 hc5
  by_cases hq : q < 0
  · have hd : decide (q < 0) = true := decide_eq_true hq
    go_wp2_with fail
    go_ret
    exact ⟨rfl, bel_trans HB0.out HB1.out⟩
  have hd : decide (q < 0) = false := decide_eq_false hq
  have HS := Lib.hid (HQQ.out (by omega))
  obtain ⟨⟨hc0, hc1, hc2, hc3⟩, hc4, hc5⟩ := HQ.out w1 HB1.out
  go_wp2_with fail
  refine (lSzDeed k s q w1 (by omega) hq1 hsz).mono ?_
  rintro e w2 ⟨q2, rfl, hr1, hr2, hr3, hb⟩
  have HB2 := Lib.hid (bel_trans HB1.out hb)
  have HRR := Lib.hid hr2
  clear hb hr2 hc0 hc1 hc2 hc3 hc4 hc5 hd
  by_cases hqq : q2 < 0
  · have hd : decide (q2 < 0) = true := decide_eq_true hqq
    go_wp2_with fail
    go_ret
    exact ⟨rfl, bel_trans HB0.out HB2.out⟩
  have hd : decide (q2 < 0) = false := decide_eq_false hqq
  have HSZ := Lib.hid (HRR.out (by omega))
  obtain ⟨P, hP⟩ : ∃ P, doTo T k s = P := ⟨_, rfl⟩
  have HSX : Hid (SmallT P.1) := by unfold Hid; rw [← hP]; exact doTo_smallT k s
  obtain ⟨X, r⟩ := P
  have HD := Lib.hid hP
  have HTO : Hid (∀ W, Below W0.heap.size W0 W → Calls Tryz.prog 23 #[.agg #[.int .i64 T.things, .int .i64 T.now.known, .slice A n c, .slice B m d]] W (ToPost T W)) := fun W hb => lToTalk_is (HT0.out.below hb) HS.out
  have HTD : Hid (∀ W : World, Calls Tryz.prog 24 #[.agg #[.int .i64 k, .string s]] W fun e w' => e = .returned (.agg #[.int .i64 k, .string s]) ∧ Below W.heap.size W w') := fun W => lToDeed k s W
  have hrr : (r != r) = false := by cases r <;> rfl
  clear hP
  go_upto_region 8 with fail
  obtain ⟨W2, hW2⟩ : ∃ W, w2 = W := ⟨_, rfl⟩
  rw [hW2] at HB2 ⊢
  clear hW2 hd hqq hq
  have HBU : Hid (∀ W, Below W2.heap.size W2 W → Below W0.heap.size W0 W) := fun W hb => bel_trans HB2.out hb
  have HQ8 : Hid (∀ W, Below W2.heap.size W2 W → (W.cell? ⟨w.heap.size, 0, none⟩ = some (.int .i64 T.things) ∧ W.cell? ⟨w.heap.size, 1, none⟩ = some (.int .i64 T.now.known) ∧ W.cell? ⟨w.heap.size, 2, none⟩ = some (.slice A n c) ∧ W.cell? ⟨w.heap.size, 3, none⟩ = some (.slice B m d)) ∧ (W.cell? ⟨w.heap.size + 1, 0, none⟩ = some (.int .i64 k) ∧ W.cell? ⟨w.heap.size + 1, 1, none⟩ = some (.string s))) := fun W hb => HQ.out W (HBU.out W hb)
  obtain ⟨⟨hc0, hc1, hc2, hc3⟩, hc4, hc5⟩ := HQ8.out W2 (Below.refl _ _)
  go_cut [6, 7] from 26 to 34 (fun s6 s7 wx => ∃ h A5 n5 c5 B5 m5 d5, s6 = .pointer (some ⟨h, 0, none⟩) ∧ s7 = .bool r ∧ (Box wx h 28 [.int .i64 X.things, .int .i64 X.now.known, .slice A5 n5 c5, .slice B5 m5 d5] ∧ TkAt wx X A5 n5 c5 B5 m5 d5) ∧ Below W2.heap.size W2 wx)
  case first =>
    have HB : Hid (Below W2.heap.size W2 W2.drew) := bel_drewN (Below.refl _ _) 1
    refine wp_region_held_drew (S := (fun w' => (w'.cell? ⟨w.heap.size, 0, none⟩ = some (.int .i64 T.things) ∧ w'.cell? ⟨w.heap.size, 1, none⟩ = some (.int .i64 T.now.known) ∧ w'.cell? ⟨w.heap.size, 2, none⟩ = some (.slice A n c) ∧ w'.cell? ⟨w.heap.size, 3, none⟩ = some (.slice B m d)) ∧ (w'.cell? ⟨w.heap.size + 1, 0, none⟩ = some (.int .i64 k) ∧ w'.cell? ⟨w.heap.size + 1, 1, none⟩ = some (.string s)))) (by kernel_rfl) ?_ (fun hHeld => ?_)
    · exact HQ8.out _ HB.out
    obtain ⟨wd, hwd⟩ : ∃ wd, W2.drew = wd := ⟨_, rfl⟩
    rw [hwd] at HB hHeld ⊢
    clear hwd
    refine wpAnyH_take (i := 0) (v := ?_) rfl (by kernel_rfl) (by kernel_rfl) (by kernel_rfl) (fun _ _ _ h => h) (Or.inl ⟨by rfl, ?_⟩) (by assumption) ?_
    rotate_left
    · ((intro wz hSw; (try dsimp only at hSw); go_simp) <;> with_reducible rfl)
    try simp only [List.getElem_toArray, List.getElem_cons_succ, List.getElem_cons_zero, Act.put, List.setIfInBounds_toArray, List.set_cons_zero, List.set_cons_succ]
    refine wpAnyH_take (i := 2) (v := ?_) rfl (by kernel_rfl) (by kernel_rfl) (by kernel_rfl) (fun _ _ _ h => h) (Or.inl ⟨by rfl, ?_⟩) (by assumption) ?_
    rotate_left
    · ((intro wz hSw; (try dsimp only at hSw); go_simp) <;> with_reducible rfl)
    try simp only [List.getElem_toArray, List.getElem_cons_succ, List.getElem_cons_zero, Act.put, List.setIfInBounds_toArray, List.set_cons_zero, List.set_cons_succ]
    refine wpAnyH_ready (rs := [1, 8]) (by kernel_rfl) (by simp) ?_
    refine AllReadyH.cons rfl (fun K hK => ?_) ?_
    · (go_simp; go_at_call 23; refine (HTO.out _ (HBU.out _ HB.out)).mono ?_; rintro e wA ⟨A6, n6, c6, B6, m6, d6, vs6, mid6, rfl, hi6, _, hb⟩; replace HB := Lib.hid (bel_trans HB.out hb); (try replace HZ := Lib.hid (HZ.out.below hb)); have HI := Lib.hid hi6.at_; clear hb hi6)
      refine hK.out _ _ ?_ (fun hHeld => ?_)
      · exact HQ8.out _ HB.out
      clear hK K
      try simp only [List.getElem_toArray, List.getElem_cons_succ, List.getElem_cons_zero, Act.put, List.setIfInBounds_toArray, List.set_cons_zero, List.set_cons_succ]
      refine wpAnyH_ready (rs := [3, 8]) (by kernel_rfl) (by simp) ?_
      refine AllReadyH.cons rfl (fun K hK => ?_) ?_
      · (go_simp; go_at_call 24; refine (HTD.out _).mono ?_; rintro e wD ⟨rfl, hb⟩; replace HB := Lib.hid (bel_trans HB.out hb); (try replace HZ := Lib.hid (HZ.out.below hb)); (try replace HI := Lib.hid (HI.out.below hb)); clear hb)
        refine hK.out _ _ ?_ (fun hHeld => ?_)
        · exact HQ8.out _ HB.out
        clear hK K
        try simp only [List.getElem_toArray, List.getElem_cons_succ, List.getElem_cons_zero, Act.put, List.setIfInBounds_toArray, List.set_cons_zero, List.set_cons_succ]
        refine wpAnyH_ready (rs := [4, 8]) (by kernel_rfl) (by simp) ?_
        refine AllReadyH.cons rfl (fun K hK => ?_) ?_
        · (go_simp; go_at_call 9; (try have hzl := HZ.out.lt); refine (sTalkDo_in HD HI.out HS.out HSZ.out).mono ?_; rintro e wT ⟨A5, n5, c5, B5, m5, d5, rfl, hown, hb⟩; replace HB := Lib.hid (bel_trans HB.out hb); (first | (replace HZ := Lib.hid (HZ.out.below hb); have HXK := Lib.hid (fun a b r q => (hown.keep (keeps_set4 hzl a b r q)).at_)) | (have HXO := Lib.hid hown.at_)); clear hb hown)
          refine hK.out _ _ ?_ (fun hHeld => ?_)
          · exact HQ8.out _ HB.out
          clear hK K
          try simp only [List.getElem_toArray, List.getElem_cons_succ, List.getElem_cons_zero, Act.put, List.setIfInBounds_toArray, List.set_cons_zero, List.set_cons_succ]
          refine wpAnyH_take (i := 5) (v := ?_) rfl (by kernel_rfl) (by kernel_rfl) (by kernel_rfl) (fun _ _ _ h => h) (Or.inl ⟨by rfl, ?_⟩) (by assumption) ?_
          rotate_left
          · ((intro wz hSw; (try dsimp only at hSw); go_simp) <;> with_reducible rfl)
          try simp only [List.getElem_toArray, List.getElem_cons_succ, List.getElem_cons_zero, Act.put, List.setIfInBounds_toArray, List.set_cons_zero, List.set_cons_succ]
          refine wpAnyH_take (i := 6) (v := ?_) rfl (by kernel_rfl) (by kernel_rfl) (by kernel_rfl) (fun _ _ _ h => h) (Or.inl ⟨by rfl, ?_⟩) (by assumption) ?_
          rotate_left
          · ((intro wz hSw; (try dsimp only at hSw); go_simp) <;> with_reducible rfl)
          try simp only [List.getElem_toArray, List.getElem_cons_succ, List.getElem_cons_zero, Act.put, List.setIfInBounds_toArray, List.set_cons_zero, List.set_cons_succ]
          refine wpAnyH_take (i := 7) (v := ?_) rfl (by kernel_rfl) (by kernel_rfl) (by kernel_rfl) (fun _ _ _ h => h) (Or.inl ⟨by rfl, ?_⟩) (by assumption) ?_
          rotate_left
          · ((intro wz hSw; (try dsimp only at hSw); go_simp) <;> with_reducible rfl)
          try simp only [List.getElem_toArray, List.getElem_cons_succ, List.getElem_cons_zero, Act.put, List.setIfInBounds_toArray, List.set_cons_zero, List.set_cons_succ]
          refine wpAnyH_ready (rs := [8]) (by kernel_rfl) (by simp) ?_
          refine AllReadyH.cons rfl (fun K hK => ?_) ?_
          · (go_simp; obtain ⟨wz, hwz, HZ, HGL, HBn, HBl⟩ := al_gen HB.out HB.out.size; rw [hwz]; (try replace HI := Lib.hid (HI.out.below HBl.out)); (try have HXK := Lib.hid (fun a b r q => at_set4z HXO.out hwz a b r q)); replace HB := HBn; clear hwz HBl)
            refine hK.out _ _ ?_ (fun hHeld => ?_)
            · exact HQ8.out _ HB.out
            clear hK K
            try simp only [List.getElem_toArray, List.getElem_cons_succ, List.getElem_cons_zero, Act.put, List.setIfInBounds_toArray, List.set_cons_zero, List.set_cons_succ]
            refine wpAnyH_ready (rs := [9]) (by kernel_rfl) (by simp) ?_
            refine AllReadyH.cons rfl (fun K hK => ?_) ?_
            · (obtain ⟨⟨ha0, ha1, ha2, ha3, ha4, ha5, ha6, ha7⟩, ⟨hb2, hb3⟩, ⟨hb4, hb5⟩, ⟨hb6, hb7⟩, HOUT⟩ := HZ.out.store4 (.int .i64 X.things) (.int .i64 X.now.known) (.slice A5 n5 c5) (.slice B5 m5 d5); have HXF := Lib.hid (HXK.out (.int .i64 X.things) (.int .i64 X.now.known) (.slice A5 n5 c5) (.slice B5 m5 d5)); replace HB := Lib.hid (bel_set4 HB.out HGL.out (.int .i64 X.things) (.int .i64 X.now.known) (.slice A5 n5 c5) (.slice B5 m5 d5)); go_simp)
              refine hK.out _ _ ?_ (fun hHeld => ?_)
              · exact HQ8.out _ HB.out
              clear hK K
              try simp only [List.getElem_toArray, List.getElem_cons_succ, List.getElem_cons_zero, Act.put, List.setIfInBounds_toArray, List.set_cons_zero, List.set_cons_succ]
              refine wpAnyH_ready (rs := [10]) (by kernel_rfl) (by simp) ?_
              refine AllReadyH.cons rfl (fun K hK => ?_) ?_
              · go_simp
                refine hK.out _ _ ?_ (fun hHeld => ?_)
                · exact HQ8.out _ HB.out
                clear hK K
                try simp only [List.getElem_toArray, List.getElem_cons_succ, List.getElem_cons_zero, Act.put, List.setIfInBounds_toArray, List.set_cons_zero, List.set_cons_succ]
                refine wpAnyH_done (by kernel_rfl) ?_ _
                go_wp2_with fail
                go_meet
                exact ⟨_, A5, n5, c5, B5, m5, d5, rfl, rfl, ⟨HOUT.out, HXF.out⟩, HB.out⟩
              exact AllReadyH.nil
            exact AllReadyH.nil
          exact AllReadyH.nil
        refine AllReadyH.cons rfl (fun K hK => ?_) ?_
        · (go_simp; obtain ⟨wz, hwz, HZ, HGL, HBn, HBl⟩ := al_gen HB.out HB.out.size; rw [hwz]; (try replace HI := Lib.hid (HI.out.below HBl.out)); (try have HXK := Lib.hid (fun a b r q => at_set4z HXO.out hwz a b r q)); replace HB := HBn; clear hwz HBl)
          refine hK.out _ _ ?_ (fun hHeld => ?_)
          · exact HQ8.out _ HB.out
          clear hK K
          try simp only [List.getElem_toArray, List.getElem_cons_succ, List.getElem_cons_zero, Act.put, List.setIfInBounds_toArray, List.set_cons_zero, List.set_cons_succ]
          refine wpAnyH_ready (rs := [4]) (by kernel_rfl) (by simp) ?_
          refine AllReadyH.cons rfl (fun K hK => ?_) ?_
          · (go_simp; go_at_call 9; (try have hzl := HZ.out.lt); refine (sTalkDo_in HD HI.out HS.out HSZ.out).mono ?_; rintro e wT ⟨A5, n5, c5, B5, m5, d5, rfl, hown, hb⟩; replace HB := Lib.hid (bel_trans HB.out hb); (first | (replace HZ := Lib.hid (HZ.out.below hb); have HXK := Lib.hid (fun a b r q => (hown.keep (keeps_set4 hzl a b r q)).at_)) | (have HXO := Lib.hid hown.at_)); clear hb hown)
            refine hK.out _ _ ?_ (fun hHeld => ?_)
            · exact HQ8.out _ HB.out
            clear hK K
            try simp only [List.getElem_toArray, List.getElem_cons_succ, List.getElem_cons_zero, Act.put, List.setIfInBounds_toArray, List.set_cons_zero, List.set_cons_succ]
            refine wpAnyH_take (i := 5) (v := ?_) rfl (by kernel_rfl) (by kernel_rfl) (by kernel_rfl) (fun _ _ _ h => h) (Or.inl ⟨by rfl, ?_⟩) (by assumption) ?_
            rotate_left
            · ((intro wz hSw; (try dsimp only at hSw); go_simp) <;> with_reducible rfl)
            try simp only [List.getElem_toArray, List.getElem_cons_succ, List.getElem_cons_zero, Act.put, List.setIfInBounds_toArray, List.set_cons_zero, List.set_cons_succ]
            refine wpAnyH_take (i := 6) (v := ?_) rfl (by kernel_rfl) (by kernel_rfl) (by kernel_rfl) (fun _ _ _ h => h) (Or.inl ⟨by rfl, ?_⟩) (by assumption) ?_
            rotate_left
            · ((intro wz hSw; (try dsimp only at hSw); go_simp) <;> with_reducible rfl)
            try simp only [List.getElem_toArray, List.getElem_cons_succ, List.getElem_cons_zero, Act.put, List.setIfInBounds_toArray, List.set_cons_zero, List.set_cons_succ]
            refine wpAnyH_take (i := 7) (v := ?_) rfl (by kernel_rfl) (by kernel_rfl) (by kernel_rfl) (fun _ _ _ h => h) (Or.inl ⟨by rfl, ?_⟩) (by assumption) ?_
            rotate_left
            · ((intro wz hSw; (try dsimp only at hSw); go_simp) <;> with_reducible rfl)
            try simp only [List.getElem_toArray, List.getElem_cons_succ, List.getElem_cons_zero, Act.put, List.setIfInBounds_toArray, List.set_cons_zero, List.set_cons_succ]
            refine wpAnyH_ready (rs := [9]) (by kernel_rfl) (by simp) ?_
            refine AllReadyH.cons rfl (fun K hK => ?_) ?_
            · (obtain ⟨⟨ha0, ha1, ha2, ha3, ha4, ha5, ha6, ha7⟩, ⟨hb2, hb3⟩, ⟨hb4, hb5⟩, ⟨hb6, hb7⟩, HOUT⟩ := HZ.out.store4 (.int .i64 X.things) (.int .i64 X.now.known) (.slice A5 n5 c5) (.slice B5 m5 d5); have HXF := Lib.hid (HXK.out (.int .i64 X.things) (.int .i64 X.now.known) (.slice A5 n5 c5) (.slice B5 m5 d5)); replace HB := Lib.hid (bel_set4 HB.out HGL.out (.int .i64 X.things) (.int .i64 X.now.known) (.slice A5 n5 c5) (.slice B5 m5 d5)); go_simp)
              refine hK.out _ _ ?_ (fun hHeld => ?_)
              · exact HQ8.out _ HB.out
              clear hK K
              try simp only [List.getElem_toArray, List.getElem_cons_succ, List.getElem_cons_zero, Act.put, List.setIfInBounds_toArray, List.set_cons_zero, List.set_cons_succ]
              refine wpAnyH_ready (rs := [10]) (by kernel_rfl) (by simp) ?_
              refine AllReadyH.cons rfl (fun K hK => ?_) ?_
              · go_simp
                refine hK.out _ _ ?_ (fun hHeld => ?_)
                · exact HQ8.out _ HB.out
                clear hK K
                try simp only [List.getElem_toArray, List.getElem_cons_succ, List.getElem_cons_zero, Act.put, List.setIfInBounds_toArray, List.set_cons_zero, List.set_cons_succ]
                refine wpAnyH_done (by kernel_rfl) ?_ _
                go_wp2_with fail
                go_meet
                exact ⟨_, A5, n5, c5, B5, m5, d5, rfl, rfl, ⟨HOUT.out, HXF.out⟩, HB.out⟩
              exact AllReadyH.nil
            exact AllReadyH.nil
          exact AllReadyH.nil
        exact AllReadyH.nil
      refine AllReadyH.cons rfl (fun K hK => ?_) ?_
      · (go_simp; obtain ⟨wz, hwz, HZ, HGL, HBn, HBl⟩ := al_gen HB.out HB.out.size; rw [hwz]; (try replace HI := Lib.hid (HI.out.below HBl.out)); (try have HXK := Lib.hid (fun a b r q => at_set4z HXO.out hwz a b r q)); replace HB := HBn; clear hwz HBl)
        refine hK.out _ _ ?_ (fun hHeld => ?_)
        · exact HQ8.out _ HB.out
        clear hK K
        try simp only [List.getElem_toArray, List.getElem_cons_succ, List.getElem_cons_zero, Act.put, List.setIfInBounds_toArray, List.set_cons_zero, List.set_cons_succ]
        refine wpAnyH_ready (rs := [3]) (by kernel_rfl) (by simp) ?_
        refine AllReadyH.cons rfl (fun K hK => ?_) ?_
        · (go_simp; go_at_call 24; refine (HTD.out _).mono ?_; rintro e wD ⟨rfl, hb⟩; replace HB := Lib.hid (bel_trans HB.out hb); (try replace HZ := Lib.hid (HZ.out.below hb)); (try replace HI := Lib.hid (HI.out.below hb)); clear hb)
          refine hK.out _ _ ?_ (fun hHeld => ?_)
          · exact HQ8.out _ HB.out
          clear hK K
          try simp only [List.getElem_toArray, List.getElem_cons_succ, List.getElem_cons_zero, Act.put, List.setIfInBounds_toArray, List.set_cons_zero, List.set_cons_succ]
          refine wpAnyH_ready (rs := [4]) (by kernel_rfl) (by simp) ?_
          refine AllReadyH.cons rfl (fun K hK => ?_) ?_
          · (go_simp; go_at_call 9; (try have hzl := HZ.out.lt); refine (sTalkDo_in HD HI.out HS.out HSZ.out).mono ?_; rintro e wT ⟨A5, n5, c5, B5, m5, d5, rfl, hown, hb⟩; replace HB := Lib.hid (bel_trans HB.out hb); (first | (replace HZ := Lib.hid (HZ.out.below hb); have HXK := Lib.hid (fun a b r q => (hown.keep (keeps_set4 hzl a b r q)).at_)) | (have HXO := Lib.hid hown.at_)); clear hb hown)
            refine hK.out _ _ ?_ (fun hHeld => ?_)
            · exact HQ8.out _ HB.out
            clear hK K
            try simp only [List.getElem_toArray, List.getElem_cons_succ, List.getElem_cons_zero, Act.put, List.setIfInBounds_toArray, List.set_cons_zero, List.set_cons_succ]
            refine wpAnyH_take (i := 5) (v := ?_) rfl (by kernel_rfl) (by kernel_rfl) (by kernel_rfl) (fun _ _ _ h => h) (Or.inl ⟨by rfl, ?_⟩) (by assumption) ?_
            rotate_left
            · ((intro wz hSw; (try dsimp only at hSw); go_simp) <;> with_reducible rfl)
            try simp only [List.getElem_toArray, List.getElem_cons_succ, List.getElem_cons_zero, Act.put, List.setIfInBounds_toArray, List.set_cons_zero, List.set_cons_succ]
            refine wpAnyH_take (i := 6) (v := ?_) rfl (by kernel_rfl) (by kernel_rfl) (by kernel_rfl) (fun _ _ _ h => h) (Or.inl ⟨by rfl, ?_⟩) (by assumption) ?_
            rotate_left
            · ((intro wz hSw; (try dsimp only at hSw); go_simp) <;> with_reducible rfl)
            try simp only [List.getElem_toArray, List.getElem_cons_succ, List.getElem_cons_zero, Act.put, List.setIfInBounds_toArray, List.set_cons_zero, List.set_cons_succ]
            refine wpAnyH_take (i := 7) (v := ?_) rfl (by kernel_rfl) (by kernel_rfl) (by kernel_rfl) (fun _ _ _ h => h) (Or.inl ⟨by rfl, ?_⟩) (by assumption) ?_
            rotate_left
            · ((intro wz hSw; (try dsimp only at hSw); go_simp) <;> with_reducible rfl)
            try simp only [List.getElem_toArray, List.getElem_cons_succ, List.getElem_cons_zero, Act.put, List.setIfInBounds_toArray, List.set_cons_zero, List.set_cons_succ]
            refine wpAnyH_ready (rs := [9]) (by kernel_rfl) (by simp) ?_
            refine AllReadyH.cons rfl (fun K hK => ?_) ?_
            · (obtain ⟨⟨ha0, ha1, ha2, ha3, ha4, ha5, ha6, ha7⟩, ⟨hb2, hb3⟩, ⟨hb4, hb5⟩, ⟨hb6, hb7⟩, HOUT⟩ := HZ.out.store4 (.int .i64 X.things) (.int .i64 X.now.known) (.slice A5 n5 c5) (.slice B5 m5 d5); have HXF := Lib.hid (HXK.out (.int .i64 X.things) (.int .i64 X.now.known) (.slice A5 n5 c5) (.slice B5 m5 d5)); replace HB := Lib.hid (bel_set4 HB.out HGL.out (.int .i64 X.things) (.int .i64 X.now.known) (.slice A5 n5 c5) (.slice B5 m5 d5)); go_simp)
              refine hK.out _ _ ?_ (fun hHeld => ?_)
              · exact HQ8.out _ HB.out
              clear hK K
              try simp only [List.getElem_toArray, List.getElem_cons_succ, List.getElem_cons_zero, Act.put, List.setIfInBounds_toArray, List.set_cons_zero, List.set_cons_succ]
              refine wpAnyH_ready (rs := [10]) (by kernel_rfl) (by simp) ?_
              refine AllReadyH.cons rfl (fun K hK => ?_) ?_
              · go_simp
                refine hK.out _ _ ?_ (fun hHeld => ?_)
                · exact HQ8.out _ HB.out
                clear hK K
                try simp only [List.getElem_toArray, List.getElem_cons_succ, List.getElem_cons_zero, Act.put, List.setIfInBounds_toArray, List.set_cons_zero, List.set_cons_succ]
                refine wpAnyH_done (by kernel_rfl) ?_ _
                go_wp2_with fail
                go_meet
                exact ⟨_, A5, n5, c5, B5, m5, d5, rfl, rfl, ⟨HOUT.out, HXF.out⟩, HB.out⟩
              exact AllReadyH.nil
            exact AllReadyH.nil
          exact AllReadyH.nil
        exact AllReadyH.nil
      exact AllReadyH.nil
    refine AllReadyH.cons rfl (fun K hK => ?_) ?_
    · (go_simp; obtain ⟨wz, hwz, HZ, HGL, HBn, HBl⟩ := al_gen HB.out HB.out.size; rw [hwz]; (try replace HI := Lib.hid (HI.out.below HBl.out)); (try have HXK := Lib.hid (fun a b r q => at_set4z HXO.out hwz a b r q)); replace HB := HBn; clear hwz HBl)
      refine hK.out _ _ ?_ (fun hHeld => ?_)
      · exact HQ8.out _ HB.out
      clear hK K
      try simp only [List.getElem_toArray, List.getElem_cons_succ, List.getElem_cons_zero, Act.put, List.setIfInBounds_toArray, List.set_cons_zero, List.set_cons_succ]
      refine wpAnyH_ready (rs := [1]) (by kernel_rfl) (by simp) ?_
      refine AllReadyH.cons rfl (fun K hK => ?_) ?_
      · (go_simp; go_at_call 23; refine (HTO.out _ (HBU.out _ HB.out)).mono ?_; rintro e wA ⟨A6, n6, c6, B6, m6, d6, vs6, mid6, rfl, hi6, _, hb⟩; replace HB := Lib.hid (bel_trans HB.out hb); (try replace HZ := Lib.hid (HZ.out.below hb)); have HI := Lib.hid hi6.at_; clear hb hi6)
        refine hK.out _ _ ?_ (fun hHeld => ?_)
        · exact HQ8.out _ HB.out
        clear hK K
        try simp only [List.getElem_toArray, List.getElem_cons_succ, List.getElem_cons_zero, Act.put, List.setIfInBounds_toArray, List.set_cons_zero, List.set_cons_succ]
        refine wpAnyH_ready (rs := [3]) (by kernel_rfl) (by simp) ?_
        refine AllReadyH.cons rfl (fun K hK => ?_) ?_
        · (go_simp; go_at_call 24; refine (HTD.out _).mono ?_; rintro e wD ⟨rfl, hb⟩; replace HB := Lib.hid (bel_trans HB.out hb); (try replace HZ := Lib.hid (HZ.out.below hb)); (try replace HI := Lib.hid (HI.out.below hb)); clear hb)
          refine hK.out _ _ ?_ (fun hHeld => ?_)
          · exact HQ8.out _ HB.out
          clear hK K
          try simp only [List.getElem_toArray, List.getElem_cons_succ, List.getElem_cons_zero, Act.put, List.setIfInBounds_toArray, List.set_cons_zero, List.set_cons_succ]
          refine wpAnyH_ready (rs := [4]) (by kernel_rfl) (by simp) ?_
          refine AllReadyH.cons rfl (fun K hK => ?_) ?_
          · (go_simp; go_at_call 9; (try have hzl := HZ.out.lt); refine (sTalkDo_in HD HI.out HS.out HSZ.out).mono ?_; rintro e wT ⟨A5, n5, c5, B5, m5, d5, rfl, hown, hb⟩; replace HB := Lib.hid (bel_trans HB.out hb); (first | (replace HZ := Lib.hid (HZ.out.below hb); have HXK := Lib.hid (fun a b r q => (hown.keep (keeps_set4 hzl a b r q)).at_)) | (have HXO := Lib.hid hown.at_)); clear hb hown)
            refine hK.out _ _ ?_ (fun hHeld => ?_)
            · exact HQ8.out _ HB.out
            clear hK K
            try simp only [List.getElem_toArray, List.getElem_cons_succ, List.getElem_cons_zero, Act.put, List.setIfInBounds_toArray, List.set_cons_zero, List.set_cons_succ]
            refine wpAnyH_take (i := 5) (v := ?_) rfl (by kernel_rfl) (by kernel_rfl) (by kernel_rfl) (fun _ _ _ h => h) (Or.inl ⟨by rfl, ?_⟩) (by assumption) ?_
            rotate_left
            · ((intro wz hSw; (try dsimp only at hSw); go_simp) <;> with_reducible rfl)
            try simp only [List.getElem_toArray, List.getElem_cons_succ, List.getElem_cons_zero, Act.put, List.setIfInBounds_toArray, List.set_cons_zero, List.set_cons_succ]
            refine wpAnyH_take (i := 6) (v := ?_) rfl (by kernel_rfl) (by kernel_rfl) (by kernel_rfl) (fun _ _ _ h => h) (Or.inl ⟨by rfl, ?_⟩) (by assumption) ?_
            rotate_left
            · ((intro wz hSw; (try dsimp only at hSw); go_simp) <;> with_reducible rfl)
            try simp only [List.getElem_toArray, List.getElem_cons_succ, List.getElem_cons_zero, Act.put, List.setIfInBounds_toArray, List.set_cons_zero, List.set_cons_succ]
            refine wpAnyH_take (i := 7) (v := ?_) rfl (by kernel_rfl) (by kernel_rfl) (by kernel_rfl) (fun _ _ _ h => h) (Or.inl ⟨by rfl, ?_⟩) (by assumption) ?_
            rotate_left
            · ((intro wz hSw; (try dsimp only at hSw); go_simp) <;> with_reducible rfl)
            try simp only [List.getElem_toArray, List.getElem_cons_succ, List.getElem_cons_zero, Act.put, List.setIfInBounds_toArray, List.set_cons_zero, List.set_cons_succ]
            refine wpAnyH_ready (rs := [9]) (by kernel_rfl) (by simp) ?_
            refine AllReadyH.cons rfl (fun K hK => ?_) ?_
            · (obtain ⟨⟨ha0, ha1, ha2, ha3, ha4, ha5, ha6, ha7⟩, ⟨hb2, hb3⟩, ⟨hb4, hb5⟩, ⟨hb6, hb7⟩, HOUT⟩ := HZ.out.store4 (.int .i64 X.things) (.int .i64 X.now.known) (.slice A5 n5 c5) (.slice B5 m5 d5); have HXF := Lib.hid (HXK.out (.int .i64 X.things) (.int .i64 X.now.known) (.slice A5 n5 c5) (.slice B5 m5 d5)); replace HB := Lib.hid (bel_set4 HB.out HGL.out (.int .i64 X.things) (.int .i64 X.now.known) (.slice A5 n5 c5) (.slice B5 m5 d5)); go_simp)
              refine hK.out _ _ ?_ (fun hHeld => ?_)
              · exact HQ8.out _ HB.out
              clear hK K
              try simp only [List.getElem_toArray, List.getElem_cons_succ, List.getElem_cons_zero, Act.put, List.setIfInBounds_toArray, List.set_cons_zero, List.set_cons_succ]
              refine wpAnyH_ready (rs := [10]) (by kernel_rfl) (by simp) ?_
              refine AllReadyH.cons rfl (fun K hK => ?_) ?_
              · go_simp
                refine hK.out _ _ ?_ (fun hHeld => ?_)
                · exact HQ8.out _ HB.out
                clear hK K
                try simp only [List.getElem_toArray, List.getElem_cons_succ, List.getElem_cons_zero, Act.put, List.setIfInBounds_toArray, List.set_cons_zero, List.set_cons_succ]
                refine wpAnyH_done (by kernel_rfl) ?_ _
                go_wp2_with fail
                go_meet
                exact ⟨_, A5, n5, c5, B5, m5, d5, rfl, rfl, ⟨HOUT.out, HXF.out⟩, HB.out⟩
              exact AllReadyH.nil
            exact AllReadyH.nil
          exact AllReadyH.nil
        exact AllReadyH.nil
      exact AllReadyH.nil
    exact AllReadyH.nil
  case rest =>
    obtain ⟨h6, A5, n5, c5, B5, m5, d5, rfl, rfl, ⟨hbx, htk⟩, hbw⟩ := hcut
    obtain ⟨W3, rfl⟩ : ∃ W, W = wc := ⟨_, rfl⟩
    have H6 : Hid (DX W3 h6 X A5 n5 c5 B5 m5 d5) := ⟨hbx, htk⟩
    have HB3 := Lib.hid (HBU.out _ hbw)
    clear hbx htk hbw hc0 hc1 hc2 hc3 hc4 hc5 HBU HQ8
    obtain ⟨⟨hc0, hc1, hc2, hc3⟩, hc4, hc5⟩ := HQ.out W3 HB3.out
    go_wp2_with fail
    refine (HTO.out _ HB3.out).mono ?_
    rintro e w4 ⟨A8, n8, c8, B8, m8, d8, vs8, mid8, rfl, _, ho8, hb⟩
    have HO4 := Lib.hid ho8.ownA
    have HB4 := Lib.hid hb
    clear hc0 hc1 hc2 hc3 hc4 hc5 ho8 hb
    go_upto_region 10 with fail
    have hZ := Box.new w4 28 [.int .i64 T.things, .int .i64 T.now.known, .slice A8 n8 c8, .slice B8 m8 d8]
    have hbel := bel_al w4 (.cells #[.int .i64 T.things, .int .i64 T.now.known, .slice A8 n8 c8, .slice B8 m8 d8] 28)
    have HO5 := Lib.hid (HO4.out.below hbel)
    have HB5 := Lib.hid (bel_trans HB4.out hbel)
    obtain ⟨h8, hh8⟩ : ∃ h8, w4.heap.size = h8 := ⟨_, rfl⟩
    obtain ⟨W5, hW5⟩ : ∃ W, w4.alloc (.cells #[.int .i64 T.things, .int .i64 T.now.known, .slice A8 n8 c8, .slice B8 m8 d8] 28) = W := ⟨_, rfl⟩
    have hle : w4.heap.size ≤ W5.heap.size := by rw [← hW5]; exact hbel.size
    rw [hW5] at hZ HO5 HB5
    rw [hW5]
    rw [hh8] at hZ
    try rw [hh8]
    have HZ8 := Lib.hid hZ
    have HLT5 : Hid (∀ b, BlkT (.slice A8 n8 c8) (.slice B8 m8 d8) vs8 b → W3.heap.size ≤ b ∧ b < W5.heap.size) := fun b hb => blkt_lt HO5.out.1 HO5.out.2.1 hb
    have HL35 : Hid (W3.heap.size ≤ W5.heap.size) := HB5.out.size
    clear hZ hbel hW5 hh8 HO4 HB4 hle
    have HB5W := Lib.hid (bel_trans HB3.out HB5.out)
    have HQ10 : Hid (∀ W, Below W5.heap.size W5 W → (W.cell? ⟨h8, 0, none⟩ = some (.int .i64 T.things) ∧ W.cell? ⟨h8, 1, none⟩ = some (.int .i64 T.now.known) ∧ W.cell? ⟨h8, 2, none⟩ = some (.slice A8 n8 c8) ∧ W.cell? ⟨h8, 3, none⟩ = some (.slice B8 m8 d8)) ∧ (W.cell? ⟨w.heap.size + 1, 0, none⟩ = some (.int .i64 k) ∧ W.cell? ⟨w.heap.size + 1, 1, none⟩ = some (.string s))) := fun W hb => ⟨⟨(HZ8.out.below hb).cell rfl, (HZ8.out.below hb).cell rfl, (HZ8.out.below hb).cell rfl, (HZ8.out.below hb).cell rfl⟩, (HQ.out W (bel_trans HB5W.out hb)).2⟩
    have HT8 : Hid (∀ W, Below W5.heap.size W5 W → TkAt W T A8 n8 c8 B8 m8 d8) := fun W hb => (HO5.out.below hb).at_
    obtain ⟨⟨hc0, hc1, hc2, hc3⟩, hc4, hc5⟩ := HQ10.out W5 (Below.refl _ _)
    go_cut [9, 10] from 36 to 43 (fun s9 s10 wx => ∃ h A9 n9 c9 B9 m9 d9 vs9, s9 = .pointer (some ⟨h, 0, none⟩) ∧ s10 = .bool r ∧ (Box wx h 28 [.int .i64 X.things, .int .i64 X.now.known, .slice A9 n9 c9, .slice B9 m9 d9] ∧ OwnA wx W5.heap.size (.slice A9 n9 c9) (.slice B9 m9 d9) vs9 X.now.op X.past) ∧ Below W5.heap.size W5 wx)
    case first =>
      have HB : Hid (Below W5.heap.size W5 W5.drew) := bel_drewN (Below.refl _ _) 1
      refine wp_region_held_drew (S := (fun w' => (w'.cell? ⟨h8, 0, none⟩ = some (.int .i64 T.things) ∧ w'.cell? ⟨h8, 1, none⟩ = some (.int .i64 T.now.known) ∧ w'.cell? ⟨h8, 2, none⟩ = some (.slice A8 n8 c8) ∧ w'.cell? ⟨h8, 3, none⟩ = some (.slice B8 m8 d8)) ∧ (w'.cell? ⟨w.heap.size + 1, 0, none⟩ = some (.int .i64 k) ∧ w'.cell? ⟨w.heap.size + 1, 1, none⟩ = some (.string s)))) (by kernel_rfl) ?_ (fun hHeld => ?_)
      · exact HQ10.out _ HB.out
      obtain ⟨wd, hwd⟩ : ∃ wd, W5.drew = wd := ⟨_, rfl⟩
      rw [hwd] at HB hHeld ⊢
      clear hwd
      refine wpAnyH_take (i := 0) (v := ?_) rfl (by kernel_rfl) (by kernel_rfl) (by kernel_rfl) (fun _ _ _ h => h) (Or.inl ⟨by rfl, ?_⟩) (by assumption) ?_
      rotate_left
      · ((intro wz hSw; (try dsimp only at hSw); go_simp) <;> with_reducible rfl)
      try simp only [List.getElem_toArray, List.getElem_cons_succ, List.getElem_cons_zero, Act.put, List.setIfInBounds_toArray, List.set_cons_zero, List.set_cons_succ]
      refine wpAnyH_take (i := 1) (v := ?_) rfl (by kernel_rfl) (by kernel_rfl) (by kernel_rfl) (fun _ _ _ h => h) (Or.inl ⟨by rfl, ?_⟩) (by assumption) ?_
      rotate_left
      · ((intro wz hSw; (try dsimp only at hSw); go_simp) <;> with_reducible rfl)
      try simp only [List.getElem_toArray, List.getElem_cons_succ, List.getElem_cons_zero, Act.put, List.setIfInBounds_toArray, List.set_cons_zero, List.set_cons_succ]
      refine wpAnyH_ready (rs := [2, 7]) (by kernel_rfl) (by simp) ?_
      refine AllReadyH.cons rfl (fun K hK => ?_) ?_
      · (go_simp; go_at_call 24; refine (HTD.out _).mono ?_; rintro e wD ⟨rfl, hb⟩; replace HB := Lib.hid (bel_trans HB.out hb); (try replace HZ := Lib.hid (HZ.out.below hb)); clear hb)
        refine hK.out _ _ ?_ (fun hHeld => ?_)
        · exact HQ10.out _ HB.out
        clear hK K
        try simp only [List.getElem_toArray, List.getElem_cons_succ, List.getElem_cons_zero, Act.put, List.setIfInBounds_toArray, List.set_cons_zero, List.set_cons_succ]
        refine wpAnyH_ready (rs := [3, 7]) (by kernel_rfl) (by simp) ?_
        refine AllReadyH.cons rfl (fun K hK => ?_) ?_
        · (go_simp; go_at_call 8; have hlo := HB.out.size; refine (iTalkDo_own HD (HT8.out _ HB.out) HS.out HSZ.out).mono ?_; rintro e wT ⟨A9, n9, c9, B9, m9, d9, vs9, rfl, hown, hb⟩; replace HB := Lib.hid (bel_trans HB.out hb); (try replace HZ := Lib.hid (HZ.out.below hb)); have HG := Lib.hid (hown.base hlo); clear hb hown)
          refine hK.out _ _ ?_ (fun hHeld => ?_)
          · exact HQ10.out _ HB.out
          clear hK K
          try simp only [List.getElem_toArray, List.getElem_cons_succ, List.getElem_cons_zero, Act.put, List.setIfInBounds_toArray, List.set_cons_zero, List.set_cons_succ]
          refine wpAnyH_take (i := 4) (v := ?_) rfl (by kernel_rfl) (by kernel_rfl) (by kernel_rfl) (fun _ _ _ h => h) (Or.inl ⟨by rfl, ?_⟩) (by assumption) ?_
          rotate_left
          · ((intro wz hSw; (try dsimp only at hSw); go_simp) <;> with_reducible rfl)
          try simp only [List.getElem_toArray, List.getElem_cons_succ, List.getElem_cons_zero, Act.put, List.setIfInBounds_toArray, List.set_cons_zero, List.set_cons_succ]
          refine wpAnyH_take (i := 5) (v := ?_) rfl (by kernel_rfl) (by kernel_rfl) (by kernel_rfl) (fun _ _ _ h => h) (Or.inl ⟨by rfl, ?_⟩) (by assumption) ?_
          rotate_left
          · ((intro wz hSw; (try dsimp only at hSw); go_simp) <;> with_reducible rfl)
          try simp only [List.getElem_toArray, List.getElem_cons_succ, List.getElem_cons_zero, Act.put, List.setIfInBounds_toArray, List.set_cons_zero, List.set_cons_succ]
          refine wpAnyH_take (i := 6) (v := ?_) rfl (by kernel_rfl) (by kernel_rfl) (by kernel_rfl) (fun _ _ _ h => h) (Or.inl ⟨by rfl, ?_⟩) (by assumption) ?_
          rotate_left
          · ((intro wz hSw; (try dsimp only at hSw); go_simp) <;> with_reducible rfl)
          try simp only [List.getElem_toArray, List.getElem_cons_succ, List.getElem_cons_zero, Act.put, List.setIfInBounds_toArray, List.set_cons_zero, List.set_cons_succ]
          refine wpAnyH_ready (rs := [7]) (by kernel_rfl) (by simp) ?_
          refine AllReadyH.cons rfl (fun K hK => ?_) ?_
          · (go_simp; obtain ⟨wz, hwz, HZ, HGL, HBn, HBl⟩ := al_gen HB.out HB.out.size; rw [hwz]; (try replace HG := Lib.hid (HG.out.below HBl.out)); replace HB := HBn; clear hwz HBl)
            refine hK.out _ _ ?_ (fun hHeld => ?_)
            · exact HQ10.out _ HB.out
            clear hK K
            try simp only [List.getElem_toArray, List.getElem_cons_succ, List.getElem_cons_zero, Act.put, List.setIfInBounds_toArray, List.set_cons_zero, List.set_cons_succ]
            refine wpAnyH_ready (rs := [8]) (by kernel_rfl) (by simp) ?_
            refine AllReadyH.cons rfl (fun K hK => ?_) ?_
            · (obtain ⟨⟨ha0, ha1, ha2, ha3, ha4, ha5, ha6, ha7⟩, ⟨hb2, hb3⟩, ⟨hb4, hb5⟩, ⟨hb6, hb7⟩, HOUT⟩ := HZ.out.store4 (.int .i64 X.things) (.int .i64 X.now.known) (.slice A9 n9 c9) (.slice B9 m9 d9); replace HG := Lib.hid (HG.out.set4 HZ.out (by decide) (by decide) (.int .i64 X.things) (.int .i64 X.now.known) (.slice A9 n9 c9) (.slice B9 m9 d9)); replace HB := Lib.hid (bel_set4 HB.out HGL.out (.int .i64 X.things) (.int .i64 X.now.known) (.slice A9 n9 c9) (.slice B9 m9 d9)); go_simp)
              refine hK.out _ _ ?_ (fun hHeld => ?_)
              · exact HQ10.out _ HB.out
              clear hK K
              try simp only [List.getElem_toArray, List.getElem_cons_succ, List.getElem_cons_zero, Act.put, List.setIfInBounds_toArray, List.set_cons_zero, List.set_cons_succ]
              refine wpAnyH_ready (rs := [9]) (by kernel_rfl) (by simp) ?_
              refine AllReadyH.cons rfl (fun K hK => ?_) ?_
              · go_simp
                refine hK.out _ _ ?_ (fun hHeld => ?_)
                · exact HQ10.out _ HB.out
                clear hK K
                try simp only [List.getElem_toArray, List.getElem_cons_succ, List.getElem_cons_zero, Act.put, List.setIfInBounds_toArray, List.set_cons_zero, List.set_cons_succ]
                refine wpAnyH_done (by kernel_rfl) ?_ _
                go_wp2_with fail
                go_meet
                exact ⟨_, A9, n9, c9, B9, m9, d9, vs9, rfl, rfl, ⟨HOUT.out, HG.out⟩, HB.out⟩
              exact AllReadyH.nil
            exact AllReadyH.nil
          exact AllReadyH.nil
        refine AllReadyH.cons rfl (fun K hK => ?_) ?_
        · (go_simp; obtain ⟨wz, hwz, HZ, HGL, HBn, HBl⟩ := al_gen HB.out HB.out.size; rw [hwz]; (try replace HG := Lib.hid (HG.out.below HBl.out)); replace HB := HBn; clear hwz HBl)
          refine hK.out _ _ ?_ (fun hHeld => ?_)
          · exact HQ10.out _ HB.out
          clear hK K
          try simp only [List.getElem_toArray, List.getElem_cons_succ, List.getElem_cons_zero, Act.put, List.setIfInBounds_toArray, List.set_cons_zero, List.set_cons_succ]
          refine wpAnyH_ready (rs := [3]) (by kernel_rfl) (by simp) ?_
          refine AllReadyH.cons rfl (fun K hK => ?_) ?_
          · (go_simp; go_at_call 8; have hlo := HB.out.size; refine (iTalkDo_own HD (HT8.out _ HB.out) HS.out HSZ.out).mono ?_; rintro e wT ⟨A9, n9, c9, B9, m9, d9, vs9, rfl, hown, hb⟩; replace HB := Lib.hid (bel_trans HB.out hb); (try replace HZ := Lib.hid (HZ.out.below hb)); have HG := Lib.hid (hown.base hlo); clear hb hown)
            refine hK.out _ _ ?_ (fun hHeld => ?_)
            · exact HQ10.out _ HB.out
            clear hK K
            try simp only [List.getElem_toArray, List.getElem_cons_succ, List.getElem_cons_zero, Act.put, List.setIfInBounds_toArray, List.set_cons_zero, List.set_cons_succ]
            refine wpAnyH_take (i := 4) (v := ?_) rfl (by kernel_rfl) (by kernel_rfl) (by kernel_rfl) (fun _ _ _ h => h) (Or.inl ⟨by rfl, ?_⟩) (by assumption) ?_
            rotate_left
            · ((intro wz hSw; (try dsimp only at hSw); go_simp) <;> with_reducible rfl)
            try simp only [List.getElem_toArray, List.getElem_cons_succ, List.getElem_cons_zero, Act.put, List.setIfInBounds_toArray, List.set_cons_zero, List.set_cons_succ]
            refine wpAnyH_take (i := 5) (v := ?_) rfl (by kernel_rfl) (by kernel_rfl) (by kernel_rfl) (fun _ _ _ h => h) (Or.inl ⟨by rfl, ?_⟩) (by assumption) ?_
            rotate_left
            · ((intro wz hSw; (try dsimp only at hSw); go_simp) <;> with_reducible rfl)
            try simp only [List.getElem_toArray, List.getElem_cons_succ, List.getElem_cons_zero, Act.put, List.setIfInBounds_toArray, List.set_cons_zero, List.set_cons_succ]
            refine wpAnyH_take (i := 6) (v := ?_) rfl (by kernel_rfl) (by kernel_rfl) (by kernel_rfl) (fun _ _ _ h => h) (Or.inl ⟨by rfl, ?_⟩) (by assumption) ?_
            rotate_left
            · ((intro wz hSw; (try dsimp only at hSw); go_simp) <;> with_reducible rfl)
            try simp only [List.getElem_toArray, List.getElem_cons_succ, List.getElem_cons_zero, Act.put, List.setIfInBounds_toArray, List.set_cons_zero, List.set_cons_succ]
            refine wpAnyH_ready (rs := [8]) (by kernel_rfl) (by simp) ?_
            refine AllReadyH.cons rfl (fun K hK => ?_) ?_
            · (obtain ⟨⟨ha0, ha1, ha2, ha3, ha4, ha5, ha6, ha7⟩, ⟨hb2, hb3⟩, ⟨hb4, hb5⟩, ⟨hb6, hb7⟩, HOUT⟩ := HZ.out.store4 (.int .i64 X.things) (.int .i64 X.now.known) (.slice A9 n9 c9) (.slice B9 m9 d9); replace HG := Lib.hid (HG.out.set4 HZ.out (by decide) (by decide) (.int .i64 X.things) (.int .i64 X.now.known) (.slice A9 n9 c9) (.slice B9 m9 d9)); replace HB := Lib.hid (bel_set4 HB.out HGL.out (.int .i64 X.things) (.int .i64 X.now.known) (.slice A9 n9 c9) (.slice B9 m9 d9)); go_simp)
              refine hK.out _ _ ?_ (fun hHeld => ?_)
              · exact HQ10.out _ HB.out
              clear hK K
              try simp only [List.getElem_toArray, List.getElem_cons_succ, List.getElem_cons_zero, Act.put, List.setIfInBounds_toArray, List.set_cons_zero, List.set_cons_succ]
              refine wpAnyH_ready (rs := [9]) (by kernel_rfl) (by simp) ?_
              refine AllReadyH.cons rfl (fun K hK => ?_) ?_
              · go_simp
                refine hK.out _ _ ?_ (fun hHeld => ?_)
                · exact HQ10.out _ HB.out
                clear hK K
                try simp only [List.getElem_toArray, List.getElem_cons_succ, List.getElem_cons_zero, Act.put, List.setIfInBounds_toArray, List.set_cons_zero, List.set_cons_succ]
                refine wpAnyH_done (by kernel_rfl) ?_ _
                go_wp2_with fail
                go_meet
                exact ⟨_, A9, n9, c9, B9, m9, d9, vs9, rfl, rfl, ⟨HOUT.out, HG.out⟩, HB.out⟩
              exact AllReadyH.nil
            exact AllReadyH.nil
          exact AllReadyH.nil
        exact AllReadyH.nil
      refine AllReadyH.cons rfl (fun K hK => ?_) ?_
      · (go_simp; obtain ⟨wz, hwz, HZ, HGL, HBn, HBl⟩ := al_gen HB.out HB.out.size; rw [hwz]; (try replace HG := Lib.hid (HG.out.below HBl.out)); replace HB := HBn; clear hwz HBl)
        refine hK.out _ _ ?_ (fun hHeld => ?_)
        · exact HQ10.out _ HB.out
        clear hK K
        try simp only [List.getElem_toArray, List.getElem_cons_succ, List.getElem_cons_zero, Act.put, List.setIfInBounds_toArray, List.set_cons_zero, List.set_cons_succ]
        refine wpAnyH_ready (rs := [2]) (by kernel_rfl) (by simp) ?_
        refine AllReadyH.cons rfl (fun K hK => ?_) ?_
        · (go_simp; go_at_call 24; refine (HTD.out _).mono ?_; rintro e wD ⟨rfl, hb⟩; replace HB := Lib.hid (bel_trans HB.out hb); (try replace HZ := Lib.hid (HZ.out.below hb)); clear hb)
          refine hK.out _ _ ?_ (fun hHeld => ?_)
          · exact HQ10.out _ HB.out
          clear hK K
          try simp only [List.getElem_toArray, List.getElem_cons_succ, List.getElem_cons_zero, Act.put, List.setIfInBounds_toArray, List.set_cons_zero, List.set_cons_succ]
          refine wpAnyH_ready (rs := [3]) (by kernel_rfl) (by simp) ?_
          refine AllReadyH.cons rfl (fun K hK => ?_) ?_
          · (go_simp; go_at_call 8; have hlo := HB.out.size; refine (iTalkDo_own HD (HT8.out _ HB.out) HS.out HSZ.out).mono ?_; rintro e wT ⟨A9, n9, c9, B9, m9, d9, vs9, rfl, hown, hb⟩; replace HB := Lib.hid (bel_trans HB.out hb); (try replace HZ := Lib.hid (HZ.out.below hb)); have HG := Lib.hid (hown.base hlo); clear hb hown)
            refine hK.out _ _ ?_ (fun hHeld => ?_)
            · exact HQ10.out _ HB.out
            clear hK K
            try simp only [List.getElem_toArray, List.getElem_cons_succ, List.getElem_cons_zero, Act.put, List.setIfInBounds_toArray, List.set_cons_zero, List.set_cons_succ]
            refine wpAnyH_take (i := 4) (v := ?_) rfl (by kernel_rfl) (by kernel_rfl) (by kernel_rfl) (fun _ _ _ h => h) (Or.inl ⟨by rfl, ?_⟩) (by assumption) ?_
            rotate_left
            · ((intro wz hSw; (try dsimp only at hSw); go_simp) <;> with_reducible rfl)
            try simp only [List.getElem_toArray, List.getElem_cons_succ, List.getElem_cons_zero, Act.put, List.setIfInBounds_toArray, List.set_cons_zero, List.set_cons_succ]
            refine wpAnyH_take (i := 5) (v := ?_) rfl (by kernel_rfl) (by kernel_rfl) (by kernel_rfl) (fun _ _ _ h => h) (Or.inl ⟨by rfl, ?_⟩) (by assumption) ?_
            rotate_left
            · ((intro wz hSw; (try dsimp only at hSw); go_simp) <;> with_reducible rfl)
            try simp only [List.getElem_toArray, List.getElem_cons_succ, List.getElem_cons_zero, Act.put, List.setIfInBounds_toArray, List.set_cons_zero, List.set_cons_succ]
            refine wpAnyH_take (i := 6) (v := ?_) rfl (by kernel_rfl) (by kernel_rfl) (by kernel_rfl) (fun _ _ _ h => h) (Or.inl ⟨by rfl, ?_⟩) (by assumption) ?_
            rotate_left
            · ((intro wz hSw; (try dsimp only at hSw); go_simp) <;> with_reducible rfl)
            try simp only [List.getElem_toArray, List.getElem_cons_succ, List.getElem_cons_zero, Act.put, List.setIfInBounds_toArray, List.set_cons_zero, List.set_cons_succ]
            refine wpAnyH_ready (rs := [8]) (by kernel_rfl) (by simp) ?_
            refine AllReadyH.cons rfl (fun K hK => ?_) ?_
            · (obtain ⟨⟨ha0, ha1, ha2, ha3, ha4, ha5, ha6, ha7⟩, ⟨hb2, hb3⟩, ⟨hb4, hb5⟩, ⟨hb6, hb7⟩, HOUT⟩ := HZ.out.store4 (.int .i64 X.things) (.int .i64 X.now.known) (.slice A9 n9 c9) (.slice B9 m9 d9); replace HG := Lib.hid (HG.out.set4 HZ.out (by decide) (by decide) (.int .i64 X.things) (.int .i64 X.now.known) (.slice A9 n9 c9) (.slice B9 m9 d9)); replace HB := Lib.hid (bel_set4 HB.out HGL.out (.int .i64 X.things) (.int .i64 X.now.known) (.slice A9 n9 c9) (.slice B9 m9 d9)); go_simp)
              refine hK.out _ _ ?_ (fun hHeld => ?_)
              · exact HQ10.out _ HB.out
              clear hK K
              try simp only [List.getElem_toArray, List.getElem_cons_succ, List.getElem_cons_zero, Act.put, List.setIfInBounds_toArray, List.set_cons_zero, List.set_cons_succ]
              refine wpAnyH_ready (rs := [9]) (by kernel_rfl) (by simp) ?_
              refine AllReadyH.cons rfl (fun K hK => ?_) ?_
              · go_simp
                refine hK.out _ _ ?_ (fun hHeld => ?_)
                · exact HQ10.out _ HB.out
                clear hK K
                try simp only [List.getElem_toArray, List.getElem_cons_succ, List.getElem_cons_zero, Act.put, List.setIfInBounds_toArray, List.set_cons_zero, List.set_cons_succ]
                refine wpAnyH_done (by kernel_rfl) ?_ _
                go_wp2_with fail
                go_meet
                exact ⟨_, A9, n9, c9, B9, m9, d9, vs9, rfl, rfl, ⟨HOUT.out, HG.out⟩, HB.out⟩
              exact AllReadyH.nil
            exact AllReadyH.nil
          exact AllReadyH.nil
        exact AllReadyH.nil
      exact AllReadyH.nil
    case rest =>
      obtain ⟨h9, A9, n9, c9, B9, m9, d9, vs9, rfl, rfl, ⟨hbx, hown⟩, hbw⟩ := hcut
      obtain ⟨W6, rfl⟩ : ∃ W, W = wc := ⟨_, rfl⟩
      have H9 := Lib.hid hbx
      have HG := Lib.hid hown
      have HB6 := Lib.hid hbw
      have HB36 := Lib.hid (bel_trans HB5.out hbw)
      clear hbx hown hbw hc0 hc1 hc2 hc3 hc4 hc5 HQ10 HT8
      have H66 := Lib.hid (H6.out.below HB36.out)
      have hc0 := H9.out.cell (i := 0) (v := .int .i64 X.things) rfl
      have hc1 := H9.out.cell (i := 1) (v := .int .i64 X.now.known) rfl
      have hc2 := H9.out.cell (i := 2) (v := .slice A9 n9 c9) rfl
      have hc3 := H9.out.cell (i := 3) (v := .slice B9 m9 d9) rfl
      obtain ⟨hd0, hd1, hd2, hd3⟩ := H66.out.cells
      go_wp2_with fail
      refine (lEqTalk X A9 B9 A5 B5 n9 c9 m9 d9 n5 c5 m5 d5 _ HG.out.at_ H66.out.t HSX.out).mono ?_
      rintro e w7 ⟨rfl, hb⟩
      have H97 := Lib.hid (H9.out.below hb)
      have HG7 := Lib.hid (HG.out.below hb)
      have HB57 := Lib.hid (bel_trans HB6.out hb)
      have HB37 := Lib.hid (bel_trans HB36.out hb)
      clear hb hc0 hc1 hc2 hc3 hd0 hd1 hd2 hd3 H66 HB36 HB6 H9 HG
      go_upto_region 13 with fail
      obtain ⟨W7, hW7⟩ : ∃ W, w7 = W := ⟨_, rfl⟩
      rw [hW7] at H97 HG7 HB57 HB37 ⊢
      clear hW7
      have HBU : Hid (∀ W, Below W7.heap.size W7 W → Below W0.heap.size W0 W) := fun W hb => bel_trans (bel_trans HB3.out HB37.out) hb
      have HZ87 := Lib.hid (HZ8.out.below HB57.out)
      have HO7 := Lib.hid (HO5.out.below HB57.out)
      have HQ13 : Hid (∀ W, Below W7.heap.size W7 W → (W.cell? ⟨h8, 0, none⟩ = some (.int .i64 T.things) ∧ W.cell? ⟨h8, 1, none⟩ = some (.int .i64 T.now.known) ∧ W.cell? ⟨h8, 2, none⟩ = some (.slice A8 n8 c8) ∧ W.cell? ⟨h8, 3, none⟩ = some (.slice B8 m8 d8)) ∧ (W.cell? ⟨w.heap.size, 0, none⟩ = some (.int .i64 T.things) ∧ W.cell? ⟨w.heap.size, 1, none⟩ = some (.int .i64 T.now.known) ∧ W.cell? ⟨w.heap.size, 2, none⟩ = some (.slice A n c) ∧ W.cell? ⟨w.heap.size, 3, none⟩ = some (.slice B m d))) := fun W hb => ⟨⟨(HZ87.out.below hb).cell rfl, (HZ87.out.below hb).cell rfl, (HZ87.out.below hb).cell rfl, (HZ87.out.below hb).cell rfl⟩, (HQ.out W (HBU.out W hb)).1⟩
      have HE13 : Hid (∀ W A6 n6 c6 B6 m6 d6, Below W7.heap.size W7 W → TkAt W T A6 n6 c6 B6 m6 d6 → Calls Tryz.prog 25 #[.agg #[.int .i64 T.things, .int .i64 T.now.known, .slice A8 n8 c8, .slice B8 m8 d8], .agg #[.int .i64 T.things, .int .i64 T.now.known, .slice A6 n6 c6, .slice B6 m6 d6]] W fun e w' => e = .returned (.bool true) ∧ Below W.heap.size W w') := fun W A6 n6 c6 B6 m6 d6 hb ht => lEqTalk T A8 B8 A6 B6 n8 c8 m8 d8 n6 c6 m6 d6 W (HO7.out.below hb).at_ ht HS.out
      obtain ⟨⟨hc0, hc1, hc2, hc3⟩, hd0, hd1, hd2, hd3⟩ := HQ13.out W7 (Below.refl _ _)
      go_cut [56] from 52 to 57 (fun s56 wx => s56 = .bool false ∧ Below W7.heap.size W7 wx)
      case first =>
        have HB : Hid (Below W7.heap.size W7 W7.drew) := bel_drewN (Below.refl _ _) 1
        refine wp_region_held_drew (S := (fun w' => (w'.cell? ⟨h8, 0, none⟩ = some (.int .i64 T.things) ∧ w'.cell? ⟨h8, 1, none⟩ = some (.int .i64 T.now.known) ∧ w'.cell? ⟨h8, 2, none⟩ = some (.slice A8 n8 c8) ∧ w'.cell? ⟨h8, 3, none⟩ = some (.slice B8 m8 d8)) ∧ (w'.cell? ⟨w.heap.size, 0, none⟩ = some (.int .i64 T.things) ∧ w'.cell? ⟨w.heap.size, 1, none⟩ = some (.int .i64 T.now.known) ∧ w'.cell? ⟨w.heap.size, 2, none⟩ = some (.slice A n c) ∧ w'.cell? ⟨w.heap.size, 3, none⟩ = some (.slice B m d)))) (by kernel_rfl) ?_ (fun hHeld => ?_)
        · exact HQ13.out _ HB.out
        obtain ⟨wd, hwd⟩ : ∃ wd, W7.drew = wd := ⟨_, rfl⟩
        rw [hwd] at HB hHeld ⊢
        clear hwd
        refine wpAnyH_take (i := 0) (v := ?_) rfl (by kernel_rfl) (by kernel_rfl) (by kernel_rfl) (fun _ _ _ h => h) (Or.inl ⟨by rfl, ?_⟩) (by assumption) ?_
        rotate_left
        · ((intro wz hSw; (try dsimp only at hSw); go_simp) <;> with_reducible rfl)
        try simp only [List.getElem_toArray, List.getElem_cons_succ, List.getElem_cons_zero, Act.put, List.setIfInBounds_toArray, List.set_cons_zero, List.set_cons_succ]
        refine wpAnyH_take (i := 1) (v := ?_) rfl (by kernel_rfl) (by kernel_rfl) (by kernel_rfl) (fun _ _ _ h => h) (Or.inl ⟨by rfl, ?_⟩) (by assumption) ?_
        rotate_left
        · ((intro wz hSw; (try dsimp only at hSw); go_simp) <;> with_reducible rfl)
        try simp only [List.getElem_toArray, List.getElem_cons_succ, List.getElem_cons_zero, Act.put, List.setIfInBounds_toArray, List.set_cons_zero, List.set_cons_succ]
        refine wpAnyH_ready (rs := [2]) (by kernel_rfl) (by simp) ?_
        refine AllReadyH.cons rfl (fun K hK => ?_) ?_
        · (go_simp; go_at_call 23; refine (HTO.out _ (HBU.out _ HB.out)).mono ?_; rintro e wA ⟨A6, n6, c6, B6, m6, d6, vs6, mid6, rfl, hi6, _, hb⟩; replace HB := Lib.hid (bel_trans HB.out hb); have HI := Lib.hid hi6.at_; clear hb hi6)
          refine hK.out _ _ ?_ (fun hHeld => ?_)
          · exact HQ13.out _ HB.out
          clear hK K
          try simp only [List.getElem_toArray, List.getElem_cons_succ, List.getElem_cons_zero, Act.put, List.setIfInBounds_toArray, List.set_cons_zero, List.set_cons_succ]
          refine wpAnyH_ready (rs := [3]) (by kernel_rfl) (by simp) ?_
          refine AllReadyH.cons rfl (fun K hK => ?_) ?_
          · (go_simp; go_at_call 25; refine (HE13.out _ _ _ _ _ _ _ HB.out HI.out).mono ?_; rintro e wE ⟨rfl, hb⟩; replace HB := Lib.hid (bel_trans HB.out hb); clear hb)
            refine hK.out _ _ ?_ (fun hHeld => ?_)
            · exact HQ13.out _ HB.out
            clear hK K
            try simp only [List.getElem_toArray, List.getElem_cons_succ, List.getElem_cons_zero, Act.put, List.setIfInBounds_toArray, List.set_cons_zero, List.set_cons_succ]
            refine wpAnyH_take (i := 4) (v := ?_) rfl (by kernel_rfl) (by kernel_rfl) (by kernel_rfl) (fun _ _ _ h => h) (Or.inl ⟨by rfl, ?_⟩) (by assumption) ?_
            rotate_left
            · ((intro wz hSw; (try dsimp only at hSw); go_simp) <;> with_reducible rfl)
            try simp only [List.getElem_toArray, List.getElem_cons_succ, List.getElem_cons_zero, Act.put, List.setIfInBounds_toArray, List.set_cons_zero, List.set_cons_succ]
            refine wpAnyH_done (by kernel_rfl) ?_ _
            go_wp2_with fail
            go_meet
            exact ⟨rfl, HB.out⟩
          exact AllReadyH.nil
        exact AllReadyH.nil
      case rest =>
        obtain ⟨rfl, hbw⟩ := hcut
        obtain ⟨W8, rfl⟩ : ∃ W, W = wc := ⟨_, rfl⟩
        have H98 := Lib.hid (H97.out.below hbw)
        have HG8 := Lib.hid (HG7.out.below hbw)
        have HO8 := Lib.hid (HO7.out.below hbw)
        have HZ88 := Lib.hid (HZ87.out.below hbw)
        have HB38 := Lib.hid (bel_trans HB37.out hbw)
        clear hbw hc0 hc1 hc2 hc3 hd0 hd1 hd2 hd3 HBU HQ13 HE13 H97 HG7 HO7 HZ87 HB37 HB57
        have hc0 := HZ88.out.cell (i := 0) (v := .int .i64 T.things) rfl
        have hc1 := HZ88.out.cell (i := 1) (v := .int .i64 T.now.known) rfl
        have hc2 := HZ88.out.cell (i := 2) (v := .slice A8 n8 c8) rfl
        have hc3 := HZ88.out.cell (i := 3) (v := .slice B8 m8 d8) rfl
        have HMK := Lib.hid (lMarkTalk T.things T.now.known T.now.op T.past A8 B8 n8 c8 m8 d8 W3.heap.size vs8 W8 HO8.out.at_.hn HO8.out.at_.pn (by rw [HO8.out.at_.hn]; exact HS.out.op) (by rw [HO8.out.at_.pn]; exact HS.out.past) (fun x hx => (HS.out.ops x hx).1) HO8.out)
        obtain ⟨y, hy⟩ : ∃ y : Nat, 1 + n8 + cntX (lensX T.past) = y := ⟨_, rfl⟩
        rw [hy] at HMK
        clear hy
        have hyn : decide ((y : Int) < 0) = false := decide_eq_false (by omega)
        go_wp2_with fail
        refine HMK.out.mono ?_
        rintro e w9 ⟨rfl, _, _, ht⟩
        have HB39 := Lib.hid (ht.below HB38.out HB38.out.size (fun b hb => (HLT5.out b hb).1))
        have H99 := Lib.hid (H98.out.turns ht (box_blkt HO8.out H98.out (by decide) (by decide)))
        have HG9 := Lib.hid (HG8.out.turns ht (fun b h1 h2 => by have a1 := (blkt_lt HG8.out.1 HG8.out.2.1 h1).1; have a2 := (HLT5.out b h2).2; omega))
        have H69 := Lib.hid (H6.out.below HB39.out)
        clear ht hc0 hc1 hc2 hc3 H98 HG8 HO8 HZ88 HB38 HMK
        have hc0 := H99.out.cell (i := 0) (v := .int .i64 X.things) rfl
        have hc1 := H99.out.cell (i := 1) (v := .int .i64 X.now.known) rfl
        have hc2 := H99.out.cell (i := 2) (v := .slice A9 n9 c9) rfl
        have hc3 := H99.out.cell (i := 3) (v := .slice B9 m9 d9) rfl
        obtain ⟨hd0, hd1, hd2, hd3⟩ := H69.out.cells
        go_wp2_with fail
        refine (lEqTalk X A9 B9 A5 B5 n9 c9 m9 d9 n5 c5 m5 d5 _ HG9.out.at_ H69.out.t HSX.out).mono ?_
        rintro e w10 ⟨rfl, hb⟩
        have H910 := Lib.hid (H99.out.below hb)
        have HG10 := Lib.hid (HG9.out.below hb)
        have HB310 := Lib.hid (bel_trans HB39.out hb)
        clear hb hc0 hc1 hc2 hc3 hd0 hd1 hd2 hd3 H99 HG9 HB39 H69
        have hc0 := H910.out.cell (i := 0) (v := .int .i64 X.things) rfl
        have hc1 := H910.out.cell (i := 1) (v := .int .i64 X.now.known) rfl
        have hc2 := H910.out.cell (i := 2) (v := .slice A9 n9 c9) rfl
        have hc3 := H910.out.cell (i := 3) (v := .slice B9 m9 d9) rfl
        have hn9 := HG10.out.at_.hn
        have hm9 := HG10.out.at_.pn
        have hn9l : n9 ≤ 1048576 := by rw [hn9]; exact HSX.out.op
        have hm9l : m9 ≤ 1048576 := by rw [hm9]; exact HSX.out.past
        have HM9 : Hid (m9 = (lensX X.past).length) := by unfold Hid; rw [lensX_len]; exact hm9
        have HMK := Lib.hid (lMarkTalk X.things X.now.known X.now.op X.past A9 B9 n9 c9 m9 d9 W5.heap.size vs9 _ hn9 hm9 hn9l hm9l (fun x hx => (HSX.out.ops x hx).1) HG10.out)
        obtain ⟨z, hz⟩ : ∃ z : Nat, 1 + n9 + cntX (lensX X.past) = z := ⟨_, rfl⟩
        have HZE := Lib.hid hz
        rw [hz] at HMK
        clear hz hn9 hm9
        have hzn : decide ((z : Int) < 0) = false := decide_eq_false (by omega)
        have hzz : ((z : Int) != (z : Int)) = false := by simp
        go_wp2_with fail
        refine HMK.out.mono ?_
        rintro e w11 ⟨rfl, hos, ⟨us, hox⟩, ht⟩
        have HB311 := Lib.hid (ht.below HB310.out HB310.out.size (fun b hb => by have a1 := (blkt_lt HG10.out.1 HG10.out.2.1 hb).1; have a2 := HL35.out; omega))
        have H911 := Lib.hid (H910.out.turns ht (box_blkt HG10.out H910.out (by decide) (by decide)))
        have HMA : Hid (Strs w11 A9 (marksS 1 n9)) := strs_own hos
        have HMB : Hid (StaRow w11 B9 (marksX (1 + n9) (lensX X.past))) := sta_own hox
        clear ht hos hox hc0 hc1 hc2 hc3 HMK H910 HG10 HB310
        have HHE : Hid (∀ W, Strs W A9 (marksS 1 n9) → StaRow W B9 (marksX (1 + n9) (lensX X.past)) → Calls Tryz.prog 27 #[.agg #[.int .i64 X.things, .int .i64 X.now.known, .slice A9 n9 c9, .slice B9 m9 d9], .int .i64 1] W fun e w' => e = .returned (.int .i64 (z : Int)) ∧ Below W.heap.size W w') := fun W h1 h2 => by
          have := lHeldTalk X.things X.now.known A9 B9 n9 c9 m9 d9 (lensX X.past) W hn9l HM9.out hm9l (lensX_le fun x hx => (HSX.out.ops x hx).1) h1 h2
          rw [HZE.out] at this; exact this
        have hc0 := H911.out.cell (i := 0) (v := .int .i64 X.things) rfl
        have hc1 := H911.out.cell (i := 1) (v := .int .i64 X.now.known) rfl
        have hc2 := H911.out.cell (i := 2) (v := .slice A9 n9 c9) rfl
        have hc3 := H911.out.cell (i := 3) (v := .slice B9 m9 d9) rfl
        go_wp2_with fail
        refine (HHE.out _ HMA.out HMB.out).mono ?_
        rintro e w12 ⟨rfl, hb⟩
        have H912 := Lib.hid (H911.out.below hb)
        have HMA2 := Lib.hid (HMA.out.below hb)
        have HMB2 := Lib.hid (HMB.out.below hb)
        have HB312 := Lib.hid (bel_trans HB311.out hb)
        clear hb hc0 hc1 hc2 hc3 H911 HMA HMB HB311
        go_upto_region 27 with fail
        obtain ⟨W9, hW9⟩ : ∃ W, w12 = W := ⟨_, rfl⟩
        rw [hW9] at H912 HMA2 HMB2 HB312 ⊢
        clear hW9
        have HBU : Hid (∀ W, Below W9.heap.size W9 W → Below W0.heap.size W0 W) := fun W hb => bel_trans (bel_trans HB3.out HB312.out) hb
        have HQ27 : Hid (∀ W, Below W9.heap.size W9 W → (W.cell? ⟨w.heap.size, 0, none⟩ = some (.int .i64 T.things) ∧ W.cell? ⟨w.heap.size, 1, none⟩ = some (.int .i64 T.now.known) ∧ W.cell? ⟨w.heap.size, 2, none⟩ = some (.slice A n c) ∧ W.cell? ⟨w.heap.size, 3, none⟩ = some (.slice B m d)) ∧ (W.cell? ⟨w.heap.size + 1, 0, none⟩ = some (.int .i64 k) ∧ W.cell? ⟨w.heap.size + 1, 1, none⟩ = some (.string s))) := fun W hb => HQ.out W (HBU.out W hb)
        obtain ⟨⟨hc0, hc1, hc2, hc3⟩, hc4, hc5⟩ := HQ27.out W9 (Below.refl _ _)
        go_cut [14, 15] from 84 to 92 (fun s14 s15 wx => ∃ h A5 n5 c5 B5 m5 d5, s14 = .pointer (some ⟨h, 0, none⟩) ∧ s15 = .bool r ∧ (Box wx h 28 [.int .i64 X.things, .int .i64 X.now.known, .slice A5 n5 c5, .slice B5 m5 d5] ∧ TkAt wx X A5 n5 c5 B5 m5 d5) ∧ Below W9.heap.size W9 wx)
        case first =>
          have HB : Hid (Below W9.heap.size W9 W9.drew) := bel_drewN (Below.refl _ _) 1
          refine wp_region_held_drew (S := (fun w' => (w'.cell? ⟨w.heap.size, 0, none⟩ = some (.int .i64 T.things) ∧ w'.cell? ⟨w.heap.size, 1, none⟩ = some (.int .i64 T.now.known) ∧ w'.cell? ⟨w.heap.size, 2, none⟩ = some (.slice A n c) ∧ w'.cell? ⟨w.heap.size, 3, none⟩ = some (.slice B m d)) ∧ (w'.cell? ⟨w.heap.size + 1, 0, none⟩ = some (.int .i64 k) ∧ w'.cell? ⟨w.heap.size + 1, 1, none⟩ = some (.string s)))) (by kernel_rfl) ?_ (fun hHeld => ?_)
          · exact HQ27.out _ HB.out
          obtain ⟨wd, hwd⟩ : ∃ wd, W9.drew = wd := ⟨_, rfl⟩
          rw [hwd] at HB hHeld ⊢
          clear hwd
          refine wpAnyH_take (i := 0) (v := ?_) rfl (by kernel_rfl) (by kernel_rfl) (by kernel_rfl) (fun _ _ _ h => h) (Or.inl ⟨by rfl, ?_⟩) (by assumption) ?_
          rotate_left
          · ((intro wz hSw; (try dsimp only at hSw); go_simp) <;> with_reducible rfl)
          try simp only [List.getElem_toArray, List.getElem_cons_succ, List.getElem_cons_zero, Act.put, List.setIfInBounds_toArray, List.set_cons_zero, List.set_cons_succ]
          refine wpAnyH_take (i := 2) (v := ?_) rfl (by kernel_rfl) (by kernel_rfl) (by kernel_rfl) (fun _ _ _ h => h) (Or.inl ⟨by rfl, ?_⟩) (by assumption) ?_
          rotate_left
          · ((intro wz hSw; (try dsimp only at hSw); go_simp) <;> with_reducible rfl)
          try simp only [List.getElem_toArray, List.getElem_cons_succ, List.getElem_cons_zero, Act.put, List.setIfInBounds_toArray, List.set_cons_zero, List.set_cons_succ]
          refine wpAnyH_ready (rs := [1, 8]) (by kernel_rfl) (by simp) ?_
          refine AllReadyH.cons rfl (fun K hK => ?_) ?_
          · (go_simp; go_at_call 23; refine (HTO.out _ (HBU.out _ HB.out)).mono ?_; rintro e wA ⟨A6, n6, c6, B6, m6, d6, vs6, mid6, rfl, hi6, _, hb⟩; replace HB := Lib.hid (bel_trans HB.out hb); (try replace HZ := Lib.hid (HZ.out.below hb)); have HI := Lib.hid hi6.at_; clear hb hi6)
            refine hK.out _ _ ?_ (fun hHeld => ?_)
            · exact HQ27.out _ HB.out
            clear hK K
            try simp only [List.getElem_toArray, List.getElem_cons_succ, List.getElem_cons_zero, Act.put, List.setIfInBounds_toArray, List.set_cons_zero, List.set_cons_succ]
            refine wpAnyH_ready (rs := [3, 8]) (by kernel_rfl) (by simp) ?_
            refine AllReadyH.cons rfl (fun K hK => ?_) ?_
            · (go_simp; go_at_call 24; refine (HTD.out _).mono ?_; rintro e wD ⟨rfl, hb⟩; replace HB := Lib.hid (bel_trans HB.out hb); (try replace HZ := Lib.hid (HZ.out.below hb)); (try replace HI := Lib.hid (HI.out.below hb)); clear hb)
              refine hK.out _ _ ?_ (fun hHeld => ?_)
              · exact HQ27.out _ HB.out
              clear hK K
              try simp only [List.getElem_toArray, List.getElem_cons_succ, List.getElem_cons_zero, Act.put, List.setIfInBounds_toArray, List.set_cons_zero, List.set_cons_succ]
              refine wpAnyH_ready (rs := [4, 8]) (by kernel_rfl) (by simp) ?_
              refine AllReadyH.cons rfl (fun K hK => ?_) ?_
              · (go_simp; go_at_call 8; (try have hzl := HZ.out.lt); refine (iTalkDo_in HD HI.out HS.out HSZ.out).mono ?_; rintro e wT ⟨A5, n5, c5, B5, m5, d5, rfl, hown, hb⟩; replace HB := Lib.hid (bel_trans HB.out hb); (first | (replace HZ := Lib.hid (HZ.out.below hb); have HXK := Lib.hid (fun a b r q => (hown.keep (keeps_set4 hzl a b r q)).at_)) | (have HXO := Lib.hid hown.at_)); clear hb hown)
                refine hK.out _ _ ?_ (fun hHeld => ?_)
                · exact HQ27.out _ HB.out
                clear hK K
                try simp only [List.getElem_toArray, List.getElem_cons_succ, List.getElem_cons_zero, Act.put, List.setIfInBounds_toArray, List.set_cons_zero, List.set_cons_succ]
                refine wpAnyH_take (i := 5) (v := ?_) rfl (by kernel_rfl) (by kernel_rfl) (by kernel_rfl) (fun _ _ _ h => h) (Or.inl ⟨by rfl, ?_⟩) (by assumption) ?_
                rotate_left
                · ((intro wz hSw; (try dsimp only at hSw); go_simp) <;> with_reducible rfl)
                try simp only [List.getElem_toArray, List.getElem_cons_succ, List.getElem_cons_zero, Act.put, List.setIfInBounds_toArray, List.set_cons_zero, List.set_cons_succ]
                refine wpAnyH_take (i := 6) (v := ?_) rfl (by kernel_rfl) (by kernel_rfl) (by kernel_rfl) (fun _ _ _ h => h) (Or.inl ⟨by rfl, ?_⟩) (by assumption) ?_
                rotate_left
                · ((intro wz hSw; (try dsimp only at hSw); go_simp) <;> with_reducible rfl)
                try simp only [List.getElem_toArray, List.getElem_cons_succ, List.getElem_cons_zero, Act.put, List.setIfInBounds_toArray, List.set_cons_zero, List.set_cons_succ]
                refine wpAnyH_take (i := 7) (v := ?_) rfl (by kernel_rfl) (by kernel_rfl) (by kernel_rfl) (fun _ _ _ h => h) (Or.inl ⟨by rfl, ?_⟩) (by assumption) ?_
                rotate_left
                · ((intro wz hSw; (try dsimp only at hSw); go_simp) <;> with_reducible rfl)
                try simp only [List.getElem_toArray, List.getElem_cons_succ, List.getElem_cons_zero, Act.put, List.setIfInBounds_toArray, List.set_cons_zero, List.set_cons_succ]
                refine wpAnyH_ready (rs := [8]) (by kernel_rfl) (by simp) ?_
                refine AllReadyH.cons rfl (fun K hK => ?_) ?_
                · (go_simp; obtain ⟨wz, hwz, HZ, HGL, HBn, HBl⟩ := al_gen HB.out HB.out.size; rw [hwz]; (try replace HI := Lib.hid (HI.out.below HBl.out)); (try have HXK := Lib.hid (fun a b r q => at_set4z HXO.out hwz a b r q)); replace HB := HBn; clear hwz HBl)
                  refine hK.out _ _ ?_ (fun hHeld => ?_)
                  · exact HQ27.out _ HB.out
                  clear hK K
                  try simp only [List.getElem_toArray, List.getElem_cons_succ, List.getElem_cons_zero, Act.put, List.setIfInBounds_toArray, List.set_cons_zero, List.set_cons_succ]
                  refine wpAnyH_ready (rs := [9]) (by kernel_rfl) (by simp) ?_
                  refine AllReadyH.cons rfl (fun K hK => ?_) ?_
                  · (obtain ⟨⟨ha0, ha1, ha2, ha3, ha4, ha5, ha6, ha7⟩, ⟨hb2, hb3⟩, ⟨hb4, hb5⟩, ⟨hb6, hb7⟩, HOUT⟩ := HZ.out.store4 (.int .i64 X.things) (.int .i64 X.now.known) (.slice A5 n5 c5) (.slice B5 m5 d5); have HXF := Lib.hid (HXK.out (.int .i64 X.things) (.int .i64 X.now.known) (.slice A5 n5 c5) (.slice B5 m5 d5)); replace HB := Lib.hid (bel_set4 HB.out HGL.out (.int .i64 X.things) (.int .i64 X.now.known) (.slice A5 n5 c5) (.slice B5 m5 d5)); go_simp)
                    refine hK.out _ _ ?_ (fun hHeld => ?_)
                    · exact HQ27.out _ HB.out
                    clear hK K
                    try simp only [List.getElem_toArray, List.getElem_cons_succ, List.getElem_cons_zero, Act.put, List.setIfInBounds_toArray, List.set_cons_zero, List.set_cons_succ]
                    refine wpAnyH_ready (rs := [10]) (by kernel_rfl) (by simp) ?_
                    refine AllReadyH.cons rfl (fun K hK => ?_) ?_
                    · go_simp
                      refine hK.out _ _ ?_ (fun hHeld => ?_)
                      · exact HQ27.out _ HB.out
                      clear hK K
                      try simp only [List.getElem_toArray, List.getElem_cons_succ, List.getElem_cons_zero, Act.put, List.setIfInBounds_toArray, List.set_cons_zero, List.set_cons_succ]
                      refine wpAnyH_done (by kernel_rfl) ?_ _
                      go_wp2_with fail
                      go_meet
                      exact ⟨_, A5, n5, c5, B5, m5, d5, rfl, rfl, ⟨HOUT.out, HXF.out⟩, HB.out⟩
                    exact AllReadyH.nil
                  exact AllReadyH.nil
                exact AllReadyH.nil
              refine AllReadyH.cons rfl (fun K hK => ?_) ?_
              · (go_simp; obtain ⟨wz, hwz, HZ, HGL, HBn, HBl⟩ := al_gen HB.out HB.out.size; rw [hwz]; (try replace HI := Lib.hid (HI.out.below HBl.out)); (try have HXK := Lib.hid (fun a b r q => at_set4z HXO.out hwz a b r q)); replace HB := HBn; clear hwz HBl)
                refine hK.out _ _ ?_ (fun hHeld => ?_)
                · exact HQ27.out _ HB.out
                clear hK K
                try simp only [List.getElem_toArray, List.getElem_cons_succ, List.getElem_cons_zero, Act.put, List.setIfInBounds_toArray, List.set_cons_zero, List.set_cons_succ]
                refine wpAnyH_ready (rs := [4]) (by kernel_rfl) (by simp) ?_
                refine AllReadyH.cons rfl (fun K hK => ?_) ?_
                · (go_simp; go_at_call 8; (try have hzl := HZ.out.lt); refine (iTalkDo_in HD HI.out HS.out HSZ.out).mono ?_; rintro e wT ⟨A5, n5, c5, B5, m5, d5, rfl, hown, hb⟩; replace HB := Lib.hid (bel_trans HB.out hb); (first | (replace HZ := Lib.hid (HZ.out.below hb); have HXK := Lib.hid (fun a b r q => (hown.keep (keeps_set4 hzl a b r q)).at_)) | (have HXO := Lib.hid hown.at_)); clear hb hown)
                  refine hK.out _ _ ?_ (fun hHeld => ?_)
                  · exact HQ27.out _ HB.out
                  clear hK K
                  try simp only [List.getElem_toArray, List.getElem_cons_succ, List.getElem_cons_zero, Act.put, List.setIfInBounds_toArray, List.set_cons_zero, List.set_cons_succ]
                  refine wpAnyH_take (i := 5) (v := ?_) rfl (by kernel_rfl) (by kernel_rfl) (by kernel_rfl) (fun _ _ _ h => h) (Or.inl ⟨by rfl, ?_⟩) (by assumption) ?_
                  rotate_left
                  · ((intro wz hSw; (try dsimp only at hSw); go_simp) <;> with_reducible rfl)
                  try simp only [List.getElem_toArray, List.getElem_cons_succ, List.getElem_cons_zero, Act.put, List.setIfInBounds_toArray, List.set_cons_zero, List.set_cons_succ]
                  refine wpAnyH_take (i := 6) (v := ?_) rfl (by kernel_rfl) (by kernel_rfl) (by kernel_rfl) (fun _ _ _ h => h) (Or.inl ⟨by rfl, ?_⟩) (by assumption) ?_
                  rotate_left
                  · ((intro wz hSw; (try dsimp only at hSw); go_simp) <;> with_reducible rfl)
                  try simp only [List.getElem_toArray, List.getElem_cons_succ, List.getElem_cons_zero, Act.put, List.setIfInBounds_toArray, List.set_cons_zero, List.set_cons_succ]
                  refine wpAnyH_take (i := 7) (v := ?_) rfl (by kernel_rfl) (by kernel_rfl) (by kernel_rfl) (fun _ _ _ h => h) (Or.inl ⟨by rfl, ?_⟩) (by assumption) ?_
                  rotate_left
                  · ((intro wz hSw; (try dsimp only at hSw); go_simp) <;> with_reducible rfl)
                  try simp only [List.getElem_toArray, List.getElem_cons_succ, List.getElem_cons_zero, Act.put, List.setIfInBounds_toArray, List.set_cons_zero, List.set_cons_succ]
                  refine wpAnyH_ready (rs := [9]) (by kernel_rfl) (by simp) ?_
                  refine AllReadyH.cons rfl (fun K hK => ?_) ?_
                  · (obtain ⟨⟨ha0, ha1, ha2, ha3, ha4, ha5, ha6, ha7⟩, ⟨hb2, hb3⟩, ⟨hb4, hb5⟩, ⟨hb6, hb7⟩, HOUT⟩ := HZ.out.store4 (.int .i64 X.things) (.int .i64 X.now.known) (.slice A5 n5 c5) (.slice B5 m5 d5); have HXF := Lib.hid (HXK.out (.int .i64 X.things) (.int .i64 X.now.known) (.slice A5 n5 c5) (.slice B5 m5 d5)); replace HB := Lib.hid (bel_set4 HB.out HGL.out (.int .i64 X.things) (.int .i64 X.now.known) (.slice A5 n5 c5) (.slice B5 m5 d5)); go_simp)
                    refine hK.out _ _ ?_ (fun hHeld => ?_)
                    · exact HQ27.out _ HB.out
                    clear hK K
                    try simp only [List.getElem_toArray, List.getElem_cons_succ, List.getElem_cons_zero, Act.put, List.setIfInBounds_toArray, List.set_cons_zero, List.set_cons_succ]
                    refine wpAnyH_ready (rs := [10]) (by kernel_rfl) (by simp) ?_
                    refine AllReadyH.cons rfl (fun K hK => ?_) ?_
                    · go_simp
                      refine hK.out _ _ ?_ (fun hHeld => ?_)
                      · exact HQ27.out _ HB.out
                      clear hK K
                      try simp only [List.getElem_toArray, List.getElem_cons_succ, List.getElem_cons_zero, Act.put, List.setIfInBounds_toArray, List.set_cons_zero, List.set_cons_succ]
                      refine wpAnyH_done (by kernel_rfl) ?_ _
                      go_wp2_with fail
                      go_meet
                      exact ⟨_, A5, n5, c5, B5, m5, d5, rfl, rfl, ⟨HOUT.out, HXF.out⟩, HB.out⟩
                    exact AllReadyH.nil
                  exact AllReadyH.nil
                exact AllReadyH.nil
              exact AllReadyH.nil
            refine AllReadyH.cons rfl (fun K hK => ?_) ?_
            · (go_simp; obtain ⟨wz, hwz, HZ, HGL, HBn, HBl⟩ := al_gen HB.out HB.out.size; rw [hwz]; (try replace HI := Lib.hid (HI.out.below HBl.out)); (try have HXK := Lib.hid (fun a b r q => at_set4z HXO.out hwz a b r q)); replace HB := HBn; clear hwz HBl)
              refine hK.out _ _ ?_ (fun hHeld => ?_)
              · exact HQ27.out _ HB.out
              clear hK K
              try simp only [List.getElem_toArray, List.getElem_cons_succ, List.getElem_cons_zero, Act.put, List.setIfInBounds_toArray, List.set_cons_zero, List.set_cons_succ]
              refine wpAnyH_ready (rs := [3]) (by kernel_rfl) (by simp) ?_
              refine AllReadyH.cons rfl (fun K hK => ?_) ?_
              · (go_simp; go_at_call 24; refine (HTD.out _).mono ?_; rintro e wD ⟨rfl, hb⟩; replace HB := Lib.hid (bel_trans HB.out hb); (try replace HZ := Lib.hid (HZ.out.below hb)); (try replace HI := Lib.hid (HI.out.below hb)); clear hb)
                refine hK.out _ _ ?_ (fun hHeld => ?_)
                · exact HQ27.out _ HB.out
                clear hK K
                try simp only [List.getElem_toArray, List.getElem_cons_succ, List.getElem_cons_zero, Act.put, List.setIfInBounds_toArray, List.set_cons_zero, List.set_cons_succ]
                refine wpAnyH_ready (rs := [4]) (by kernel_rfl) (by simp) ?_
                refine AllReadyH.cons rfl (fun K hK => ?_) ?_
                · (go_simp; go_at_call 8; (try have hzl := HZ.out.lt); refine (iTalkDo_in HD HI.out HS.out HSZ.out).mono ?_; rintro e wT ⟨A5, n5, c5, B5, m5, d5, rfl, hown, hb⟩; replace HB := Lib.hid (bel_trans HB.out hb); (first | (replace HZ := Lib.hid (HZ.out.below hb); have HXK := Lib.hid (fun a b r q => (hown.keep (keeps_set4 hzl a b r q)).at_)) | (have HXO := Lib.hid hown.at_)); clear hb hown)
                  refine hK.out _ _ ?_ (fun hHeld => ?_)
                  · exact HQ27.out _ HB.out
                  clear hK K
                  try simp only [List.getElem_toArray, List.getElem_cons_succ, List.getElem_cons_zero, Act.put, List.setIfInBounds_toArray, List.set_cons_zero, List.set_cons_succ]
                  refine wpAnyH_take (i := 5) (v := ?_) rfl (by kernel_rfl) (by kernel_rfl) (by kernel_rfl) (fun _ _ _ h => h) (Or.inl ⟨by rfl, ?_⟩) (by assumption) ?_
                  rotate_left
                  · ((intro wz hSw; (try dsimp only at hSw); go_simp) <;> with_reducible rfl)
                  try simp only [List.getElem_toArray, List.getElem_cons_succ, List.getElem_cons_zero, Act.put, List.setIfInBounds_toArray, List.set_cons_zero, List.set_cons_succ]
                  refine wpAnyH_take (i := 6) (v := ?_) rfl (by kernel_rfl) (by kernel_rfl) (by kernel_rfl) (fun _ _ _ h => h) (Or.inl ⟨by rfl, ?_⟩) (by assumption) ?_
                  rotate_left
                  · ((intro wz hSw; (try dsimp only at hSw); go_simp) <;> with_reducible rfl)
                  try simp only [List.getElem_toArray, List.getElem_cons_succ, List.getElem_cons_zero, Act.put, List.setIfInBounds_toArray, List.set_cons_zero, List.set_cons_succ]
                  refine wpAnyH_take (i := 7) (v := ?_) rfl (by kernel_rfl) (by kernel_rfl) (by kernel_rfl) (fun _ _ _ h => h) (Or.inl ⟨by rfl, ?_⟩) (by assumption) ?_
                  rotate_left
                  · ((intro wz hSw; (try dsimp only at hSw); go_simp) <;> with_reducible rfl)
                  try simp only [List.getElem_toArray, List.getElem_cons_succ, List.getElem_cons_zero, Act.put, List.setIfInBounds_toArray, List.set_cons_zero, List.set_cons_succ]
                  refine wpAnyH_ready (rs := [9]) (by kernel_rfl) (by simp) ?_
                  refine AllReadyH.cons rfl (fun K hK => ?_) ?_
                  · (obtain ⟨⟨ha0, ha1, ha2, ha3, ha4, ha5, ha6, ha7⟩, ⟨hb2, hb3⟩, ⟨hb4, hb5⟩, ⟨hb6, hb7⟩, HOUT⟩ := HZ.out.store4 (.int .i64 X.things) (.int .i64 X.now.known) (.slice A5 n5 c5) (.slice B5 m5 d5); have HXF := Lib.hid (HXK.out (.int .i64 X.things) (.int .i64 X.now.known) (.slice A5 n5 c5) (.slice B5 m5 d5)); replace HB := Lib.hid (bel_set4 HB.out HGL.out (.int .i64 X.things) (.int .i64 X.now.known) (.slice A5 n5 c5) (.slice B5 m5 d5)); go_simp)
                    refine hK.out _ _ ?_ (fun hHeld => ?_)
                    · exact HQ27.out _ HB.out
                    clear hK K
                    try simp only [List.getElem_toArray, List.getElem_cons_succ, List.getElem_cons_zero, Act.put, List.setIfInBounds_toArray, List.set_cons_zero, List.set_cons_succ]
                    refine wpAnyH_ready (rs := [10]) (by kernel_rfl) (by simp) ?_
                    refine AllReadyH.cons rfl (fun K hK => ?_) ?_
                    · go_simp
                      refine hK.out _ _ ?_ (fun hHeld => ?_)
                      · exact HQ27.out _ HB.out
                      clear hK K
                      try simp only [List.getElem_toArray, List.getElem_cons_succ, List.getElem_cons_zero, Act.put, List.setIfInBounds_toArray, List.set_cons_zero, List.set_cons_succ]
                      refine wpAnyH_done (by kernel_rfl) ?_ _
                      go_wp2_with fail
                      go_meet
                      exact ⟨_, A5, n5, c5, B5, m5, d5, rfl, rfl, ⟨HOUT.out, HXF.out⟩, HB.out⟩
                    exact AllReadyH.nil
                  exact AllReadyH.nil
                exact AllReadyH.nil
              exact AllReadyH.nil
            exact AllReadyH.nil
          refine AllReadyH.cons rfl (fun K hK => ?_) ?_
          · (go_simp; obtain ⟨wz, hwz, HZ, HGL, HBn, HBl⟩ := al_gen HB.out HB.out.size; rw [hwz]; (try replace HI := Lib.hid (HI.out.below HBl.out)); (try have HXK := Lib.hid (fun a b r q => at_set4z HXO.out hwz a b r q)); replace HB := HBn; clear hwz HBl)
            refine hK.out _ _ ?_ (fun hHeld => ?_)
            · exact HQ27.out _ HB.out
            clear hK K
            try simp only [List.getElem_toArray, List.getElem_cons_succ, List.getElem_cons_zero, Act.put, List.setIfInBounds_toArray, List.set_cons_zero, List.set_cons_succ]
            refine wpAnyH_ready (rs := [1]) (by kernel_rfl) (by simp) ?_
            refine AllReadyH.cons rfl (fun K hK => ?_) ?_
            · (go_simp; go_at_call 23; refine (HTO.out _ (HBU.out _ HB.out)).mono ?_; rintro e wA ⟨A6, n6, c6, B6, m6, d6, vs6, mid6, rfl, hi6, _, hb⟩; replace HB := Lib.hid (bel_trans HB.out hb); (try replace HZ := Lib.hid (HZ.out.below hb)); have HI := Lib.hid hi6.at_; clear hb hi6)
              refine hK.out _ _ ?_ (fun hHeld => ?_)
              · exact HQ27.out _ HB.out
              clear hK K
              try simp only [List.getElem_toArray, List.getElem_cons_succ, List.getElem_cons_zero, Act.put, List.setIfInBounds_toArray, List.set_cons_zero, List.set_cons_succ]
              refine wpAnyH_ready (rs := [3]) (by kernel_rfl) (by simp) ?_
              refine AllReadyH.cons rfl (fun K hK => ?_) ?_
              · (go_simp; go_at_call 24; refine (HTD.out _).mono ?_; rintro e wD ⟨rfl, hb⟩; replace HB := Lib.hid (bel_trans HB.out hb); (try replace HZ := Lib.hid (HZ.out.below hb)); (try replace HI := Lib.hid (HI.out.below hb)); clear hb)
                refine hK.out _ _ ?_ (fun hHeld => ?_)
                · exact HQ27.out _ HB.out
                clear hK K
                try simp only [List.getElem_toArray, List.getElem_cons_succ, List.getElem_cons_zero, Act.put, List.setIfInBounds_toArray, List.set_cons_zero, List.set_cons_succ]
                refine wpAnyH_ready (rs := [4]) (by kernel_rfl) (by simp) ?_
                refine AllReadyH.cons rfl (fun K hK => ?_) ?_
                · (go_simp; go_at_call 8; (try have hzl := HZ.out.lt); refine (iTalkDo_in HD HI.out HS.out HSZ.out).mono ?_; rintro e wT ⟨A5, n5, c5, B5, m5, d5, rfl, hown, hb⟩; replace HB := Lib.hid (bel_trans HB.out hb); (first | (replace HZ := Lib.hid (HZ.out.below hb); have HXK := Lib.hid (fun a b r q => (hown.keep (keeps_set4 hzl a b r q)).at_)) | (have HXO := Lib.hid hown.at_)); clear hb hown)
                  refine hK.out _ _ ?_ (fun hHeld => ?_)
                  · exact HQ27.out _ HB.out
                  clear hK K
                  try simp only [List.getElem_toArray, List.getElem_cons_succ, List.getElem_cons_zero, Act.put, List.setIfInBounds_toArray, List.set_cons_zero, List.set_cons_succ]
                  refine wpAnyH_take (i := 5) (v := ?_) rfl (by kernel_rfl) (by kernel_rfl) (by kernel_rfl) (fun _ _ _ h => h) (Or.inl ⟨by rfl, ?_⟩) (by assumption) ?_
                  rotate_left
                  · ((intro wz hSw; (try dsimp only at hSw); go_simp) <;> with_reducible rfl)
                  try simp only [List.getElem_toArray, List.getElem_cons_succ, List.getElem_cons_zero, Act.put, List.setIfInBounds_toArray, List.set_cons_zero, List.set_cons_succ]
                  refine wpAnyH_take (i := 6) (v := ?_) rfl (by kernel_rfl) (by kernel_rfl) (by kernel_rfl) (fun _ _ _ h => h) (Or.inl ⟨by rfl, ?_⟩) (by assumption) ?_
                  rotate_left
                  · ((intro wz hSw; (try dsimp only at hSw); go_simp) <;> with_reducible rfl)
                  try simp only [List.getElem_toArray, List.getElem_cons_succ, List.getElem_cons_zero, Act.put, List.setIfInBounds_toArray, List.set_cons_zero, List.set_cons_succ]
                  refine wpAnyH_take (i := 7) (v := ?_) rfl (by kernel_rfl) (by kernel_rfl) (by kernel_rfl) (fun _ _ _ h => h) (Or.inl ⟨by rfl, ?_⟩) (by assumption) ?_
                  rotate_left
                  · ((intro wz hSw; (try dsimp only at hSw); go_simp) <;> with_reducible rfl)
                  try simp only [List.getElem_toArray, List.getElem_cons_succ, List.getElem_cons_zero, Act.put, List.setIfInBounds_toArray, List.set_cons_zero, List.set_cons_succ]
                  refine wpAnyH_ready (rs := [9]) (by kernel_rfl) (by simp) ?_
                  refine AllReadyH.cons rfl (fun K hK => ?_) ?_
                  · (obtain ⟨⟨ha0, ha1, ha2, ha3, ha4, ha5, ha6, ha7⟩, ⟨hb2, hb3⟩, ⟨hb4, hb5⟩, ⟨hb6, hb7⟩, HOUT⟩ := HZ.out.store4 (.int .i64 X.things) (.int .i64 X.now.known) (.slice A5 n5 c5) (.slice B5 m5 d5); have HXF := Lib.hid (HXK.out (.int .i64 X.things) (.int .i64 X.now.known) (.slice A5 n5 c5) (.slice B5 m5 d5)); replace HB := Lib.hid (bel_set4 HB.out HGL.out (.int .i64 X.things) (.int .i64 X.now.known) (.slice A5 n5 c5) (.slice B5 m5 d5)); go_simp)
                    refine hK.out _ _ ?_ (fun hHeld => ?_)
                    · exact HQ27.out _ HB.out
                    clear hK K
                    try simp only [List.getElem_toArray, List.getElem_cons_succ, List.getElem_cons_zero, Act.put, List.setIfInBounds_toArray, List.set_cons_zero, List.set_cons_succ]
                    refine wpAnyH_ready (rs := [10]) (by kernel_rfl) (by simp) ?_
                    refine AllReadyH.cons rfl (fun K hK => ?_) ?_
                    · go_simp
                      refine hK.out _ _ ?_ (fun hHeld => ?_)
                      · exact HQ27.out _ HB.out
                      clear hK K
                      try simp only [List.getElem_toArray, List.getElem_cons_succ, List.getElem_cons_zero, Act.put, List.setIfInBounds_toArray, List.set_cons_zero, List.set_cons_succ]
                      refine wpAnyH_done (by kernel_rfl) ?_ _
                      go_wp2_with fail
                      go_meet
                      exact ⟨_, A5, n5, c5, B5, m5, d5, rfl, rfl, ⟨HOUT.out, HXF.out⟩, HB.out⟩
                    exact AllReadyH.nil
                  exact AllReadyH.nil
                exact AllReadyH.nil
              exact AllReadyH.nil
            exact AllReadyH.nil
          exact AllReadyH.nil
        case rest =>
          obtain ⟨h14, A14, n14, c14, B14, m14, d14, rfl, rfl, ⟨hbx, htk⟩, hbw⟩ := hcut
          obtain ⟨W10, rfl⟩ : ∃ W, W = wc := ⟨_, rfl⟩
          have H14 : Hid (DX W10 h14 X A14 n14 c14 B14 m14 d14) := ⟨hbx, htk⟩
          have HB313 := Lib.hid (bel_trans HB312.out hbw)
          have H913 := Lib.hid (H912.out.below hbw)
          have HMA3 := Lib.hid (HMA2.out.below hbw)
          have HMB3 := Lib.hid (HMB2.out.below hbw)
          have H613 := Lib.hid (H6.out.below HB313.out)
          clear hbx htk hbw hc0 hc1 hc2 hc3 hc4 hc5 HBU HQ27 H912 HMA2 HMB2 HB312
          obtain ⟨hc0, hc1, hc2, hc3⟩ := H14.out.cells
          obtain ⟨hd0, hd1, hd2, hd3⟩ := H613.out.cells
          go_wp2_with fail
          refine (lEqTalk X A14 B14 A5 B5 n14 c14 m14 d14 n5 c5 m5 d5 _ H14.out.t H613.out.t HSX.out).mono ?_
          rintro e w13 ⟨rfl, hb⟩
          have H914 := Lib.hid (H913.out.below hb)
          have HMA4 := Lib.hid (HMA3.out.below hb)
          have HMB4 := Lib.hid (HMB3.out.below hb)
          have HB314 := Lib.hid (bel_trans HB313.out hb)
          clear hb hc0 hc1 hc2 hc3 hd0 hd1 hd2 hd3 H913 HMA3 HMB3 HB313 H14 H613
          have hc0 := H914.out.cell (i := 0) (v := .int .i64 X.things) rfl
          have hc1 := H914.out.cell (i := 1) (v := .int .i64 X.now.known) rfl
          have hc2 := H914.out.cell (i := 2) (v := .slice A9 n9 c9) rfl
          have hc3 := H914.out.cell (i := 3) (v := .slice B9 m9 d9) rfl
          go_wp2_with fail
          refine (HHE.out _ HMA4.out HMB4.out).mono ?_
          rintro e w14 ⟨rfl, hb⟩
          have HBE := Lib.hid (bel_trans (bel_trans HB0.out HB3.out) (bel_trans HB314.out hb))
          clear hb hc0 hc1 hc2 hc3
          go_wp2_with fail
          go_ret
          exact ⟨rfl, HBE.out⟩
end Go.Proofs.YtmdogidflaplkaaGreat
