/-
  What the proofs of this seat's statements share (RunI).
-/
import Derived.Test.YtmdogidflaplkaaGreatU38
import Derived.Test.YtmdogidflaplkaaGreatU37

namespace Go.Proofs.YtmdogidflaplkaaGreat
open Go.RowKit

set_option maxRecDepth 100000 in
set_option maxHeartbeats 16000000 in
theorem iTalkRun (T : TalkV) (A B L : Option Addr) (n c m d ln lc : Nat) (ds : List DeedV) (w : World) (hT : TkAt w T A n c B m d) (hs : SmallT T) (hL : DRow w L ln lc ds) (hds : ∀ x ∈ ds, x.2.size ≤ 1048576) :
    Calls Tryz.prog 17 #[.agg #[.int .i64 T.things, .int .i64 T.now.known, .slice A n c, .slice B m d], .slice L ln lc] w (RunPost (runTo T ds).1 (runTo T ds).2 w) := by
  obtain rfl := hL.hn
  have hll := hL.hl
  obtain ⟨HX, HR, HB⟩ := run_start w (.int .i64 T.things) (.int .i64 T.now.known) (.slice A n c) (.slice B m d)
  have HT := Lib.hid (hT.below HB.out)
  have HL := Lib.hid (hL.hA.below HB.out)
  have HS := Lib.hid hs
  have HDS := Lib.hid hds
  obtain ⟨z, hz⟩ : ∃ z, okT T = z := ⟨_, rfl⟩
  have HZ := Lib.hid hz
  clear hT hs hL hds hz
  obtain ⟨P, hP⟩ : ∃ P, runTo T ds = P := ⟨_, rfl⟩
  have HP := Lib.hid hP
  rw [hP]
  clear hP
  go_enter Tryz.func17, Tryz.ntmps17
  go_upto_region 1 with fail
  obtain ⟨W0, hW0⟩ : ∃ W, (w.alloc (.cells #[.int .i64 T.things, .int .i64 T.now.known, .slice A n c, .slice B m d] 28)).alloc (.cells #[.int .i64 0, .int .i64 0, .slice none 0 0, .slice none 0 0] 28) = W := ⟨_, rfl⟩
  rw [hW0] at HX HR HB HT HL ⊢
  clear hW0
  have hc0 := HX.out.cell (i := 0) (v := .int .i64 T.things) rfl
  have hc1 := HX.out.cell (i := 1) (v := .int .i64 T.now.known) rfl
  have hc2 := HX.out.cell (i := 2) (v := .slice A n c) rfl
  have hc3 := HX.out.cell (i := 3) (v := .slice B m d) rfl
  have HOK := Lib.hid (iTalkOk T A B n c m d W0 HT.out HS.out)
  rw [HZ.out] at HOK
  go_wp2_with fail
  refine HOK.out.mono ?_
  rintro e w1 ⟨rfl, hb⟩
  have HX1 := Lib.hid (HX.out.below hb)
  have HR1 := Lib.hid (HR.out.below hb)
  have HB1 := Lib.hid (bel_trans HB.out hb)
  have HT1 := Lib.hid (HT.out.below hb)
  have HL1 := Lib.hid (HL.out.below hb)
  clear hb hc0 hc1 hc2 hc3 HX HR HB HT HL HOK
  have HBAD : Hid (∀ w1, Below w.heap.size w w1 → Hid (Below w.heap.size w ((((w1.setCell ⟨w.heap.size + 1, 0, none⟩ (.int .i64 0)).setCell ⟨w.heap.size + 1, 1, none⟩ (.int .i64 0)).setCell ⟨w.heap.size + 1, 2, none⟩ (.slice none 0 0)).setCell ⟨w.heap.size + 1, 3, none⟩ (.slice none 0 0)))) := fun w1 h => bel_set4 h (show w.heap.size ≤ w.heap.size + 1 by omega) _ _ _ _
  cases z with
  | false =>
    have HPE : Hid (P = (noTalk, 0)) := HP.out.symm.trans (run_bad fun h => by have := HZ.out; rw [h.1] at this; cases this)
    obtain ⟨⟨ha0, ha1, ha2, ha3, ha4, ha5, ha6, ha7⟩, ⟨hb2, hb3⟩, ⟨hb4, hb5⟩, ⟨hb6, hb7⟩, HOUT⟩ := HR1.out.store4 (.int .i64 0) (.int .i64 0) (.slice none 0 0) (.slice none 0 0)
    have HBE := HBAD.out w1 HB1.out
    go_wp2_with fail
    refine bodyPost_ret_by (results_talkB (b := w.heap.size + 1) rfl rfl rfl HOUT) rfl ?_
    show RunPost P.1 P.2 w _ _
    rw [HPE.out]
    exact ⟨.slice none 0 0, .slice none 0 0, [], rfl, OwnsS.nil _ _, OwnsX.nil _ _ _, ApX.nil _, HBE.out⟩
  | true =>
    by_cases hl : 40 < ds.length
    · have hd : decide ((40 : Int) < (ds.length : Int)) = true := decide_eq_true (by omega)
      have HPE : Hid (P = (noTalk, 0)) := HP.out.symm.trans (run_bad fun h => by have := h.2; omega)
      obtain ⟨⟨ha0, ha1, ha2, ha3, ha4, ha5, ha6, ha7⟩, ⟨hb2, hb3⟩, ⟨hb4, hb5⟩, ⟨hb6, hb7⟩, HOUT⟩ := HR1.out.store4 (.int .i64 0) (.int .i64 0) (.slice none 0 0) (.slice none 0 0)
      have HBE := HBAD.out w1 HB1.out
      clear hl
      go_wp2_with fail
      refine bodyPost_ret_by (results_talkB (b := w.heap.size + 1) rfl rfl rfl HOUT) rfl ?_
      show RunPost P.1 P.2 w _ _
      rw [HPE.out]
      exact ⟨.slice none 0 0, .slice none 0 0, [], rfl, OwnsS.nil _ _, OwnsX.nil _ _ _, ApX.nil _, HBE.out⟩
    have hd : decide ((40 : Int) < (ds.length : Int)) = false := decide_eq_false (by omega)
    have hl40 : ds.length ≤ 40 := by omega
    have HE : Hid (runTo T ds = talkRun asksT T ds) := run_good HZ.out hl40
    clear hl HBAD
    have hc0 := HX1.out.cell (i := 0) (v := .int .i64 T.things) rfl
    have hc1 := HX1.out.cell (i := 1) (v := .int .i64 T.now.known) rfl
    have hc2 := HX1.out.cell (i := 2) (v := .slice A n c) rfl
    have hc3 := HX1.out.cell (i := 3) (v := .slice B m d) rfl
    go_wp2_with fail
    refine (iTalkingOf T.things T.now.known _ _ A B n c m d rfl rfl w1).mono ?_
    rintro e w2 ⟨rfl, hb⟩
    have HR2 := Lib.hid (HR1.out.below hb)
    have HB2 := Lib.hid (bel_trans HB1.out hb)
    have HT2 := Lib.hid (HT1.out.below hb)
    have HL2 := Lib.hid (HL1.out.below hb)
    clear hb hc0 hc1 hc2 hc3 HX1 HR1 HB1 HT1 HL1
    go_upto_region 4 with fail
    have hG := Box.new w2 69 [.int .i64 T.now.known, .slice A n c, .int .i64 T.things, .slice B m d]
    have hbel := bel_al w2 (.cells #[.int .i64 T.now.known, .slice A n c, .int .i64 T.things, .slice B m d] 69)
    have HR3 := Lib.hid (HR2.out.below hbel)
    have HB3 := Lib.hid (bel_trans HB2.out hbel)
    have HT3 := Lib.hid (HT2.out.below hbel)
    have HL3 := Lib.hid (HL2.out.below hbel)
    have HAT3 : Hid (∀ W, Exc w2.heap.size (w2.alloc (.cells #[.int .i64 T.now.known, .slice A n c, .int .i64 T.things, .slice B m d] 69)) W → TkAt W T A n c B m d) := fun W hW => by
      have hsz := HT2.out
      have he : ∀ k, k < w2.heap.size → W.heap[k]? = w2.heap[k]? := fun k hk => (hW.2 k (by rw [World.size_alloc]; omega) (by omega)).trans (hbel.block k hk)
      have hle : w2.heap.size ≤ W.heap.size := Nat.le_trans hbel.size hW.1
      exact tk_blocks HT2.out hle he
    have hh6 : w.heap.size + 1 < w2.heap.size := HR2.out.lt
    have HLB : Hid (0 < ds.length → ∀ ad, L = some ad → ad.block < w2.heap.size) := fun hn ad e => by
      obtain ⟨b, off, e2, hlt, _⟩ := HL2.out hn
      rw [e] at e2
      cases e2
      exact hlt
    have hgl : w2.heap.size < (w2.alloc (.cells #[.int .i64 T.now.known, .slice A n c, .int .i64 T.things, .slice B m d] 69)).heap.size := by rw [World.size_alloc]; omega
    obtain ⟨h6, he6⟩ : ∃ h6, w2.heap.size = h6 := ⟨_, rfl⟩
    obtain ⟨W3, hW3⟩ : ∃ W, w2.alloc (.cells #[.int .i64 T.now.known, .slice A n c, .int .i64 T.things, .slice B m d] 69) = W := ⟨_, rfl⟩
    rw [hW3] at hG HR3 HB3 HT3 HL3 HAT3
    rw [hW3] at hgl
    rw [he6] at hG HAT3 hh6 hgl HLB
    rw [hW3]
    try rw [he6]
    have HG := Lib.hid hG
    clear hW3 he6 hG hbel HR2 HB2 HT2 HL2 hgl hd
    have HN0 : Hid (talkRun asksT T (ds.take 0) = (T, 0)) := rfl
    go_wp2_with fail
    go_loopw [7, 25] (fun cn i wr => ∃ (k : Nat) (X : TalkV) (N : Nat) (A : Option Addr) (n c : Nat) (B : Option Addr) (m d : Nat), k ≤ ds.length ∧ i = .int .i64 k ∧ cn = .int .i64 N ∧ N ≤ k ∧ Hid (talkRun asksT T (ds.take k) = (X, N)) ∧ Hid (Box wr h6 69 [.int .i64 X.now.known, .slice A n c, .int .i64 X.things, .slice B m d]) ∧ Hid (∀ W, Exc h6 wr W → TkAt W X A n c B m d) ∧ Hid (Below w.heap.size w wr) ∧ Hid (Box wr (w.heap.size + 1) 28 [.int .i64 0, .int .i64 0, .slice none 0 0, .slice none 0 0]) ∧ Hid (Deeds wr L ds)) (fun _ i _ => ds.length - (Go.RowKit.intOf i).toNat)
    case atStart => exact ⟨0, T, 0, A, n, c, B, m, d, Nat.zero_le _, rfl, rfl, Nat.le_refl _, HN0, HG, HAT3, HB3, HR3, HL3⟩
    case round =>
      obtain ⟨k, X, N, A, n, c, B, m, d, hk, rfl, rfl, hNk, HRUN, HG, HAT, HB, HR, HL⟩ := hrel
      have HXO : Hid (okT X = true) := by
        have := run_oks T (ds.take k) HZ.out
        rw [HRUN.out] at this; exact this
      by_cases hlt : k < ds.length
      · obtain ⟨b, off, kd, tx, rfl, he0, he1, hx, hbl⟩ := HL.out.elem hlt
        have HDX := Lib.hid (HDS.out _ (elem_memD hx))
        have HNX := Lib.hid (run_next (T := T) hx)
        have HWAY := Lib.hid (step_way (N := N) (d := (kd, tx)) HXO.out)
        go_upto_region 7 with fail
        have hD := Box.new wr 30 [.int .i64 kd, .string tx]
        have hbel := bel_al wr (.cells #[.int .i64 kd, .string tx] 30)
        have HG4 := Lib.hid (HG.out.below hbel)
        have HB4 := Lib.hid (bel_trans HB.out hbel)
        have HR4 := Lib.hid (HR.out.below hbel)
        have HL4 := Lib.hid (HL.out.below hbel)
        have HAT4 : Hid (∀ W, Exc h6 (wr.alloc (.cells #[.int .i64 kd, .string tx] 30)) W → TkAt W X A n c B m d) := fun W hW => HAT.out W ((Exc.of_below hbel).trans hW)
        obtain ⟨W4, hW4⟩ : ∃ W, wr.alloc (.cells #[.int .i64 kd, .string tx] 30) = W := ⟨_, rfl⟩
        obtain ⟨h9, he9⟩ : ∃ h9, wr.heap.size = h9 := ⟨_, rfl⟩
        rw [hW4] at hD HG4 HB4 HR4 HL4 HAT4
        rw [hW4]
        rw [he9] at hD
        try rw [he9]
        have HD := Lib.hid hD
        clear hW4 he9 hD hbel HG HB HR HL HAT he0 he1
        have hg0 := HG4.out.cell (i := 0) (v := .int .i64 X.now.known) rfl
        have hg1 := HG4.out.cell (i := 1) (v := .slice A n c) rfl
        have hg2 := HG4.out.cell (i := 2) (v := .int .i64 X.things) rfl
        have hg3 := HG4.out.cell (i := 3) (v := .slice B m d) rfl
        have hd0 := HD.out.cell (i := 0) (v := .int .i64 kd) rfl
        have hd1 := HD.out.cell (i := 1) (v := .string tx) rfl
        have HDO := Lib.hid (iDo X A B n c m d kd tx (Exc h6 W4) W4 (tkR_of_exc HAT4.out) (Exc.refl h6 W4) HXO.out HDX.out)
        obtain ⟨P, hP⟩ : ∃ P, doTo X kd tx = P := ⟨_, rfl⟩
        rw [hP] at HDO HWAY
        obtain ⟨Y, r⟩ := P
        clear hP
        go_wp2_with fail
        refine HDO.out.mono ?_
        rintro e w5 ⟨A', n', c', B', m', d', rfl, hat, hb⟩
        have HG5 := Lib.hid (HG4.out.below hb)
        have HB5 := Lib.hid (bel_trans HB4.out hb)
        have HR5 := Lib.hid (HR4.out.below hb)
        have HL5 := Lib.hid (HL4.out.below hb)
        have HATN := Lib.hid (fun w9 hb9 a b r q => exc_next (w9 := w9) HG4.out.lt hat hb hb9 a b r q)
        have HATO : Hid (∀ W, Exc h6 w5 W → TkAt W X A n c B m d) := fun W hW => HAT4.out W ((Exc.of_below hb).trans hW)
        clear hat hb hg0 hg1 hg2 hg3 hd0 hd1 HG4 HB4 HR4 HL4 HAT4 HD HDO
        go_upto_region 8 with fail
        have hE := Box.new w5 69 [.int .i64 Y.now.known, .slice A' n' c', .int .i64 Y.things, .slice B' m' d']
        have hbel := bel_al w5 (.cells #[.int .i64 Y.now.known, .slice A' n' c', .int .i64 Y.things, .slice B' m' d'] 69)
        have HG6 := Lib.hid (HG5.out.below hbel)
        have HB6 := Lib.hid (bel_trans HB5.out hbel)
        have HR6 := Lib.hid (HR5.out.below hbel)
        have HL6 := Lib.hid (HL5.out.below hbel)
        have HATO6 : Hid (∀ W, Exc h6 (w5.alloc (.cells #[.int .i64 Y.now.known, .slice A' n' c', .int .i64 Y.things, .slice B' m' d'] 69)) W → TkAt W X A n c B m d) := fun W hW => HATO.out W ((Exc.of_below hbel).trans hW)
        have HATN6 := Lib.hid (HATN.out _ hbel)
        obtain ⟨W6, hW6⟩ : ∃ W, w5.alloc (.cells #[.int .i64 Y.now.known, .slice A' n' c', .int .i64 Y.things, .slice B' m' d'] 69) = W := ⟨_, rfl⟩
        obtain ⟨h10, he10⟩ : ∃ h10, w5.heap.size = h10 := ⟨_, rfl⟩
        rw [hW6] at hE HG6 HB6 HR6 HL6 HATO6 HATN6
        rw [hW6]
        rw [he10] at hE
        try rw [he10]
        have HE10 := Lib.hid hE
        clear hW6 he10 hE hbel HG5 HB5 HR5 HL5 HATO HATN
        cases r with
        | false =>
          have HST : Hid (talkRun asksT T (ds.take (k + 1)) = (X, N)) := by
            unfold Hid
            rw [HNX.out, HRUN.out]
            rcases HWAY.out with ⟨_, _, h⟩ | ⟨h, _⟩
            · exact h
            · cases h
          go_wp2_with fail
          go_roundw
          case rel => exact ⟨k + 1, X, N, A, n, c, B, m, d, by omega, by go_num, rfl, by omega, HST, HG6, HATO6, HB6, HR6, HL6⟩
          case measure => simp [Go.RowKit.intOf]; omega
        | true =>
          have HST : Hid (talkRun asksT T (ds.take (k + 1)) = (Y, N + 1)) := by
            unfold Hid
            rw [HNX.out, HRUN.out]
            rcases HWAY.out with ⟨h, _⟩ | ⟨_, h⟩
            · cases h
            · exact h
          have hz0 := HE10.out.cell (i := 0) (v := .int .i64 Y.now.known) rfl
          have hz1 := HE10.out.cell (i := 1) (v := .slice A' n' c') rfl
          have hz2 := HE10.out.cell (i := 2) (v := .int .i64 Y.things) rfl
          have hz3 := HE10.out.cell (i := 3) (v := .slice B' m' d') rfl
          obtain ⟨⟨ha0, ha1, ha2, ha3, ha4, ha5, ha6, ha7⟩, ⟨hb2, hb3⟩, ⟨hb4, hb5⟩, ⟨hb6, hb7⟩, HG7⟩ := HG6.out.store4 (.int .i64 Y.now.known) (.slice A' n' c') (.int .i64 Y.things) (.slice B' m' d')
          have HB7 := Lib.hid (bel_set4 HB6.out (show w.heap.size ≤ h6 by omega) (.int .i64 Y.now.known) (.slice A' n' c') (.int .i64 Y.things) (.slice B' m' d'))
          have HR7 := Lib.hid (HR6.out.other4 (g := h6) (by omega) (.int .i64 Y.now.known) (.slice A' n' c') (.int .i64 Y.things) (.slice B' m' d'))
          have HL7 : Hid (Deeds ((((W6.setCell ⟨h6, 0, none⟩ (.int .i64 Y.now.known)).setCell ⟨h6, 1, none⟩ (.slice A' n' c')).setCell ⟨h6, 2, none⟩ (.int .i64 Y.things)).setCell ⟨h6, 3, none⟩ (.slice B' m' d')) (some ⟨b, off, none⟩) ds) := deeds_exc HL6.out (Exc.set4 h6 W6 _ _ _ _) (fun hn ad e => by have := HLB.out hn ad e; omega)
          have HAT7 := Lib.hid (HATN6.out (.int .i64 Y.now.known) (.slice A' n' c') (.int .i64 Y.things) (.slice B' m' d'))
          go_wp2_with fail
          go_roundw
          case rel => exact ⟨k + 1, Y, N + 1, A', n', c', B', m', d', by omega, by go_num, by go_num, by omega, HST, HG7, HAT7, HB7, HR7, HL7⟩
          case measure => simp [Go.RowKit.intOf]; omega
      · obtain rfl : k = ds.length := by omega
        have HFIN : Hid (talkRun asksT T ds = (X, N)) := by
          have := HRUN.out
          rw [List.take_length] at this; exact this
        have HPE : Hid (P = (X, N)) := HP.out.symm.trans (HE.out.trans HFIN.out)
        have hg0 := HG.out.cell (i := 0) (v := .int .i64 X.now.known) rfl
        have hg1 := HG.out.cell (i := 1) (v := .slice A n c) rfl
        have hg2 := HG.out.cell (i := 2) (v := .int .i64 X.things) rfl
        have hg3 := HG.out.cell (i := 3) (v := .slice B m d) rfl
        have HGI := Lib.hid (iGive X A B n c m d wr (HAT.out wr (Exc.refl _ _)) (small_ok HXO.out))
        go_wp2_with fail
        refine HGI.out.mono ?_
        rintro e w8 ⟨o, p, vs, rfl, ho, hp, hap, hb⟩
        obtain ⟨Ao, co, rfl, _⟩ := ho.form
        obtain ⟨Ap, cp, rfl, _⟩ := hp.form
        have HR8 := Lib.hid (HR.out.below hb)
        have HB8 := Lib.hid (bel_trans HB.out hb)
        have hzl : w.heap.size + 1 < wr.heap.size := HR.out.lt
        obtain ⟨⟨ha0, ha1, ha2, ha3, ha4, ha5, ha6, ha7⟩, ⟨hb2, hb3⟩, ⟨hb4, hb5⟩, ⟨hb6, hb7⟩, HOUT⟩ := HR8.out.store4 (.int .i64 X.things) (.int .i64 X.now.known) (.slice Ao X.now.op.length co) (.slice Ap X.past.length cp)
        have hke : Keeps wr.heap.size w8 _ := keeps_set4 hzl (.int .i64 X.things) (.int .i64 X.now.known) (.slice Ao X.now.op.length co) (.slice Ap X.past.length cp)
        have HFO := Lib.hid (And.intro ((ho.keep hke).base HB.out.size) (And.intro ((hp.keep hke).base HB.out.size) (And.intro hap (bel_set4 HB8.out (show w.heap.size ≤ w.heap.size + 1 by omega) (.int .i64 X.things) (.int .i64 X.now.known) (.slice Ao X.now.op.length co) (.slice Ap X.past.length cp)))))
        clear ho hp hap hb hke hg0 hg1 hg2 hg3
        go_wp2_with fail
        refine bodyPost_ret_by (results_talkB (b := w.heap.size + 1) rfl rfl rfl HOUT) rfl ?_
        show RunPost P.1 P.2 w _ _
        rw [HPE.out]
        exact ⟨_, _, vs, rfl, HFO.out⟩
end Go.Proofs.YtmdogidflaplkaaGreat
