/-
  What the proofs of this seat's statements share (RunS).
-/
import Derived.Deep.Cut
import Derived.Deep.CutRange
import Derived.Deep.CutBlock
import Derived.Test.YtmdogidflaplkaaGreatU39
import Derived.Test.YtmdogidflaplkaaGreatU20

namespace Go.Proofs.YtmdogidflaplkaaGreat
open Go.RowKit

/-- All blocks from lo on but one stand. -/
def ExcL (lo h : Nat) (w0 W : World) : Prop := w0.heap.size ≤ W.heap.size ∧ ∀ k, k < w0.heap.size → lo ≤ k → k ≠ h → W.heap[k]? = w0.heap[k]?
theorem ExcL.refl (lo h : Nat) (w : World) : ExcL lo h w w := ⟨Nat.le_refl _, fun _ _ _ _ => rfl⟩
theorem ExcL.trans {lo h : Nat} {w w1 w2 : World} (h1 : ExcL lo h w w1) (h2 : ExcL lo h w1 w2) : ExcL lo h w w2 := ⟨Nat.le_trans h1.1 h2.1, fun k hk hl hn => (h2.2 k (Nat.lt_of_lt_of_le hk h1.1) hl hn).trans (h1.2 k hk hl hn)⟩
theorem ExcL.of_below {lo h : Nat} {w w1 : World} (hb : Below w.heap.size w w1) : ExcL lo h w w1 := ⟨hb.size, fun k hk _ _ => hb.block k hk⟩
theorem ExcL.of_exc {lo h : Nat} {w w1 : World} (he : Exc h w w1) : ExcL lo h w w1 := ⟨he.1, fun k hk _ hn => he.2 k hk hn⟩
/-- What the model's TalkRun hands back. -/
def RunIn (X : TalkV) (N : Nat) (w : World) (e : Ending) (w' : World) : Prop := ∃ A n c B m d, e = .returned (.tuple #[.agg #[.int .i64 X.things, .int .i64 X.now.known, .slice A n c, .slice B m d], .int .i64 (N : Int)]) ∧ TkIn w' w.heap.size X A n c B m d ∧ Below w.heap.size w w'
theorem in_excl {lo lo0 h : Nat} {w : World} {X : TalkV} {A B : Option Addr} {n c m d : Nat} (hi : TkIn w lo X A n c B m d) (h1 : lo0 ≤ lo) (h2 : h < lo) : ∀ W, ExcL lo0 h w W → TkAt W X A n c B m d := fun W hW => hi W ⟨hW.1, fun k a1 a2 => hW.2 k a2 (by omega) (by omega)⟩
theorem in_excl_new {lo lo0 : Nat} {w w3 : World} {X : TalkV} {A B : Option Addr} {n c m d : Nat} (hi : TkIn w lo X A n c B m d) (h1 : lo0 ≤ lo) (hb : Below w.heap.size w w3) : ∀ W, ExcL lo0 w.heap.size w3 W → TkAt W X A n c B m d := fun W hW => hi W ⟨Nat.le_trans hb.size hW.1, fun k a1 a2 => (hW.2 k (Nat.lt_of_lt_of_le a2 hb.size) (by omega) (by omega)).trans (hb.block k a2)⟩
theorem in_ret {b h lo0 : Nat} {w w' : World} {X : TalkV} {A B : Option Addr} {n c m d : Nat} (hat : ∀ W, ExcL lo0 h w W → TkAt W X A n c B m d) (hl : b < lo0) (hk : Keeps lo0 w w') (hlo : b ≤ lo0) : TkIn w' b X A n c B m d := fun W hW => hat W ⟨Nat.le_trans hk.1 hW.1, fun k a1 a2 _ => (hW.2 k (by omega) (Nat.lt_of_lt_of_le a1 hk.1)).trans (hk.2 k a2 a1)⟩
set_option linter.unusedSimpArgs false in
set_option maxRecDepth 100000 in
set_option maxHeartbeats 16000000 in
theorem sTalkRun (T : TalkV) (A B L : Option Addr) (n c m d ln lc : Nat) (ds : List DeedV) (w : World) (hT : TkAt w T A n c B m d) (hs : SmallT T) (hL : DRow w L ln lc ds) (hds : ∀ x ∈ ds, x.2.size ≤ 1048576) :
    Calls Tryz.prog 18 #[.agg #[.int .i64 T.things, .int .i64 T.now.known, .slice A n c, .slice B m d], .slice L ln lc] w (RunIn (runTo T ds).1 (runTo T ds).2 w) := by
  obtain rfl := hL.hn
  have hll := hL.hl
  obtain ⟨HX, HR, HB⟩ := run_start w (.int .i64 T.things) (.int .i64 T.now.known) (.slice A n c) (.slice B m d)
  have HT := Lib.hid (hT.below HB.out)
  have HL := Lib.hid (hL.hA.below HB.out)
  have HS := Lib.hid hs
  have HDS := Lib.hid hds
  obtain ⟨z, hz⟩ : ∃ z, okT T = z := ⟨_, rfl⟩
  have HZ := Lib.hid hz
  clear hT hs hL hds hz
  obtain ⟨P, hP⟩ : ∃ P, runTo T ds = P := ⟨_, rfl⟩
  have HP := Lib.hid hP
  rw [hP]
  clear hP
  go_enter Tryz.func18, Tryz.ntmps18
  go_upto_region 1 with fail
  obtain ⟨W0, hW0⟩ : ∃ W, (w.alloc (.cells #[.int .i64 T.things, .int .i64 T.now.known, .slice A n c, .slice B m d] 28)).alloc (.cells #[.int .i64 0, .int .i64 0, .slice none 0 0, .slice none 0 0] 28) = W := ⟨_, rfl⟩
  rw [hW0] at HX HR HB HT HL ⊢
  clear hW0
  have hc0 := HX.out.cell (i := 0) (v := .int .i64 T.things) rfl
  have hc1 := HX.out.cell (i := 1) (v := .int .i64 T.now.known) rfl
  have hc2 := HX.out.cell (i := 2) (v := .slice A n c) rfl
  have hc3 := HX.out.cell (i := 3) (v := .slice B m d) rfl
  have HOK := Lib.hid (sTalkOk T A B n c m d W0 HT.out HS.out)
  rw [HZ.out] at HOK
  go_wp2_with fail
  refine HOK.out.mono ?_
  rintro e w1 ⟨rfl, hb⟩
  have HX1 := Lib.hid (HX.out.below hb)
  have HR1 := Lib.hid (HR.out.below hb)
  have HB1 := Lib.hid (bel_trans HB.out hb)
  have HT1 := Lib.hid (HT.out.below hb)
  have HL1 := Lib.hid (HL.out.below hb)
  clear hb hc0 hc1 hc2 hc3 HX HR HB HT HL HOK
  have HBAD : Hid (∀ w1, Below w.heap.size w w1 → Hid (Below w.heap.size w ((((w1.setCell ⟨w.heap.size + 1, 0, none⟩ (.int .i64 0)).setCell ⟨w.heap.size + 1, 1, none⟩ (.int .i64 0)).setCell ⟨w.heap.size + 1, 2, none⟩ (.slice none 0 0)).setCell ⟨w.heap.size + 1, 3, none⟩ (.slice none 0 0)))) := fun w1 h => bel_set4 h (show w.heap.size ≤ w.heap.size + 1 by omega) _ _ _ _
  have HNIL : Hid (∀ W, TkIn W w.heap.size noTalk none 0 0 none 0 0) := fun W W' _ => ⟨rfl, Nat.le_refl _, Nat.zero_le _, Strs.nil _ _, rfl, Nat.le_refl _, Nat.zero_le _, StaRow.nil _ _⟩
  cases z with
  | false =>
    have HPE : Hid (P = (noTalk, 0)) := HP.out.symm.trans (run_bad fun h => by have := HZ.out; rw [h.1] at this; cases this)
    obtain ⟨⟨ha0, ha1, ha2, ha3, ha4, ha5, ha6, ha7⟩, ⟨hb2, hb3⟩, ⟨hb4, hb5⟩, ⟨hb6, hb7⟩, HOUT⟩ := HR1.out.store4 (.int .i64 0) (.int .i64 0) (.slice none 0 0) (.slice none 0 0)
    have HBE := HBAD.out w1 HB1.out
    go_wp2_with fail
    refine bodyPost_ret_by (results_talkB (b := w.heap.size + 1) rfl rfl rfl HOUT) rfl ?_
    show RunIn P.1 P.2 w _ _
    rw [HPE.out]
    exact ⟨none, 0, 0, none, 0, 0, rfl, HNIL.out _, HBE.out⟩
  | true =>
    by_cases hl : 40 < ds.length
    · have hd : decide ((40 : Int) < (ds.length : Int)) = true := decide_eq_true (by omega)
      have HPE : Hid (P = (noTalk, 0)) := HP.out.symm.trans (run_bad fun h => by have := h.2; omega)
      obtain ⟨⟨ha0, ha1, ha2, ha3, ha4, ha5, ha6, ha7⟩, ⟨hb2, hb3⟩, ⟨hb4, hb5⟩, ⟨hb6, hb7⟩, HOUT⟩ := HR1.out.store4 (.int .i64 0) (.int .i64 0) (.slice none 0 0) (.slice none 0 0)
      have HBE := HBAD.out w1 HB1.out
      clear hl
      go_wp2_with fail
      refine bodyPost_ret_by (results_talkB (b := w.heap.size + 1) rfl rfl rfl HOUT) rfl ?_
      show RunIn P.1 P.2 w _ _
      rw [HPE.out]
      exact ⟨none, 0, 0, none, 0, 0, rfl, HNIL.out _, HBE.out⟩
    have hd : decide ((40 : Int) < (ds.length : Int)) = false := decide_eq_false (by omega)
    have hl40 : ds.length ≤ 40 := by omega
    have HE : Hid (runTo T ds = talkRun asksT T ds) := run_good HZ.out hl40
    clear hl HBAD HNIL
    have hc0 := HX1.out.cell (i := 0) (v := .int .i64 T.things) rfl
    have hc1 := HX1.out.cell (i := 1) (v := .int .i64 T.now.known) rfl
    have hc2 := HX1.out.cell (i := 2) (v := .slice A n c) rfl
    have hc3 := HX1.out.cell (i := 3) (v := .slice B m d) rfl
    have hr1lt := HR1.out.lt
    go_wp2_with fail
    refine (sCopy9 T A B n c m d w1 HT1.out HS.out).mono ?_
    rintro e w2 ⟨o, p, vs, rfl, ho, hp, hb⟩
    obtain ⟨A2, c2, B2, d2, rfl, rfl, hin⟩ := tk_of_owns ho hp
    have HIN := Lib.hid hin
    have HR2 := Lib.hid (HR1.out.below hb)
    have HB2 := Lib.hid (bel_trans HB1.out hb)
    have HL2 := Lib.hid (HL1.out.below hb)
    have hs12 : w1.heap.size ≤ w2.heap.size := hb.size
    clear hb hc0 hc1 hc2 hc3 HX1 HR1 HB1 HT1 HL1 ho hp hin
    go_upto_region 4 with fail
    have hG := Box.new w2 28 [.int .i64 T.things, .int .i64 T.now.known, .slice A2 T.now.op.length c2, .slice B2 T.past.length d2]
    have hbel := bel_al w2 (.cells #[.int .i64 T.things, .int .i64 T.now.known, .slice A2 T.now.op.length c2, .slice B2 T.past.length d2] 28)
    have HR3 := Lib.hid (HR2.out.below hbel)
    have HB3 := Lib.hid (bel_trans HB2.out hbel)
    have HL3 := Lib.hid (HL2.out.below hbel)
    have HAT3 := Lib.hid (in_excl_new (lo0 := w.heap.size + 2) HIN.out (by omega) hbel)
    have HLB : Hid (0 < ds.length → ∀ ad, L = some ad → ad.block < w2.heap.size) := fun hn ad e => by
      obtain ⟨b, off, e2, hlt, _⟩ := HL2.out hn
      rw [e] at e2
      cases e2
      exact hlt
    have hh6 : w.heap.size + 1 < w2.heap.size := by omega
    obtain ⟨h6, he6⟩ : ∃ h6, w2.heap.size = h6 := ⟨_, rfl⟩
    obtain ⟨W3, hW3⟩ : ∃ W, w2.alloc (.cells #[.int .i64 T.things, .int .i64 T.now.known, .slice A2 T.now.op.length c2, .slice B2 T.past.length d2] 28) = W := ⟨_, rfl⟩
    rw [hW3] at hG HR3 HB3 HL3 HAT3
    rw [he6] at hG HAT3 hh6 HLB
    rw [hW3]
    try rw [he6]
    have HG := Lib.hid hG
    clear hW3 he6 hG hbel HR2 HB2 HL2 hd HIN hr1lt hs12
    have HN0 : Hid (talkRun asksT T (ds.take 0) = (T, 0)) := rfl
    go_wp2_with fail
    go_loopw [7, 8] (fun cn i wr => ∃ (k : Nat) (X : TalkV) (N : Nat) (A : Option Addr) (n c : Nat) (B : Option Addr) (m d : Nat), k ≤ ds.length ∧ i = .int .i64 k ∧ cn = .int .i64 N ∧ N ≤ k ∧ Hid (talkRun asksT T (ds.take k) = (X, N)) ∧ Hid (Box wr h6 28 [.int .i64 X.things, .int .i64 X.now.known, .slice A n c, .slice B m d]) ∧ Hid (∀ W, ExcL (w.heap.size + 2) h6 wr W → TkAt W X A n c B m d) ∧ Hid (Below w.heap.size w wr) ∧ Hid (Box wr (w.heap.size + 1) 28 [.int .i64 0, .int .i64 0, .slice none 0 0, .slice none 0 0]) ∧ Hid (Deeds wr L ds)) (fun _ i _ => ds.length - (Go.RowKit.intOf i).toNat)
    case atStart => exact ⟨0, T, 0, A2, T.now.op.length, c2, B2, T.past.length, d2, Nat.zero_le _, rfl, rfl, Nat.le_refl _, HN0, HG, HAT3, HB3, HR3, HL3⟩
    case round =>
      obtain ⟨k, X, N, A, n, c, B, m, d, hk, rfl, rfl, hNk, HRUN, HG, HAT, HB0, HR, HL⟩ := hrel
      have HXO : Hid (okT X = true) := by
        have := run_oks T (ds.take k) HZ.out
        rw [HRUN.out] at this; exact this
      by_cases hlt : k < ds.length
      · obtain ⟨b, off, kd, tx, rfl, he0, he1, hx, hbl⟩ := HL.out.elem hlt
        have HSZ := Lib.hid (HDS.out _ (elem_memD hx))
        have HNX := Lib.hid (run_next (T := T) hx)
        have HWAY := Lib.hid (step_way (N := N) (d := (kd, tx)) HXO.out)
        have HXS := Lib.hid (small_ok HXO.out)
        obtain ⟨Q, hQ⟩ : ∃ Q, doTo X kd tx = Q := ⟨_, rfl⟩
        rw [hQ] at HWAY
        obtain ⟨Y, r⟩ := Q
        have HD := Lib.hid hQ
        clear hQ
        have HGL6 : Hid (h6 < wr.heap.size) := HG.out.lt
        have HQ8 : Hid (∀ W, Below wr.heap.size wr W → (W.cell? ⟨h6, 0, none⟩ = some (.int .i64 X.things) ∧ W.cell? ⟨h6, 1, none⟩ = some (.int .i64 X.now.known) ∧ W.cell? ⟨h6, 2, none⟩ = some (.slice A n c) ∧ W.cell? ⟨h6, 3, none⟩ = some (.slice B m d)) ∧ W.cell? ⟨b, off + k * 2, none⟩ = some (.int .i64 kd) ∧ W.cell? ⟨b, off + k * 2 + 1, none⟩ = some (.string tx)) := fun W hb => ⟨⟨(HG.out.below hb).cell rfl, (HG.out.below hb).cell rfl, (HG.out.below hb).cell rfl, (HG.out.below hb).cell rfl⟩, (Below.cell hb (p := ⟨b, off + k * 2, none⟩) hbl.out).trans he0, (Below.cell hb (p := ⟨b, off + k * 2 + 1, none⟩) hbl.out).trans he1⟩
        go_upto_region 8 with fail
        obtain ⟨⟨hc0, hc1, hc2, hc3⟩, hc4, hc5⟩ := HQ8.out wr (Below.refl _ _)
        go_cut [9, 10] from 28 to 37 (fun s9 s10 wx => ∃ h A' n' c' B' m' d' lo, s9 = .pointer (some ⟨h, 0, none⟩) ∧ s10 = .bool r ∧ (Box wx h 28 [.int .i64 Y.things, .int .i64 Y.now.known, .slice A' n' c', .slice B' m' d'] ∧ TkIn wx lo Y A' n' c' B' m' d') ∧ wr.heap.size ≤ lo ∧ Below wr.heap.size wr wx)
        case first =>
          have HB : Hid (Below wr.heap.size wr wr.drew) := bel_drewN (Below.refl _ _) 1
          refine wp_region_held_drew (S := (fun w' => (w'.cell? ⟨h6, 0, none⟩ = some (.int .i64 X.things) ∧ w'.cell? ⟨h6, 1, none⟩ = some (.int .i64 X.now.known) ∧ w'.cell? ⟨h6, 2, none⟩ = some (.slice A n c) ∧ w'.cell? ⟨h6, 3, none⟩ = some (.slice B m d)) ∧ w'.cell? ⟨b, off + k * 2, none⟩ = some (.int .i64 kd) ∧ w'.cell? ⟨b, off + k * 2 + 1, none⟩ = some (.string tx))) (by kernel_rfl) ?_ (fun hHeld => ?_)
          · exact HQ8.out _ HB.out
          obtain ⟨wd, hwd⟩ : ∃ wd, wr.drew = wd := ⟨_, rfl⟩
          rw [hwd] at HB hHeld ⊢
          clear hwd
          refine wpAnyH_take (i := 0) (v := ?_) rfl (by kernel_rfl) (by kernel_rfl) (by kernel_rfl) (fun _ _ _ h => h) (Or.inl ⟨by rfl, ?_⟩) (by assumption) ?_
          rotate_left
          · ((intro wz hSw; (try dsimp only at hSw); go_simp) <;> with_reducible rfl)
          try simp only [List.getElem_toArray, List.getElem_cons_succ, List.getElem_cons_zero, Act.put, List.setIfInBounds_toArray, List.set_cons_zero, List.set_cons_succ]
          refine wpAnyH_take (i := 1) (v := ?_) rfl (by kernel_rfl) (by kernel_rfl) (by kernel_rfl) (fun _ _ _ h => h) (Or.inl ⟨by rfl, ?_⟩) (by assumption) ?_
          rotate_left
          · ((intro wz hSw; (try dsimp only at hSw); go_simp) <;> with_reducible rfl)
          try simp only [List.getElem_toArray, List.getElem_cons_succ, List.getElem_cons_zero, Act.put, List.setIfInBounds_toArray, List.set_cons_zero, List.set_cons_succ]
          refine wpAnyH_take (i := 2) (v := ?_) rfl (by kernel_rfl) (by kernel_rfl) (by kernel_rfl) (fun _ _ _ h => h) (Or.inl ⟨by rfl, ?_⟩) (by assumption) ?_
          rotate_left
          · ((intro wz hSw; (try dsimp only at hSw); go_simp) <;> with_reducible rfl)
          try simp only [List.getElem_toArray, List.getElem_cons_succ, List.getElem_cons_zero, Act.put, List.setIfInBounds_toArray, List.set_cons_zero, List.set_cons_succ]
          refine wpAnyH_take (i := 3) (v := ?_) rfl (by kernel_rfl) (by kernel_rfl) (by kernel_rfl) (fun _ _ _ h => h) (Or.inl ⟨by rfl, ?_⟩) (by assumption) ?_
          rotate_left
          · ((intro wz hSw; (try dsimp only at hSw); go_simp) <;> with_reducible rfl)
          try simp only [List.getElem_toArray, List.getElem_cons_succ, List.getElem_cons_zero, Act.put, List.setIfInBounds_toArray, List.set_cons_zero, List.set_cons_succ]
          refine wpAnyH_take (i := 4) (v := ?_) rfl (by kernel_rfl) (by kernel_rfl) (by kernel_rfl) (fun _ _ _ h => h) (Or.inl ⟨by rfl, ?_⟩) (by assumption) ?_
          rotate_left
          · ((intro wz hSw; (try dsimp only at hSw); go_simp) <;> with_reducible rfl)
          try simp only [List.getElem_toArray, List.getElem_cons_succ, List.getElem_cons_zero, Act.put, List.setIfInBounds_toArray, List.set_cons_zero, List.set_cons_succ]
          refine wpAnyH_ready (rs := [5, 9]) (by kernel_rfl) (by simp) ?_
          refine AllReadyH.cons rfl (fun K hK => ?_) ?_
          · (go_simp; go_at_call 9; (try have hzl := HZV.out.lt); have HLO := Lib.hid HB.out.size; refine (sTalkDo_in HD (HAT.out _ (ExcL.of_below HB.out)) HXS.out HSZ.out).mono ?_; rintro e wT ⟨A', n', c', B', m', d', rfl, hown, hb⟩; replace HB := Lib.hid (bel_trans HB.out hb); (try replace HZV := Lib.hid (HZV.out.below hb)); (try have HXK := Lib.hid (fun a b r q => hown.keep (keeps_set4 hzl a b r q))); have HI := Lib.hid hown; clear hb hown)
            refine hK.out _ _ ?_ (fun hHeld => ?_)
            · exact HQ8.out _ HB.out
            clear hK K
            try simp only [List.getElem_toArray, List.getElem_cons_succ, List.getElem_cons_zero, Act.put, List.setIfInBounds_toArray, List.set_cons_zero, List.set_cons_succ]
            refine wpAnyH_take (i := 6) (v := ?_) rfl (by kernel_rfl) (by kernel_rfl) (by kernel_rfl) (fun _ _ _ h => h) (Or.inl ⟨by rfl, ?_⟩) (by assumption) ?_
            rotate_left
            · ((intro wz hSw; (try dsimp only at hSw); go_simp) <;> with_reducible rfl)
            try simp only [List.getElem_toArray, List.getElem_cons_succ, List.getElem_cons_zero, Act.put, List.setIfInBounds_toArray, List.set_cons_zero, List.set_cons_succ]
            refine wpAnyH_take (i := 7) (v := ?_) rfl (by kernel_rfl) (by kernel_rfl) (by kernel_rfl) (fun _ _ _ h => h) (Or.inl ⟨by rfl, ?_⟩) (by assumption) ?_
            rotate_left
            · ((intro wz hSw; (try dsimp only at hSw); go_simp) <;> with_reducible rfl)
            try simp only [List.getElem_toArray, List.getElem_cons_succ, List.getElem_cons_zero, Act.put, List.setIfInBounds_toArray, List.set_cons_zero, List.set_cons_succ]
            refine wpAnyH_take (i := 8) (v := ?_) rfl (by kernel_rfl) (by kernel_rfl) (by kernel_rfl) (fun _ _ _ h => h) (Or.inl ⟨by rfl, ?_⟩) (by assumption) ?_
            rotate_left
            · ((intro wz hSw; (try dsimp only at hSw); go_simp) <;> with_reducible rfl)
            try simp only [List.getElem_toArray, List.getElem_cons_succ, List.getElem_cons_zero, Act.put, List.setIfInBounds_toArray, List.set_cons_zero, List.set_cons_succ]
            refine wpAnyH_ready (rs := [9]) (by kernel_rfl) (by simp) ?_
            refine AllReadyH.cons rfl (fun K hK => ?_) ?_
            · (go_simp; obtain ⟨wz, hwz, HZV, HGL, HBn, HBl⟩ := al_gen HB.out HB.out.size; rw [hwz]; (try have HXK := Lib.hid (fun a b r q => HI.out.below (bel_set4 HBl.out (Nat.le_refl _) a b r q))); replace HB := HBn; clear hwz HBl)
              refine hK.out _ _ ?_ (fun hHeld => ?_)
              · exact HQ8.out _ HB.out
              clear hK K
              try simp only [List.getElem_toArray, List.getElem_cons_succ, List.getElem_cons_zero, Act.put, List.setIfInBounds_toArray, List.set_cons_zero, List.set_cons_succ]
              refine wpAnyH_ready (rs := [10]) (by kernel_rfl) (by simp) ?_
              refine AllReadyH.cons rfl (fun K hK => ?_) ?_
              · (obtain ⟨⟨ha0, ha1, ha2, ha3, ha4, ha5, ha6, ha7⟩, ⟨hb2, hb3⟩, ⟨hb4, hb5⟩, ⟨hb6, hb7⟩, HOUT⟩ := HZV.out.store4 (.int .i64 Y.things) (.int .i64 Y.now.known) (.slice A' n' c') (.slice B' m' d'); have HIF := Lib.hid (HXK.out (.int .i64 Y.things) (.int .i64 Y.now.known) (.slice A' n' c') (.slice B' m' d')); replace HB := Lib.hid (bel_set4 HB.out HGL.out (.int .i64 Y.things) (.int .i64 Y.now.known) (.slice A' n' c') (.slice B' m' d')); go_simp)
                refine hK.out _ _ ?_ (fun hHeld => ?_)
                · exact HQ8.out _ HB.out
                clear hK K
                try simp only [List.getElem_toArray, List.getElem_cons_succ, List.getElem_cons_zero, Act.put, List.setIfInBounds_toArray, List.set_cons_zero, List.set_cons_succ]
                refine wpAnyH_ready (rs := [11]) (by kernel_rfl) (by simp) ?_
                refine AllReadyH.cons rfl (fun K hK => ?_) ?_
                · go_simp
                  refine hK.out _ _ ?_ (fun hHeld => ?_)
                  · exact HQ8.out _ HB.out
                  clear hK K
                  try simp only [List.getElem_toArray, List.getElem_cons_succ, List.getElem_cons_zero, Act.put, List.setIfInBounds_toArray, List.set_cons_zero, List.set_cons_succ]
                  refine wpAnyH_done (by kernel_rfl) ?_ _
                  go_wp2_with fail
                  go_meet
                  exact ⟨_, A', n', c', B', m', d', _, rfl, rfl, ⟨HOUT.out, HIF.out⟩, HLO.out, HB.out⟩
                exact AllReadyH.nil
              exact AllReadyH.nil
            exact AllReadyH.nil
          refine AllReadyH.cons rfl (fun K hK => ?_) ?_
          · (go_simp; obtain ⟨wz, hwz, HZV, HGL, HBn, HBl⟩ := al_gen HB.out HB.out.size; rw [hwz]; (try have HXK := Lib.hid (fun a b r q => HI.out.below (bel_set4 HBl.out (Nat.le_refl _) a b r q))); replace HB := HBn; clear hwz HBl)
            refine hK.out _ _ ?_ (fun hHeld => ?_)
            · exact HQ8.out _ HB.out
            clear hK K
            try simp only [List.getElem_toArray, List.getElem_cons_succ, List.getElem_cons_zero, Act.put, List.setIfInBounds_toArray, List.set_cons_zero, List.set_cons_succ]
            refine wpAnyH_ready (rs := [5]) (by kernel_rfl) (by simp) ?_
            refine AllReadyH.cons rfl (fun K hK => ?_) ?_
            · (go_simp; go_at_call 9; (try have hzl := HZV.out.lt); have HLO := Lib.hid HB.out.size; refine (sTalkDo_in HD (HAT.out _ (ExcL.of_below HB.out)) HXS.out HSZ.out).mono ?_; rintro e wT ⟨A', n', c', B', m', d', rfl, hown, hb⟩; replace HB := Lib.hid (bel_trans HB.out hb); (try replace HZV := Lib.hid (HZV.out.below hb)); (try have HXK := Lib.hid (fun a b r q => hown.keep (keeps_set4 hzl a b r q))); have HI := Lib.hid hown; clear hb hown)
              refine hK.out _ _ ?_ (fun hHeld => ?_)
              · exact HQ8.out _ HB.out
              clear hK K
              try simp only [List.getElem_toArray, List.getElem_cons_succ, List.getElem_cons_zero, Act.put, List.setIfInBounds_toArray, List.set_cons_zero, List.set_cons_succ]
              refine wpAnyH_take (i := 6) (v := ?_) rfl (by kernel_rfl) (by kernel_rfl) (by kernel_rfl) (fun _ _ _ h => h) (Or.inl ⟨by rfl, ?_⟩) (by assumption) ?_
              rotate_left
              · ((intro wz hSw; (try dsimp only at hSw); go_simp) <;> with_reducible rfl)
              try simp only [List.getElem_toArray, List.getElem_cons_succ, List.getElem_cons_zero, Act.put, List.setIfInBounds_toArray, List.set_cons_zero, List.set_cons_succ]
              refine wpAnyH_take (i := 7) (v := ?_) rfl (by kernel_rfl) (by kernel_rfl) (by kernel_rfl) (fun _ _ _ h => h) (Or.inl ⟨by rfl, ?_⟩) (by assumption) ?_
              rotate_left
              · ((intro wz hSw; (try dsimp only at hSw); go_simp) <;> with_reducible rfl)
              try simp only [List.getElem_toArray, List.getElem_cons_succ, List.getElem_cons_zero, Act.put, List.setIfInBounds_toArray, List.set_cons_zero, List.set_cons_succ]
              refine wpAnyH_take (i := 8) (v := ?_) rfl (by kernel_rfl) (by kernel_rfl) (by kernel_rfl) (fun _ _ _ h => h) (Or.inl ⟨by rfl, ?_⟩) (by assumption) ?_
              rotate_left
              · ((intro wz hSw; (try dsimp only at hSw); go_simp) <;> with_reducible rfl)
              try simp only [List.getElem_toArray, List.getElem_cons_succ, List.getElem_cons_zero, Act.put, List.setIfInBounds_toArray, List.set_cons_zero, List.set_cons_succ]
              refine wpAnyH_ready (rs := [10]) (by kernel_rfl) (by simp) ?_
              refine AllReadyH.cons rfl (fun K hK => ?_) ?_
              · (obtain ⟨⟨ha0, ha1, ha2, ha3, ha4, ha5, ha6, ha7⟩, ⟨hb2, hb3⟩, ⟨hb4, hb5⟩, ⟨hb6, hb7⟩, HOUT⟩ := HZV.out.store4 (.int .i64 Y.things) (.int .i64 Y.now.known) (.slice A' n' c') (.slice B' m' d'); have HIF := Lib.hid (HXK.out (.int .i64 Y.things) (.int .i64 Y.now.known) (.slice A' n' c') (.slice B' m' d')); replace HB := Lib.hid (bel_set4 HB.out HGL.out (.int .i64 Y.things) (.int .i64 Y.now.known) (.slice A' n' c') (.slice B' m' d')); go_simp)
                refine hK.out _ _ ?_ (fun hHeld => ?_)
                · exact HQ8.out _ HB.out
                clear hK K
                try simp only [List.getElem_toArray, List.getElem_cons_succ, List.getElem_cons_zero, Act.put, List.setIfInBounds_toArray, List.set_cons_zero, List.set_cons_succ]
                refine wpAnyH_ready (rs := [11]) (by kernel_rfl) (by simp) ?_
                refine AllReadyH.cons rfl (fun K hK => ?_) ?_
                · go_simp
                  refine hK.out _ _ ?_ (fun hHeld => ?_)
                  · exact HQ8.out _ HB.out
                  clear hK K
                  try simp only [List.getElem_toArray, List.getElem_cons_succ, List.getElem_cons_zero, Act.put, List.setIfInBounds_toArray, List.set_cons_zero, List.set_cons_succ]
                  refine wpAnyH_done (by kernel_rfl) ?_ _
                  go_wp2_with fail
                  go_meet
                  exact ⟨_, A', n', c', B', m', d', _, rfl, rfl, ⟨HOUT.out, HIF.out⟩, HLO.out, HB.out⟩
                exact AllReadyH.nil
              exact AllReadyH.nil
            exact AllReadyH.nil
          exact AllReadyH.nil
        case rest =>
          obtain ⟨h9, A', n', c', B', m', d', lo, rfl, rfl, ⟨hbx, hin⟩, hlo, hbw⟩ := hcut
          obtain ⟨W6, rfl⟩ : ∃ W, W = wc := ⟨_, rfl⟩
          have HE9 := Lib.hid hbx
          have HIN := Lib.hid hin
          have HLO := Lib.hid hlo
          have HG6 := Lib.hid (HG.out.below hbw)
          have HB6 := Lib.hid (bel_trans HB0.out hbw)
          have HR6 := Lib.hid (HR.out.below hbw)
          have HL6 := Lib.hid (HL.out.below hbw)
          have HATO6 : Hid (∀ W, ExcL (w.heap.size + 2) h6 W6 W → TkAt W X A n c B m d) := fun W hW => HAT.out W ((ExcL.of_below hbw).trans hW)
          have HL2 : Hid (w.heap.size + 2 ≤ lo ∧ h6 < lo) := by
            have a1 := HR.out.lt
            have a2 := HGL6.out
            exact ⟨by omega, by omega⟩
          clear hbx hin hlo hbw hc0 hc1 hc2 hc3 hc4 hc5 HQ8 HG HAT HB0 HR HL he0 he1
          cases r with
          | false =>
            have HST : Hid (talkRun asksT T (ds.take (k + 1)) = (X, N)) := by
              unfold Hid
              rw [HNX.out, HRUN.out]
              rcases HWAY.out with ⟨_, _, h⟩ | ⟨h, _⟩
              · exact h
              · cases h
            go_wp2_with fail
            go_roundw
            case rel => exact ⟨k + 1, X, N, A, n, c, B, m, d, by omega, by go_num, rfl, by omega, HST, HG6, HATO6, HB6, HR6, HL6⟩
            case measure => simp [Go.RowKit.intOf]; omega
          | true =>
            have HST : Hid (talkRun asksT T (ds.take (k + 1)) = (Y, N + 1)) := by
              unfold Hid
              rw [HNX.out, HRUN.out]
              rcases HWAY.out with ⟨h, _⟩ | ⟨_, h⟩
              · cases h
              · exact h
            have hz0 := HE9.out.cell (i := 0) (v := .int .i64 Y.things) rfl
            have hz1 := HE9.out.cell (i := 1) (v := .int .i64 Y.now.known) rfl
            have hz2 := HE9.out.cell (i := 2) (v := .slice A' n' c') rfl
            have hz3 := HE9.out.cell (i := 3) (v := .slice B' m' d') rfl
            obtain ⟨⟨ha0, ha1, ha2, ha3, ha4, ha5, ha6, ha7⟩, ⟨hb2, hb3⟩, ⟨hb4, hb5⟩, ⟨hb6, hb7⟩, HG7⟩ := HG6.out.store4 (.int .i64 Y.things) (.int .i64 Y.now.known) (.slice A' n' c') (.slice B' m' d')
            have HB7 := Lib.hid (bel_set4 HB6.out (show w.heap.size ≤ h6 by omega) (.int .i64 Y.things) (.int .i64 Y.now.known) (.slice A' n' c') (.slice B' m' d'))
            have HR7 := Lib.hid (HR6.out.other4 (g := h6) (by omega) (.int .i64 Y.things) (.int .i64 Y.now.known) (.slice A' n' c') (.slice B' m' d'))
            have HL7 : Hid (Deeds ((((W6.setCell ⟨h6, 0, none⟩ (.int .i64 Y.things)).setCell ⟨h6, 1, none⟩ (.int .i64 Y.now.known)).setCell ⟨h6, 2, none⟩ (.slice A' n' c')).setCell ⟨h6, 3, none⟩ (.slice B' m' d')) (some ⟨b, off, none⟩) ds) := deeds_exc HL6.out (Exc.set4 h6 W6 _ _ _ _) (fun hn ad e => by have := HLB.out hn ad e; omega)
            have HAT7 : Hid (∀ W, ExcL (w.heap.size + 2) h6 ((((W6.setCell ⟨h6, 0, none⟩ (.int .i64 Y.things)).setCell ⟨h6, 1, none⟩ (.int .i64 Y.now.known)).setCell ⟨h6, 2, none⟩ (.slice A' n' c')).setCell ⟨h6, 3, none⟩ (.slice B' m' d')) W → TkAt W Y A' n' c' B' m' d') := fun W hW => in_excl HIN.out HL2.out.1 HL2.out.2 W ((ExcL.of_exc (Exc.set4 h6 W6 _ _ _ _)).trans hW)
            go_wp2_with fail
            go_roundw
            case rel => exact ⟨k + 1, Y, N + 1, A', n', c', B', m', d', by omega, by go_num, by go_num, by omega, HST, HG7, HAT7, HB7, HR7, HL7⟩
            case measure => simp [Go.RowKit.intOf]; omega
      · obtain rfl : k = ds.length := by omega
        have HFIN : Hid (talkRun asksT T ds = (X, N)) := by
          have := HRUN.out
          rw [List.take_length] at this; exact this
        have HPE : Hid (P = (X, N)) := HP.out.symm.trans (HE.out.trans HFIN.out)
        have hg0 := HG.out.cell (i := 0) (v := .int .i64 X.things) rfl
        have hg1 := HG.out.cell (i := 1) (v := .int .i64 X.now.known) rfl
        have hg2 := HG.out.cell (i := 2) (v := .slice A n c) rfl
        have hg3 := HG.out.cell (i := 3) (v := .slice B m d) rfl
        obtain ⟨⟨ha0, ha1, ha2, ha3, ha4, ha5, ha6, ha7⟩, ⟨hb2, hb3⟩, ⟨hb4, hb5⟩, ⟨hb6, hb7⟩, HOUT⟩ := HR.out.store4 (.int .i64 X.things) (.int .i64 X.now.known) (.slice A n c) (.slice B m d)
        have HFO := Lib.hid (And.intro (in_ret (b := w.heap.size) HAT.out (by omega) (keeps_set4 (b := w.heap.size + 1) (lo := w.heap.size + 2) (w := wr) (by omega) (.int .i64 X.things) (.int .i64 X.now.known) (.slice A n c) (.slice B m d)) (by omega)) (bel_set4 HB0.out (show w.heap.size ≤ w.heap.size + 1 by omega) (.int .i64 X.things) (.int .i64 X.now.known) (.slice A n c) (.slice B m d)))
        go_wp2_with fail
        refine bodyPost_ret_by (results_talkB (b := w.heap.size + 1) rfl rfl rfl HOUT) rfl ?_
        show RunIn P.1 P.2 w _ _
        rw [HPE.out]
        exact ⟨_, _, _, _, _, _, rfl, HFO.out.1, HFO.out.2⟩
end Go.Proofs.YtmdogidflaplkaaGreat
