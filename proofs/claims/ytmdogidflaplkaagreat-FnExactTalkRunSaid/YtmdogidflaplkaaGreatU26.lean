/-
  What the proofs of this seat's statements share (TlkF).
-/
import Derived.Deep.Cut
import Derived.Deep.CutRange
import Derived.Deep.CutBlock
import Derived.Test.YtmdogidflaplkaaGreatU25

namespace Go.Proofs.YtmdogidflaplkaaGreat
open Go.RowKit

theorem strs_grown {W w' : World} {k : Nat} {xs : List ByteArray} {row : Option Nat} (h : Strs W (some ⟨k, 0, none⟩) xs) (hg : W.grownBy w' row) (hne : row ≠ some k) : Strs w' (some ⟨k, 0, none⟩) xs := by
  intro hp
  obtain ⟨b, off, e, hlt, hc⟩ := h hp
  cases e
  exact ⟨k, 0, rfl, Nat.lt_of_lt_of_le hlt hg.size, fun i hi => (World.cell?_of_block (hg.block k hlt (fun e => hne e.symm))).trans (hc i hi)⟩
/-- Behind an append of the call's own: all that lies. -/
theorem own_next {w4 W w' : World} {h : Nat} {L u v : Value} {xs : List ByteArray} (hB : Below w4.heap.size w4 W) (hM : Box W h 25 [L, u]) (hO : OwnsS W (h + 1) v xs) (hh : w4.heap.size = h) (hg : W.grownBy w' v.ownBlock) :
    Below w4.heap.size w4 w' ∧ Box w' h 25 [L, u] :=
  ⟨hB.grown hg hB.size fun e he => by have := (hO.lt he).1; omega, hM.grownO hg fun k hk => by have := (hO.lt hk).1; omega⟩
theorem own_put {w4 w' : World} {h : Nat} {L u v1 : Value} {ys : List ByteArray} (hB : Below w4.heap.size w4 w') (hM : Box w' h 25 [L, u]) (hr : OwnsS w' (h + 1) v1 ys) (hh : w4.heap.size = h) :
    ∃ A3 n3 c3, v1 = .slice A3 n3 c3 ∧ (w'.cell? ⟨h, 1, none⟩ = some u ∧ w'.frozen? ⟨h, 1, none⟩ = false) ∧ Below w4.heap.size w4 (w'.setCell ⟨h, 1, none⟩ (.slice A3 n3 c3)) ∧ Box (w'.setCell ⟨h, 1, none⟩ (.slice A3 n3 c3)) h 25 [L, .slice A3 n3 c3] ∧ OwnsS (w'.setCell ⟨h, 1, none⟩ (.slice A3 n3 c3)) (h + 1) (.slice A3 n3 c3) ys := by
  obtain ⟨A3, c3, rfl, _⟩ := hr.form
  have hlt := hM.lt
  exact ⟨A3, _, c3, rfl, ⟨hM.cell rfl, hM.frozen 1⟩, mk_put hB (by omega) _, hM.set 1 _, hr.keep (Keeps.set (by omega))⟩
def AskMid (w4 : World) (h : Nat) (q : Int) (ys : List ByteArray) (wx : World) : Prop := ∃ o', Hid (Below w4.heap.size w4 wx) ∧ Hid (Box wx h 25 [.int .i64 q, o']) ∧ Hid (OwnsS wx (h + 1) o' ys)
theorem own_strs {w : World} {lo n c : Nat} {A : Option Addr} {xs : List ByteArray} (h : OwnsS w lo (.slice A n c) xs) : Strs w A xs := by
  obtain ⟨_, _, e, _, _, h3, _⟩ := h.form
  cases e
  exact h3
set_option maxRecDepth 100000 in
set_option maxHeartbeats 8000000 in
theorem sDoAsk (T : TalkV) (A B : Option Addr) (n c m d : Nat) (text : ByteArray) (w : World) (hT : TkAt w T A n c B m d) (hs : SmallT T) (hx : text.size ≤ 1048576) (hok : okT T = true) (hS : isT T.things text = true) (X : TalkV) (r : Bool)
    (hr : (doT T 1 text = none ∧ X = T ∧ r = false) ∨ (doT T 1 text = some X ∧ r = true)) :
    Calls Tryz.prog 9 #[.agg #[.int .i64 T.things, .int .i64 T.now.known, .slice A n c, .slice B m d], .agg #[.int .i64 1, .string text]] w (DoPost X r w) := by
  obtain ⟨tr, htr⟩ : ∃ tr, trueT T.things text = tr := ⟨_, rfl⟩
  obtain ⟨wi, hwi⟩ : ∃ wi, withinB T.now.known tr = wi := ⟨_, rfl⟩
  obtain ⟨ys, hys⟩ : ∃ ys, T.now.op ++ [text] = ys := ⟨_, rfl⟩
  obtain ⟨st, hst⟩ : ∃ st, stateOk asksT T.things ⟨T.now.known, ys⟩ = st := ⟨_, rfl⟩
  have hdo : doT T 1 text = if wi = true ∧ st = true then some (pushT T ⟨T.now.known, ys⟩) else none := by
    unfold doT talkDo
    rw [if_neg (by decide), if_neg (by decide), if_pos rfl, if_pos (show asksT.isS T.things text = true from hS)]
    subst hwi hst hys htr
    rfl
  have HNO : Hid (wi = false ∨ st = false → X = T ∧ r = false) := fun h => by
    rw [hdo, if_neg (by rintro ⟨h1, h2⟩; rcases h with h | h; rw [h] at h1; cases h1; rw [h] at h2; cases h2)] at hr
    rcases hr with ⟨_, h2, h3⟩ | ⟨h2, _⟩
    · exact ⟨h2, h3⟩
    · cases h2
  have HYES : Hid (wi = true → st = true → X = pushT T ⟨T.now.known, ys⟩ ∧ r = true) := fun h1 h2 => by
    rw [hdo, if_pos ⟨h1, h2⟩] at hr
    rcases hr with ⟨h3, _⟩ | ⟨h3, h4⟩
    · cases h3
    · exact ⟨(Option.some.inj h3).symm, h4⟩
  have hset := ((state_parts asksT).1 ((talk_parts asksT).1 hok).1).1
  obtain ⟨ht1, ht3, hq0, hqa, hq256⟩ := setOkB_lt hset
  have htr0 : 0 ≤ tr ∧ tr < 256 := by
    obtain ⟨y, hy⟩ := isS_some.1 (show asksT.isS T.things text = true from hS)
    have h1 := true_range hy
    have h2 := (allOf_lt T.things).2
    rw [htr] at h1
    omega
  have HQ : Hid (0 ≤ T.now.known ∧ T.now.known < 256) := ⟨hq0, hq256⟩
  have hop4 : T.now.op.length ≤ 4 := (small_state ((talk_parts asksT).1 hok).1).1
  have HYL : Hid (ys.length ≤ 1048576 ∧ ∀ s ∈ ys, s.size ≤ 1048576) := by
    refine ⟨?_, fun s hm => ?_⟩
    · rw [← hys, List.length_append]; simp; omega
    · rw [← hys, List.mem_append, List.mem_singleton] at hm
      rcases hm with hm | rfl
      · exact hs.txt s hm
      · exact hx
  have HYS := Lib.hid hys
  have HTR := Lib.hid htr
  have HWI := Lib.hid hwi
  have HSTA := Lib.hid hst
  have HTR0 := Lib.hid htr0
  have HIS := Lib.hid hS
  clear hr hdo hset ht1 ht3 hq0 hqa hq256 htr0 htr hS hwi hst hys
  obtain rfl := hT.hn
  obtain rfl := hT.pn
  obtain ⟨HX0, HK0, HR0, HB0⟩ := do_start w T.things T.now.known 1 text (.slice A T.now.op.length c) (.slice B T.past.length d)
  have HT := Lib.hid hT
  have HS := Lib.hid hs
  have hol := hs.op
  have hpl := hs.past
  have hx9 : text.size ≤ 9223372036854775807 := by omega
  obtain ⟨t, ht⟩ : ∃ t, T.things = t := ⟨_, rfl⟩
  obtain ⟨q, hq⟩ : ∃ q, T.now.known = q := ⟨_, rfl⟩
  have HTQ : Hid (T.things = t ∧ T.now.known = q) := ⟨ht, hq⟩
  have HOK : Hid (∀ W : World, Below w.heap.size w W → Calls Tryz.prog 19 #[.agg #[.int .i64 t, .int .i64 q, .slice A T.now.op.length c, .slice B T.past.length d]] W fun e w' => e = .returned (.bool (okT T)) ∧ Below W.heap.size W w') := fun W h => by
    have := sTalkOk T A B _ c _ d W (hT.below h) hs
    rw [ht, hq] at this; exact this
  have HCP : Hid (∀ W : World, Below w.heap.size w W → w.heap.size + 3 ≤ W.heap.size → Calls Tryz.prog 38 #[.agg #[.int .i64 t, .int .i64 q, .slice A T.now.op.length c, .slice B T.past.length d]] W (CpPost T (w.heap.size + 3) t q W)) := fun W h h2 => sCopy_is HTQ (hT.below h) hs h2
  rw [hok] at HOK
  rw [ht, hq] at HX0 HK0 HR0 HB0 ⊢
  have HOT := Lib.hid hok
  clear hT hs ht hq hok
  go_enter Tryz.func9, Tryz.ntmps9
  go_wp2_with fail
  obtain ⟨W0, hW0⟩ : ∃ W, ((w.alloc (.cells #[.int .i64 t, .int .i64 q, .slice A T.now.op.length c, .slice B T.past.length d] 28)).alloc (.cells #[.int .i64 1, .string text] 30)).alloc (.cells #[.int .i64 0, .int .i64 0, .slice none 0 0, .slice none 0 0] 28) = W := ⟨_, rfl⟩
  rw [hW0] at HX0 HK0 HR0 HB0 ⊢
  clear hW0
  refine (HOK.out _ HB0.out).mono ?_
  rintro e w1 ⟨rfl, hb⟩
  have HX1 := Lib.hid (HX0.out.below hb)
  have HK1 := Lib.hid (HK0.out.below hb)
  have HR1 := Lib.hid (HR0.out.below hb)
  have HB1 := Lib.hid (bel_trans HB0.out hb)
  clear hb HX0 HK0 HR0 HB0 HOK
  have hx0 := HX1.out.cell (i := 0) (v := .int .i64 t) rfl
  have hx1 := HX1.out.cell (i := 1) (v := .int .i64 q) rfl
  have hx2 := HX1.out.cell (i := 2) (v := .slice A T.now.op.length c) rfl
  have hx3 := HX1.out.cell (i := 3) (v := .slice B T.past.length d) rfl
  rw [HTQ.out.1] at HIS HTR HSTA
  rw [HTQ.out.2] at HQ HWI HSTA HYES
  have hlo1 : w.heap.size + 3 ≤ w1.heap.size := by have := HR1.out.lt; omega
  go_wp2_with fail
  refine (HCP.out _ HB1.out hlo1).mono ?_
  rintro e w2 ⟨A2, c2, B2, d2, vs, rfl, ho, hp, hb⟩
  obtain ⟨g, hg⟩ : ∃ g, w2.heap.size = g := ⟨_, rfl⟩
  have hsz2 : w1.heap.size ≤ w2.heap.size := hb.size
  have hD : DoAt w g [.int .i64 t, .int .i64 q, .slice A T.now.op.length c, .slice B T.past.length d] [.int .i64 1, .string text] [.int .i64 t, .int .i64 q, .slice A2 T.now.op.length c2, .slice B2 T.past.length d2] (w2.alloc (.cells #[.int .i64 t, .int .i64 q, .slice A2 T.now.op.length c2, .slice B2 T.past.length d2] 28)) := by
    have := Box.new w2 28 [.int .i64 t, .int .i64 q, .slice A2 T.now.op.length c2, .slice B2 T.past.length d2]
    rw [hg] at this
    exact ⟨(HX1.out.below hb).alloc _, (HK1.out.below hb).alloc _, (HR1.out.below hb).alloc _, this, (bel_trans HB1.out hb).alloc (bel_trans HB1.out hb).size _, by omega⟩
  have hbn : Below w2.heap.size w2 (w2.alloc (.cells #[.int .i64 t, .int .i64 q, .slice A2 T.now.op.length c2, .slice B2 T.past.length d2] 28)) := (Below.refl _ _).alloc (Nat.le_refl _) _
  have HO : Hid (OwnsS (w2.alloc (.cells #[.int .i64 t, .int .i64 q, .slice A2 T.now.op.length c2, .slice B2 T.past.length d2] 28)) (w.heap.size + 3) (.slice A2 T.now.op.length c2) T.now.op) := ho.below hbn
  have HP : Hid (OwnsX 25 (w2.alloc (.cells #[.int .i64 t, .int .i64 q, .slice A2 T.now.op.length c2, .slice B2 T.past.length d2] 28)) (w.heap.size + 3) (.slice B2 T.past.length d2) vs T.past) := hp.below hbn
  have HLT : Hid ((∀ k, (Value.slice A2 T.now.op.length c2).ownBlock = some k → k < g) ∧ ∀ k, (Value.slice B2 T.past.length d2).ownBlock = some k → k < g) := by
    refine ⟨fun k hk => ?_, fun k hk => ?_⟩
    · have := (ho.lt hk).2; omega
    · have := (hp.lt hk).2; omega
  have HD := Lib.hid hD
  clear hD ho hp hb hbn hsz2 hlo1 hx0 hx1 hx2 hx3 HX1 HK1 HR1 HB1 HCP
  go_upto_region 4 with fail
  obtain ⟨w3, hw3⟩ : ∃ w3, w2.alloc (.cells #[.int .i64 t, .int .i64 q, .slice A2 T.now.op.length c2, .slice B2 T.past.length d2] 28) = w3 := ⟨_, rfl⟩
  rw [hw3] at HD HO HP ⊢
  have HSZ : Hid (w3.heap.size = g + 1) := by unfold Hid; rw [← hw3, World.size_alloc, hg]
  clear hw3 hg
  have hx0 := HD.out.x.cell (i := 0) (v := .int .i64 t) rfl
  have hx1 := HD.out.x.cell (i := 1) (v := .int .i64 q) rfl
  have hx2 := HD.out.x.cell (i := 2) (v := .slice A T.now.op.length c) rfl
  have hx3 := HD.out.x.cell (i := 3) (v := .slice B T.past.length d) rfl
  have hk0 := HD.out.d.cell (i := 0) (v := .int .i64 1) rfl
  have hk1 := HD.out.d.cell (i := 1) (v := .string text) rfl
  have ho0 := HD.out.o.cell (i := 0) (v := .int .i64 t) rfl
  have ho1 := HD.out.o.cell (i := 1) (v := .int .i64 q) rfl
  have ho2 := HD.out.o.cell (i := 2) (v := .slice A2 T.now.op.length c2) rfl
  have ho3 := HD.out.o.cell (i := 3) rfl
  go_wp2_with (go_at_call 39; refine (sIn_yes _ _ _ _ (by decide) (by decide)).mono ?_; rintro e w' ⟨rfl, rfl⟩)
  refine (sSentence_is HIS _ hx9).mono ?_
  rintro e w4 ⟨rfl, hb⟩
  have hgs : g < w3.heap.size := HD.out.o.lt
  have hs34 : w3.heap.size ≤ w4.heap.size := hb.size
  clear hx0 hx1 hx2 hx3 hk0 hk1 ho0 ho1 ho2 ho3
  replace HD := Lib.hid (HD.out.below hb)
  replace HO := Lib.hid (HO.out.below hb)
  replace HP := Lib.hid (HP.out.below hb)
  clear hb
  have hx0 := HD.out.x.cell (i := 0) (v := .int .i64 t) rfl
  have hx1 := HD.out.x.cell (i := 1) (v := .int .i64 q) rfl
  have hx2 := HD.out.x.cell (i := 2) (v := .slice A T.now.op.length c) rfl
  have hx3 := HD.out.x.cell (i := 3) (v := .slice B T.past.length d) rfl
  have hk0 := HD.out.d.cell (i := 0) (v := .int .i64 1) rfl
  have hk1 := HD.out.d.cell (i := 1) (v := .string text) rfl
  have ho0 := HD.out.o.cell (i := 0) (v := .int .i64 t) rfl
  have ho1 := HD.out.o.cell (i := 1) (v := .int .i64 q) rfl
  have ho2 := HD.out.o.cell (i := 2) (v := .slice A2 T.now.op.length c2) rfl
  have ho3 := HD.out.o.cell (i := 3) rfl
  obtain ⟨h, hh⟩ : ∃ h, w4.heap.size = h := ⟨_, rfl⟩
  have HGH : Hid (g < h) := by unfold Hid; omega
  clear hgs hs34
  go_upto_region 12 with fail
  have HM : Hid (Box (w4.alloc (.cells #[.int .i64 q, .slice none 0 0] 25)) h 25 [.int .i64 q, .slice none 0 0]) := by
    have := Box.new w4 25 [.int .i64 q, .slice none 0 0]
    rw [hh] at this; exact this
  have HB5 : Hid (Below w4.heap.size w4 (w4.alloc (.cells #[.int .i64 q, .slice none 0 0] 25))) := (Below.refl _ _).alloc (Nat.le_refl _) _
  have HH := Lib.hid hh
  have HSZ5 : Hid ((w4.alloc (.cells #[.int .i64 q, .slice none 0 0] 25)).heap.size = h + 1) := by unfold Hid; rw [World.size_alloc, hh]
  obtain ⟨w5, hw5⟩ : ∃ w5, w4.alloc (.cells #[.int .i64 q, .slice none 0 0] 25) = w5 := ⟨_, rfl⟩
  rw [hw5] at HM HB5 HSZ5 ⊢
  clear hw5 hh
  clear hx0 hx1 hx2 hx3 hk0 hk1 ho0 ho1 ho2 ho3
  have HXW : Hid (∀ W : World, Below w4.heap.size w4 W → W.cell? ⟨w.heap.size, 2, none⟩ = some (.slice A T.now.op.length c) ∧ W.cell? ⟨w.heap.size + 1, 1, none⟩ = some (.string text)) := fun W hW => ⟨(HD.out.below hW).x.cell (i := 2) rfl, (HD.out.below hW).d.cell (i := 1) rfl⟩
  have hk0 := (HD.out.below HB5.out).d.cell (i := 0) (v := .int .i64 1) rfl
  obtain ⟨hx2, hk1⟩ := HXW.out _ HB5.out
  have hmc := HT.out.hc
  have HOL : Hid (([] : List ByteArray).length + T.now.op.length ≤ 4194304) := by unfold Hid; simp; omega
  have HOL2 : Hid (T.now.op.length + 1 ≤ 4194304) := by unfold Hid; omega
  have HA5 := Lib.hid (HT.out.hA.below (bel_trans HD.out.b HB5.out) )
  go_upto_region 21 with fail
  have hs5 : h + 1 ≤ w5.drew.heap.size := Nat.le_of_eq HSZ5.out.symm
  have HBA : Hid (Below w4.heap.size w4 (w5.drew.alloc (.cells #[] 9))) := (bel_drewN HB5.out 1).alloc (bel_drewN HB5.out 1).size _
  have HBT : Hid (Below w4.heap.size w4 (w5.drew.alloc (.cells #[.string text] 9))) := (bel_drewN HB5.out 1).alloc (bel_drewN HB5.out 1).size _
  have HBB : Hid (Below w4.heap.size w4 ((w5.drew.alloc (.cells #[] 9)).alloc (.cells #[.string text] 9))) := HBA.out.alloc HBA.out.size _
  have HBC : Hid (Below w4.heap.size w4 ((w5.drew.alloc (.cells #[.string text] 9)).alloc (.cells #[] 9))) := HBT.out.alloc HBT.out.size _
  have HMA : Hid (Box (w5.drew.alloc (.cells #[] 9)) h 25 [.int .i64 q, .slice none 0 0]) := (Box.drew HM.out).alloc _
  have HMB : Hid (Box ((w5.drew.alloc (.cells #[] 9)).alloc (.cells #[.string text] 9)) h 25 [.int .i64 q, .slice none 0 0]) := HMA.out.alloc _
  have HMC : Hid (Box ((w5.drew.alloc (.cells #[.string text] 9)).alloc (.cells #[] 9)) h 25 [.int .i64 q, .slice none 0 0]) := ((Box.drew HM.out).alloc _).alloc _
  have HOA : Hid (OwnsS (w5.drew.alloc (.cells #[] 9)) (h + 1) (.slice (some ⟨w5.heap.size, 0, none⟩) 0 0) []) := OwnsS.lit0 w5.drew _ hs5
  have HOB : Hid (OwnsS ((w5.drew.alloc (.cells #[] 9)).alloc (.cells #[.string text] 9)) (h + 1) (.slice (some ⟨w5.heap.size, 0, none⟩) 0 0) []) := HOA.out.below ((Below.refl _ _).alloc (Nat.le_refl _) _)
  have HOC : Hid (OwnsS ((w5.drew.alloc (.cells #[.string text] 9)).alloc (.cells #[] 9)) (h + 1) (.slice (some ⟨w5.heap.size + 1, 0, none⟩) 0 0) []) := by
    have := OwnsS.lit0 (w5.drew.alloc (.cells #[.string text] 9)) (h + 1) (by rw [World.size_alloc]; exact Nat.le_succ_of_le hs5)
    rw [World.size_alloc] at this
    exact this
  have HLB : Hid (Strs ((w5.drew.alloc (.cells #[] 9)).alloc (.cells #[.string text] 9)) (some ⟨w5.heap.size + 1, 0, none⟩) [text]) := by
    have := strs_one (w5.drew.alloc (.cells #[] 9)) text
    rw [World.size_alloc] at this
    exact this
  have HLC : Hid (Strs ((w5.drew.alloc (.cells #[.string text] 9)).alloc (.cells #[] 9)) (some ⟨w5.heap.size, 0, none⟩) [text]) := (strs_one w5.drew text).alloc _
  have HAA : Hid (Strs (w5.drew.alloc (.cells #[] 9)) A T.now.op) := (HA5.out.drewN 1).alloc _
  have HAB : Hid (Strs ((w5.drew.alloc (.cells #[] 9)).alloc (.cells #[.string text] 9)) A T.now.op) := HAA.out.alloc _
  have HAC : Hid (Strs ((w5.drew.alloc (.cells #[.string text] 9)).alloc (.cells #[] 9)) A T.now.op) := ((HA5.out.drewN 1).alloc _).alloc _
  have hsA := Lib.hid (show h + 1 ≤ (w5.drew.alloc (.cells #[] 9)).heap.size by rw [World.size_alloc]; exact Nat.le_succ_of_le hs5)
  have hsB := Lib.hid (show h + 1 ≤ ((w5.drew.alloc (.cells #[] 9)).alloc (.cells #[.string text] 9)).heap.size by rw [World.size_alloc, World.size_alloc]; exact Nat.le_succ_of_le (Nat.le_succ_of_le hs5))
  have hsC := Lib.hid (show h + 1 ≤ ((w5.drew.alloc (.cells #[.string text] 9)).alloc (.cells #[] 9)).heap.size by rw [World.size_alloc, World.size_alloc]; exact Nat.le_succ_of_le (Nat.le_succ_of_le hs5))
  -- behind the first append, and ahead of the second one
  have HF1 : Hid (∀ (W w6 : World) (v v1 : Value), Below w4.heap.size w4 W → Box W h 25 [.int .i64 q, .slice none 0 0] → OwnsS W (h + 1) v [] → OwnsS w6 (h + 1) v1 ([] ++ T.now.op) → W.grownBy w6 v.ownBlock →
      ∃ A1 c1, v1 = .slice A1 T.now.op.length c1 ∧ Below w4.heap.size w4 w6 ∧ Box w6 h 25 [.int .i64 q, .slice none 0 0] ∧ OwnsS w6 (h + 1) (.slice A1 T.now.op.length c1) T.now.op ∧ h + 1 ≤ w6.heap.size) := fun W w6 v v1 hB hM hO h1 hg => by
    obtain ⟨hb, hm⟩ := own_next hB hM hO HH.out hg
    obtain ⟨A1, c1, rfl, _⟩ := h1.form
    exact ⟨A1, c1, rfl, hb, hm, h1, hm.lt⟩
  -- behind the second one
  have HF2 : Hid (∀ (W w7 : World) (v v2 : Value), Below w4.heap.size w4 W → Box W h 25 [.int .i64 q, .slice none 0 0] → OwnsS W (h + 1) v T.now.op → OwnsS w7 (h + 1) v2 (T.now.op ++ [text]) → W.grownBy w7 v.ownBlock →
      ∃ A3 n3 c3, v2 = .slice A3 n3 c3 ∧ (w7.cell? ⟨h, 1, none⟩ = some (.slice none 0 0) ∧ w7.frozen? ⟨h, 1, none⟩ = false) ∧ Below w4.heap.size w4 w7 ∧ Below w4.heap.size w4 (w7.setCell ⟨h, 1, none⟩ (.slice A3 n3 c3)) ∧ AskMid w4 h q ys (w7.setCell ⟨h, 1, none⟩ (.slice A3 n3 c3))) := fun W w7 v v2 hB hM hO h2 hg => by
    obtain ⟨hb, hm⟩ := own_next hB hM hO HH.out hg
    rw [HYS.out] at h2
    obtain ⟨A3, n3, c3, rfl, h3, h4, h5, h6⟩ := own_put hb hm h2 HH.out
    exact ⟨A3, n3, c3, rfl, h3, hb, h4, _, h4, h5, h6⟩
  clear hk0
  go_cut [8] from 114 to 123 (fun s8 wx => s8 = .pointer (some ⟨h, 0, none⟩) ∧ AskMid w4 h q ys wx)
  case first =>
    go_region_held3 (fun w' => w'.cell? ⟨w.heap.size, 2, none⟩ = some (.slice A T.now.op.length c) ∧ w'.cell? ⟨w.heap.size + 1, 1, none⟩ = some (.string text))
      (first | exact HK3.out | exact HK2.out | exact HK1.out | exact ⟨hx2, hk1⟩ | go_keep)
      (first
        | (refine step_appS rfl _ _ rfl (h + 1) (.slice (some ⟨w5.heap.size, 0, none⟩) 0 0) [] T.now.op rfl HOA.out A T.now.op.length c rfl rfl hmc HAA.out HOL.out hsA.out ?_; intro v1 w6 ho1 hg1; obtain ⟨A1, c1, rfl, hb6, hm6, ho6, hs6⟩ := HF1.out _ w6 _ v1 HBA.out HMA.out HOA.out ho1 hg1; have HK1 := Lib.hid (HXW.out _ hb6); have HOD : Hid (OwnsS (w6.alloc (.cells #[.string text] 9)) (h + 1) (.slice A1 T.now.op.length c1) T.now.op) := ho6.below ((Below.refl _ _).alloc (Nat.le_refl _) _); have HLD : Hid (Strs (w6.alloc (.cells #[.string text] 9)) (some ⟨w6.heap.size, 0, none⟩) [text]) := strs_one w6 text; have HBD : Hid (Below w4.heap.size w4 (w6.alloc (.cells #[.string text] 9))) := hb6.alloc hb6.size _; have HMD : Hid (Box (w6.alloc (.cells #[.string text] 9)) h 25 [.int .i64 q, .slice none 0 0]) := hm6.alloc _; have HSD : Hid (h + 1 ≤ (w6.alloc (.cells #[.string text] 9)).heap.size) := (by unfold Hid; rw [World.size_alloc]; exact Nat.le_succ_of_le hs6); clear ho1 hg1 hb6 hm6 ho6 hs6)
        | (refine step_appS rfl _ _ rfl (h + 1) (.slice (some ⟨w5.heap.size, 0, none⟩) 0 0) [] T.now.op rfl HOB.out A T.now.op.length c rfl rfl hmc HAB.out HOL.out hsB.out ?_; intro v1 w6 ho1 hg1; obtain ⟨A1, c1, rfl, hb6, hm6, ho6, hs6⟩ := HF1.out _ w6 _ v1 HBB.out HMB.out HOB.out ho1 hg1; have HK1 := Lib.hid (HXW.out _ hb6); have HOE : Hid (OwnsS w6 (h + 1) (.slice A1 T.now.op.length c1) T.now.op) := ho6; have HLE1 := Lib.hid (strs_grown HLB.out hg1 (by intro e; simp only [Value.ownBlock, Option.some.injEq] at e; omega)); have HBE1 := Lib.hid hb6; have HME := Lib.hid hm6; have HSE := Lib.hid hs6; clear ho1 hg1 hb6 hm6 ho6 hs6)
        | (refine step_appS rfl _ _ rfl (h + 1) (.slice (some ⟨w5.heap.size + 1, 0, none⟩) 0 0) [] T.now.op rfl HOC.out A T.now.op.length c rfl rfl hmc HAC.out HOL.out hsC.out ?_; intro v1 w6 ho1 hg1; obtain ⟨A1, c1, rfl, hb6, hm6, ho6, hs6⟩ := HF1.out _ w6 _ v1 HBC.out HMC.out HOC.out ho1 hg1; have HK1 := Lib.hid (HXW.out _ hb6); have HOE : Hid (OwnsS w6 (h + 1) (.slice A1 T.now.op.length c1) T.now.op) := ho6; have HLE1 := Lib.hid (strs_grown HLC.out hg1 (by intro e; simp only [Value.ownBlock, Option.some.injEq] at e; omega)); have HBE1 := Lib.hid hb6; have HME := Lib.hid hm6; have HSE := Lib.hid hs6; clear ho1 hg1 hb6 hm6 ho6 hs6)
        | (refine step_appS rfl _ _ rfl (h + 1) (.slice A1 T.now.op.length c1) T.now.op [text] rfl HOD.out (some ⟨w6.heap.size, 0, none⟩) 1 1 rfl rfl (Nat.le_refl _) HLD.out HOL2.out HSD.out ?_; intro v2 w7 ho2 hg2; obtain ⟨A3, n3, c3, rfl, ⟨hu1, hu2⟩, hb7, hb8, hmid⟩ := HF2.out _ w7 _ v2 HBD.out HMD.out HOD.out ho2 hg2; have HK2 := Lib.hid (HXW.out _ hb7); have HK3 := Lib.hid (HXW.out _ hb8); have HFIN := Lib.hid hmid; clear ho2 hg2 hb7 hb8 hmid)
        | (refine step_appS rfl _ _ rfl (h + 1) (.slice A1 T.now.op.length c1) T.now.op [text] rfl HOE.out _ 1 1 rfl rfl (Nat.le_refl _) HLE1.out HOL2.out HSE.out ?_; intro v2 w7 ho2 hg2; obtain ⟨A3, n3, c3, rfl, ⟨hu1, hu2⟩, hb7, hb8, hmid⟩ := HF2.out _ w7 _ v2 HBE1.out HME.out HOE.out ho2 hg2; have HK2 := Lib.hid (HXW.out _ hb7); have HK3 := Lib.hid (HXW.out _ hb8); have HFIN := Lib.hid hmid; clear ho2 hg2 hb7 hb8 hmid))
    all_goals
      go_wp2_with fail
      go_meet
      exact ⟨rfl, HFIN.out⟩
  case rest =>
    obtain ⟨rfl, o', HB, HMR, HOW⟩ := hcut
    clear HBA HBT HBB HBC HMA HMB HMC HOA HOB HOC HLB HLC HAA HAB HAC hsA hsB hsC hs5 HF1 HF2 HM HB5 HA5 HSZ5 HOL HOL2 hmc hx2 hk1
    obtain ⟨Ao, co, hoe, _⟩ := HOW.out.form
    obtain ⟨no, hno⟩ : ∃ no, ys.length = no := ⟨_, rfl⟩
    rw [hno] at hoe
    subst hoe
    have HXV : Hid (∀ W : World, Below w4.heap.size w4 W → W.cell? ⟨w.heap.size, 0, none⟩ = some (.int .i64 t) ∧ W.cell? ⟨w.heap.size + 1, 1, none⟩ = some (.string text)) := fun W hW => ⟨(HD.out.below hW).x.cell (i := 0) rfl, (HD.out.below hW).d.cell (i := 1) rfl⟩
    have HTI : Hid (∀ W : World, Calls Tryz.prog 42 #[.int .i64 t, .string text] W fun e w' => e = .returned (.int .i64 tr) ∧ Below W.heap.size W w') := fun W => sTrueIn9 HTR W hx9
    have HWN : Hid (∀ W : World, Calls Tryz.prog 44 #[.int .i64 q, .int .i64 tr] W fun e w' => e = .returned (.bool wi) ∧ ∃ n, w' = W.drewN n) := fun W => sWithin_is HWI HQ.out.1 HQ.out.2 HTR0.out.1 HTR0.out.2 W
    have HS9 : Hid (∀ W : World, Strs W Ao ys → Calls Tryz.prog 45 #[.int .i64 t, .agg #[.int .i64 q, .slice Ao no co]] W fun e w' => e = .returned (.bool st) ∧ Below W.heap.size W w') := fun W hW => sState9_is HSTA Ao no co W hno.symm (by rw [← hno]; exact HYL.out.1) hW HYL.out.2
    have HNO1 := Lib.hid hno
    clear hno
    obtain ⟨hx0, hk1⟩ := HXV.out _ HB.out
    have hm0 := HMR.out.cell (i := 0) (v := .int .i64 q) rfl
    have hm1 := HMR.out.cell (i := 1) (v := .slice Ao no co) rfl
    cases wi
    · obtain ⟨hXT, rfl⟩ := HNO.out (.inl rfl)
      obtain rfl : T = X := hXT.symm
      go_upto_region 22 with fail
      refine wp_region_held_drew (S := fun w' => w'.cell? ⟨h, 0, none⟩ = some (.int .i64 q) ∧ w'.cell? ⟨w.heap.size, 0, none⟩ = some (.int .i64 t) ∧ w'.cell? ⟨w.heap.size + 1, 1, none⟩ = some (.string text) ∧ w'.cell? ⟨h, 1, none⟩ = some (.slice Ao no co)) (by kernel_rfl) ⟨hm0, hx0, hk1, hm1⟩ (fun hSS => ?_)
      refine wpAnyH_take (i := 0) (v := .pointer (some ⟨h, 0, none⟩)) rfl (by kernel_rfl) (by kernel_rfl) (by kernel_rfl) (fun _ _ _ h => h) (Or.inl ⟨by rfl, fun w _ => by rfl⟩) (by assumption) ?_
      simp only [List.getElem_toArray, List.getElem_cons_zero, Act.put, List.setIfInBounds_toArray, List.set_cons_zero, List.set_cons_succ]
      refine wpAnyH_take (i := 1) (v := .int .i64 q) rfl (by kernel_rfl) (by kernel_rfl) (by kernel_rfl) (fun _ _ _ h => h) (Or.inl ⟨by rfl, ?_⟩) (by assumption) ?_
      · intro wz hSw; (try dsimp only at hSw); go_simp
      simp only [List.getElem_toArray, List.getElem_cons_succ, List.getElem_cons_zero, Act.put, List.setIfInBounds_toArray, List.set_cons_zero, List.set_cons_succ]
      refine wpAnyH_take (i := 2) (v := .pointer (some ⟨w.heap.size, 0, none⟩)) rfl (by kernel_rfl) (by kernel_rfl) (by kernel_rfl) (fun _ _ _ h => h) (Or.inl ⟨by rfl, fun w _ => by rfl⟩) (by assumption) ?_
      simp only [List.getElem_toArray, List.getElem_cons_succ, List.getElem_cons_zero, Act.put, List.setIfInBounds_toArray, List.set_cons_zero, List.set_cons_succ]
      refine wpAnyH_take (i := 3) (v := .int .i64 t) rfl (by kernel_rfl) (by kernel_rfl) (by kernel_rfl) (fun _ _ _ h => h) (Or.inl ⟨by rfl, ?_⟩) (by assumption) ?_
      · intro wz hSw; (try dsimp only at hSw); go_simp
      simp only [List.getElem_toArray, List.getElem_cons_succ, List.getElem_cons_zero, Act.put, List.setIfInBounds_toArray, List.set_cons_zero, List.set_cons_succ]
      refine wpAnyH_take (i := 4) (v := .pointer (some ⟨w.heap.size + 1, 1, none⟩)) rfl (by kernel_rfl) (by kernel_rfl) (by kernel_rfl) (fun _ _ _ h => h) (Or.inl ⟨by rfl, fun w _ => by rfl⟩) (by assumption) ?_
      simp only [List.getElem_toArray, List.getElem_cons_succ, List.getElem_cons_zero, Act.put, List.setIfInBounds_toArray, List.set_cons_zero, List.set_cons_succ]
      refine wpAnyH_take (i := 5) (v := .string text) rfl (by kernel_rfl) (by kernel_rfl) (by kernel_rfl) (fun _ _ _ h => h) (Or.inl ⟨by rfl, ?_⟩) (by assumption) ?_
      · intro wz hSw; (try dsimp only at hSw); go_simp
      simp only [List.getElem_toArray, List.getElem_cons_succ, List.getElem_cons_zero, Act.put, List.setIfInBounds_toArray, List.set_cons_zero, List.set_cons_succ]
      refine wpAnyH_ready (rs := [6]) (by kernel_rfl) (by simp) ?_
      refine AllReadyH.cons rfl (fun K hK => ?_) AllReadyH.nil
      go_simp
      go_at_call 42
      refine (HTI.out _).mono ?_
      rintro e w13 ⟨rfl, hb⟩
      have HB13 := Lib.hid (bel_trans (bel_drewN HB.out 1) hb)
      have HM13 := Lib.hid (Box.below (Box.drew HMR.out) hb)
      have HK1 := Lib.hid (And.intro (HM13.out.cell (i := 0) (v := .int .i64 q) rfl) (And.intro (HXV.out _ HB13.out).1 (And.intro (HXV.out _ HB13.out).2 (HM13.out.cell (i := 1) (v := .slice Ao no co) rfl))))
      clear hb
      try go_simp
      refine hK.out _ _ HK1.out (fun hSS => ?_)
      clear hK K
      try simp only [List.getElem_toArray, List.getElem_cons_succ, List.getElem_cons_zero, Act.put, List.setIfInBounds_toArray, List.set_cons_zero, List.set_cons_succ]
      refine wpAnyH_ready (rs := [7]) (by kernel_rfl) (by simp) ?_
      refine AllReadyH.cons rfl (fun K hK => ?_) AllReadyH.nil
      go_simp
      go_at_call 44
      refine (HWN.out _).mono ?_
      rintro e w14 ⟨rfl, n, rfl⟩
      have HB14 := Lib.hid (bel_drewN HB13.out n)
      try go_simp
      refine hK.out _ _ HK1.out (fun hSS => ?_)
      clear hK K
      try simp only [List.getElem_toArray, List.getElem_cons_succ, List.getElem_cons_zero, Act.put, List.setIfInBounds_toArray, List.set_cons_zero, List.set_cons_succ]
      refine wpAnyH_take (i := 8) (v := .bool true) rfl (by kernel_rfl) (by kernel_rfl) (by kernel_rfl) (fun _ _ _ h => h) (Or.inl ⟨by rfl, fun w _ => by rfl⟩) (by assumption) ?_
      simp only [List.getElem_toArray, List.getElem_cons_succ, List.getElem_cons_zero, Act.put, List.setIfInBounds_toArray, List.set_cons_zero, List.set_cons_succ]
      refine wpAnyH_take (i := 9) (v := .bool true) rfl (by kernel_rfl) (by kernel_rfl) (by kernel_rfl) (fun _ _ _ h => h) (Or.inl ⟨by rfl, fun w _ => by rfl⟩) (by assumption) ?_
      simp only [List.getElem_toArray, List.getElem_cons_succ, List.getElem_cons_zero, Act.put, List.setIfInBounds_toArray, List.set_cons_zero, List.set_cons_succ]
      refine wpAnyH_take (i := 10) (v := undef) rfl (by kernel_rfl) (by kernel_rfl) (by kernel_rfl) (fun _ _ _ h => h) (Or.inr ⟨by rfl, rfl⟩) (by assumption) ?_
      simp only [List.getElem_toArray, List.getElem_cons_succ, List.getElem_cons_zero, Act.put, List.setIfInBounds_toArray, List.set_cons_zero, List.set_cons_succ]
      refine wpAnyH_take (i := 11) (v := undef) rfl (by kernel_rfl) (by kernel_rfl) (by kernel_rfl) (fun _ _ _ h => h) (Or.inr ⟨by rfl, rfl⟩) (by assumption) ?_
      simp only [List.getElem_toArray, List.getElem_cons_succ, List.getElem_cons_zero, Act.put, List.setIfInBounds_toArray, List.set_cons_zero, List.set_cons_succ]
      refine wpAnyH_take (i := 12) (v := undef) rfl (by kernel_rfl) (by kernel_rfl) (by kernel_rfl) (fun _ _ _ h => h) (Or.inr ⟨by rfl, rfl⟩) (by assumption) ?_
      simp only [List.getElem_toArray, List.getElem_cons_succ, List.getElem_cons_zero, Act.put, List.setIfInBounds_toArray, List.set_cons_zero, List.set_cons_succ]
      refine wpAnyH_take (i := 13) (v := undef) rfl (by kernel_rfl) (by kernel_rfl) (by kernel_rfl) (fun _ _ _ h => h) (Or.inr ⟨by rfl, rfl⟩) (by assumption) ?_
      simp only [List.getElem_toArray, List.getElem_cons_succ, List.getElem_cons_zero, Act.put, List.setIfInBounds_toArray, List.set_cons_zero, List.set_cons_succ]
      refine wpAnyH_take (i := 14) (v := undef) rfl (by kernel_rfl) (by kernel_rfl) (by kernel_rfl) (fun _ _ _ h => h) (Or.inr ⟨by rfl, rfl⟩) (by assumption) ?_
      simp only [List.getElem_toArray, List.getElem_cons_succ, List.getElem_cons_zero, Act.put, List.setIfInBounds_toArray, List.set_cons_zero, List.set_cons_succ]
      refine wpAnyH_take (i := 15) (v := .bool true) rfl (by kernel_rfl) (by kernel_rfl) (by kernel_rfl) (fun _ _ _ h => h) (Or.inl ⟨by rfl, fun w _ => by rfl⟩) (by assumption) ?_
      simp only [List.getElem_toArray, List.getElem_cons_succ, List.getElem_cons_zero, Act.put, List.setIfInBounds_toArray, List.set_cons_zero, List.set_cons_succ]
      refine wpAnyH_done (by kernel_rfl) ?_ _
      clear hx0 hk1 hm0 hm1
      have HDR := Lib.hid (HD.out.below HB14.out)
      have HOR := Lib.hid (HO.out.below HB14.out)
      have HPR := Lib.hid (HP.out.below HB14.out)
      have ho0 := HDR.out.o.cell (i := 0) (v := .int .i64 t) rfl
      have ho1 := HDR.out.o.cell (i := 1) (v := .int .i64 q) rfl
      have ho2 := HDR.out.o.cell (i := 2) (v := .slice A2 T.now.op.length c2) rfl
      have ho3 := HDR.out.o.cell (i := 3) (v := .slice B2 T.past.length d2) rfl
      obtain ⟨⟨⟨ha0, ha1, ha2, ha3, ha4, ha5, ha6, ha7⟩, ⟨hb2, hb3⟩, ⟨hb4, hb5⟩, ⟨hb6, hb7⟩⟩, HOUT, HIN, HBE⟩ := do_ret HDR.out (tk_in HOR.out HPR.out)
      go_wp2_with fail
      refine bodyPost_ret_by (results_talkB (b := w.heap.size + 2) rfl rfl rfl HOUT) rfl ⟨A2, _, c2, B2, _, d2, by rw [HTQ.out.1, HTQ.out.2]; rfl, HIN.out, HBE.out⟩
    · cases st
      · obtain ⟨hXT, rfl⟩ := HNO.out (.inr rfl)
        obtain rfl : T = X := hXT.symm
        go_upto_region 22 with fail
        go_region_held3 (fun w' => w'.cell? ⟨h, 0, none⟩ = some (.int .i64 q) ∧ w'.cell? ⟨w.heap.size, 0, none⟩ = some (.int .i64 t) ∧ w'.cell? ⟨w.heap.size + 1, 1, none⟩ = some (.string text) ∧ w'.cell? ⟨h, 1, none⟩ = some (.slice Ao no co))
          (first | exact HK3.out | exact HK2.out | exact HK1.out | exact ⟨hm0, hx0, hk1, hm1⟩ | go_keep)
          (first
            | (go_at_call 42; refine (HTI.out _).mono ?_; rintro e w13 ⟨rfl, hb⟩; have HB13 := Lib.hid (bel_trans (bel_drewN HB.out 1) hb); have HM13 := Lib.hid (Box.below (Box.drew HMR.out) hb); have HO13 := Lib.hid ((HOW.out.drewN 1).below hb); have HSTR : Hid (∀ n, Strs (w13.drewN n) Ao ys) := (fun n => own_strs (HO13.out.drewN n)); have HK1 := Lib.hid (And.intro (HM13.out.cell (i := 0) (v := .int .i64 q) rfl) (And.intro (HXV.out _ HB13.out).1 (And.intro (HXV.out _ HB13.out).2 (HM13.out.cell (i := 1) (v := .slice Ao no co) rfl)))); clear hb)
            | (go_at_call 44; refine (HWN.out _).mono ?_; rintro e w14 ⟨rfl, n, rfl⟩; have HK2 : Hid ((w13.drewN n).cell? ⟨h, 0, none⟩ = some (.int .i64 q) ∧ (w13.drewN n).cell? ⟨w.heap.size, 0, none⟩ = some (.int .i64 t) ∧ (w13.drewN n).cell? ⟨w.heap.size + 1, 1, none⟩ = some (.string text) ∧ (w13.drewN n).cell? ⟨h, 1, none⟩ = some (.slice Ao no co)) := HK1.out; have HB14 := Lib.hid (bel_drewN HB13.out n); have HM14 := Lib.hid (HM13.out.drewN n); have HO14 := Lib.hid (HO13.out.drewN n))
            | (go_at_call 45; refine (HS9.out _ (HSTR.out n)).mono ?_; rintro e wr ⟨rfl, hb⟩; have HB15 := Lib.hid (bel_trans HB14.out hb); have HM15 := Lib.hid (HM14.out.below hb); have HO15 := Lib.hid (HO14.out.below hb); have HK3 := Lib.hid (And.intro (HM15.out.cell (i := 0) (v := .int .i64 q) rfl) (And.intro (HXV.out _ HB15.out).1 (And.intro (HXV.out _ HB15.out).2 (HM15.out.cell (i := 1) (v := .slice Ao no co) rfl)))); clear hb))
        all_goals
          clear hx0 hk1 hm0 hm1
          have HDR := Lib.hid (HD.out.below HB15.out)
          have HOR := Lib.hid (HO.out.below HB15.out)
          have HPR := Lib.hid (HP.out.below HB15.out)
          have ho0 := HDR.out.o.cell (i := 0) (v := .int .i64 t) rfl
          have ho1 := HDR.out.o.cell (i := 1) (v := .int .i64 q) rfl
          have ho2 := HDR.out.o.cell (i := 2) (v := .slice A2 T.now.op.length c2) rfl
          have ho3 := HDR.out.o.cell (i := 3) (v := .slice B2 T.past.length d2) rfl
          obtain ⟨⟨⟨ha0, ha1, ha2, ha3, ha4, ha5, ha6, ha7⟩, ⟨hb2, hb3⟩, ⟨hb4, hb5⟩, ⟨hb6, hb7⟩⟩, HOUT, HIN, HBE⟩ := do_ret HDR.out (tk_in HOR.out HPR.out)
          go_wp2_with fail
          refine bodyPost_ret_by (results_talkB (b := w.heap.size + 2) rfl rfl rfl HOUT) rfl ⟨A2, _, c2, B2, _, d2, by rw [HTQ.out.1, HTQ.out.2]; rfl, HIN.out, HBE.out⟩
      · obtain ⟨hXE, rfl⟩ := HYES.out rfl rfl
        have HXE := Lib.hid hXE
        clear hXE
        go_upto_region 22 with fail
        go_region_held3 (fun w' => w'.cell? ⟨h, 0, none⟩ = some (.int .i64 q) ∧ w'.cell? ⟨w.heap.size, 0, none⟩ = some (.int .i64 t) ∧ w'.cell? ⟨w.heap.size + 1, 1, none⟩ = some (.string text) ∧ w'.cell? ⟨h, 1, none⟩ = some (.slice Ao no co))
          (first | exact HK3.out | exact HK2.out | exact HK1.out | exact ⟨hm0, hx0, hk1, hm1⟩ | go_keep)
          (first
            | (go_at_call 42; refine (HTI.out _).mono ?_; rintro e w13 ⟨rfl, hb⟩; have HB13 := Lib.hid (bel_trans (bel_drewN HB.out 1) hb); have HM13 := Lib.hid (Box.below (Box.drew HMR.out) hb); have HO13 := Lib.hid ((HOW.out.drewN 1).below hb); have HSTR : Hid (∀ n, Strs (w13.drewN n) Ao ys) := (fun n => own_strs (HO13.out.drewN n)); have HK1 := Lib.hid (And.intro (HM13.out.cell (i := 0) (v := .int .i64 q) rfl) (And.intro (HXV.out _ HB13.out).1 (And.intro (HXV.out _ HB13.out).2 (HM13.out.cell (i := 1) (v := .slice Ao no co) rfl)))); clear hb)
            | (go_at_call 44; refine (HWN.out _).mono ?_; rintro e w14 ⟨rfl, n, rfl⟩; have HK2 : Hid ((w13.drewN n).cell? ⟨h, 0, none⟩ = some (.int .i64 q) ∧ (w13.drewN n).cell? ⟨w.heap.size, 0, none⟩ = some (.int .i64 t) ∧ (w13.drewN n).cell? ⟨w.heap.size + 1, 1, none⟩ = some (.string text) ∧ (w13.drewN n).cell? ⟨h, 1, none⟩ = some (.slice Ao no co)) := HK1.out; have HB14 := Lib.hid (bel_drewN HB13.out n); have HM14 := Lib.hid (HM13.out.drewN n); have HO14 := Lib.hid (HO13.out.drewN n))
            | (go_at_call 45; refine (HS9.out _ (HSTR.out n)).mono ?_; rintro e wr ⟨rfl, hb⟩; have HB15 := Lib.hid (bel_trans HB14.out hb); have HM15 := Lib.hid (HM14.out.below hb); have HO15 := Lib.hid (HO14.out.below hb); have HK3 := Lib.hid (And.intro (HM15.out.cell (i := 0) (v := .int .i64 q) rfl) (And.intro (HXV.out _ HB15.out).1 (And.intro (HXV.out _ HB15.out).2 (HM15.out.cell (i := 1) (v := .slice Ao no co) rfl)))); clear hb))
        all_goals
          clear hx0 hk1 hm0 hm1
          have HDR := Lib.hid (HD.out.below HB15.out)
          have HOR := Lib.hid (HO.out.below HB15.out)
          have HPR := Lib.hid (HP.out.below HB15.out)
          obtain ⟨o', ho'⟩ : ∃ o', Value.slice Ao no co = o' := ⟨_, rfl⟩
          rw [ho'] at HM15 HO15
          have HM := HM15
          have HYR : Hid (OwnsS wr (w.heap.size + 3) o' ys) := HO15.out.base (by have := HDR.out.lo; have := HGH.out; omega)
          obtain ⟨y, HYE⟩ : ∃ y : St ByteArray, Hid (y = ⟨q, ys⟩) := ⟨_, rfl⟩
          have HXP : Hid (X = pushT T y) := by unfold Hid; rw [HXE.out, HYE.out]
          clear HXE ho' HM15 HO15 HM14 HO14 HM13 HO13 HOW HMR
          have ho1 := HDR.out.o.cell (i := 1) (v := .int .i64 q) rfl
          have ho2 := HDR.out.o.cell (i := 2) (v := .slice A2 T.now.op.length c2) rfl
          have ho3 := HDR.out.o.cell (i := 3) (v := .slice B2 T.past.length d2) rfl
          have HSZR : Hid (w.heap.size + 3 ≤ wr.heap.size) := by unfold Hid; have := HDR.out.o.lt; have := HDR.out.lo; omega
          have HNOW : Hid (T.now = ⟨q, T.now.op⟩) := by unfold Hid; rw [← HTQ.out.2]
          have HPH : Hid (∀ k, (Value.slice B2 T.past.length d2).ownBlock = some k → k < h) := fun k hk => by have := HLT.out.2 k hk; have := HGH.out; omega
          have HPL : Hid (T.past.length ≤ 1048576) := hpl
          have HAP := Lib.hid (own_apart HOR.out HPR.out.row (by decide))
          obtain ⟨l, HLE⟩ : ∃ l, Hid (T.past ++ [(⟨q, T.now.op⟩ : St ByteArray)] = l) := ⟨_, rfl⟩
          have HLP : Hid (l = T.past ++ [T.now]) := by unfold Hid; rw [← HLE.out, ← HNOW.out]
          have HXL : Hid (X = ⟨T.things, ⟨q, ys⟩, keep10 l⟩) := by unfold Hid; rw [HXP.out, HYE.out, HLP.out]; rfl
          go_upto_region 24 with fail
          go_upto_region 25 with (at_builtin; refine wpL_appX rfl _ _ rfl (w.heap.size + 3) (.slice B2 T.past.length d2) (.slice A2 T.now.op.length c2) vs T.past ⟨q, T.now.op⟩ rfl HPR.out HOR.out rfl HPL.out HSZR.out HAP.out ?_; intro v2 w10 hx2 hg2; rw [HLE.out] at hx2; obtain ⟨A3, n3, c3, rfl, hn3, hnc3, hcm3, ⟨hp0, hp1⟩, hd11, hp11, hy11, hm11⟩ := tail_next HDR.out HM.out HYR.out HPR.out HPH.out HGH.out hx2 hg2; have HN3 := Lib.hid hn3; have HCM3 := Lib.hid hcm3; have HD11 := Lib.hid hd11; have HP11 := Lib.hid hp11; have HY11 := Lib.hid hy11; have HM11 := Lib.hid hm11; clear hx2 hg2 hn3 hcm3 hd11 hp11 hy11 hm11 ho1 ho2 ho3)
          obtain ⟨w11, hw11⟩ : ∃ w11, w10.setCell ⟨g, 3, none⟩ (.slice A3 n3 c3) = w11 := ⟨_, rfl⟩
          rw [hw11] at HD11 HP11 HY11 HM11 ⊢
          clear hw11 hp0 hp1
          obtain ⟨Ao, co, hoe, hoc, hom, _⟩ := HY11.out.form
          obtain ⟨no, hno⟩ : ∃ no, ys.length = no := ⟨_, rfl⟩
          rw [hno] at hoe
          subst hoe
          have HNO2 := Lib.hid hno
          clear hno hoc hom
          have ho3 := HD11.out.o.cell (i := 3) (v := .slice A3 n3 c3) rfl
          have hn9 : n3 ≤ 9223372036854775807 := by have := HCM3.out; unfold maxLen at this; omega
          by_cases hl : 10 < n3
          · have hd : decide (10 < n3) = true := decide_eq_true hl
            obtain ⟨b3, off3, rfl⟩ : ∃ b3 off3, A3 = some ⟨b3, off3, none⟩ := by
              obtain ⟨_, _, e, _, _, h6, _⟩ := HP11.out.form
              cases e
              obtain ⟨b, off, h, _⟩ := h6 (by have := HN3.out; omega)
              exact ⟨b, off, h⟩
            obtain ⟨⟨hq0, hq1⟩, HD12⟩ := HD11.out.put3 (.slice (some ⟨b3, off3 + 2, none⟩) (n3 - 1) (c3 - 1))
            have HP12 := Lib.hid (HP11.out.setBox (i := 3) (u := .slice (some ⟨b3, off3 + 2, none⟩) (n3 - 1) (c3 - 1)) HD11.out.o (by decide) (by decide))
            have HY12 := Lib.hid (HY11.out.setBox (i := 3) (u := .slice (some ⟨b3, off3 + 2, none⟩) (n3 - 1) (c3 - 1)) HD11.out.o (by decide))
            have HM12 := Lib.hid (HM11.out.other (a := g) (i := 3) (Nat.ne_of_lt HGH.out) (.slice (some ⟨b3, off3 + 2, none⟩) (n3 - 1) (c3 - 1)))
            go_upto_region 27 with fail
            obtain ⟨w12, hw12⟩ : ∃ w12, w11.setCell ⟨g, 3, none⟩ (.slice (some ⟨b3, off3 + 2, none⟩) (n3 - 1) (c3 - 1)) = w12 := ⟨_, rfl⟩
            rw [hw12] at HD12 HP12 HY12 HM12 ⊢
            clear hw12 hq0 hq1 ho3 hd HD11 HP11 HY11 HM11
            have hm0 := HM12.out.cell (i := 0) (v := .int .i64 q) rfl
            have hm1 := HM12.out.cell (i := 1) (v := .slice Ao no co) rfl
            obtain ⟨⟨hp0, hp1, hp2, hp3, hp4, hp5⟩, HD13⟩ := HD12.out.put12 (.int .i64 q) (.slice Ao no co)
            have HP13 := Lib.hid (HP12.out.set12 HD12.out.o (.int .i64 q) (.slice Ao no co))
            have HY13 := Lib.hid (HY12.out.set12 HD12.out.o (.int .i64 q) (.slice Ao no co))
            go_upto_region 28 with fail
            obtain ⟨w13, hw13⟩ : ∃ w13, (w12.setCell ⟨g, 1, none⟩ (.int .i64 q)).setCell ⟨g, 2, none⟩ (.slice Ao no co) = w13 := ⟨_, rfl⟩
            rw [hw13] at HD13 HP13 HY13 ⊢
            clear hw13 hm0 hm1 hp0 hp1 hp2 hp3 hp4 hp5
            have ho0 := HD13.out.o.cell (i := 0) rfl
            have ho1 := HD13.out.o.cell (i := 1) rfl
            have ho2 := HD13.out.o.cell (i := 2) rfl
            have ho3 := HD13.out.o.cell (i := 3) rfl
            have HTI : Hid (TkOwn w13 (w.heap.size + 3) X Ao no co (some ⟨b3, off3 + 2, none⟩) (n3 - 1) (c3 - 1)) := by
              rw [HXL.out]
              have := push_in (t := T.things) (y := ⟨q, ys⟩) (show OwnsS w13 (w.heap.size + 3) (.slice Ao ys.length co) ys by rw [HNO2.out]; exact HY13.out) HP13.out
              obtain ⟨b, off, e, h⟩ := this.2 (by have := HN3.out; omega); cases e; rw [← HN3.out, HNO2.out] at h; exact h
            obtain ⟨⟨⟨ha0, ha1, ha2, ha3, ha4, ha5, ha6, ha7⟩, ⟨hb2, hb3⟩, ⟨hb4, hb5⟩, ⟨hb6, hb7⟩⟩, HOUT, HIN, HBE⟩ := do_ret HD13.out HTI.out
            go_wp2_with fail
            refine bodyPost_ret_by (results_talkB (b := w.heap.size + 2) rfl rfl rfl HOUT) rfl ⟨Ao, _, co, _, _, _, by rw [show X.things = t from (by rw [HXL.out]; exact HTQ.out.1), show X.now.known = q from (by rw [HXL.out])]; rfl, HIN.out, HBE.out⟩
          · have hd : decide (10 < n3) = false := decide_eq_false hl
            have HD12 := HD11
            have HP12 := HP11
            have HY12 := HY11
            have HM12 := HM11
            go_upto_region 27 with fail
            obtain ⟨w12, hw12⟩ : ∃ w12, w11 = w12 := ⟨_, rfl⟩
            subst hw12
            clear ho3 hd HD11 HP11 HY11 HM11
            have hm0 := HM12.out.cell (i := 0) (v := .int .i64 q) rfl
            have hm1 := HM12.out.cell (i := 1) (v := .slice Ao no co) rfl
            obtain ⟨⟨hp0, hp1, hp2, hp3, hp4, hp5⟩, HD13⟩ := HD12.out.put12 (.int .i64 q) (.slice Ao no co)
            have HP13 := Lib.hid (HP12.out.set12 HD12.out.o (.int .i64 q) (.slice Ao no co))
            have HY13 := Lib.hid (HY12.out.set12 HD12.out.o (.int .i64 q) (.slice Ao no co))
            go_upto_region 28 with fail
            obtain ⟨w13, hw13⟩ : ∃ w13, (w11.setCell ⟨g, 1, none⟩ (.int .i64 q)).setCell ⟨g, 2, none⟩ (.slice Ao no co) = w13 := ⟨_, rfl⟩
            rw [hw13] at HD13 HP13 HY13 ⊢
            clear hw13 hm0 hm1 hp0 hp1 hp2 hp3 hp4 hp5
            have ho0 := HD13.out.o.cell (i := 0) rfl
            have ho1 := HD13.out.o.cell (i := 1) rfl
            have ho2 := HD13.out.o.cell (i := 2) rfl
            have ho3 := HD13.out.o.cell (i := 3) rfl
            have HTI : Hid (TkOwn w13 (w.heap.size + 3) X Ao no co A3 n3 c3) := by
              rw [HXL.out]
              have := push_in (t := T.things) (y := ⟨q, ys⟩) (show OwnsS w13 (w.heap.size + 3) (.slice Ao ys.length co) ys by rw [HNO2.out]; exact HY13.out) HP13.out
              have h := this.1 (by have := HN3.out; omega); rw [← HN3.out, HNO2.out] at h; exact h
            obtain ⟨⟨⟨ha0, ha1, ha2, ha3, ha4, ha5, ha6, ha7⟩, ⟨hb2, hb3⟩, ⟨hb4, hb5⟩, ⟨hb6, hb7⟩⟩, HOUT, HIN, HBE⟩ := do_ret HD13.out HTI.out
            go_wp2_with fail
            refine bodyPost_ret_by (results_talkB (b := w.heap.size + 2) rfl rfl rfl HOUT) rfl ⟨Ao, _, co, _, _, _, by rw [show X.things = t from (by rw [HXL.out]; exact HTQ.out.1), show X.now.known = q from (by rw [HXL.out])]; rfl, HIN.out, HBE.out⟩
end Go.Proofs.YtmdogidflaplkaaGreat
