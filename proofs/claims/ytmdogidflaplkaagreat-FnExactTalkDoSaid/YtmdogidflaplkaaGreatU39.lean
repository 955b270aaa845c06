/-
  What the proofs of this seat's statements share (TdwD, TdwA).
-/
import Derived.Deep.RegionHeld3
import Derived.Test.YtmdogidflaplkaaGreatU38
import Derived.Test.YtmdogidflaplkaaGreatU37
import Derived.Test.YtmdogidflaplkaaGreatU27
import Derived.Test.YtmdogidflaplkaaGreatU21

namespace Go.Proofs.YtmdogidflaplkaaGreat
open Go.RowKit

theorem results_talkD {fn : Func} {r q : Tmp} (h : fn.results = #[.cell r 28, .cell q 30]) {tmps : Array Value} {w : World} {b b2 : Nat} {x y z p k s : Value} (ht : tmps.getD r undef = .pointer (some ⟨b, 0, none⟩)) (hv : tmps.getD q undef = .pointer (some ⟨b2, 0, none⟩))
   (hb : Hid (Box w b 28 [x, y, z, p])) (hd : Hid (Box w b2 30 [k, s])) : (results fn tmps).run Tryz.prog w = .ok (.tuple #[.agg #[x, y, z, p], .agg #[k, s]]) w := by
  have ht : tmps[r]?.getD undef = .pointer (some ⟨b, 0, none⟩) := by simpa using ht
  have hv : tmps[q]?.getD undef = .pointer (some ⟨b2, 0, none⟩) := by simpa using hv
  have hc0 := hb.out.cell (i := 0) (v := x) rfl
  have hc1 := hb.out.cell (i := 1) (v := y) rfl
  have hc2 := hb.out.cell (i := 2) (v := z) rfl
  have hc3 := hb.out.cell (i := 3) (v := p) rfl
  have hd0 := hd.out.cell (i := 0) (v := k) rfl
  have hd1 := hd.out.cell (i := 1) (v := s) rfl
  simp [results, h, ht, hv, go_sem, hc0, hc1, hc2, hc3, hd0, hd1]
def TalkDeedD (w : World) (e : Ending) (w' : World) : Prop := ∃ (T : TalkV) (A : Option Addr) (n c : Nat) (B : Option Addr) (m d : Nat) (k : Int) (s : ByteArray), e = .returned (.tuple #[.agg #[.int .i64 T.things, .int .i64 T.now.known, .slice A n c, .slice B m d], .agg #[.int .i64 k, .string s]]) ∧ TkAt w' T A n c B m d ∧ SmallT T ∧ s.size ≤ 100 ∧ Below w.heap.size w w'
theorem tdo_start (w : World) : ∃ W, (w.alloc (.cells #[.int .i64 0, .int .i64 0, .slice none 0 0, .slice none 0 0] 28)).alloc (.cells #[.int .i64 0, .string ⟨#[]⟩] 30) = W ∧ Hid (Box W w.heap.size 28 [.int .i64 0, .int .i64 0, .slice none 0 0, .slice none 0 0]) ∧ Hid (Box W (w.heap.size + 1) 30 [.int .i64 0, .string ⟨#[]⟩]) ∧ Hid (Below w.heap.size w W) := by
  have h := Box.new (w.alloc (.cells #[.int .i64 0, .int .i64 0, .slice none 0 0, .slice none 0 0] 28)) 30 [.int .i64 0, .string ⟨#[]⟩]
  rw [World.size_alloc] at h
  exact ⟨_, rfl, (Box.new w 28 [.int .i64 0, .int .i64 0, .slice none 0 0, .slice none 0 0]).alloc _, h, ((Below.refl _ _).alloc (Nat.le_refl _) _).alloc (by rw [World.size_alloc]; omega) _⟩
/-- Both stores of the results. -/
theorem tdo_fin {w w5 : World} {lo : Nat} {T : TalkV} {A B : Option Addr} {n c m d : Nat} {x y z p k0 s0 : Value} (hB : Below w.heap.size w w5) (hT : TkIn w5 lo T A n c B m d) (hlo : w.heap.size + 1 < lo) (hX : Box w5 w.heap.size 28 [x, y, z, p]) (hY : Box w5 (w.heap.size + 1) 30 [k0, s0]) (a b r q k s : Value) :
    Hid (Box ((((((w5.setCell ⟨w.heap.size, 0, none⟩ a).setCell ⟨w.heap.size, 1, none⟩ b).setCell ⟨w.heap.size, 2, none⟩ r).setCell ⟨w.heap.size, 3, none⟩ q).setCell ⟨w.heap.size + 1, 0, none⟩ k).setCell ⟨w.heap.size + 1, 1, none⟩ s) w.heap.size 28 [a, b, r, q]) ∧
    Hid (Box ((((((w5.setCell ⟨w.heap.size, 0, none⟩ a).setCell ⟨w.heap.size, 1, none⟩ b).setCell ⟨w.heap.size, 2, none⟩ r).setCell ⟨w.heap.size, 3, none⟩ q).setCell ⟨w.heap.size + 1, 0, none⟩ k).setCell ⟨w.heap.size + 1, 1, none⟩ s) (w.heap.size + 1) 30 [k, s]) ∧
    Hid (TkAt ((((((w5.setCell ⟨w.heap.size, 0, none⟩ a).setCell ⟨w.heap.size, 1, none⟩ b).setCell ⟨w.heap.size, 2, none⟩ r).setCell ⟨w.heap.size, 3, none⟩ q).setCell ⟨w.heap.size + 1, 0, none⟩ k).setCell ⟨w.heap.size + 1, 1, none⟩ s) T A n c B m d) ∧
    Hid (Below w.heap.size w ((((((w5.setCell ⟨w.heap.size, 0, none⟩ a).setCell ⟨w.heap.size, 1, none⟩ b).setCell ⟨w.heap.size, 2, none⟩ r).setCell ⟨w.heap.size, 3, none⟩ q).setCell ⟨w.heap.size + 1, 0, none⟩ k).setCell ⟨w.heap.size + 1, 1, none⟩ s)) := by
  obtain ⟨_, _, _, _, h4⟩ := hX.store4 a b r q
  obtain ⟨_, _, h2⟩ := (hY.other4 (g := w.heap.size) (by omega) a b r q).store2 k s
  have hk4 := keeps_set4 (w := w5) (b := w.heap.size) (lo := lo) (by omega) a b r q
  have hk2 : Keeps lo ((((w5.setCell ⟨w.heap.size, 0, none⟩ a).setCell ⟨w.heap.size, 1, none⟩ b).setCell ⟨w.heap.size, 2, none⟩ r).setCell ⟨w.heap.size, 3, none⟩ q) ((((((w5.setCell ⟨w.heap.size, 0, none⟩ a).setCell ⟨w.heap.size, 1, none⟩ b).setCell ⟨w.heap.size, 2, none⟩ r).setCell ⟨w.heap.size, 3, none⟩ q).setCell ⟨w.heap.size + 1, 0, none⟩ k).setCell ⟨w.heap.size + 1, 1, none⟩ s) := (Keeps.set (by omega)).trans (Keeps.set (by omega)) (Nat.le_refl _)
  exact ⟨h4.other2 (by omega) k s, h2, ((hT.keep hk4).keep hk2).at_, bel_set2 (bel_set4 hB (Nat.le_refl _) a b r q) (Nat.le_succ _) k s⟩
theorem tdo_keep {w w5 : World} {b5 : Nat} {t0 t1 t2 t3 : Value} (hZ : Box w5 b5 28 [t0, t1, t2, t3]) (hb : w.heap.size + 1 < b5) (a b r q k s : Value) :
    (w5.cell? ⟨b5, 0, none⟩ = some t0 ∧ w5.cell? ⟨b5, 1, none⟩ = some t1 ∧ w5.cell? ⟨b5, 2, none⟩ = some t2 ∧ w5.cell? ⟨b5, 3, none⟩ = some t3) ∧ (((((w5.setCell ⟨w.heap.size, 0, none⟩ a).setCell ⟨w.heap.size, 1, none⟩ b).setCell ⟨w.heap.size, 2, none⟩ r).setCell ⟨w.heap.size, 3, none⟩ q).cell? ⟨b5, 0, none⟩ = some t0 ∧ ((((w5.setCell ⟨w.heap.size, 0, none⟩ a).setCell ⟨w.heap.size, 1, none⟩ b).setCell ⟨w.heap.size, 2, none⟩ r).setCell ⟨w.heap.size, 3, none⟩ q).cell? ⟨b5, 1, none⟩ = some t1 ∧ ((((w5.setCell ⟨w.heap.size, 0, none⟩ a).setCell ⟨w.heap.size, 1, none⟩ b).setCell ⟨w.heap.size, 2, none⟩ r).setCell ⟨w.heap.size, 3, none⟩ q).cell? ⟨b5, 2, none⟩ = some t2 ∧ ((((w5.setCell ⟨w.heap.size, 0, none⟩ a).setCell ⟨w.heap.size, 1, none⟩ b).setCell ⟨w.heap.size, 2, none⟩ r).setCell ⟨w.heap.size, 3, none⟩ q).cell? ⟨b5, 3, none⟩ = some t3) ∧ (((((((w5.setCell ⟨w.heap.size, 0, none⟩ a).setCell ⟨w.heap.size, 1, none⟩ b).setCell ⟨w.heap.size, 2, none⟩ r).setCell ⟨w.heap.size, 3, none⟩ q).setCell ⟨w.heap.size + 1, 0, none⟩ k).setCell ⟨w.heap.size + 1, 1, none⟩ s).cell? ⟨b5, 0, none⟩ = some t0 ∧ ((((((w5.setCell ⟨w.heap.size, 0, none⟩ a).setCell ⟨w.heap.size, 1, none⟩ b).setCell ⟨w.heap.size, 2, none⟩ r).setCell ⟨w.heap.size, 3, none⟩ q).setCell ⟨w.heap.size + 1, 0, none⟩ k).setCell ⟨w.heap.size + 1, 1, none⟩ s).cell? ⟨b5, 1, none⟩ = some t1 ∧ ((((((w5.setCell ⟨w.heap.size, 0, none⟩ a).setCell ⟨w.heap.size, 1, none⟩ b).setCell ⟨w.heap.size, 2, none⟩ r).setCell ⟨w.heap.size, 3, none⟩ q).setCell ⟨w.heap.size + 1, 0, none⟩ k).setCell ⟨w.heap.size + 1, 1, none⟩ s).cell? ⟨b5, 2, none⟩ = some t2 ∧ ((((((w5.setCell ⟨w.heap.size, 0, none⟩ a).setCell ⟨w.heap.size, 1, none⟩ b).setCell ⟨w.heap.size, 2, none⟩ r).setCell ⟨w.heap.size, 3, none⟩ q).setCell ⟨w.heap.size + 1, 0, none⟩ k).setCell ⟨w.heap.size + 1, 1, none⟩ s).cell? ⟨b5, 3, none⟩ = some t3) :=
  have h4 := hZ.other4 (g := w.heap.size) (by omega) a b r q
  have h6 := h4.other2 (g := w.heap.size + 1) (by omega) k s
  ⟨⟨hZ.cell rfl, hZ.cell rfl, hZ.cell rfl, hZ.cell rfl⟩, ⟨h4.cell rfl, h4.cell rfl, h4.cell rfl, h4.cell rfl⟩, ⟨h6.cell rfl, h6.cell rfl, h6.cell rfl, h6.cell rfl⟩⟩
set_option maxRecDepth 100000 in
set_option maxHeartbeats 4000000 in
theorem drawTalkDo_any (A : Option Addr) (nn c : Nat) (zs : List Int) (w : World) (hn : nn = zs.length) (hc : nn ≤ c) (hm : c ≤ maxLen) (hr : ∀ z ∈ zs, 0 ≤ z ∧ z ≤ 255) (hA : Nums .u8 w A zs) :
    Calls Tryz.prog 7 #[.slice A nn c] w (TalkDeedD w) := by
  obtain ⟨W1, hW1, HX, HY, HB⟩ := tdo_start w
  have HO := Lib.hid (open_any A nn c zs W1 hn hc hm hr (hA.below HB.out))
  clear hn hc hm hr hA
  go_enter Tryz.func7, Tryz.ntmps7
  go_upto_region 1 with fail
  try rw [hW1]
  clear hW1
  have hs1 := HY.out.lt
  go_wp2_with fail
  refine HO.out.mono ?_
  rintro e w2 ⟨rfl, hrd, hb⟩
  have HR := Lib.hid hrd
  have HX2 := Lib.hid (HX.out.below hb)
  have HY2 := Lib.hid (HY.out.below hb)
  have HB2 := Lib.hid (bel_trans HB.out hb)
  have hs2 : W1.heap.size ≤ w2.heap.size := hb.size
  obtain ⟨g, hg⟩ : ∃ g, W1.heap.size = g := ⟨_, rfl⟩
  rw [hg] at HR hs1 hs2 ⊢
  clear hrd hb HO HX HY HB hg
  go_wp2_with fail
  refine (talk_any g 0 12 _ (by omega) (by omega) (by omega) HR.out).mono ?_
  rintro e w3 ⟨T, B1, n1, c1, B2, m1, d1, rfl, hin, hsm, _, hr, hg⟩
  have HX3 := Lib.hid (HX2.out.grownO hg (fun j e => by cases e; omega))
  have HY3 := Lib.hid (HY2.out.grownO hg (fun j e => by cases e; omega))
  have HB3 := Lib.hid (below_grown HB2.out hg HB2.out.size (by omega))
  have HR3 := Lib.hid hr
  have HT3 := Lib.hid hin
  have HSM := Lib.hid hsm
  have hgw : g < w2.heap.size := HR.out.lt
  have hs3 : w2.heap.size ≤ w3.heap.size := hg.size
  clear hr hg hin hsm HX2 HY2 HB2 HR
  go_upto_region 3 with fail
  have hZ := Box.new w3 28 [.int .i64 T.things, .int .i64 T.now.known, .slice B1 n1 c1, .slice B2 m1 d1]
  have hbel : Below w3.heap.size w3 (w3.alloc (.cells #[.int .i64 T.things, .int .i64 T.now.known, .slice B1 n1 c1, .slice B2 m1 d1] 28)) := (Below.refl _ _).alloc (Nat.le_refl _) _
  have HX4 := Lib.hid (HX3.out.below hbel)
  have HY4 := Lib.hid (HY3.out.below hbel)
  have HB4 := Lib.hid (bel_trans HB3.out hbel)
  have HR4 := Lib.hid (HR3.out.below hbel)
  have HT4 := Lib.hid (HT3.out.below hbel)
  obtain ⟨b5, hb5⟩ : ∃ b5, w3.heap.size = b5 := ⟨_, rfl⟩
  obtain ⟨w4, hw4⟩ : ∃ W, w3.alloc (.cells #[.int .i64 T.things, .int .i64 T.now.known, .slice B1 n1 c1, .slice B2 m1 d1] 28) = W := ⟨_, rfl⟩
  rw [hw4] at hZ HX4 HY4 HB4 HR4 HT4 ⊢
  rw [hb5] at hZ hs3
  try rw [hb5]
  have HZ := Lib.hid hZ
  clear hw4 hb5 hZ hbel HX3 HY3 HB3 HR3 HT3
  have HK0 := Lib.hid (And.intro (HZ.out.cell (i := 0) (v := .int .i64 T.things) rfl) (And.intro (HZ.out.cell (i := 1) (v := .int .i64 T.now.known) rfl) (And.intro (HZ.out.cell (i := 2) (v := .slice B1 n1 c1) rfl) (HZ.out.cell (i := 3) (v := .slice B2 m1 d1) rfl))))
  obtain ⟨hc0, hc1, hc2, hc3⟩ := HK0.out
  refine wp_region_held_drew (S := (fun w' => w'.cell? ⟨b5, 0, none⟩ = some (.int .i64 T.things) ∧ w'.cell? ⟨b5, 1, none⟩ = some (.int .i64 T.now.known) ∧ w'.cell? ⟨b5, 2, none⟩ = some (.slice B1 n1 c1) ∧ w'.cell? ⟨b5, 3, none⟩ = some (.slice B2 m1 d1))) (by kernel_rfl) ?_ (fun hHeld => ?_)
  · exact HK0.out
  refine wpAnyH_take (i := 0) (v := ?_) rfl (by kernel_rfl) (by kernel_rfl) (by kernel_rfl) (fun _ _ _ h => h) (Or.inl ⟨by rfl, ?_⟩) (by assumption) ?_
  rotate_left
  · ((intro wz hSw; (try dsimp only at hSw); go_simp) <;> with_reducible rfl)
  try simp only [Act.put, List.setIfInBounds_toArray]
  refine wpAnyH_take (i := 1) (v := ?_) rfl (by kernel_rfl) (by kernel_rfl) (by kernel_rfl) (fun _ _ _ h => h) (Or.inl ⟨by rfl, ?_⟩) (by assumption) ?_
  rotate_left
  · ((intro wz hSw; (try dsimp only at hSw); go_simp) <;> with_reducible rfl)
  try simp only [Act.put]
  refine wpAnyH_take (i := 2) (v := ?_) rfl (by kernel_rfl) (by kernel_rfl) (by kernel_rfl) (fun _ _ _ h => h) (Or.inl ⟨by rfl, ?_⟩) (by assumption) ?_
  rotate_left
  · ((intro wz hSw; (try dsimp only at hSw); go_simp) <;> with_reducible rfl)
  try simp only [Act.put]
  refine wpAnyH_ready (rs := [3]) (by kernel_rfl) (by simp) ?_
  refine AllReadyH.cons rfl (fun K hK => ?_) ?_
  · (go_simp; go_at_call 34; refine (deed_any g _ _ _ _ _ B1 B2 n1 c1 m1 d1 rfl rfl _ (by omega) (HR4.out.drewN 1)).mono ?_; rintro e w5 ⟨k, s, rfl, hsz, hr, hg⟩; have HZ1 := Lib.hid ((HZ.out.drewN 1).grownO hg (fun j e => by cases e; omega)); have HX5 := Lib.hid ((HX4.out.drewN 1).grownO hg (fun j e => by cases e; omega)); have HY5 := Lib.hid ((HY4.out.drewN 1).grownO hg (fun j e => by cases e; omega)); have HB5 := Lib.hid (below_grown (bel_drewN HB4.out 1) hg HB4.out.size (show w.heap.size ≤ g by omega)); have HT5 : Hid (TkIn w5 w2.heap.size T B1 n1 c1 B2 m1 d1) := (HT4.out.below (bel_drewN (Below.refl w4.heap.size w4) 1)).keep (keeps_grown hg hgw); have HSZ := Lib.hid hsz; have HK1 := Lib.hid (tdo_keep (w := w) HZ1.out (by omega) (.int .i64 T.things) (.int .i64 T.now.known) (.slice B1 n1 c1) (.slice B2 m1 d1) (.int .i64 k) (.string s)); obtain ⟨⟨ha0, ha1, ha2, ha3, ha4, ha5, ha6, ha7⟩, ⟨hb2, hb3⟩, ⟨hb4, hb5⟩, ⟨hb6, hb7⟩, HOUT⟩ := HX5.out.store4 (.int .i64 T.things) (.int .i64 T.now.known) (.slice B1 n1 c1) (.slice B2 m1 d1); obtain ⟨⟨he0, he1, he2, he3⟩, ⟨he4, he5⟩, HOUD⟩ := (HY5.out.other4 (g := w.heap.size) (by omega) (.int .i64 T.things) (.int .i64 T.now.known) (.slice B1 n1 c1) (.slice B2 m1 d1)).store2 (.int .i64 k) (.string s); obtain ⟨HF1, HF2, HF3, HF4⟩ := tdo_fin HB5.out HT5.out (by omega) HX5.out HY5.out (.int .i64 T.things) (.int .i64 T.now.known) (.slice B1 n1 c1) (.slice B2 m1 d1) (.int .i64 k) (.string s); clear hr hg hsz HOUT HOUD)
    refine hK.out _ _ ?_ (fun hHeld => ?_)
    · (first | with_reducible exact HK1.out.1 | with_reducible exact HK1.out.2.1 | with_reducible exact HK1.out.2.2 | go_keep)
    clear hK K
    try simp only [Act.put, List.setIfInBounds_toArray, List.set_cons_zero, List.set_cons_succ]
    refine wpAnyH_ready (rs := [4]) (by kernel_rfl) (by simp) ?_
    refine AllReadyH.cons rfl (fun K hK => ?_) ?_
    · go_simp
      refine hK.out _ _ ?_ (fun hHeld => ?_)
      · (first | with_reducible exact HK1.out.1 | with_reducible exact HK1.out.2.1 | with_reducible exact HK1.out.2.2 | go_keep)
      clear hK K
      try simp only [Act.put]
      refine wpAnyH_ready (rs := [5]) (by kernel_rfl) (by simp) ?_
      refine AllReadyH.cons rfl (fun K hK => ?_) ?_
      · go_simp
        refine hK.out _ _ ?_ (fun hHeld => ?_)
        · (first | with_reducible exact HK1.out.1 | with_reducible exact HK1.out.2.1 | with_reducible exact HK1.out.2.2 | go_keep)
        clear hK K
        try simp only [Act.put]
        refine wpAnyH_done (by kernel_rfl) ?_ _
        go_wp2_with fail
        refine bodyPost_ret_by (results_talkD (b := w.heap.size) (b2 := w.heap.size + 1) rfl rfl rfl HF1 HF2) rfl ⟨T, _, _, _, _, _, _, k, s, rfl, HF3.out, HSM.out, HSZ.out, HF4.out⟩
      exact AllReadyH.nil
    exact AllReadyH.nil
  exact AllReadyH.nil
end Go.Proofs.YtmdogidflaplkaaGreat

namespace Go.Proofs.YtmdogidflaplkaaGreat
open Go.RowKit

/-- A talk and a bool that were handed back. -/
def AtPost (X : TalkV) (b : Bool) (W : World) (e : Ending) (w' : World) : Prop := ∃ A n c B m d, e = .returned (.tuple #[.agg #[.int .i64 X.things, .int .i64 X.now.known, .slice A n c, .slice B m d], .bool b]) ∧ TkAt w' X A n c B m d ∧ Below W.heap.size W w'
theorem iTalkDo_at {T X : TalkV} {A B : Option Addr} {n c m d : Nat} {kind : Int} {text : ByteArray} {b : Bool} {w : World} (h : Hid (doTo T kind text = (X, b))) (hT : TkAt w T A n c B m d) (hs : SmallT T) (hx : text.size ≤ 1048576) :
    Calls Tryz.prog 8 #[.agg #[.int .i64 T.things, .int .i64 T.now.known, .slice A n c, .slice B m d], .agg #[.int .i64 kind, .string text]] w (AtPost X b w) := by
  have := iTalkDo T A B n c m d kind text w hT hs hx
  rw [h.out] at this
  refine this.mono ?_
  rintro e w' ⟨o, p, vs, rfl, ho, hp, _, hb⟩
  obtain ⟨A', c', B', d', rfl, rfl, hin⟩ := tk_of_owns ho hp
  exact ⟨A', _, c', B', _, d', rfl, hin.at_, hb⟩
theorem sTalkDo_at {T X : TalkV} {A B : Option Addr} {n c m d : Nat} {kind : Int} {text : ByteArray} {b : Bool} {w : World} (h : Hid (doTo T kind text = (X, b))) (hT : TkAt w T A n c B m d) (hs : SmallT T) (hx : text.size ≤ 1048576) :
    Calls Tryz.prog 9 #[.agg #[.int .i64 T.things, .int .i64 T.now.known, .slice A n c, .slice B m d], .agg #[.int .i64 kind, .string text]] w (AtPost X b w) := by
  have := sTalkDo T A B n c m d kind text w hT hs hx
  rw [h.out] at this
  refine this.mono ?_
  rintro e w' ⟨A', n', c', B', m', d', rfl, hown, hb⟩
  exact ⟨A', n', c', B', m', d', rfl, hown.1.at_, hb⟩
/-- A talk that lies in a variable. -/
structure DX (wx : World) (h : Nat) (X : TalkV) (A : Option Addr) (n c : Nat) (B : Option Addr) (m d : Nat) : Prop where
  x : Box wx h 28 [.int .i64 X.things, .int .i64 X.now.known, .slice A n c, .slice B m d]
  t : TkAt wx X A n c B m d
theorem DX.below {wx wy : World} {h : Nat} {X : TalkV} {A B : Option Addr} {n c m d : Nat} (hd : DX wx h X A n c B m d) (hb : Below wx.heap.size wx wy) : DX wy h X A n c B m d := ⟨hd.x.below hb, hd.t.below hb⟩
theorem DX.new {wx : World} {X : TalkV} {A B : Option Addr} {n c m d : Nat} (ht : TkAt wx X A n c B m d) : DX (wx.alloc (.cells #[.int .i64 X.things, .int .i64 X.now.known, .slice A n c, .slice B m d] 28)) wx.heap.size X A n c B m d := ⟨Box.new wx _ [.int .i64 X.things, .int .i64 X.now.known, .slice A n c, .slice B m d], ht.below ((Below.refl _ _).alloc (Nat.le_refl _) _)⟩
theorem DX.cells {wx : World} {h : Nat} {X : TalkV} {A B : Option Addr} {n c m d : Nat} (hd : DX wx h X A n c B m d) : wx.cell? ⟨h, 0, none⟩ = some (.int .i64 X.things) ∧ wx.cell? ⟨h, 1, none⟩ = some (.int .i64 X.now.known) ∧ wx.cell? ⟨h, 2, none⟩ = some (.slice A n c) ∧ wx.cell? ⟨h, 3, none⟩ = some (.slice B m d) := ⟨hd.x.cell rfl, hd.x.cell rfl, hd.x.cell rfl, hd.x.cell rfl⟩
theorem doTo_smallT {T : TalkV} (k : Int) (s : ByteArray) : SmallT (doTo T k s).1 := by
  cases h : okT T with
  | false => rw [doTo_bad k s h]; exact ⟨by decide, by decide, (fun s hs => by cases hs), (fun x hx => by cases hx)⟩
  | true => exact (doTo_ok k s h).2.2
end Go.Proofs.YtmdogidflaplkaaGreat
