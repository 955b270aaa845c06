/-
  What the proofs of this seat's statements share (GoI).
-/
import Derived.Test.YtmdogidflaplkaaGreatU36
import Derived.Test.YtmdogidflaplkaaGreatU22
import Derived.Test.YtmdogidflaplkaaGreatU27

namespace Go.Proofs.YtmdogidflaplkaaGreat
open Go.RowKit

/-- What the program's TalkDo hands back: all its memory is new. -/
def DonePost (T : TalkV) (b : Bool) (w : World) (e : Ending) (w' : World) : Prop := ∃ o p vs, e = .returned (.tuple #[.agg #[.int .i64 T.things, .int .i64 T.now.known, o, p], .bool b]) ∧ OwnsS w' w.heap.size o T.now.op ∧ OwnsX 25 w' w.heap.size p vs T.past ∧ ApX o vs ∧ Below w.heap.size w w'
theorem keeps_out {lo g : Nat} {w w' : World} (h : Keeps lo w w') (hg : g < lo ∨ w.heap.size ≤ g) (a b c d : Value) : Keeps lo w ((((w'.setCell ⟨g, 0, none⟩ a).setCell ⟨g, 1, none⟩ b).setCell ⟨g, 2, none⟩ c).setCell ⟨g, 3, none⟩ d) := by
  have hset : ∀ (W : World) (i : Nat) (v : Value), Keeps lo w W → Keeps lo w (W.setCell ⟨g, i, none⟩ v) := fun W i v hk =>
    ⟨by rw [show (W.setCell ⟨g, i, none⟩ v).heap.size = W.heap.size by simp [World.setCell]]; exact hk.1, fun b h1 h2 => (Below.heap_setCell W ⟨g, i, none⟩ v b (fun e => by simp only at e; omega)).trans (hk.2 b h1 h2)⟩
  exact hset _ _ _ (hset _ _ _ (hset _ _ _ (hset _ _ _ h)))
theorem cells6 {w W : World} {t q kind : Int} {A B : Option Addr} {n c m d : Nat} {text : ByteArray} (hX : Box W w.heap.size 28 [.int .i64 t, .int .i64 q, .slice A n c, .slice B m d]) (hY : Box W (w.heap.size + 1) 30 [.int .i64 kind, .string text]) : (W.cell? ⟨w.heap.size, 0, none⟩ = some (.int .i64 t) ∧ W.cell? ⟨w.heap.size, 1, none⟩ = some (.int .i64 q) ∧ W.cell? ⟨w.heap.size, 2, none⟩ = some (.slice A n c) ∧ W.cell? ⟨w.heap.size, 3, none⟩ = some (.slice B m d) ∧ W.cell? ⟨w.heap.size + 1, 0, none⟩ = some (.int .i64 kind) ∧ W.cell? ⟨w.heap.size + 1, 1, none⟩ = some (.string text)) :=
  ⟨hX.cell (i := 0) (v := .int .i64 t) rfl, hX.cell (i := 1) (v := .int .i64 q) rfl, hX.cell (i := 2) (v := .slice A n c) rfl, hX.cell (i := 3) (v := .slice B m d) rfl, hY.cell (i := 0) (v := .int .i64 kind) rfl, hY.cell (i := 1) (v := .string text) rfl⟩
/-- The talk that is stored: facts of the store, and what lies there behind it. -/
theorem did_mid {w W0 wc w7 wz : World} {X : TalkV} {t q kind : Int} {A B A' B' : Option Addr} {n c m d n' c' m' d' g : Nat} {text : ByteArray} (hX : Box W0 w.heap.size 28 [.int .i64 t, .int .i64 q, .slice A n c, .slice B m d]) (hY : Box W0 (w.heap.size + 1) 30 [.int .i64 kind, .string text]) (hB : Below w.heap.size w W0)
    (hz : Below W0.heap.size W0 wz) (hg : W0.heap.size ≤ g) (hk : Keeps wc.heap.size w7 wz) (hgo : g < wc.heap.size ∨ w7.heap.size ≤ g) (hZ : Box wz g 69 [.int .i64 0, .slice none 0 0, .int .i64 0, .slice none 0 0]) (hat : ∀ w2, Below w.heap.size w w2 → Keeps wc.heap.size w7 w2 → TkAt w2 X A' n' c' B' m' d') :
    (wz.cell? ⟨w.heap.size, 0, none⟩ = some (.int .i64 t) ∧ wz.cell? ⟨w.heap.size, 1, none⟩ = some (.int .i64 q) ∧ wz.cell? ⟨w.heap.size, 2, none⟩ = some (.slice A n c) ∧ wz.cell? ⟨w.heap.size, 3, none⟩ = some (.slice B m d) ∧ wz.cell? ⟨w.heap.size + 1, 0, none⟩ = some (.int .i64 kind) ∧ wz.cell? ⟨w.heap.size + 1, 1, none⟩ = some (.string text)) ∧ (((((wz.setCell ⟨g, 0, none⟩ (.int .i64 X.now.known)).setCell ⟨g, 1, none⟩ (.slice A' n' c')).setCell ⟨g, 2, none⟩ (.int .i64 X.things)).setCell ⟨g, 3, none⟩ (.slice B' m' d')).cell? ⟨w.heap.size, 0, none⟩ = some (.int .i64 t) ∧ ((((wz.setCell ⟨g, 0, none⟩ (.int .i64 X.now.known)).setCell ⟨g, 1, none⟩ (.slice A' n' c')).setCell ⟨g, 2, none⟩ (.int .i64 X.things)).setCell ⟨g, 3, none⟩ (.slice B' m' d')).cell? ⟨w.heap.size, 1, none⟩ = some (.int .i64 q) ∧ ((((wz.setCell ⟨g, 0, none⟩ (.int .i64 X.now.known)).setCell ⟨g, 1, none⟩ (.slice A' n' c')).setCell ⟨g, 2, none⟩ (.int .i64 X.things)).setCell ⟨g, 3, none⟩ (.slice B' m' d')).cell? ⟨w.heap.size, 2, none⟩ = some (.slice A n c) ∧ ((((wz.setCell ⟨g, 0, none⟩ (.int .i64 X.now.known)).setCell ⟨g, 1, none⟩ (.slice A' n' c')).setCell ⟨g, 2, none⟩ (.int .i64 X.things)).setCell ⟨g, 3, none⟩ (.slice B' m' d')).cell? ⟨w.heap.size, 3, none⟩ = some (.slice B m d) ∧ ((((wz.setCell ⟨g, 0, none⟩ (.int .i64 X.now.known)).setCell ⟨g, 1, none⟩ (.slice A' n' c')).setCell ⟨g, 2, none⟩ (.int .i64 X.things)).setCell ⟨g, 3, none⟩ (.slice B' m' d')).cell? ⟨w.heap.size + 1, 0, none⟩ = some (.int .i64 kind) ∧ ((((wz.setCell ⟨g, 0, none⟩ (.int .i64 X.now.known)).setCell ⟨g, 1, none⟩ (.slice A' n' c')).setCell ⟨g, 2, none⟩ (.int .i64 X.things)).setCell ⟨g, 3, none⟩ (.slice B' m' d')).cell? ⟨w.heap.size + 1, 1, none⟩ = some (.string text)) ∧ Hid ((wz.cell? ⟨g, 0, none⟩ = some (.int .i64 0) ∧ wz.cell? ⟨g, 1, none⟩ = some (.slice none 0 0) ∧ wz.cell? ⟨g, 2, none⟩ = some (.int .i64 0) ∧ wz.cell? ⟨g, 3, none⟩ = some (.slice none 0 0) ∧ wz.frozen? ⟨g, 0, none⟩ = false ∧ wz.frozen? ⟨g, 1, none⟩ = false ∧ wz.frozen? ⟨g, 2, none⟩ = false ∧ wz.frozen? ⟨g, 3, none⟩ = false) ∧ ((wz.setCell ⟨g, 0, none⟩ (.int .i64 X.now.known)).cell? ⟨g, 1, none⟩ = some (.slice none 0 0) ∧ (wz.setCell ⟨g, 0, none⟩ (.int .i64 X.now.known)).frozen? ⟨g, 1, none⟩ = false) ∧ (((wz.setCell ⟨g, 0, none⟩ (.int .i64 X.now.known)).setCell ⟨g, 1, none⟩ (.slice A' n' c')).cell? ⟨g, 2, none⟩ = some (.int .i64 0) ∧ ((wz.setCell ⟨g, 0, none⟩ (.int .i64 X.now.known)).setCell ⟨g, 1, none⟩ (.slice A' n' c')).frozen? ⟨g, 2, none⟩ = false) ∧ ((((wz.setCell ⟨g, 0, none⟩ (.int .i64 X.now.known)).setCell ⟨g, 1, none⟩ (.slice A' n' c')).setCell ⟨g, 2, none⟩ (.int .i64 X.things)).cell? ⟨g, 3, none⟩ = some (.slice none 0 0) ∧ (((wz.setCell ⟨g, 0, none⟩ (.int .i64 X.now.known)).setCell ⟨g, 1, none⟩ (.slice A' n' c')).setCell ⟨g, 2, none⟩ (.int .i64 X.things)).frozen? ⟨g, 3, none⟩ = false)) ∧ Hid (Box ((((wz.setCell ⟨g, 0, none⟩ (.int .i64 X.now.known)).setCell ⟨g, 1, none⟩ (.slice A' n' c')).setCell ⟨g, 2, none⟩ (.int .i64 X.things)).setCell ⟨g, 3, none⟩ (.slice B' m' d')) g 69 [.int .i64 X.now.known, .slice A' n' c', .int .i64 X.things, .slice B' m' d'] ∧ TkAt ((((wz.setCell ⟨g, 0, none⟩ (.int .i64 X.now.known)).setCell ⟨g, 1, none⟩ (.slice A' n' c')).setCell ⟨g, 2, none⟩ (.int .i64 X.things)).setCell ⟨g, 3, none⟩ (.slice B' m' d')) X A' n' c' B' m' d' ∧ Below W0.heap.size W0 ((((wz.setCell ⟨g, 0, none⟩ (.int .i64 X.now.known)).setCell ⟨g, 1, none⟩ (.slice A' n' c')).setCell ⟨g, 2, none⟩ (.int .i64 X.things)).setCell ⟨g, 3, none⟩ (.slice B' m' d'))) := by
  obtain ⟨f1, f2, f3, f4, hout⟩ := hZ.store4 (.int .i64 X.now.known) (.slice A' n' c') (.int .i64 X.things) (.slice B' m' d')
  have hs := bel_set4 hz hg (.int .i64 X.now.known) (.slice A' n' c') (.int .i64 X.things) (.slice B' m' d')
  exact ⟨cells6 (hX.below hz) (hY.below hz), cells6 (hX.below hs) (hY.below hs), ⟨f1, f2, f3, f4⟩, hout, hat _ (bel_trans hB hs) (keeps_out hk hgo _ _ _ _), hs⟩
theorem size_lt_alloc0 (W : World) (o : Obj) : W.heap.size < (W.alloc o).heap.size := by rw [World.size_alloc]; exact Nat.lt_succ_self _
theorem size_lt_alloc {W w' : World} {o : Obj} (h : Below (W.drew.alloc o).heap.size (W.drew.alloc o) w') : W.heap.size < w'.heap.size := Nat.lt_of_lt_of_le (size_lt_alloc0 W.drew o) h.size
set_option maxRecDepth 100000 in
set_option maxHeartbeats 8000000 in
theorem iTalkDo (T : TalkV) (A B : Option Addr) (n c m d : Nat) (kind : Int) (text : ByteArray) (w : World) (hT : TkAt w T A n c B m d) (hs : SmallT T) (hx : text.size ≤ 1048576) :
    Calls Tryz.prog 8 #[.agg #[.int .i64 T.things, .int .i64 T.now.known, .slice A n c, .slice B m d], .agg #[.int .i64 kind, .string text]] w (DonePost (doTo T kind text).1 (doTo T kind text).2 w) := by
  have HT := Lib.hid hT
  obtain ⟨z, hz⟩ : ∃ z, okT T = z := ⟨_, rfl⟩
  have HOK : Hid (∀ W, Below w.heap.size w W → Calls Tryz.prog 11 #[.agg #[.int .i64 T.things, .int .i64 T.now.known, .slice A n c, .slice B m d]] W fun e w' => e = .returned (.bool z) ∧ Below W.heap.size W w') := fun W hb => by rw [← hz]; exact iTalkOk T A B n c m d W (hT.below hb) hs
  have HDO : Hid (z = true → ∀ W, Below w.heap.size w W → Calls Tryz.prog 36 #[.agg #[.int .i64 T.now.known, .slice A n c, .int .i64 T.things, .slice B m d], .agg #[.int .i64 kind, .string text]] W (GoPost (doTo T kind text).1 (doTo T kind text).2 (Below w.heap.size w) W)) := fun h W hb => iDo T A B n c m d kind text (Below w.heap.size w) W (TkR.of_at hT) hb (hz.trans h) hx
  have HTO : Hid (∀ W, Calls Tryz.prog 35 #[.agg #[.int .i64 T.things, .int .i64 T.now.known, .slice A n c, .slice B m d]] W fun e w' => e = .returned (.agg #[.int .i64 T.now.known, .slice A n c, .int .i64 T.things, .slice B m d]) ∧ Below W.heap.size W w') := fun W => iTalkingOf T.things T.now.known _ _ A B n c m d rfl rfl W
  have HSM : Hid (z = true → SmallT (doTo T kind text).1) := fun h => (doTo_ok kind text (hz.trans h)).2.2
  have HBAD : Hid (z = false → (doTo T kind text).1 = noTalk ∧ (doTo T kind text).2 = false) := fun h => by rw [doTo_bad kind text (hz.trans h)]; exact ⟨rfl, rfl⟩
  obtain ⟨X, hX⟩ : ∃ X, (doTo T kind text).1 = X := ⟨_, rfl⟩
  obtain ⟨r, hr⟩ : ∃ r, (doTo T kind text).2 = r := ⟨_, rfl⟩
  rw [hX] at HSM
  rw [hX, hr] at HDO HBAD ⊢
  obtain ⟨t, ht⟩ : ∃ t, T.things = t := ⟨_, rfl⟩
  obtain ⟨q, hq⟩ : ∃ q, T.now.known = q := ⟨_, rfl⟩
  rw [ht, hq] at HOK HDO HTO ⊢
  have HX0 : Hid (Box (((w.alloc (.cells #[.int .i64 t, .int .i64 q, .slice A n c, .slice B m d] 28)).alloc (.cells #[.int .i64 kind, .string text] 30)).alloc (.cells #[.int .i64 0, .int .i64 0, .slice none 0 0, .slice none 0 0] 28)) w.heap.size 28 [.int .i64 t, .int .i64 q, .slice A n c, .slice B m d]) := ((Box.new w _ [.int .i64 t, .int .i64 q, .slice A n c, .slice B m d]).alloc _).alloc _
  have HY0 : Hid (Box (((w.alloc (.cells #[.int .i64 t, .int .i64 q, .slice A n c, .slice B m d] 28)).alloc (.cells #[.int .i64 kind, .string text] 30)).alloc (.cells #[.int .i64 0, .int .i64 0, .slice none 0 0, .slice none 0 0] 28)) (w.heap.size + 1) 30 [.int .i64 kind, .string text]) := by
    have := (Box.new (w.alloc (.cells #[.int .i64 t, .int .i64 q, .slice A n c, .slice B m d] 28)) 30 [.int .i64 kind, .string text]).alloc (.cells #[.int .i64 0, .int .i64 0, .slice none 0 0, .slice none 0 0] 28)
    rw [World.size_alloc] at this; exact this
  have HR0 : Hid (Box (((w.alloc (.cells #[.int .i64 t, .int .i64 q, .slice A n c, .slice B m d] 28)).alloc (.cells #[.int .i64 kind, .string text] 30)).alloc (.cells #[.int .i64 0, .int .i64 0, .slice none 0 0, .slice none 0 0] 28)) (w.heap.size + 2) 28 [.int .i64 0, .int .i64 0, .slice none 0 0, .slice none 0 0]) := by
    have := Box.new ((w.alloc (.cells #[.int .i64 t, .int .i64 q, .slice A n c, .slice B m d] 28)).alloc (.cells #[.int .i64 kind, .string text] 30)) 28 [.int .i64 0, .int .i64 0, .slice none 0 0, .slice none 0 0]
    rw [World.size_alloc, World.size_alloc] at this; exact this
  have HB0 : Hid (Below w.heap.size w (((w.alloc (.cells #[.int .i64 t, .int .i64 q, .slice A n c, .slice B m d] 28)).alloc (.cells #[.int .i64 kind, .string text] 30)).alloc (.cells #[.int .i64 0, .int .i64 0, .slice none 0 0, .slice none 0 0] 28))) := (((Below.refl _ _).alloc (Nat.le_refl _) _).alloc (by rw [World.size_alloc]; omega) _).alloc (by rw [World.size_alloc, World.size_alloc]; omega) _
  clear hT hs hx hz hX hr ht hq
  go_enter Tryz.func8, Tryz.ntmps8
  go_upto_region 1 with fail
  obtain ⟨W1, hW1⟩ : ∃ W, ((w.alloc (.cells #[.int .i64 t, .int .i64 q, .slice A n c, .slice B m d] 28)).alloc (.cells #[.int .i64 kind, .string text] 30)).alloc (.cells #[.int .i64 0, .int .i64 0, .slice none 0 0, .slice none 0 0] 28) = W := ⟨_, rfl⟩
  rw [hW1] at HX0 HY0 HR0 HB0 ⊢
  clear hW1
  have hc0 := HX0.out.cell (i := 0) (v := .int .i64 t) rfl
  have hc1 := HX0.out.cell (i := 1) (v := .int .i64 q) rfl
  have hc2 := HX0.out.cell (i := 2) (v := .slice A n c) rfl
  have hc3 := HX0.out.cell (i := 3) (v := .slice B m d) rfl
  go_wp2_with fail
  refine (HOK.out W1 HB0.out).mono ?_
  rintro e W0 ⟨rfl, hb⟩
  have HX := Lib.hid (HX0.out.below hb)
  have HY := Lib.hid (HY0.out.below hb)
  have HR := Lib.hid (HR0.out.below hb)
  have HB := Lib.hid (bel_trans HB0.out hb)
  clear hb hc0 hc1 hc2 hc3 HX0 HY0 HR0 HB0 HOK
  cases z with
  | false =>
    obtain ⟨hXT, rfl⟩ := HBAD.out rfl
    subst hXT
    obtain ⟨⟨ha0, ha1, ha2, ha3, ha4, ha5, ha6, ha7⟩, ⟨hb2, hb3⟩, ⟨hb4, hb5⟩, ⟨hb6, hb7⟩, HOUT⟩ := HR.out.store4 (.int .i64 0) (.int .i64 0) (.slice none 0 0) (.slice none 0 0)
    have HBE := Lib.hid (bel_set4 HB.out (show w.heap.size ≤ w.heap.size + 2 by omega) (.int .i64 0) (.int .i64 0) (.slice none 0 0) (.slice none 0 0))
    go_wp2_with fail
    refine bodyPost_ret_by (results_talkB (b := w.heap.size + 2) rfl rfl rfl HOUT) rfl ⟨.slice none 0 0, .slice none 0 0, [], rfl, OwnsS.nil _ _, OwnsX.nil _ _ _, ApX.nil _, HBE.out⟩
  | true =>
    have HDQ := Lib.hid (HDO.out rfl)
    have HSQ := Lib.hid (HSM.out rfl)
    have HC := Lib.hid (cells6 HX.out HY.out)
    have HKZ := Lib.hid (cells6 (HX.out.drew.alloc (.cells #[.int .i64 0, .slice none 0 0, .int .i64 0, .slice none 0 0] 69)) (HY.out.drew.alloc (.cells #[.int .i64 0, .slice none 0 0, .int .i64 0, .slice none 0 0] 69)))
    obtain ⟨hc0, hc1, hc2, hc3, hy0, hy1⟩ := HC.out
    clear HDO HSM HBAD
    go_upto_region 3 with fail
    go_cut [6, 7] from 6 to 18 (fun s6 s7 wx => ∃ g A' n' c' B' m' d', s6 = .pointer (some ⟨g, 0, none⟩) ∧ s7 = .bool r ∧ (Box wx g 69 [.int .i64 X.now.known, .slice A' n' c', .int .i64 X.things, .slice B' m' d'] ∧ TkAt wx X A' n' c' B' m' d' ∧ Below W0.heap.size W0 wx))
    case first =>
      refine wp_region_held_drew (S := (fun w' => w'.cell? ⟨w.heap.size, 0, none⟩ = some (.int .i64 t) ∧ w'.cell? ⟨w.heap.size, 1, none⟩ = some (.int .i64 q) ∧ w'.cell? ⟨w.heap.size, 2, none⟩ = some (.slice A n c) ∧ w'.cell? ⟨w.heap.size, 3, none⟩ = some (.slice B m d) ∧ w'.cell? ⟨w.heap.size + 1, 0, none⟩ = some (.int .i64 kind) ∧ w'.cell? ⟨w.heap.size + 1, 1, none⟩ = some (.string text))) (by kernel_rfl) ?_ (fun hHeld => ?_)
      · exact HC.out
      refine wpAnyH_take (i := 0) (v := ?_) rfl (by kernel_rfl) (by kernel_rfl) (by kernel_rfl) (fun _ _ _ h => h) (Or.inl ⟨by rfl, ?_⟩) (by assumption) ?_
      rotate_left
      · ((intro wz hSw; (try dsimp only at hSw); go_simp) <;> with_reducible rfl)
      try simp only [Act.put, List.setIfInBounds_toArray]
      refine wpAnyH_take (i := 2) (v := ?_) rfl (by kernel_rfl) (by kernel_rfl) (by kernel_rfl) (fun _ _ _ h => h) (Or.inl ⟨by rfl, ?_⟩) (by assumption) ?_
      rotate_left
      · ((intro wz hSw; (try dsimp only at hSw); go_simp) <;> with_reducible rfl)
      try simp only [Act.put]
      refine wpAnyH_ready (rs := [1, 7]) (by kernel_rfl) (by simp) ?_
      refine AllReadyH.cons rfl (fun K hK => ?_) ?_
      · (go_simp; (first | (go_at_call 35; (with_reducible refine (HTO.out W0.drew).mono ?_); rintro e w6 ⟨rfl, hb⟩; have HB6 := Lib.hid (bel_trans (bel_drewN (Below.refl W0.heap.size W0) 1) hb); have HK1 := Lib.hid (cells6 (HX.out.below HB6.out) (HY.out.below HB6.out)); have HKB := Lib.hid (cells6 ((HX.out.below HB6.out).alloc (.cells #[.int .i64 0, .slice none 0 0, .int .i64 0, .slice none 0 0] 69)) ((HY.out.below HB6.out).alloc (.cells #[.int .i64 0, .slice none 0 0, .int .i64 0, .slice none 0 0] 69))); clear hb) | (go_at_call 35; refine (HTO.out (W0.drew.alloc (.cells #[.int .i64 0, .slice none 0 0, .int .i64 0, .slice none 0 0] 69))).mono ?_; rintro e w6 ⟨rfl, hb⟩; have HB6 := Lib.hid (bel_trans ((bel_drewN (Below.refl W0.heap.size W0) 1).alloc (Nat.le_refl _) (.cells #[.int .i64 0, .slice none 0 0, .int .i64 0, .slice none 0 0] 69)) hb); have HZA : Hid (Box w6 W0.heap.size 69 [.int .i64 0, .slice none 0 0, .int .i64 0, .slice none 0 0] ∧ W0.heap.size < w6.heap.size) := ⟨(Box.new W0.drew 69 [.int .i64 0, .slice none 0 0, .int .i64 0, .slice none 0 0]).below hb, size_lt_alloc hb⟩; have HK1 := Lib.hid (cells6 (HX.out.below HB6.out) (HY.out.below HB6.out)); clear hb)); (try go_simp))
        refine hK.out _ _ ?_ (fun hHeld => ?_)
        · (first | exact HK3.out | exact HK2.out | exact HK1.out | exact HKB.out | exact HKZ.out | exact HC.out | go_keep)
        clear hK K
        try simp only [Act.put, List.setIfInBounds_toArray, List.set_cons_zero, List.set_cons_succ]
        refine wpAnyH_ready (rs := [3, 7]) (by kernel_rfl) (by simp) ?_
        refine AllReadyH.cons rfl (fun K hK => ?_) ?_
        · (go_simp; (first | (have hza := HZA.out; go_at_call 36; refine (HDQ.out w6 (bel_trans HB.out HB6.out)).mono ?_; rintro e w7 ⟨A', n', c', B', m', d', rfl, hat, hb⟩; obtain ⟨hk6, hks, hf, hfin⟩ := did_mid HX.out HY.out HB.out (bel_trans HB6.out hb) (Nat.le_refl _) (Keeps.refl _ _) (.inl hza.2) (hza.1.below hb) hat; obtain ⟨⟨ha0, ha1, ha2, ha3, ha4, ha5, ha6, ha7⟩, ⟨hb2, hb3⟩, ⟨hb4, hb5⟩, ⟨hb6, hb7⟩⟩ := hf.out; have HK2 := Lib.hid hk6; have HK3 := Lib.hid hks; have HFIN := Lib.hid hfin.out; clear hat hb hk6 hks hf hfin hza) | (go_at_call 36; (with_reducible refine (HDQ.out (w6.alloc (.cells #[.int .i64 0, .slice none 0 0, .int .i64 0, .slice none 0 0] 69)) (bel_trans HB.out (HB6.out.alloc HB6.out.size _))).mono ?_); rintro e w7 ⟨A', n', c', B', m', d', rfl, hat, hb⟩; obtain ⟨hk6, hks, hf, hfin⟩ := did_mid HX.out HY.out HB.out (bel_trans (HB6.out.alloc HB6.out.size _) hb) HB6.out.size (Keeps.refl _ _) (.inl (size_lt_alloc0 w6 _)) ((Box.new w6 69 [.int .i64 0, .slice none 0 0, .int .i64 0, .slice none 0 0]).below hb) hat; obtain ⟨⟨ha0, ha1, ha2, ha3, ha4, ha5, ha6, ha7⟩, ⟨hb2, hb3⟩, ⟨hb4, hb5⟩, ⟨hb6, hb7⟩⟩ := hf.out; have HK2 := Lib.hid hk6; have HK3 := Lib.hid hks; have HFIN := Lib.hid hfin.out; clear hat hb hk6 hks hf hfin) | (go_at_call 36; (with_reducible refine (HDQ.out w6 (bel_trans HB.out HB6.out)).mono ?_); rintro e w7 ⟨A', n', c', B', m', d', rfl, hat, hb⟩; have hb7' := bel_trans HB6.out hb; have HK1 := Lib.hid (cells6 (HX.out.below hb7') (HY.out.below hb7')); obtain ⟨hk6, hks, hf, hfin⟩ := did_mid HX.out HY.out HB.out (hb7'.alloc hb7'.size (.cells #[.int .i64 0, .slice none 0 0, .int .i64 0, .slice none 0 0] 69)) hb7'.size (keeps_alloc (w := w7) _) (.inr (Nat.le_refl _)) (Box.new w7 69 [.int .i64 0, .slice none 0 0, .int .i64 0, .slice none 0 0]) hat; obtain ⟨⟨ha0, ha1, ha2, ha3, ha4, ha5, ha6, ha7⟩, ⟨hb2, hb3⟩, ⟨hb4, hb5⟩, ⟨hb6, hb7⟩⟩ := hf.out; have HK2 := Lib.hid hk6; have HK3 := Lib.hid hks; have HFIN := Lib.hid hfin.out; have HFIN2 : Hid (Box (w7.alloc (.cells #[.int .i64 X.now.known, .slice A' n' c', .int .i64 X.things, .slice B' m' d'] 69)) w7.heap.size 69 [.int .i64 X.now.known, .slice A' n' c', .int .i64 X.things, .slice B' m' d'] ∧ TkAt (w7.alloc (.cells #[.int .i64 X.now.known, .slice A' n' c', .int .i64 X.things, .slice B' m' d'] 69)) X A' n' c' B' m' d' ∧ Below W0.heap.size W0 (w7.alloc (.cells #[.int .i64 X.now.known, .slice A' n' c', .int .i64 X.things, .slice B' m' d'] 69))) := ⟨Box.new w7 69 [.int .i64 X.now.known, .slice A' n' c', .int .i64 X.things, .slice B' m' d'], hat _ (bel_trans HB.out (hb7'.alloc hb7'.size _)) (keeps_alloc (w := w7) _), hb7'.alloc hb7'.size _⟩; clear hat hb hb7' hk6 hks hf hfin)); (try go_simp))
          refine hK.out _ _ ?_ (fun hHeld => ?_)
          · (first | exact HK3.out | exact HK2.out | exact HK1.out | exact HKB.out | exact HKZ.out | exact HC.out | go_keep)
          clear hK K
          try simp only [Act.put, List.setIfInBounds_toArray, List.set_cons_zero, List.set_cons_succ]
          refine wpAnyH_take (i := 4) (v := ?_) rfl (by kernel_rfl) (by kernel_rfl) (by kernel_rfl) (fun _ _ _ h => h) (Or.inl ⟨by rfl, ?_⟩) (by assumption) ?_
          rotate_left
          · ((intro wz hSw; (try dsimp only at hSw); go_simp) <;> with_reducible rfl)
          try simp only [Act.put, List.setIfInBounds_toArray]
          refine wpAnyH_take (i := 5) (v := ?_) rfl (by kernel_rfl) (by kernel_rfl) (by kernel_rfl) (fun _ _ _ h => h) (Or.inl ⟨by rfl, ?_⟩) (by assumption) ?_
          rotate_left
          · ((intro wz hSw; (try dsimp only at hSw); go_simp) <;> with_reducible rfl)
          try simp only [Act.put]
          refine wpAnyH_take (i := 6) (v := ?_) rfl (by kernel_rfl) (by kernel_rfl) (by kernel_rfl) (fun _ _ _ h => h) (Or.inl ⟨by rfl, ?_⟩) (by assumption) ?_
          rotate_left
          · ((intro wz hSw; (try dsimp only at hSw); go_simp) <;> with_reducible rfl)
          try simp only [Act.put]
          refine wpAnyH_ready (rs := [7]) (by kernel_rfl) (by simp) ?_
          refine AllReadyH.cons rfl (fun K hK => ?_) ?_
          · go_simp
            refine hK.out _ _ ?_ (fun hHeld => ?_)
            · (first | exact HK3.out | exact HK2.out | exact HK1.out | exact HKB.out | exact HKZ.out | exact HC.out | go_keep)
            clear hK K
            try simp only [Act.put, List.setIfInBounds_toArray, List.set_cons_zero, List.set_cons_succ]
            refine wpAnyH_ready (rs := [8]) (by kernel_rfl) (by simp) ?_
            refine AllReadyH.cons rfl (fun K hK => ?_) ?_
            · go_simp
              refine hK.out _ _ ?_ (fun hHeld => ?_)
              · (first | exact HK3.out | exact HK2.out | exact HK1.out | exact HKB.out | exact HKZ.out | exact HC.out | go_keep)
              clear hK K
              try simp only [Act.put]
              refine wpAnyH_ready (rs := [9]) (by kernel_rfl) (by simp) ?_
              refine AllReadyH.cons rfl (fun K hK => ?_) ?_
              · go_simp
                refine hK.out _ _ ?_ (fun hHeld => ?_)
                · (first | exact HK3.out | exact HK2.out | exact HK1.out | exact HKB.out | exact HKZ.out | exact HC.out | go_keep)
                clear hK K
                try simp only [Act.put, List.setIfInBounds_toArray, List.set_cons_zero, List.set_cons_succ]
                refine wpAnyH_done (by kernel_rfl) ?_ _
                go_wp2_with fail
                go_meet
                first | exact ⟨_, A', n', c', B', m', d', rfl, rfl, HFIN.out⟩ | exact ⟨_, A', n', c', B', m', d', rfl, rfl, HFIN2.out⟩
              exact AllReadyH.nil
            exact AllReadyH.nil
          exact AllReadyH.nil
        refine AllReadyH.cons rfl (fun K hK => ?_) ?_
        · go_simp
          refine hK.out _ _ ?_ (fun hHeld => ?_)
          · (first | exact HK3.out | exact HK2.out | exact HK1.out | exact HKB.out | exact HKZ.out | exact HC.out | go_keep)
          clear hK K
          try simp only [Act.put, List.setIfInBounds_toArray, List.set_cons_zero, List.set_cons_succ]
          refine wpAnyH_ready (rs := [3]) (by kernel_rfl) (by simp) ?_
          refine AllReadyH.cons rfl (fun K hK => ?_) ?_
          · (go_simp; (first | (have hza := HZA.out; go_at_call 36; refine (HDQ.out w6 (bel_trans HB.out HB6.out)).mono ?_; rintro e w7 ⟨A', n', c', B', m', d', rfl, hat, hb⟩; obtain ⟨hk6, hks, hf, hfin⟩ := did_mid HX.out HY.out HB.out (bel_trans HB6.out hb) (Nat.le_refl _) (Keeps.refl _ _) (.inl hza.2) (hza.1.below hb) hat; obtain ⟨⟨ha0, ha1, ha2, ha3, ha4, ha5, ha6, ha7⟩, ⟨hb2, hb3⟩, ⟨hb4, hb5⟩, ⟨hb6, hb7⟩⟩ := hf.out; have HK2 := Lib.hid hk6; have HK3 := Lib.hid hks; have HFIN := Lib.hid hfin.out; clear hat hb hk6 hks hf hfin hza) | (go_at_call 36; (with_reducible refine (HDQ.out (w6.alloc (.cells #[.int .i64 0, .slice none 0 0, .int .i64 0, .slice none 0 0] 69)) (bel_trans HB.out (HB6.out.alloc HB6.out.size _))).mono ?_); rintro e w7 ⟨A', n', c', B', m', d', rfl, hat, hb⟩; obtain ⟨hk6, hks, hf, hfin⟩ := did_mid HX.out HY.out HB.out (bel_trans (HB6.out.alloc HB6.out.size _) hb) HB6.out.size (Keeps.refl _ _) (.inl (size_lt_alloc0 w6 _)) ((Box.new w6 69 [.int .i64 0, .slice none 0 0, .int .i64 0, .slice none 0 0]).below hb) hat; obtain ⟨⟨ha0, ha1, ha2, ha3, ha4, ha5, ha6, ha7⟩, ⟨hb2, hb3⟩, ⟨hb4, hb5⟩, ⟨hb6, hb7⟩⟩ := hf.out; have HK2 := Lib.hid hk6; have HK3 := Lib.hid hks; have HFIN := Lib.hid hfin.out; clear hat hb hk6 hks hf hfin) | (go_at_call 36; (with_reducible refine (HDQ.out w6 (bel_trans HB.out HB6.out)).mono ?_); rintro e w7 ⟨A', n', c', B', m', d', rfl, hat, hb⟩; have hb7' := bel_trans HB6.out hb; have HK1 := Lib.hid (cells6 (HX.out.below hb7') (HY.out.below hb7')); obtain ⟨hk6, hks, hf, hfin⟩ := did_mid HX.out HY.out HB.out (hb7'.alloc hb7'.size (.cells #[.int .i64 0, .slice none 0 0, .int .i64 0, .slice none 0 0] 69)) hb7'.size (keeps_alloc (w := w7) _) (.inr (Nat.le_refl _)) (Box.new w7 69 [.int .i64 0, .slice none 0 0, .int .i64 0, .slice none 0 0]) hat; obtain ⟨⟨ha0, ha1, ha2, ha3, ha4, ha5, ha6, ha7⟩, ⟨hb2, hb3⟩, ⟨hb4, hb5⟩, ⟨hb6, hb7⟩⟩ := hf.out; have HK2 := Lib.hid hk6; have HK3 := Lib.hid hks; have HFIN := Lib.hid hfin.out; have HFIN2 : Hid (Box (w7.alloc (.cells #[.int .i64 X.now.known, .slice A' n' c', .int .i64 X.things, .slice B' m' d'] 69)) w7.heap.size 69 [.int .i64 X.now.known, .slice A' n' c', .int .i64 X.things, .slice B' m' d'] ∧ TkAt (w7.alloc (.cells #[.int .i64 X.now.known, .slice A' n' c', .int .i64 X.things, .slice B' m' d'] 69)) X A' n' c' B' m' d' ∧ Below W0.heap.size W0 (w7.alloc (.cells #[.int .i64 X.now.known, .slice A' n' c', .int .i64 X.things, .slice B' m' d'] 69))) := ⟨Box.new w7 69 [.int .i64 X.now.known, .slice A' n' c', .int .i64 X.things, .slice B' m' d'], hat _ (bel_trans HB.out (hb7'.alloc hb7'.size _)) (keeps_alloc (w := w7) _), hb7'.alloc hb7'.size _⟩; clear hat hb hb7' hk6 hks hf hfin)); (try go_simp))
            refine hK.out _ _ ?_ (fun hHeld => ?_)
            · (first | exact HK3.out | exact HK2.out | exact HK1.out | exact HKB.out | exact HKZ.out | exact HC.out | go_keep)
            clear hK K
            try simp only [Act.put, List.setIfInBounds_toArray, List.set_cons_zero, List.set_cons_succ]
            refine wpAnyH_take (i := 4) (v := ?_) rfl (by kernel_rfl) (by kernel_rfl) (by kernel_rfl) (fun _ _ _ h => h) (Or.inl ⟨by rfl, ?_⟩) (by assumption) ?_
            rotate_left
            · ((intro wz hSw; (try dsimp only at hSw); go_simp) <;> with_reducible rfl)
            try simp only [Act.put, List.setIfInBounds_toArray]
            refine wpAnyH_take (i := 5) (v := ?_) rfl (by kernel_rfl) (by kernel_rfl) (by kernel_rfl) (fun _ _ _ h => h) (Or.inl ⟨by rfl, ?_⟩) (by assumption) ?_
            rotate_left
            · ((intro wz hSw; (try dsimp only at hSw); go_simp) <;> with_reducible rfl)
            try simp only [Act.put]
            refine wpAnyH_take (i := 6) (v := ?_) rfl (by kernel_rfl) (by kernel_rfl) (by kernel_rfl) (fun _ _ _ h => h) (Or.inl ⟨by rfl, ?_⟩) (by assumption) ?_
            rotate_left
            · ((intro wz hSw; (try dsimp only at hSw); go_simp) <;> with_reducible rfl)
            try simp only [Act.put]
            refine wpAnyH_ready (rs := [8]) (by kernel_rfl) (by simp) ?_
            refine AllReadyH.cons rfl (fun K hK => ?_) ?_
            · go_simp
              refine hK.out _ _ ?_ (fun hHeld => ?_)
              · (first | exact HK3.out | exact HK2.out | exact HK1.out | exact HKB.out | exact HKZ.out | exact HC.out | go_keep)
              clear hK K
              try simp only [Act.put]
              refine wpAnyH_ready (rs := [9]) (by kernel_rfl) (by simp) ?_
              refine AllReadyH.cons rfl (fun K hK => ?_) ?_
              · go_simp
                refine hK.out _ _ ?_ (fun hHeld => ?_)
                · (first | exact HK3.out | exact HK2.out | exact HK1.out | exact HKB.out | exact HKZ.out | exact HC.out | go_keep)
                clear hK K
                try simp only [Act.put, List.setIfInBounds_toArray, List.set_cons_zero, List.set_cons_succ]
                refine wpAnyH_done (by kernel_rfl) ?_ _
                go_wp2_with fail
                go_meet
                first | exact ⟨_, A', n', c', B', m', d', rfl, rfl, HFIN.out⟩ | exact ⟨_, A', n', c', B', m', d', rfl, rfl, HFIN2.out⟩
              exact AllReadyH.nil
            exact AllReadyH.nil
          exact AllReadyH.nil
        exact AllReadyH.nil
      refine AllReadyH.cons rfl (fun K hK => ?_) ?_
      · go_simp
        refine hK.out _ _ ?_ (fun hHeld => ?_)
        · (first | exact HK3.out | exact HK2.out | exact HK1.out | exact HKB.out | exact HKZ.out | exact HC.out | go_keep)
        clear hK K
        try simp only [Act.put, List.setIfInBounds_toArray, List.set_cons_zero, List.set_cons_succ]
        refine wpAnyH_ready (rs := [1]) (by kernel_rfl) (by simp) ?_
        refine AllReadyH.cons rfl (fun K hK => ?_) ?_
        · (go_simp; (first | (go_at_call 35; (with_reducible refine (HTO.out W0.drew).mono ?_); rintro e w6 ⟨rfl, hb⟩; have HB6 := Lib.hid (bel_trans (bel_drewN (Below.refl W0.heap.size W0) 1) hb); have HK1 := Lib.hid (cells6 (HX.out.below HB6.out) (HY.out.below HB6.out)); have HKB := Lib.hid (cells6 ((HX.out.below HB6.out).alloc (.cells #[.int .i64 0, .slice none 0 0, .int .i64 0, .slice none 0 0] 69)) ((HY.out.below HB6.out).alloc (.cells #[.int .i64 0, .slice none 0 0, .int .i64 0, .slice none 0 0] 69))); clear hb) | (go_at_call 35; refine (HTO.out (W0.drew.alloc (.cells #[.int .i64 0, .slice none 0 0, .int .i64 0, .slice none 0 0] 69))).mono ?_; rintro e w6 ⟨rfl, hb⟩; have HB6 := Lib.hid (bel_trans ((bel_drewN (Below.refl W0.heap.size W0) 1).alloc (Nat.le_refl _) (.cells #[.int .i64 0, .slice none 0 0, .int .i64 0, .slice none 0 0] 69)) hb); have HZA : Hid (Box w6 W0.heap.size 69 [.int .i64 0, .slice none 0 0, .int .i64 0, .slice none 0 0] ∧ W0.heap.size < w6.heap.size) := ⟨(Box.new W0.drew 69 [.int .i64 0, .slice none 0 0, .int .i64 0, .slice none 0 0]).below hb, size_lt_alloc hb⟩; have HK1 := Lib.hid (cells6 (HX.out.below HB6.out) (HY.out.below HB6.out)); clear hb)); (try go_simp))
          refine hK.out _ _ ?_ (fun hHeld => ?_)
          · (first | exact HK3.out | exact HK2.out | exact HK1.out | exact HKB.out | exact HKZ.out | exact HC.out | go_keep)
          clear hK K
          try simp only [Act.put, List.setIfInBounds_toArray, List.set_cons_zero, List.set_cons_succ]
          refine wpAnyH_ready (rs := [3]) (by kernel_rfl) (by simp) ?_
          refine AllReadyH.cons rfl (fun K hK => ?_) ?_
          · (go_simp; (first | (have hza := HZA.out; go_at_call 36; refine (HDQ.out w6 (bel_trans HB.out HB6.out)).mono ?_; rintro e w7 ⟨A', n', c', B', m', d', rfl, hat, hb⟩; obtain ⟨hk6, hks, hf, hfin⟩ := did_mid HX.out HY.out HB.out (bel_trans HB6.out hb) (Nat.le_refl _) (Keeps.refl _ _) (.inl hza.2) (hza.1.below hb) hat; obtain ⟨⟨ha0, ha1, ha2, ha3, ha4, ha5, ha6, ha7⟩, ⟨hb2, hb3⟩, ⟨hb4, hb5⟩, ⟨hb6, hb7⟩⟩ := hf.out; have HK2 := Lib.hid hk6; have HK3 := Lib.hid hks; have HFIN := Lib.hid hfin.out; clear hat hb hk6 hks hf hfin hza) | (go_at_call 36; (with_reducible refine (HDQ.out (w6.alloc (.cells #[.int .i64 0, .slice none 0 0, .int .i64 0, .slice none 0 0] 69)) (bel_trans HB.out (HB6.out.alloc HB6.out.size _))).mono ?_); rintro e w7 ⟨A', n', c', B', m', d', rfl, hat, hb⟩; obtain ⟨hk6, hks, hf, hfin⟩ := did_mid HX.out HY.out HB.out (bel_trans (HB6.out.alloc HB6.out.size _) hb) HB6.out.size (Keeps.refl _ _) (.inl (size_lt_alloc0 w6 _)) ((Box.new w6 69 [.int .i64 0, .slice none 0 0, .int .i64 0, .slice none 0 0]).below hb) hat; obtain ⟨⟨ha0, ha1, ha2, ha3, ha4, ha5, ha6, ha7⟩, ⟨hb2, hb3⟩, ⟨hb4, hb5⟩, ⟨hb6, hb7⟩⟩ := hf.out; have HK2 := Lib.hid hk6; have HK3 := Lib.hid hks; have HFIN := Lib.hid hfin.out; clear hat hb hk6 hks hf hfin) | (go_at_call 36; (with_reducible refine (HDQ.out w6 (bel_trans HB.out HB6.out)).mono ?_); rintro e w7 ⟨A', n', c', B', m', d', rfl, hat, hb⟩; have hb7' := bel_trans HB6.out hb; have HK1 := Lib.hid (cells6 (HX.out.below hb7') (HY.out.below hb7')); obtain ⟨hk6, hks, hf, hfin⟩ := did_mid HX.out HY.out HB.out (hb7'.alloc hb7'.size (.cells #[.int .i64 0, .slice none 0 0, .int .i64 0, .slice none 0 0] 69)) hb7'.size (keeps_alloc (w := w7) _) (.inr (Nat.le_refl _)) (Box.new w7 69 [.int .i64 0, .slice none 0 0, .int .i64 0, .slice none 0 0]) hat; obtain ⟨⟨ha0, ha1, ha2, ha3, ha4, ha5, ha6, ha7⟩, ⟨hb2, hb3⟩, ⟨hb4, hb5⟩, ⟨hb6, hb7⟩⟩ := hf.out; have HK2 := Lib.hid hk6; have HK3 := Lib.hid hks; have HFIN := Lib.hid hfin.out; have HFIN2 : Hid (Box (w7.alloc (.cells #[.int .i64 X.now.known, .slice A' n' c', .int .i64 X.things, .slice B' m' d'] 69)) w7.heap.size 69 [.int .i64 X.now.known, .slice A' n' c', .int .i64 X.things, .slice B' m' d'] ∧ TkAt (w7.alloc (.cells #[.int .i64 X.now.known, .slice A' n' c', .int .i64 X.things, .slice B' m' d'] 69)) X A' n' c' B' m' d' ∧ Below W0.heap.size W0 (w7.alloc (.cells #[.int .i64 X.now.known, .slice A' n' c', .int .i64 X.things, .slice B' m' d'] 69))) := ⟨Box.new w7 69 [.int .i64 X.now.known, .slice A' n' c', .int .i64 X.things, .slice B' m' d'], hat _ (bel_trans HB.out (hb7'.alloc hb7'.size _)) (keeps_alloc (w := w7) _), hb7'.alloc hb7'.size _⟩; clear hat hb hb7' hk6 hks hf hfin)); (try go_simp))
            refine hK.out _ _ ?_ (fun hHeld => ?_)
            · (first | exact HK3.out | exact HK2.out | exact HK1.out | exact HKB.out | exact HKZ.out | exact HC.out | go_keep)
            clear hK K
            try simp only [Act.put, List.setIfInBounds_toArray, List.set_cons_zero, List.set_cons_succ]
            refine wpAnyH_take (i := 4) (v := ?_) rfl (by kernel_rfl) (by kernel_rfl) (by kernel_rfl) (fun _ _ _ h => h) (Or.inl ⟨by rfl, ?_⟩) (by assumption) ?_
            rotate_left
            · ((intro wz hSw; (try dsimp only at hSw); go_simp) <;> with_reducible rfl)
            try simp only [Act.put, List.setIfInBounds_toArray]
            refine wpAnyH_take (i := 5) (v := ?_) rfl (by kernel_rfl) (by kernel_rfl) (by kernel_rfl) (fun _ _ _ h => h) (Or.inl ⟨by rfl, ?_⟩) (by assumption) ?_
            rotate_left
            · ((intro wz hSw; (try dsimp only at hSw); go_simp) <;> with_reducible rfl)
            try simp only [Act.put]
            refine wpAnyH_take (i := 6) (v := ?_) rfl (by kernel_rfl) (by kernel_rfl) (by kernel_rfl) (fun _ _ _ h => h) (Or.inl ⟨by rfl, ?_⟩) (by assumption) ?_
            rotate_left
            · ((intro wz hSw; (try dsimp only at hSw); go_simp) <;> with_reducible rfl)
            try simp only [Act.put]
            refine wpAnyH_ready (rs := [8]) (by kernel_rfl) (by simp) ?_
            refine AllReadyH.cons rfl (fun K hK => ?_) ?_
            · go_simp
              refine hK.out _ _ ?_ (fun hHeld => ?_)
              · (first | exact HK3.out | exact HK2.out | exact HK1.out | exact HKB.out | exact HKZ.out | exact HC.out | go_keep)
              clear hK K
              try simp only [Act.put]
              refine wpAnyH_ready (rs := [9]) (by kernel_rfl) (by simp) ?_
              refine AllReadyH.cons rfl (fun K hK => ?_) ?_
              · go_simp
                refine hK.out _ _ ?_ (fun hHeld => ?_)
                · (first | exact HK3.out | exact HK2.out | exact HK1.out | exact HKB.out | exact HKZ.out | exact HC.out | go_keep)
                clear hK K
                try simp only [Act.put, List.setIfInBounds_toArray, List.set_cons_zero, List.set_cons_succ]
                refine wpAnyH_done (by kernel_rfl) ?_ _
                go_wp2_with fail
                go_meet
                first | exact ⟨_, A', n', c', B', m', d', rfl, rfl, HFIN.out⟩ | exact ⟨_, A', n', c', B', m', d', rfl, rfl, HFIN2.out⟩
              exact AllReadyH.nil
            exact AllReadyH.nil
          exact AllReadyH.nil
        exact AllReadyH.nil
      exact AllReadyH.nil
    case rest =>
      obtain ⟨g, A', n', c', B', m', d', rfl, rfl, hbx, htk, hbw⟩ := hcut
      have HGI := Lib.hid (iGive X A' B' n' c' m' d' wc htk HSQ.out)
      have HRX := Lib.hid (HR.out.below hbw)
      have HBX := Lib.hid (bel_trans HB.out hbw)
      have hzl : w.heap.size + 2 < wc.heap.size := HRX.out.lt
      have hc0 := hbx.cell (i := 0) (v := .int .i64 X.now.known) rfl
      have hc1 := hbx.cell (i := 1) (v := .slice A' n' c') rfl
      have hc2 := hbx.cell (i := 2) (v := .int .i64 X.things) rfl
      have hc3 := hbx.cell (i := 3) (v := .slice B' m' d') rfl
      clear hbx htk hbw HDQ HTO
      go_wp2_with fail
      refine HGI.out.mono ?_
      rintro e w8 ⟨o, p, vs, rfl, ho, hp, hap, hb⟩
      obtain ⟨Ao, co, rfl, _⟩ := ho.form
      obtain ⟨Ap, cp, rfl, _⟩ := hp.form
      have HR8 := Lib.hid (HRX.out.below hb)
      have HB8 := Lib.hid (bel_trans HBX.out hb)
      obtain ⟨⟨ha0, ha1, ha2, ha3, ha4, ha5, ha6, ha7⟩, ⟨hb2, hb3⟩, ⟨hb4, hb5⟩, ⟨hb6, hb7⟩, HOUT⟩ := HR8.out.store4 (.int .i64 X.things) (.int .i64 X.now.known) (.slice Ao X.now.op.length co) (.slice Ap X.past.length cp)
      have hke : Keeps wc.heap.size w8 _ := keeps_set4i hzl (.int .i64 X.things) (.int .i64 X.now.known) (.slice Ao X.now.op.length co) (.slice Ap X.past.length cp)
      have HFO := Lib.hid (And.intro ((ho.keep hke).base HBX.out.size) (And.intro ((hp.keep hke).base HBX.out.size) (And.intro hap (bel_set4 HB8.out (show w.heap.size ≤ w.heap.size + 2 by omega) (.int .i64 X.things) (.int .i64 X.now.known) (.slice Ao X.now.op.length co) (.slice Ap X.past.length cp)))))
      clear ho hp hap hb hke
      go_wp2_with fail
      refine bodyPost_ret_by (results_talkB (b := w.heap.size + 2) rfl rfl rfl HOUT) rfl ⟨_, _, vs, rfl, HFO.out⟩
end Go.Proofs.YtmdogidflaplkaaGreat
