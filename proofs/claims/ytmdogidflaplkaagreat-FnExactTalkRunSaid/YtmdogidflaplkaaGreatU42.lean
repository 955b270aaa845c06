/-
  What the proofs of this seat's statements share (TrwW).
-/
import Derived.Lib.SliceRun
import Derived.IntWalk
import Derived.Test.YtmdogidflaplkaaGreatU41
import Derived.Test.YtmdogidflaplkaaGreatU40
import Derived.Test.YtmdogidflaplkaaGreatU3

namespace Go.Proofs.YtmdogidflaplkaaGreat
open Go.RowKit

/-- A talk and a number that were handed back. -/
def RunAt (X : TalkV) (N : Nat) (W : World) (e : Ending) (w' : World) : Prop := ∃ A n c B m d, e = .returned (.tuple #[.agg #[.int .i64 X.things, .int .i64 X.now.known, .slice A n c, .slice B m d], .int .i64 (N : Int)]) ∧ TkAt w' X A n c B m d ∧ Below W.heap.size W w'
theorem iTalkRun_in {T X : TalkV} {A B L : Option Addr} {n c m d ln lc N : Nat} {ds : List DeedV} {w : World} (h : Hid (runTo T ds = (X, N))) (hT : TkAt w T A n c B m d) (hs : SmallT T) (hL : DRow w L ln lc ds) (hds : ∀ x ∈ ds, x.2.size ≤ 1048576) :
    Calls Tryz.prog 17 #[.agg #[.int .i64 T.things, .int .i64 T.now.known, .slice A n c, .slice B m d], .slice L ln lc] w (RunIn X N w) := by
  have := iTalkRun T A B L n c m d ln lc ds w hT hs hL hds
  rw [h.out] at this
  refine this.mono ?_
  rintro e w' ⟨o, p, vs, rfl, ho, hp, _, hb⟩
  obtain ⟨A', c', B', d', rfl, rfl, hin⟩ := tk_of_owns ho hp
  exact ⟨A', _, c', B', _, d', rfl, hin, hb⟩
theorem sTalkRun_in {T X : TalkV} {A B L : Option Addr} {n c m d ln lc N : Nat} {ds : List DeedV} {w : World} (h : Hid (runTo T ds = (X, N))) (hT : TkAt w T A n c B m d) (hs : SmallT T) (hL : DRow w L ln lc ds) (hds : ∀ x ∈ ds, x.2.size ≤ 1048576) :
    Calls Tryz.prog 18 #[.agg #[.int .i64 T.things, .int .i64 T.now.known, .slice A n c, .slice B m d], .slice L ln lc] w (RunIn X N w) := by
  have := sTalkRun T A B L n c m d ln lc ds w hT hs hL hds
  rw [h.out] at this
  exact this
theorem RunIn.at_ {X : TalkV} {N : Nat} {w : World} {e : Ending} {w' : World} (h : RunIn X N w e w') : RunAt X N w e w' := by
  obtain ⟨A, n, c, B, m, d, he, hin, hb⟩ := h
  exact ⟨A, n, c, B, m, d, he, hin.at_, hb⟩
theorem Deeds.take {w : World} {L : Option Addr} {ds : List DeedV} (h : Deeds w L ds) (j : Nat) : Deeds w L (ds.take j) := by
  intro hn
  rw [List.length_take] at hn
  obtain ⟨b, off, rfl, hb, hc⟩ := h (by omega)
  refine ⟨b, off, rfl, hb, fun i x hx => hc i x ?_⟩
  rw [List.getElem?_take] at hx
  split at hx
  · exact hx
  · cases hx
theorem Deeds.from_ {w : World} {b off : Nat} {ds : List DeedV} (h : Deeds w (some ⟨b, off, none⟩) ds) (j : Nat) : Deeds w (some ⟨b, off + j * 2, none⟩) (ds.drop j) := by
  intro hn
  rw [List.length_drop] at hn
  obtain ⟨b', off', e, hb, hc⟩ := h (by omega)
  cases e
  refine ⟨b, off + j * 2, rfl, hb, fun i x hx => ?_⟩
  rw [List.getElem?_drop] at hx
  have := hc (j + i) x hx
  rw [Nat.add_mul, ← Nat.add_assoc] at this
  exact this
theorem row_take {w : World} {L : Option Addr} {lc : Nat} {ds : List DeedV} (h : DRow w L ds.length lc ds) {j : Nat} (hj : j ≤ ds.length) : DRow w L j lc (ds.take j) :=
  ⟨by rw [List.length_take]; omega, by have := h.hl; omega, by have := h.hc; omega, h.hm, h.hA.take j⟩
theorem row_drop {w : World} {b lc : Nat} {ds : List DeedV} (h : DRow w (some ⟨b, 0, none⟩) ds.length lc ds) {j : Nat} : DRow w (some ⟨b, j * 2, none⟩) (ds.length - j) (lc - j) (ds.drop j) :=
  ⟨by rw [List.length_drop], by have := h.hl; omega, by have := h.hc; omega, by have := h.hm; omega, by have := h.hA.from_ j; rw [Nat.zero_add] at this; exact this⟩
set_option maxRecDepth 100000 in
theorem lNoTalk (T : TalkV) (A B : Option Addr) (n c m d : Nat) (w : World) (hT : TkAt w T A n c B m d) (hs : SmallT T) :
    Calls Tryz.prog 20 #[.agg #[.int .i64 T.things, .int .i64 T.now.known, .slice A n c, .slice B m d]] w fun e w' => (∃ b, e = .returned (.bool b) ∧ (T = noTalk → b = true)) ∧ Below w.heap.size w w' := by
  have HC : Hid (∀ W, Below w.heap.size w W → Calls Tryz.prog 10 #[.agg #[.int .i64 T.things, .int .i64 T.now.known, .slice A n c, .slice B m d], .agg #[.int .i64 0, .int .i64 0, .slice none 0 0, .slice none 0 0]] W fun e w' => (∃ b, e = .returned (.bool b) ∧ (T = noTalk → b = true)) ∧ Below W.heap.size W w') := fun W hb =>
    lSameTalk T noTalk A B none none n c m d 0 0 0 0 W (hT.below hb) ⟨rfl, Nat.le_refl _, Nat.zero_le _, Strs.nil _ _, rfl, Nat.le_refl _, Nat.zero_le _, StaRow.nil _ _⟩ hs ⟨by decide, by decide, (fun s hs => by cases hs), (fun x hx => by cases hx)⟩
  obtain ⟨HX, HB⟩ : Hid (Box (w.alloc (.cells #[.int .i64 T.things, .int .i64 T.now.known, .slice A n c, .slice B m d] 28)) w.heap.size 28 [.int .i64 T.things, .int .i64 T.now.known, .slice A n c, .slice B m d]) ∧ Hid (Below w.heap.size w (w.alloc (.cells #[.int .i64 T.things, .int .i64 T.now.known, .slice A n c, .slice B m d] 28))) := ⟨Box.new w _ [.int .i64 T.things, .int .i64 T.now.known, .slice A n c, .slice B m d], bel_al _ _⟩
  clear hT hs
  go_enter Tryz.func20, Tryz.ntmps20
  go_wp2_with fail
  refine (HC.out _ (by first | exact Below.refl _ _ | exact HB.out)).mono ?_
  rintro e w1 ⟨⟨b, rfl, hbt⟩, hb⟩
  have HF := Lib.hid (show (T = noTalk → b = true) ∧ Below w.heap.size w w1 from ⟨hbt, by first | exact bel_trans HB.out hb | exact hb⟩)
  clear hb hbt
  go_wp2_with fail
  go_ret
  exact ⟨⟨b, rfl, HF.out.1⟩, HF.out.2⟩
/-- The talk and the deeds that were drawn. -/
structure DR (w wx : World) (a : Nat) (T : TalkV) (A : Option Addr) (n c : Nat) (B : Option Addr) (m d : Nat) (L : Option Addr) (lc : Nat) (ds : List DeedV) : Prop where
  x : DX wx a T A n c B m d
  l : DRow wx L ds.length lc ds
  b : Below w.heap.size w wx
theorem DR.below {w wx wy : World} {a : Nat} {T : TalkV} {A B L : Option Addr} {n c m d lc : Nat} {ds : List DeedV} (h : DR w wx a T A n c B m d L lc ds) (hb : Below wx.heap.size wx wy) : DR w wy a T A n c B m d L lc ds := ⟨h.x.below hb, h.l.below hb, bel_trans h.b hb⟩
/-- The two halves, one after the other. -/
theorem run_halves {T X Y Z : TalkV} {N N1 N2 j : Nat} {ds : List DeedV} (hok : okT T = true) (hl : ds.length ≤ 40) (h : runTo T ds = (X, N)) (h1 : runTo T (ds.take j) = (Y, N1)) (h2 : runTo Y (ds.drop j) = (Z, N2)) : Z = X ∧ N1 + N2 = N ∧ N ≤ 40 ∧ okT X = true := by
  rw [run_good hok hl] at h
  rw [run_good hok (by rw [List.length_take]; omega)] at h1
  have hy : okT Y = true := by have := run_oks T (ds.take j) hok; rw [h1] at this; exact this
  rw [run_good hy (by rw [List.length_drop]; omega)] at h2
  have ha := run_append asksT (ds.take j) (ds.drop j) T
  rw [List.take_append_drop, h, h1] at ha
  simp only at ha
  rw [h2] at ha
  simp only [Prod.mk.injEq] at ha
  refine ⟨ha.1.symm, ha.2.symm, ?_, by have := run_oks T ds hok; rw [h] at this; exact this⟩
  have hc : ∀ (l : List DeedV) (p : TalkV × Nat), (l.foldl (runStep asksT) p).2 ≤ p.2 + l.length := by
    intro l
    induction l with
    | nil => intro p; exact Nat.le_refl _
    | cons x l ih =>
      intro p
      have h1 := ih (runStep asksT p x)
      have h2 : (runStep asksT p x).2 ≤ p.2 + 1 := by unfold runStep; split <;> simp
      simp only [List.foldl_cons, List.length_cons]
      omega
  have := hc ds (T, 0)
  rw [show ds.foldl (runStep asksT) (T, 0) = talkRun asksT T ds from rfl, h] at this
  simp only at this
  omega
set_option linter.unusedSimpArgs false in
set_option maxRecDepth 100000 in
set_option maxHeartbeats 16000000 in
theorem wTalkRun (A : Option Addr) (nn c : Nat) (zs : List Int) (w : World) (hn : nn = zs.length) (hc : nn ≤ c) (hm : c ≤ maxLen) (hr : ∀ z ∈ zs, 0 ≤ z ∧ z ≤ 255) (hA : Nums .u8 w A zs) :
    Calls Tryz.prog 4 #[.slice A nn c] w fun e w' => e = .returned (.bool true) ∧ Below w.heap.size w w' := by
  have HO := Lib.hid (drawTalkRun_any A nn c zs w hn hc hm hr hA)
  have hm' : nn ≤ 9223372036854775807 := by unfold maxLen at hm; omega
  clear hn hc hm hr hA
  by_cases hl : 1048576 < nn
  · have hd : decide ((1048576 : Int) < (nn : Int)) = true := decide_eq_true (by omega)
    go_enter Tryz.func4, Tryz.ntmps4
    go_wp2_with fail
    go_ret
    exact ⟨rfl, Below.refl _ _⟩
  have hd : decide ((1048576 : Int) < (nn : Int)) = false := decide_eq_false (by omega)
  clear hl
  go_enter Tryz.func4, Tryz.ntmps4
  go_wp2_with fail
  refine HO.out.mono ?_
  rintro e w1 ⟨T, A1, n1, c1, B1, m1, d1, L, ln, lc, ds, rfl, hT, hs, hL, hsh, hsz, hb⟩
  obtain rfl := hL.hn
  have hL0 := DX.new hT
  have hbel := bel_al w1 (.cells #[.int .i64 T.things, .int .i64 T.now.known, .slice A1 n1 c1, .slice B1 m1 d1] 28)
  have HL : Hid (DR w (w1.alloc (.cells #[.int .i64 T.things, .int .i64 T.now.known, .slice A1 n1 c1, .slice B1 m1 d1] 28)) w1.heap.size T A1 n1 c1 B1 m1 d1 L lc ds) := ⟨hL0, hL.below hbel, bel_trans hb hbel⟩
  have HS := Lib.hid hs
  have HSH := Lib.hid hsh
  have HDZ : Hid (∀ x ∈ ds, x.2.size ≤ 1048576) := fun x hx => by have := hsz x hx; omega
  have hll := hL.hl
  obtain ⟨P, hP⟩ : ∃ P, runTo T ds = P := ⟨_, rfl⟩
  have HSX : Hid (SmallT P.1) := by unfold Hid; rw [← hP]; exact runTo_small T ds
  obtain ⟨X, N⟩ := P
  have HD := Lib.hid hP
  clear hT hs hL hsh hsz hb hP hL0 hbel
  go_upto_region 4 with fail
  obtain ⟨W3, hW3⟩ : ∃ W, w1.alloc (.cells #[.int .i64 T.things, .int .i64 T.now.known, .slice A1 n1 c1, .slice B1 m1 d1] 28) = W := ⟨_, rfl⟩
  obtain ⟨a, ha⟩ : ∃ a, w1.heap.size = a := ⟨_, rfl⟩
  rw [hW3, ha] at HL
  rw [hW3]
  try rw [ha]
  clear hW3 ha
  obtain ⟨hc0, hc1, hc2, hc3⟩ := HL.out.x.cells
  go_wp2_with fail
  refine (iTalkRun_in HD HL.out.x.t HS.out HL.out.l HDZ.out).mono ?_
  rintro e w4 ⟨A5, n5, c5, B5, m5, d5, rfl, ht, hb⟩
  have HLa := Lib.hid (HL.out.below hb)
  clear hc0 hc1 hc2 hc3 HL
  go_upto_region 5 with fail
  have hZ := DX.new ht.at_
  have hbel := bel_al w4 (.cells #[.int .i64 X.things, .int .i64 X.now.known, .slice A5 n5 c5, .slice B5 m5 d5] 28)
  have HL := Lib.hid (HLa.out.below hbel)
  obtain ⟨h5, hh5⟩ : ∃ h5, w4.heap.size = h5 := ⟨_, rfl⟩
  obtain ⟨W4, hW4⟩ : ∃ W, w4.alloc (.cells #[.int .i64 X.things, .int .i64 X.now.known, .slice A5 n5 c5, .slice B5 m5 d5] 28) = W := ⟨_, rfl⟩
  rw [hW4] at hZ HL
  rw [hW4]
  rw [hh5] at hZ
  try rw [hh5]
  have HZ := Lib.hid hZ
  clear hZ hbel hW4 hh5 HLa ht hb
  obtain ⟨hc0, hc1, hc2, hc3⟩ := HL.out.x.cells
  go_wp2_with fail
  refine (sTalkRun_in HD HL.out.x.t HS.out HL.out.l HDZ.out).mono ?_
  rintro e w5 ⟨A7, n7, c7, B7, m7, d7, rfl, ht, hb⟩
  have HLa := Lib.hid (HL.out.below hb)
  have HZa := Lib.hid (HZ.out.below hb)
  clear hc0 hc1 hc2 hc3 HL HZ
  go_upto_region 6 with fail
  have hV := DX.new ht.at_
  have hbel := bel_al w5 (.cells #[.int .i64 X.things, .int .i64 X.now.known, .slice A7 n7 c7, .slice B7 m7 d7] 28)
  have HL := Lib.hid (HLa.out.below hbel)
  have HZ := Lib.hid (HZa.out.below hbel)
  obtain ⟨h7, hh7⟩ : ∃ h7, w5.heap.size = h7 := ⟨_, rfl⟩
  obtain ⟨W5, hW5⟩ : ∃ W, w5.alloc (.cells #[.int .i64 X.things, .int .i64 X.now.known, .slice A7 n7 c7, .slice B7 m7 d7] 28) = W := ⟨_, rfl⟩
  rw [hW5] at hV HL HZ
  rw [hW5]
  rw [hh7] at hV
  try rw [hh7]
  have HV := Lib.hid hV
  clear hV hbel hW5 hh7 HLa HZa ht hb
  obtain ⟨hc0, hc1, hc2, hc3⟩ := HZ.out.cells
  obtain ⟨hd0, hd1, hd2, hd3⟩ := HV.out.cells
  have hnn : ((N : Int) != (N : Int)) = false := by simp
  go_wp2_with fail
  refine (lSameTalk X X A5 B5 A7 B7 n5 c5 m5 d5 n7 c7 m7 d7 _ HZ.out.t HV.out.t HSX.out HSX.out).mono ?_
  rintro e w6 ⟨⟨b, rfl, hbt⟩, hb⟩
  obtain rfl : b = true := hbt rfl
  have HL6 := Lib.hid (HL.out.below hb)
  have HZ6 := Lib.hid (HZ.out.below hb)
  clear hc0 hc1 hc2 hc3 hd0 hd1 hd2 hd3 HL HZ HV hbt hb hnn
  obtain ⟨z, hz⟩ : ∃ z, okT T = z := ⟨_, rfl⟩
  have HOK := Lib.hid hz
  clear hz
  obtain ⟨hc0, hc1, hc2, hc3⟩ := HL6.out.x.cells
  have HTO := Lib.hid (sTalkOk T A1 B1 n1 c1 m1 d1 _ HL6.out.x.t HS.out)
  rw [HOK.out] at HTO
  go_wp2_with fail
  refine HTO.out.mono ?_
  rintro e w7 ⟨rfl, hb⟩
  have HL7 := Lib.hid (HL6.out.below hb)
  have HZ7 := Lib.hid (HZ6.out.below hb)
  clear hc0 hc1 hc2 hc3 HL6 HZ6 hb HTO
  have hbad : (z = true ∧ ds.length ≤ 40) ∨ (¬ (z = true ∧ ds.length ≤ 40) ∧ N = 0 ∧ X = noTalk) := by
    by_cases h : z = true ∧ ds.length ≤ 40
    · exact .inl h
    · refine .inr ⟨h, ?_⟩
      have h2 := HD.out
      rw [run_bad (by rw [HOK.out]; exact h)] at h2
      cases h2
      exact ⟨rfl, rfl⟩
  rcases hbad with ⟨rfl, hl40⟩ | ⟨hno, rfl, hXN⟩
  · have hd : decide ((40 : Int) < (ds.length : Int)) = false := decide_eq_false (by omega)
    obtain ⟨j, hj⟩ : ∃ j, ds.length / 2 = j := ⟨_, rfl⟩
    have hjI : (ds.length : Int) / 2 = (j : Int) := by omega
    have hjl : j ≤ ds.length := by omega
    have HJ2 := Lib.hid hj
    have hlc := HL7.out.l.hc
    have hlm := HL7.out.l.hm
    unfold maxLen at hlm
    obtain ⟨P1, hP1⟩ : ∃ P, runTo T (ds.take j) = P := ⟨_, rfl⟩
    have HSY : Hid (SmallT P1.1) := by unfold Hid; rw [← hP1]; exact runTo_small T _
    obtain ⟨Y, N1⟩ := P1
    obtain ⟨P2, hP2⟩ : ∃ P, runTo Y (ds.drop j) = P := ⟨_, rfl⟩
    have HSZ : Hid (SmallT P2.1) := by unfold Hid; rw [← hP2]; exact runTo_small Y _
    obtain ⟨Z, N2⟩ := P2
    have HD1 := Lib.hid hP1
    have HD2 := Lib.hid hP2
    have HHV := Lib.hid (run_halves HOK.out hl40 HD.out hP1 hP2)
    clear hP1 hP2 hd hj
    go_upto_region 11 with fail
    try rw [hjI]
    clear hjI
    obtain ⟨W7, hW7⟩ : ∃ W, w7 = W := ⟨_, rfl⟩
    rw [hW7] at HL7 HZ7 ⊢
    clear hW7
    have HQ11 : Hid (∀ W, Below W7.heap.size W7 W → (W.cell? ⟨a, 0, none⟩ = some (.int .i64 T.things) ∧ W.cell? ⟨a, 1, none⟩ = some (.int .i64 T.now.known) ∧ W.cell? ⟨a, 2, none⟩ = some (.slice A1 n1 c1) ∧ W.cell? ⟨a, 3, none⟩ = some (.slice B1 m1 d1))) := fun W hb => (HL7.out.below hb).x.cells
    have HR11 : Hid (∀ W, Below W7.heap.size W7 W → Calls Tryz.prog 17 #[.agg #[.int .i64 T.things, .int .i64 T.now.known, .slice A1 n1 c1, .slice B1 m1 d1], .slice L j lc] W (RunIn Y N1 W)) := fun W hb => iTalkRun_in HD1 (HL7.out.below hb).x.t HS.out (row_take (HL7.out.below hb).l hjl) (fun x hx => HDZ.out x (List.mem_of_mem_take hx))
    obtain ⟨hc0, hc1, hc2, hc3⟩ := HQ11.out W7 (Below.refl _ _)
    have hjlc : j ≤ lc := by omega
    go_cut [10, 11] from 63 to 71 (fun s10 s11 wx => ∃ h A' n' c' B' m' d', s10 = .pointer (some ⟨h, 0, none⟩) ∧ s11 = .int .i64 (N1 : Int) ∧ (Box wx h 28 [.int .i64 Y.things, .int .i64 Y.now.known, .slice A' n' c', .slice B' m' d'] ∧ TkAt wx Y A' n' c' B' m' d') ∧ Below W7.heap.size W7 wx)
    case first =>
      have HB : Hid (Below W7.heap.size W7 W7.drew) := bel_drewN (Below.refl _ _) 1
      refine wp_region_held_drew (S := (fun w' => (w'.cell? ⟨a, 0, none⟩ = some (.int .i64 T.things) ∧ w'.cell? ⟨a, 1, none⟩ = some (.int .i64 T.now.known) ∧ w'.cell? ⟨a, 2, none⟩ = some (.slice A1 n1 c1) ∧ w'.cell? ⟨a, 3, none⟩ = some (.slice B1 m1 d1)))) (by kernel_rfl) ?_ (fun hHeld => ?_)
      · exact HQ11.out _ HB.out
      obtain ⟨wd, hwd⟩ : ∃ wd, W7.drew = wd := ⟨_, rfl⟩
      rw [hwd] at HB hHeld ⊢
      clear hwd
      refine wpAnyH_take (i := 0) (v := ?_) rfl (by kernel_rfl) (by kernel_rfl) (by kernel_rfl) (fun _ _ _ h => h) (Or.inl ⟨by rfl, ?_⟩) (by assumption) ?_
      rotate_left
      · ((intro wz hSw; (try dsimp only at hSw); go_simp) <;> with_reducible rfl)
      try simp only [List.getElem_toArray, List.getElem_cons_succ, List.getElem_cons_zero, Act.put, List.setIfInBounds_toArray, List.set_cons_zero, List.set_cons_succ]
      refine wpAnyH_take (i := 1) (v := ?_) rfl (by kernel_rfl) (by kernel_rfl) (by kernel_rfl) (fun _ _ _ h => h) (Or.inl ⟨by rfl, ?_⟩) (by assumption) ?_
      rotate_left
      · ((intro wz hSw; (try dsimp only at hSw); go_simp) <;> with_reducible rfl)
      try simp only [List.getElem_toArray, List.getElem_cons_succ, List.getElem_cons_zero, Act.put, List.setIfInBounds_toArray, List.set_cons_zero, List.set_cons_succ]
      refine wpAnyH_take (i := 2) (v := ?_) rfl (by kernel_rfl) (by kernel_rfl) (by kernel_rfl) (fun _ _ _ h => h) (Or.inl ⟨by rfl, ?_⟩) (by assumption) ?_
      rotate_left
      · ((intro wz hSw; (try dsimp only at hSw); go_simp) <;> with_reducible rfl)
      try simp only [List.getElem_toArray, List.getElem_cons_succ, List.getElem_cons_zero, Act.put, List.setIfInBounds_toArray, List.set_cons_zero, List.set_cons_succ]
      refine wpAnyH_take (i := 3) (v := ?_) rfl (by kernel_rfl) (by kernel_rfl) (by kernel_rfl) (fun _ _ _ h => h) (Or.inl ⟨by rfl, ?_⟩) (by assumption) ?_
      rotate_left
      · ((intro wz hSw; (try dsimp only at hSw); go_simp) <;> with_reducible rfl)
      try simp only [List.getElem_toArray, List.getElem_cons_succ, List.getElem_cons_zero, Act.put, List.setIfInBounds_toArray, List.set_cons_zero, List.set_cons_succ]
      refine wpAnyH_ready (rs := [4, 8]) (by kernel_rfl) (by simp) ?_
      refine AllReadyH.cons rfl (fun K hK => ?_) ?_
      · (go_simp; go_at_call 17; (try have hzl := HZV.out.lt); refine (HR11.out _ HB.out).mono ?_; rintro e wT ⟨A', n', c', B', m', d', rfl, hown, hb⟩; replace HB := Lib.hid (bel_trans HB.out hb); (try replace HZV := Lib.hid (HZV.out.below hb)); (try have HXK := Lib.hid (fun a b r q => (hown.keep (keeps_set4 hzl a b r q)).at_)); have HI := Lib.hid hown.at_; clear hb hown)
        refine hK.out _ _ ?_ (fun hHeld => ?_)
        · exact HQ11.out _ HB.out
        clear hK K
        try simp only [List.getElem_toArray, List.getElem_cons_succ, List.getElem_cons_zero, Act.put, List.setIfInBounds_toArray, List.set_cons_zero, List.set_cons_succ]
        refine wpAnyH_take (i := 5) (v := ?_) rfl (by kernel_rfl) (by kernel_rfl) (by kernel_rfl) (fun _ _ _ h => h) (Or.inl ⟨by rfl, ?_⟩) (by assumption) ?_
        rotate_left
        · ((intro wz hSw; (try dsimp only at hSw); go_simp) <;> with_reducible rfl)
        try simp only [List.getElem_toArray, List.getElem_cons_succ, List.getElem_cons_zero, Act.put, List.setIfInBounds_toArray, List.set_cons_zero, List.set_cons_succ]
        refine wpAnyH_take (i := 6) (v := ?_) rfl (by kernel_rfl) (by kernel_rfl) (by kernel_rfl) (fun _ _ _ h => h) (Or.inl ⟨by rfl, ?_⟩) (by assumption) ?_
        rotate_left
        · ((intro wz hSw; (try dsimp only at hSw); go_simp) <;> with_reducible rfl)
        try simp only [List.getElem_toArray, List.getElem_cons_succ, List.getElem_cons_zero, Act.put, List.setIfInBounds_toArray, List.set_cons_zero, List.set_cons_succ]
        refine wpAnyH_take (i := 7) (v := ?_) rfl (by kernel_rfl) (by kernel_rfl) (by kernel_rfl) (fun _ _ _ h => h) (Or.inl ⟨by rfl, ?_⟩) (by assumption) ?_
        rotate_left
        · ((intro wz hSw; (try dsimp only at hSw); go_simp) <;> with_reducible rfl)
        try simp only [List.getElem_toArray, List.getElem_cons_succ, List.getElem_cons_zero, Act.put, List.setIfInBounds_toArray, List.set_cons_zero, List.set_cons_succ]
        refine wpAnyH_ready (rs := [8]) (by kernel_rfl) (by simp) ?_
        refine AllReadyH.cons rfl (fun K hK => ?_) ?_
        · (go_simp; obtain ⟨wz, hwz, HZV, HGL, HBn, HBl⟩ := al_gen HB.out HB.out.size; rw [hwz]; (try have HXK := Lib.hid (fun a b r q => at_set4z HI.out hwz a b r q)); replace HB := HBn; clear hwz HBl)
          refine hK.out _ _ ?_ (fun hHeld => ?_)
          · exact HQ11.out _ HB.out
          clear hK K
          try simp only [List.getElem_toArray, List.getElem_cons_succ, List.getElem_cons_zero, Act.put, List.setIfInBounds_toArray, List.set_cons_zero, List.set_cons_succ]
          refine wpAnyH_ready (rs := [9]) (by kernel_rfl) (by simp) ?_
          refine AllReadyH.cons rfl (fun K hK => ?_) ?_
          · (obtain ⟨⟨ha0, ha1, ha2, ha3, ha4, ha5, ha6, ha7⟩, ⟨hb2, hb3⟩, ⟨hb4, hb5⟩, ⟨hb6, hb7⟩, HOUT⟩ := HZV.out.store4 (.int .i64 Y.things) (.int .i64 Y.now.known) (.slice A' n' c') (.slice B' m' d'); have HIF := Lib.hid (HXK.out (.int .i64 Y.things) (.int .i64 Y.now.known) (.slice A' n' c') (.slice B' m' d')); replace HB := Lib.hid (bel_set4 HB.out HGL.out (.int .i64 Y.things) (.int .i64 Y.now.known) (.slice A' n' c') (.slice B' m' d')); go_simp)
            refine hK.out _ _ ?_ (fun hHeld => ?_)
            · exact HQ11.out _ HB.out
            clear hK K
            try simp only [List.getElem_toArray, List.getElem_cons_succ, List.getElem_cons_zero, Act.put, List.setIfInBounds_toArray, List.set_cons_zero, List.set_cons_succ]
            refine wpAnyH_ready (rs := [10]) (by kernel_rfl) (by simp) ?_
            refine AllReadyH.cons rfl (fun K hK => ?_) ?_
            · go_simp
              refine hK.out _ _ ?_ (fun hHeld => ?_)
              · exact HQ11.out _ HB.out
              clear hK K
              try simp only [List.getElem_toArray, List.getElem_cons_succ, List.getElem_cons_zero, Act.put, List.setIfInBounds_toArray, List.set_cons_zero, List.set_cons_succ]
              refine wpAnyH_done (by kernel_rfl) ?_ _
              go_wp2_with fail
              go_meet
              exact ⟨_, A', n', c', B', m', d', rfl, rfl, ⟨HOUT.out, HIF.out⟩, HB.out⟩
            exact AllReadyH.nil
          exact AllReadyH.nil
        exact AllReadyH.nil
      refine AllReadyH.cons rfl (fun K hK => ?_) ?_
      · (go_simp; obtain ⟨wz, hwz, HZV, HGL, HBn, HBl⟩ := al_gen HB.out HB.out.size; rw [hwz]; (try have HXK := Lib.hid (fun a b r q => at_set4z HI.out hwz a b r q)); replace HB := HBn; clear hwz HBl)
        refine hK.out _ _ ?_ (fun hHeld => ?_)
        · exact HQ11.out _ HB.out
        clear hK K
        try simp only [List.getElem_toArray, List.getElem_cons_succ, List.getElem_cons_zero, Act.put, List.setIfInBounds_toArray, List.set_cons_zero, List.set_cons_succ]
        refine wpAnyH_ready (rs := [4]) (by kernel_rfl) (by simp) ?_
        refine AllReadyH.cons rfl (fun K hK => ?_) ?_
        · (go_simp; go_at_call 17; (try have hzl := HZV.out.lt); refine (HR11.out _ HB.out).mono ?_; rintro e wT ⟨A', n', c', B', m', d', rfl, hown, hb⟩; replace HB := Lib.hid (bel_trans HB.out hb); (try replace HZV := Lib.hid (HZV.out.below hb)); (try have HXK := Lib.hid (fun a b r q => (hown.keep (keeps_set4 hzl a b r q)).at_)); have HI := Lib.hid hown.at_; clear hb hown)
          refine hK.out _ _ ?_ (fun hHeld => ?_)
          · exact HQ11.out _ HB.out
          clear hK K
          try simp only [List.getElem_toArray, List.getElem_cons_succ, List.getElem_cons_zero, Act.put, List.setIfInBounds_toArray, List.set_cons_zero, List.set_cons_succ]
          refine wpAnyH_take (i := 5) (v := ?_) rfl (by kernel_rfl) (by kernel_rfl) (by kernel_rfl) (fun _ _ _ h => h) (Or.inl ⟨by rfl, ?_⟩) (by assumption) ?_
          rotate_left
          · ((intro wz hSw; (try dsimp only at hSw); go_simp) <;> with_reducible rfl)
          try simp only [List.getElem_toArray, List.getElem_cons_succ, List.getElem_cons_zero, Act.put, List.setIfInBounds_toArray, List.set_cons_zero, List.set_cons_succ]
          refine wpAnyH_take (i := 6) (v := ?_) rfl (by kernel_rfl) (by kernel_rfl) (by kernel_rfl) (fun _ _ _ h => h) (Or.inl ⟨by rfl, ?_⟩) (by assumption) ?_
          rotate_left
          · ((intro wz hSw; (try dsimp only at hSw); go_simp) <;> with_reducible rfl)
          try simp only [List.getElem_toArray, List.getElem_cons_succ, List.getElem_cons_zero, Act.put, List.setIfInBounds_toArray, List.set_cons_zero, List.set_cons_succ]
          refine wpAnyH_take (i := 7) (v := ?_) rfl (by kernel_rfl) (by kernel_rfl) (by kernel_rfl) (fun _ _ _ h => h) (Or.inl ⟨by rfl, ?_⟩) (by assumption) ?_
          rotate_left
          · ((intro wz hSw; (try dsimp only at hSw); go_simp) <;> with_reducible rfl)
          try simp only [List.getElem_toArray, List.getElem_cons_succ, List.getElem_cons_zero, Act.put, List.setIfInBounds_toArray, List.set_cons_zero, List.set_cons_succ]
          refine wpAnyH_ready (rs := [9]) (by kernel_rfl) (by simp) ?_
          refine AllReadyH.cons rfl (fun K hK => ?_) ?_
          · (obtain ⟨⟨ha0, ha1, ha2, ha3, ha4, ha5, ha6, ha7⟩, ⟨hb2, hb3⟩, ⟨hb4, hb5⟩, ⟨hb6, hb7⟩, HOUT⟩ := HZV.out.store4 (.int .i64 Y.things) (.int .i64 Y.now.known) (.slice A' n' c') (.slice B' m' d'); have HIF := Lib.hid (HXK.out (.int .i64 Y.things) (.int .i64 Y.now.known) (.slice A' n' c') (.slice B' m' d')); replace HB := Lib.hid (bel_set4 HB.out HGL.out (.int .i64 Y.things) (.int .i64 Y.now.known) (.slice A' n' c') (.slice B' m' d')); go_simp)
            refine hK.out _ _ ?_ (fun hHeld => ?_)
            · exact HQ11.out _ HB.out
            clear hK K
            try simp only [List.getElem_toArray, List.getElem_cons_succ, List.getElem_cons_zero, Act.put, List.setIfInBounds_toArray, List.set_cons_zero, List.set_cons_succ]
            refine wpAnyH_ready (rs := [10]) (by kernel_rfl) (by simp) ?_
            refine AllReadyH.cons rfl (fun K hK => ?_) ?_
            · go_simp
              refine hK.out _ _ ?_ (fun hHeld => ?_)
              · exact HQ11.out _ HB.out
              clear hK K
              try simp only [List.getElem_toArray, List.getElem_cons_succ, List.getElem_cons_zero, Act.put, List.setIfInBounds_toArray, List.set_cons_zero, List.set_cons_succ]
              refine wpAnyH_done (by kernel_rfl) ?_ _
              go_wp2_with fail
              go_meet
              exact ⟨_, A', n', c', B', m', d', rfl, rfl, ⟨HOUT.out, HIF.out⟩, HB.out⟩
            exact AllReadyH.nil
          exact AllReadyH.nil
        exact AllReadyH.nil
      exact AllReadyH.nil
    case rest =>
      obtain ⟨h10, A10, n10, c10, B10, m10, d10, rfl, rfl, ⟨hbx, htk⟩, hbw⟩ := hcut
      obtain ⟨W8, rfl⟩ : ∃ W, W = wc := ⟨_, rfl⟩
      have HY8 : Hid (DX W8 h10 Y A10 n10 c10 B10 m10 d10) := ⟨hbx, htk⟩
      have HL8 := Lib.hid (HL7.out.below hbw)
      have HZ8 := Lib.hid (HZ7.out.below hbw)
      clear hbx htk hbw hc0 hc1 hc2 hc3 HQ11 HR11 HL7 HZ7
      have HQ12 : Hid (∀ W, Below W8.heap.size W8 W → (W.cell? ⟨h10, 0, none⟩ = some (.int .i64 Y.things) ∧ W.cell? ⟨h10, 1, none⟩ = some (.int .i64 Y.now.known) ∧ W.cell? ⟨h10, 2, none⟩ = some (.slice A10 n10 c10) ∧ W.cell? ⟨h10, 3, none⟩ = some (.slice B10 m10 d10))) := fun W hb => (HY8.out.below hb).cells
      have hsp : (L = none ∧ ds.length = 0 ∧ lc = 0 ∧ j = 0) ∨ (∃ b, L = some ⟨b, 0, none⟩ ∧ ds.length = 0 ∧ lc = 0 ∧ j = 0) ∨ ∃ b, L = some ⟨b, 0, none⟩ ∧ ¬ lc = j := by
        have h2 := HJ2.out
        rcases HSH.out with ⟨e, e1, e2⟩ | ⟨b, e⟩
        · exact .inl ⟨e, e1, e2, by omega⟩
        · by_cases h : lc = j
          · exact .inr (.inl ⟨b, e, by omega, by omega, by omega⟩)
          · exact .inr (.inr ⟨b, e, h⟩)
      obtain ⟨hc0, hc1, hc2, hc3⟩ := HQ12.out W8 (Below.refl _ _)
      go_upto_region 12 with fail
      rcases hsp with ⟨rfl, hl0, rfl, rfl⟩ | ⟨b, rfl, hl0, rfl, rfl⟩ | ⟨b, rfl, hne⟩
      · have hds : ds = [] := List.eq_nil_of_length_eq_zero hl0
        have HE0 : Hid (∀ W, DRow W none 0 0 (ds.drop 0)) := fun W => by rw [hds]; exact ⟨rfl, Nat.zero_le _, Nat.le_refl _, Nat.zero_le _, Deeds.nil _ _⟩
        clear hds hl0
        have HR12 : Hid (∀ W, Below W8.heap.size W8 W → Calls Tryz.prog 17 #[.agg #[.int .i64 Y.things, .int .i64 Y.now.known, .slice A10 n10 c10, .slice B10 m10 d10], .slice none 0 0] W (RunIn Z N2 W)) := fun W hb => iTalkRun_in HD2 (HY8.out.below hb).t HSY.out (HE0.out W) (fun x hx => HDZ.out x (List.mem_of_mem_drop hx))
        go_cut [12, 13] from 71 to 79 (fun s12 s13 wx => ∃ h A' n' c' B' m' d', s12 = .pointer (some ⟨h, 0, none⟩) ∧ s13 = .int .i64 (N2 : Int) ∧ (Box wx h 28 [.int .i64 Z.things, .int .i64 Z.now.known, .slice A' n' c', .slice B' m' d'] ∧ TkAt wx Z A' n' c' B' m' d') ∧ Below W8.heap.size W8 wx)
        case first =>
          have HB : Hid (Below W8.heap.size W8 W8.drew) := bel_drewN (Below.refl _ _) 1
          refine wp_region_held_drew (S := (fun w' => (w'.cell? ⟨h10, 0, none⟩ = some (.int .i64 Y.things) ∧ w'.cell? ⟨h10, 1, none⟩ = some (.int .i64 Y.now.known) ∧ w'.cell? ⟨h10, 2, none⟩ = some (.slice A10 n10 c10) ∧ w'.cell? ⟨h10, 3, none⟩ = some (.slice B10 m10 d10)))) (by kernel_rfl) ?_ (fun hHeld => ?_)
          · exact HQ12.out _ HB.out
          obtain ⟨wd, hwd⟩ : ∃ wd, W8.drew = wd := ⟨_, rfl⟩
          rw [hwd] at HB hHeld ⊢
          clear hwd
          refine wpAnyH_take (i := 0) (v := ?_) rfl (by kernel_rfl) (by kernel_rfl) (by kernel_rfl) (fun _ _ _ h => h) (Or.inl ⟨by rfl, ?_⟩) (by assumption) ?_
          rotate_left
          · ((intro wz hSw; (try dsimp only at hSw); go_simp) <;> with_reducible rfl)
          try simp only [List.getElem_toArray, List.getElem_cons_succ, List.getElem_cons_zero, Act.put, List.setIfInBounds_toArray, List.set_cons_zero, List.set_cons_succ]
          refine wpAnyH_take (i := 1) (v := ?_) rfl (by kernel_rfl) (by kernel_rfl) (by kernel_rfl) (fun _ _ _ h => h) (Or.inl ⟨by rfl, ?_⟩) (by assumption) ?_
          rotate_left
          · ((intro wz hSw; (try dsimp only at hSw); go_simp) <;> with_reducible rfl)
          try simp only [List.getElem_toArray, List.getElem_cons_succ, List.getElem_cons_zero, Act.put, List.setIfInBounds_toArray, List.set_cons_zero, List.set_cons_succ]
          refine wpAnyH_take (i := 2) (v := ?_) rfl (by kernel_rfl) (by kernel_rfl) (by kernel_rfl) (fun _ _ _ h => h) (Or.inl ⟨by rfl, ?_⟩) (by assumption) ?_
          rotate_left
          · ((intro wz hSw; (try dsimp only at hSw); go_simp) <;> with_reducible rfl)
          try simp only [List.getElem_toArray, List.getElem_cons_succ, List.getElem_cons_zero, Act.put, List.setIfInBounds_toArray, List.set_cons_zero, List.set_cons_succ]
          refine wpAnyH_take (i := 3) (v := ?_) rfl (by kernel_rfl) (by kernel_rfl) (by kernel_rfl) (fun _ _ _ h => h) (Or.inl ⟨by rfl, ?_⟩) (by assumption) ?_
          rotate_left
          · ((intro wz hSw; (try dsimp only at hSw); go_simp) <;> with_reducible rfl)
          try simp only [List.getElem_toArray, List.getElem_cons_succ, List.getElem_cons_zero, Act.put, List.setIfInBounds_toArray, List.set_cons_zero, List.set_cons_succ]
          refine wpAnyH_ready (rs := [4, 8]) (by kernel_rfl) (by simp) ?_
          refine AllReadyH.cons rfl (fun K hK => ?_) ?_
          · (go_simp; go_at_call 17; (try have hzl := HZV.out.lt); refine (HR12.out _ HB.out).mono ?_; rintro e wT ⟨A', n', c', B', m', d', rfl, hown, hb⟩; replace HB := Lib.hid (bel_trans HB.out hb); (try replace HZV := Lib.hid (HZV.out.below hb)); (try have HXK := Lib.hid (fun a b r q => (hown.keep (keeps_set4 hzl a b r q)).at_)); have HI := Lib.hid hown.at_; clear hb hown)
            refine hK.out _ _ ?_ (fun hHeld => ?_)
            · exact HQ12.out _ HB.out
            clear hK K
            try simp only [List.getElem_toArray, List.getElem_cons_succ, List.getElem_cons_zero, Act.put, List.setIfInBounds_toArray, List.set_cons_zero, List.set_cons_succ]
            refine wpAnyH_take (i := 5) (v := ?_) rfl (by kernel_rfl) (by kernel_rfl) (by kernel_rfl) (fun _ _ _ h => h) (Or.inl ⟨by rfl, ?_⟩) (by assumption) ?_
            rotate_left
            · ((intro wz hSw; (try dsimp only at hSw); go_simp) <;> with_reducible rfl)
            try simp only [List.getElem_toArray, List.getElem_cons_succ, List.getElem_cons_zero, Act.put, List.setIfInBounds_toArray, List.set_cons_zero, List.set_cons_succ]
            refine wpAnyH_take (i := 6) (v := ?_) rfl (by kernel_rfl) (by kernel_rfl) (by kernel_rfl) (fun _ _ _ h => h) (Or.inl ⟨by rfl, ?_⟩) (by assumption) ?_
            rotate_left
            · ((intro wz hSw; (try dsimp only at hSw); go_simp) <;> with_reducible rfl)
            try simp only [List.getElem_toArray, List.getElem_cons_succ, List.getElem_cons_zero, Act.put, List.setIfInBounds_toArray, List.set_cons_zero, List.set_cons_succ]
            refine wpAnyH_take (i := 7) (v := ?_) rfl (by kernel_rfl) (by kernel_rfl) (by kernel_rfl) (fun _ _ _ h => h) (Or.inl ⟨by rfl, ?_⟩) (by assumption) ?_
            rotate_left
            · ((intro wz hSw; (try dsimp only at hSw); go_simp) <;> with_reducible rfl)
            try simp only [List.getElem_toArray, List.getElem_cons_succ, List.getElem_cons_zero, Act.put, List.setIfInBounds_toArray, List.set_cons_zero, List.set_cons_succ]
            refine wpAnyH_ready (rs := [8]) (by kernel_rfl) (by simp) ?_
            refine AllReadyH.cons rfl (fun K hK => ?_) ?_
            · (go_simp; obtain ⟨wz, hwz, HZV, HGL, HBn, HBl⟩ := al_gen HB.out HB.out.size; rw [hwz]; (try have HXK := Lib.hid (fun a b r q => at_set4z HI.out hwz a b r q)); replace HB := HBn; clear hwz HBl)
              refine hK.out _ _ ?_ (fun hHeld => ?_)
              · exact HQ12.out _ HB.out
              clear hK K
              try simp only [List.getElem_toArray, List.getElem_cons_succ, List.getElem_cons_zero, Act.put, List.setIfInBounds_toArray, List.set_cons_zero, List.set_cons_succ]
              refine wpAnyH_ready (rs := [9]) (by kernel_rfl) (by simp) ?_
              refine AllReadyH.cons rfl (fun K hK => ?_) ?_
              · (obtain ⟨⟨ha0, ha1, ha2, ha3, ha4, ha5, ha6, ha7⟩, ⟨hb2, hb3⟩, ⟨hb4, hb5⟩, ⟨hb6, hb7⟩, HOUT⟩ := HZV.out.store4 (.int .i64 Z.things) (.int .i64 Z.now.known) (.slice A' n' c') (.slice B' m' d'); have HIF := Lib.hid (HXK.out (.int .i64 Z.things) (.int .i64 Z.now.known) (.slice A' n' c') (.slice B' m' d')); replace HB := Lib.hid (bel_set4 HB.out HGL.out (.int .i64 Z.things) (.int .i64 Z.now.known) (.slice A' n' c') (.slice B' m' d')); go_simp)
                refine hK.out _ _ ?_ (fun hHeld => ?_)
                · exact HQ12.out _ HB.out
                clear hK K
                try simp only [List.getElem_toArray, List.getElem_cons_succ, List.getElem_cons_zero, Act.put, List.setIfInBounds_toArray, List.set_cons_zero, List.set_cons_succ]
                refine wpAnyH_ready (rs := [10]) (by kernel_rfl) (by simp) ?_
                refine AllReadyH.cons rfl (fun K hK => ?_) ?_
                · go_simp
                  refine hK.out _ _ ?_ (fun hHeld => ?_)
                  · exact HQ12.out _ HB.out
                  clear hK K
                  try simp only [List.getElem_toArray, List.getElem_cons_succ, List.getElem_cons_zero, Act.put, List.setIfInBounds_toArray, List.set_cons_zero, List.set_cons_succ]
                  refine wpAnyH_done (by kernel_rfl) ?_ _
                  go_wp2_with fail
                  go_meet
                  exact ⟨_, A', n', c', B', m', d', rfl, rfl, ⟨HOUT.out, HIF.out⟩, HB.out⟩
                exact AllReadyH.nil
              exact AllReadyH.nil
            exact AllReadyH.nil
          refine AllReadyH.cons rfl (fun K hK => ?_) ?_
          · (go_simp; obtain ⟨wz, hwz, HZV, HGL, HBn, HBl⟩ := al_gen HB.out HB.out.size; rw [hwz]; (try have HXK := Lib.hid (fun a b r q => at_set4z HI.out hwz a b r q)); replace HB := HBn; clear hwz HBl)
            refine hK.out _ _ ?_ (fun hHeld => ?_)
            · exact HQ12.out _ HB.out
            clear hK K
            try simp only [List.getElem_toArray, List.getElem_cons_succ, List.getElem_cons_zero, Act.put, List.setIfInBounds_toArray, List.set_cons_zero, List.set_cons_succ]
            refine wpAnyH_ready (rs := [4]) (by kernel_rfl) (by simp) ?_
            refine AllReadyH.cons rfl (fun K hK => ?_) ?_
            · (go_simp; go_at_call 17; (try have hzl := HZV.out.lt); refine (HR12.out _ HB.out).mono ?_; rintro e wT ⟨A', n', c', B', m', d', rfl, hown, hb⟩; replace HB := Lib.hid (bel_trans HB.out hb); (try replace HZV := Lib.hid (HZV.out.below hb)); (try have HXK := Lib.hid (fun a b r q => (hown.keep (keeps_set4 hzl a b r q)).at_)); have HI := Lib.hid hown.at_; clear hb hown)
              refine hK.out _ _ ?_ (fun hHeld => ?_)
              · exact HQ12.out _ HB.out
              clear hK K
              try simp only [List.getElem_toArray, List.getElem_cons_succ, List.getElem_cons_zero, Act.put, List.setIfInBounds_toArray, List.set_cons_zero, List.set_cons_succ]
              refine wpAnyH_take (i := 5) (v := ?_) rfl (by kernel_rfl) (by kernel_rfl) (by kernel_rfl) (fun _ _ _ h => h) (Or.inl ⟨by rfl, ?_⟩) (by assumption) ?_
              rotate_left
              · ((intro wz hSw; (try dsimp only at hSw); go_simp) <;> with_reducible rfl)
              try simp only [List.getElem_toArray, List.getElem_cons_succ, List.getElem_cons_zero, Act.put, List.setIfInBounds_toArray, List.set_cons_zero, List.set_cons_succ]
              refine wpAnyH_take (i := 6) (v := ?_) rfl (by kernel_rfl) (by kernel_rfl) (by kernel_rfl) (fun _ _ _ h => h) (Or.inl ⟨by rfl, ?_⟩) (by assumption) ?_
              rotate_left
              · ((intro wz hSw; (try dsimp only at hSw); go_simp) <;> with_reducible rfl)
              try simp only [List.getElem_toArray, List.getElem_cons_succ, List.getElem_cons_zero, Act.put, List.setIfInBounds_toArray, List.set_cons_zero, List.set_cons_succ]
              refine wpAnyH_take (i := 7) (v := ?_) rfl (by kernel_rfl) (by kernel_rfl) (by kernel_rfl) (fun _ _ _ h => h) (Or.inl ⟨by rfl, ?_⟩) (by assumption) ?_
              rotate_left
              · ((intro wz hSw; (try dsimp only at hSw); go_simp) <;> with_reducible rfl)
              try simp only [List.getElem_toArray, List.getElem_cons_succ, List.getElem_cons_zero, Act.put, List.setIfInBounds_toArray, List.set_cons_zero, List.set_cons_succ]
              refine wpAnyH_ready (rs := [9]) (by kernel_rfl) (by simp) ?_
              refine AllReadyH.cons rfl (fun K hK => ?_) ?_
              · (obtain ⟨⟨ha0, ha1, ha2, ha3, ha4, ha5, ha6, ha7⟩, ⟨hb2, hb3⟩, ⟨hb4, hb5⟩, ⟨hb6, hb7⟩, HOUT⟩ := HZV.out.store4 (.int .i64 Z.things) (.int .i64 Z.now.known) (.slice A' n' c') (.slice B' m' d'); have HIF := Lib.hid (HXK.out (.int .i64 Z.things) (.int .i64 Z.now.known) (.slice A' n' c') (.slice B' m' d')); replace HB := Lib.hid (bel_set4 HB.out HGL.out (.int .i64 Z.things) (.int .i64 Z.now.known) (.slice A' n' c') (.slice B' m' d')); go_simp)
                refine hK.out _ _ ?_ (fun hHeld => ?_)
                · exact HQ12.out _ HB.out
                clear hK K
                try simp only [List.getElem_toArray, List.getElem_cons_succ, List.getElem_cons_zero, Act.put, List.setIfInBounds_toArray, List.set_cons_zero, List.set_cons_succ]
                refine wpAnyH_ready (rs := [10]) (by kernel_rfl) (by simp) ?_
                refine AllReadyH.cons rfl (fun K hK => ?_) ?_
                · go_simp
                  refine hK.out _ _ ?_ (fun hHeld => ?_)
                  · exact HQ12.out _ HB.out
                  clear hK K
                  try simp only [List.getElem_toArray, List.getElem_cons_succ, List.getElem_cons_zero, Act.put, List.setIfInBounds_toArray, List.set_cons_zero, List.set_cons_succ]
                  refine wpAnyH_done (by kernel_rfl) ?_ _
                  go_wp2_with fail
                  go_meet
                  exact ⟨_, A', n', c', B', m', d', rfl, rfl, ⟨HOUT.out, HIF.out⟩, HB.out⟩
                exact AllReadyH.nil
              exact AllReadyH.nil
            exact AllReadyH.nil
          exact AllReadyH.nil
        case rest =>
          obtain ⟨h12, A12, n12, c12, B12, m12, d12, rfl, rfl, ⟨hbx, htk⟩, hbw⟩ := hcut
          obtain ⟨W9, rfl⟩ : ∃ W, W = wc := ⟨_, rfl⟩
          have HC9 : Hid (DX W9 h12 Z A12 n12 c12 B12 m12 d12) := ⟨hbx, htk⟩
          have HL9 := Lib.hid (HL8.out.below hbw)
          have HZ9 := Lib.hid (HZ8.out.below hbw)
          clear hbx htk hbw hc0 hc1 hc2 hc3 HQ12 HR12 HL8 HZ8
          obtain ⟨hd0, hd1, hd2, hd3⟩ := HZ9.out.cells
          have HTX := Lib.hid (iTalkOk X A5 B5 n5 c5 m5 d5 _ HZ9.out.t HSX.out)
          rw [HHV.out.2.2.2] at HTX
          go_wp2_with fail
          refine HTX.out.mono ?_
          rintro e w10 ⟨rfl, hb⟩
          have HL10 := Lib.hid (HL9.out.below hb)
          have HZ10 := Lib.hid (HZ9.out.below hb)
          have HC10 := Lib.hid (HC9.out.below hb)
          clear hb hd0 hd1 hd2 hd3 HTX HL9 HZ9 HC9
          obtain ⟨hd0, hd1, hd2, hd3⟩ := HZ10.out.cells
          obtain ⟨he0, he1, he2, he3⟩ := HC10.out.cells
          have hN40 : N ≤ 40 := HHV.out.2.2.1
          have hNI : (N1 : Int) + (N2 : Int) = (N : Int) := by have := HHV.out.2.1; omega
          have hNN : ((N : Int) == (N : Int)) = true := by simp
          go_wp2_with fail
          refine (lSameTalk Z X A12 B12 A5 B5 n12 c12 m12 d12 n5 c5 m5 d5 _ HC10.out.t HZ10.out.t HSZ.out HSX.out).mono ?_
          rintro e w11 ⟨⟨b9, rfl, hbt⟩, hb⟩
          obtain rfl : b9 = true := hbt HHV.out.1
          have HBE := Lib.hid (HL10.out.below hb).b
          clear hb hbt hd0 hd1 hd2 hd3 he0 he1 he2 he3
          go_wp2_with fail
          go_ret
          exact ⟨rfl, HBE.out⟩
      · have hds : ds = [] := List.eq_nil_of_length_eq_zero hl0
        have HE0 : Hid (∀ W, DRow W (some ⟨b, 0, none⟩) 0 0 (ds.drop 0)) := fun W => by rw [hds]; exact ⟨rfl, Nat.zero_le _, Nat.le_refl _, Nat.zero_le _, Deeds.nil _ _⟩
        clear hds hl0
        have HR12 : Hid (∀ W, Below W8.heap.size W8 W → Calls Tryz.prog 17 #[.agg #[.int .i64 Y.things, .int .i64 Y.now.known, .slice A10 n10 c10, .slice B10 m10 d10], .slice (some ⟨b, 0, none⟩) 0 0] W (RunIn Z N2 W)) := fun W hb => iTalkRun_in HD2 (HY8.out.below hb).t HSY.out (HE0.out W) (fun x hx => HDZ.out x (List.mem_of_mem_drop hx))
        go_cut [12, 13] from 71 to 79 (fun s12 s13 wx => ∃ h A' n' c' B' m' d', s12 = .pointer (some ⟨h, 0, none⟩) ∧ s13 = .int .i64 (N2 : Int) ∧ (Box wx h 28 [.int .i64 Z.things, .int .i64 Z.now.known, .slice A' n' c', .slice B' m' d'] ∧ TkAt wx Z A' n' c' B' m' d') ∧ Below W8.heap.size W8 wx)
        case first =>
          have HB : Hid (Below W8.heap.size W8 W8.drew) := bel_drewN (Below.refl _ _) 1
          refine wp_region_held_drew (S := (fun w' => (w'.cell? ⟨h10, 0, none⟩ = some (.int .i64 Y.things) ∧ w'.cell? ⟨h10, 1, none⟩ = some (.int .i64 Y.now.known) ∧ w'.cell? ⟨h10, 2, none⟩ = some (.slice A10 n10 c10) ∧ w'.cell? ⟨h10, 3, none⟩ = some (.slice B10 m10 d10)))) (by kernel_rfl) ?_ (fun hHeld => ?_)
          · exact HQ12.out _ HB.out
          obtain ⟨wd, hwd⟩ : ∃ wd, W8.drew = wd := ⟨_, rfl⟩
          rw [hwd] at HB hHeld ⊢
          clear hwd
          refine wpAnyH_take (i := 0) (v := ?_) rfl (by kernel_rfl) (by kernel_rfl) (by kernel_rfl) (fun _ _ _ h => h) (Or.inl ⟨by rfl, ?_⟩) (by assumption) ?_
          rotate_left
          · ((intro wz hSw; (try dsimp only at hSw); go_simp) <;> with_reducible rfl)
          try simp only [List.getElem_toArray, List.getElem_cons_succ, List.getElem_cons_zero, Act.put, List.setIfInBounds_toArray, List.set_cons_zero, List.set_cons_succ]
          refine wpAnyH_take (i := 1) (v := ?_) rfl (by kernel_rfl) (by kernel_rfl) (by kernel_rfl) (fun _ _ _ h => h) (Or.inl ⟨by rfl, ?_⟩) (by assumption) ?_
          rotate_left
          · ((intro wz hSw; (try dsimp only at hSw); go_simp) <;> with_reducible rfl)
          try simp only [List.getElem_toArray, List.getElem_cons_succ, List.getElem_cons_zero, Act.put, List.setIfInBounds_toArray, List.set_cons_zero, List.set_cons_succ]
          refine wpAnyH_take (i := 2) (v := ?_) rfl (by kernel_rfl) (by kernel_rfl) (by kernel_rfl) (fun _ _ _ h => h) (Or.inl ⟨by rfl, ?_⟩) (by assumption) ?_
          rotate_left
          · ((intro wz hSw; (try dsimp only at hSw); go_simp) <;> with_reducible rfl)
          try simp only [List.getElem_toArray, List.getElem_cons_succ, List.getElem_cons_zero, Act.put, List.setIfInBounds_toArray, List.set_cons_zero, List.set_cons_succ]
          refine wpAnyH_take (i := 3) (v := ?_) rfl (by kernel_rfl) (by kernel_rfl) (by kernel_rfl) (fun _ _ _ h => h) (Or.inl ⟨by rfl, ?_⟩) (by assumption) ?_
          rotate_left
          · ((intro wz hSw; (try dsimp only at hSw); go_simp) <;> with_reducible rfl)
          try simp only [List.getElem_toArray, List.getElem_cons_succ, List.getElem_cons_zero, Act.put, List.setIfInBounds_toArray, List.set_cons_zero, List.set_cons_succ]
          refine wpAnyH_ready (rs := [4, 8]) (by kernel_rfl) (by simp) ?_
          refine AllReadyH.cons rfl (fun K hK => ?_) ?_
          · (go_simp; go_at_call 17; (try have hzl := HZV.out.lt); refine (HR12.out _ HB.out).mono ?_; rintro e wT ⟨A', n', c', B', m', d', rfl, hown, hb⟩; replace HB := Lib.hid (bel_trans HB.out hb); (try replace HZV := Lib.hid (HZV.out.below hb)); (try have HXK := Lib.hid (fun a b r q => (hown.keep (keeps_set4 hzl a b r q)).at_)); have HI := Lib.hid hown.at_; clear hb hown)
            refine hK.out _ _ ?_ (fun hHeld => ?_)
            · exact HQ12.out _ HB.out
            clear hK K
            try simp only [List.getElem_toArray, List.getElem_cons_succ, List.getElem_cons_zero, Act.put, List.setIfInBounds_toArray, List.set_cons_zero, List.set_cons_succ]
            refine wpAnyH_take (i := 5) (v := ?_) rfl (by kernel_rfl) (by kernel_rfl) (by kernel_rfl) (fun _ _ _ h => h) (Or.inl ⟨by rfl, ?_⟩) (by assumption) ?_
            rotate_left
            · ((intro wz hSw; (try dsimp only at hSw); go_simp) <;> with_reducible rfl)
            try simp only [List.getElem_toArray, List.getElem_cons_succ, List.getElem_cons_zero, Act.put, List.setIfInBounds_toArray, List.set_cons_zero, List.set_cons_succ]
            refine wpAnyH_take (i := 6) (v := ?_) rfl (by kernel_rfl) (by kernel_rfl) (by kernel_rfl) (fun _ _ _ h => h) (Or.inl ⟨by rfl, ?_⟩) (by assumption) ?_
            rotate_left
            · ((intro wz hSw; (try dsimp only at hSw); go_simp) <;> with_reducible rfl)
            try simp only [List.getElem_toArray, List.getElem_cons_succ, List.getElem_cons_zero, Act.put, List.setIfInBounds_toArray, List.set_cons_zero, List.set_cons_succ]
            refine wpAnyH_take (i := 7) (v := ?_) rfl (by kernel_rfl) (by kernel_rfl) (by kernel_rfl) (fun _ _ _ h => h) (Or.inl ⟨by rfl, ?_⟩) (by assumption) ?_
            rotate_left
            · ((intro wz hSw; (try dsimp only at hSw); go_simp) <;> with_reducible rfl)
            try simp only [List.getElem_toArray, List.getElem_cons_succ, List.getElem_cons_zero, Act.put, List.setIfInBounds_toArray, List.set_cons_zero, List.set_cons_succ]
            refine wpAnyH_ready (rs := [8]) (by kernel_rfl) (by simp) ?_
            refine AllReadyH.cons rfl (fun K hK => ?_) ?_
            · (go_simp; obtain ⟨wz, hwz, HZV, HGL, HBn, HBl⟩ := al_gen HB.out HB.out.size; rw [hwz]; (try have HXK := Lib.hid (fun a b r q => at_set4z HI.out hwz a b r q)); replace HB := HBn; clear hwz HBl)
              refine hK.out _ _ ?_ (fun hHeld => ?_)
              · exact HQ12.out _ HB.out
              clear hK K
              try simp only [List.getElem_toArray, List.getElem_cons_succ, List.getElem_cons_zero, Act.put, List.setIfInBounds_toArray, List.set_cons_zero, List.set_cons_succ]
              refine wpAnyH_ready (rs := [9]) (by kernel_rfl) (by simp) ?_
              refine AllReadyH.cons rfl (fun K hK => ?_) ?_
              · (obtain ⟨⟨ha0, ha1, ha2, ha3, ha4, ha5, ha6, ha7⟩, ⟨hb2, hb3⟩, ⟨hb4, hb5⟩, ⟨hb6, hb7⟩, HOUT⟩ := HZV.out.store4 (.int .i64 Z.things) (.int .i64 Z.now.known) (.slice A' n' c') (.slice B' m' d'); have HIF := Lib.hid (HXK.out (.int .i64 Z.things) (.int .i64 Z.now.known) (.slice A' n' c') (.slice B' m' d')); replace HB := Lib.hid (bel_set4 HB.out HGL.out (.int .i64 Z.things) (.int .i64 Z.now.known) (.slice A' n' c') (.slice B' m' d')); go_simp)
                refine hK.out _ _ ?_ (fun hHeld => ?_)
                · exact HQ12.out _ HB.out
                clear hK K
                try simp only [List.getElem_toArray, List.getElem_cons_succ, List.getElem_cons_zero, Act.put, List.setIfInBounds_toArray, List.set_cons_zero, List.set_cons_succ]
                refine wpAnyH_ready (rs := [10]) (by kernel_rfl) (by simp) ?_
                refine AllReadyH.cons rfl (fun K hK => ?_) ?_
                · go_simp
                  refine hK.out _ _ ?_ (fun hHeld => ?_)
                  · exact HQ12.out _ HB.out
                  clear hK K
                  try simp only [List.getElem_toArray, List.getElem_cons_succ, List.getElem_cons_zero, Act.put, List.setIfInBounds_toArray, List.set_cons_zero, List.set_cons_succ]
                  refine wpAnyH_done (by kernel_rfl) ?_ _
                  go_wp2_with fail
                  go_meet
                  exact ⟨_, A', n', c', B', m', d', rfl, rfl, ⟨HOUT.out, HIF.out⟩, HB.out⟩
                exact AllReadyH.nil
              exact AllReadyH.nil
            exact AllReadyH.nil
          refine AllReadyH.cons rfl (fun K hK => ?_) ?_
          · (go_simp; obtain ⟨wz, hwz, HZV, HGL, HBn, HBl⟩ := al_gen HB.out HB.out.size; rw [hwz]; (try have HXK := Lib.hid (fun a b r q => at_set4z HI.out hwz a b r q)); replace HB := HBn; clear hwz HBl)
            refine hK.out _ _ ?_ (fun hHeld => ?_)
            · exact HQ12.out _ HB.out
            clear hK K
            try simp only [List.getElem_toArray, List.getElem_cons_succ, List.getElem_cons_zero, Act.put, List.setIfInBounds_toArray, List.set_cons_zero, List.set_cons_succ]
            refine wpAnyH_ready (rs := [4]) (by kernel_rfl) (by simp) ?_
            refine AllReadyH.cons rfl (fun K hK => ?_) ?_
            · (go_simp; go_at_call 17; (try have hzl := HZV.out.lt); refine (HR12.out _ HB.out).mono ?_; rintro e wT ⟨A', n', c', B', m', d', rfl, hown, hb⟩; replace HB := Lib.hid (bel_trans HB.out hb); (try replace HZV := Lib.hid (HZV.out.below hb)); (try have HXK := Lib.hid (fun a b r q => (hown.keep (keeps_set4 hzl a b r q)).at_)); have HI := Lib.hid hown.at_; clear hb hown)
              refine hK.out _ _ ?_ (fun hHeld => ?_)
              · exact HQ12.out _ HB.out
              clear hK K
              try simp only [List.getElem_toArray, List.getElem_cons_succ, List.getElem_cons_zero, Act.put, List.setIfInBounds_toArray, List.set_cons_zero, List.set_cons_succ]
              refine wpAnyH_take (i := 5) (v := ?_) rfl (by kernel_rfl) (by kernel_rfl) (by kernel_rfl) (fun _ _ _ h => h) (Or.inl ⟨by rfl, ?_⟩) (by assumption) ?_
              rotate_left
              · ((intro wz hSw; (try dsimp only at hSw); go_simp) <;> with_reducible rfl)
              try simp only [List.getElem_toArray, List.getElem_cons_succ, List.getElem_cons_zero, Act.put, List.setIfInBounds_toArray, List.set_cons_zero, List.set_cons_succ]
              refine wpAnyH_take (i := 6) (v := ?_) rfl (by kernel_rfl) (by kernel_rfl) (by kernel_rfl) (fun _ _ _ h => h) (Or.inl ⟨by rfl, ?_⟩) (by assumption) ?_
              rotate_left
              · ((intro wz hSw; (try dsimp only at hSw); go_simp) <;> with_reducible rfl)
              try simp only [List.getElem_toArray, List.getElem_cons_succ, List.getElem_cons_zero, Act.put, List.setIfInBounds_toArray, List.set_cons_zero, List.set_cons_succ]
              refine wpAnyH_take (i := 7) (v := ?_) rfl (by kernel_rfl) (by kernel_rfl) (by kernel_rfl) (fun _ _ _ h => h) (Or.inl ⟨by rfl, ?_⟩) (by assumption) ?_
              rotate_left
              · ((intro wz hSw; (try dsimp only at hSw); go_simp) <;> with_reducible rfl)
              try simp only [List.getElem_toArray, List.getElem_cons_succ, List.getElem_cons_zero, Act.put, List.setIfInBounds_toArray, List.set_cons_zero, List.set_cons_succ]
              refine wpAnyH_ready (rs := [9]) (by kernel_rfl) (by simp) ?_
              refine AllReadyH.cons rfl (fun K hK => ?_) ?_
              · (obtain ⟨⟨ha0, ha1, ha2, ha3, ha4, ha5, ha6, ha7⟩, ⟨hb2, hb3⟩, ⟨hb4, hb5⟩, ⟨hb6, hb7⟩, HOUT⟩ := HZV.out.store4 (.int .i64 Z.things) (.int .i64 Z.now.known) (.slice A' n' c') (.slice B' m' d'); have HIF := Lib.hid (HXK.out (.int .i64 Z.things) (.int .i64 Z.now.known) (.slice A' n' c') (.slice B' m' d')); replace HB := Lib.hid (bel_set4 HB.out HGL.out (.int .i64 Z.things) (.int .i64 Z.now.known) (.slice A' n' c') (.slice B' m' d')); go_simp)
                refine hK.out _ _ ?_ (fun hHeld => ?_)
                · exact HQ12.out _ HB.out
                clear hK K
                try simp only [List.getElem_toArray, List.getElem_cons_succ, List.getElem_cons_zero, Act.put, List.setIfInBounds_toArray, List.set_cons_zero, List.set_cons_succ]
                refine wpAnyH_ready (rs := [10]) (by kernel_rfl) (by simp) ?_
                refine AllReadyH.cons rfl (fun K hK => ?_) ?_
                · go_simp
                  refine hK.out _ _ ?_ (fun hHeld => ?_)
                  · exact HQ12.out _ HB.out
                  clear hK K
                  try simp only [List.getElem_toArray, List.getElem_cons_succ, List.getElem_cons_zero, Act.put, List.setIfInBounds_toArray, List.set_cons_zero, List.set_cons_succ]
                  refine wpAnyH_done (by kernel_rfl) ?_ _
                  go_wp2_with fail
                  go_meet
                  exact ⟨_, A', n', c', B', m', d', rfl, rfl, ⟨HOUT.out, HIF.out⟩, HB.out⟩
                exact AllReadyH.nil
              exact AllReadyH.nil
            exact AllReadyH.nil
          exact AllReadyH.nil
        case rest =>
          obtain ⟨h12, A12, n12, c12, B12, m12, d12, rfl, rfl, ⟨hbx, htk⟩, hbw⟩ := hcut
          obtain ⟨W9, rfl⟩ : ∃ W, W = wc := ⟨_, rfl⟩
          have HC9 : Hid (DX W9 h12 Z A12 n12 c12 B12 m12 d12) := ⟨hbx, htk⟩
          have HL9 := Lib.hid (HL8.out.below hbw)
          have HZ9 := Lib.hid (HZ8.out.below hbw)
          clear hbx htk hbw hc0 hc1 hc2 hc3 HQ12 HR12 HL8 HZ8
          obtain ⟨hd0, hd1, hd2, hd3⟩ := HZ9.out.cells
          have HTX := Lib.hid (iTalkOk X A5 B5 n5 c5 m5 d5 _ HZ9.out.t HSX.out)
          rw [HHV.out.2.2.2] at HTX
          go_wp2_with fail
          refine HTX.out.mono ?_
          rintro e w10 ⟨rfl, hb⟩
          have HL10 := Lib.hid (HL9.out.below hb)
          have HZ10 := Lib.hid (HZ9.out.below hb)
          have HC10 := Lib.hid (HC9.out.below hb)
          clear hb hd0 hd1 hd2 hd3 HTX HL9 HZ9 HC9
          obtain ⟨hd0, hd1, hd2, hd3⟩ := HZ10.out.cells
          obtain ⟨he0, he1, he2, he3⟩ := HC10.out.cells
          have hN40 : N ≤ 40 := HHV.out.2.2.1
          have hNI : (N1 : Int) + (N2 : Int) = (N : Int) := by have := HHV.out.2.1; omega
          have hNN : ((N : Int) == (N : Int)) = true := by simp
          go_wp2_with fail
          refine (lSameTalk Z X A12 B12 A5 B5 n12 c12 m12 d12 n5 c5 m5 d5 _ HC10.out.t HZ10.out.t HSZ.out HSX.out).mono ?_
          rintro e w11 ⟨⟨b9, rfl, hbt⟩, hb⟩
          obtain rfl : b9 = true := hbt HHV.out.1
          have HBE := Lib.hid (HL10.out.below hb).b
          clear hb hbt hd0 hd1 hd2 hd3 he0 he1 he2 he3
          go_wp2_with fail
          go_ret
          exact ⟨rfl, HBE.out⟩
      · have hjlc2 : (j : Int) ≤ (lc : Int) := by omega
        have HR12 : Hid (∀ W, Below W8.heap.size W8 W → Calls Tryz.prog 17 #[.agg #[.int .i64 Y.things, .int .i64 Y.now.known, .slice A10 n10 c10, .slice B10 m10 d10], .slice (some ⟨b, j * 2, none⟩) (ds.length - j) (lc - j)] W (RunIn Z N2 W)) := fun W hb => iTalkRun_in HD2 (HY8.out.below hb).t HSY.out (row_drop (HL8.out.below hb).l) (fun x hx => HDZ.out x (List.mem_of_mem_drop hx))
        go_cut [12, 13] from 71 to 79 (fun s12 s13 wx => ∃ h A' n' c' B' m' d', s12 = .pointer (some ⟨h, 0, none⟩) ∧ s13 = .int .i64 (N2 : Int) ∧ (Box wx h 28 [.int .i64 Z.things, .int .i64 Z.now.known, .slice A' n' c', .slice B' m' d'] ∧ TkAt wx Z A' n' c' B' m' d') ∧ Below W8.heap.size W8 wx)
        case first =>
          have HB : Hid (Below W8.heap.size W8 W8.drew) := bel_drewN (Below.refl _ _) 1
          refine wp_region_held_drew (S := (fun w' => (w'.cell? ⟨h10, 0, none⟩ = some (.int .i64 Y.things) ∧ w'.cell? ⟨h10, 1, none⟩ = some (.int .i64 Y.now.known) ∧ w'.cell? ⟨h10, 2, none⟩ = some (.slice A10 n10 c10) ∧ w'.cell? ⟨h10, 3, none⟩ = some (.slice B10 m10 d10)))) (by kernel_rfl) ?_ (fun hHeld => ?_)
          · exact HQ12.out _ HB.out
          obtain ⟨wd, hwd⟩ : ∃ wd, W8.drew = wd := ⟨_, rfl⟩
          rw [hwd] at HB hHeld ⊢
          clear hwd
          refine wpAnyH_take (i := 0) (v := ?_) rfl (by kernel_rfl) (by kernel_rfl) (by kernel_rfl) (fun _ _ _ h => h) (Or.inl ⟨by rfl, ?_⟩) (by assumption) ?_
          rotate_left
          · ((intro wz hSw; (try dsimp only at hSw); go_simp) <;> with_reducible rfl)
          try simp only [List.getElem_toArray, List.getElem_cons_succ, List.getElem_cons_zero, Act.put, List.setIfInBounds_toArray, List.set_cons_zero, List.set_cons_succ]
          refine wpAnyH_take (i := 1) (v := ?_) rfl (by kernel_rfl) (by kernel_rfl) (by kernel_rfl) (fun _ _ _ h => h) (Or.inl ⟨by rfl, ?_⟩) (by assumption) ?_
          rotate_left
          · ((intro wz hSw; (try dsimp only at hSw); go_simp) <;> with_reducible rfl)
          try simp only [List.getElem_toArray, List.getElem_cons_succ, List.getElem_cons_zero, Act.put, List.setIfInBounds_toArray, List.set_cons_zero, List.set_cons_succ]
          refine wpAnyH_take (i := 2) (v := ?_) rfl (by kernel_rfl) (by kernel_rfl) (by kernel_rfl) (fun _ _ _ h => h) (Or.inl ⟨by rfl, ?_⟩) (by assumption) ?_
          rotate_left
          · ((intro wz hSw; (try dsimp only at hSw); go_simp) <;> with_reducible rfl)
          try simp only [List.getElem_toArray, List.getElem_cons_succ, List.getElem_cons_zero, Act.put, List.setIfInBounds_toArray, List.set_cons_zero, List.set_cons_succ]
          refine wpAnyH_take (i := 3) (v := ?_) rfl (by kernel_rfl) (by kernel_rfl) (by kernel_rfl) (fun _ _ _ h => h) (Or.inl ⟨by rfl, ?_⟩) (by assumption) ?_
          rotate_left
          · ((intro wz hSw; (try dsimp only at hSw); go_simp) <;> with_reducible rfl)
          try simp only [List.getElem_toArray, List.getElem_cons_succ, List.getElem_cons_zero, Act.put, List.setIfInBounds_toArray, List.set_cons_zero, List.set_cons_succ]
          refine wpAnyH_ready (rs := [4, 8]) (by kernel_rfl) (by simp) ?_
          refine AllReadyH.cons rfl (fun K hK => ?_) ?_
          · (go_simp; go_at_call 17; (try have hzl := HZV.out.lt); refine (HR12.out _ HB.out).mono ?_; rintro e wT ⟨A', n', c', B', m', d', rfl, hown, hb⟩; replace HB := Lib.hid (bel_trans HB.out hb); (try replace HZV := Lib.hid (HZV.out.below hb)); (try have HXK := Lib.hid (fun a b r q => (hown.keep (keeps_set4 hzl a b r q)).at_)); have HI := Lib.hid hown.at_; clear hb hown)
            refine hK.out _ _ ?_ (fun hHeld => ?_)
            · exact HQ12.out _ HB.out
            clear hK K
            try simp only [List.getElem_toArray, List.getElem_cons_succ, List.getElem_cons_zero, Act.put, List.setIfInBounds_toArray, List.set_cons_zero, List.set_cons_succ]
            refine wpAnyH_take (i := 5) (v := ?_) rfl (by kernel_rfl) (by kernel_rfl) (by kernel_rfl) (fun _ _ _ h => h) (Or.inl ⟨by rfl, ?_⟩) (by assumption) ?_
            rotate_left
            · ((intro wz hSw; (try dsimp only at hSw); go_simp) <;> with_reducible rfl)
            try simp only [List.getElem_toArray, List.getElem_cons_succ, List.getElem_cons_zero, Act.put, List.setIfInBounds_toArray, List.set_cons_zero, List.set_cons_succ]
            refine wpAnyH_take (i := 6) (v := ?_) rfl (by kernel_rfl) (by kernel_rfl) (by kernel_rfl) (fun _ _ _ h => h) (Or.inl ⟨by rfl, ?_⟩) (by assumption) ?_
            rotate_left
            · ((intro wz hSw; (try dsimp only at hSw); go_simp) <;> with_reducible rfl)
            try simp only [List.getElem_toArray, List.getElem_cons_succ, List.getElem_cons_zero, Act.put, List.setIfInBounds_toArray, List.set_cons_zero, List.set_cons_succ]
            refine wpAnyH_take (i := 7) (v := ?_) rfl (by kernel_rfl) (by kernel_rfl) (by kernel_rfl) (fun _ _ _ h => h) (Or.inl ⟨by rfl, ?_⟩) (by assumption) ?_
            rotate_left
            · ((intro wz hSw; (try dsimp only at hSw); go_simp) <;> with_reducible rfl)
            try simp only [List.getElem_toArray, List.getElem_cons_succ, List.getElem_cons_zero, Act.put, List.setIfInBounds_toArray, List.set_cons_zero, List.set_cons_succ]
            refine wpAnyH_ready (rs := [8]) (by kernel_rfl) (by simp) ?_
            refine AllReadyH.cons rfl (fun K hK => ?_) ?_
            · (go_simp; obtain ⟨wz, hwz, HZV, HGL, HBn, HBl⟩ := al_gen HB.out HB.out.size; rw [hwz]; (try have HXK := Lib.hid (fun a b r q => at_set4z HI.out hwz a b r q)); replace HB := HBn; clear hwz HBl)
              refine hK.out _ _ ?_ (fun hHeld => ?_)
              · exact HQ12.out _ HB.out
              clear hK K
              try simp only [List.getElem_toArray, List.getElem_cons_succ, List.getElem_cons_zero, Act.put, List.setIfInBounds_toArray, List.set_cons_zero, List.set_cons_succ]
              refine wpAnyH_ready (rs := [9]) (by kernel_rfl) (by simp) ?_
              refine AllReadyH.cons rfl (fun K hK => ?_) ?_
              · (obtain ⟨⟨ha0, ha1, ha2, ha3, ha4, ha5, ha6, ha7⟩, ⟨hb2, hb3⟩, ⟨hb4, hb5⟩, ⟨hb6, hb7⟩, HOUT⟩ := HZV.out.store4 (.int .i64 Z.things) (.int .i64 Z.now.known) (.slice A' n' c') (.slice B' m' d'); have HIF := Lib.hid (HXK.out (.int .i64 Z.things) (.int .i64 Z.now.known) (.slice A' n' c') (.slice B' m' d')); replace HB := Lib.hid (bel_set4 HB.out HGL.out (.int .i64 Z.things) (.int .i64 Z.now.known) (.slice A' n' c') (.slice B' m' d')); go_simp)
                refine hK.out _ _ ?_ (fun hHeld => ?_)
                · exact HQ12.out _ HB.out
                clear hK K
                try simp only [List.getElem_toArray, List.getElem_cons_succ, List.getElem_cons_zero, Act.put, List.setIfInBounds_toArray, List.set_cons_zero, List.set_cons_succ]
                refine wpAnyH_ready (rs := [10]) (by kernel_rfl) (by simp) ?_
                refine AllReadyH.cons rfl (fun K hK => ?_) ?_
                · go_simp
                  refine hK.out _ _ ?_ (fun hHeld => ?_)
                  · exact HQ12.out _ HB.out
                  clear hK K
                  try simp only [List.getElem_toArray, List.getElem_cons_succ, List.getElem_cons_zero, Act.put, List.setIfInBounds_toArray, List.set_cons_zero, List.set_cons_succ]
                  refine wpAnyH_done (by kernel_rfl) ?_ _
                  go_wp2_with fail
                  go_meet
                  exact ⟨_, A', n', c', B', m', d', rfl, rfl, ⟨HOUT.out, HIF.out⟩, HB.out⟩
                exact AllReadyH.nil
              exact AllReadyH.nil
            exact AllReadyH.nil
          refine AllReadyH.cons rfl (fun K hK => ?_) ?_
          · (go_simp; obtain ⟨wz, hwz, HZV, HGL, HBn, HBl⟩ := al_gen HB.out HB.out.size; rw [hwz]; (try have HXK := Lib.hid (fun a b r q => at_set4z HI.out hwz a b r q)); replace HB := HBn; clear hwz HBl)
            refine hK.out _ _ ?_ (fun hHeld => ?_)
            · exact HQ12.out _ HB.out
            clear hK K
            try simp only [List.getElem_toArray, List.getElem_cons_succ, List.getElem_cons_zero, Act.put, List.setIfInBounds_toArray, List.set_cons_zero, List.set_cons_succ]
            refine wpAnyH_ready (rs := [4]) (by kernel_rfl) (by simp) ?_
            refine AllReadyH.cons rfl (fun K hK => ?_) ?_
            · (go_simp; go_at_call 17; (try have hzl := HZV.out.lt); refine (HR12.out _ HB.out).mono ?_; rintro e wT ⟨A', n', c', B', m', d', rfl, hown, hb⟩; replace HB := Lib.hid (bel_trans HB.out hb); (try replace HZV := Lib.hid (HZV.out.below hb)); (try have HXK := Lib.hid (fun a b r q => (hown.keep (keeps_set4 hzl a b r q)).at_)); have HI := Lib.hid hown.at_; clear hb hown)
              refine hK.out _ _ ?_ (fun hHeld => ?_)
              · exact HQ12.out _ HB.out
              clear hK K
              try simp only [List.getElem_toArray, List.getElem_cons_succ, List.getElem_cons_zero, Act.put, List.setIfInBounds_toArray, List.set_cons_zero, List.set_cons_succ]
              refine wpAnyH_take (i := 5) (v := ?_) rfl (by kernel_rfl) (by kernel_rfl) (by kernel_rfl) (fun _ _ _ h => h) (Or.inl ⟨by rfl, ?_⟩) (by assumption) ?_
              rotate_left
              · ((intro wz hSw; (try dsimp only at hSw); go_simp) <;> with_reducible rfl)
              try simp only [List.getElem_toArray, List.getElem_cons_succ, List.getElem_cons_zero, Act.put, List.setIfInBounds_toArray, List.set_cons_zero, List.set_cons_succ]
              refine wpAnyH_take (i := 6) (v := ?_) rfl (by kernel_rfl) (by kernel_rfl) (by kernel_rfl) (fun _ _ _ h => h) (Or.inl ⟨by rfl, ?_⟩) (by assumption) ?_
              rotate_left
              · ((intro wz hSw; (try dsimp only at hSw); go_simp) <;> with_reducible rfl)
              try simp only [List.getElem_toArray, List.getElem_cons_succ, List.getElem_cons_zero, Act.put, List.setIfInBounds_toArray, List.set_cons_zero, List.set_cons_succ]
              refine wpAnyH_take (i := 7) (v := ?_) rfl (by kernel_rfl) (by kernel_rfl) (by kernel_rfl) (fun _ _ _ h => h) (Or.inl ⟨by rfl, ?_⟩) (by assumption) ?_
              rotate_left
              · ((intro wz hSw; (try dsimp only at hSw); go_simp) <;> with_reducible rfl)
              try simp only [List.getElem_toArray, List.getElem_cons_succ, List.getElem_cons_zero, Act.put, List.setIfInBounds_toArray, List.set_cons_zero, List.set_cons_succ]
              refine wpAnyH_ready (rs := [9]) (by kernel_rfl) (by simp) ?_
              refine AllReadyH.cons rfl (fun K hK => ?_) ?_
              · (obtain ⟨⟨ha0, ha1, ha2, ha3, ha4, ha5, ha6, ha7⟩, ⟨hb2, hb3⟩, ⟨hb4, hb5⟩, ⟨hb6, hb7⟩, HOUT⟩ := HZV.out.store4 (.int .i64 Z.things) (.int .i64 Z.now.known) (.slice A' n' c') (.slice B' m' d'); have HIF := Lib.hid (HXK.out (.int .i64 Z.things) (.int .i64 Z.now.known) (.slice A' n' c') (.slice B' m' d')); replace HB := Lib.hid (bel_set4 HB.out HGL.out (.int .i64 Z.things) (.int .i64 Z.now.known) (.slice A' n' c') (.slice B' m' d')); go_simp)
                refine hK.out _ _ ?_ (fun hHeld => ?_)
                · exact HQ12.out _ HB.out
                clear hK K
                try simp only [List.getElem_toArray, List.getElem_cons_succ, List.getElem_cons_zero, Act.put, List.setIfInBounds_toArray, List.set_cons_zero, List.set_cons_succ]
                refine wpAnyH_ready (rs := [10]) (by kernel_rfl) (by simp) ?_
                refine AllReadyH.cons rfl (fun K hK => ?_) ?_
                · go_simp
                  refine hK.out _ _ ?_ (fun hHeld => ?_)
                  · exact HQ12.out _ HB.out
                  clear hK K
                  try simp only [List.getElem_toArray, List.getElem_cons_succ, List.getElem_cons_zero, Act.put, List.setIfInBounds_toArray, List.set_cons_zero, List.set_cons_succ]
                  refine wpAnyH_done (by kernel_rfl) ?_ _
                  go_wp2_with fail
                  go_meet
                  exact ⟨_, A', n', c', B', m', d', rfl, rfl, ⟨HOUT.out, HIF.out⟩, HB.out⟩
                exact AllReadyH.nil
              exact AllReadyH.nil
            exact AllReadyH.nil
          exact AllReadyH.nil
        case rest =>
          obtain ⟨h12, A12, n12, c12, B12, m12, d12, rfl, rfl, ⟨hbx, htk⟩, hbw⟩ := hcut
          obtain ⟨W9, rfl⟩ : ∃ W, W = wc := ⟨_, rfl⟩
          have HC9 : Hid (DX W9 h12 Z A12 n12 c12 B12 m12 d12) := ⟨hbx, htk⟩
          have HL9 := Lib.hid (HL8.out.below hbw)
          have HZ9 := Lib.hid (HZ8.out.below hbw)
          clear hbx htk hbw hc0 hc1 hc2 hc3 HQ12 HR12 HL8 HZ8
          obtain ⟨hd0, hd1, hd2, hd3⟩ := HZ9.out.cells
          have HTX := Lib.hid (iTalkOk X A5 B5 n5 c5 m5 d5 _ HZ9.out.t HSX.out)
          rw [HHV.out.2.2.2] at HTX
          go_wp2_with fail
          refine HTX.out.mono ?_
          rintro e w10 ⟨rfl, hb⟩
          have HL10 := Lib.hid (HL9.out.below hb)
          have HZ10 := Lib.hid (HZ9.out.below hb)
          have HC10 := Lib.hid (HC9.out.below hb)
          clear hb hd0 hd1 hd2 hd3 HTX HL9 HZ9 HC9
          obtain ⟨hd0, hd1, hd2, hd3⟩ := HZ10.out.cells
          obtain ⟨he0, he1, he2, he3⟩ := HC10.out.cells
          have hN40 : N ≤ 40 := HHV.out.2.2.1
          have hNI : (N1 : Int) + (N2 : Int) = (N : Int) := by have := HHV.out.2.1; omega
          have hNN : ((N : Int) == (N : Int)) = true := by simp
          go_wp2_with fail
          refine (lSameTalk Z X A12 B12 A5 B5 n12 c12 m12 d12 n5 c5 m5 d5 _ HC10.out.t HZ10.out.t HSZ.out HSX.out).mono ?_
          rintro e w11 ⟨⟨b9, rfl, hbt⟩, hb⟩
          obtain rfl : b9 = true := hbt HHV.out.1
          have HBE := Lib.hid (HL10.out.below hb).b
          clear hb hbt hd0 hd1 hd2 hd3 he0 he1 he2 he3
          go_wp2_with fail
          go_ret
          exact ⟨rfl, HBE.out⟩
  · have HXN := Lib.hid hXN
    have hwv : z = false ∨ (z = true ∧ decide ((40 : Int) < (ds.length : Int)) = true) := by
      cases z with
      | false => exact .inl rfl
      | true => exact .inr ⟨rfl, decide_eq_true (by have h40 : ¬ ds.length ≤ 40 := fun h => hno ⟨rfl, h⟩; omega)⟩
    have hz0 : ((0 : Int) == (0 : Int)) = true := rfl
    clear hno hXN
    rcases hwv with rfl | ⟨rfl, hd⟩
    · obtain ⟨hd0, hd1, hd2, hd3⟩ := HZ7.out.cells
      go_wp2_with fail
      refine (lNoTalk X A5 B5 n5 c5 m5 d5 _ HZ7.out.t HSX.out).mono ?_
      rintro e w8 ⟨⟨b, rfl, hbt⟩, hb⟩
      obtain rfl : b = true := hbt HXN.out
      have HL8 := Lib.hid (HL7.out.below hb)
      clear hd0 hd1 hd2 hd3 hbt hb
      go_wp2_with fail
      refine (lAlive _).mono ?_
      rintro e w' ⟨rfl, rfl⟩
      go_wp2_with fail
      go_ret
      exact ⟨rfl, HL8.out.b⟩
    · obtain ⟨hd0, hd1, hd2, hd3⟩ := HZ7.out.cells
      go_wp2_with fail
      refine (lNoTalk X A5 B5 n5 c5 m5 d5 _ HZ7.out.t HSX.out).mono ?_
      rintro e w8 ⟨⟨b, rfl, hbt⟩, hb⟩
      obtain rfl : b = true := hbt HXN.out
      have HL8 := Lib.hid (HL7.out.below hb)
      clear hd0 hd1 hd2 hd3 hbt hb
      go_wp2_with fail
      refine (lAlive _).mono ?_
      rintro e w' ⟨rfl, rfl⟩
      go_wp2_with fail
      go_ret
      exact ⟨rfl, HL8.out.b⟩
end Go.Proofs.YtmdogidflaplkaaGreat
