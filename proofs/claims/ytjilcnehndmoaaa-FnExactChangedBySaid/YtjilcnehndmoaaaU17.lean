/-
  What the proofs of this seat's statements share (LdcR).
-/
import Derived.Test.YtjilcnehndmoaaaU16
import Derived.Test.YtjilcnehndmoaaaU12

namespace Go.Proofs.Ytjilcnehndmoaaa
open Go.RowKit

def LReadSome (t : Int) (R : Nat) (s st : ByteArray) (x : Ld) (rest : List Nat) (w : World) (e : Ending) (w' : World) : Prop :=
  ∃ v at_, e = .returned (.agg #[v]) ∧ at_ ≤ s.size ∧ (bytesN s).drop at_ = rest ∧ RdrAt w' R s at_ st ∧ LdAt t w' w.heap.size x v ∧ w.grownBy w' (some R)
def LReadPost (t : Int) (R : Nat) (s st : ByteArray) (o : Option (Ld × List Nat)) (w : World) (e : Ending) (w' : World) : Prop :=
  match o with
  | some (x, rest) => LReadSome t R s st x rest w e w'
  | none => Panics R w e w'
def LReadsAt (t : Int) (k R : Nat) (s st : ByteArray) : Prop := ∀ (at_ : Nat) (w : World), RdrAt w R s at_ st → at_ ≤ s.size → s.size - at_ ≤ k →
  Calls Try.prog 54 #[.pointer (some ⟨R, 0, none⟩), .int .i64 t] w (LReadPost t R s st (readD t k ((bytesN s).drop at_)) w)
theorem lreads_none {t : Int} {k R : Nat} {s st : ByteArray} (ih : LReadsAt t k R s st) {at_ : Nat} {w : World} (hr : RdrAt w R s at_ st) (hle : at_ ≤ s.size) (hk : s.size - at_ ≤ k) (h : readD t k ((bytesN s).drop at_) = none) :
    Calls Try.prog 54 #[.pointer (some ⟨R, 0, none⟩), .int .i64 t] w (Panics R w) := by
  have := ih at_ w hr hle hk
  rw [h] at this; exact this
theorem lreads_some {t : Int} {k R : Nat} {s st : ByteArray} (ih : LReadsAt t k R s st) {at_ : Nat} {w : World} (hr : RdrAt w R s at_ st) (hle : at_ ≤ s.size) (hk : s.size - at_ ≤ k) {x : Ld} {rest : List Nat} (h : readD t k ((bytesN s).drop at_) = some (x, rest)) :
    Calls Try.prog 54 #[.pointer (some ⟨R, 0, none⟩), .int .i64 t] w (LReadSome t R s st x rest w) := by
  have := ih at_ w hr hle hk
  rw [h] at this; exact this
theorem lless_left {t : Int} {k at_ a2 : Nat} {s : ByteArray} {x : Ld} {rest : List Nat} (h : readD t k ((bytesN s).drop at_) = some (x, rest)) (e : (bytesN s).drop a2 = rest) (hle : at_ ≤ s.size) (hle2 : a2 ≤ s.size) : at_ < a2 := by
  have := readD_less t k _ _ _ h
  rw [← e, List.length_drop, List.length_drop, bytesN_len] at this
  omega
def pairD (t : Int) (k : Nat) (l : List Nat) : Option (Ld × List Nat) :=
  match readD t k l with
  | some (x, m :: l2) =>
    match readD t k l2 with
    | some (y, e :: r) => if e = 41 then (twoD m x y).map fun z => (z, r) else none
    | _ => none
  | _ => none
theorem twoD_none {m : Nat} {x y : Ld} (h : (decide (m = 38) || decide (m = 124) || decide (m = 62)) = false) : twoD m x y = none := by
  simp only [Bool.or_eq_false_iff, decide_eq_false_iff_not] at h
  unfold twoD
  rw [if_neg h.1.1, if_neg h.1.2, if_neg h.2]
theorem grown_put8 {a w : World} {row : Option Nat} {b : Nat} (h : a.grownBy w row) (hb : a.heap.size ≤ b) (v : Value) : a.grownBy (w.setCell ⟨b, 0, none⟩ v) row :=
  grown_fresh h (grown_set (World.grownBy.refl w (some b)) 0 v) (fun k e => by cases e; exact hb)
theorem grown_from {w w' : World} {R : Nat} {o : Obj} (_hR : R < w.heap.size) (h : (w.alloc o).grownBy w' (some R)) : w.grownBy w' (some R) :=
  (grown_alloc (World.grownBy.refl w (some R)) o).trans h
theorem rdr_set {w : World} {R C : Nat} {s st : ByteArray} {at_ : Nat} (h : RdrAt w R s at_ st) (hC : C ≠ R) (v : Value) : RdrAt (w.setCell ⟨C, 0, none⟩ v) R s at_ st :=
  (Below.heap_setCell _ _ _ R (fun e => hC e.symm)).trans h
theorem panics_alloc {R : Nat} {w : World} {o : Obj} (_hR : R < w.heap.size) {e : Ending} {w' : World} (h : Panics R (w.alloc o) e w') : Panics R w e w' := panics_trans (grown_alloc (World.grownBy.refl w (some R)) o) h
theorem LdAt.set {t : Int} {w : World} {lo C : Nat} {x : Ld} {v : Value} (h : LdAt t w lo x v) (hC : C < lo) (u : Value) : LdAt t (w.setCell ⟨C, 0, none⟩ u) lo x v :=
  h.keep (by have := (KeepsWalks.setCell w ⟨C, 0, none⟩ u).size; omega) fun b hl _ => Below.heap_setCell _ _ _ b (by show b ≠ C; omega)
/-- The result is laid into its cell. -/
theorem lread_end {t : Int} {R B : Nat} {s st : ByteArray} {x : Ld} {rest : List Nat} {w w' : World} {v : Value} {at_ : Nat} (hB : w.heap.size ≤ B) (hR : R < w.heap.size) (hle : at_ ≤ s.size) (hd : (bytesN s).drop at_ = rest) (hr : RdrAt w' R s at_ st) (hx : LdAt t w' (B + 1) x v) (hg : w.grownBy w' (some R)) :
    LReadSome t R s st x rest w (.returned (.agg #[v])) (w'.setCell ⟨B, 0, none⟩ v) :=
  ⟨v, at_, rfl, hle, hd, rdr_set hr (by omega) v, (hx.set (by omega) v).low (by omega), grown_put8 hg hB v⟩

set_option maxRecDepth 100000 in
set_option maxHeartbeats 4000000 in
theorem iLPair (t : Int) (k R : Nat) (s st : ByteArray) (hs : s.size ≤ 1048576) (ih : LReadsAt t k R s st) (at_ : Nat) (w : World) (hr : RdrAt w R s at_ st) (hle : at_ ≤ s.size) (hk : s.size - at_ ≤ k) :
    Calls Try.prog 63 #[.pointer (some ⟨R, 0, none⟩), .int .i64 t] w (LReadPost t R s st (pairD t k ((bytesN s).drop at_)) w) := by
  have hR := rdr_lt hr
  have hmf : ∀ (fn : Fn) (first cap : Array Value) (w : World), (Instr.makeFunc fn first cap).run Try.prog w = .ok (.func fn first cap) w := fun _ _ _ _ => rfl
  obtain ⟨W, hW⟩ : ∃ W, w.alloc (.cells #[.nilFunc] 43) = W := ⟨_, rfl⟩
  have hX : Boxed W w.heap.size 43 .nilFunc := by rw [← hW]; exact Boxed.new w 43 .nilFunc
  have hrW : RdrAt W R s at_ st := by rw [← hW]; exact rdr_alloc hr _
  have hsz : W.heap.size = w.heap.size + 1 := by rw [← hW, World.size_alloc]
  have hgW : w.grownBy W (some R) := by rw [← hW]; exact grown_alloc (World.grownBy.refl w (some R)) _
  have HW := Lib.hid hW
  have HX := Lib.hid hX
  have HGW := Lib.hid hgW
  clear hX hgW hW
  rcases h1 : readD t k ((bytesN s).drop at_) with _ | ⟨x, _ | ⟨m, l2⟩⟩
  · have HI := Lib.hid (lreads_none ih hrW hle hk h1)
    rw [show pairD t k ((bytesN s).drop at_) = none by unfold pairD; rw [h1]]
    show Calls _ _ _ _ (Panics R w)
    clear h1 hr hrW ih
    go_enter Try.func63, Try.ntmps63
    go_wp2_with fail
    rw [HW.out]
    refine HI.out.mono ?_
    rintro e w1 ⟨v, rfl, hg⟩
    exact ⟨rfl, v, rfl, HGW.out.trans hg⟩
  · have HI := Lib.hid (lreads_some ih hrW hle hk h1)
    rw [show pairD t k ((bytesN s).drop at_) = none by unfold pairD; rw [h1]]
    show Calls _ _ _ _ (Panics R w)
    clear h1 hr hrW ih
    go_enter Try.func63, Try.ntmps63
    go_wp2_with fail
    rw [HW.out]
    refine HI.out.mono ?_
    rintro e w1 ⟨v1, a2, rfl, hle2, hd, hr1, hn, hg⟩
    obtain ⟨g1, cap1, rfl⟩ := hn.form
    obtain rfl := drop_end hd hle2
    obtain ⟨W1, hW1⟩ : ∃ W, w1.alloc (.cells #[.func (.func g1) #[] cap1] 43) = W := ⟨_, rfl⟩
    have HT := Lib.hid (iTake_end R s st ⟨#[38, 124, 62]⟩ W1 hs (by rw [← hW1]; exact rdr_alloc hr1 _))
    have HG : Hid (w.grownBy W1 (some R)) := by rw [← hW1]; exact grown_alloc (HGW.out.trans hg) _
    have HW1 := Lib.hid hW1
    clear hd hr1 hn hg hW1
    go_wp2_with fail
    rw [HW1.out]
    refine HT.out.mono ?_
    rintro e w2 ⟨v, rfl, hg2⟩
    exact ⟨rfl, v, rfl, HG.out.trans hg2⟩
  · have HI := Lib.hid (lreads_some ih hrW hle hk h1)
    rcases hm : (decide (m = 38) || decide (m = 124) || decide (m = 62)) with _ | _
    · have hno : pairD t k ((bytesN s).drop at_) = none := by
        unfold pairD
        rw [h1]
        simp only
        split
        · split
          · rw [twoD_none hm]; rfl
          · rfl
        · rfl
      rw [hno]
      show Calls _ _ _ _ (Panics R w)
      have HM := Lib.hid hm
      clear h1 hr hrW ih hno hm
      go_enter Try.func63, Try.ntmps63
      go_wp2_with fail
      rw [HW.out]
      refine HI.out.mono ?_
      rintro e w1 ⟨v1, a2, rfl, hle2, hd, hr1, hn, hg⟩
      obtain ⟨g1, cap1, rfl⟩ := hn.form
      obtain ⟨W1, hW1⟩ : ∃ W, w1.alloc (.cells #[.func (.func g1) #[] cap1] 43) = W := ⟨_, rfl⟩
      have hrW1 : RdrAt W1 R s a2 st := by rw [← hW1]; exact rdr_alloc hr1 _
      have HG : Hid (w.grownBy W1 (some R)) := by rw [← hW1]; exact grown_alloc (HGW.out.trans hg) _
      have HX5 : Hid (Boxed W1 w1.heap.size 43 (.func (.func g1) #[] cap1)) := by rw [← hW1]; exact Boxed.new w1 _ _
      have hs1 : W1.heap.size = w1.heap.size + 1 := by rw [← hW1, World.size_alloc]
      have hs0 : W.heap.size ≤ w1.heap.size := hg.size
      have HN : Hid (LdAt t W1 W.heap.size x (.func (.func g1) #[] cap1)) := by rw [← hW1]; exact hn.below ((Below.refl _ _).alloc (Nat.le_refl _) _)
      replace HX : Hid (Boxed W1 w.heap.size 43 .nilFunc) := by rw [← hW1]; exact (HX.out.kept hg (fun e => by have := Option.some.inj e; omega)).alloc _
      have HW1 := Lib.hid hW1
      clear hr1 hn hg hW1
      obtain ⟨hlt2, hm2, _⟩ := drop_lt hd
      have HT := Lib.hid (iTake_bad R s st ⟨#[38, 124, 62]⟩ a2 W1 hs hlt2 hrW1 (by rw [signs2_has, hm2]; exact HM.out))
      clear hd hm2 hrW1
      go_wp2_with fail
      rw [HW1.out]
      refine HT.out.mono ?_
      rintro e w2 ⟨v, rfl, hg2⟩
      exact ⟨rfl, v, rfl, HG.out.trans hg2⟩
    · have hm3 : m = 38 ∨ m = 124 ∨ m = 62 := by simpa [or_assoc] using hm
      have HM := Lib.hid hm
      have HM3 := Lib.hid hm3
      have HH1 := Lib.hid h1
      have HIH := Lib.hid ih
      rcases h2 : readD t k l2 with _ | ⟨y, _ | ⟨e0, r⟩⟩
      · rw [show pairD t k ((bytesN s).drop at_) = none by unfold pairD; rw [h1]; simp only; rw [h2]]
        show Calls _ _ _ _ (Panics R w)
        have HH2 := Lib.hid h2
        clear h1 h2 hr hrW ih hm hm3
        go_enter Try.func63, Try.ntmps63
        go_wp2_with fail
        rw [HW.out]
        refine HI.out.mono ?_
        rintro e w1 ⟨v1, a2, rfl, hle2, hd, hr1, hn, hg⟩
        obtain ⟨g1, cap1, rfl⟩ := hn.form
        have hlt := lless_left HH1.out hd hle hle2
        obtain ⟨hlt2, hm2, hd2⟩ := drop_lt hd
        obtain ⟨W1, hW1⟩ : ∃ W, w1.alloc (.cells #[.func (.func g1) #[] cap1] 43) = W := ⟨_, rfl⟩
        have hrW1 : RdrAt W1 R s a2 st := by rw [← hW1]; exact rdr_alloc hr1 _
        have HG : Hid (w.grownBy W1 (some R)) := by rw [← hW1]; exact grown_alloc (HGW.out.trans hg) _
        have HX5 : Hid (Boxed W1 w1.heap.size 43 (.func (.func g1) #[] cap1)) := by rw [← hW1]; exact Boxed.new w1 _ _
        have hs1 : W1.heap.size = w1.heap.size + 1 := by rw [← hW1, World.size_alloc]
        have hs0 : W.heap.size ≤ w1.heap.size := hg.size
        have HN : Hid (LdAt t W1 W.heap.size x (.func (.func g1) #[] cap1)) := by rw [← hW1]; exact hn.below ((Below.refl _ _).alloc (Nat.le_refl _) _)
        replace HX : Hid (Boxed W1 w.heap.size 43 .nilFunc) := by rw [← hW1]; exact (HX.out.kept hg (fun e => by have := Option.some.inj e; omega)).alloc _
        have HW1 := Lib.hid hW1
        clear hr1 hn hg hW1
        have HT := Lib.hid (iTake_is hs hlt2 hm2 hrW1 (al := ⟨#[38, 124, 62]⟩) (by rw [signs2_has, hm2]; exact HM.out))
        have HD2 := Lib.hid hd2
        clear hd hrW1 hm2 hd2
        go_wp2_with fail
        rw [HW1.out]
        refine HT.out.mono ?_
        rintro e w2 ⟨rfl, hr2, hg2⟩
        have hs2 : W1.heap.size ≤ w2.heap.size := hg2.size
        have HI2 := Lib.hid (lreads_none HIH.out hr2 (by omega) (by omega) (by rw [HD2.out]; exact HH2.out))
        have HG2 := Lib.hid (HG.out.trans hg2)
        clear hr2 hg2
        go_wp2_with fail
        refine HI2.out.mono ?_
        rintro e w3 ⟨v, rfl, hg3⟩
        exact ⟨rfl, v, rfl, HG2.out.trans hg3⟩
      · rw [show pairD t k ((bytesN s).drop at_) = none by unfold pairD; rw [h1]; simp only; rw [h2]]
        show Calls _ _ _ _ (Panics R w)
        have HH2 := Lib.hid h2
        clear h1 h2 hr hrW ih hm hm3
        go_enter Try.func63, Try.ntmps63
        go_wp2_with fail
        rw [HW.out]
        refine HI.out.mono ?_
        rintro e w1 ⟨v1, a2, rfl, hle2, hd, hr1, hn, hg⟩
        obtain ⟨g1, cap1, rfl⟩ := hn.form
        have hlt := lless_left HH1.out hd hle hle2
        obtain ⟨hlt2, hm2, hd2⟩ := drop_lt hd
        obtain ⟨W1, hW1⟩ : ∃ W, w1.alloc (.cells #[.func (.func g1) #[] cap1] 43) = W := ⟨_, rfl⟩
        have hrW1 : RdrAt W1 R s a2 st := by rw [← hW1]; exact rdr_alloc hr1 _
        have HG : Hid (w.grownBy W1 (some R)) := by rw [← hW1]; exact grown_alloc (HGW.out.trans hg) _
        have HX5 : Hid (Boxed W1 w1.heap.size 43 (.func (.func g1) #[] cap1)) := by rw [← hW1]; exact Boxed.new w1 _ _
        have hs1 : W1.heap.size = w1.heap.size + 1 := by rw [← hW1, World.size_alloc]
        have hs0 : W.heap.size ≤ w1.heap.size := hg.size
        have HN : Hid (LdAt t W1 W.heap.size x (.func (.func g1) #[] cap1)) := by rw [← hW1]; exact hn.below ((Below.refl _ _).alloc (Nat.le_refl _) _)
        replace HX : Hid (Boxed W1 w.heap.size 43 .nilFunc) := by rw [← hW1]; exact (HX.out.kept hg (fun e => by have := Option.some.inj e; omega)).alloc _
        have HW1 := Lib.hid hW1
        clear hr1 hn hg hW1
        have HT := Lib.hid (iTake_is hs hlt2 hm2 hrW1 (al := ⟨#[38, 124, 62]⟩) (by rw [signs2_has, hm2]; exact HM.out))
        have HD2 := Lib.hid hd2
        clear hd hrW1 hm2 hd2
        go_wp2_with fail
        rw [HW1.out]
        refine HT.out.mono ?_
        rintro e w2 ⟨rfl, hr2, hg2⟩
        have hs2 : W1.heap.size ≤ w2.heap.size := hg2.size
        have HI2 := Lib.hid (lreads_some HIH.out hr2 (by omega) (by omega) (by rw [HD2.out]; exact HH2.out))
        have HG2 := Lib.hid (HG.out.trans hg2)
        clear hr2 hg2
        go_wp2_with fail
        refine HI2.out.mono ?_
        rintro e w3 ⟨v3, a3, rfl, hle3, hd3, hr3, hn3, hg3⟩
        obtain ⟨g3, cap3, rfl⟩ := hn3.form
        obtain rfl := drop_end hd3 hle3
        obtain ⟨W3, hW3⟩ : ∃ W, w3.alloc (.cells #[.func (.func g3) #[] cap3] 43) = W := ⟨_, rfl⟩
        have HT3 := Lib.hid (iTake_end R s st ⟨#[41]⟩ W3 hs (by rw [← hW3]; exact rdr_alloc hr3 _))
        have HG3 : Hid (w.grownBy W3 (some R)) := by rw [← hW3]; exact grown_alloc (HG2.out.trans hg3) _
        have HW3 := Lib.hid hW3
        clear hd3 hr3 hn3 hg3 hW3
        go_wp2_with fail
        rw [HW3.out]
        refine HT3.out.mono ?_
        rintro e w4 ⟨v, rfl, hg4⟩
        exact ⟨rfl, v, rfl, HG3.out.trans hg4⟩
      · by_cases he : e0 = 41
        · subst he
          rcases hm3 with rfl | rfl | rfl
          · rw [show pairD t k ((bytesN s).drop at_) = some (.and_ x y, r) by unfold pairD; rw [h1]; simp only; rw [h2]; rfl]
            show Calls _ _ _ _ (LReadSome t R s st _ r w)
            have HH2 := Lib.hid h2
            clear h1 h2 hr hrW ih hm
            go_enter Try.func63, Try.ntmps63
            go_wp2_with fail
            rw [HW.out]
            refine HI.out.mono ?_
            rintro e w1 ⟨v1, a2, rfl, hle2, hd, hr1, hn, hg⟩
            obtain ⟨g1, cap1, rfl⟩ := hn.form
            have hlt := lless_left HH1.out hd hle hle2
            obtain ⟨hlt2, hm2, hd2⟩ := drop_lt hd
            obtain ⟨W1, hW1⟩ : ∃ W, w1.alloc (.cells #[.func (.func g1) #[] cap1] 43) = W := ⟨_, rfl⟩
            have hrW1 : RdrAt W1 R s a2 st := by rw [← hW1]; exact rdr_alloc hr1 _
            have HG : Hid (w.grownBy W1 (some R)) := by rw [← hW1]; exact grown_alloc (HGW.out.trans hg) _
            have HX5 : Hid (Boxed W1 w1.heap.size 43 (.func (.func g1) #[] cap1)) := by rw [← hW1]; exact Boxed.new w1 _ _
            have hs1 : W1.heap.size = w1.heap.size + 1 := by rw [← hW1, World.size_alloc]
            have hs0 : W.heap.size ≤ w1.heap.size := hg.size
            have HN : Hid (LdAt t W1 W.heap.size x (.func (.func g1) #[] cap1)) := by rw [← hW1]; exact hn.below ((Below.refl _ _).alloc (Nat.le_refl _) _)
            replace HX : Hid (Boxed W1 w.heap.size 43 .nilFunc) := by rw [← hW1]; exact (HX.out.kept hg (fun e => by have := Option.some.inj e; omega)).alloc _
            have HW1 := Lib.hid hW1
            clear hr1 hn hg hW1
            have HT := Lib.hid (iTake_is hs hlt2 hm2 hrW1 (al := ⟨#[38, 124, 62]⟩) (by rw [signs2_has, hm2]; exact HM.out))
            have HD2 := Lib.hid hd2
            clear hd hrW1 hm2 hd2
            go_wp2_with fail
            rw [HW1.out]
            refine HT.out.mono ?_
            rintro e w2 ⟨rfl, hr2, hg2⟩
            have hs2 : W1.heap.size ≤ w2.heap.size := hg2.size
            have HI2 := Lib.hid (lreads_some HIH.out hr2 (by omega) (by omega) (by rw [HD2.out]; exact HH2.out))
            have HG2 := Lib.hid (HG.out.trans hg2)
            replace HN := Lib.hid (HN.out.grown hg2 (by omega))
            replace HX := Lib.hid (HX.out.kept hg2 (fun e => by have := Option.some.inj e; omega))
            replace HX5 := Lib.hid (HX5.out.kept hg2 (fun e => by have := Option.some.inj e; omega))
            clear hr2 hg2
            go_wp2_with fail
            refine HI2.out.mono ?_
            rintro e w3 ⟨v3, a3, rfl, hle3, hd3, hr3, hn3, hg3⟩
            obtain ⟨g3, cap3, rfl⟩ := hn3.form
            obtain ⟨hlt3, hm3, hd4⟩ := drop_lt hd3
            have hs3 : w2.heap.size ≤ w3.heap.size := hg3.size
            obtain ⟨W3, hW3⟩ : ∃ W, w3.alloc (.cells #[.func (.func g3) #[] cap3] 43) = W := ⟨_, rfl⟩
            have hrW3 : RdrAt W3 R s a3 st := by rw [← hW3]; exact rdr_alloc hr3 _
            have hb3 : Below w3.heap.size w3 W3 := by rw [← hW3]; exact (Below.refl _ _).alloc (Nat.le_refl _) _
            have HG3 : Hid (w.grownBy W3 (some R)) := by rw [← hW3]; exact grown_alloc (HG2.out.trans hg3) _
            have HX7 : Hid (Boxed W3 w3.heap.size 43 (.func (.func g3) #[] cap3)) := by rw [← hW3]; exact Boxed.new w3 _ _
            have hs4 : W3.heap.size = w3.heap.size + 1 := by rw [← hW3, World.size_alloc]
            replace HN := Lib.hid ((HN.out.grown hg3 (by omega)).below hb3)
            have HN3 := Lib.hid ((LdAt.low (lo' := W.heap.size) (by omega) hn3).below hb3)
            replace HX := Lib.hid (show Boxed W3 _ _ _ by rw [← hW3]; exact (HX.out.kept hg3 (fun e => by have := Option.some.inj e; omega)).alloc _)
            replace HX5 := Lib.hid (show Boxed W3 _ _ _ by rw [← hW3]; exact (HX5.out.kept hg3 (fun e => by have := Option.some.inj e; omega)).alloc _)
            have HW3 := Lib.hid hW3
            have HD4 := Lib.hid hd4
            clear hd3 hr3 hn3 hg3 hd4 hW3 hb3
            have HT3 := Lib.hid (iTake_is hs hlt3 hm3 hrW3 (al := ⟨#[41]⟩) (by rw [close_has, hm3]; rfl))
            clear hrW3 hm3
            go_wp2_with fail
            rw [HW3.out]
            refine HT3.out.mono ?_
            rintro e w4 ⟨rfl, hr4, hg4⟩
            have hs5 : W3.heap.size ≤ w4.heap.size := hg4.size
            have HG4 := Lib.hid (HG3.out.trans hg4)
            have HR4 := Lib.hid hr4
            have HMK := Lib.hid (iMkAnd t x y _ _ W.heap.size w4 (by omega) (HN.out.grown hg4 (by omega)) (HN3.out.grown hg4 (by omega)))
            have hx5 := (HX5.out.kept hg4 (fun e => by have := Option.some.inj e; omega)).cell
            have hx7 := (HX7.out.kept hg4 (fun e => by have := Option.some.inj e; omega)).cell
            replace HX := Lib.hid (HX.out.kept hg4 (fun e => by have := Option.some.inj e; omega))
            clear hr4 hg4 HN HN3 HX5 HX7
            go_wp2_with (go_at_call 71; refine HMK.out.mono ?_; clear HMK; rintro e w5 ⟨v5, rfl, hn5, hb5⟩; obtain ⟨g5, cap5, rfl⟩ := hn5.form; have hx4 := (Boxed.cell (show Boxed w5 _ _ _ from (hb5.block _ HX.out.lt).trans HX.out)); have hf4 := (Boxed.frozen (show Boxed w5 _ _ _ from (hb5.block _ HX.out.lt).trans HX.out)); have HR5 : Hid (RdrAt w5 R s (a3 + 1) st) := (hb5.block _ (rdr_lt HR4.out)).trans HR4.out; have HG5 := Lib.hid (grown_below HG4.out hb5); have HX := Lib.hid (show Boxed w5 _ _ _ from (hb5.block _ HX.out.lt).trans HX.out); have HN5 := Lib.hid hn5; clear hn5 hb5)
            have hc := (HX.out.set (.func (.func g5) #[] cap5)).cell
            have HE := Lib.hid (lread_end (B := w.heap.size) (Nat.le_refl _) hR (by omega) HD4.out HR5.out (by rw [← hsz]; exact HN5.out) HG5.out)
            exact ⟨rfl, .agg #[.func (.func g5) #[] cap5], by simp [results, Try.results63, go_sem, hc], HE.out⟩
          · rw [show pairD t k ((bytesN s).drop at_) = some (.or_ x y, r) by unfold pairD; rw [h1]; simp only; rw [h2]; rfl]
            show Calls _ _ _ _ (LReadSome t R s st _ r w)
            have HH2 := Lib.hid h2
            clear h1 h2 hr hrW ih hm
            go_enter Try.func63, Try.ntmps63
            go_wp2_with fail
            rw [HW.out]
            refine HI.out.mono ?_
            rintro e w1 ⟨v1, a2, rfl, hle2, hd, hr1, hn, hg⟩
            obtain ⟨g1, cap1, rfl⟩ := hn.form
            have hlt := lless_left HH1.out hd hle hle2
            obtain ⟨hlt2, hm2, hd2⟩ := drop_lt hd
            obtain ⟨W1, hW1⟩ : ∃ W, w1.alloc (.cells #[.func (.func g1) #[] cap1] 43) = W := ⟨_, rfl⟩
            have hrW1 : RdrAt W1 R s a2 st := by rw [← hW1]; exact rdr_alloc hr1 _
            have HG : Hid (w.grownBy W1 (some R)) := by rw [← hW1]; exact grown_alloc (HGW.out.trans hg) _
            have HX5 : Hid (Boxed W1 w1.heap.size 43 (.func (.func g1) #[] cap1)) := by rw [← hW1]; exact Boxed.new w1 _ _
            have hs1 : W1.heap.size = w1.heap.size + 1 := by rw [← hW1, World.size_alloc]
            have hs0 : W.heap.size ≤ w1.heap.size := hg.size
            have HN : Hid (LdAt t W1 W.heap.size x (.func (.func g1) #[] cap1)) := by rw [← hW1]; exact hn.below ((Below.refl _ _).alloc (Nat.le_refl _) _)
            replace HX : Hid (Boxed W1 w.heap.size 43 .nilFunc) := by rw [← hW1]; exact (HX.out.kept hg (fun e => by have := Option.some.inj e; omega)).alloc _
            have HW1 := Lib.hid hW1
            clear hr1 hn hg hW1
            have HT := Lib.hid (iTake_is hs hlt2 hm2 hrW1 (al := ⟨#[38, 124, 62]⟩) (by rw [signs2_has, hm2]; exact HM.out))
            have HD2 := Lib.hid hd2
            clear hd hrW1 hm2 hd2
            go_wp2_with fail
            rw [HW1.out]
            refine HT.out.mono ?_
            rintro e w2 ⟨rfl, hr2, hg2⟩
            have hs2 : W1.heap.size ≤ w2.heap.size := hg2.size
            have HI2 := Lib.hid (lreads_some HIH.out hr2 (by omega) (by omega) (by rw [HD2.out]; exact HH2.out))
            have HG2 := Lib.hid (HG.out.trans hg2)
            replace HN := Lib.hid (HN.out.grown hg2 (by omega))
            replace HX := Lib.hid (HX.out.kept hg2 (fun e => by have := Option.some.inj e; omega))
            replace HX5 := Lib.hid (HX5.out.kept hg2 (fun e => by have := Option.some.inj e; omega))
            clear hr2 hg2
            go_wp2_with fail
            refine HI2.out.mono ?_
            rintro e w3 ⟨v3, a3, rfl, hle3, hd3, hr3, hn3, hg3⟩
            obtain ⟨g3, cap3, rfl⟩ := hn3.form
            obtain ⟨hlt3, hm3, hd4⟩ := drop_lt hd3
            have hs3 : w2.heap.size ≤ w3.heap.size := hg3.size
            obtain ⟨W3, hW3⟩ : ∃ W, w3.alloc (.cells #[.func (.func g3) #[] cap3] 43) = W := ⟨_, rfl⟩
            have hrW3 : RdrAt W3 R s a3 st := by rw [← hW3]; exact rdr_alloc hr3 _
            have hb3 : Below w3.heap.size w3 W3 := by rw [← hW3]; exact (Below.refl _ _).alloc (Nat.le_refl _) _
            have HG3 : Hid (w.grownBy W3 (some R)) := by rw [← hW3]; exact grown_alloc (HG2.out.trans hg3) _
            have HX7 : Hid (Boxed W3 w3.heap.size 43 (.func (.func g3) #[] cap3)) := by rw [← hW3]; exact Boxed.new w3 _ _
            have hs4 : W3.heap.size = w3.heap.size + 1 := by rw [← hW3, World.size_alloc]
            replace HN := Lib.hid ((HN.out.grown hg3 (by omega)).below hb3)
            have HN3 := Lib.hid ((LdAt.low (lo' := W.heap.size) (by omega) hn3).below hb3)
            replace HX := Lib.hid (show Boxed W3 _ _ _ by rw [← hW3]; exact (HX.out.kept hg3 (fun e => by have := Option.some.inj e; omega)).alloc _)
            replace HX5 := Lib.hid (show Boxed W3 _ _ _ by rw [← hW3]; exact (HX5.out.kept hg3 (fun e => by have := Option.some.inj e; omega)).alloc _)
            have HW3 := Lib.hid hW3
            have HD4 := Lib.hid hd4
            clear hd3 hr3 hn3 hg3 hd4 hW3 hb3
            have HT3 := Lib.hid (iTake_is hs hlt3 hm3 hrW3 (al := ⟨#[41]⟩) (by rw [close_has, hm3]; rfl))
            clear hrW3 hm3
            go_wp2_with fail
            rw [HW3.out]
            refine HT3.out.mono ?_
            rintro e w4 ⟨rfl, hr4, hg4⟩
            have hs5 : W3.heap.size ≤ w4.heap.size := hg4.size
            have HG4 := Lib.hid (HG3.out.trans hg4)
            have HR4 := Lib.hid hr4
            have HMK := Lib.hid (iMkOr t x y _ _ W.heap.size w4 (by omega) (HN.out.grown hg4 (by omega)) (HN3.out.grown hg4 (by omega)))
            have hx5 := (HX5.out.kept hg4 (fun e => by have := Option.some.inj e; omega)).cell
            have hx7 := (HX7.out.kept hg4 (fun e => by have := Option.some.inj e; omega)).cell
            replace HX := Lib.hid (HX.out.kept hg4 (fun e => by have := Option.some.inj e; omega))
            clear hr4 hg4 HN HN3 HX5 HX7
            go_wp2_with (go_at_call 72; refine HMK.out.mono ?_; clear HMK; rintro e w5 ⟨v5, rfl, hn5, hb5⟩; obtain ⟨g5, cap5, rfl⟩ := hn5.form; have hx4 := (Boxed.cell (show Boxed w5 _ _ _ from (hb5.block _ HX.out.lt).trans HX.out)); have hf4 := (Boxed.frozen (show Boxed w5 _ _ _ from (hb5.block _ HX.out.lt).trans HX.out)); have HR5 : Hid (RdrAt w5 R s (a3 + 1) st) := (hb5.block _ (rdr_lt HR4.out)).trans HR4.out; have HG5 := Lib.hid (grown_below HG4.out hb5); have HX := Lib.hid (show Boxed w5 _ _ _ from (hb5.block _ HX.out.lt).trans HX.out); have HN5 := Lib.hid hn5; clear hn5 hb5)
            have hc := (HX.out.set (.func (.func g5) #[] cap5)).cell
            have HE := Lib.hid (lread_end (B := w.heap.size) (Nat.le_refl _) hR (by omega) HD4.out HR5.out (by rw [← hsz]; exact HN5.out) HG5.out)
            exact ⟨rfl, .agg #[.func (.func g5) #[] cap5], by simp [results, Try.results63, go_sem, hc], HE.out⟩
          · rw [show pairD t k ((bytesN s).drop at_) = some (.if_ x y, r) by unfold pairD; rw [h1]; simp only; rw [h2]; rfl]
            show Calls _ _ _ _ (LReadSome t R s st _ r w)
            have HH2 := Lib.hid h2
            clear h1 h2 hr hrW ih hm
            go_enter Try.func63, Try.ntmps63
            go_wp2_with fail
            rw [HW.out]
            refine HI.out.mono ?_
            rintro e w1 ⟨v1, a2, rfl, hle2, hd, hr1, hn, hg⟩
            obtain ⟨g1, cap1, rfl⟩ := hn.form
            have hlt := lless_left HH1.out hd hle hle2
            obtain ⟨hlt2, hm2, hd2⟩ := drop_lt hd
            obtain ⟨W1, hW1⟩ : ∃ W, w1.alloc (.cells #[.func (.func g1) #[] cap1] 43) = W := ⟨_, rfl⟩
            have hrW1 : RdrAt W1 R s a2 st := by rw [← hW1]; exact rdr_alloc hr1 _
            have HG : Hid (w.grownBy W1 (some R)) := by rw [← hW1]; exact grown_alloc (HGW.out.trans hg) _
            have HX5 : Hid (Boxed W1 w1.heap.size 43 (.func (.func g1) #[] cap1)) := by rw [← hW1]; exact Boxed.new w1 _ _
            have hs1 : W1.heap.size = w1.heap.size + 1 := by rw [← hW1, World.size_alloc]
            have hs0 : W.heap.size ≤ w1.heap.size := hg.size
            have HN : Hid (LdAt t W1 W.heap.size x (.func (.func g1) #[] cap1)) := by rw [← hW1]; exact hn.below ((Below.refl _ _).alloc (Nat.le_refl _) _)
            replace HX : Hid (Boxed W1 w.heap.size 43 .nilFunc) := by rw [← hW1]; exact (HX.out.kept hg (fun e => by have := Option.some.inj e; omega)).alloc _
            have HW1 := Lib.hid hW1
            clear hr1 hn hg hW1
            have HT := Lib.hid (iTake_is hs hlt2 hm2 hrW1 (al := ⟨#[38, 124, 62]⟩) (by rw [signs2_has, hm2]; exact HM.out))
            have HD2 := Lib.hid hd2
            clear hd hrW1 hm2 hd2
            go_wp2_with fail
            rw [HW1.out]
            refine HT.out.mono ?_
            rintro e w2 ⟨rfl, hr2, hg2⟩
            have hs2 : W1.heap.size ≤ w2.heap.size := hg2.size
            have HI2 := Lib.hid (lreads_some HIH.out hr2 (by omega) (by omega) (by rw [HD2.out]; exact HH2.out))
            have HG2 := Lib.hid (HG.out.trans hg2)
            replace HN := Lib.hid (HN.out.grown hg2 (by omega))
            replace HX := Lib.hid (HX.out.kept hg2 (fun e => by have := Option.some.inj e; omega))
            replace HX5 := Lib.hid (HX5.out.kept hg2 (fun e => by have := Option.some.inj e; omega))
            clear hr2 hg2
            go_wp2_with fail
            refine HI2.out.mono ?_
            rintro e w3 ⟨v3, a3, rfl, hle3, hd3, hr3, hn3, hg3⟩
            obtain ⟨g3, cap3, rfl⟩ := hn3.form
            obtain ⟨hlt3, hm3, hd4⟩ := drop_lt hd3
            have hs3 : w2.heap.size ≤ w3.heap.size := hg3.size
            obtain ⟨W3, hW3⟩ : ∃ W, w3.alloc (.cells #[.func (.func g3) #[] cap3] 43) = W := ⟨_, rfl⟩
            have hrW3 : RdrAt W3 R s a3 st := by rw [← hW3]; exact rdr_alloc hr3 _
            have hb3 : Below w3.heap.size w3 W3 := by rw [← hW3]; exact (Below.refl _ _).alloc (Nat.le_refl _) _
            have HG3 : Hid (w.grownBy W3 (some R)) := by rw [← hW3]; exact grown_alloc (HG2.out.trans hg3) _
            have HX7 : Hid (Boxed W3 w3.heap.size 43 (.func (.func g3) #[] cap3)) := by rw [← hW3]; exact Boxed.new w3 _ _
            have hs4 : W3.heap.size = w3.heap.size + 1 := by rw [← hW3, World.size_alloc]
            replace HN := Lib.hid ((HN.out.grown hg3 (by omega)).below hb3)
            have HN3 := Lib.hid ((LdAt.low (lo' := W.heap.size) (by omega) hn3).below hb3)
            replace HX := Lib.hid (show Boxed W3 _ _ _ by rw [← hW3]; exact (HX.out.kept hg3 (fun e => by have := Option.some.inj e; omega)).alloc _)
            replace HX5 := Lib.hid (show Boxed W3 _ _ _ by rw [← hW3]; exact (HX5.out.kept hg3 (fun e => by have := Option.some.inj e; omega)).alloc _)
            have HW3 := Lib.hid hW3
            have HD4 := Lib.hid hd4
            clear hd3 hr3 hn3 hg3 hd4 hW3 hb3
            have HT3 := Lib.hid (iTake_is hs hlt3 hm3 hrW3 (al := ⟨#[41]⟩) (by rw [close_has, hm3]; rfl))
            clear hrW3 hm3
            go_wp2_with fail
            rw [HW3.out]
            refine HT3.out.mono ?_
            rintro e w4 ⟨rfl, hr4, hg4⟩
            have hs5 : W3.heap.size ≤ w4.heap.size := hg4.size
            have HG4 := Lib.hid (HG3.out.trans hg4)
            have HR4 := Lib.hid hr4
            have HMK := Lib.hid (iMkIf t x y _ _ W.heap.size w4 (by omega) (HN.out.grown hg4 (by omega)) (HN3.out.grown hg4 (by omega)))
            have hx5 := (HX5.out.kept hg4 (fun e => by have := Option.some.inj e; omega)).cell
            have hx7 := (HX7.out.kept hg4 (fun e => by have := Option.some.inj e; omega)).cell
            replace HX := Lib.hid (HX.out.kept hg4 (fun e => by have := Option.some.inj e; omega))
            clear hr4 hg4 HN HN3 HX5 HX7
            go_wp2_with (go_at_call 73; refine HMK.out.mono ?_; clear HMK; rintro e w5 ⟨v5, rfl, hn5, hb5⟩; obtain ⟨g5, cap5, rfl⟩ := hn5.form; have hx4 := (Boxed.cell (show Boxed w5 _ _ _ from (hb5.block _ HX.out.lt).trans HX.out)); have hf4 := (Boxed.frozen (show Boxed w5 _ _ _ from (hb5.block _ HX.out.lt).trans HX.out)); have HR5 : Hid (RdrAt w5 R s (a3 + 1) st) := (hb5.block _ (rdr_lt HR4.out)).trans HR4.out; have HG5 := Lib.hid (grown_below HG4.out hb5); have HX := Lib.hid (show Boxed w5 _ _ _ from (hb5.block _ HX.out.lt).trans HX.out); have HN5 := Lib.hid hn5; clear hn5 hb5)
            have hc := (HX.out.set (.func (.func g5) #[] cap5)).cell
            have HE := Lib.hid (lread_end (B := w.heap.size) (Nat.le_refl _) hR (by omega) HD4.out HR5.out (by rw [← hsz]; exact HN5.out) HG5.out)
            exact ⟨rfl, .agg #[.func (.func g5) #[] cap5], by simp [results, Try.results63, go_sem, hc], HE.out⟩
        · rw [show pairD t k ((bytesN s).drop at_) = none by unfold pairD; rw [h1]; simp only; rw [h2]; simp only; rw [if_neg he]]
          show Calls _ _ _ _ (Panics R w)
          have HH2 := Lib.hid h2
          have HEN := Lib.hid he
          clear h1 h2 hr hrW ih hm hm3 he
          go_enter Try.func63, Try.ntmps63
          go_wp2_with fail
          rw [HW.out]
          refine HI.out.mono ?_
          rintro e w1 ⟨v1, a2, rfl, hle2, hd, hr1, hn, hg⟩
          obtain ⟨g1, cap1, rfl⟩ := hn.form
          have hlt := lless_left HH1.out hd hle hle2
          obtain ⟨hlt2, hm2, hd2⟩ := drop_lt hd
          obtain ⟨W1, hW1⟩ : ∃ W, w1.alloc (.cells #[.func (.func g1) #[] cap1] 43) = W := ⟨_, rfl⟩
          have hrW1 : RdrAt W1 R s a2 st := by rw [← hW1]; exact rdr_alloc hr1 _
          have HG : Hid (w.grownBy W1 (some R)) := by rw [← hW1]; exact grown_alloc (HGW.out.trans hg) _
          have HX5 : Hid (Boxed W1 w1.heap.size 43 (.func (.func g1) #[] cap1)) := by rw [← hW1]; exact Boxed.new w1 _ _
          have hs1 : W1.heap.size = w1.heap.size + 1 := by rw [← hW1, World.size_alloc]
          have hs0 : W.heap.size ≤ w1.heap.size := hg.size
          have HN : Hid (LdAt t W1 W.heap.size x (.func (.func g1) #[] cap1)) := by rw [← hW1]; exact hn.below ((Below.refl _ _).alloc (Nat.le_refl _) _)
          replace HX : Hid (Boxed W1 w.heap.size 43 .nilFunc) := by rw [← hW1]; exact (HX.out.kept hg (fun e => by have := Option.some.inj e; omega)).alloc _
          have HW1 := Lib.hid hW1
          clear hr1 hn hg hW1
          have HT := Lib.hid (iTake_is hs hlt2 hm2 hrW1 (al := ⟨#[38, 124, 62]⟩) (by rw [signs2_has, hm2]; exact HM.out))
          have HD2 := Lib.hid hd2
          clear hd hrW1 hm2 hd2
          go_wp2_with fail
          rw [HW1.out]
          refine HT.out.mono ?_
          rintro e w2 ⟨rfl, hr2, hg2⟩
          have hs2 : W1.heap.size ≤ w2.heap.size := hg2.size
          have HI2 := Lib.hid (lreads_some HIH.out hr2 (by omega) (by omega) (by rw [HD2.out]; exact HH2.out))
          have HG2 := Lib.hid (HG.out.trans hg2)
          replace HN := Lib.hid (HN.out.grown hg2 (by omega))
          replace HX := Lib.hid (HX.out.kept hg2 (fun e => by have := Option.some.inj e; omega))
          replace HX5 := Lib.hid (HX5.out.kept hg2 (fun e => by have := Option.some.inj e; omega))
          clear hr2 hg2
          go_wp2_with fail
          refine HI2.out.mono ?_
          rintro e w3 ⟨v3, a3, rfl, hle3, hd3, hr3, hn3, hg3⟩
          obtain ⟨g3, cap3, rfl⟩ := hn3.form
          obtain ⟨hlt3, hm3, hd4⟩ := drop_lt hd3
          have hs3 : w2.heap.size ≤ w3.heap.size := hg3.size
          obtain ⟨W3, hW3⟩ : ∃ W, w3.alloc (.cells #[.func (.func g3) #[] cap3] 43) = W := ⟨_, rfl⟩
          have hrW3 : RdrAt W3 R s a3 st := by rw [← hW3]; exact rdr_alloc hr3 _
          have hb3 : Below w3.heap.size w3 W3 := by rw [← hW3]; exact (Below.refl _ _).alloc (Nat.le_refl _) _
          have HG3 : Hid (w.grownBy W3 (some R)) := by rw [← hW3]; exact grown_alloc (HG2.out.trans hg3) _
          have HX7 : Hid (Boxed W3 w3.heap.size 43 (.func (.func g3) #[] cap3)) := by rw [← hW3]; exact Boxed.new w3 _ _
          have hs4 : W3.heap.size = w3.heap.size + 1 := by rw [← hW3, World.size_alloc]
          replace HN := Lib.hid ((HN.out.grown hg3 (by omega)).below hb3)
          have HN3 := Lib.hid ((LdAt.low (lo' := W.heap.size) (by omega) hn3).below hb3)
          replace HX := Lib.hid (show Boxed W3 _ _ _ by rw [← hW3]; exact (HX.out.kept hg3 (fun e => by have := Option.some.inj e; omega)).alloc _)
          replace HX5 := Lib.hid (show Boxed W3 _ _ _ by rw [← hW3]; exact (HX5.out.kept hg3 (fun e => by have := Option.some.inj e; omega)).alloc _)
          have HW3 := Lib.hid hW3
          have HD4 := Lib.hid hd4
          clear hd3 hr3 hn3 hg3 hd4 hW3 hb3
          have HT3 := Lib.hid (iTake_bad R s st ⟨#[41]⟩ a3 W3 hs hlt3 hrW3 (by rw [close_has, hm3]; exact decide_eq_false HEN.out))
          clear hrW3 hm3
          go_wp2_with fail
          rw [HW3.out]
          refine HT3.out.mono ?_
          rintro e w4 ⟨v, rfl, hg4⟩
          exact ⟨rfl, v, rfl, HG3.out.trans hg4⟩
end Go.Proofs.Ytjilcnehndmoaaa
