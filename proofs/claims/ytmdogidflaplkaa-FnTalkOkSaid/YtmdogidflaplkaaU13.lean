/-
  What the proofs of this seat's statements share (Rdp, Rdq, Rds).
-/
import Derived.Defers
import Derived.Recover
import Derived.Laws.Pointers
import Derived.Test.YtmdogidflaplkaaU12

namespace Go.Proofs.Ytmdogidflaplkaa
open Go.RowKit

def ReadsAt (t : Int) (k R : Nat) (s st : ByteArray) : Prop := ∀ (at_ : Nat) (w : World), RdrAt w R s at_ st → at_ ≤ s.size → s.size - at_ ≤ k →
  Calls Try.prog 73 #[.pointer (some ⟨R, 0, none⟩)] w (ReadPost R s st (readS t k ((bytesN s).drop at_)) w)
theorem reads_none {t : Int} {k R : Nat} {s st : ByteArray} (ih : ReadsAt t k R s st) {at_ : Nat} {w : World} (hr : RdrAt w R s at_ st) (hle : at_ ≤ s.size) (hk : s.size - at_ ≤ k) (h : readS t k ((bytesN s).drop at_) = none) :
    Calls Try.prog 73 #[.pointer (some ⟨R, 0, none⟩)] w (Panics R w) := by
  have := ih at_ w hr hle hk
  rw [h] at this; exact this
def ReadSome (R : Nat) (s st : ByteArray) (x : Sen) (rest : List Nat) (w : World) (e : Ending) (w' : World) : Prop :=
  ∃ p at_, e = .returned (.pointer p) ∧ at_ ≤ s.size ∧ (bytesN s).drop at_ = rest ∧ RdrAt w' R s at_ st ∧ SenAt w' w.heap.size x p ∧ w.grownBy w' (some R)
theorem reads_some {t : Int} {k R : Nat} {s st : ByteArray} (ih : ReadsAt t k R s st) {at_ : Nat} {w : World} (hr : RdrAt w R s at_ st) (hle : at_ ≤ s.size) (hk : s.size - at_ ≤ k) {x : Sen} {rest : List Nat} (h : readS t k ((bytesN s).drop at_) = some (x, rest)) :
    Calls Try.prog 73 #[.pointer (some ⟨R, 0, none⟩)] w (ReadSome R s st x rest w) := by
  have := ih at_ w hr hle hk
  rw [h] at this; exact this
theorem less_left {t : Int} {k at_ a2 : Nat} {s : ByteArray} {x : Sen} {rest : List Nat} (h : readS t k ((bytesN s).drop at_) = some (x, rest)) (e : (bytesN s).drop a2 = rest) (hle : at_ ≤ s.size) (hle2 : a2 ≤ s.size) : at_ < a2 := by
  have := readS_less t k _ _ _ h
  rw [← e, List.length_drop, List.length_drop, bytesN_len] at this
  omega
theorem twoS_is {m : Nat} {x y : Sen} (hm : m = 38 ∨ m = 124 ∨ m = 62) : ∃ z, twoS m x y = some z ∧ signS z = m ∧ ∀ (w : World) (lo b : Nat) (p q : Option Addr), lo ≤ b → NodeAt w b m p q → SenAt w lo x p → SenAt w lo y q → SenAt w lo z (some ⟨b, 0, none⟩) := by
  rcases hm with rfl | rfl | rfl
  · exact ⟨.and_ x y, rfl, rfl, fun w lo b p q h1 h2 h3 h4 => ⟨b, p, q, rfl, h1, h2, h3, h4⟩⟩
  · exact ⟨.or_ x y, rfl, rfl, fun w lo b p q h1 h2 h3 h4 => ⟨b, p, q, rfl, h1, h2, h3, h4⟩⟩
  · exact ⟨.if_ x y, rfl, rfl, fun w lo b p q h1 h2 h3 h4 => ⟨b, p, q, rfl, h1, h2, h3, h4⟩⟩
theorem rdr_alloc {w : World} {R : Nat} {s st : ByteArray} {at_ : Nat} (h : RdrAt w R s at_ st) (o : Obj) : RdrAt (w.alloc o) R s at_ st :=
  (((Below.refl _ w).alloc (Nat.le_refl _) o).block R (Array.getElem?_eq_some_iff.1 h).1).trans h
theorem node_new (w : World) (sg : Nat) (p q : Option Addr) : NodeAt (w.alloc (.cells #[.int .u8 sg, .pointer p, .pointer q] 102)) w.heap.size sg p q := World.alloc_heap_new w _
theorem rdr_lt {w : World} {R : Nat} {s st : ByteArray} {at_ : Nat} (h : RdrAt w R s at_ st) : R < w.heap.size := (Array.getElem?_eq_some_iff.1 h).1

set_option maxRecDepth 100000 in
set_option maxHeartbeats 4000000 in
theorem iPair (t : Int) (k R : Nat) (s st : ByteArray) (hs : s.size ≤ 1048576) (ih : ReadsAt t k R s st) (at_ : Nat) (w : World) (hr : RdrAt w R s at_ st) (hle : at_ ≤ s.size) (hk : s.size - at_ ≤ k) :
    Calls Try.prog 87 #[.pointer (some ⟨R, 0, none⟩)] w (ReadPost R s st (pairS t k ((bytesN s).drop at_)) w) := by
  have hR := rdr_lt hr
  rcases h1 : readS t k ((bytesN s).drop at_) with _ | ⟨x, _ | ⟨m, l2⟩⟩
  · have HI := Lib.hid (reads_none ih hr hle hk h1)
    rw [show pairS t k ((bytesN s).drop at_) = none by unfold pairS; rw [h1]]
    show Calls _ _ _ _ (Panics R w)
    clear h1 hr ih
    go_enter Try.func87, Try.ntmps87
    go_wp2_with fail
    refine HI.out.mono ?_
    rintro e w1 ⟨v, rfl, hg⟩
    exact ⟨rfl, v, rfl, hg⟩
  · have HI := Lib.hid (reads_some ih hr hle hk h1)
    rw [show pairS t k ((bytesN s).drop at_) = none by unfold pairS; rw [h1]]
    show Calls _ _ _ _ (Panics R w)
    clear h1 hr ih
    go_enter Try.func87, Try.ntmps87
    go_wp2_with fail
    refine HI.out.mono ?_
    rintro e w1 ⟨p, a2, rfl, hle2, hd, hr1, hn, hg⟩
    obtain rfl := drop_end hd hle2
    have HT := Lib.hid (iTake_end R s st ⟨#[38, 124, 62]⟩ w1 hs hr1)
    have HG := Lib.hid hg
    clear hd hr1 hn hg
    go_wp2_with fail
    refine HT.out.mono ?_
    rintro e w2 ⟨v, rfl, hg2⟩
    exact ⟨rfl, v, rfl, HG.out.trans hg2⟩
  · have HI := Lib.hid (reads_some ih hr hle hk h1)
    rcases hm : (decide (m = 38) || decide (m = 124) || decide (m = 62)) with _ | _
    · have hno : pairS t k ((bytesN s).drop at_) = none := by
        unfold pairS
        rw [h1]
        simp only
        split
        · split
          · rw [twoS_none hm]; rfl
          · rfl
        · rfl
      rw [hno]
      show Calls _ _ _ _ (Panics R w)
      have HM := Lib.hid hm
      clear h1 hr ih hno hm
      go_enter Try.func87, Try.ntmps87
      go_wp2_with fail
      refine HI.out.mono ?_
      rintro e w1 ⟨p, a2, rfl, hle2, hd, hr1, hn, hg⟩
      obtain ⟨hlt2, hm2, _⟩ := drop_lt hd
      have HT := Lib.hid (iTake_bad R s st ⟨#[38, 124, 62]⟩ a2 w1 hs hlt2 hr1 (by rw [signs2_has, hm2]; exact HM.out))
      have HG := Lib.hid hg
      clear hd hr1 hn hg hm2
      go_wp2_with fail
      refine HT.out.mono ?_
      rintro e w2 ⟨v, rfl, hg2⟩
      exact ⟨rfl, v, rfl, HG.out.trans hg2⟩
    · have hm3 : m = 38 ∨ m = 124 ∨ m = 62 := by simpa [or_assoc] using hm
      have HM := Lib.hid hm
      have HM3 := Lib.hid hm3
      have HH1 := Lib.hid h1
      have HIH := Lib.hid ih
      rcases h2 : readS t k l2 with _ | ⟨y, _ | ⟨e0, r⟩⟩
      · rw [show pairS t k ((bytesN s).drop at_) = none by unfold pairS; rw [h1]; simp only; rw [h2]]
        show Calls _ _ _ _ (Panics R w)
        have HH2 := Lib.hid h2
        clear h1 h2 hr ih hm hm3
        go_enter Try.func87, Try.ntmps87
        go_wp2_with fail
        refine HI.out.mono ?_
        rintro e w1 ⟨p, a2, rfl, hle2, hd, hr1, hn, hg⟩
        have hlt := less_left HH1.out hd hle hle2
        obtain ⟨hlt2, hm2, hd2⟩ := drop_lt hd
        have HT := Lib.hid (iTake_is hs hlt2 hm2 hr1 (al := ⟨#[38, 124, 62]⟩) (by rw [signs2_has, hm2]; exact HM.out))
        have HG := Lib.hid hg
        have HD2 := Lib.hid hd2
        clear hd hr1 hn hg hm2 hd2
        go_wp2_with fail
        refine HT.out.mono ?_
        rintro e w2 ⟨rfl, hr2, hg2⟩
        have HI2 := Lib.hid (reads_none HIH.out hr2 (by omega) (by omega) (by rw [HD2.out]; exact HH2.out))
        have HG2 := Lib.hid (HG.out.trans hg2)
        clear hr2 hg2
        go_wp2_with fail
        refine HI2.out.mono ?_
        rintro e w3 ⟨v, rfl, hg3⟩
        exact ⟨rfl, v, rfl, HG2.out.trans hg3⟩
      · rw [show pairS t k ((bytesN s).drop at_) = none by unfold pairS; rw [h1]; simp only; rw [h2]]
        show Calls _ _ _ _ (Panics R w)
        have HH2 := Lib.hid h2
        clear h1 h2 hr ih hm hm3
        go_enter Try.func87, Try.ntmps87
        go_wp2_with fail
        refine HI.out.mono ?_
        rintro e w1 ⟨p, a2, rfl, hle2, hd, hr1, hn, hg⟩
        have hlt := less_left HH1.out hd hle hle2
        obtain ⟨hlt2, hm2, hd2⟩ := drop_lt hd
        have HT := Lib.hid (iTake_is hs hlt2 hm2 hr1 (al := ⟨#[38, 124, 62]⟩) (by rw [signs2_has, hm2]; exact HM.out))
        have HG := Lib.hid hg
        have HD2 := Lib.hid hd2
        clear hd hr1 hn hg hm2 hd2
        go_wp2_with fail
        refine HT.out.mono ?_
        rintro e w2 ⟨rfl, hr2, hg2⟩
        have HI2 := Lib.hid (reads_some HIH.out hr2 (by omega) (by omega) (by rw [HD2.out]; exact HH2.out))
        have HG2 := Lib.hid (HG.out.trans hg2)
        clear hr2 hg2
        go_wp2_with fail
        refine HI2.out.mono ?_
        rintro e w3 ⟨q, a3, rfl, hle3, hd3, hr3, hn3, hg3⟩
        obtain rfl := drop_end hd3 hle3
        have HT3 := Lib.hid (iTake_end R s st ⟨#[41]⟩ w3 hs hr3)
        have HG3 := Lib.hid (HG2.out.trans hg3)
        clear hd3 hr3 hn3 hg3
        go_wp2_with fail
        refine HT3.out.mono ?_
        rintro e w4 ⟨v, rfl, hg4⟩
        exact ⟨rfl, v, rfl, HG3.out.trans hg4⟩
      · by_cases he : e0 = 41
        · subst he
          obtain ⟨z, hz, hsg, hz2⟩ := twoS_is (x := x) (y := y) hm3
          rw [show pairS t k ((bytesN s).drop at_) = some (z, r) by unfold pairS; rw [h1]; simp only; rw [h2]; simp only [if_true]; rw [hz]; rfl]
          show Calls _ _ _ _ (ReadSome R s st z r w)
          have HH2 := Lib.hid h2
          have HZ2 := Lib.hid hz2
          clear h1 h2 hr ih hm hm3 hz hsg hz2
          go_enter Try.func87, Try.ntmps87
          go_wp2_with fail
          refine HI.out.mono ?_
          rintro e w1 ⟨p, a2, rfl, hle2, hd, hr1, hn, hg⟩
          have hlt := less_left HH1.out hd hle hle2
          obtain ⟨hlt2, hm2, hd2⟩ := drop_lt hd
          have HT := Lib.hid (iTake_is hs hlt2 hm2 hr1 (al := ⟨#[38, 124, 62]⟩) (by rw [signs2_has, hm2]; exact HM.out))
          have HG := Lib.hid hg
          have HN := Lib.hid hn
          have HD2 := Lib.hid hd2
          clear hd hr1 hn hg hm2 hd2
          go_wp2_with fail
          refine HT.out.mono ?_
          rintro e w2 ⟨rfl, hr2, hg2⟩
          have HI2 := Lib.hid (reads_some HIH.out hr2 (by omega) (by omega) (by rw [HD2.out]; exact HH2.out))
          have HG2 := Lib.hid (HG.out.trans hg2)
          replace HN := Lib.hid (HN.out.grown hg2 hR)
          clear hr2 hg2
          go_wp2_with fail
          refine HI2.out.mono ?_
          rintro e w3 ⟨q, a3, rfl, hle3, hd3, hr3, hn3, hg3⟩
          obtain ⟨hlt3, hm3, hd4⟩ := drop_lt hd3
          have HT3 := Lib.hid (iTake_is hs hlt3 hm3 hr3 (al := ⟨#[41]⟩) (by rw [close_has, hm3]; rfl))
          have HG3 := Lib.hid (HG2.out.trans hg3)
          replace HN := Lib.hid (HN.out.grown hg3 hR)
          have HN3 := Lib.hid (SenAt.low HG2.out.size y q hn3)
          have HD4 := Lib.hid hd4
          clear hd3 hr3 hn3 hg3 hd4 hm3
          go_wp2_with fail
          refine HT3.out.mono ?_
          rintro e w4 ⟨rfl, hr4, hg4⟩
          have HG4 := Lib.hid (HG3.out.trans hg4)
          replace HN := Lib.hid (HN.out.grown hg4 hR)
          replace HN3 := Lib.hid (HN3.out.grown hg4 hR)
          have HR4 := Lib.hid hr4
          clear hr4 hg4
          go_wp2_with fail
          go_ret
          have hb : Below w4.heap.size w4 (w4.alloc (.cells #[.int .u8 m, .pointer p, .pointer q] 102)) := (Below.refl _ _).alloc (Nat.le_refl _) _
          exact ⟨_, a3 + 1, rfl, by omega, HD4.out, rdr_alloc HR4.out _, HZ2.out _ _ _ _ _ HG4.out.size (node_new _ _ _ _) (HN.out.below hb) (HN3.out.below hb), grown_alloc HG4.out _⟩
        · rw [show pairS t k ((bytesN s).drop at_) = none by unfold pairS; rw [h1]; simp only; rw [h2]; simp only; rw [if_neg he]]
          show Calls _ _ _ _ (Panics R w)
          have HH2 := Lib.hid h2
          have HEN := Lib.hid he
          clear h1 h2 hr ih hm hm3 he
          go_enter Try.func87, Try.ntmps87
          go_wp2_with fail
          refine HI.out.mono ?_
          rintro e w1 ⟨p, a2, rfl, hle2, hd, hr1, hn, hg⟩
          have hlt := less_left HH1.out hd hle hle2
          obtain ⟨hlt2, hm2, hd2⟩ := drop_lt hd
          have HT := Lib.hid (iTake_is hs hlt2 hm2 hr1 (al := ⟨#[38, 124, 62]⟩) (by rw [signs2_has, hm2]; exact HM.out))
          have HG := Lib.hid hg
          have HD2 := Lib.hid hd2
          clear hd hr1 hn hg hm2 hd2
          go_wp2_with fail
          refine HT.out.mono ?_
          rintro e w2 ⟨rfl, hr2, hg2⟩
          have HI2 := Lib.hid (reads_some HIH.out hr2 (by omega) (by omega) (by rw [HD2.out]; exact HH2.out))
          have HG2 := Lib.hid (HG.out.trans hg2)
          clear hr2 hg2
          go_wp2_with fail
          refine HI2.out.mono ?_
          rintro e w3 ⟨q, a3, rfl, hle3, hd3, hr3, hn3, hg3⟩
          obtain ⟨hlt3, hm3, hd4⟩ := drop_lt hd3
          have HT3 := Lib.hid (iTake_bad R s st ⟨#[41]⟩ a3 w3 hs hlt3 hr3 (by rw [close_has, hm3]; exact decide_eq_false HEN.out))
          have HG3 := Lib.hid (HG2.out.trans hg3)
          clear hd3 hr3 hn3 hg3 hd4 hm3
          go_wp2_with fail
          refine HT3.out.mono ?_
          rintro e w4 ⟨v, rfl, hg4⟩
          exact ⟨rfl, v, rfl, HG3.out.trans hg4⟩
end Go.Proofs.Ytmdogidflaplkaa

namespace Go.Proofs.Ytmdogidflaplkaa
open Go.RowKit

theorem word_of {t : Int} {c : Nat} (h : startB t c = true) (h1 : c ≠ 33) (h2 : c ≠ 63) (h3 : c ≠ 40) : ∃ x, (∀ k l, readS t (k + 1) (c :: l) = some (x, l)) ∧ (∀ (w : World) (lo b : Nat), lo ≤ b → NodeAt w b c none none → SenAt w lo x (some ⟨b, 0, none⟩)) := by
  unfold startB at h
  simp only [Bool.or_eq_true, decide_eq_true_eq] at h
  by_cases e1 : c = 49
  · subst e1; exact ⟨.one, fun _ _ => rfl, fun w lo b hl hn => ⟨b, rfl, hl, hn⟩⟩
  by_cases e2 : c = 48
  · subst e2; exact ⟨.zero, fun _ _ => rfl, fun w lo b hl hn => ⟨b, rfl, hl, hn⟩⟩
  have h4 : 97 ≤ c ∧ (c : Int) - 97 < t := by omega
  obtain ⟨i, rfl⟩ : ∃ i, c = 97 + i := ⟨c - 97, by omega⟩
  refine ⟨.thing i, fun k l => ?_, fun w lo b hl hn => ⟨b, rfl, hl, hn⟩⟩
  unfold readS
  rw [if_neg e1, if_neg e2, if_pos h4]
  congr 3; omega
theorem read_no33 (t : Int) (k : Nat) (l : List Nat) : readS t (k + 1) (33 :: l) = (readS t k l).map fun p => (.no p.1, p.2) := by
  conv => lhs; unfold readS
  simp
theorem read_ask63 (t : Int) (k : Nat) (l : List Nat) : readS t (k + 1) (63 :: l) = (readS t k l).map fun p => (.ask p.1, p.2) := by
  conv => lhs; unfold readS
  simp
theorem read_pair40 (t : Int) (k : Nat) (l : List Nat) : readS t (k + 1) (40 :: l) = pairS t k l := by
  conv => lhs; unfold readS
  simp only [show ¬ (40 : Nat) = 49 by omega, show ¬ (40 : Nat) = 48 by omega, show ¬ (97 ≤ 40 ∧ ((40 : Nat) : Int) - 97 < t) by omega, show ¬ (40 : Nat) = 33 by omega, show ¬ (40 : Nat) = 63 by omega, if_false, if_true]
  rfl

set_option maxRecDepth 100000 in
set_option maxHeartbeats 4000000 in
theorem iRead (t : Int) (R : Nat) (s st : ByteArray) (hs : s.size ≤ 1048576) (_ht : t ≤ 26) (hst : StOk t st) : ∀ k, ReadsAt t k R s st := by
  intro k
  induction k with
  | zero =>
    intro at_ w hr hle hk
    obtain rfl : at_ = s.size := by omega
    obtain ⟨_, _, hc2, _, _⟩ := rdr_cells hr
    have HT := Lib.hid (iTake_end R s st st w hs hr)
    show Calls _ _ _ _ (Panics R w)
    clear hr
    go_enter Try.func73, Try.ntmps73
    go_wp2_with fail
    refine HT.out.mono ?_
    rintro e w1 ⟨v, rfl, hg⟩
    exact ⟨rfl, v, rfl, hg⟩
  | succ k ih =>
    intro at_ w hr hle hk
    obtain ⟨_, _, hc2, _, _⟩ := rdr_cells hr
    have hR := rdr_lt hr
    by_cases hlt : at_ < s.size
    · have hd := bytesN_drop hlt
      rw [hd]
      obtain ⟨c, hc⟩ : ∃ c, s[at_].toNat = c := ⟨_, rfl⟩
      rw [hc]
      have hc255 : c < 256 := by rw [← hc]; exact UInt8.toNat_lt _
      rcases hb : startB t c with _ | _
      · have HT := Lib.hid (iTake_bad R s st st at_ w hs hlt hr (by rw [hst, hc, hb]))
        rw [read_no t k c _ hb]
        show Calls _ _ _ _ (Panics R w)
        clear hr hb ih hst hd
        go_enter Try.func73, Try.ntmps73
        go_wp2_with fail
        refine HT.out.mono ?_
        rintro e w1 ⟨v, rfl, hg⟩
        exact ⟨rfl, v, rfl, hg⟩
      · have HT := Lib.hid (iTake_is hs hlt hc hr (al := st) (by rw [hst, hc, hb]))
        have HIH := Lib.hid ih
        by_cases e33 : c = 33
        · subst e33
          rw [read_no33]
          rcases h1 : readS t k ((bytesN s).drop (at_ + 1)) with _ | ⟨x, rest⟩
          · show Calls _ _ _ _ (Panics R w)
            have HH := Lib.hid h1
            clear hr hb ih hst hd h1
            go_enter Try.func73, Try.ntmps73
            go_wp2_with fail
            refine HT.out.mono ?_
            rintro e w1 ⟨rfl, hr1, hg⟩
            have HI := Lib.hid (reads_none HIH.out hr1 (by omega) (by omega) HH.out)
            have HG := Lib.hid hg
            clear hr1 hg
            go_wp2_with fail
            refine HI.out.mono ?_
            rintro e w2 ⟨v, rfl, hg2⟩
            exact ⟨rfl, v, rfl, HG.out.trans hg2⟩
          · show Calls _ _ _ _ (ReadSome R s st (.no x) rest w)
            have HH := Lib.hid h1
            clear hr hb ih hst hd h1
            go_enter Try.func73, Try.ntmps73
            go_wp2_with fail
            refine HT.out.mono ?_
            rintro e w1 ⟨rfl, hr1, hg⟩
            have HI := Lib.hid (reads_some HIH.out hr1 (by omega) (by omega) HH.out)
            have HG := Lib.hid hg
            clear hr1 hg
            go_wp2_with fail
            refine HI.out.mono ?_
            rintro e w2 ⟨p, a2, rfl, hle2, hd2, hr2, hn2, hg2⟩
            have HN2 := Lib.hid (SenAt.low HG.out.size x p hn2)
            have HG2 := Lib.hid (HG.out.trans hg2)
            have HR2 := Lib.hid hr2
            have HD2 := Lib.hid hd2
            clear hd2 hr2 hn2 hg2
            go_wp2_with fail
            go_ret
            have hb : Below w2.heap.size w2 (w2.alloc (.cells #[.int .u8 33, .pointer p, .pointer none] 102)) := (Below.refl _ _).alloc (Nat.le_refl _) _
            exact ⟨_, a2, rfl, hle2, HD2.out, rdr_alloc HR2.out _, ⟨_, p, rfl, HG2.out.size, node_new _ 33 _ _, HN2.out.below hb⟩, grown_alloc HG2.out _⟩
        by_cases e63 : c = 63
        · subst e63
          rw [read_ask63]
          rcases h1 : readS t k ((bytesN s).drop (at_ + 1)) with _ | ⟨x, rest⟩
          · show Calls _ _ _ _ (Panics R w)
            have HH := Lib.hid h1
            clear hr hb ih hst hd h1
            go_enter Try.func73, Try.ntmps73
            go_wp2_with fail
            refine HT.out.mono ?_
            rintro e w1 ⟨rfl, hr1, hg⟩
            have HI := Lib.hid (reads_none HIH.out hr1 (by omega) (by omega) HH.out)
            have HG := Lib.hid hg
            clear hr1 hg
            go_wp2_with fail
            refine HI.out.mono ?_
            rintro e w2 ⟨v, rfl, hg2⟩
            exact ⟨rfl, v, rfl, HG.out.trans hg2⟩
          · show Calls _ _ _ _ (ReadSome R s st (.ask x) rest w)
            have HH := Lib.hid h1
            clear hr hb ih hst hd h1
            go_enter Try.func73, Try.ntmps73
            go_wp2_with fail
            refine HT.out.mono ?_
            rintro e w1 ⟨rfl, hr1, hg⟩
            have HI := Lib.hid (reads_some HIH.out hr1 (by omega) (by omega) HH.out)
            have HG := Lib.hid hg
            clear hr1 hg
            go_wp2_with fail
            refine HI.out.mono ?_
            rintro e w2 ⟨p, a2, rfl, hle2, hd2, hr2, hn2, hg2⟩
            have HN2 := Lib.hid (SenAt.low HG.out.size x p hn2)
            have HG2 := Lib.hid (HG.out.trans hg2)
            have HR2 := Lib.hid hr2
            have HD2 := Lib.hid hd2
            clear hd2 hr2 hn2 hg2
            go_wp2_with fail
            go_ret
            have hb : Below w2.heap.size w2 (w2.alloc (.cells #[.int .u8 63, .pointer p, .pointer none] 102)) := (Below.refl _ _).alloc (Nat.le_refl _) _
            exact ⟨_, a2, rfl, hle2, HD2.out, rdr_alloc HR2.out _, ⟨_, p, rfl, HG2.out.size, node_new _ 63 _ _, HN2.out.below hb⟩, grown_alloc HG2.out _⟩
        by_cases e40 : c = 40
        · subst e40
          rw [read_pair40]
          rcases h1 : pairS t k ((bytesN s).drop (at_ + 1)) with _ | ⟨x, rest⟩
          · show Calls _ _ _ _ (Panics R w)
            have HH := Lib.hid h1
            clear hr hb ih hst hd h1
            go_enter Try.func73, Try.ntmps73
            go_wp2_with fail
            refine HT.out.mono ?_
            rintro e w1 ⟨rfl, hr1, hg⟩
            have hp := iPair t k R s st hs HIH.out (at_ + 1) w1 hr1 (by omega) (by omega)
            rw [HH.out] at hp
            have HI : Hid (Calls Try.prog 87 #[.pointer (some ⟨R, 0, none⟩)] w1 (Panics R w1)) := hp
            have HG := Lib.hid hg
            clear hr1 hg hp
            go_wp2_with fail
            refine HI.out.mono ?_
            rintro e w2 ⟨v, rfl, hg2⟩
            exact ⟨rfl, v, rfl, HG.out.trans hg2⟩
          · show Calls _ _ _ _ (ReadSome R s st x rest w)
            have HH := Lib.hid h1
            clear hr hb ih hst hd h1
            go_enter Try.func73, Try.ntmps73
            go_wp2_with fail
            refine HT.out.mono ?_
            rintro e w1 ⟨rfl, hr1, hg⟩
            have hp := iPair t k R s st hs HIH.out (at_ + 1) w1 hr1 (by omega) (by omega)
            rw [HH.out] at hp
            have HI : Hid (Calls Try.prog 87 #[.pointer (some ⟨R, 0, none⟩)] w1 (ReadSome R s st x rest w1)) := hp
            have HG := Lib.hid hg
            clear hr1 hg hp
            go_wp2_with fail
            refine HI.out.mono ?_
            rintro e w2 ⟨p, a2, rfl, hle2, hd2, hr2, hn2, hg2⟩
            have HN2 := Lib.hid (SenAt.low HG.out.size x p hn2)
            have HG2 := Lib.hid (HG.out.trans hg2)
            have HR2 := Lib.hid hr2
            have HD2 := Lib.hid hd2
            clear hd2 hr2 hn2 hg2
            go_wp2_with fail
            go_ret
            exact ⟨p, a2, rfl, hle2, HD2.out, HR2.out, HN2.out, HG2.out⟩
        · obtain ⟨x, hx1, hx2⟩ := word_of hb e33 e63 e40
          rw [hx1]
          show Calls _ _ _ _ (ReadSome R s st x _ w)
          have HX := Lib.hid hx2
          have h33 : ((c : Int) == 33) = false := by rw [beq_eq_false_iff_ne]; omega
          have h63 : ((c : Int) == 63) = false := by rw [beq_eq_false_iff_ne]; omega
          have h40 : ((c : Int) == 40) = false := by rw [beq_eq_false_iff_ne]; omega
          clear hr hb ih hst hd hx1 hx2 e33 e63 e40
          go_enter Try.func73, Try.ntmps73
          go_wp2_with fail
          refine HT.out.mono ?_
          rintro e w1 ⟨rfl, hr1, hg⟩
          have HG := Lib.hid hg
          have HR1 := Lib.hid hr1
          clear hr1 hg
          go_wp2_with fail
          go_ret
          exact ⟨_, at_ + 1, rfl, by omega, rfl, rdr_alloc HR1.out _, HX.out _ _ _ HG.out.size (node_new _ c none none), grown_alloc HG.out _⟩
    · obtain rfl : at_ = s.size := by omega
      have HT := Lib.hid (iTake_end R s st st w hs hr)
      rw [List.drop_eq_nil_of_le (by rw [bytesN_len]; omega), read_empty]
      show Calls _ _ _ _ (Panics R w)
      clear hr ih hst
      go_enter Try.func73, Try.ntmps73
      go_wp2_with fail
      refine HT.out.mono ?_
      rintro e w1 ⟨v, rfl, hg⟩
      exact ⟨rfl, v, rfl, hg⟩
end Go.Proofs.Ytmdogidflaplkaa

namespace Go.Proofs.Ytmdogidflaplkaa
open Go.RowKit

theorem iEnd_ok (R : Nat) (s st : ByteArray) (w : World) (_hs : s.size ≤ 1048576) (hr : RdrAt w R s s.size st) :
    Calls Try.prog 74 #[.pointer (some ⟨R, 0, none⟩)] w fun e w' => e = .returned (.tuple #[]) ∧ ∃ n, w' = w.drewN n := by
  obtain ⟨hc0, hc1, hc2, hf, hlt⟩ := rdr_cells hr
  have hd : decide ((s.size : Int) < (s.size : Int)) = false := decide_eq_false (by omega)
  clear hr
  go_enter Try.func74, Try.ntmps74
  go_wp2_with fail
  go_quiet (fail)
  go_wp2_with fail
  go_end0
  exact ⟨rfl, _, rfl⟩
theorem iEnd_bad (R : Nat) (s st : ByteArray) (at_ : Nat) (w : World) (_hs : s.size ≤ 1048576) (hat : at_ < s.size) (hr : RdrAt w R s at_ st) :
    Calls Try.prog 74 #[.pointer (some ⟨R, 0, none⟩)] w (Panics R w) := by
  obtain ⟨hc0, hc1, hc2, hf, hlt⟩ := rdr_cells hr
  have hd : decide ((at_ : Int) < (s.size : Int)) = true := decide_eq_true (by omega)
  clear hr
  go_enter Try.func74, Try.ntmps74
  go_wp2_with fail
  go_quiet (fail)
  go_wp2_with fail
  exact ⟨rfl, _, rfl, grown_drewN (World.grownBy.refl _ _) _⟩

theorem catch_panicking (p q : Addr) (v0 v1 : Value) (u : TypeId) (pv : Value) (w : World) (h0 : w.cell? p = some v0) (h1 : w.cell? q = some v1) (f0 : w.frozen? p = false) (f1 : w.frozen? q = false) (hne : p.block ≠ q.block) :
    CallsD Try.prog 72 #[.pointer (some p), .pointer (some q)] (.panicking [{ v := .iface u pv, recovered := false }]) w fun e u' w' =>
      e = .returned (.tuple #[]) ∧ u' = .panicking [{ v := .iface u pv, recovered := true }] ∧ w' = (w.setCell p (.pointer none)).setCell q (.bool false) := by
  refine callsD_of_wpS Try.func72 rfl fun c₀ cs hu => ?_
  apply wpS_seq
  apply wpS_region
  simp [wpOpsS, go_sem, recoverD, hu, Try.ntmps72, Exit.thenS]
  refine wpS_cond (t := true) (by simp [Act.eval, Array.replicate]) ?_
  simp only [if_true]
  apply wpS_region
  have h2 : (w.setCell p (.pointer none)).cell? q = some v1 := (World.cell?_setCell_far w p q _ hne).trans h1
  have f2 : (w.setCell p (.pointer none)).frozen? q = false := by rw [World.frozen?_setCell]; exact f1
  simp [wpOpsS, go_sem, h0, f0, h2, f2, bodyPostS, results, Try.results72]
theorem catch_idle (p q : Addr) (w : World) :
    CallsD Try.prog 72 #[.pointer (some p), .pointer (some q)] .returning w fun e u' w' => e = .returned (.tuple #[]) ∧ u' = .returning ∧ w' = w := by
  refine callsD_of_wpS Try.func72 rfl fun c₀ cs hu => ?_
  apply wpS_seq
  apply wpS_region
  simp [wpOpsS, go_sem, recoverD, hu, Try.ntmps72, Exit.thenS]
  refine wpS_cond (t := false) (by simp [Act.eval, Array.replicate]) ?_
  simp only [Bool.false_eq_true, if_false]
  refine wpS_of_wp (wp_skip ?_)
  cases c₀
  simp_all [bodyPostS, results, Try.results72]

def nothing : Value := .tuple #[.pointer none, .bool false]
theorem box_set {W : World} {B : Nat} {t : TypeId} {v : Value} (h : Boxed W B t v) (u : Value) {C : Nat} (hne : C ≠ B) : Boxed (W.setCell ⟨C, 0, none⟩ u) B t v :=
  (Below.heap_setCell _ _ _ _ (fun e => hne e.symm)).trans h

set_option maxRecDepth 100000 in
set_option maxHeartbeats 4000000 in
theorem iReadS_bad (t : Int) (s : ByteArray) (w : World) (h : t < 1 ∨ 3 < t ∨ 60 < s.size) (hs : s.size ≤ 9223372036854775807) :
    Calls Try.prog 62 #[.int .i64 t, .string s] w fun e w' => e = .returned nothing ∧ Below w.heap.size w w' := by
  have x0 := Boxed.new w 89 (.pointer none)
  have x1 := Boxed.new (w.alloc (.cells #[.pointer none] 89)) 4 (.bool false)
  rw [World.size_alloc] at x1
  have hc0 := (x0.alloc (.cells #[.bool false] 4)).cell
  have hc1 := x1.cell
  have HB : Hid (Below w.heap.size w ((w.alloc (.cells #[.pointer none] 89)).alloc (.cells #[.bool false] 4))) := ((Below.refl _ _).alloc (Nat.le_refl _) _).alloc (by simp) _
  clear x0 x1
  obtain ⟨n, HN⟩ : ∃ n, Hid (worldsOf t = n) := ⟨_, rfl⟩
  by_cases h1 : t < 1 ∨ 3 < t
  · have hd : decide (n < 0) = true := decide_eq_true (by rw [← HN.out, worldsOf_bad h1]; omega)
    clear h h1
    go_enter_defers Try.func62, Try.ntmps62
    go_wp2_with (go_at_call 25; refine (iWorldsOf _ _).mono ?_; rintro e w' ⟨rfl, rfl⟩; rw [HN.out])
    exact ⟨nothing, by simp [results, Try.results62, go_sem, hc0, hc1, nothing], rfl, HB.out⟩
  · have hd : decide (n < 0) = false := decide_eq_false (by rw [← HN.out, (worlds_n (t := t) (by omega) (by omega)).1]; omega)
    have hd2 : decide ((60 : Int) < (s.size : Int)) = true := decide_eq_true (by omega)
    clear h h1
    go_enter_defers Try.func62, Try.ntmps62
    go_wp2_with (go_at_call 25; refine (iWorldsOf _ _).mono ?_; rintro e w' ⟨rfl, rfl⟩; rw [HN.out])
    exact ⟨nothing, by simp [results, Try.results62, go_sem, hc0, hc1, nothing], rfl, HB.out⟩

def startsOf (n : Nat) : ByteArray := ⟨#[48, 49, 33, 63, 40]⟩ ++ (⟨#[97, 98, 99]⟩ : ByteArray).extract 0 n
theorem starts_ok (n : Nat) (h1 : 1 ≤ n) (h3 : n ≤ 3) : StOk n (startsOf n) := by
  intro c
  have e : ∀ k : UInt8, c = k ↔ c.toNat = k.toNat := fun k => UInt8.toNat_inj.symm
  have hl : (startsOf n).data.toList = [48, 49, 33, 63, 40] ++ [97, 98, 99].take n := by
    have : n = 1 ∨ n = 2 ∨ n = 3 := by omega
    rcases this with rfl | rfl | rfl <;> rfl
  rw [hl, Bool.eq_iff_iff]
  unfold startB
  have : n = 1 ∨ n = 2 ∨ n = 3 := by omega
  rcases this with rfl | rfl | rfl <;> simp [e] <;> omega
theorem senOf_none {t : Int} {l : List Nat} (h1 : 1 ≤ t) (h3 : t ≤ 3) (hl : l.length ≤ 60) (h : readS t l.length l = none) : senOf t l = none := by
  unfold senOf; rw [if_pos ⟨h1, h3, hl⟩, h]
theorem senOf_more {t : Int} {l : List Nat} {x : Sen} {c : Nat} {r : List Nat} (h1 : 1 ≤ t) (h3 : t ≤ 3) (hl : l.length ≤ 60) (h : readS t l.length l = some (x, c :: r)) : senOf t l = none := by
  unfold senOf; rw [if_pos ⟨h1, h3, hl⟩, h]
theorem senOf_some {t : Int} {l : List Nat} {x : Sen} (h1 : 1 ≤ t) (h3 : t ≤ 3) (hl : l.length ≤ 60) (h : readS t l.length l = some (x, [])) : senOf t l = some x := by
  unfold senOf; rw [if_pos ⟨h1, h3, hl⟩, h]
theorem below_caught {w W w1 : World} {u0 u1 : Value} (hB : Below w.heap.size w W) (hg : W.grownBy w1 (some (w.heap.size + 1 + 1))) : Below w.heap.size w ((w1.setCell ⟨w.heap.size, 0, none⟩ u0).setCell ⟨w.heap.size + 1, 0, none⟩ u1) :=
  ((hB.grown hg hB.size (fun k e => by cases e; omega)).setCell (p := ⟨w.heap.size, 0, none⟩) (Nat.le_refl _) _).setCell (p := ⟨w.heap.size + 1, 0, none⟩) (by show w.heap.size ≤ w.heap.size + 1; omega) _
theorem sen_set {w : World} {lo C : Nat} {x : Sen} {p : Option Addr} (h : SenAt w lo x p) (hC : C < lo) (v : Value) : SenAt (w.setCell ⟨C, 0, none⟩ v) lo x p :=
  SenAt.keep (fun b hl _ => Below.heap_setCell _ _ _ b (by show b ≠ C; omega)) x p h
theorem sen_drewN {w : World} {lo : Nat} {x : Sen} {p : Option Addr} (h : SenAt w lo x p) (n : Nat) : SenAt (w.drewN n) lo x p :=
  SenAt.keep (w := w) (w' := w.drewN n) (fun _ _ _ => rfl) x p h
def SentPost (t : Int) (s : ByteArray) (w : World) (e : Ending) (w' : World) : Prop :=
  match senOf t (bytesN s) with
  | some x => ∃ p, e = .returned (.tuple #[.pointer p, .bool true]) ∧ SenAt w' w.heap.size x p ∧ Below w.heap.size w w'
  | none => e = .returned nothing ∧ Below w.heap.size w w'
theorem SentPost.of_none {t : Int} {s : ByteArray} {w : World} {e : Ending} {w' : World} (h : senOf t (bytesN s) = none) (he : e = .returned nothing) (hb : Below w.heap.size w w') : SentPost t s w e w' := by
  unfold SentPost; rw [h]; exact ⟨he, hb⟩
theorem SentPost.of_some {t : Int} {s : ByteArray} {w : World} {e : Ending} {w' : World} {x : Sen} (h : senOf t (bytesN s) = some x) {p : Option Addr} (he : e = .returned (.tuple #[.pointer p, .bool true])) (hn : SenAt w' w.heap.size x p) (hb : Below w.heap.size w w') : SentPost t s w e w' := by
  unfold SentPost; rw [h]; exact ⟨p, he, hn, hb⟩

set_option maxRecDepth 100000 in
set_option maxHeartbeats 4000000 in
theorem iReadS_ok (n : Nat) (s : ByteArray) (w : World) (h1 : 1 ≤ n) (h3 : n ≤ 3) (hs : s.size ≤ 60) :
    Calls Try.prog 62 #[.int .i64 n, .string s] w (SentPost n s w) := by
  have hmf : ∀ (fn : Fn) (first cap : Array Value) (w : World), (Instr.makeFunc fn first cap).run Try.prog w = .ok (.func fn first cap) w := fun _ _ _ _ => rfl
  have hd : decide ((60 : Int) < (s.size : Int)) = false := decide_eq_false (by omega)
  obtain ⟨m, HN⟩ : ∃ m, Hid (worldsOf n = m) := ⟨_, rfl⟩
  have hd2 : decide (m < 0) = false := decide_eq_false (by rw [← HN.out, (worlds_n (t := n) (by omega) (by omega)).1]; omega)
  go_enter_defers Try.func62, Try.ntmps62
  go_wp2_with (go_at_call 25; refine (iWorldsOf _ _).mono ?_; rintro e w' ⟨rfl, rfl⟩; rw [HN.out])
  obtain ⟨W, hW⟩ : ∃ W, ((w.alloc (.cells #[.pointer none] 89)).alloc (.cells #[.bool false] 4)).alloc (.cells #[.string s, .int .i64 0, .string (⟨#[48, 49, 33, 63, 40]⟩ ++ (⟨#[97, 98, 99]⟩ : ByteArray).extract 0 n)] 99) = W := ⟨_, rfl⟩
  have x0 : Boxed W w.heap.size 89 (.pointer none) := by rw [← hW]; exact ((Boxed.new w 89 (.pointer none)).alloc _).alloc _
  have x1 : Boxed W (w.heap.size + 1) 4 (.bool false) := by
    rw [← hW]; have := Boxed.new (w.alloc (.cells #[.pointer none] 89)) 4 (.bool false); rw [World.size_alloc] at this; exact this.alloc _
  have hr : RdrAt W (w.heap.size + 1 + 1) s 0 (startsOf n) := by
    rw [← hW]; have := World.alloc_heap_new ((w.alloc (.cells #[.pointer none] 89)).alloc (.cells #[.bool false] 4)) (.cells #[.string s, .int .i64 0, .string (startsOf n)] 99); simp only [World.size_alloc] at this; exact this
  have hB : Below w.heap.size w W := by rw [← hW]; exact (((Below.refl _ _).alloc (Nat.le_refl _) _).alloc (by simp) _).alloc (by simp; omega) _
  have hsz : w.heap.size + 3 ≤ W.heap.size := by rw [← hW]; simp
  rw [hW]
  clear hW
  have hread := iRead n (w.heap.size + 1 + 1) s (startsOf n) (by omega) (by omega) (starts_ok n h1 h3) s.size 0 W hr (by omega) (by omega)
  rw [List.drop_zero] at hread
  have HB := Lib.hid hB
  have X0 := Lib.hid x0
  have X1 := Lib.hid x1
  have hlen : (bytesN s).length = s.size := bytesN_len s
  have hln : ∀ o, readS n s.size (bytesN s) = o → readS n (bytesN s).length (bytesN s) = o := fun o h => by rw [hlen]; exact h
  clear x0 x1 hB hr
  rcases hrd : readS n s.size (bytesN s) with _ | ⟨x, rest⟩
  · rw [hrd] at hread
    have HI : Hid (Calls Try.prog 73 #[.pointer (some ⟨w.heap.size + 1 + 1, 0, none⟩)] W (Panics (w.heap.size + 1 + 1) W)) := hread
    have HE := Lib.hid (senOf_none (t := n) (by omega) (by omega) (by rw [hlen]; exact hs) (hln _ hrd))
    clear hread hrd hln hlen
    refine HI.out.mono ?_
    rintro e w1 ⟨v, rfl, hg⟩
    have y0 : Boxed w1 w.heap.size 89 (.pointer none) := X0.out.kept hg (fun e => by have := Option.some.inj e; omega)
    have y1 : Boxed w1 (w.heap.size + 1) 4 (.bool false) := X1.out.kept hg (fun e => by have := Option.some.inj e; omega)
    refine leaves_cons (f := 72) (args := #[.pointer (some ⟨w.heap.size, 0, none⟩), .pointer (some ⟨w.heap.size + 1, 0, none⟩)]) (by simp) (by simp [go_sem]) ?_
    refine (catch_panicking ⟨w.heap.size, 0, none⟩ ⟨w.heap.size + 1, 0, none⟩ _ _ _ _ _ y0.cell y1.cell y0.frozen y1.frozen (by simp)).mono ?_
    rintro e u' w'' ⟨rfl, rfl, rfl⟩
    have z0 := (box_set (y0.set (.pointer none)) (.bool false) (C := w.heap.size + 1) (by omega)).cell
    have z1 := ((box_set y1 (.pointer none) (C := w.heap.size) (by omega)).set (.bool false)).cell
    have HP := Lib.hid (SentPost.of_none HE.out rfl (below_caught (u0 := .pointer none) (u1 := .bool false) HB.out hg))
    simp [Leaves, settle, results, Try.results62, go_sem, z0, z1]
    exact HP.out
  · rw [hrd] at hread
    have HI : Hid (Calls Try.prog 73 #[.pointer (some ⟨w.heap.size + 1 + 1, 0, none⟩)] W (ReadSome (w.heap.size + 1 + 1) s (startsOf n) x rest W)) := hread
    have HRD := Lib.hid (hln _ hrd)
    have HLN := Lib.hid hlen
    clear hread hrd hln hlen
    refine HI.out.mono ?_
    rintro e w1 ⟨p, a1, rfl, ha1, hda, hr1, hn1, hg⟩
    have y0 : Boxed w1 w.heap.size 89 (.pointer none) := X0.out.kept hg (fun e => by have := Option.some.inj e; omega)
    have y1 : Boxed w1 (w.heap.size + 1) 4 (.bool false) := X1.out.kept hg (fun e => by have := Option.some.inj e; omega)
    have hc0 := y0.cell
    have hf0 := y0.frozen
    rcases rest with _ | ⟨c, r⟩
    · have HE := Lib.hid (senOf_some (t := n) (by omega) (by omega) (by rw [HLN.out]; exact hs) HRD.out)
      obtain rfl := drop_end hda ha1
      have hr2 : RdrAt (w1.setCell ⟨w.heap.size, 0, none⟩ (.pointer p)) (w.heap.size + 1 + 1) s s.size (startsOf n) := (Below.heap_setCell _ _ _ _ (by show w.heap.size + 1 + 1 ≠ w.heap.size; omega)).trans hr1
      have HT := Lib.hid (iEnd_ok _ s (startsOf n) _ (by omega) hr2)
      have HG := Lib.hid hg
      have Y0 := Lib.hid (y0.set (.pointer p))
      have Y1 := Lib.hid (box_set y1 (.pointer p) (C := w.heap.size) (by omega))
      have HN := Lib.hid hn1
      clear hda hr1 hn1 hg y0 y1 hr2
      go_wp2_with fail
      refine HT.out.mono ?_
      rintro e w2 ⟨rfl, q, rfl⟩
      clear hc0 hf0
      have hc0 := Y0.out.cell
      have hf0 := Y0.out.frozen
      have hc1 := Y1.out.cell
      have hf1 := Y1.out.frozen
      go_wp2_with fail
      refine leaves_cons (f := 72) (args := #[.pointer (some ⟨w.heap.size, 0, none⟩), .pointer (some ⟨w.heap.size + 1, 0, none⟩)]) (by simp) (by simp [go_sem]) ?_
      refine (catch_idle ⟨w.heap.size, 0, none⟩ ⟨w.heap.size + 1, 0, none⟩ _).mono ?_
      rintro e u' w'' ⟨rfl, rfl, rfl⟩
      have Y0q : Boxed ((w1.setCell ⟨w.heap.size, 0, none⟩ (.pointer p)).drewN q) w.heap.size 89 (.pointer p) := Y0.out
      have Y1q : Boxed ((w1.setCell ⟨w.heap.size, 0, none⟩ (.pointer p)).drewN q) (w.heap.size + 1) 4 (.bool false) := Y1.out
      have z0 := (box_set (Y0q.set (.pointer p)) (.bool true) (C := w.heap.size + 1) (by omega)).cell
      have z1 := ((box_set Y1q (.pointer p) (C := w.heap.size) (by omega)).set (.bool true)).cell
      have hsn : SenAt ((((w1.setCell ⟨w.heap.size, 0, none⟩ (.pointer p)).drewN q).setCell ⟨w.heap.size, 0, none⟩ (.pointer p)).setCell ⟨w.heap.size + 1, 0, none⟩ (.bool true)) w.heap.size x p :=
        SenAt.low (lo := W.heap.size) (by omega) x p (sen_set (sen_set (sen_drewN (sen_set HN.out (by omega) _) _) (by omega) _) (by omega) _)
      have hbl : Below w.heap.size w ((((w1.setCell ⟨w.heap.size, 0, none⟩ (.pointer p)).drewN q).setCell ⟨w.heap.size, 0, none⟩ (.pointer p)).setCell ⟨w.heap.size + 1, 0, none⟩ (.bool true)) :=
        ((bel_drewN ((HB.out.grown HG.out HB.out.size (fun k e => by have := Option.some.inj e; omega)).setCell (p := ⟨w.heap.size, 0, none⟩) (Nat.le_refl _) _) q).setCell (p := ⟨w.heap.size, 0, none⟩) (Nat.le_refl _) _).setCell (p := ⟨w.heap.size + 1, 0, none⟩) (by show w.heap.size ≤ w.heap.size + 1; omega) _
      have HP := Lib.hid (SentPost.of_some HE.out rfl hsn hbl)
      simp [Leaves, settle, results, Try.results62, go_sem, z0, z1]
      exact HP.out
    · have HE := Lib.hid (senOf_more (t := n) (by omega) (by omega) (by rw [HLN.out]; exact hs) HRD.out)
      obtain ⟨hlt, _, _⟩ := drop_lt hda
      have hr2 : RdrAt (w1.setCell ⟨w.heap.size, 0, none⟩ (.pointer p)) (w.heap.size + 1 + 1) s a1 (startsOf n) := (Below.heap_setCell _ _ _ _ (by show w.heap.size + 1 + 1 ≠ w.heap.size; omega)).trans hr1
      have HT := Lib.hid (iEnd_bad _ s (startsOf n) a1 _ (by omega) hlt hr2)
      have HG := Lib.hid hg
      have Y0 := Lib.hid (y0.set (.pointer p))
      have Y1 := Lib.hid (box_set y1 (.pointer p) (C := w.heap.size) (by omega))
      clear hda hr1 hn1 hg y0 y1 hr2
      go_wp2_with fail
      refine HT.out.mono ?_
      rintro e w2 ⟨v, rfl, hg2⟩
      have y0 : Boxed w2 w.heap.size 89 (.pointer p) := Boxed.kept Y0.out hg2 (fun e => by have := Option.some.inj e; omega)
      have y1 : Boxed w2 (w.heap.size + 1) 4 (.bool false) := Boxed.kept Y1.out hg2 (fun e => by have := Option.some.inj e; omega)
      refine leaves_cons (f := 72) (args := #[.pointer (some ⟨w.heap.size, 0, none⟩), .pointer (some ⟨w.heap.size + 1, 0, none⟩)]) (by simp) (by simp [go_sem]) ?_
      refine (catch_panicking ⟨w.heap.size, 0, none⟩ ⟨w.heap.size + 1, 0, none⟩ _ _ _ _ _ y0.cell y1.cell y0.frozen y1.frozen (by simp)).mono ?_
      rintro e u' w'' ⟨rfl, rfl, rfl⟩
      have z0 := (box_set (y0.set (.pointer none)) (.bool false) (C := w.heap.size + 1) (by omega)).cell
      have z1 := ((box_set y1 (.pointer none) (C := w.heap.size) (by omega)).set (.bool false)).cell
      have hb1 : Below w.heap.size w (w1.setCell ⟨w.heap.size, 0, none⟩ (.pointer p)) := (HB.out.grown HG.out HB.out.size (fun k e => by have := Option.some.inj e; omega)).setCell (p := ⟨w.heap.size, 0, none⟩) (Nat.le_refl _) _
      have HP := Lib.hid (SentPost.of_none HE.out rfl (below_caught (u0 := .pointer none) (u1 := .bool false) hb1 hg2))
      simp [Leaves, settle, results, Try.results62, go_sem, z0, z1]
      exact HP.out
theorem iReadS (t : Int) (s : ByteArray) (w : World) (hs : s.size ≤ 9223372036854775807) : Calls Try.prog 62 #[.int .i64 t, .string s] w (SentPost t s w) := by
  by_cases h : t < 1 ∨ 3 < t ∨ 60 < s.size
  · refine (iReadS_bad t s w h hs).mono ?_
    rintro e w' ⟨he, hb⟩
    exact SentPost.of_none (by unfold senOf; rw [if_neg (by rw [bytesN_len]; omega)]) he hb
  · obtain ⟨n, rfl⟩ : ∃ n : Nat, t = n := ⟨t.toNat, by omega⟩
    exact iReadS_ok n s w (by omega) (by omega) (by omega)
end Go.Proofs.Ytmdogidflaplkaa
