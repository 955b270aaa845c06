/-
  What the proofs of this seat's statements share (Rdr, Rdp, Rdq).
-/
import Derived.Outline
import Derived.Test.YtmdogidflaplkaaGreatU10
import Derived.Test.YtmdogidflaplkaaGreatU8
import Derived.Test.YtmdogidflaplkaaGreatU5

namespace Go.Proofs.YtmdogidflaplkaaGreat
open Go.RowKit

abbrev RdrAt (w : World) (R : Nat) (s : ByteArray) (at_ : Nat) (st : ByteArray) : Prop := w.heap[R]? = some (.cells #[.string s, .int .i64 at_, .string st] 114 (0, 0))
theorem rdr_cells {w : World} {R : Nat} {s st : ByteArray} {at_ : Nat} (h : RdrAt w R s at_ st) : w.cell? ⟨R, 0, none⟩ = some (.string s) ∧ w.cell? ⟨R, 1, none⟩ = some (.int .i64 at_) ∧ w.cell? ⟨R, 2, none⟩ = some (.string st) ∧ w.frozen? ⟨R, 1, none⟩ = false ∧ R < w.heap.size := by
  refine ⟨?_, ?_, ?_, ?_, (Array.getElem?_eq_some_iff.1 h).1⟩ <;> simp [World.cell?, World.frozen?, show w.heap[R]? = _ from h]
def Panics (R : Nat) (w : World) (e : Ending) (w' : World) : Prop := ∃ v : Value, e = .panicked [{ v := .iface 3 v, recovered := false }] ∧ w.grownBy w' (some R)
theorem hasByte {l : List UInt8} {c : UInt8} : decide (Lib.indexByte l c < 0) = !l.contains c := by
  have := Lib.indexByte_ge l c
  by_cases h : Lib.indexByte l c < 0
  · have e : Lib.indexByte l c = -1 := by omega
    have hn := Lib.indexByte_none e
    rw [decide_eq_true h]
    cases hc : l.contains c
    · rfl
    · obtain ⟨i, hi⟩ := List.mem_iff_getElem?.1 (List.contains_iff_mem.1 hc)
      exact absurd hi (hn i)
  · obtain ⟨o, ho⟩ : ∃ o : Nat, Lib.indexByte l c = o := ⟨(Lib.indexByte l c).toNat, by omega⟩
    have := (Lib.indexByte_some ho).1
    rw [decide_eq_false h, List.contains_iff_mem.2 (List.mem_of_getElem? this)]; rfl

set_option maxRecDepth 100000 in
set_option maxHeartbeats 4000000 in
theorem iTake_end (R : Nat) (s st al : ByteArray) (w : World) (_hs : s.size ≤ 1048576) (hr : RdrAt w R s s.size st) :
    Calls Tryz.prog 107 #[.pointer (some ⟨R, 0, none⟩), .string al] w (Panics R w) := by
  obtain ⟨hc0, hc1, hc2, hf, hlt⟩ := rdr_cells hr
  have hd : ((s.size : Int) == (s.size : Int)) = true := by simp
  clear hr
  go_enter Tryz.func107, Tryz.ntmps107
  go_wp2_with fail
  go_quiet (fail)
  go_wp2_with fail
  exact ⟨rfl, _, rfl, grown_drewN (World.grownBy.refl _ _) _⟩

theorem rdr_step {w : World} {R : Nat} {s st : ByteArray} {at_ : Nat} (h : RdrAt w R s at_ st) (u : Int) (hu : u = ((at_ + 1 : Nat) : Int)) : RdrAt (w.setCell ⟨R, 1, none⟩ (.int .i64 u)) R s (at_ + 1) st := by
  subst hu
  obtain ⟨hlt, e⟩ := Array.getElem?_eq_some_iff.1 h
  show (w.heap.modify R _)[R]? = _
  rw [Array.getElem?_eq_getElem (by rw [Array.size_modify]; exact hlt), Array.getElem_modify_self, e]
  rfl
theorem byte_u8 (b : UInt8) : (b.toNat : Int).toNat.toUInt8 = b := by simp

set_option maxRecDepth 100000 in
set_option maxHeartbeats 4000000 in
theorem iTake_bad (R : Nat) (s st al : ByteArray) (at_ : Nat) (w : World) (_hs : s.size ≤ 1048576) (hat : at_ < s.size) (hr : RdrAt w R s at_ st) (hal : al.data.toList.contains s[at_] = false) :
    Calls Tryz.prog 107 #[.pointer (some ⟨R, 0, none⟩), .string al] w (Panics R w) := by
  obtain ⟨hc0, hc1, hc2, hf, hlt⟩ := rdr_cells hr
  have hd : ((at_ : Int) == (s.size : Int)) = false := by rw [beq_eq_false_iff_ne]; omega
  have hi : (at_ : Int) < (s.size : Int) := by omega
  have hi0 : (0 : Int) ≤ (at_ : Int) := by omega
  have hx : decide (Lib.indexByte al.data.toList s[at_] < 0) = true := by rw [hasByte, hal]; rfl
  have HC : Hid (∀ W, Calls Tryz.prog 117 #[.string al, .int .u8 (s[at_].toNat)] W fun e w' => e = .returned (.int .i64 (Lib.indexByte al.data.toList s[at_])) ∧ w' = W) := fun W => by
    have := Tryz.strings_IndexByte al (s[at_].toNat) W
    rwa [byte_u8] at this
  clear hr hal
  go_enter Tryz.func107, Tryz.ntmps107
  go_wp2_with fail
  go_quiet ((go_at_call 117; exact Calls.quiet_of_same (HC.out _)))
  go_wp2_with fail
  exact ⟨rfl, _, rfl, grown_drewN (World.grownBy.refl _ _) _⟩

set_option maxRecDepth 100000 in
set_option maxHeartbeats 4000000 in
theorem iTake_ok (R : Nat) (s st al : ByteArray) (at_ : Nat) (w : World) (hs : s.size ≤ 1048576) (hat : at_ < s.size) (hr : RdrAt w R s at_ st) (hal : al.data.toList.contains s[at_] = true) :
    Calls Tryz.prog 107 #[.pointer (some ⟨R, 0, none⟩), .string al] w fun e w' => e = .returned (.int .u8 (s[at_].toNat)) ∧ RdrAt w' R s (at_ + 1) st ∧ w.grownBy w' (some R) := by
  obtain ⟨hc0, hc1, hc2, hf, hlt⟩ := rdr_cells hr
  have hd : ((at_ : Int) == (s.size : Int)) = false := by rw [beq_eq_false_iff_ne]; omega
  have hi : (at_ : Int) < (s.size : Int) := by omega
  have hi0 : (0 : Int) ≤ (at_ : Int) := by omega
  have hx : decide (Lib.indexByte al.data.toList s[at_] < 0) = false := by rw [hasByte, hal]; rfl
  have HC : Hid (∀ W, Calls Tryz.prog 117 #[.string al, .int .u8 (s[at_].toNat)] W fun e w' => e = .returned (.int .i64 (Lib.indexByte al.data.toList s[at_])) ∧ w' = W) := fun W => by
    have := Tryz.strings_IndexByte al (s[at_].toNat) W
    rwa [byte_u8] at this
  have HR := Lib.hid hr
  clear hr hal
  go_enter Tryz.func107, Tryz.ntmps107
  go_wp2_with fail
  go_quiet ((go_at_call 117; exact Calls.quiet_of_same (HC.out _)))
  go_wp2_with fail
  go_quiet (fail)
  go_wp2_with fail
  go_ret
  exact ⟨rfl, rdr_step HR.out _ (by omega), grown_set (grown_drewN (World.grownBy.refl _ _) _) 1 _⟩
theorem iTake_is {R : Nat} {s st al : ByteArray} {at_ c : Nat} {w : World} (hs : s.size ≤ 1048576) (hat : at_ < s.size) (hc : s[at_].toNat = c) (hr : RdrAt w R s at_ st) (hal : al.data.toList.contains s[at_] = true) :
    Calls Tryz.prog 107 #[.pointer (some ⟨R, 0, none⟩), .string al] w fun e w' => e = .returned (.int .u8 c) ∧ RdrAt w' R s (at_ + 1) st ∧ w.grownBy w' (some R) := by
  subst hc; exact iTake_ok R s st al at_ w hs hat hr hal

/-! Reading. -/
def ReadPost (R : Nat) (s st : ByteArray) (o : Option (Sen × List Nat)) (w : World) (e : Ending) (w' : World) : Prop :=
  match o with
  | some (x, rest) => ∃ p at_, e = .returned (.pointer p) ∧ at_ ≤ s.size ∧ (bytesN s).drop at_ = rest ∧ RdrAt w' R s at_ st ∧ SenAt w' w.heap.size x p ∧ w.grownBy w' (some R)
  | none => Panics R w e w'
def startB (t : Int) (c : Nat) : Bool := decide (c = 49) || decide (c = 48) || decide (97 ≤ c ∧ (c : Int) - 97 < t) || decide (c = 33) || decide (c = 63) || decide (c = 40)
def StOk (t : Int) (st : ByteArray) : Prop := ∀ c : UInt8, st.data.toList.contains c = startB t c.toNat
def pairS (t : Int) (k : Nat) (l : List Nat) : Option (Sen × List Nat) :=
  match readS t k l with
  | some (x, m :: l2) =>
    match readS t k l2 with
    | some (y, e :: r) => if e = 41 then (twoS m x y).map fun z => (z, r) else none
    | _ => none
  | _ => none
theorem read_no (t : Int) (k c : Nat) (l : List Nat) (h : startB t c = false) : readS t (k + 1) (c :: l) = none := by
  unfold startB at h
  simp only [Bool.or_eq_false_iff, decide_eq_false_iff_not] at h
  unfold readS
  rw [if_neg h.1.1.1.1.1, if_neg h.1.1.1.1.2, if_neg h.1.1.1.2, if_neg h.1.1.2, if_neg h.1.2, if_neg h.2]
theorem read_empty (t : Int) : ∀ n, readS t n [] = none
  | 0 => rfl
  | _ + 1 => rfl
theorem drop_lt {s : ByteArray} {at_ m : Nat} {l : List Nat} (h : (bytesN s).drop at_ = m :: l) : ∃ h : at_ < s.size, s[at_].toNat = m ∧ (bytesN s).drop (at_ + 1) = l := by
  have hlt : at_ < s.size := by
    rcases Nat.lt_or_ge at_ s.size with h2 | h2
    · exact h2
    · rw [List.drop_eq_nil_of_le (by rw [bytesN_len]; exact h2)] at h; cases h
  rw [bytesN_drop hlt] at h
  injection h with h1 h2
  exact ⟨hlt, h1, h2⟩
theorem drop_end {s : ByteArray} {at_ : Nat} (h : (bytesN s).drop at_ = []) (hle : at_ ≤ s.size) : at_ = s.size := by
  have := List.drop_eq_nil_iff.1 h
  rw [bytesN_len] at this
  omega
theorem signs2_has (c : UInt8) : (ByteArray.mk #[38, 124, 62]).data.toList.contains c = (decide (c.toNat = 38) || decide (c.toNat = 124) || decide (c.toNat = 62)) := by
  rw [Bool.eq_iff_iff]
  simp only [List.contains_iff_mem, Bool.or_eq_true, decide_eq_true_eq]
  have e : ∀ k : UInt8, c = k ↔ c.toNat = k.toNat := fun k => UInt8.toNat_inj.symm
  simp [e]
  omega
theorem close_has (c : UInt8) : (ByteArray.mk #[41]).data.toList.contains c = decide (c.toNat = 41) := by
  rw [Bool.eq_iff_iff]
  simp only [List.contains_iff_mem, decide_eq_true_eq]
  have e : ∀ k : UInt8, c = k ↔ c.toNat = k.toNat := fun k => UInt8.toNat_inj.symm
  simp [e]
theorem twoS_none {m : Nat} {x y : Sen} (h : (decide (m = 38) || decide (m = 124) || decide (m = 62)) = false) : twoS m x y = none := by
  simp only [Bool.or_eq_false_iff, decide_eq_false_iff_not] at h
  unfold twoS
  rw [if_neg h.1.1, if_neg h.1.2, if_neg h.2]
end Go.Proofs.YtmdogidflaplkaaGreat

namespace Go.Proofs.YtmdogidflaplkaaGreat
open Go.RowKit

def ReadsAt (t : Int) (k R : Nat) (s st : ByteArray) : Prop := ∀ (at_ : Nat) (w : World), RdrAt w R s at_ st → at_ ≤ s.size → s.size - at_ ≤ k →
  Calls Tryz.prog 85 #[.pointer (some ⟨R, 0, none⟩)] w (ReadPost R s st (readS t k ((bytesN s).drop at_)) w)
theorem reads_none {t : Int} {k R : Nat} {s st : ByteArray} (ih : ReadsAt t k R s st) {at_ : Nat} {w : World} (hr : RdrAt w R s at_ st) (hle : at_ ≤ s.size) (hk : s.size - at_ ≤ k) (h : readS t k ((bytesN s).drop at_) = none) :
    Calls Tryz.prog 85 #[.pointer (some ⟨R, 0, none⟩)] w (Panics R w) := by
  have := ih at_ w hr hle hk
  rw [h] at this; exact this
def ReadSome (R : Nat) (s st : ByteArray) (x : Sen) (rest : List Nat) (w : World) (e : Ending) (w' : World) : Prop :=
  ∃ p at_, e = .returned (.pointer p) ∧ at_ ≤ s.size ∧ (bytesN s).drop at_ = rest ∧ RdrAt w' R s at_ st ∧ SenAt w' w.heap.size x p ∧ w.grownBy w' (some R)
theorem reads_some {t : Int} {k R : Nat} {s st : ByteArray} (ih : ReadsAt t k R s st) {at_ : Nat} {w : World} (hr : RdrAt w R s at_ st) (hle : at_ ≤ s.size) (hk : s.size - at_ ≤ k) {x : Sen} {rest : List Nat} (h : readS t k ((bytesN s).drop at_) = some (x, rest)) :
    Calls Tryz.prog 85 #[.pointer (some ⟨R, 0, none⟩)] w (ReadSome R s st x rest w) := by
  have := ih at_ w hr hle hk
  rw [h] at this; exact this
theorem less_left {t : Int} {k at_ a2 : Nat} {s : ByteArray} {x : Sen} {rest : List Nat} (h : readS t k ((bytesN s).drop at_) = some (x, rest)) (e : (bytesN s).drop a2 = rest) (hle : at_ ≤ s.size) (hle2 : a2 ≤ s.size) : at_ < a2 := by
  have := readS_less t k _ _ _ h
  rw [← e, List.length_drop, List.length_drop, bytesN_len] at this
  omega
theorem twoS_is {m : Nat} {x y : Sen} (hm : m = 38 ∨ m = 124 ∨ m = 62) : ∃ z, twoS m x y = some z ∧ signS z = m ∧ ∀ (w : World) (lo b : Nat) (p q : Option Addr), lo ≤ b → NodeAt w b m p q → SenAt w lo x p → SenAt w lo y q → SenAt w lo z (some ⟨b, 0, none⟩) := by
  rcases hm with rfl | rfl | rfl
  · exact ⟨.and_ x y, rfl, rfl, fun w lo b p q h1 h2 h3 h4 => ⟨b, p, q, rfl, h1, h2, h3, h4⟩⟩
  · exact ⟨.or_ x y, rfl, rfl, fun w lo b p q h1 h2 h3 h4 => ⟨b, p, q, rfl, h1, h2, h3, h4⟩⟩
  · exact ⟨.if_ x y, rfl, rfl, fun w lo b p q h1 h2 h3 h4 => ⟨b, p, q, rfl, h1, h2, h3, h4⟩⟩
theorem rdr_alloc {w : World} {R : Nat} {s st : ByteArray} {at_ : Nat} (h : RdrAt w R s at_ st) (o : Obj) : RdrAt (w.alloc o) R s at_ st :=
  (((Below.refl _ w).alloc (Nat.le_refl _) o).block R (Array.getElem?_eq_some_iff.1 h).1).trans h
theorem node_new (w : World) (sg : Nat) (p q : Option Addr) : NodeAt (w.alloc (.cells #[.int .u8 sg, .pointer p, .pointer q] 133)) w.heap.size sg p q := World.alloc_heap_new w _
theorem rdr_lt {w : World} {R : Nat} {s st : ByteArray} {at_ : Nat} (h : RdrAt w R s at_ st) : R < w.heap.size := (Array.getElem?_eq_some_iff.1 h).1

set_option maxRecDepth 100000 in
set_option maxHeartbeats 4000000 in
theorem iPair (t : Int) (k R : Nat) (s st : ByteArray) (hs : s.size ≤ 1048576) (ih : ReadsAt t k R s st) (at_ : Nat) (w : World) (hr : RdrAt w R s at_ st) (hle : at_ ≤ s.size) (hk : s.size - at_ ≤ k) :
    Calls Tryz.prog 108 #[.pointer (some ⟨R, 0, none⟩)] w (ReadPost R s st (pairS t k ((bytesN s).drop at_)) w) := by
  have hR := rdr_lt hr
  rcases h1 : readS t k ((bytesN s).drop at_) with _ | ⟨x, _ | ⟨m, l2⟩⟩
  · have HI := Lib.hid (reads_none ih hr hle hk h1)
    rw [show pairS t k ((bytesN s).drop at_) = none by unfold pairS; rw [h1]]
    show Calls _ _ _ _ (Panics R w)
    clear h1 hr ih
    go_enter Tryz.func108, Tryz.ntmps108
    go_wp2_with fail
    refine HI.out.mono ?_
    rintro e w1 ⟨v, rfl, hg⟩
    exact ⟨rfl, v, rfl, hg⟩
  · have HI := Lib.hid (reads_some ih hr hle hk h1)
    rw [show pairS t k ((bytesN s).drop at_) = none by unfold pairS; rw [h1]]
    show Calls _ _ _ _ (Panics R w)
    clear h1 hr ih
    go_enter Tryz.func108, Tryz.ntmps108
    go_wp2_with fail
    refine HI.out.mono ?_
    rintro e w1 ⟨p, a2, rfl, hle2, hd, hr1, hn, hg⟩
    obtain rfl := drop_end hd hle2
    have HT := Lib.hid (iTake_end R s st ⟨#[38, 124, 62]⟩ w1 hs hr1)
    have HG := Lib.hid hg
    clear hd hr1 hn hg
    go_wp2_with fail
    refine HT.out.mono ?_
    rintro e w2 ⟨v, rfl, hg2⟩
    exact ⟨rfl, v, rfl, HG.out.trans hg2⟩
  · have HI := Lib.hid (reads_some ih hr hle hk h1)
    rcases hm : (decide (m = 38) || decide (m = 124) || decide (m = 62)) with _ | _
    · have hno : pairS t k ((bytesN s).drop at_) = none := by
        unfold pairS
        rw [h1]
        simp only
        split
        · split
          · rw [twoS_none hm]; rfl
          · rfl
        · rfl
      rw [hno]
      show Calls _ _ _ _ (Panics R w)
      have HM := Lib.hid hm
      clear h1 hr ih hno hm
      go_enter Tryz.func108, Tryz.ntmps108
      go_wp2_with fail
      refine HI.out.mono ?_
      rintro e w1 ⟨p, a2, rfl, hle2, hd, hr1, hn, hg⟩
      obtain ⟨hlt2, hm2, _⟩ := drop_lt hd
      have HT := Lib.hid (iTake_bad R s st ⟨#[38, 124, 62]⟩ a2 w1 hs hlt2 hr1 (by rw [signs2_has, hm2]; exact HM.out))
      have HG := Lib.hid hg
      clear hd hr1 hn hg hm2
      go_wp2_with fail
      refine HT.out.mono ?_
      rintro e w2 ⟨v, rfl, hg2⟩
      exact ⟨rfl, v, rfl, HG.out.trans hg2⟩
    · have hm3 : m = 38 ∨ m = 124 ∨ m = 62 := by simpa [or_assoc] using hm
      have HM := Lib.hid hm
      have HM3 := Lib.hid hm3
      have HH1 := Lib.hid h1
      have HIH := Lib.hid ih
      rcases h2 : readS t k l2 with _ | ⟨y, _ | ⟨e0, r⟩⟩
      · rw [show pairS t k ((bytesN s).drop at_) = none by unfold pairS; rw [h1]; simp only; rw [h2]]
        show Calls _ _ _ _ (Panics R w)
        have HH2 := Lib.hid h2
        clear h1 h2 hr ih hm hm3
        go_enter Tryz.func108, Tryz.ntmps108
        go_wp2_with fail
        refine HI.out.mono ?_
        rintro e w1 ⟨p, a2, rfl, hle2, hd, hr1, hn, hg⟩
        have hlt := less_left HH1.out hd hle hle2
        obtain ⟨hlt2, hm2, hd2⟩ := drop_lt hd
        have HT := Lib.hid (iTake_is hs hlt2 hm2 hr1 (al := ⟨#[38, 124, 62]⟩) (by rw [signs2_has, hm2]; exact HM.out))
        have HG := Lib.hid hg
        have HD2 := Lib.hid hd2
        clear hd hr1 hn hg hm2 hd2
        go_wp2_with fail
        refine HT.out.mono ?_
        rintro e w2 ⟨rfl, hr2, hg2⟩
        have HI2 := Lib.hid (reads_none HIH.out hr2 (by omega) (by omega) (by rw [HD2.out]; exact HH2.out))
        have HG2 := Lib.hid (HG.out.trans hg2)
        clear hr2 hg2
        go_wp2_with fail
        refine HI2.out.mono ?_
        rintro e w3 ⟨v, rfl, hg3⟩
        exact ⟨rfl, v, rfl, HG2.out.trans hg3⟩
      · rw [show pairS t k ((bytesN s).drop at_) = none by unfold pairS; rw [h1]; simp only; rw [h2]]
        show Calls _ _ _ _ (Panics R w)
        have HH2 := Lib.hid h2
        clear h1 h2 hr ih hm hm3
        go_enter Tryz.func108, Tryz.ntmps108
        go_wp2_with fail
        refine HI.out.mono ?_
        rintro e w1 ⟨p, a2, rfl, hle2, hd, hr1, hn, hg⟩
        have hlt := less_left HH1.out hd hle hle2
        obtain ⟨hlt2, hm2, hd2⟩ := drop_lt hd
        have HT := Lib.hid (iTake_is hs hlt2 hm2 hr1 (al := ⟨#[38, 124, 62]⟩) (by rw [signs2_has, hm2]; exact HM.out))
        have HG := Lib.hid hg
        have HD2 := Lib.hid hd2
        clear hd hr1 hn hg hm2 hd2
        go_wp2_with fail
        refine HT.out.mono ?_
        rintro e w2 ⟨rfl, hr2, hg2⟩
        have HI2 := Lib.hid (reads_some HIH.out hr2 (by omega) (by omega) (by rw [HD2.out]; exact HH2.out))
        have HG2 := Lib.hid (HG.out.trans hg2)
        clear hr2 hg2
        go_wp2_with fail
        refine HI2.out.mono ?_
        rintro e w3 ⟨q, a3, rfl, hle3, hd3, hr3, hn3, hg3⟩
        obtain rfl := drop_end hd3 hle3
        have HT3 := Lib.hid (iTake_end R s st ⟨#[41]⟩ w3 hs hr3)
        have HG3 := Lib.hid (HG2.out.trans hg3)
        clear hd3 hr3 hn3 hg3
        go_wp2_with fail
        refine HT3.out.mono ?_
        rintro e w4 ⟨v, rfl, hg4⟩
        exact ⟨rfl, v, rfl, HG3.out.trans hg4⟩
      · by_cases he : e0 = 41
        · subst he
          obtain ⟨z, hz, hsg, hz2⟩ := twoS_is (x := x) (y := y) hm3
          rw [show pairS t k ((bytesN s).drop at_) = some (z, r) by unfold pairS; rw [h1]; simp only; rw [h2]; simp only [if_true]; rw [hz]; rfl]
          show Calls _ _ _ _ (ReadSome R s st z r w)
          have HH2 := Lib.hid h2
          have HZ2 := Lib.hid hz2
          clear h1 h2 hr ih hm hm3 hz hsg hz2
          go_enter Tryz.func108, Tryz.ntmps108
          go_wp2_with fail
          refine HI.out.mono ?_
          rintro e w1 ⟨p, a2, rfl, hle2, hd, hr1, hn, hg⟩
          have hlt := less_left HH1.out hd hle hle2
          obtain ⟨hlt2, hm2, hd2⟩ := drop_lt hd
          have HT := Lib.hid (iTake_is hs hlt2 hm2 hr1 (al := ⟨#[38, 124, 62]⟩) (by rw [signs2_has, hm2]; exact HM.out))
          have HG := Lib.hid hg
          have HN := Lib.hid hn
          have HD2 := Lib.hid hd2
          clear hd hr1 hn hg hm2 hd2
          go_wp2_with fail
          refine HT.out.mono ?_
          rintro e w2 ⟨rfl, hr2, hg2⟩
          have HI2 := Lib.hid (reads_some HIH.out hr2 (by omega) (by omega) (by rw [HD2.out]; exact HH2.out))
          have HG2 := Lib.hid (HG.out.trans hg2)
          replace HN := Lib.hid (HN.out.grown hg2 hR)
          clear hr2 hg2
          go_wp2_with fail
          refine HI2.out.mono ?_
          rintro e w3 ⟨q, a3, rfl, hle3, hd3, hr3, hn3, hg3⟩
          obtain ⟨hlt3, hm3, hd4⟩ := drop_lt hd3
          have HT3 := Lib.hid (iTake_is hs hlt3 hm3 hr3 (al := ⟨#[41]⟩) (by rw [close_has, hm3]; rfl))
          have HG3 := Lib.hid (HG2.out.trans hg3)
          replace HN := Lib.hid (HN.out.grown hg3 hR)
          have HN3 := Lib.hid (SenAt.low HG2.out.size y q hn3)
          have HD4 := Lib.hid hd4
          clear hd3 hr3 hn3 hg3 hd4 hm3
          go_wp2_with fail
          refine HT3.out.mono ?_
          rintro e w4 ⟨rfl, hr4, hg4⟩
          have HG4 := Lib.hid (HG3.out.trans hg4)
          replace HN := Lib.hid (HN.out.grown hg4 hR)
          replace HN3 := Lib.hid (HN3.out.grown hg4 hR)
          have HR4 := Lib.hid hr4
          clear hr4 hg4
          go_wp2_with fail
          go_ret
          have hb : Below w4.heap.size w4 (w4.alloc (.cells #[.int .u8 m, .pointer p, .pointer q] 133)) := (Below.refl _ _).alloc (Nat.le_refl _) _
          exact ⟨_, a3 + 1, rfl, by omega, HD4.out, rdr_alloc HR4.out _, HZ2.out _ _ _ _ _ HG4.out.size (node_new _ _ _ _) (HN.out.below hb) (HN3.out.below hb), grown_alloc HG4.out _⟩
        · rw [show pairS t k ((bytesN s).drop at_) = none by unfold pairS; rw [h1]; simp only; rw [h2]; simp only; rw [if_neg he]]
          show Calls _ _ _ _ (Panics R w)
          have HH2 := Lib.hid h2
          have HEN := Lib.hid he
          clear h1 h2 hr ih hm hm3 he
          go_enter Tryz.func108, Tryz.ntmps108
          go_wp2_with fail
          refine HI.out.mono ?_
          rintro e w1 ⟨p, a2, rfl, hle2, hd, hr1, hn, hg⟩
          have hlt := less_left HH1.out hd hle hle2
          obtain ⟨hlt2, hm2, hd2⟩ := drop_lt hd
          have HT := Lib.hid (iTake_is hs hlt2 hm2 hr1 (al := ⟨#[38, 124, 62]⟩) (by rw [signs2_has, hm2]; exact HM.out))
          have HG := Lib.hid hg
          have HD2 := Lib.hid hd2
          clear hd hr1 hn hg hm2 hd2
          go_wp2_with fail
          refine HT.out.mono ?_
          rintro e w2 ⟨rfl, hr2, hg2⟩
          have HI2 := Lib.hid (reads_some HIH.out hr2 (by omega) (by omega) (by rw [HD2.out]; exact HH2.out))
          have HG2 := Lib.hid (HG.out.trans hg2)
          clear hr2 hg2
          go_wp2_with fail
          refine HI2.out.mono ?_
          rintro e w3 ⟨q, a3, rfl, hle3, hd3, hr3, hn3, hg3⟩
          obtain ⟨hlt3, hm3, hd4⟩ := drop_lt hd3
          have HT3 := Lib.hid (iTake_bad R s st ⟨#[41]⟩ a3 w3 hs hlt3 hr3 (by rw [close_has, hm3]; exact decide_eq_false HEN.out))
          have HG3 := Lib.hid (HG2.out.trans hg3)
          clear hd3 hr3 hn3 hg3 hd4 hm3
          go_wp2_with fail
          refine HT3.out.mono ?_
          rintro e w4 ⟨v, rfl, hg4⟩
          exact ⟨rfl, v, rfl, HG3.out.trans hg4⟩
end Go.Proofs.YtmdogidflaplkaaGreat

namespace Go.Proofs.YtmdogidflaplkaaGreat
open Go.RowKit

theorem word_of {t : Int} {c : Nat} (h : startB t c = true) (h1 : c ≠ 33) (h2 : c ≠ 63) (h3 : c ≠ 40) : ∃ x, (∀ k l, readS t (k + 1) (c :: l) = some (x, l)) ∧ (∀ (w : World) (lo b : Nat), lo ≤ b → NodeAt w b c none none → SenAt w lo x (some ⟨b, 0, none⟩)) := by
  unfold startB at h
  simp only [Bool.or_eq_true, decide_eq_true_eq] at h
  by_cases e1 : c = 49
  · subst e1; exact ⟨.one, fun _ _ => rfl, fun w lo b hl hn => ⟨b, rfl, hl, hn⟩⟩
  by_cases e2 : c = 48
  · subst e2; exact ⟨.zero, fun _ _ => rfl, fun w lo b hl hn => ⟨b, rfl, hl, hn⟩⟩
  have h4 : 97 ≤ c ∧ (c : Int) - 97 < t := by omega
  obtain ⟨i, rfl⟩ : ∃ i, c = 97 + i := ⟨c - 97, by omega⟩
  refine ⟨.thing i, fun k l => ?_, fun w lo b hl hn => ⟨b, rfl, hl, hn⟩⟩
  unfold readS
  rw [if_neg e1, if_neg e2, if_pos h4]
  congr 3; omega
theorem read_no33 (t : Int) (k : Nat) (l : List Nat) : readS t (k + 1) (33 :: l) = (readS t k l).map fun p => (.no p.1, p.2) := by
  conv => lhs; unfold readS
  simp
theorem read_ask63 (t : Int) (k : Nat) (l : List Nat) : readS t (k + 1) (63 :: l) = (readS t k l).map fun p => (.ask p.1, p.2) := by
  conv => lhs; unfold readS
  simp
theorem read_pair40 (t : Int) (k : Nat) (l : List Nat) : readS t (k + 1) (40 :: l) = pairS t k l := by
  conv => lhs; unfold readS
  simp only [show ¬ (40 : Nat) = 49 by omega, show ¬ (40 : Nat) = 48 by omega, show ¬ (97 ≤ 40 ∧ ((40 : Nat) : Int) - 97 < t) by omega, show ¬ (40 : Nat) = 33 by omega, show ¬ (40 : Nat) = 63 by omega, if_false, if_true]
  rfl

set_option maxRecDepth 100000 in
set_option maxHeartbeats 4000000 in
theorem iRead (t : Int) (R : Nat) (s st : ByteArray) (hs : s.size ≤ 1048576) (_ht : t ≤ 26) (hst : StOk t st) : ∀ k, ReadsAt t k R s st := by
  intro k
  induction k with
  | zero =>
    intro at_ w hr hle hk
    obtain rfl : at_ = s.size := by omega
    obtain ⟨_, _, hc2, _, _⟩ := rdr_cells hr
    have HT := Lib.hid (iTake_end R s st st w hs hr)
    show Calls _ _ _ _ (Panics R w)
    clear hr
    go_enter Tryz.func85, Tryz.ntmps85
    go_wp2_with fail
    refine HT.out.mono ?_
    rintro e w1 ⟨v, rfl, hg⟩
    exact ⟨rfl, v, rfl, hg⟩
  | succ k ih =>
    intro at_ w hr hle hk
    obtain ⟨_, _, hc2, _, _⟩ := rdr_cells hr
    have hR := rdr_lt hr
    by_cases hlt : at_ < s.size
    · have hd := bytesN_drop hlt
      rw [hd]
      obtain ⟨c, hc⟩ : ∃ c, s[at_].toNat = c := ⟨_, rfl⟩
      rw [hc]
      have hc255 : c < 256 := by rw [← hc]; exact UInt8.toNat_lt _
      rcases hb : startB t c with _ | _
      · have HT := Lib.hid (iTake_bad R s st st at_ w hs hlt hr (by rw [hst, hc, hb]))
        rw [read_no t k c _ hb]
        show Calls _ _ _ _ (Panics R w)
        clear hr hb ih hst hd
        go_enter Tryz.func85, Tryz.ntmps85
        go_wp2_with fail
        refine HT.out.mono ?_
        rintro e w1 ⟨v, rfl, hg⟩
        exact ⟨rfl, v, rfl, hg⟩
      · have HT := Lib.hid (iTake_is hs hlt hc hr (al := st) (by rw [hst, hc, hb]))
        have HIH := Lib.hid ih
        by_cases e33 : c = 33
        · subst e33
          rw [read_no33]
          rcases h1 : readS t k ((bytesN s).drop (at_ + 1)) with _ | ⟨x, rest⟩
          · show Calls _ _ _ _ (Panics R w)
            have HH := Lib.hid h1
            clear hr hb ih hst hd h1
            go_enter Tryz.func85, Tryz.ntmps85
            go_wp2_with fail
            refine HT.out.mono ?_
            rintro e w1 ⟨rfl, hr1, hg⟩
            have HI := Lib.hid (reads_none HIH.out hr1 (by omega) (by omega) HH.out)
            have HG := Lib.hid hg
            clear hr1 hg
            go_wp2_with fail
            refine HI.out.mono ?_
            rintro e w2 ⟨v, rfl, hg2⟩
            exact ⟨rfl, v, rfl, HG.out.trans hg2⟩
          · show Calls _ _ _ _ (ReadSome R s st (.no x) rest w)
            have HH := Lib.hid h1
            clear hr hb ih hst hd h1
            go_enter Tryz.func85, Tryz.ntmps85
            go_wp2_with fail
            refine HT.out.mono ?_
            rintro e w1 ⟨rfl, hr1, hg⟩
            have HI := Lib.hid (reads_some HIH.out hr1 (by omega) (by omega) HH.out)
            have HG := Lib.hid hg
            clear hr1 hg
            go_wp2_with fail
            refine HI.out.mono ?_
            rintro e w2 ⟨p, a2, rfl, hle2, hd2, hr2, hn2, hg2⟩
            have HN2 := Lib.hid (SenAt.low HG.out.size x p hn2)
            have HG2 := Lib.hid (HG.out.trans hg2)
            have HR2 := Lib.hid hr2
            have HD2 := Lib.hid hd2
            clear hd2 hr2 hn2 hg2
            go_wp2_with fail
            go_ret
            have hb : Below w2.heap.size w2 (w2.alloc (.cells #[.int .u8 33, .pointer p, .pointer none] 133)) := (Below.refl _ _).alloc (Nat.le_refl _) _
            exact ⟨_, a2, rfl, hle2, HD2.out, rdr_alloc HR2.out _, ⟨_, p, rfl, HG2.out.size, node_new _ 33 _ _, HN2.out.below hb⟩, grown_alloc HG2.out _⟩
        by_cases e63 : c = 63
        · subst e63
          rw [read_ask63]
          rcases h1 : readS t k ((bytesN s).drop (at_ + 1)) with _ | ⟨x, rest⟩
          · show Calls _ _ _ _ (Panics R w)
            have HH := Lib.hid h1
            clear hr hb ih hst hd h1
            go_enter Tryz.func85, Tryz.ntmps85
            go_wp2_with fail
            refine HT.out.mono ?_
            rintro e w1 ⟨rfl, hr1, hg⟩
            have HI := Lib.hid (reads_none HIH.out hr1 (by omega) (by omega) HH.out)
            have HG := Lib.hid hg
            clear hr1 hg
            go_wp2_with fail
            refine HI.out.mono ?_
            rintro e w2 ⟨v, rfl, hg2⟩
            exact ⟨rfl, v, rfl, HG.out.trans hg2⟩
          · show Calls _ _ _ _ (ReadSome R s st (.ask x) rest w)
            have HH := Lib.hid h1
            clear hr hb ih hst hd h1
            go_enter Tryz.func85, Tryz.ntmps85
            go_wp2_with fail
            refine HT.out.mono ?_
            rintro e w1 ⟨rfl, hr1, hg⟩
            have HI := Lib.hid (reads_some HIH.out hr1 (by omega) (by omega) HH.out)
            have HG := Lib.hid hg
            clear hr1 hg
            go_wp2_with fail
            refine HI.out.mono ?_
            rintro e w2 ⟨p, a2, rfl, hle2, hd2, hr2, hn2, hg2⟩
            have HN2 := Lib.hid (SenAt.low HG.out.size x p hn2)
            have HG2 := Lib.hid (HG.out.trans hg2)
            have HR2 := Lib.hid hr2
            have HD2 := Lib.hid hd2
            clear hd2 hr2 hn2 hg2
            go_wp2_with fail
            go_ret
            have hb : Below w2.heap.size w2 (w2.alloc (.cells #[.int .u8 63, .pointer p, .pointer none] 133)) := (Below.refl _ _).alloc (Nat.le_refl _) _
            exact ⟨_, a2, rfl, hle2, HD2.out, rdr_alloc HR2.out _, ⟨_, p, rfl, HG2.out.size, node_new _ 63 _ _, HN2.out.below hb⟩, grown_alloc HG2.out _⟩
        by_cases e40 : c = 40
        · subst e40
          rw [read_pair40]
          rcases h1 : pairS t k ((bytesN s).drop (at_ + 1)) with _ | ⟨x, rest⟩
          · show Calls _ _ _ _ (Panics R w)
            have HH := Lib.hid h1
            clear hr hb ih hst hd h1
            go_enter Tryz.func85, Tryz.ntmps85
            go_wp2_with fail
            refine HT.out.mono ?_
            rintro e w1 ⟨rfl, hr1, hg⟩
            have hp := iPair t k R s st hs HIH.out (at_ + 1) w1 hr1 (by omega) (by omega)
            rw [HH.out] at hp
            have HI : Hid (Calls Tryz.prog 108 #[.pointer (some ⟨R, 0, none⟩)] w1 (Panics R w1)) := hp
            have HG := Lib.hid hg
            clear hr1 hg hp
            go_wp2_with fail
            refine HI.out.mono ?_
            rintro e w2 ⟨v, rfl, hg2⟩
            exact ⟨rfl, v, rfl, HG.out.trans hg2⟩
          · show Calls _ _ _ _ (ReadSome R s st x rest w)
            have HH := Lib.hid h1
            clear hr hb ih hst hd h1
            go_enter Tryz.func85, Tryz.ntmps85
            go_wp2_with fail
            refine HT.out.mono ?_
            rintro e w1 ⟨rfl, hr1, hg⟩
            have hp := iPair t k R s st hs HIH.out (at_ + 1) w1 hr1 (by omega) (by omega)
            rw [HH.out] at hp
            have HI : Hid (Calls Tryz.prog 108 #[.pointer (some ⟨R, 0, none⟩)] w1 (ReadSome R s st x rest w1)) := hp
            have HG := Lib.hid hg
            clear hr1 hg hp
            go_wp2_with fail
            refine HI.out.mono ?_
            rintro e w2 ⟨p, a2, rfl, hle2, hd2, hr2, hn2, hg2⟩
            have HN2 := Lib.hid (SenAt.low HG.out.size x p hn2)
            have HG2 := Lib.hid (HG.out.trans hg2)
            have HR2 := Lib.hid hr2
            have HD2 := Lib.hid hd2
            clear hd2 hr2 hn2 hg2
            go_wp2_with fail
            go_ret
            exact ⟨p, a2, rfl, hle2, HD2.out, HR2.out, HN2.out, HG2.out⟩
        · obtain ⟨x, hx1, hx2⟩ := word_of hb e33 e63 e40
          rw [hx1]
          show Calls _ _ _ _ (ReadSome R s st x _ w)
          have HX := Lib.hid hx2
          have h33 : ((c : Int) == 33) = false := by rw [beq_eq_false_iff_ne]; omega
          have h63 : ((c : Int) == 63) = false := by rw [beq_eq_false_iff_ne]; omega
          have h40 : ((c : Int) == 40) = false := by rw [beq_eq_false_iff_ne]; omega
          clear hr hb ih hst hd hx1 hx2 e33 e63 e40
          go_enter Tryz.func85, Tryz.ntmps85
          go_wp2_with fail
          refine HT.out.mono ?_
          rintro e w1 ⟨rfl, hr1, hg⟩
          have HG := Lib.hid hg
          have HR1 := Lib.hid hr1
          clear hr1 hg
          go_wp2_with fail
          go_ret
          exact ⟨_, at_ + 1, rfl, by omega, rfl, rdr_alloc HR1.out _, HX.out _ _ _ HG.out.size (node_new _ c none none), grown_alloc HG.out _⟩
    · obtain rfl : at_ = s.size := by omega
      have HT := Lib.hid (iTake_end R s st st w hs hr)
      rw [List.drop_eq_nil_of_le (by rw [bytesN_len]; omega), read_empty]
      show Calls _ _ _ _ (Panics R w)
      clear hr ih hst
      go_enter Tryz.func85, Tryz.ntmps85
      go_wp2_with fail
      refine HT.out.mono ?_
      rintro e w1 ⟨v, rfl, hg⟩
      exact ⟨rfl, v, rfl, hg⟩
end Go.Proofs.YtmdogidflaplkaaGreat
