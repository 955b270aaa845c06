/-
  What the proofs of this seat's statements share (LdsR).
-/
import Derived.Test.YtjilcnehndmoaaaU19
import Derived.Test.YtjilcnehndmoaaaU12

namespace Go.Proofs.Ytjilcnehndmoaaa
open Go.RowKit

def VR (t v : Int) : Prop := -1 ≤ v ∧ v ≤ allOf t
def DNone (w : World) (e : Ending) (w' : World) : Prop := e = .returned (.tuple #[.int .i64 (-1), .int .i64 (-1)]) ∧ ∃ n, w' = w.drewN n
def DSome (t : Int) (s : ByteArray) (x : Ld) (rest : List Nat) (v : Int) (w : World) (e : Ending) (w' : World) : Prop :=
  ∃ (u : Int) (a2 : Nat), e = .returned (.tuple #[.int .i64 u, .int .i64 a2]) ∧ Hid (valV t x v = u) ∧ VR t u ∧ u ≤ max v (-1) ∧ a2 ≤ s.size ∧ (bytesN s).drop a2 = rest ∧ ∃ n, w' = w.drewN n
def DRead (t : Int) (s : ByteArray) (o : Option (Ld × List Nat)) (v : Int) (w : World) (e : Ending) (w' : World) : Prop :=
  match o with
  | some (x, rest) => DSome t s x rest v w e w'
  | none => DNone w e w'
theorem VR.lt {t v : Int} (h : VR t v) : -1 ≤ v ∧ v < 256 := ⟨h.1, by have := (allOf_lt t).2; have := h.2; omega⟩
theorem DSome.of {t : Int} {s : ByteArray} {x : Ld} {rest : List Nat} {v u : Int} {a2 : Nat} {w w' : World} (hv : VR t v) (h : valV t x v = u) (ha : a2 ≤ s.size) (hd : (bytesN s).drop a2 = rest) (hw : ∃ n, w' = w.drewN n) :
    DSome t s x rest v w (.returned (.tuple #[.int .i64 u, .int .i64 a2])) w' := by
  have hr := val_range t x (v := v) hv.lt.2
  rw [h] at hr
  have := (allOf_lt t).1
  have := hv.1
  have := hv.2
  exact ⟨u, a2, rfl, h, ⟨hr.1, by omega⟩, hr.2, ha, hd, hw⟩
theorem DSome.one {t : Int} {s : ByteArray} {x : Ld} {v u : Int} {at_ : Nat} {w w' : World} (hv : VR t v) (h : valV t x v = u) (hat : at_ < s.size) (hw : ∃ n, w' = w.drewN n) {b : Int} (hb : b = (at_ : Int) + 1) :
    DSome t s x ((bytesN s).drop (at_ + 1)) v w (.returned (.tuple #[.int .i64 u, .int .i64 b])) w' := by
  obtain rfl : b = ((at_ + 1 : Nat) : Int) := by omega
  exact DSome.of hv h (by omega) rfl hw

set_option maxRecDepth 100000 in
set_option maxHeartbeats 4000000 in
theorem sLd_end (t : Int) (s : ByteArray) (at_ : Nat) (v : Int) (w : World) (_hs : s.size ≤ 1048576) (hat : s.size ≤ at_) : Calls Try.prog 39 #[.int .i64 t, .int .i64 v, .string s, .int .i64 at_] w (DNone w) := by
  have hd : (s.size : Int) ≤ (at_ : Int) := by omega
  go_enter Try.func39, Try.ntmps39
  go_wp2_with fail
  go_ret2
  exact ⟨rfl, 0, rfl⟩

set_option maxRecDepth 100000 in
set_option maxHeartbeats 4000000 in
theorem sLd_one (t : Int) (s : ByteArray) (at_ : Nat) (v : Int) (w : World) (hs : s.size ≤ 1048576) (hv : VR t v) (hat : at_ < s.size) (hc : s[at_].toNat = 49) :
    Calls Try.prog 39 #[.int .i64 t, .int .i64 v, .string s, .int .i64 at_] w (DSome t s .one ((bytesN s).drop (at_ + 1)) v w) := by
  have hd : (at_ : Int) < (s.size : Int) := by omega
  have hd0 : (0 : Int) ≤ (at_ : Int) := by omega
  go_enter Try.func39, Try.ntmps39
  go_wp2_with fail
  go_ret2
  exact DSome.one hv (val_one hv.1) hat ⟨0, rfl⟩ (by omega)

set_option maxRecDepth 100000 in
set_option maxHeartbeats 4000000 in
theorem sLd_zero (t : Int) (s : ByteArray) (at_ : Nat) (v : Int) (w : World) (hs : s.size ≤ 1048576) (hv : VR t v) (hat : at_ < s.size) (hc : s[at_].toNat = 48) :
    Calls Try.prog 39 #[.int .i64 t, .int .i64 v, .string s, .int .i64 at_] w (DSome t s .zero ((bytesN s).drop (at_ + 1)) v w) := by
  have hd : (at_ : Int) < (s.size : Int) := by omega
  have hd0 : (0 : Int) ≤ (at_ : Int) := by omega
  have HV := Lib.hid (val_zero (t := t) hv.1)
  have HH := Lib.hid hv
  clear hv
  go_enter Try.func39, Try.ntmps39
  go_wp2_with fail
  all_goals
    go_ret2
    exact DSome.one HH.out (HV.out.trans (by first | rfl | omega)) hat ⟨0, rfl⟩ (by omega)

set_option maxRecDepth 100000 in
set_option maxHeartbeats 4000000 in
theorem sLd_bad (t : Int) (s : ByteArray) (at_ : Nat) (v : Int) (w : World) (_hs : s.size ≤ 1048576) (_hv : VR t v) (hat : at_ < s.size) (hb : startD t s[at_].toNat = false) :
    Calls Try.prog 39 #[.int .i64 t, .int .i64 v, .string s, .int .i64 at_] w (DNone w) := by
  have hd : (at_ : Int) < (s.size : Int) := by omega
  have hd0 : (0 : Int) ≤ (at_ : Int) := by omega
  obtain ⟨c, hc⟩ : ∃ c, s[at_].toNat = c := ⟨_, rfl⟩
  have hc256 : c < 256 := by rw [← hc]; exact UInt8.toNat_lt _
  rw [hc] at hb
  unfold startD at hb
  simp only [Bool.or_eq_false_iff, decide_eq_false_iff_not] at hb
  have e49 : ((c : Int) == 49) = false := by rw [beq_eq_false_iff_ne]; omega
  have e48 : ((c : Int) == 48) = false := by rw [beq_eq_false_iff_ne]; omega
  have e33 : ((c : Int) == 33) = false := by rw [beq_eq_false_iff_ne]; omega
  have e91 : ((c : Int) == 91) = false := by rw [beq_eq_false_iff_ne]; omega
  have e40 : ((c : Int) == 40) = false := by rw [beq_eq_false_iff_ne]; omega
  skip
  by_cases h97 : 97 ≤ c
  · have h97i : (97 : Int) ≤ (c : Int) := by omega
    have ht : t ≤ (c : Int) - 97 := by omega
    have hdt : decide ((c : Int) - 97 < t) = false := decide_eq_false (by omega)
    clear hb
    go_enter Try.func39, Try.ntmps39
    go_wp2_with fail
    go_ret2
    exact ⟨rfl, 0, rfl⟩
  · have h97i : decide ((97 : Int) ≤ (c : Int)) = false := decide_eq_false (by omega)
    clear hb
    go_enter Try.func39, Try.ntmps39
    go_wp2_with fail
    go_ret2
    exact ⟨rfl, 0, rfl⟩

set_option maxRecDepth 100000 in
set_option maxHeartbeats 4000000 in
theorem sLd_no_none (t : Int) (s : ByteArray) (at_ : Nat) (v : Int) (w : World) (hs : s.size ≤ 1048576) (_hv : VR t v) (hat : at_ < s.size) (hc : s[at_].toNat = 33) (hi : ∀ W, Calls Try.prog 39 #[.int .i64 t, .int .i64 v, .string s, .int .i64 ((at_ + 1 : Nat) : Int)] W (DNone W)) :
    Calls Try.prog 39 #[.int .i64 t, .int .i64 v, .string s, .int .i64 at_] w (DNone w) := by
  have hd : (at_ : Int) < (s.size : Int) := by omega
  have hd0 : (0 : Int) ≤ (at_ : Int) := by omega
  have HI := Lib.hid hi
  clear hi
  go_enter Try.func39, Try.ntmps39
  go_wp2_with fail
  refine (HI.out _).mono ?_
  rintro e w1 ⟨rfl, q, rfl⟩
  go_wp2_with fail
  go_ret2
  exact ⟨rfl, _, rfl⟩

set_option maxRecDepth 100000 in
set_option maxHeartbeats 4000000 in
theorem sLd_no (t : Int) (s : ByteArray) (at_ : Nat) (v : Int) (w : World) (hs : s.size ≤ 1048576) (hv : VR t v) (hat : at_ < s.size) (hc : s[at_].toNat = 33) (x : Ld) (rest : List Nat) (hi : ∀ W, Calls Try.prog 39 #[.int .i64 t, .int .i64 v, .string s, .int .i64 ((at_ + 1 : Nat) : Int)] W (DSome t s x rest v W)) :
    Calls Try.prog 39 #[.int .i64 t, .int .i64 v, .string s, .int .i64 at_] w (DSome t s (.no x) rest v w) := by
  have hd : (at_ : Int) < (s.size : Int) := by omega
  have hd0 : (0 : Int) ≤ (at_ : Int) := by omega
  have HI := Lib.hid hi
  have hv2 := hv.lt
  have HH := Lib.hid hv
  have HV := Lib.hid (val_no (t := t) (x := x) hv2.2)
  clear hi hv
  go_enter Try.func39, Try.ntmps39
  go_wp2_with fail
  refine (HI.out _).mono ?_
  rintro e w1 ⟨u, a2, rfl, HU, hu, hu2, ha2, hdr, q, rfl⟩
  have HD := Lib.hid hdr
  have hu3 := hu.lt
  replace HV := Lib.hid HV.out
  rw [HU.out] at HV
  have hu4 := hu2
  clear hu hdr hu2
  by_cases hneg : u < 0
  · have HV2 : Hid (valV t (.no x) v = -1) := by have := HV.out; rw [if_pos hneg] at this; exact this
    clear HV
    go_wp2_with fail
    go_ret2
    exact DSome.of HH.out HV2.out ha2 HD.out ⟨_, rfl⟩
  · have HV2 : Hid (valV t (.no x) v = v - u) := by have := HV.out; rw [if_neg hneg] at this; exact this
    have hge : 0 ≤ u := by omega
    clear HV
    go_wp2_with fail
    go_ret2
    exact DSome.of HH.out HV2.out ha2 HD.out ⟨_, rfl⟩

set_option maxRecDepth 100000 in
set_option maxHeartbeats 4000000 in
theorem sLd_pre_none (t : Int) (s : ByteArray) (at_ : Nat) (v : Int) (w : World) (hs : s.size ≤ 1048576) (_hv : VR t v) (hat : at_ < s.size) (hc : s[at_].toNat = 91) (hi : ∀ W, Calls Try.prog 39 #[.int .i64 t, .int .i64 v, .string s, .int .i64 ((at_ + 1 : Nat) : Int)] W (DNone W)) :
    Calls Try.prog 39 #[.int .i64 t, .int .i64 v, .string s, .int .i64 at_] w (DNone w) := by
  have hd : (at_ : Int) < (s.size : Int) := by omega
  have hd0 : (0 : Int) ≤ (at_ : Int) := by omega
  have HI := Lib.hid hi
  clear hi
  go_enter Try.func39, Try.ntmps39
  go_wp2_with fail
  refine (HI.out _).mono ?_
  rintro e w1 ⟨rfl, q, rfl⟩
  go_wp2_with fail
  go_ret2
  exact ⟨rfl, _, rfl⟩

set_option maxRecDepth 100000 in
set_option maxHeartbeats 4000000 in
theorem sLd_pre_end (t : Int) (s : ByteArray) (at_ : Nat) (v : Int) (w : World) (hs : s.size ≤ 1048576) (_hv : VR t v) (hat : at_ < s.size) (hc : s[at_].toNat = 91) (x : Ld) (hi : ∀ W, Calls Try.prog 39 #[.int .i64 t, .int .i64 v, .string s, .int .i64 ((at_ + 1 : Nat) : Int)] W (DSome t s x [] v W)) :
    Calls Try.prog 39 #[.int .i64 t, .int .i64 v, .string s, .int .i64 at_] w (DNone w) := by
  have hd : (at_ : Int) < (s.size : Int) := by omega
  have hd0 : (0 : Int) ≤ (at_ : Int) := by omega
  have HI := Lib.hid hi
  clear hi
  go_enter Try.func39, Try.ntmps39
  go_wp2_with fail
  refine (HI.out _).mono ?_
  rintro e w1 ⟨u, a2, rfl, HU, hu, hu2, ha2, hdr, q, rfl⟩
  have hu3 := hu.lt
  obtain rfl := drop_end hdr ha2
  clear hdr hu hu2
  go_wp2_with fail
  go_ret2
  exact ⟨rfl, _, rfl⟩

set_option maxRecDepth 100000 in
set_option maxHeartbeats 4000000 in
theorem sLd_pair_none (t : Int) (s : ByteArray) (at_ : Nat) (v : Int) (w : World) (hs : s.size ≤ 1048576) (_hv : VR t v) (hat : at_ < s.size) (hc : s[at_].toNat = 40) (hi : ∀ W, Calls Try.prog 39 #[.int .i64 t, .int .i64 v, .string s, .int .i64 ((at_ + 1 : Nat) : Int)] W (DNone W)) :
    Calls Try.prog 39 #[.int .i64 t, .int .i64 v, .string s, .int .i64 at_] w (DNone w) := by
  have hd : (at_ : Int) < (s.size : Int) := by omega
  have hd0 : (0 : Int) ≤ (at_ : Int) := by omega
  have HI := Lib.hid hi
  clear hi
  go_enter Try.func39, Try.ntmps39
  go_wp2_with fail
  refine (HI.out _).mono ?_
  rintro e w1 ⟨rfl, q, rfl⟩
  go_wp2_with fail
  go_ret2
  exact ⟨rfl, _, rfl⟩

set_option maxRecDepth 100000 in
set_option maxHeartbeats 4000000 in
theorem sLd_pair_end (t : Int) (s : ByteArray) (at_ : Nat) (v : Int) (w : World) (hs : s.size ≤ 1048576) (_hv : VR t v) (hat : at_ < s.size) (hc : s[at_].toNat = 40) (x : Ld) (hi : ∀ W, Calls Try.prog 39 #[.int .i64 t, .int .i64 v, .string s, .int .i64 ((at_ + 1 : Nat) : Int)] W (DSome t s x [] v W)) :
    Calls Try.prog 39 #[.int .i64 t, .int .i64 v, .string s, .int .i64 at_] w (DNone w) := by
  have hd : (at_ : Int) < (s.size : Int) := by omega
  have hd0 : (0 : Int) ≤ (at_ : Int) := by omega
  have HI := Lib.hid hi
  clear hi
  go_enter Try.func39, Try.ntmps39
  go_wp2_with fail
  refine (HI.out _).mono ?_
  rintro e w1 ⟨u, a2, rfl, HU, hu, hu2, ha2, hdr, q, rfl⟩
  have hu3 := hu.lt
  obtain rfl := drop_end hdr ha2
  clear hdr hu hu2
  go_wp2_with fail
  go_ret2
  exact ⟨rfl, _, rfl⟩

set_option maxRecDepth 100000 in
set_option maxHeartbeats 4000000 in
theorem sLd_pre_open (t : Int) (s : ByteArray) (at_ : Nat) (v : Int) (w : World) (hs : s.size ≤ 1048576) (_hv : VR t v) (hat : at_ < s.size) (hc : s[at_].toNat = 91) (x : Ld) (m : Nat) (l : List Nat) (hi : ∀ W, Calls Try.prog 39 #[.int .i64 t, .int .i64 v, .string s, .int .i64 ((at_ + 1 : Nat) : Int)] W (DSome t s x (m :: l) v W)) (hm : m ≠ 93) :
    Calls Try.prog 39 #[.int .i64 t, .int .i64 v, .string s, .int .i64 at_] w (DNone w) := by
  have hd : (at_ : Int) < (s.size : Int) := by omega
  have hd0 : (0 : Int) ≤ (at_ : Int) := by omega
  have HI := Lib.hid hi
  have e1 : ((m : Int) == 93) = false := by rw [beq_eq_false_iff_ne]; omega
  have e2 : ((m : Int) != 93) = true := by rw [bne, e1]; rfl
  clear hi hm
  go_enter Try.func39, Try.ntmps39
  go_wp2_with fail
  refine (HI.out _).mono ?_
  rintro e w1 ⟨u, a2, rfl, HU, hu, hu2, ha2, hdr, q, rfl⟩
  have hu3 := hu.lt
  obtain ⟨hlt, hm, hl⟩ := drop_lt hdr
  have hd3 : (a2 : Int) < (s.size : Int) := by omega
  have hd4 : (0 : Int) ≤ (a2 : Int) := by omega
  clear hdr hl hu hu2
  go_wp2_with fail
  go_ret2
  exact ⟨rfl, _, rfl⟩

set_option maxRecDepth 100000 in
set_option maxHeartbeats 4000000 in
theorem sLd_pre_no (t : Int) (s : ByteArray) (at_ : Nat) (v : Int) (w : World) (hs : s.size ≤ 1048576) (hv : VR t v) (hat : at_ < s.size) (hc : s[at_].toNat = 91) (x : Ld) (l : List Nat) (hi : ∀ W, Calls Try.prog 39 #[.int .i64 t, .int .i64 v, .string s, .int .i64 ((at_ + 1 : Nat) : Int)] W (DSome t s x (93 :: l) v W)) (hi2 : ∀ (a2 : Nat) (u : Int) W, VR t u → a2 ≤ s.size → (bytesN s).drop a2 = l → Calls Try.prog 39 #[.int .i64 t, .int .i64 u, .string s, .int .i64 a2] W (DNone W)) :
    Calls Try.prog 39 #[.int .i64 t, .int .i64 v, .string s, .int .i64 at_] w (DNone w) := by
  have hd : (at_ : Int) < (s.size : Int) := by omega
  have hd0 : (0 : Int) ≤ (at_ : Int) := by omega
  have HI := Lib.hid hi
  have HI2 := Lib.hid hi2
  have hv2 := hv.lt
  have HH := Lib.hid hv
  clear hi hi2 hv
  go_enter Try.func39, Try.ntmps39
  go_wp2_with fail
  refine (HI.out _).mono ?_
  rintro e w1 ⟨u, a2, rfl, HU, hu, hu2, ha2, hdr, q, rfl⟩
  have hu3 := hu.lt
  obtain ⟨hlt, hm, hl⟩ := drop_lt hdr
  have HC2 := Lib.hid (fun u W h => HI2.out (a2 + 1) u W h hlt hl)
  have HVU := Lib.hid hu
  have hd3 : (a2 : Int) < (s.size : Int) := by omega
  have hd4 : (0 : Int) ≤ (a2 : Int) := by omega
  clear hdr hl hu
  by_cases hne : u = v
  · subst hne
    have hbb : (u != u) = false := by simp
    go_wp2_with fail
    refine (HC2.out _ _ HH.out).mono ?_
    rintro e w2 ⟨rfl, q2, rfl⟩
    go_wp2_with fail
    go_ret2
    exact ⟨rfl, _, by first | rfl | rw [World.drewN_drewN]⟩
  · have hbb : (u != v) = true := by simp [hne]
    have hbe : (u == v) = false := by rw [beq_eq_false_iff_ne]; exact hne
    clear hne
    go_wp2_with fail
    refine (HC2.out _ _ HH.out).mono ?_
    rintro e w2 ⟨rfl, q2, rfl⟩
    go_wp2_with fail
    go_ret2
    exact ⟨rfl, _, by first | rfl | rw [World.drewN_drewN]⟩

set_option maxRecDepth 100000 in
set_option maxHeartbeats 4000000 in
theorem sLd_pre (t : Int) (s : ByteArray) (at_ : Nat) (v : Int) (w : World) (hs : s.size ≤ 1048576) (hv : VR t v) (hat : at_ < s.size) (hc : s[at_].toNat = 91) (x y : Ld) (l rest : List Nat) (hi : ∀ W, Calls Try.prog 39 #[.int .i64 t, .int .i64 v, .string s, .int .i64 ((at_ + 1 : Nat) : Int)] W (DSome t s x (93 :: l) v W)) (hi2 : ∀ (a2 : Nat) (u : Int) W, VR t u → a2 ≤ s.size → (bytesN s).drop a2 = l → Calls Try.prog 39 #[.int .i64 t, .int .i64 u, .string s, .int .i64 a2] W (DSome t s y rest u W)) :
    Calls Try.prog 39 #[.int .i64 t, .int .i64 v, .string s, .int .i64 at_] w (DSome t s (.pre x y) rest v w) := by
  have hd : (at_ : Int) < (s.size : Int) := by omega
  have hd0 : (0 : Int) ≤ (at_ : Int) := by omega
  have HI := Lib.hid hi
  have HI2 := Lib.hid hi2
  have hv2 := hv.lt
  have HH := Lib.hid hv
  have HV := Lib.hid (val_pre (t := t) (x := x) (y := y) hv.1)
  clear hi hi2 hv
  go_enter Try.func39, Try.ntmps39
  go_wp2_with fail
  refine (HI.out _).mono ?_
  rintro e w1 ⟨u, a2, rfl, HU, hu, hu2, ha2, hdr, q, rfl⟩
  have hu3 := hu.lt
  obtain ⟨hlt, hm, hl⟩ := drop_lt hdr
  have HC2 := Lib.hid (fun u W h => HI2.out (a2 + 1) u W h hlt hl)
  have HVU := Lib.hid hu
  have hd3 : (a2 : Int) < (s.size : Int) := by omega
  have hd4 : (0 : Int) ≤ (a2 : Int) := by omega
  clear hdr hl hu
  rw [HU.out] at HV
  by_cases hne : u = v
  · subst hne
    have hbb : (u != u) = false := by simp
    have HV2 : Hid (valV t (.pre x y) u = valV t y u) := by have := HV.out; rw [if_pos rfl] at this; exact this
    clear HV
    go_wp2_with fail
    refine (HC2.out _ _ HH.out).mono ?_
    rintro e w2 ⟨u2, a3, rfl, HU2, _, _, ha3, hdr3, q2, rfl⟩
    have HD := Lib.hid hdr3
    clear hdr3
    go_wp2_with fail
    go_ret2
    exact DSome.of HH.out (HV2.out.trans HU2.out) ha3 HD.out ⟨_, by first | rfl | rw [World.drewN_drewN]⟩
  · have hbb : (u != v) = true := by simp [hne]
    have hbe : (u == v) = false := by rw [beq_eq_false_iff_ne]; exact hne
    have HV2 : Hid (valV t (.pre x y) v = -1) := by have := HV.out; rw [if_neg hne] at this; exact this
    clear hne HV
    go_wp2_with fail
    refine (HC2.out _ _ HH.out).mono ?_
    rintro e w2 ⟨u2, a3, rfl, HU2, _, _, ha3, hdr3, q2, rfl⟩
    have HD := Lib.hid hdr3
    clear hdr3
    go_wp2_with fail
    go_ret2
    exact DSome.of HH.out HV2.out ha3 HD.out ⟨_, by first | rfl | rw [World.drewN_drewN]⟩

end Go.Proofs.Ytjilcnehndmoaaa
