/-
  What the proofs of this seat's statements share (PlnS, PlnT, PlnU, PlnV, PlnW, PlnX, PlnY).
-/
import Derived.Test.YtpjpbemgjniljaaU13
import Derived.Test.YtpjpbemgjniljaaU6
import Derived.Test.YtpjpbemgjniljaaU10
import Derived.Test.YtpjpbemgjniljaaU4

namespace Go.Proofs.Ytpjpbemgjniljaa
open Go.RowKit

def ok7 (t : Int) (asks issue : List Int) (s : Int) : Bool := asks.all (setOkB t) && decide (asks.length ≤ 5) && issueOkB t issue && setOkB t s
theorem all_next {t x : Int} {xs : List Int} {k : Nat} (hx : Hid (xs[k]? = some x)) : (xs.take (k + 1)).all (setOkB t) = ((xs.take k).all (setOkB t) && setOkB t x) := by rw [take_snoc hx, List.all_append]; simp
set_option maxRecDepth 100000 in
set_option maxHeartbeats 4000000 in
theorem sOk7 (t : Int) (A B : Option Addr) (na ca nb cb : Nat) (asks issue : List Int) (s : Int) (w : World) (ha : Row w A na ca asks) (hb : Row w B nb cb issue) :
    Calls Try.prog 29 #[.int .i64 t, .slice A na ca, .slice B nb cb, .int .i64 s] w fun e w' => e = .returned (.bool (ok7 t asks issue s)) ∧ ∃ n, w' = w.drewN n := by
  have HA := Lib.hid ha
  have HB := Lib.hid hb
  obtain rfl := ha.hn
  have hla := ha.hl
  clear ha hb
  obtain ⟨res, HRES⟩ : ∃ r, Hid (ok7 t asks issue s = r) := ⟨_, rfl⟩
  rw [HRES.out]
  have HNO : Hid (∀ x, x ∈ asks → Hid (setOkB t x = false) → Hid (res = false)) := fun x hx h => by
    unfold Hid
    rw [← HRES.out]
    unfold ok7
    have : asks.all (setOkB t) = false := by
      rw [List.all_eq_false]
      exact ⟨x, hx, by rw [h.out]; simp⟩
    rw [this]; rfl
  have HEND : Hid (asks.all (setOkB t) = true → Hid (res = (decide (asks.length ≤ 5) && issueOkB t issue && setOkB t s))) := fun h => by
    unfold Hid
    rw [← HRES.out]
    unfold ok7
    rw [h, Bool.true_and]
  go_enter Try.func29, Try.ntmps29
  go_wp2_with fail
  go_loopw [9] (fun i wr => ∃ k : Nat, k ≤ asks.length ∧ i = .int .i64 k ∧ Hid ((asks.take k).all (setOkB t) = true) ∧ ∃ q, wr = w.drewN q) (fun i _ => asks.length - (Go.RowKit.intOf i).toNat)
  case atStart => exact ⟨0, Nat.zero_le _, rfl, rfl, 0, rfl⟩
  case round =>
    obtain ⟨k, hk, rfl, hall, q0, rfl⟩ := hrel
    by_cases hlt : k < asks.length
    · obtain ⟨b, off, x, rfl, hcell, hx, _⟩ := HA.out.hA.elem hlt
      have hn := all_next (t := t) hx
      rw [hall.out, Bool.true_and] at hn
      obtain ⟨y, HY⟩ : ∃ y, Hid (setOkB t x = y) := ⟨_, rfl⟩
      rw [HY.out] at hn
      cases y
      · have HR := HNO.out x (elem_mem hx) HY
        clear hn
        go_wp2_with fail
        refine (sSetOk_is HY _).mono ?_
        rintro e w' ⟨rfl, rfl⟩
        go_wp2_with fail
        go_ret
        exact ⟨ret_bool HR.out.symm, _, by first | rfl | rw [World.drewN_drewN]⟩
      · have HN := Lib.hid hn
        clear hn
        go_wp2_with fail
        refine (sSetOk_is HY _).mono ?_
        rintro e w' ⟨rfl, rfl⟩
        go_wp2_with fail
        go_roundw
        case rel => exact ⟨k + 1, by omega, by go_num, HN, _, rfl⟩
        case measure => simp [Go.RowKit.intOf]; omega
    · obtain rfl : k = asks.length := by omega
      have HE := HEND.out (by have h := hall.out; rw [List.take_length] at h; exact h)
      obtain ⟨b, HIB⟩ : ∃ b, Hid (issueOkB t issue = b) := ⟨_, rfl⟩
      obtain ⟨d, HID⟩ : ∃ d, Hid (setOkB t s = d) := ⟨_, rfl⟩
      have he := HE.out
      rw [HIB.out, HID.out] at he
      by_cases h5 : asks.length ≤ 5
      · rw [decide_eq_true h5, Bool.true_and] at he
        have hd5 : decide ((asks.length : Int) ≤ 5) = true := decide_eq_true (by omega)
        cases b
        · have HF : Hid (res = false) := he
          clear he
          go_wp2_with fail
          refine (sIssueOk_is HIB _ _ _ _ HB.out.hn HB.out.hl (HB.out.hA.drewN _)).mono ?_
          rintro e w' ⟨rfl, q, rfl⟩
          go_wp2_with fail
          go_ret
          exact ⟨ret_bool HF.out.symm, _, by first | rfl | rw [World.drewN_drewN]⟩
        · have HF : Hid (res = d) := by rw [Bool.true_and] at he; exact he
          clear he
          go_wp2_with fail
          refine (sIssueOk_is HIB _ _ _ _ HB.out.hn HB.out.hl (HB.out.hA.drewN _)).mono ?_
          rintro e w' ⟨rfl, q, rfl⟩
          go_wp2_with fail
          refine (sSetOk_is HID _).mono ?_
          rintro e w' ⟨rfl, rfl⟩
          go_wp2_with fail
          go_ret
          exact ⟨ret_bool HF.out.symm, _, by first | rfl | rw [World.drewN_drewN]⟩
      · rw [decide_eq_false h5, Bool.false_and, Bool.false_and] at he
        have hd5 : decide ((asks.length : Int) ≤ 5) = false := decide_eq_false (by omega)
        have HF : Hid (res = false) := he
        clear he
        go_wp2_with fail
        go_ret
        exact ⟨ret_bool HF.out.symm, _, by first | rfl | rw [World.drewN_drewN]⟩

/-- What following a plan at a place of a text tells. -/
def SWalk (s : ByteArray) (o : Option (Nat × List Nat)) (w : World) (e : Ending) (w' : World) : Prop :=
  match o with
  | some (d, rest) => ∃ a2 : Nat, e = .returned (.tuple #[.int .i64 d, .int .i64 a2]) ∧ a2 ≤ s.size ∧ (bytesN s).drop a2 = rest ∧ ∃ n, w' = w.drewN n
  | none => e = .returned (.tuple #[.int .i64 0, .int .i64 (-1)]) ∧ ∃ n, w' = w.drewN n
def SNo (w : World) (e : Ending) (w' : World) : Prop := e = .returned (.tuple #[.int .i64 0, .int .i64 (-1)]) ∧ ∃ n, w' = w.drewN n
def SYes (s : ByteArray) (d : Nat) (rest : List Nat) (w : World) (e : Ending) (w' : World) : Prop := ∃ a2 : Nat, e = .returned (.tuple #[.int .i64 d, .int .i64 a2]) ∧ a2 ≤ s.size ∧ (bytesN s).drop a2 = rest ∧ ∃ n, w' = w.drewN n
def Walks (asks issue : List Int) (s : ByteArray) (f : Nat) : Prop := ∀ (at_ : Nat) (u : Int) (A B : Option Addr) (na ca nb cb : Nat) (w : World), at_ ≤ s.size → s.size - at_ < f → 0 ≤ u → u < 256 → Row w A na ca asks → Row w B nb cb issue →
  Calls Try.prog 38 #[.slice A na ca, .slice B nb cb, .int .i64 u, .string s, .int .i64 at_] w (SWalk s (walkR asks issue f u ((bytesN s).drop at_)) w)
theorem andI_lt {a : Int} (q : Int) (h0 : 0 ≤ a) (h : a < 256) : 0 ≤ andI a q ∧ andI a q < 256 ∧ 0 ≤ a - andI a q ∧ a - andI a q < 256 := by
  unfold andI
  have hle : a.toNat &&& q.toNat ≤ a.toNat := Nat.and_le_left
  omega
section
variable {asks issue : List Int} {s : ByteArray} {f : Nat} {at_ : Nat} {u : Int} {A B : Option Addr} {na ca nb cb : Nat} {w : World}
set_option maxRecDepth 100000 in
set_option maxHeartbeats 4000000 in
theorem sWalk_end (hat : at_ = s.size) (_hs : s.size ≤ 1048576) : Calls Try.prog 38 #[.slice A na ca, .slice B nb cb, .int .i64 u, .string s, .int .i64 at_] w (SNo w) := by
  subst hat
  go_enter Try.func38, Try.ntmps38
  go_wp2_with fail
  go_ret2
  exact ⟨rfl, 0, rfl⟩
set_option maxRecDepth 100000 in
set_option maxHeartbeats 4000000 in
theorem sWalk_dot (hat : at_ < s.size) (hs : s.size ≤ 1048576) (hc : s[at_].toNat = 46) (hu0 : 0 ≤ u) (hu : u < 256) (hb : Row w B nb cb issue) (hi : ∀ x ∈ issue, 0 ≤ x ∧ x < 256) {b : Bool} (h : Hid (anyWithin u issue = b)) :
    Calls Try.prog 38 #[.slice A na ca, .slice B nb cb, .int .i64 u, .string s, .int .i64 at_] w (if b = true then SYes s 0 ((bytesN s).drop (at_ + 1)) w else SNo w) := by
  have hd : (at_ : Int) < (s.size : Int) := by omega
  have hd0 : (0 : Int) ≤ (at_ : Int) := by omega
  have HB := Lib.hid hb
  have HI := Lib.hid hi
  clear hb hi
  cases b
  · rw [if_neg (by decide)]
    go_enter Try.func38, Try.ntmps38
    go_wp2_with fail
    refine (sL2Settles_is h _ _ _ _ HB.out.hn hu0 hu HI.out HB.out.hl HB.out.hA).mono ?_
    rintro e w' ⟨rfl, q, rfl⟩
    go_wp2_with fail
    go_ret2
    exact ⟨rfl, _, rfl⟩
  · rw [if_pos rfl]
    go_enter Try.func38, Try.ntmps38
    go_wp2_with fail
    refine (sL2Settles_is h _ _ _ _ HB.out.hn hu0 hu HI.out HB.out.hl HB.out.hA).mono ?_
    rintro e w' ⟨rfl, q, rfl⟩
    go_wp2_with fail
    go_ret2
    exact ⟨at_ + 1, rfl, hat, rfl, _, rfl⟩
end
end Go.Proofs.Ytpjpbemgjniljaa

namespace Go.Proofs.Ytpjpbemgjniljaa
open Go.RowKit

theorem sBoth_is7 {a b y : Int} (h : Hid (andI a b = y)) (ha : 0 ≤ a) (ha2 : a < 256) (hb : 0 ≤ b) (hb2 : b < 256) (w : World) :
    Calls Try.prog 54 #[.int .i64 a, .int .i64 b] w fun e w' => e = .returned (.int .i64 y) ∧ ∃ n, w' = w.drewN n := by
  have := sBothS a b ha ha2 hb hb2 w
  rw [h.out] at this; exact this
section
variable {asks issue : List Int} {s : ByteArray} {at_ : Nat} {u : Int} {A B : Option Addr} {na ca nb cb : Nat} {w : World}
set_option maxRecDepth 100000 in
set_option maxHeartbeats 4000000 in
theorem sWalk_out (hat : at_ < s.size) (_hs : s.size ≤ 1048576) {c : Nat} (hc : s[at_].toNat = c) (hne : c ≠ 46) (ha : Row w A na ca asks) (hin : ¬ (48 ≤ c ∧ c < 48 + asks.length)) :
    Calls Try.prog 38 #[.slice A na ca, .slice B nb cb, .int .i64 u, .string s, .int .i64 at_] w (SNo w) := by
  have hd : (at_ : Int) < (s.size : Int) := by omega
  have hd0 : (0 : Int) ≤ (at_ : Int) := by omega
  have hc256 : c < 256 := by rw [← hc]; exact UInt8.toNat_lt _
  have e46 : ((c : Int) == 46) = false := by rw [beq_eq_false_iff_ne]; omega
  obtain rfl := ha.hn
  have hl := ha.hl
  have HI : Hid (inB ((c : Int) - 48) 0 ((asks.length : Int) - 1) = false) := by unfold Hid inB; rw [decide_eq_false_iff_not]; omega
  clear hin ha
  go_enter Try.func38, Try.ntmps38
  go_wp2_with fail
  refine (sIn_is HI _).mono ?_
  rintro e w' ⟨rfl, rfl⟩
  go_wp2_with fail
  go_ret2
  exact ⟨rfl, 0, rfl⟩
set_option maxRecDepth 100000 in
set_option maxHeartbeats 4000000 in
theorem sWalk_short (hat : at_ < s.size) (hat2 : s.size ≤ at_ + 1) (hs : s.size ≤ 1048576) {c : Nat} (hc : s[at_].toNat = c) (hck : 48 ≤ c ∧ c < 48 + asks.length) (_hne : c ≠ 46) (ha : Row w A na ca asks) :
    Calls Try.prog 38 #[.slice A na ca, .slice B nb cb, .int .i64 u, .string s, .int .i64 at_] w (SNo w) := by
  have hd : (at_ : Int) < (s.size : Int) := by omega
  have hd0 : (0 : Int) ≤ (at_ : Int) := by omega
  have hc256 : c < 256 := by rw [← hc]; exact UInt8.toNat_lt _
  have e46 : ((c : Int) == 46) = false := by rw [beq_eq_false_iff_ne]; omega
  have hge : decide ((s.size : Int) ≤ (at_ : Int) + 1) = true := decide_eq_true (by omega)
  obtain rfl := ha.hn
  have hl := ha.hl
  have HI : Hid (inB ((c : Int) - 48) 0 ((asks.length : Int) - 1) = true) := by unfold Hid inB; rw [decide_eq_true_eq]; omega
  clear ha hck
  go_enter Try.func38, Try.ntmps38
  go_wp2_with fail
  refine (sIn_is HI _).mono ?_
  rintro e w' ⟨rfl, rfl⟩
  go_wp2_with fail
  go_ret2
  exact ⟨rfl, 0, rfl⟩
set_option maxRecDepth 100000 in
set_option maxHeartbeats 4000000 in
theorem sWalk_unopen (hat : at_ + 1 < s.size) (hs : s.size ≤ 1048576) {c c2 : Nat} (hc : s[at_].toNat = c) (hck : 48 ≤ c ∧ c < 48 + asks.length) (_hne : c ≠ 46) (ha : Row w A na ca asks) (hc2 : s[at_ + 1].toNat = c2) (hne2 : c2 ≠ 40) :
    Calls Try.prog 38 #[.slice A na ca, .slice B nb cb, .int .i64 u, .string s, .int .i64 at_] w (SNo w) := by
  have hd : (at_ : Int) < (s.size : Int) := by omega
  have hd0 : (0 : Int) ≤ (at_ : Int) := by omega
  have hc256 : c < 256 := by rw [← hc]; exact UInt8.toNat_lt _
  have hc2256 : c2 < 256 := by rw [← hc2]; exact UInt8.toNat_lt _
  have e46 : ((c : Int) == 46) = false := by rw [beq_eq_false_iff_ne]; omega
  have e40 : ((c2 : Int) != 40) = true := by simp; omega
  have hge : decide ((s.size : Int) ≤ (at_ : Int) + 1) = false := decide_eq_false (by omega)
  have hd2 : (at_ : Int) + 1 < (s.size : Int) := by omega
  have hd3 : (0 : Int) ≤ (at_ : Int) + 1 := by omega

  obtain rfl := ha.hn
  have hl := ha.hl
  have HI : Hid (inB ((c : Int) - 48) 0 ((asks.length : Int) - 1) = true) := by unfold Hid inB; rw [decide_eq_true_eq]; omega
  clear ha hck
  go_enter Try.func38, Try.ntmps38
  go_wp2_with fail
  refine (sIn_is HI _).mono ?_
  rintro e w' ⟨rfl, rfl⟩
  go_wp2_with fail
  go_ret2
  exact ⟨rfl, 0, rfl⟩
end
end Go.Proofs.Ytpjpbemgjniljaa

namespace Go.Proofs.Ytpjpbemgjniljaa
open Go.RowKit

section
variable {asks issue : List Int} {s : ByteArray} {at_ : Nat} {u : Int} {A B : Option Addr} {na ca nb cb : Nat} {w : World}
set_option maxRecDepth 100000 in
set_option maxHeartbeats 4000000 in
theorem sWalk_no1 (hat : at_ + 1 < s.size) (hs : s.size ≤ 1048576) {c k : Nat} {q y : Int} (hc : s[at_].toNat = c) (hck : Hid (c = 48 + k)) (ha : Row w A na ca asks) (hb : Row w B nb cb issue) (hr : ∀ q ∈ asks, 0 ≤ q ∧ q < 256) (hk : Hid (asks[k]? = some q)) (hc2 : s[at_ + 1].toNat = 40)
    (hu0 : 0 ≤ u) (hu : u < 256) (hy : Hid (andI u q = y))
    (h1 : ∀ W, Row W A na ca asks → Row W B nb cb issue → Calls Try.prog 38 #[.slice A na ca, .slice B nb cb, .int .i64 y, .string s, .int .i64 ((at_ : Int) + 2)] W (SNo W)) :
    Calls Try.prog 38 #[.slice A na ca, .slice B nb cb, .int .i64 u, .string s, .int .i64 at_] w (SNo w) := by
  have hd : (at_ : Int) < (s.size : Int) := by omega
  have hd0 : (0 : Int) ≤ (at_ : Int) := by omega
  have hkl : k < asks.length := (List.getElem?_eq_some_iff.1 hk.out).1
  have hix : (c : Int) - 48 = (k : Int) := by have := hck.out; omega
  have hc256 : c < 256 := by rw [← hc]; exact UInt8.toNat_lt _
  have e46 : ((c : Int) == 46) = false := by rw [beq_eq_false_iff_ne]; have := hck.out; omega
  have hge : decide ((s.size : Int) ≤ (at_ : Int) + 1) = false := decide_eq_false (by omega)
  have hd2 : (at_ : Int) + 1 < (s.size : Int) := by omega
  have hd3 : (0 : Int) ≤ (at_ : Int) + 1 := by omega
  have HA := Lib.hid ha
  have HB := Lib.hid hb
  obtain rfl := ha.hn
  have hl := ha.hl
  have HI : Hid (inB ((c : Int) - 48) 0 ((asks.length : Int) - 1) = true) := by unfold Hid inB; rw [decide_eq_true_eq]; have := hck.out; omega
  rw [hix] at HI
  obtain ⟨hq0, hq1⟩ := hr q (List.mem_of_getElem? hk.out)
  obtain ⟨b, off, q', rfl, hcell, hq', _⟩ := ha.hA.elem hkl
  obtain rfl : q' = q := by have h1 := hk.out; have h2 := hq'.out; rw [h1] at h2; exact (Option.some.inj h2).symm
  have H1 := Lib.hid h1
  clear ha hb hr h1 hq'
  go_enter Try.func38, Try.ntmps38
  go_wp2_with fail
  refine (sIn_is HI _).mono ?_
  rintro e w' ⟨rfl, rfl⟩
  go_wp2_with fail
  refine (sBoth_is7 hy hu0 hu hq0 hq1 _).mono ?_
  rintro e w' ⟨rfl, q1, rfl⟩
  go_wp2_with fail
  refine (H1.out _ (HA.out.drewN _) (HB.out.drewN _)).mono ?_
  rintro e w' ⟨rfl, q2, rfl⟩
  go_wp2_with fail
  go_ret2
  exact ⟨rfl, _, by first | rfl | rw [World.drewN_drewN]⟩
set_option maxRecDepth 100000 in
set_option maxHeartbeats 4000000 in
theorem sWalk_no2 (hat : at_ + 1 < s.size) (hs : s.size ≤ 1048576) {c k : Nat} {q y : Int} (hc : s[at_].toNat = c) (hck : Hid (c = 48 + k)) (ha : Row w A na ca asks) (hb : Row w B nb cb issue) (hr : ∀ q ∈ asks, 0 ≤ q ∧ q < 256) (hk : Hid (asks[k]? = some q)) (hc2 : s[at_ + 1].toNat = 40)
    (hu0 : 0 ≤ u) (hu : u < 256) (hy : Hid (andI u q = y))
    {d1 : Nat} {r1 : List Nat} (h1 : ∀ W, Row W A na ca asks → Row W B nb cb issue → Calls Try.prog 38 #[.slice A na ca, .slice B nb cb, .int .i64 y, .string s, .int .i64 ((at_ : Int) + 2)] W (SYes s d1 r1 W)) (h2 : ∀ a2, a2 ≤ s.size → (bytesN s).drop a2 = r1 → ∀ W, Row W A na ca asks → Row W B nb cb issue → Calls Try.prog 38 #[.slice A na ca, .slice B nb cb, .int .i64 (u - y), .string s, .int .i64 a2] W (SNo W)) :
    Calls Try.prog 38 #[.slice A na ca, .slice B nb cb, .int .i64 u, .string s, .int .i64 at_] w (SNo w) := by
  have hd : (at_ : Int) < (s.size : Int) := by omega
  have hd0 : (0 : Int) ≤ (at_ : Int) := by omega
  have hkl : k < asks.length := (List.getElem?_eq_some_iff.1 hk.out).1
  have hix : (c : Int) - 48 = (k : Int) := by have := hck.out; omega
  have hc256 : c < 256 := by rw [← hc]; exact UInt8.toNat_lt _
  have e46 : ((c : Int) == 46) = false := by rw [beq_eq_false_iff_ne]; have := hck.out; omega
  have hge : decide ((s.size : Int) ≤ (at_ : Int) + 1) = false := decide_eq_false (by omega)
  have hd2 : (at_ : Int) + 1 < (s.size : Int) := by omega
  have hd3 : (0 : Int) ≤ (at_ : Int) + 1 := by omega
  have HA := Lib.hid ha
  have HB := Lib.hid hb
  obtain rfl := ha.hn
  have hl := ha.hl
  have HI : Hid (inB ((c : Int) - 48) 0 ((asks.length : Int) - 1) = true) := by unfold Hid inB; rw [decide_eq_true_eq]; have := hck.out; omega
  rw [hix] at HI
  obtain ⟨hq0, hq1⟩ := hr q (List.mem_of_getElem? hk.out)
  obtain ⟨b, off, q', rfl, hcell, hq', _⟩ := ha.hA.elem hkl
  obtain rfl : q' = q := by have h1 := hk.out; have h2 := hq'.out; rw [h1] at h2; exact (Option.some.inj h2).symm
  have H1 := Lib.hid h1
  have H2 := Lib.hid h2
  obtain ⟨hy0, hy1, hz0, hz1⟩ := andI_lt q' hu0 hu
  rw [hy.out] at hy0 hy1 hz0 hz1
  clear ha hb hr h1 h2 hq'
  go_enter Try.func38, Try.ntmps38
  go_wp2_with fail
  refine (sIn_is HI _).mono ?_
  rintro e w' ⟨rfl, rfl⟩
  go_wp2_with fail
  refine (sBoth_is7 hy hu0 hu hq0 hq1 _).mono ?_
  rintro e w' ⟨rfl, q1, rfl⟩
  go_wp2_with fail
  refine (H1.out _ (HA.out.drewN _) (HB.out.drewN _)).mono ?_
  rintro e w' ⟨a2, rfl, ha2, hr1, q2, rfl⟩
  have H3 := Lib.hid (H2.out a2 ha2 hr1)
  clear hr1
  have hm2 : decide ((a2 : Int) < 0) = false := decide_eq_false (by omega)
  go_wp2_with fail
  refine (H3.out _ (HA.out.drewN _) (HB.out.drewN _)).mono ?_
  rintro e w' ⟨rfl, q3, rfl⟩
  go_wp2_with fail
  go_ret2
  exact ⟨rfl, _, by first | rfl | rw [World.drewN_drewN] | rw [World.drewN_drewN, World.drewN_drewN]⟩
set_option maxRecDepth 100000 in
set_option maxHeartbeats 4000000 in
theorem sWalk_unshut (hat : at_ + 1 < s.size) (hs : s.size ≤ 1048576) {c k : Nat} {q y : Int} (hc : s[at_].toNat = c) (hck : Hid (c = 48 + k)) (ha : Row w A na ca asks) (hb : Row w B nb cb issue) (hr : ∀ q ∈ asks, 0 ≤ q ∧ q < 256) (hk : Hid (asks[k]? = some q)) (hc2 : s[at_ + 1].toNat = 40)
    (hu0 : 0 ≤ u) (hu : u < 256) (hy : Hid (andI u q = y))
    {d1 d2 : Nat} {r1 r2 : List Nat} (h1 : ∀ W, Row W A na ca asks → Row W B nb cb issue → Calls Try.prog 38 #[.slice A na ca, .slice B nb cb, .int .i64 y, .string s, .int .i64 ((at_ : Int) + 2)] W (SYes s d1 r1 W)) (h2 : ∀ a2, a2 ≤ s.size → (bytesN s).drop a2 = r1 → ∀ W, Row W A na ca asks → Row W B nb cb issue → Calls Try.prog 38 #[.slice A na ca, .slice B nb cb, .int .i64 (u - y), .string s, .int .i64 a2] W (SYes s d2 r2 W)) (h3 : Hid (shutB r2 = none)) :
    Calls Try.prog 38 #[.slice A na ca, .slice B nb cb, .int .i64 u, .string s, .int .i64 at_] w (SNo w) := by
  have hd : (at_ : Int) < (s.size : Int) := by omega
  have hd0 : (0 : Int) ≤ (at_ : Int) := by omega
  have hkl : k < asks.length := (List.getElem?_eq_some_iff.1 hk.out).1
  have hix : (c : Int) - 48 = (k : Int) := by have := hck.out; omega
  have hc256 : c < 256 := by rw [← hc]; exact UInt8.toNat_lt _
  have e46 : ((c : Int) == 46) = false := by rw [beq_eq_false_iff_ne]; have := hck.out; omega
  have hge : decide ((s.size : Int) ≤ (at_ : Int) + 1) = false := decide_eq_false (by omega)
  have hd2 : (at_ : Int) + 1 < (s.size : Int) := by omega
  have hd3 : (0 : Int) ≤ (at_ : Int) + 1 := by omega
  have HA := Lib.hid ha
  have HB := Lib.hid hb
  obtain rfl := ha.hn
  have hl := ha.hl
  have HI : Hid (inB ((c : Int) - 48) 0 ((asks.length : Int) - 1) = true) := by unfold Hid inB; rw [decide_eq_true_eq]; have := hck.out; omega
  rw [hix] at HI
  obtain ⟨hq0, hq1⟩ := hr q (List.mem_of_getElem? hk.out)
  obtain ⟨b, off, q', rfl, hcell, hq', _⟩ := ha.hA.elem hkl
  obtain rfl : q' = q := by have h1 := hk.out; have h2 := hq'.out; rw [h1] at h2; exact (Option.some.inj h2).symm
  have H1 := Lib.hid h1
  have H2 := Lib.hid h2
  obtain ⟨hy0, hy1, hz0, hz1⟩ := andI_lt q' hu0 hu
  rw [hy.out] at hy0 hy1 hz0 hz1
  clear ha hb hr h1 h2 hq'
  go_enter Try.func38, Try.ntmps38
  go_wp2_with fail
  refine (sIn_is HI _).mono ?_
  rintro e w' ⟨rfl, rfl⟩
  go_wp2_with fail
  refine (sBoth_is7 hy hu0 hu hq0 hq1 _).mono ?_
  rintro e w' ⟨rfl, q1, rfl⟩
  go_wp2_with fail
  refine (H1.out _ (HA.out.drewN _) (HB.out.drewN _)).mono ?_
  rintro e w' ⟨a2, rfl, ha2, hr1, q2, rfl⟩
  have H3 := Lib.hid (H2.out a2 ha2 hr1)
  clear hr1
  have hm2 : decide ((a2 : Int) < 0) = false := decide_eq_false (by omega)
  go_wp2_with fail
  refine (H3.out _ (HA.out.drewN _) (HB.out.drewN _)).mono ?_
  rintro e w' ⟨a3, rfl, ha3, hr2, q3, rfl⟩
  have hm3 : decide ((a3 : Int) < 0) = false := decide_eq_false (by omega)
  by_cases hlt : a3 < s.size
  · obtain ⟨c3, hc3⟩ : ∃ c3, s[a3].toNat = c3 := ⟨_, rfl⟩
    have hne : c3 ≠ 41 := fun h => by
      have h4 := h3.out
      rw [← hr2, bytesN_drop hlt, hc3, h] at h4
      cases h4
    have e41 : ((c3 : Int) != 41) = true := by simp; omega
    have hg3 : decide ((s.size : Int) ≤ (a3 : Int)) = false := decide_eq_false (by omega)
    have hl3 : (a3 : Int) < (s.size : Int) := by omega
    have hl4 : (0 : Int) ≤ (a3 : Int) := by omega
    have hc3256 : c3 < 256 := by rw [← hc3]; exact UInt8.toNat_lt _
    clear hr2
    go_wp2_with fail
    go_ret2
    exact ⟨rfl, _, by first | rfl | rw [World.drewN_drewN] | rw [World.drewN_drewN, World.drewN_drewN]⟩
  · have hg3 : decide ((s.size : Int) ≤ (a3 : Int)) = true := decide_eq_true (by omega)
    clear hr2
    go_wp2_with fail
    go_ret2
    exact ⟨rfl, _, by first | rfl | rw [World.drewN_drewN] | rw [World.drewN_drewN, World.drewN_drewN]⟩
end
end Go.Proofs.Ytpjpbemgjniljaa

namespace Go.Proofs.Ytpjpbemgjniljaa
open Go.RowKit

section
variable {asks issue : List Int} {s : ByteArray} {at_ : Nat} {u : Int} {A B : Option Addr} {na ca nb cb : Nat} {w : World}
set_option maxRecDepth 100000 in
set_option maxHeartbeats 4000000 in
theorem sWalk_yes (hat : at_ + 1 < s.size) (hs : s.size ≤ 1048576) {c k : Nat} {q y : Int} (hc : s[at_].toNat = c) (hck : Hid (c = 48 + k)) (ha : Row w A na ca asks) (hb : Row w B nb cb issue) (hr : ∀ q ∈ asks, 0 ≤ q ∧ q < 256) (hk : Hid (asks[k]? = some q)) (hc2 : s[at_ + 1].toNat = 40)
    (hu0 : 0 ≤ u) (hu : u < 256) (hy : Hid (andI u q = y))
    {d1 d2 : Nat} {r1 r2 r3 : List Nat} (h1 : ∀ W, Row W A na ca asks → Row W B nb cb issue → Calls Try.prog 38 #[.slice A na ca, .slice B nb cb, .int .i64 y, .string s, .int .i64 ((at_ : Int) + 2)] W (SYes s d1 r1 W)) (h2 : ∀ a2, a2 ≤ s.size → (bytesN s).drop a2 = r1 → ∀ W, Row W A na ca asks → Row W B nb cb issue → Calls Try.prog 38 #[.slice A na ca, .slice B nb cb, .int .i64 (u - y), .string s, .int .i64 a2] W (SYes s d2 r2 W)) (h3 : Hid (shutB r2 = some r3)) (hd1 : d1 ≤ 1048576) (hd2' : d2 ≤ 1048576) :
    Calls Try.prog 38 #[.slice A na ca, .slice B nb cb, .int .i64 u, .string s, .int .i64 at_] w (SYes s (max d1 d2 + 1) r3 w) := by
  have hd : (at_ : Int) < (s.size : Int) := by omega
  have hd0 : (0 : Int) ≤ (at_ : Int) := by omega
  have hkl : k < asks.length := (List.getElem?_eq_some_iff.1 hk.out).1
  have hix : (c : Int) - 48 = (k : Int) := by have := hck.out; omega
  have hc256 : c < 256 := by rw [← hc]; exact UInt8.toNat_lt _
  have e46 : ((c : Int) == 46) = false := by rw [beq_eq_false_iff_ne]; have := hck.out; omega
  have hge : decide ((s.size : Int) ≤ (at_ : Int) + 1) = false := decide_eq_false (by omega)
  have hd2 : (at_ : Int) + 1 < (s.size : Int) := by omega
  have hd3 : (0 : Int) ≤ (at_ : Int) + 1 := by omega
  have HA := Lib.hid ha
  have HB := Lib.hid hb
  obtain rfl := ha.hn
  have hl := ha.hl
  have HI : Hid (inB ((c : Int) - 48) 0 ((asks.length : Int) - 1) = true) := by unfold Hid inB; rw [decide_eq_true_eq]; have := hck.out; omega
  rw [hix] at HI
  obtain ⟨hq0, hq1⟩ := hr q (List.mem_of_getElem? hk.out)
  obtain ⟨b, off, q', rfl, hcell, hq', _⟩ := ha.hA.elem hkl
  obtain rfl : q' = q := by have h1 := hk.out; have h2 := hq'.out; rw [h1] at h2; exact (Option.some.inj h2).symm
  have H1 := Lib.hid h1
  have H2 := Lib.hid h2
  obtain ⟨hy0, hy1, hz0, hz1⟩ := andI_lt q' hu0 hu
  rw [hy.out] at hy0 hy1 hz0 hz1
  clear ha hb hr h1 h2 hq'
  go_enter Try.func38, Try.ntmps38
  go_wp2_with fail
  refine (sIn_is HI _).mono ?_
  rintro e w' ⟨rfl, rfl⟩
  go_wp2_with fail
  refine (sBoth_is7 hy hu0 hu hq0 hq1 _).mono ?_
  rintro e w' ⟨rfl, q1, rfl⟩
  go_wp2_with fail
  refine (H1.out _ (HA.out.drewN _) (HB.out.drewN _)).mono ?_
  rintro e w' ⟨a2, rfl, ha2, hr1, q2, rfl⟩
  have H3 := Lib.hid (H2.out a2 ha2 hr1)
  clear hr1
  have hm2 : decide ((a2 : Int) < 0) = false := decide_eq_false (by omega)
  go_wp2_with fail
  refine (H3.out _ (HA.out.drewN _) (HB.out.drewN _)).mono ?_
  rintro e w' ⟨a3, rfl, ha3, hr2, q3, rfl⟩
  have hm3 : decide ((a3 : Int) < 0) = false := decide_eq_false (by omega)
  have hlt : a3 < s.size := by
    apply Classical.byContradiction
    intro hn
    have h4 := h3.out
    rw [← hr2, List.drop_eq_nil_of_le (by rw [bytesN_len]; omega)] at h4
    cases h4
  have h5 : s[a3].toNat = 41 ∧ Hid ((bytesN s).drop (a3 + 1) = r3) := by
    have h4 := h3.out
    rw [← hr2, bytesN_drop hlt] at h4
    have := shut_is h4
    exact ⟨(List.cons.inj this).1, (List.cons.inj this).2⟩
  obtain ⟨hc3, hr3⟩ := h5
  have hg3 : decide ((s.size : Int) ≤ (a3 : Int)) = false := decide_eq_false (by omega)
  have hl3 : (a3 : Int) < (s.size : Int) := by omega
  have hl4 : (0 : Int) ≤ (a3 : Int) := by omega
  clear hr2
  go_wp2_with fail
  all_goals
    go_ret2
    refine ⟨a3 + 1, ?_, hlt, hr3.out, _, by first | rfl | rw [World.drewN_drewN] | rw [World.drewN_drewN, World.drewN_drewN]⟩
    first
      | (show Ending.returned (.tuple #[.int .i64 (1 + max (d1 : Int) (d2 : Int)), .int .i64 ((a3 + 1 : Nat) : Int)]) = .returned (.tuple #[.int .i64 ((max d1 d2 + 1 : Nat) : Int), .int .i64 ((a3 + 1 : Nat) : Int)])
         rw [show (1 + max (d1 : Int) (d2 : Int)) = ((max d1 d2 + 1 : Nat) : Int) by omega])
      | (show Ending.returned (.tuple #[.int .i64 (1 + (d2 : Int)), .int .i64 ((a3 + 1 : Nat) : Int)]) = .returned (.tuple #[.int .i64 ((max d1 d2 + 1 : Nat) : Int), .int .i64 ((a3 + 1 : Nat) : Int)])
         rw [show (1 + (d2 : Int)) = ((max d1 d2 + 1 : Nat) : Int) by omega])
      | (show Ending.returned (.tuple #[.int .i64 (1 + (d1 : Int)), .int .i64 ((a3 + 1 : Nat) : Int)]) = .returned (.tuple #[.int .i64 ((max d1 d2 + 1 : Nat) : Int), .int .i64 ((a3 + 1 : Nat) : Int)])
         rw [show (1 + (d1 : Int)) = ((max d1 d2 + 1 : Nat) : Int) by omega])
end
end Go.Proofs.Ytpjpbemgjniljaa

namespace Go.Proofs.Ytpjpbemgjniljaa
open Go.RowKit

theorem walk_len (asks issue : List Int) : ∀ (f : Nat) (u : Int) (bs : List Nat) (d : Nat) (r : List Nat), walkR asks issue f u bs = some (d, r) → d ≤ bs.length ∧ r.length ≤ bs.length
  | 0, _, _, _, _, h => by cases h
  | _ + 1, _, [], _, _, h => by cases h
  | f + 1, u, b :: bs, d, r, h => by
    unfold walkR at h
    by_cases h46 : b = 46
    · rw [if_pos h46] at h
      by_cases ha : anyWithin u issue = true
      · rw [if_pos ha] at h; cases h; exact ⟨Nat.zero_le _, by simp⟩
      · rw [if_neg ha] at h; cases h
    · rw [if_neg h46] at h
      by_cases hb : 48 ≤ b ∧ b < 48 + asks.length
      · rw [if_pos hb, Option.bind_eq_some_iff] at h
        obtain ⟨r0, h0, h⟩ := h
        rw [Option.bind_eq_some_iff] at h
        obtain ⟨⟨d1, r1⟩, h1, h⟩ := h
        rw [Option.bind_eq_some_iff] at h
        obtain ⟨⟨d2, r2⟩, h2, h⟩ := h
        rw [Option.map_eq_some_iff] at h
        obtain ⟨r3, h3, h⟩ := h
        cases h
        have g1 := walk_len asks issue f _ _ _ _ h1
        have g2 := walk_len asks issue f _ _ _ _ h2
        have e0 := congrArg List.length (open_is h0)
        have e3 := congrArg List.length (shut_is h3)
        simp only [List.length_cons] at *
        omega
      · rw [if_neg hb] at h; cases h
theorem sWalk {asks issue : List Int} {s : ByteArray} (hs : s.size ≤ 1048576) (hr : ∀ q ∈ asks, 0 ≤ q ∧ q < 256) (hi : ∀ x ∈ issue, 0 ≤ x ∧ x < 256) : ∀ f, Walks asks issue s f
  | 0 => fun _ _ _ _ _ _ _ _ _ _ h => absurd h (Nat.not_lt_zero _)
  | f + 1 => by
    intro at_ u A B na ca nb cb w hat hf hu0 hu ha hb
    have ih := sWalk hs hr hi f
    by_cases hend : at_ = s.size
    · have e : (bytesN s).drop at_ = [] := List.drop_eq_nil_of_le (by rw [bytesN_len]; omega)
      rw [e]
      exact sWalk_end hend hs
    have hlt : at_ < s.size := by omega
    rw [bytesN_drop hlt]
    obtain ⟨c, hc⟩ : ∃ c, s[at_].toNat = c := ⟨_, rfl⟩
    rw [hc]
    unfold walkR
    by_cases h46 : c = 46
    · rw [if_pos h46]
      obtain ⟨b, hbb⟩ : ∃ b, Hid (anyWithin u issue = b) := ⟨_, rfl⟩
      have := sWalk_dot (A := A) (na := na) (ca := ca) hlt hs (by rw [hc]; exact h46) hu0 hu hb hi hbb
      rw [hbb.out]
      cases b
      · exact this
      · exact this
    rw [if_neg h46]
    by_cases hin : 48 ≤ c ∧ c < 48 + asks.length
    · rw [if_pos hin]
      by_cases hat1 : at_ + 1 < s.size
      · rw [bytesN_drop hat1]
        obtain ⟨c2, hc2⟩ : ∃ c2, s[at_ + 1].toNat = c2 := ⟨_, rfl⟩
        rw [hc2]
        by_cases h40 : c2 = 40
        · have hk : c - 48 < asks.length := by omega
          have HCK : Hid (c = 48 + (c - 48)) := by unfold Hid; omega
          have hq : Hid (asks[c - 48]? = some asks[c - 48]) := List.getElem?_eq_getElem hk
          have hg : asks.getD (c - 48) 0 = asks[c - 48] := by rw [List.getD_eq_getElem?_getD, hq.out]; rfl
          rw [h40, hg]
          obtain ⟨g0, g1, g2, g3⟩ := andI_lt asks[c - 48] hu0 hu
          have eo : openB (40 :: (bytesN s).drop (at_ + 1 + 1)) = some ((bytesN s).drop (at_ + 2)) := rfl
          rw [eo, Option.bind_some]
          have ih1 : ∀ W, Row W A na ca asks → Row W B nb cb issue → _ := fun W ra rb => ih (at_ + 2) (andI u asks[c - 48]) A B na ca nb cb W (by omega) (by omega) g0 g1 ra rb
          cases hw1 : walkR asks issue f (andI u asks[c - 48]) ((bytesN s).drop (at_ + 2)) with
          | none =>
            exact sWalk_no1 (q := asks[c - 48]) hat1 hs hc HCK ha hb hr hq (by rw [hc2]; exact h40) hu0 hu rfl fun W ra rb => by
              have := ih1 W ra rb
              rw [hw1] at this; exact this
          | some p1 =>
            obtain ⟨d1, r1⟩ := p1
            simp only [Option.bind_some]
            have l1 := walk_len asks issue f _ _ _ _ hw1
            have hY : ∀ W, Row W A na ca asks → Row W B nb cb issue → Calls Try.prog 38 #[.slice A na ca, .slice B nb cb, .int .i64 (andI u asks[c - 48]), .string s, .int .i64 ((at_ : Int) + 2)] W (SYes s d1 r1 W) := fun W ra rb => by
              have := ih1 W ra rb
              rw [hw1] at this; exact this
            rw [List.length_drop, bytesN_len] at l1
            cases hw2 : walkR asks issue f (u - andI u asks[c - 48]) r1 with
            | none =>
              exact sWalk_no2 (q := asks[c - 48]) hat1 hs hc HCK ha hb hr hq (by rw [hc2]; exact h40) hu0 hu rfl hY fun a2 h2 hd W ra rb => by
                have hl2 := congrArg List.length hd
                rw [List.length_drop, bytesN_len] at hl2
                have := ih a2 (u - andI u asks[c - 48]) A B na ca nb cb W h2 (by omega) g2 g3 ra rb
                rw [hd, hw2] at this; exact this
            | some p2 =>
              obtain ⟨d2, r2⟩ := p2
              simp only [Option.bind_some]
              have l2 := walk_len asks issue f _ _ _ _ hw2
              have hZ : ∀ a2, a2 ≤ s.size → (bytesN s).drop a2 = r1 → ∀ W, Row W A na ca asks → Row W B nb cb issue → Calls Try.prog 38 #[.slice A na ca, .slice B nb cb, .int .i64 (u - andI u asks[c - 48]), .string s, .int .i64 a2] W (SYes s d2 r2 W) := fun a2 h2 hd W ra rb => by
                have hl2 := congrArg List.length hd
                rw [List.length_drop, bytesN_len] at hl2
                have := ih a2 (u - andI u asks[c - 48]) A B na ca nb cb W h2 (by omega) g2 g3 ra rb
                rw [hd, hw2] at this; exact this
              cases h3 : shutB r2 with
              | none => exact sWalk_unshut (q := asks[c - 48]) hat1 hs hc HCK ha hb hr hq (by rw [hc2]; exact h40) hu0 hu rfl hY hZ h3
              | some r3 => exact sWalk_yes (q := asks[c - 48]) hat1 hs hc HCK ha hb hr hq (by rw [hc2]; exact h40) hu0 hu rfl hY hZ h3 (by omega) (by omega)
        · have eo : openB (c2 :: (bytesN s).drop (at_ + 1 + 1)) = none := by
            show (if c2 = 40 then _ else none) = none
            rw [if_neg h40]
          rw [eo]
          exact sWalk_unopen hat1 hs hc hin h46 ha hc2 h40
      · have e : (bytesN s).drop (at_ + 1) = [] := List.drop_eq_nil_of_le (by rw [bytesN_len]; omega)
        rw [e]
        exact sWalk_short hlt (by omega) hs hc hin h46 ha
    · rw [if_neg hin]
      exact sWalk_out hlt hs hc h46 ha hin
end Go.Proofs.Ytpjpbemgjniljaa

namespace Go.Proofs.Ytpjpbemgjniljaa
open Go.RowKit

/-- What a plan asks: -1 if it is none. -/
def planAsksI (t : Int) (asks issue : List Int) (u : Int) (s : ByteArray) : Int :=
  if (ok7 t asks issue u && decide (s.size ≤ 60)) = true then
    match walkR asks issue (s.size + 1) u (bytesN s) with
    | some (d, []) => (d : Int)
    | _ => -1
  else -1
theorem sOk7_is {t : Int} {asks issue : List Int} {s : Int} {b : Bool} (h : Hid (ok7 t asks issue s = b)) {A B : Option Addr} {na ca nb cb : Nat} {w : World} (ha : Row w A na ca asks) (hb : Row w B nb cb issue) :
    Calls Try.prog 29 #[.int .i64 t, .slice A na ca, .slice B nb cb, .int .i64 s] w fun e w' => e = .returned (.bool b) ∧ ∃ n, w' = w.drewN n := by
  have := sOk7 t A B na ca nb cb asks issue s w ha hb
  rw [h.out] at this; exact this
theorem ok7_parts {t : Int} {asks issue : List Int} {s : Int} (h : ok7 t asks issue s = true) : (∀ q ∈ asks, 0 ≤ q ∧ q < 256) ∧ (∀ x ∈ issue, 0 ≤ x ∧ x < 256) ∧ 0 ≤ s ∧ s < 256 ∧ asks.length ≤ 5 ∧ issueOkB t issue = true ∧ setOkB t s = true := by
  unfold ok7 at h
  simp only [Bool.and_eq_true, decide_eq_true_eq, List.all_eq_true] at h
  obtain ⟨⟨⟨h1, h2⟩, h3⟩, h4⟩ := h
  have g := setOkB_lt h4
  exact ⟨fun q hq => ⟨(setOkB_lt (h1 q hq)).2.2.1, (setOkB_lt (h1 q hq)).2.2.2.2⟩, fun x hx => ⟨(setOkB_lt (issue_sets h3 x hx)).2.2.1, (setOkB_lt (issue_sets h3 x hx)).2.2.2.2⟩, g.2.2.1, g.2.2.2.2, h2, h3, h4⟩
set_option maxRecDepth 100000 in
set_option maxHeartbeats 4000000 in
theorem sPlanAsks (t : Int) (A B : Option Addr) (na ca nb cb : Nat) (asks issue : List Int) (u : Int) (s : ByteArray) (w : World) (ha : Row w A na ca asks) (hb : Row w B nb cb issue) (hs : s.size ≤ 1048576) :
    Calls Try.prog 18 #[.int .i64 t, .slice A na ca, .slice B nb cb, .int .i64 u, .string s] w fun e w' => e = .returned (.int .i64 (planAsksI t asks issue u s)) ∧ ∃ n, w' = w.drewN n := by
  have HA := Lib.hid ha
  have HB := Lib.hid hb
  obtain ⟨res, HRES⟩ : ∃ r, Hid (planAsksI t asks issue u s = r) := ⟨_, rfl⟩
  rw [HRES.out]
  obtain ⟨b, HOK⟩ : ∃ b, Hid (ok7 t asks issue u = b) := ⟨_, rfl⟩
  have hres := HRES.out
  unfold planAsksI at hres
  rw [HOK.out] at hres
  clear ha hb HRES
  cases b
  · have HN : Hid (-1 = res) := hres
    clear hres
    go_enter Try.func18, Try.ntmps18
    go_wp2_with fail
    refine (sOk7_is HOK HA.out HB.out).mono ?_
    rintro e w' ⟨rfl, q, rfl⟩
    go_wp2_with fail
    go_ret
    exact ⟨ret_int HN.out, _, rfl⟩
  · by_cases h60 : s.size ≤ 60
    · obtain ⟨hr, hi, hu0, hu, _⟩ := ok7_parts HOK.out
      have HW := Lib.hid (fun w ra rb => sWalk hs hr hi (s.size + 1) 0 u A B na ca nb cb w (Nat.zero_le _) (by omega) hu0 hu ra rb)
      rw [List.drop_zero] at HW
      rw [decide_eq_true h60] at hres
      have hg60 : decide ((60 : Int) < (s.size : Int)) = false := decide_eq_false (by omega)
      clear hr hi
      rcases hw : walkR asks issue (s.size + 1) u (bytesN s) with _ | ⟨d, r⟩
      · rw [hw] at hres HW
        have HN : Hid (-1 = res) := hres
        clear hres hw
        have hne : ((-1 : Int) != (s.size : Int)) = true := by simp
        go_enter Try.func18, Try.ntmps18
        go_wp2_with fail
        refine (sOk7_is HOK HA.out HB.out).mono ?_
        rintro e w' ⟨rfl, q, rfl⟩
        go_wp2_with fail
        refine (HW.out _ (HA.out.drewN _) (HB.out.drewN _)).mono ?_
        rintro e w' ⟨rfl, q2, rfl⟩
        go_wp2_with fail
        go_ret
        exact ⟨ret_int HN.out, _, by first | rfl | rw [World.drewN_drewN]⟩
      · rw [hw] at hres HW
        have HRS := Lib.hid hres
        clear hres hw
        go_enter Try.func18, Try.ntmps18
        go_wp2_with fail
        refine (sOk7_is HOK HA.out HB.out).mono ?_
        rintro e w' ⟨rfl, q, rfl⟩
        go_wp2_with fail
        refine (HW.out _ (HA.out.drewN _) (HB.out.drewN _)).mono ?_
        rintro e w' ⟨a2, rfl, ha2, hd2, q2, rfl⟩
        by_cases hend : a2 < s.size
        · have hne : ((a2 : Int) != (s.size : Int)) = true := by simp; omega
          have HN : Hid (-1 = res) := by
            have h := HRS.out
            rw [← hd2, bytesN_drop hend] at h
            exact h
          clear hd2
          go_wp2_with fail
          go_ret
          exact ⟨ret_int HN.out, _, by first | rfl | rw [World.drewN_drewN]⟩
        · have hne : ((a2 : Int) != (s.size : Int)) = false := by simp; omega
          have HN : Hid ((d : Int) = res) := by
            have h := HRS.out
            rw [← hd2, List.drop_eq_nil_of_le (by rw [bytesN_len]; omega)] at h
            exact h
          clear hd2
          go_wp2_with fail
          go_ret
          exact ⟨ret_int HN.out, _, by first | rfl | rw [World.drewN_drewN]⟩
    · rw [decide_eq_false h60] at hres
      have hg60 : decide ((60 : Int) < (s.size : Int)) = true := decide_eq_true (by omega)
      have HN : Hid (-1 = res) := hres
      clear hres
      go_enter Try.func18, Try.ntmps18
      go_wp2_with fail
      refine (sOk7_is HOK HA.out HB.out).mono ?_
      rintro e w' ⟨rfl, q, rfl⟩
      go_wp2_with fail
      go_ret
      exact ⟨ret_int HN.out, _, rfl⟩
end Go.Proofs.Ytpjpbemgjniljaa

namespace Go.Proofs.Ytpjpbemgjniljaa
open Go.RowKit

def SSkip (s : ByteArray) (at_ : Nat) (rest : List Nat) (w : World) (e : Ending) (w' : World) : Prop := ∃ a2 : Nat, e = .returned (.tuple #[.int .i64 at_, .int .i64 a2]) ∧ a2 ≤ s.size ∧ (bytesN s).drop a2 = rest ∧ ∃ n, w' = w.drewN n
theorem byte_at {s : ByteArray} {at_ c : Nat} {l : List Nat} (h : (bytesN s).drop at_ = c :: l) : ∃ hlt : at_ < s.size, s[at_].toNat = c ∧ (bytesN s).drop (at_ + 1) = l := by
  have hlt : at_ < s.size := by
    apply Classical.byContradiction
    intro hn
    rw [List.drop_eq_nil_of_le (by rw [bytesN_len]; omega)] at h
    cases h
  rw [bytesN_drop hlt] at h
  exact ⟨hlt, (List.cons.inj h).1, (List.cons.inj h).2⟩
set_option maxRecDepth 100000 in
set_option maxHeartbeats 4000000 in
theorem sSkip_dot {s : ByteArray} {at_ : Nat} {rest : List Nat} {w : World} (hs : s.size ≤ 1048576) (hlt : at_ < s.size) (hc : s[at_].toNat = 46) (hr : Hid ((bytesN s).drop (at_ + 1) = rest)) :
    Calls Try.prog 43 #[.string s, .int .i64 at_] w (SSkip s at_ rest w) := by
  have hd : (at_ : Int) < (s.size : Int) := by omega
  have hd0 : (0 : Int) ≤ (at_ : Int) := by omega
  go_enter Try.func43, Try.ntmps43
  go_wp2_with fail
  go_ret2
  exact ⟨at_ + 1, rfl, hlt, hr.out, 0, rfl⟩
set_option maxRecDepth 100000 in
set_option maxHeartbeats 4000000 in
theorem sSkip_ask {s : ByteArray} {at_ c : Nat} {r1 rest : List Nat} {w : World} (hs : s.size ≤ 1048576) (hlt : at_ < s.size) (hc : s[at_].toNat = c) (hne : c ≠ 46)
    (h1 : ∀ W, Calls Try.prog 43 #[.string s, .int .i64 ((at_ : Int) + 2)] W (SSkip s (at_ + 2) r1 W))
    (h2 : ∀ a2, a2 ≤ s.size → (bytesN s).drop a2 = r1 → ∀ W, Calls Try.prog 43 #[.string s, .int .i64 a2] W (SSkip s a2 (41 :: rest) W)) :
    Calls Try.prog 43 #[.string s, .int .i64 at_] w (SSkip s at_ rest w) := by
  have hd : (at_ : Int) < (s.size : Int) := by omega
  have hd0 : (0 : Int) ≤ (at_ : Int) := by omega
  have hc256 : c < 256 := by rw [← hc]; exact UInt8.toNat_lt _
  have e46 : ((c : Int) == 46) = false := by rw [beq_eq_false_iff_ne]; omega
  have H1 := Lib.hid h1
  have H2 := Lib.hid h2
  clear h1 h2
  go_enter Try.func43, Try.ntmps43
  go_wp2_with fail
  refine (H1.out _).mono ?_
  rintro e w' ⟨a2, rfl, ha2, hr1, q2, rfl⟩
  have H3 := Lib.hid (H2.out a2 ha2 hr1)
  clear hr1
  go_wp2_with fail
  refine (H3.out _).mono ?_
  rintro e w' ⟨a3, rfl, ha3, hr2, q3, rfl⟩
  obtain ⟨hlt3, _, hr3⟩ := byte_at hr2
  have HR3 := Lib.hid hr3
  clear hr2 hr3
  go_wp2_with fail
  go_ret2
  exact ⟨a3 + 1, rfl, hlt3, HR3.out, _, by first | rfl | rw [World.drewN_drewN]⟩
theorem sSkip {s : ByteArray} (hs : s.size ≤ 1048576) : ∀ (p : PlanT) (at_ : Nat) (rest : List Nat) (w : World), (bytesN s).drop at_ = textP p ++ rest → Calls Try.prog 43 #[.string s, .int .i64 at_] w (SSkip s at_ rest w)
  | .dot, at_, rest, w, h => by
    obtain ⟨hlt, hc, hr⟩ := byte_at (c := 46) (l := rest) h
    exact sSkip_dot hs hlt hc hr
  | .ask k y n, at_, rest, w, h => by
    have e : textP (.ask k y n) ++ rest = (48 + k) :: 40 :: (textP y ++ (textP n ++ 41 :: rest)) := by
      show ((48 + k) :: 40 :: (textP y ++ (textP n ++ [41]))) ++ rest = _
      simp
    rw [e] at h
    obtain ⟨hlt, hc, hr⟩ := byte_at h
    obtain ⟨hlt2, _, hr2⟩ := byte_at hr
    exact sSkip_ask (c := 48 + k) hs hlt hc (by omega) (fun W => sSkip hs y (at_ + 2) _ W hr2) fun a2 _ hd W => sSkip hs n a2 _ W hd
end Go.Proofs.Ytpjpbemgjniljaa
