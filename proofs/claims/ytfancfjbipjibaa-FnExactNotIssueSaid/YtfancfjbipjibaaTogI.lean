/-
  Chapter 2: the program's functions that only read; sets tried one by one.
-/
import Derived.Test.YtfancfjbipjibaaMathD
import Derived.Test.YtfancfjbipjibaaGreat
namespace Go.Proofs.Ytfancfjbipjibaa
open Go.RowKit

/-- A slice of numbers that came in: its length, its capacity, what it reads as. -/
structure Row (w : World) (A : Option Addr) (n c : Nat) (xs : List Int) : Prop where
  hn : n = xs.length
  hl : n ≤ 1048576
  hc : n ≤ c
  hm : c ≤ maxLen
  hA : Nums .i64 w A xs
theorem Row.below {w w' : World} {A : Option Addr} {n c : Nat} {xs : List Int} (h : Row w A n c xs) (hb : Below w.heap.size w w') : Row w' A n c xs := ⟨h.hn, h.hl, h.hc, h.hm, h.hA.below hb⟩

theorem Row.drewN {w : World} {A : Option Addr} {n c : Nat} {xs : List Int} (h : Row w A n c xs) (m : Nat) : Row (w.drewN m) A n c xs := ⟨h.hn, h.hl, h.hc, h.hm, h.hA⟩

def okTwo (t : Int) (a b : List Int) : Bool := issueOkB t a && issueOkB t b
set_option maxHeartbeats 1000000 in
theorem iIssuesOk (t : Int) (A B : Option Addr) (na ca nb cb : Nat) (a b : List Int) (w : World) (ha : Row w A na ca a) (hb : Row w B nb cb b) :
    Calls Try.prog 57 #[.int .i64 t, .slice A na ca, .slice B nb cb] w fun e w' => e = .returned (.bool (okTwo t a b)) ∧ ∃ n, w' = w.drewN n := by
  have HA := Lib.hid ha
  have HB := Lib.hid hb
  clear ha hb
  obtain ⟨x, HX⟩ : ∃ x, Hid (issueOkB t a = x) := ⟨_, rfl⟩
  obtain ⟨y, HY⟩ : ∃ y, Hid (issueOkB t b = y) := ⟨_, rfl⟩
  have HF : Hid (okTwo t a b = (x && y)) := by unfold Hid okTwo; rw [HX.out, HY.out]
  cases x
  · go_enter Try.func57, Try.ntmps57
    go_wp2_with fail
    refine (iIssueOk_is HX _ _ _ _ HA.out.hn HA.out.hl HA.out.hc HA.out.hm HA.out.hA).mono ?_
    rintro e w' ⟨rfl, m1, rfl⟩
    go_wp2_with fail
    go_ret
    exact ⟨ret_bool HF.out.symm, _, rfl⟩
  · go_enter Try.func57, Try.ntmps57
    go_wp2_with fail
    refine (iIssueOk_is HX _ _ _ _ HA.out.hn HA.out.hl HA.out.hc HA.out.hm HA.out.hA).mono ?_
    rintro e w' ⟨rfl, m2, rfl⟩
    go_wp2_with fail
    refine (iIssueOk_is HY _ _ _ _ HB.out.hn HB.out.hl HB.out.hc HB.out.hm (by exact HB.out.hA)).mono ?_
    rintro e w' ⟨rfl, m3, rfl⟩
    go_wp2_with fail
    go_ret
    exact ⟨ret_bool (by rw [HF.out]; rfl), _, rfl⟩
theorem iIssuesOk_is {t : Int} {a b : List Int} {x : Bool} (h : Hid (okTwo t a b = x)) {A B : Option Addr} {na ca nb cb : Nat} {w : World} (ha : Row w A na ca a) (hb : Row w B nb cb b) :
    Calls Try.prog 57 #[.int .i64 t, .slice A na ca, .slice B nb cb] w fun e w' => e = .returned (.bool x) ∧ ∃ n, w' = w.drewN n :=
  (iIssuesOk t A B na ca nb cb a b w ha hb).mono fun _ _ ⟨he, hw⟩ => ⟨he.trans (ret_bool h.out), hw⟩
theorem okTwo_ok {t : Int} {a b : List Int} (h : okTwo t a b = true) : issueOkB t a = true ∧ issueOkB t b = true := by unfold okTwo at h; rwa [Bool.and_eq_true] at h

theorem iWithinAny_is {s : Int} {xs : List Int} {v : Bool} (h : Hid (anyWithin s xs = v)) (A : Option Addr) (n c : Nat) (w : World) (hn : n = xs.length) (hs : 0 ≤ s) (hs2 : s < 256) (hr : ∀ x ∈ xs, 0 ≤ x ∧ x < 256) (hl : n ≤ 1048576) (hA : Nums .i64 w A xs) :
    Calls Try.prog 63 #[.int .i64 s, .slice A n c] w fun e w' => e = .returned (.bool v) ∧ w = w' :=
  (iWithinAny s A n c xs w hn hs hs2 hr hl hA).mono fun _ _ ⟨he, hw⟩ => ⟨he.trans (ret_bool h.out), hw⟩

theorem good_nil (b : List Int) (s : Int) : goodB [] b s = true := rfl
theorem good_snoc {a b : List Int} {s x : Int} {k : Nat} (hx : Hid (a[k]? = some x)) : goodB (a.take (k + 1)) b s = (goodB (a.take k) b s && anyWithin (andI s x) b) := by
  unfold goodB; rw [take_snoc hx, List.all_append]; simp
theorem good_miss {a b : List Int} {s x : Int} {k : Nat} (hx : Hid (a[k]? = some x)) (h : anyWithin (andI s x) b = false) : goodB a b s = false := by
  unfold goodB; rw [List.all_eq_false]; exact ⟨x, elem_mem hx, by rw [h]; simp⟩

set_option maxHeartbeats 1000000 in
theorem iCarries (s : Int) (A B : Option Addr) (na ca nb cb : Nat) (a b : List Int) (w : World) (hs : 0 ≤ s) (hs2 : s < 256) (ha : Row w A na ca a) (hb : Row w B nb cb b) (hra : ∀ x ∈ a, 0 ≤ x ∧ x < 256) (hrb : ∀ x ∈ b, 0 ≤ x ∧ x < 256) :
    Calls Try.prog 67 #[.int .i64 s, .slice A na ca, .slice B nb cb] w fun e w' => e = .returned (.bool (goodB a b s)) ∧ w = w' := by
  have HA := Lib.hid ha
  have HB := Lib.hid hb
  have HRA := Lib.hid hra
  have HRB := Lib.hid hrb
  obtain rfl := ha.hn
  have hla := ha.hl
  clear ha hb hra hrb
  go_enter Try.func67, Try.ntmps67
  go_wp2
  go_loop [11] (fun i => ∃ k : Nat, k ≤ a.length ∧ i = .int .i64 k ∧ Hid (goodB (a.take k) b s = true)) (fun i => a.length - (intOf i).toNat)
  case atStart => exact ⟨0, Nat.zero_le _, rfl, rfl⟩
  case round =>
    obtain ⟨k, hk, rfl, hsofar⟩ := hrel
    by_cases hlt : k < a.length
    · obtain ⟨bb, off, x, rfl, hcell, hx, _⟩ := HA.out.hA.elem hlt
      obtain ⟨he1, he2⟩ := HRA.out x (elem_mem hx)
      have HBI := Lib.hid (bits_and s x hs (by omega) he1 (by omega))
      have hand0 := andI_nonneg s x
      have hand1 := andI_le s x hs
      rcases hw : anyWithin (andI s x) b with _ | _
      · have HW := Lib.hid hw
        clear hw
        go_wp2_with fail
        rw [HBI.out]
        refine (iWithinAny_is HW _ _ _ _ HB.out.hn hand0 (by omega) HRB.out HB.out.hl HB.out.hA).mono ?_
        rintro e w' ⟨rfl, rfl⟩
        go_wp2_with fail
        go_ret
        exact ⟨ret_bool (by rw [good_miss hx HW.out]), rfl⟩
      · have HW := Lib.hid hw
        clear hw
        go_wp2_with fail
        rw [HBI.out]
        refine (iWithinAny_is HW _ _ _ _ HB.out.hn hand0 (by omega) HRB.out HB.out.hl HB.out.hA).mono ?_
        rintro e w' ⟨rfl, rfl⟩
        go_wp2_with fail
        go_round
        case rel => exact ⟨k + 1, by omega, by go_num, by unfold Hid; rw [good_snoc hx, hsofar.out, HW.out]; rfl⟩
        case measure => simp [intOf]; omega
    · obtain rfl : k = a.length := by omega
      go_wp2
      go_ret
      exact ⟨ret_bool (by rw [← hsofar.out, List.take_length]), rfl⟩

set_option maxHeartbeats 1000000 in
theorem sL2Settles (A : Option Addr) (n c : Nat) (xs : List Int) (s : Int) (w : World) (hn : n = xs.length) (hs : 0 ≤ s) (hs2 : s < 256) (hr : ∀ x ∈ xs, 0 ≤ x ∧ x < 256) (hl : n ≤ 1048576) (hA : Nums .i64 w A xs) :
    Calls Try.prog 69 #[.slice A n c, .int .i64 s] w fun e w' => e = .returned (.bool (anyWithin s xs)) ∧ ∃ n, w' = w.drewN n := by
  subst hn
  have HA := Lib.hid hA
  have HR := Lib.hid hr
  clear hA hr
  go_enter Try.func69, Try.ntmps69
  go_wp2
  go_loopw [5] (fun i wr => ∃ k : Nat, k ≤ xs.length ∧ i = .int .i64 k ∧ Hid (anyWithin s (xs.take k) = false) ∧ ∃ n, wr = w.drewN n) (fun i _ => xs.length - (intOf i).toNat)
  case atStart => exact ⟨0, Nat.zero_le _, rfl, rfl, 0, rfl⟩
  case round =>
    obtain ⟨k, hk, rfl, hsofar, n, rfl⟩ := hrel
    by_cases hlt : k < xs.length
    · obtain ⟨b, off, x, rfl, hcell, hx, _⟩ := HA.out.elem hlt
      obtain ⟨he1, he2⟩ := HR.out x (elem_mem hx)
      rcases hw : withinB s x with _ | _
      · have HW := Lib.hid hw
        clear hw
        go_wp2_with fail
        refine (sWithin_is HW hs hs2 he1 he2 _).mono ?_
        rintro e w' ⟨rfl, m1, rfl⟩
        go_wp2_with fail
        go_roundw
        case rel => exact ⟨k + 1, by omega, by go_num, by unfold Hid; rw [anyWithin_snoc hx, hsofar.out, HW.out]; rfl, _, rfl⟩
        case measure => simp [intOf]; omega
      · have HW := Lib.hid hw
        clear hw
        go_wp2_with fail
        refine (sWithin_is HW hs hs2 he1 he2 _).mono ?_
        rintro e w' ⟨rfl, m2, rfl⟩
        go_wp2_with fail
        go_ret
        exact ⟨ret_bool (by rw [anyWithin_hit hx HW.out]), _, rfl⟩
    · obtain rfl : k = xs.length := by omega
      have HN : Hid (anyWithin s xs = false) := by unfold Hid; rw [← hsofar.out, List.take_length]
      clear hsofar
      go_wp2
      go_ret
      exact ⟨ret_bool (by rw [HN.out]), _, rfl⟩
theorem sL2Settles_is {s : Int} {xs : List Int} {v : Bool} (h : Hid (anyWithin s xs = v)) (A : Option Addr) (n c : Nat) (w : World) (hn : n = xs.length) (hs : 0 ≤ s) (hs2 : s < 256) (hr : ∀ x ∈ xs, 0 ≤ x ∧ x < 256) (hl : n ≤ 1048576) (hA : Nums .i64 w A xs) :
    Calls Try.prog 69 #[.slice A n c, .int .i64 s] w fun e w' => e = .returned (.bool v) ∧ ∃ n, w' = w.drewN n :=
  (sL2Settles A n c xs s w hn hs hs2 hr hl hA).mono fun _ _ ⟨he, hw⟩ => ⟨he.trans (ret_bool h.out), hw⟩

theorem follows_eq {t : Int} {a b : List Int} : followsB t a b = (okTwo t a b && a.all fun x => anyWithin x b) := rfl
theorem allAny_snoc {a b : List Int} {x : Int} {k : Nat} (hx : Hid (a[k]? = some x)) : ((a.take (k + 1)).all fun x => anyWithin x b) = (((a.take k).all fun x => anyWithin x b) && anyWithin x b) := by
  rw [take_snoc hx, List.all_append]; simp
theorem allAny_miss {a b : List Int} {x : Int} {k : Nat} (hx : Hid (a[k]? = some x)) (h : anyWithin x b = false) : (a.all fun x => anyWithin x b) = false := by
  rw [List.all_eq_false]; exact ⟨x, elem_mem hx, by rw [h]; simp⟩

set_option maxHeartbeats 1000000 in
theorem iFollows (t : Int) (A B : Option Addr) (na ca nb cb : Nat) (a b : List Int) (w : World) (ha : Row w A na ca a) (hb : Row w B nb cb b) :
    Calls Try.prog 34 #[.int .i64 t, .slice A na ca, .slice B nb cb] w fun e w' => e = .returned (.bool (followsB t a b)) ∧ ∃ n, w' = w.drewN n := by
  have HA := Lib.hid ha
  have HB := Lib.hid hb
  obtain rfl := ha.hn
  have hla := ha.hl
  clear ha hb
  obtain ⟨x, HX⟩ : ∃ x, Hid (okTwo t a b = x) := ⟨_, rfl⟩
  have HF : Hid (followsB t a b = (x && a.all fun x => anyWithin x b)) := by unfold Hid; rw [follows_eq, HX.out]
  cases x
  · go_enter Try.func34, Try.ntmps34
    go_wp2_with fail
    refine (iIssuesOk_is HX HA.out HB.out).mono ?_
    rintro e w' ⟨rfl, m1, rfl⟩
    go_wp2_with fail
    go_ret
    exact ⟨ret_bool (by rw [HF.out]; rfl), _, rfl⟩
  · have HRA := Lib.hid (issue_range (okTwo_ok HX.out).1)
    have HRB := Lib.hid (issue_range (okTwo_ok HX.out).2)
    go_enter Try.func34, Try.ntmps34
    go_wp2_with fail
    refine (iIssuesOk_is HX HA.out HB.out).mono ?_
    rintro e w' ⟨rfl, m2, rfl⟩
    go_wp2_with fail
    go_loopw [16] (fun i wr => ∃ k : Nat, k ≤ a.length ∧ i = .int .i64 k ∧ Hid (((a.take k).all fun x => anyWithin x b) = true) ∧ ∃ n, wr = w.drewN n) (fun i _ => a.length - (intOf i).toNat)
    case atStart => exact ⟨0, Nat.zero_le _, rfl, rfl, _, rfl⟩
    case round =>
      obtain ⟨k, hk, rfl, hsofar, n, rfl⟩ := hrel
      by_cases hlt : k < a.length
      · obtain ⟨bb, off, x, rfl, hcell, hx, _⟩ := HA.out.hA.elem hlt
        obtain ⟨he1, he2⟩ := HRA.out x (elem_mem hx)
        rcases hw : anyWithin x b with _ | _
        · have HW := Lib.hid hw
          clear hw
          go_wp2_with fail
          refine (iWithinAny_is HW _ _ _ _ HB.out.hn he1 he2 HRB.out HB.out.hl (by exact HB.out.hA)).mono ?_
          rintro e w' ⟨rfl, rfl⟩
          go_wp2_with fail
          go_ret
          exact ⟨ret_bool (by rw [HF.out, allAny_miss hx HW.out]; rfl), _, rfl⟩
        · have HW := Lib.hid hw
          clear hw
          go_wp2_with fail
          refine (iWithinAny_is HW _ _ _ _ HB.out.hn he1 he2 HRB.out HB.out.hl (by exact HB.out.hA)).mono ?_
          rintro e w' ⟨rfl, rfl⟩
          go_wp2_with fail
          go_roundw
          case rel => exact ⟨k + 1, by omega, by go_num, by unfold Hid; rw [allAny_snoc hx, hsofar.out, HW.out]; rfl, _, rfl⟩
          case measure => simp [intOf]; omega
      · obtain rfl : k = a.length := by omega
        have HN : Hid ((a.all fun x => anyWithin x b) = true) := by unfold Hid; rw [← hsofar.out, List.take_length]
        clear hsofar
        go_wp2
        go_ret
        exact ⟨ret_bool (by rw [HF.out, HN.out]; rfl), _, rfl⟩
end Go.Proofs.Ytfancfjbipjibaa
