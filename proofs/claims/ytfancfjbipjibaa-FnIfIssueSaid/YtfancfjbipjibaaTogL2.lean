/-
  Chapter 2: the walks of the laws, the second part.
-/
import Derived.Test.YtfancfjbipjibaaTogL1
namespace Go.Proofs.Ytfancfjbipjibaa
open Go.RowKit

set_option maxRecDepth 100000 in
set_option maxHeartbeats 4000000 in
theorem wEitherIssue (A : Option Addr) (nn c : Nat) (zs : List Int) (w : World) (hn : nn = zs.length) (hc : nn ≤ c) (hm : c ≤ maxLen) (hr : ∀ z ∈ zs, 0 ≤ z ∧ z ≤ 255) (hA : Nums .u8 w A zs) :
    Calls Try.prog 4 #[.slice A nn c] w fun e w' => e = .returned (.bool true) ∧ Below w.heap.size w w' := by
  have HO := Lib.hid (drawEitherIssue_any A nn c zs w hn hc hm hr hA)
  have hm' : nn ≤ 9223372036854775807 := by unfold maxLen at hm; omega
  clear hn hc hm hr hA
  by_cases hl : 1048576 < nn
  · have hd : decide ((1048576 : Int) < (nn : Int)) = true := decide_eq_true (by omega)
    go_enter Try.func4, Try.ntmps4
    go_wp2_with fail
    go_ret
    exact ⟨rfl, Below.refl _ _⟩
  have hd : decide ((1048576 : Int) < (nn : Int)) = false := decide_eq_false (by omega)
  clear hl
  go_enter Try.func4, Try.ntmps4
  go_wp2_with fail
  refine HO.out.mono ?_
  rintro e w1 ⟨t, v1, a, v2, b, rfl, ht0, ht1, ho1, hl1, ho2, hl2, hb⟩
  obtain ⟨A1, c1, rfl, _, _, _, _⟩ := ho1.form
  obtain ⟨A2, c2, rfl, _, _, _, _⟩ := ho2.form
  have HRa := Lib.hid (Owns.row ho1 (by omega))
  have HRb := Lib.hid (Owns.row ho2 (by omega))
  have HB := Lib.hid hb
  clear hb ho1 ho2 HO
  obtain ⟨r, HIS⟩ : ∃ l, Hid (eitherL t a b = l) := ⟨_, rfl⟩
  have hrl : r.length ≤ 70 := by rw [← HIS.out]; exact either_len
  clear hd
  go_wp2_with fail
  refine (iEitherIssue t _ _ _ _ _ _ a b _ HRa.out HRb.out).mono ?_
  rintro e w3 ⟨v, rfl, ho, hb⟩
  rw [HIS.out] at ho
  obtain ⟨A3, c3, rfl, _, _, _, _⟩ := ho.form
  replace HRa := Lib.hid (Row.below (by first | exact HRa.out | exact Row.drewN HRa.out _) hb)
  replace HRb := Lib.hid (Row.below (by first | exact HRb.out | exact Row.drewN HRb.out _) hb)
  replace HB := Lib.hid (bel_trans (by first | exact HB.out | exact bel_drewN HB.out _) hb)
  have HR3 := Lib.hid (Owns.row ho (by omega))
  clear ho hb
  go_wp2_with fail
  refine (sEitherIssue t _ _ _ _ _ _ a b _ HRa.out HRb.out).mono ?_
  rintro e w4 ⟨v, rfl, ho, hb⟩
  rw [HIS.out] at ho
  obtain ⟨A4, c4, rfl, _, _, _, _⟩ := ho.form
  replace HRa := Lib.hid (Row.below (by first | exact HRa.out | exact Row.drewN HRa.out _) hb)
  replace HRb := Lib.hid (Row.below (by first | exact HRb.out | exact Row.drewN HRb.out _) hb)
  replace HB := Lib.hid (bel_trans (by first | exact HB.out | exact bel_drewN HB.out _) hb)
  replace HR3 := Lib.hid (Row.below (by first | exact HR3.out | exact Row.drewN HR3.out _) hb)
  have HR4 := Lib.hid (Owns.row ho (by omega))
  clear ho hb
  go_wp2_with fail
  refine (rSame (same_self r) HR3.out HR4.out).mono ?_
  rintro e w' ⟨rfl, m1, rfl⟩
  obtain ⟨ok, HX⟩ : ∃ x, Hid (okTwo t a b = x) := ⟨_, rfl⟩
  cases ok
  · have HE : Hid (r = []) := by unfold Hid; rw [← HIS.out]; exact either_nil HX.out
    have hz : r.length ≤ 0 := by rw [HE.out]; simp
    have hq : ((r.length : Int) == 0) = true := by rw [beq_iff_eq]; omega
    clear hz
    go_wp2_with fail
    refine (lAlive _).mono ?_
    rintro e w' ⟨rfl, rfl⟩
    go_wp2_with fail
    go_ret
    exact ⟨rfl, bel_drewN HB.out _⟩
  obtain ⟨ha, hb⟩ := okTwo_ok HX.out
  obtain ⟨h1, h3⟩ := issue_things ha
  have HI : Hid (issueOkB t r = true) := by unfold Hid; rw [← HIS.out]; exact either_ok ha hb
  obtain ⟨al, HAL⟩ : ∃ n, Hid (allOf t = n) := ⟨_, rfl⟩
  have hal1 : al < 256 := by rw [← HAL.out]; exact (allOf_lt t).2
  have hal0 : 0 ≤ al := by rw [← HAL.out]; exact (allOf_lt t).1
  have HLAW : Hid (∀ k, 0 ≤ k → k ≤ al → settlesB t r k = (settlesB t a k || settlesB t b k)) := fun k h0 hk => by rw [← HIS.out]; exact law_either ha hb h0 (by rw [HAL.out]; exact hk)
  have HABS : Hid (bothL t a r = a) := by unfold Hid; rw [← HIS.out]; exact law_absorb ha hb
  have hq := not_empty HI.out
  clear ha hb
  go_wp2_with fail
  clear hq
  go_loopw [7] (fun i wr => ∃ k : Int, 0 ≤ k ∧ k ≤ al + 1 ∧ i = .int .i64 k ∧ ∃ n, wr = w4.drewN n) (fun i _ => (al + 1 - Go.RowKit.intOf i).toNat)
  case atStart => exact ⟨0, by omega, by omega, rfl, _, rfl⟩
  case round =>
    obtain ⟨k, hk0, hk, rfl, n, rfl⟩ := hrel
    by_cases hlt : k ≤ al
    · have HL := Lib.hid (HLAW.out k hk0 hlt)
      rcases hsa : settlesB t a k with _ | _
      · obtain ⟨sb, HSB⟩ : ∃ s, Hid (settlesB t b k = s) := ⟨_, rfl⟩
        have HSA := Lib.hid hsa
        have HSR : Hid (settlesB t r k = sb) := by unfold Hid; rw [HL.out, hsa, HSB.out]; rfl
        clear hsa HL
        go_wp2_with fail
        refine (lWhole_is HAL h1 h3 _).mono ?_
        rintro e w' ⟨rfl, rfl⟩
        go_wp2_with fail
        refine (rSettles HSR (by first | exact HR3.out | exact Row.drewN HR3.out _)).mono ?_
        rintro e w' ⟨rfl, m2, rfl⟩
        go_wp2_with fail
        refine (rSettles HSA (by first | exact HRa.out | exact Row.drewN HRa.out _)).mono ?_
        rintro e w' ⟨rfl, m3, rfl⟩
        go_wp2_with fail
        refine (rSettles HSB (by first | exact HRb.out | exact Row.drewN HRb.out _)).mono ?_
        rintro e w' ⟨rfl, m4, rfl⟩
        go_wp2_with fail
        go_roundw
        case rel => exact ⟨k + 1, by omega, by omega, rfl, _, rfl⟩
        case measure => simp [Go.RowKit.intOf]; omega
      · have HSA := Lib.hid hsa
        have HSR : Hid (settlesB t r k = true) := by unfold Hid; rw [HL.out, hsa]; rfl
        clear hsa HL
        go_wp2_with fail
        refine (lWhole_is HAL h1 h3 _).mono ?_
        rintro e w' ⟨rfl, rfl⟩
        go_wp2_with fail
        refine (rSettles HSR (by first | exact HR3.out | exact Row.drewN HR3.out _)).mono ?_
        rintro e w' ⟨rfl, m5, rfl⟩
        go_wp2_with fail
        refine (rSettles HSA (by first | exact HRa.out | exact Row.drewN HRa.out _)).mono ?_
        rintro e w' ⟨rfl, m6, rfl⟩
        go_wp2_with fail
        go_roundw
        case rel => exact ⟨k + 1, by omega, by omega, rfl, _, rfl⟩
        case measure => simp [Go.RowKit.intOf]; omega
    · go_wp2_with fail
      refine (lWhole_is HAL h1 h3 _).mono ?_
      rintro e w' ⟨rfl, rfl⟩
      go_wp2_with fail
      refine (rIssueOk HI (by first | exact HR3.out | exact Row.drewN HR3.out _)).mono ?_
      rintro e w' ⟨rfl, m7, rfl⟩
      go_wp2_with fail
      refine (iBothIssues t _ _ _ _ _ _ a r _ (by first | exact HRa.out | exact Row.drewN HRa.out _) (by first | exact HR3.out | exact Row.drewN HR3.out _)).mono ?_
      rintro e w5 ⟨v, rfl, ho, hb⟩
      rw [HABS.out] at ho
      obtain ⟨A5, c5, rfl, _, _, _, _⟩ := ho.form
      replace HRa := Lib.hid (Row.below (by first | exact HRa.out | exact Row.drewN HRa.out _) hb)
      replace HRb := Lib.hid (Row.below (by first | exact HRb.out | exact Row.drewN HRb.out _) hb)
      replace HB := Lib.hid (bel_trans (by first | exact HB.out | exact bel_drewN HB.out _) hb)
      replace HR3 := Lib.hid (Row.below (by first | exact HR3.out | exact Row.drewN HR3.out _) hb)
      replace HR4 := Lib.hid (Row.below (by first | exact HR4.out | exact Row.drewN HR4.out _) hb)
      have HR5 := Lib.hid (Owns.row ho (by omega))
      clear ho hb
      go_wp2_with fail
      refine (rSame (same_self a) HR5.out HRa.out).mono ?_
      rintro e w' ⟨rfl, m8, rfl⟩
      go_wp2_with fail
      go_ret
      exact ⟨rfl, bel_drewN HB.out _⟩

set_option maxRecDepth 100000 in
set_option maxHeartbeats 4000000 in
theorem wNotIssue (A : Option Addr) (nn c : Nat) (zs : List Int) (w : World) (hn : nn = zs.length) (hc : nn ≤ c) (hm : c ≤ maxLen) (hr : ∀ z ∈ zs, 0 ≤ z ∧ z ≤ 255) (hA : Nums .u8 w A zs) :
    Calls Try.prog 6 #[.slice A nn c] w fun e w' => e = .returned (.bool true) ∧ Below w.heap.size w w' := by
  have HO := Lib.hid (drawNotIssue_any A nn c zs w hn hc hm hr hA)
  have hm' : nn ≤ 9223372036854775807 := by unfold maxLen at hm; omega
  clear hn hc hm hr hA
  by_cases hl : 1048576 < nn
  · have hd : decide ((1048576 : Int) < (nn : Int)) = true := decide_eq_true (by omega)
    go_enter Try.func6, Try.ntmps6
    go_wp2_with fail
    go_ret
    exact ⟨rfl, Below.refl _ _⟩
  have hd : decide ((1048576 : Int) < (nn : Int)) = false := decide_eq_false (by omega)
  clear hl
  go_enter Try.func6, Try.ntmps6
  go_wp2_with fail
  refine HO.out.mono ?_
  rintro e w1 ⟨t, v1, a, rfl, ht0, ht1, ho1, hl1, hb⟩
  obtain ⟨A1, c1, rfl, _, _, _, _⟩ := ho1.form
  have HRa := Lib.hid (Owns.row ho1 (by omega))
  have HB := Lib.hid hb
  clear hb ho1 HO
  obtain ⟨r, HIS⟩ : ∃ l, Hid (notL t a = l) := ⟨_, rfl⟩
  have hrl : r.length ≤ 70 := by rw [← HIS.out]; exact not_len t a
  clear hd
  go_wp2_with fail
  refine (iNotIssue t _ _ _ a _ HRa.out).mono ?_
  rintro e w3 ⟨v, rfl, ho, hb⟩
  rw [HIS.out] at ho
  obtain ⟨A3, c3, rfl, _, _, _, _⟩ := ho.form
  replace HRa := Lib.hid (Row.below (by first | exact HRa.out | exact Row.drewN HRa.out _) hb)
  replace HB := Lib.hid (bel_trans (by first | exact HB.out | exact bel_drewN HB.out _) hb)
  have HR3 := Lib.hid (Owns.row ho (by omega))
  clear ho hb
  go_wp2_with fail
  refine (sNotIssue t _ _ _ a _ HRa.out).mono ?_
  rintro e w4 ⟨v, rfl, ho, hb⟩
  rw [HIS.out] at ho
  obtain ⟨A4, c4, rfl, _, _, _, _⟩ := ho.form
  replace HRa := Lib.hid (Row.below (by first | exact HRa.out | exact Row.drewN HRa.out _) hb)
  replace HB := Lib.hid (bel_trans (by first | exact HB.out | exact bel_drewN HB.out _) hb)
  replace HR3 := Lib.hid (Row.below (by first | exact HR3.out | exact Row.drewN HR3.out _) hb)
  have HR4 := Lib.hid (Owns.row ho (by omega))
  clear ho hb
  go_wp2_with fail
  refine (rSame (same_self r) HR3.out HR4.out).mono ?_
  rintro e w' ⟨rfl, m1, rfl⟩
  obtain ⟨ok, HX⟩ : ∃ x, Hid (issueOkB t a = x) := ⟨_, rfl⟩
  cases ok
  · have HE : Hid (r = []) := by unfold Hid; rw [← HIS.out]; exact not_nil HX.out
    have hz : r.length ≤ 0 := by rw [HE.out]; simp
    have hq : ((r.length : Int) == 0) = true := by rw [beq_iff_eq]; omega
    clear hz
    go_wp2_with fail
    refine (lAlive _).mono ?_
    rintro e w' ⟨rfl, rfl⟩
    go_wp2_with fail
    go_ret
    exact ⟨rfl, bel_drewN HB.out _⟩
  have ha := HX.out
  obtain ⟨h1, h3⟩ := issue_things ha
  have HI : Hid (issueOkB t r = true) := by unfold Hid; rw [← HIS.out]; exact not_ok ha
  obtain ⟨al, HAL⟩ : ∃ n, Hid (allOf t = n) := ⟨_, rfl⟩
  have hal1 : al < 256 := by rw [← HAL.out]; exact (allOf_lt t).2
  have hal0 : 0 ≤ al := by rw [← HAL.out]; exact (allOf_lt t).1
  obtain ⟨g, HGA⟩ : ∃ n, Hid (grantedI t a = n) := ⟨_, rfl⟩
  have hg : 0 ≤ g ∧ g ≤ al := by rw [← HGA.out, granted_ok ha, ← HAL.out]; exact union_all ha
  have HS1 : Hid (statementL t (al - g) = r) := by unfold Hid; rw [← HIS.out, ← HGA.out, granted_ok ha, ← HAL.out]; exact not_state ha
  have HN2 : Hid (notL t r = [g]) := by unfold Hid; rw [← HIS.out, law_notnot ha, ← HGA.out, granted_ok ha]
  have HS2 : Hid (statementL t g = [g]) := by unfold Hid statementL; rw [setOk_of h1 h3 hg.1 (by rw [HAL.out]; exact hg.2)]; rfl
  have hq := not_empty HI.out
  obtain ⟨hg0, hg1⟩ := hg
  have hgl : [g].length ≤ 70 := by simp
  clear ha
  go_wp2_with fail
  clear hq
  refine (iGrantedBy_ok HGA _ _ _ _ (by first | exact HRa.out | exact Row.drewN HRa.out _)).mono ?_
  rintro e w' ⟨rfl, n1, rfl⟩
  go_wp2_with fail
  refine (lWhole_is HAL h1 h3 _).mono ?_
  rintro e w' ⟨rfl, rfl⟩
  go_wp2_with fail
  refine (iStatementOf _ _ _).mono ?_
  rintro e w5 ⟨v, rfl, ho, hb⟩
  rw [HS1.out] at ho
  obtain ⟨A5, c5, rfl, _, _, _, _⟩ := ho.form
  replace HRa := Lib.hid (Row.below (by first | exact HRa.out | exact Row.drewN HRa.out _) hb)
  replace HB := Lib.hid (bel_trans (by first | exact HB.out | exact bel_drewN HB.out _) hb)
  replace HR3 := Lib.hid (Row.below (by first | exact HR3.out | exact Row.drewN HR3.out _) hb)
  replace HR4 := Lib.hid (Row.below (by first | exact HR4.out | exact Row.drewN HR4.out _) hb)
  have HR5 := Lib.hid (Owns.row ho (by omega))
  clear ho hb
  go_wp2_with fail
  refine (rSame (same_self r) HR3.out HR5.out).mono ?_
  rintro e w' ⟨rfl, m2, rfl⟩
  go_wp2_with fail
  refine (iNotIssue t _ _ _ r _ (by first | exact HR3.out | exact Row.drewN HR3.out _)).mono ?_
  rintro e w6 ⟨v, rfl, ho, hb⟩
  rw [HN2.out] at ho
  obtain ⟨A6, c6, rfl, _, _, _, _⟩ := ho.form
  replace HRa := Lib.hid (Row.below (by first | exact HRa.out | exact Row.drewN HRa.out _) hb)
  replace HB := Lib.hid (bel_trans (by first | exact HB.out | exact bel_drewN HB.out _) hb)
  replace HR3 := Lib.hid (Row.below (by first | exact HR3.out | exact Row.drewN HR3.out _) hb)
  replace HR4 := Lib.hid (Row.below (by first | exact HR4.out | exact Row.drewN HR4.out _) hb)
  replace HR5 := Lib.hid (Row.below (by first | exact HR5.out | exact Row.drewN HR5.out _) hb)
  have HR6 := Lib.hid (Owns.row ho (by omega))
  clear ho hb
  go_wp2_with fail
  refine (iStatementOf _ _ _).mono ?_
  rintro e w7 ⟨v, rfl, ho, hb⟩
  rw [HS2.out] at ho
  obtain ⟨A7, c7, rfl, _, _, _, _⟩ := ho.form
  replace HRa := Lib.hid (Row.below (by first | exact HRa.out | exact Row.drewN HRa.out _) hb)
  replace HB := Lib.hid (bel_trans (by first | exact HB.out | exact bel_drewN HB.out _) hb)
  replace HR3 := Lib.hid (Row.below (by first | exact HR3.out | exact Row.drewN HR3.out _) hb)
  replace HR4 := Lib.hid (Row.below (by first | exact HR4.out | exact Row.drewN HR4.out _) hb)
  replace HR5 := Lib.hid (Row.below (by first | exact HR5.out | exact Row.drewN HR5.out _) hb)
  replace HR6 := Lib.hid (Row.below (by first | exact HR6.out | exact Row.drewN HR6.out _) hb)
  have HR7 := Lib.hid (Owns.row ho (by omega))
  clear ho hb
  go_wp2_with fail
  refine (rSame (same_self [g]) HR6.out HR7.out).mono ?_
  rintro e w' ⟨rfl, m3, rfl⟩
  go_wp2_with fail
  go_ret
  exact ⟨rfl, bel_drewN HB.out _⟩

theorem rFollows {t : Int} {a b : List Int} {v : Bool} (h : Hid (followsB t a b = v)) {A B : Option Addr} {na ca nb cb : Nat} {w : World} (ha : Row w A na ca a) (hb : Row w B nb cb b) :
    Calls Try.prog 34 #[.int .i64 t, .slice A na ca, .slice B nb cb] w fun e w' => e = .returned (.bool v) ∧ ∃ n, w' = w.drewN n :=
  (iFollows t A B na ca nb cb a b w ha hb).mono fun _ _ ⟨he, hw⟩ => ⟨he.trans (ret_bool h.out), hw⟩
theorem rSFollows {t : Int} {a b : List Int} {v : Bool} (h : Hid (followsB t a b = v)) {A B : Option Addr} {na ca nb cb : Nat} {w : World} (ha : Row w A na ca a) (hb : Row w B nb cb b) :
    Calls Try.prog 43 #[.int .i64 t, .slice A na ca, .slice B nb cb] w fun e w' => e = .returned (.bool v) ∧ ∃ n, w' = w.drewN n :=
  (sFollows t A B na ca nb cb a b w ha hb).mono fun _ _ ⟨he, hw⟩ => ⟨he.trans (ret_bool h.out), hw⟩

set_option maxRecDepth 100000 in
set_option maxHeartbeats 4000000 in
theorem wWhetherIssue (A : Option Addr) (nn c : Nat) (zs : List Int) (w : World) (hn : nn = zs.length) (hc : nn ≤ c) (hm : c ≤ maxLen) (hr : ∀ z ∈ zs, 0 ≤ z ∧ z ≤ 255) (hA : Nums .u8 w A zs) :
    Calls Try.prog 7 #[.slice A nn c] w fun e w' => e = .returned (.bool true) ∧ Below w.heap.size w w' := by
  have HO := Lib.hid (drawWhetherIssue_any A nn c zs w hn hc hm hr hA)
  have hm' : nn ≤ 9223372036854775807 := by unfold maxLen at hm; omega
  clear hn hc hm hr hA
  by_cases hl : 1048576 < nn
  · have hd : decide ((1048576 : Int) < (nn : Int)) = true := decide_eq_true (by omega)
    go_enter Try.func7, Try.ntmps7
    go_wp2_with fail
    go_ret
    exact ⟨rfl, Below.refl _ _⟩
  have hd : decide ((1048576 : Int) < (nn : Int)) = false := decide_eq_false (by omega)
  clear hl
  go_enter Try.func7, Try.ntmps7
  go_wp2_with fail
  refine HO.out.mono ?_
  rintro e w1 ⟨t, v1, a, rfl, ht0, ht1, ho1, hl1, hb⟩
  obtain ⟨A1, c1, rfl, _, _, _, _⟩ := ho1.form
  have HRa := Lib.hid (Owns.row ho1 (by omega))
  have HB := Lib.hid hb
  clear hb ho1 HO
  obtain ⟨r, HIS⟩ : ∃ l, Hid (whetherL t a = l) := ⟨_, rfl⟩
  have hrl : r.length ≤ 70 := by rw [← HIS.out]; exact whether_len
  clear hd
  go_wp2_with fail
  refine (iWhetherIssue t _ _ _ a _ HRa.out).mono ?_
  rintro e w3 ⟨v, rfl, ho, hb⟩
  rw [HIS.out] at ho
  obtain ⟨A3, c3, rfl, _, _, _, _⟩ := ho.form
  replace HRa := Lib.hid (Row.below (by first | exact HRa.out | exact Row.drewN HRa.out _) hb)
  replace HB := Lib.hid (bel_trans (by first | exact HB.out | exact bel_drewN HB.out _) hb)
  have HR3 := Lib.hid (Owns.row ho (by omega))
  clear ho hb
  go_wp2_with fail
  refine (sWhetherIssue t _ _ _ a _ HRa.out).mono ?_
  rintro e w4 ⟨v, rfl, ho, hb⟩
  rw [HIS.out] at ho
  obtain ⟨A4, c4, rfl, _, _, _, _⟩ := ho.form
  replace HRa := Lib.hid (Row.below (by first | exact HRa.out | exact Row.drewN HRa.out _) hb)
  replace HB := Lib.hid (bel_trans (by first | exact HB.out | exact bel_drewN HB.out _) hb)
  replace HR3 := Lib.hid (Row.below (by first | exact HR3.out | exact Row.drewN HR3.out _) hb)
  have HR4 := Lib.hid (Owns.row ho (by omega))
  clear ho hb
  go_wp2_with fail
  refine (rSame (same_self r) HR3.out HR4.out).mono ?_
  rintro e w' ⟨rfl, m1, rfl⟩
  obtain ⟨ok, HX⟩ : ∃ x, Hid (issueOkB t a = x) := ⟨_, rfl⟩
  cases ok
  · have HE : Hid (r = []) := by unfold Hid; rw [← HIS.out]; unfold whetherL; rw [HX.out]; rfl
    have hz : r.length ≤ 0 := by rw [HE.out]; simp
    have hq : ((r.length : Int) == 0) = true := by rw [beq_iff_eq]; omega
    clear hz
    go_wp2_with fail
    refine (lAlive _).mono ?_
    rintro e w' ⟨rfl, rfl⟩
    go_wp2_with fail
    go_ret
    exact ⟨rfl, bel_drewN HB.out _⟩
  have ha := HX.out
  obtain ⟨h1, h3⟩ := issue_things ha
  have HI : Hid (issueOkB t r = true) := by unfold Hid; rw [← HIS.out]; exact whether_ok ha
  obtain ⟨al, HAL⟩ : ∃ n, Hid (allOf t = n) := ⟨_, rfl⟩
  have HGR : Hid (grantedI t r = al) := by unfold Hid; rw [granted_ok HI.out, ← HIS.out, law_whether_all ha]; exact HAL.out
  have HT : Hid (whetherL t r = r) := by unfold Hid; rw [← HIS.out]; exact law_whether_twice ha
  have HFO : Hid (followsB t a r = true) := by unfold Hid; rw [← HIS.out]; exact law_whether_follows ha
  have hq := not_empty HI.out
  clear ha
  go_wp2_with fail
  clear hq
  refine (iGrantedBy_ok HGR _ _ _ _ (by first | exact HR3.out | exact Row.drewN HR3.out _)).mono ?_
  rintro e w' ⟨rfl, n1, rfl⟩
  go_wp2_with fail
  refine (lWhole_is HAL h1 h3 _).mono ?_
  rintro e w' ⟨rfl, rfl⟩
  go_wp2_with fail
  refine (iWhetherIssue t _ _ _ r _ (by first | exact HR3.out | exact Row.drewN HR3.out _)).mono ?_
  rintro e w5 ⟨v, rfl, ho, hb⟩
  rw [HT.out] at ho
  obtain ⟨A5, c5, rfl, _, _, _, _⟩ := ho.form
  replace HRa := Lib.hid (Row.below (by first | exact HRa.out | exact Row.drewN HRa.out _) hb)
  replace HB := Lib.hid (bel_trans (by first | exact HB.out | exact bel_drewN HB.out _) hb)
  replace HR3 := Lib.hid (Row.below (by first | exact HR3.out | exact Row.drewN HR3.out _) hb)
  replace HR4 := Lib.hid (Row.below (by first | exact HR4.out | exact Row.drewN HR4.out _) hb)
  have HR5 := Lib.hid (Owns.row ho (by omega))
  clear ho hb
  go_wp2_with fail
  refine (rSame (same_self r) HR5.out HR3.out).mono ?_
  rintro e w' ⟨rfl, m2, rfl⟩
  go_wp2_with fail
  refine (rFollows HFO (by first | exact HRa.out | exact Row.drewN HRa.out _) (by first | exact HR3.out | exact Row.drewN HR3.out _)).mono ?_
  rintro e w' ⟨rfl, m3, rfl⟩
  go_wp2_with fail
  go_ret
  exact ⟨rfl, bel_drewN HB.out _⟩

set_option maxRecDepth 100000 in
set_option maxHeartbeats 4000000 in
theorem wFollows (A : Option Addr) (nn c : Nat) (zs : List Int) (w : World) (hn : nn = zs.length) (hc : nn ≤ c) (hm : c ≤ maxLen) (hr : ∀ z ∈ zs, 0 ≤ z ∧ z ≤ 255) (hA : Nums .u8 w A zs) :
    Calls Try.prog 8 #[.slice A nn c] w fun e w' => e = .returned (.bool true) ∧ Below w.heap.size w w' := by
  have HO := Lib.hid (drawFollows_any A nn c zs w hn hc hm hr hA)
  have hm' : nn ≤ 9223372036854775807 := by unfold maxLen at hm; omega
  clear hn hc hm hr hA
  by_cases hl : 1048576 < nn
  · have hd : decide ((1048576 : Int) < (nn : Int)) = true := decide_eq_true (by omega)
    go_enter Try.func8, Try.ntmps8
    go_wp2_with fail
    go_ret
    exact ⟨rfl, Below.refl _ _⟩
  have hd : decide ((1048576 : Int) < (nn : Int)) = false := decide_eq_false (by omega)
  clear hl
  go_enter Try.func8, Try.ntmps8
  go_wp2_with fail
  refine HO.out.mono ?_
  rintro e w1 ⟨t, v1, a, v2, b, rfl, ht0, ht1, ho1, hl1, ho2, hl2, hb⟩
  obtain ⟨A1, c1, rfl, _, _, _, _⟩ := ho1.form
  obtain ⟨A2, c2, rfl, _, _, _, _⟩ := ho2.form
  have HRa := Lib.hid (Owns.row ho1 (by omega))
  have HRb := Lib.hid (Owns.row ho2 (by omega))
  have HB := Lib.hid hb
  clear hb ho1 ho2 HO hd
  obtain ⟨f, HF⟩ : ∃ x, Hid (followsB t a b = x) := ⟨_, rfl⟩
  go_wp2_with fail
  refine (rFollows HF HRa.out HRb.out).mono ?_
  rintro e w' ⟨rfl, m1, rfl⟩
  go_wp2_with fail
  refine (rSFollows HF (by first | exact HRa.out | exact Row.drewN HRa.out _) (by first | exact HRb.out | exact Row.drewN HRb.out _)).mono ?_
  rintro e w' ⟨rfl, m2, rfl⟩
  obtain ⟨x, HX⟩ : ∃ x, Hid (issueOkB t a = x) := ⟨_, rfl⟩
  cases x
  · obtain rfl : f = false := by rw [← HF.out, follows_eq, okTwo_no1 HX]; rfl
    go_wp2_with fail
    refine (rSIssueOk HX (by first | exact HRa.out | exact Row.drewN HRa.out _)).mono ?_
    rintro e w' ⟨rfl, m3, rfl⟩
    go_wp2_with fail
    refine (lAlive _).mono ?_
    rintro e w' ⟨rfl, rfl⟩
    go_wp2_with fail
    go_ret
    exact ⟨rfl, bel_drewN HB.out _⟩
  obtain ⟨y, HY⟩ : ∃ y, Hid (issueOkB t b = y) := ⟨_, rfl⟩
  cases y
  · obtain rfl : f = false := by rw [← HF.out, follows_eq, okTwo_no HX HY]; rfl
    go_wp2_with fail
    refine (rSIssueOk HX (by first | exact HRa.out | exact Row.drewN HRa.out _)).mono ?_
    rintro e w' ⟨rfl, m4, rfl⟩
    go_wp2_with fail
    refine (rSIssueOk HY (by first | exact HRb.out | exact Row.drewN HRb.out _)).mono ?_
    rintro e w' ⟨rfl, m5, rfl⟩
    go_wp2_with fail
    refine (lAlive _).mono ?_
    rintro e w' ⟨rfl, rfl⟩
    go_wp2_with fail
    go_ret
    exact ⟨rfl, bel_drewN HB.out _⟩
  obtain ⟨h1, h3⟩ := issue_things HX.out
  obtain ⟨r, HIS⟩ : ∃ l, Hid (bothL t a b = l) := ⟨_, rfl⟩
  have hrl : r.length ≤ 70 := by rw [← HIS.out]; exact both_len
  obtain ⟨q, HIQ⟩ : ∃ l, Hid (ifL t a b = l) := ⟨_, rfl⟩
  have hql : q.length ≤ 70 := by rw [← HIQ.out]; exact if_le
  obtain ⟨al, HAL⟩ : ∃ n, Hid (allOf t = n) := ⟨_, rfl⟩
  have HS : Hid (decide (r = a) = f) := by unfold Hid; rw [← HIS.out, law_follows_both HX.out HY.out]; exact HF.out
  have HS2 : Hid (settlesB t q al = f) := by unfold Hid; rw [← HIQ.out, ← HAL.out, law_follows_if HX.out HY.out]; exact HF.out
  go_wp2_with fail
  refine (rSIssueOk HX (by first | exact HRa.out | exact Row.drewN HRa.out _)).mono ?_
  rintro e w' ⟨rfl, m6, rfl⟩
  go_wp2_with fail
  refine (rSIssueOk HY (by first | exact HRb.out | exact Row.drewN HRb.out _)).mono ?_
  rintro e w' ⟨rfl, m7, rfl⟩
  go_wp2_with fail
  refine (iBothIssues t _ _ _ _ _ _ a b _ (by first | exact HRa.out | exact Row.drewN HRa.out _) (by first | exact HRb.out | exact Row.drewN HRb.out _)).mono ?_
  rintro e w3 ⟨v, rfl, ho, hb⟩
  rw [HIS.out] at ho
  obtain ⟨A3, c3, rfl, _, _, _, _⟩ := ho.form
  replace HRa := Lib.hid (Row.below (by first | exact HRa.out | exact Row.drewN HRa.out _) hb)
  replace HRb := Lib.hid (Row.below (by first | exact HRb.out | exact Row.drewN HRb.out _) hb)
  replace HB := Lib.hid (bel_trans (by first | exact HB.out | exact bel_drewN HB.out _) hb)
  have HR3 := Lib.hid (Owns.row ho (by omega))
  clear ho hb
  go_wp2_with fail
  refine (rSame HS HR3.out HRa.out).mono ?_
  rintro e w' ⟨rfl, m8, rfl⟩
  go_wp2_with fail
  refine (iIfIssue t _ _ _ _ _ _ a b _ (by first | exact HRa.out | exact Row.drewN HRa.out _) (by first | exact HRb.out | exact Row.drewN HRb.out _)).mono ?_
  rintro e w4 ⟨v, rfl, ho, hb⟩
  rw [HIQ.out] at ho
  obtain ⟨A4, c4, rfl, _, _, _, _⟩ := ho.form
  replace HRa := Lib.hid (Row.below (by first | exact HRa.out | exact Row.drewN HRa.out _) hb)
  replace HRb := Lib.hid (Row.below (by first | exact HRb.out | exact Row.drewN HRb.out _) hb)
  replace HB := Lib.hid (bel_trans (by first | exact HB.out | exact bel_drewN HB.out _) hb)
  replace HR3 := Lib.hid (Row.below (by first | exact HR3.out | exact Row.drewN HR3.out _) hb)
  have HR4 := Lib.hid (Owns.row ho (by omega))
  clear ho hb
  go_wp2_with fail
  refine (lWhole_is HAL h1 h3 _).mono ?_
  rintro e w' ⟨rfl, rfl⟩
  go_wp2_with fail
  refine (rSettles HS2 HR4.out).mono ?_
  rintro e w' ⟨rfl, m9, rfl⟩
  go_wp2_with fail
  go_ret
  exact ⟨rfl, bel_drewN HB.out _⟩
end Go.Proofs.Ytfancfjbipjibaa
