/-
  What the proofs of this seat's statements share (Shy).
-/
import Derived.Test.YtmdpolllmipppaaU19

namespace Go.Proofs.Ytmdpolllmipppaa
open Go.RowKit

set_option maxRecDepth 100000 in
set_option maxHeartbeats 4000000 in
theorem wIssueOf (A : Option Addr) (nn c : Nat) (zs : List Int) (w : World) (hn : nn = zs.length) (hc : nn ≤ c) (hm : c ≤ maxLen) (hr : ∀ z ∈ zs, 0 ≤ z ∧ z ≤ 255) (hA : Nums .u8 w A zs) :
    Calls Try.prog 3 #[.slice A nn c] w fun e w' => e = .returned (.bool true) ∧ Below w.heap.size w w' := by
  have HO := Lib.hid (drawIssueOf_any A nn c zs w hn hc hm hr hA)
  have hm' : nn ≤ 9223372036854775807 := by unfold maxLen at hm; omega
  clear hn hc hm hr hA
  by_cases hl : 1048576 < nn
  · have hd : decide ((1048576 : Int) < (nn : Int)) = true := decide_eq_true (by omega)
    go_enter Try.func3, Try.ntmps3
    go_wp2_with fail
    go_ret
    exact ⟨rfl, Below.refl _ _⟩
  have hd : decide ((1048576 : Int) < (nn : Int)) = false := decide_eq_false (by omega)
  clear hl
  go_enter Try.func3, Try.ntmps3
  go_wp2_with fail
  refine HO.out.mono ?_
  rintro e w1 ⟨t, s, rfl, ht0, ht1, hs, hb⟩
  have HB := Lib.hid hb
  clear hb HO hd
  obtain ⟨r, HIS⟩ : ∃ l, Hid (issueT t s = l) := ⟨_, rfl⟩
  have hrl : r.length ≤ 70 := by rw [← HIS.out]; exact issueT_len t s
  rcases hso : senT t s with _ | x
  · have HT : Hid (isT t s = false) := isT_none hso
    have HE : Hid (r = []) := by unfold Hid; rw [← HIS.out]; exact (issueT_none hso).1
    have hz : r.length ≤ 0 := by rw [HE.out]; simp
    have hq : ((r.length : Int) == 0) = true := by rw [beq_iff_eq]; omega
    clear hz hso HE
    go_wp2_with fail
    refine (iIssueOf_is HIS HT _ (by omega)).mono ?_
    rintro e w3 ⟨v, rfl, ho, hb⟩
    obtain ⟨A3, c3, rfl, _, _, _, _⟩ := ho.form
    replace HB := Lib.hid (bel_trans (by first | exact HB.out | exact bel_drewN HB.out _) hb)
    have HR3 := Lib.hid (Owns.row ho (by omega))
    clear ho hb
    go_wp2_with fail
    refine (sIssueOf_is HIS HT _ (by omega)).mono ?_
    rintro e w4 ⟨v, rfl, ho, hb⟩
    obtain ⟨A4, c4, rfl, _, _, _, _⟩ := ho.form
    replace HB := Lib.hid (bel_trans (by first | exact HB.out | exact bel_drewN HB.out _) hb)
    replace HR3 := Lib.hid (Row.below (by first | exact HR3.out | exact Row.drewN HR3.out _) hb)
    have HR4 := Lib.hid (Owns.row ho (by omega))
    clear ho hb
    go_wp2_with fail
    refine (rSame (same_self r) HR3.out HR4.out).mono ?_
    rintro e w' ⟨rfl, m1, rfl⟩
    go_wp2_with fail
    refine (lAlive _).mono ?_
    rintro e w' ⟨rfl, rfl⟩
    go_wp2_with fail
    go_ret
    exact ⟨rfl, bel_drewN HB.out _⟩
  · have HT : Hid (isT t s = true) := isT_some hso
    have h1 := (senT_ok hso).1
    have h3 := (senT_ok hso).2.1
    have HI : Hid (issueOkB t r = true) := by unfold Hid; rw [← HIS.out]; exact issueT_ok hso
    obtain ⟨al, HAL⟩ : ∃ n, Hid (allOf t = n) := ⟨_, rfl⟩
    obtain ⟨g, HGA⟩ : ∃ n, Hid (grantedI t r = n) := ⟨_, rfl⟩
    obtain ⟨s2, HS2⟩ : ∃ u, Hid (ByteArray.mk #[33, 33] ++ s = u) := ⟨_, rfl⟩
    obtain ⟨s3, HS3⟩ : ∃ u, Hid (ByteArray.mk #[63] ++ s = u) := ⟨_, rfl⟩
    obtain ⟨q, HIQ⟩ : ∃ l, Hid (issueT t s3 = l) := ⟨_, rfl⟩
    have hql : q.length ≤ 70 := by rw [← HIQ.out]; exact issueT_len t s3
    have hz2 : (ByteArray.mk #[33, 33] ++ s).size ≤ 9223372036854775807 := by rw [ByteArray.size_append, size2]; omega
    have hz3 : (ByteArray.mk #[63] ++ s).size ≤ 9223372036854775807 := by rw [ByteArray.size_append, size1]; omega
    have HI2 : Hid (issueT t (ByteArray.mk #[33, 33] ++ s) = [g]) := by unfold Hid; rw [issueT_nono hso (by omega), ← HGA.out, HIS.out, granted_ok HI.out]
    have HT2 : Hid (isT t (ByteArray.mk #[33, 33] ++ s) = true) := isT_some (senT_nono hso (by omega))
    have HI3 : Hid (issueT t (ByteArray.mk #[63] ++ s) = q) := by unfold Hid; rw [HS3.out]; exact HIQ.out
    have HT3 : Hid (isT t (ByteArray.mk #[63] ++ s) = true) := isT_some (senT_ask hso (by omega))
    have HG3 : Hid (grantedI t q = al) := by unfold Hid; rw [← HI3.out, issueT_ask hso (by omega), HAL.out]
    have HST : Hid (statementL t g = [g]) := by unfold Hid; rw [← HGA.out, granted_ok HI.out]; exact statement_union HI.out
    have hgl : [g].length ≤ 70 := by simp
    clear hso HS2 HS3 HIQ
    go_wp2_with fail
    refine (iIssueOf_is HIS HT _ (by omega)).mono ?_
    rintro e w3 ⟨v, rfl, ho, hb⟩
    obtain ⟨A3, c3, rfl, _, _, _, _⟩ := ho.form
    replace HB := Lib.hid (bel_trans (by first | exact HB.out | exact bel_drewN HB.out _) hb)
    have HR3 := Lib.hid (Owns.row ho (by omega))
    clear ho hb
    go_wp2_with fail
    refine (sIssueOf_is HIS HT _ (by omega)).mono ?_
    rintro e w4 ⟨v, rfl, ho, hb⟩
    obtain ⟨A4, c4, rfl, _, _, _, _⟩ := ho.form
    replace HB := Lib.hid (bel_trans (by first | exact HB.out | exact bel_drewN HB.out _) hb)
    replace HR3 := Lib.hid (Row.below (by first | exact HR3.out | exact Row.drewN HR3.out _) hb)
    have HR4 := Lib.hid (Owns.row ho (by omega))
    clear ho hb
    go_wp2_with fail
    refine (rSame (same_self r) HR3.out HR4.out).mono ?_
    rintro e w' ⟨rfl, m2, rfl⟩
    go_wp2_with fail
    refine (iIssueOf_is HI2 HT2 _ hz2).mono ?_
    rintro e w5 ⟨v, rfl, ho, hb⟩
    obtain ⟨A5, c5, rfl, _, _, _, _⟩ := ho.form
    replace HB := Lib.hid (bel_trans (by first | exact HB.out | exact bel_drewN HB.out _) hb)
    replace HR3 := Lib.hid (Row.below (by first | exact HR3.out | exact Row.drewN HR3.out _) hb)
    replace HR4 := Lib.hid (Row.below (by first | exact HR4.out | exact Row.drewN HR4.out _) hb)
    have HR5 := Lib.hid (Owns.row ho (by omega))
    clear ho hb
    go_wp2_with fail
    refine (iIssueOf_is HI3 HT3 _ hz3).mono ?_
    rintro e w6 ⟨v, rfl, ho, hb⟩
    obtain ⟨A6, c6, rfl, _, _, _, _⟩ := ho.form
    replace HB := Lib.hid (bel_trans (by first | exact HB.out | exact bel_drewN HB.out _) hb)
    replace HR3 := Lib.hid (Row.below (by first | exact HR3.out | exact Row.drewN HR3.out _) hb)
    replace HR4 := Lib.hid (Row.below (by first | exact HR4.out | exact Row.drewN HR4.out _) hb)
    replace HR5 := Lib.hid (Row.below (by first | exact HR5.out | exact Row.drewN HR5.out _) hb)
    have HR6 := Lib.hid (Owns.row ho (by omega))
    clear ho hb
    go_wp2_with fail
    refine (rIssueOk HI (by first | exact HR3.out | exact Row.drewN HR3.out _)).mono ?_
    rintro e w' ⟨rfl, m3, rfl⟩
    go_wp2_with fail
    refine (iGrantedBy_ok HGA _ _ _ _ (by first | exact HR3.out | exact Row.drewN HR3.out _)).mono ?_
    rintro e w' ⟨rfl, m4, rfl⟩
    go_wp2_with fail
    refine (iStatementOf _ _ _).mono ?_
    rintro e w7 ⟨v, rfl, ho, hb⟩
    rw [HST.out] at ho
    obtain ⟨A7, c7, rfl, _, _, _, _⟩ := ho.form
    replace HB := Lib.hid (bel_trans (by first | exact HB.out | exact bel_drewN HB.out _) hb)
    replace HR3 := Lib.hid (Row.below (by first | exact HR3.out | exact Row.drewN HR3.out _) hb)
    replace HR4 := Lib.hid (Row.below (by first | exact HR4.out | exact Row.drewN HR4.out _) hb)
    replace HR5 := Lib.hid (Row.below (by first | exact HR5.out | exact Row.drewN HR5.out _) hb)
    replace HR6 := Lib.hid (Row.below (by first | exact HR6.out | exact Row.drewN HR6.out _) hb)
    have HR7 := Lib.hid (Owns.row ho (by omega))
    clear ho hb
    go_wp2_with fail
    refine (rSame (same_self [g]) HR5.out HR7.out).mono ?_
    rintro e w' ⟨rfl, m5, rfl⟩
    go_wp2_with fail
    refine (iGrantedBy_ok HG3 _ _ _ _ (by first | exact HR6.out | exact Row.drewN HR6.out _)).mono ?_
    rintro e w' ⟨rfl, m6, rfl⟩
    go_wp2_with fail
    refine (lWhole_is HAL h1 h3 _).mono ?_
    rintro e w' ⟨rfl, rfl⟩
    go_wp2_with fail
    go_ret
    exact ⟨rfl, bel_drewN HB.out _⟩

set_option maxRecDepth 100000 in
set_option maxHeartbeats 4000000 in
theorem wPlainOk (A : Option Addr) (nn c : Nat) (zs : List Int) (w : World) (hn : nn = zs.length) (hc : nn ≤ c) (hm : c ≤ maxLen) (hr : ∀ z ∈ zs, 0 ≤ z ∧ z ≤ 255) (hA : Nums .u8 w A zs) :
    Calls Try.prog 7 #[.slice A nn c] w fun e w' => e = .returned (.bool true) ∧ Below w.heap.size w w' := by
  have HO := Lib.hid (drawPlainOk_any A nn c zs w hn hc hm hr hA)
  have hm' : nn ≤ 9223372036854775807 := by unfold maxLen at hm; omega
  clear hn hc hm hr hA
  by_cases hl : 1048576 < nn
  · have hd : decide ((1048576 : Int) < (nn : Int)) = true := decide_eq_true (by omega)
    go_enter Try.func7, Try.ntmps7
    go_wp2_with fail
    go_ret
    exact ⟨rfl, Below.refl _ _⟩
  have hd : decide ((1048576 : Int) < (nn : Int)) = false := decide_eq_false (by omega)
  clear hl
  go_enter Try.func7, Try.ntmps7
  go_wp2_with fail
  refine HO.out.mono ?_
  rintro e w1 ⟨t, s, rfl, ht0, ht1, hs, hb⟩
  have HB := Lib.hid hb
  clear hb HO hd
  rcases hp : plainT t s with _ | _
  · have HP := Lib.hid hp
    clear hp
    go_wp2_with fail
    refine (iPlainOk_is HP _ (by omega)).mono ?_
    rintro e w' ⟨rfl, hb⟩
    replace HB := Lib.hid (bel_trans (by first | exact HB.out | exact bel_drewN HB.out _) hb)
    clear hb
    go_wp2_with fail
    refine (sPlainOk_is HP _ (by omega)).mono ?_
    rintro e w' ⟨rfl, hb⟩
    replace HB := Lib.hid (bel_trans (by first | exact HB.out | exact bel_drewN HB.out _) hb)
    clear hb
    go_wp2_with fail
    refine (lAlive _).mono ?_
    rintro e w' ⟨rfl, rfl⟩
    go_wp2_with fail
    go_ret
    exact ⟨rfl, HB.out⟩
  · have HP := Lib.hid hp
    obtain ⟨r, HIS⟩ : ∃ l, Hid (issueT t s = l) := ⟨_, rfl⟩
    have hrl : r.length ≤ 70 := by rw [← HIS.out]; exact issueT_len t s
    obtain ⟨g, HTR⟩ : ∃ n, Hid (trueT t s = n) := ⟨_, rfl⟩
    have HT : Hid (isT t s = true) := by obtain ⟨x, hx, _⟩ := plain_some hp; exact isT_some hx
    have HST : Hid (statementL t g = r) := by unfold Hid; rw [← HTR.out, ← HIS.out]; exact plain_law hp
    clear hp
    go_wp2_with fail
    refine (iPlainOk_is HP _ (by omega)).mono ?_
    rintro e w' ⟨rfl, hb⟩
    replace HB := Lib.hid (bel_trans (by first | exact HB.out | exact bel_drewN HB.out _) hb)
    clear hb
    go_wp2_with fail
    refine (sPlainOk_is HP _ (by omega)).mono ?_
    rintro e w' ⟨rfl, hb⟩
    replace HB := Lib.hid (bel_trans (by first | exact HB.out | exact bel_drewN HB.out _) hb)
    clear hb
    go_wp2_with fail
    refine (iIssueOf_is HIS HT _ (by omega)).mono ?_
    rintro e w3 ⟨v, rfl, ho, hb⟩
    obtain ⟨A3, c3, rfl, _, _, _, _⟩ := ho.form
    replace HB := Lib.hid (bel_trans (by first | exact HB.out | exact bel_drewN HB.out _) hb)
    have HR3 := Lib.hid (Owns.row ho (by omega))
    clear ho hb
    go_wp2_with fail
    refine (iTrueIn_is HTR _ (by omega)).mono ?_
    rintro e w' ⟨rfl, hb⟩
    replace HB := Lib.hid (bel_trans (by first | exact HB.out | exact bel_drewN HB.out _) hb)
    replace HR3 := Lib.hid (Row.below (by first | exact HR3.out | exact Row.drewN HR3.out _) hb)
    clear hb
    go_wp2_with fail
    refine (iStatementOf _ _ _).mono ?_
    rintro e w4 ⟨v, rfl, ho, hb⟩
    rw [HST.out] at ho
    obtain ⟨A4, c4, rfl, _, _, _, _⟩ := ho.form
    replace HB := Lib.hid (bel_trans (by first | exact HB.out | exact bel_drewN HB.out _) hb)
    replace HR3 := Lib.hid (Row.below (by first | exact HR3.out | exact Row.drewN HR3.out _) hb)
    have HR4 := Lib.hid (Owns.row ho (by omega))
    clear ho hb
    go_wp2_with fail
    refine (rSame (same_self r) HR3.out HR4.out).mono ?_
    rintro e w' ⟨rfl, m1, rfl⟩
    go_wp2_with fail
    go_ret
    exact ⟨rfl, bel_drewN HB.out _⟩

set_option maxRecDepth 100000 in
set_option maxHeartbeats 4000000 in
theorem wTrueIn (A : Option Addr) (nn c : Nat) (zs : List Int) (w : World) (hn : nn = zs.length) (hc : nn ≤ c) (hm : c ≤ maxLen) (hr : ∀ z ∈ zs, 0 ≤ z ∧ z ≤ 255) (hA : Nums .u8 w A zs) :
    Calls Try.prog 9 #[.slice A nn c] w fun e w' => e = .returned (.bool true) ∧ Below w.heap.size w w' := by
  have HO := Lib.hid (drawTrueIn_any A nn c zs w hn hc hm hr hA)
  have hm' : nn ≤ 9223372036854775807 := by unfold maxLen at hm; omega
  clear hn hc hm hr hA
  by_cases hl : 1048576 < nn
  · have hd : decide ((1048576 : Int) < (nn : Int)) = true := decide_eq_true (by omega)
    go_enter Try.func9, Try.ntmps9
    go_wp2_with fail
    go_ret
    exact ⟨rfl, Below.refl _ _⟩
  have hd : decide ((1048576 : Int) < (nn : Int)) = false := decide_eq_false (by omega)
  clear hl
  go_enter Try.func9, Try.ntmps9
  go_wp2_with fail
  refine HO.out.mono ?_
  rintro e w1 ⟨t, s, rfl, ht0, ht1, hs, hb⟩
  have HB := Lib.hid hb
  clear hb HO hd
  rcases hso : senT t s with _ | x
  · have HTR : Hid (trueT t s = -1) := trueT_none hso
    clear hso
    go_wp2_with fail
    refine (iTrueIn_is HTR _ (by omega)).mono ?_
    rintro e w' ⟨rfl, hb⟩
    replace HB := Lib.hid (bel_trans (by first | exact HB.out | exact bel_drewN HB.out _) hb)
    clear hb
    go_wp2_with fail
    refine (sTrueIn_is HTR _ (by omega)).mono ?_
    rintro e w' ⟨rfl, hb⟩
    replace HB := Lib.hid (bel_trans (by first | exact HB.out | exact bel_drewN HB.out _) hb)
    clear hb
    go_wp2_with fail
    refine (lAlive _).mono ?_
    rintro e w' ⟨rfl, rfl⟩
    go_wp2_with fail
    go_ret
    exact ⟨rfl, HB.out⟩
  · obtain ⟨r, HIS⟩ : ∃ l, Hid (issueT t s = l) := ⟨_, rfl⟩
    have hrl : r.length ≤ 70 := by rw [← HIS.out]; exact issueT_len t s
    obtain ⟨g, HTR⟩ : ∃ n, Hid (trueT t s = n) := ⟨_, rfl⟩
    obtain ⟨al, HAL⟩ : ∃ n, Hid (allOf t = n) := ⟨_, rfl⟩
    have hal1 : al < 256 := by rw [← HAL.out]; exact (allOf_lt t).2
    have hg0 : 0 ≤ g := by rw [← HTR.out]; exact (true_range hso).1
    have hg1 : g ≤ al := by rw [← HTR.out, ← HAL.out]; exact (true_range hso).2
    have h1 := (senT_ok hso).1
    have h3 := (senT_ok hso).2.1
    have HT : Hid (isT t s = true) := isT_some hso
    have HGA : Hid (grantedI t r = g) := by unfold Hid; rw [← HIS.out, ← HTR.out, granted_ok (issueT_ok hso), trueT_some hso]
    have HT2 : Hid (trueT t (ByteArray.mk #[33] ++ s) = al - g) := by unfold Hid; rw [true_no hso (by omega), HAL.out, HTR.out]
    have hz2 : (ByteArray.mk #[33] ++ s).size ≤ 9223372036854775807 := by rw [ByteArray.size_append, size1]; omega
    have hneg : decide (g < 0) = false := decide_eq_false (by omega)
    have hlen : decide ((60 : Int) ≤ (s.size : Int)) = false := decide_eq_false (by omega)
    clear hso
    go_wp2_with fail
    refine (iTrueIn_is HTR _ (by omega)).mono ?_
    rintro e w' ⟨rfl, hb⟩
    replace HB := Lib.hid (bel_trans (by first | exact HB.out | exact bel_drewN HB.out _) hb)
    clear hb
    go_wp2_with fail
    refine (sTrueIn_is HTR _ (by omega)).mono ?_
    rintro e w' ⟨rfl, hb⟩
    replace HB := Lib.hid (bel_trans (by first | exact HB.out | exact bel_drewN HB.out _) hb)
    clear hb
    go_wp2_with fail
    refine (iIssueOf_is HIS HT _ (by omega)).mono ?_
    rintro e w3 ⟨v, rfl, ho, hb⟩
    obtain ⟨A3, c3, rfl, _, _, _, _⟩ := ho.form
    replace HB := Lib.hid (bel_trans (by first | exact HB.out | exact bel_drewN HB.out _) hb)
    have HR3 := Lib.hid (Owns.row ho (by omega))
    clear ho hb
    go_wp2_with fail
    refine (iGrantedBy_ok HGA _ _ _ _ (by first | exact HR3.out | exact Row.drewN HR3.out _)).mono ?_
    rintro e w' ⟨rfl, m1, rfl⟩
    go_wp2_with fail
    refine (iTrueIn_is HT2 _ hz2).mono ?_
    rintro e w' ⟨rfl, hb⟩
    replace HB := Lib.hid (bel_trans (by first | exact HB.out | exact bel_drewN HB.out _) hb)
    replace HR3 := Lib.hid (Row.below (by first | exact HR3.out | exact Row.drewN HR3.out _) hb)
    clear hb
    go_wp2_with fail
    refine (lWhole_is HAL h1 h3 _).mono ?_
    rintro e w' ⟨rfl, rfl⟩
    go_wp2_with fail
    go_ret
    exact ⟨rfl, by first | exact HB.out | exact bel_drewN HB.out _⟩

set_option maxRecDepth 100000 in
set_option maxHeartbeats 4000000 in
theorem wEntailsOf (A : Option Addr) (nn c : Nat) (zs : List Int) (w : World) (hn : nn = zs.length) (hc : nn ≤ c) (hm : c ≤ maxLen) (hr : ∀ z ∈ zs, 0 ≤ z ∧ z ≤ 255) (hA : Nums .u8 w A zs) :
    Calls Try.prog 11 #[.slice A nn c] w fun e w' => e = .returned (.bool true) ∧ Below w.heap.size w w' := by
  have HO := Lib.hid (drawEntailsOf_any A nn c zs w hn hc hm hr hA)
  have hm' : nn ≤ 9223372036854775807 := by unfold maxLen at hm; omega
  clear hn hc hm hr hA
  by_cases hl : 1048576 < nn
  · have hd : decide ((1048576 : Int) < (nn : Int)) = true := decide_eq_true (by omega)
    go_enter Try.func11, Try.ntmps11
    go_wp2_with fail
    go_ret
    exact ⟨rfl, Below.refl _ _⟩
  have hd : decide ((1048576 : Int) < (nn : Int)) = false := decide_eq_false (by omega)
  clear hl
  go_enter Try.func11, Try.ntmps11
  go_wp2_with fail
  refine HO.out.mono ?_
  rintro e w1 ⟨t, s, u, rfl, ht0, ht1, hs, hu, hb⟩
  have HB := Lib.hid hb
  clear hb HO hd
  obtain ⟨a, HTA⟩ : ∃ n, Hid (trueT t s = n) := ⟨_, rfl⟩
  obtain ⟨b, HTB⟩ : ∃ n, Hid (trueT t u = n) := ⟨_, rfl⟩
  rcases hso : senT t s with _ | x
  · have HEN : Hid (entailsT t s u = false) := entails_no (.inl hso)
    have ha : a < 0 := by rw [← HTA.out, trueT_none hso]; omega
    have hda : decide (a < 0) = true := decide_eq_true ha
    clear hso ha
    go_wp2_with fail
    refine (iEntailsOf_is HEN _ (by omega) (by omega)).mono ?_
    rintro e w' ⟨rfl, hb⟩
    replace HB := Lib.hid (bel_trans (by first | exact HB.out | exact bel_drewN HB.out _) hb)
    clear hb
    go_wp2_with fail
    refine (sEntailsOf_is HEN _ (by omega) (by omega)).mono ?_
    rintro e w' ⟨rfl, hb⟩
    replace HB := Lib.hid (bel_trans (by first | exact HB.out | exact bel_drewN HB.out _) hb)
    clear hb
    go_wp2_with fail
    refine (iTrueIn_is HTA _ (by omega)).mono ?_
    rintro e w' ⟨rfl, hb⟩
    replace HB := Lib.hid (bel_trans (by first | exact HB.out | exact bel_drewN HB.out _) hb)
    clear hb
    go_wp2_with fail
    refine (iTrueIn_is HTB _ (by omega)).mono ?_
    rintro e w' ⟨rfl, hb⟩
    replace HB := Lib.hid (bel_trans (by first | exact HB.out | exact bel_drewN HB.out _) hb)
    clear hb
    go_wp2_with fail
    refine (lAlive _).mono ?_
    rintro e w' ⟨rfl, rfl⟩
    go_wp2_with fail
    go_ret
    exact ⟨rfl, HB.out⟩
  have ha0 : 0 ≤ a := by rw [← HTA.out]; exact (true_range hso).1
  have hda : decide (a < 0) = false := decide_eq_false (by omega)
  rcases hsu : senT t u with _ | y
  · have HEN : Hid (entailsT t s u = false) := entails_no (.inr hsu)
    have hb : b < 0 := by rw [← HTB.out, trueT_none hsu]; omega
    have hdb : decide (b < 0) = true := decide_eq_true hb
    clear hso hsu hb
    go_wp2_with fail
    refine (iEntailsOf_is HEN _ (by omega) (by omega)).mono ?_
    rintro e w' ⟨rfl, hb⟩
    replace HB := Lib.hid (bel_trans (by first | exact HB.out | exact bel_drewN HB.out _) hb)
    clear hb
    go_wp2_with fail
    refine (sEntailsOf_is HEN _ (by omega) (by omega)).mono ?_
    rintro e w' ⟨rfl, hb⟩
    replace HB := Lib.hid (bel_trans (by first | exact HB.out | exact bel_drewN HB.out _) hb)
    clear hb
    go_wp2_with fail
    refine (iTrueIn_is HTA _ (by omega)).mono ?_
    rintro e w' ⟨rfl, hb⟩
    replace HB := Lib.hid (bel_trans (by first | exact HB.out | exact bel_drewN HB.out _) hb)
    clear hb
    go_wp2_with fail
    refine (iTrueIn_is HTB _ (by omega)).mono ?_
    rintro e w' ⟨rfl, hb⟩
    replace HB := Lib.hid (bel_trans (by first | exact HB.out | exact bel_drewN HB.out _) hb)
    clear hb
    go_wp2_with fail
    refine (lAlive _).mono ?_
    rintro e w' ⟨rfl, rfl⟩
    go_wp2_with fail
    go_ret
    exact ⟨rfl, HB.out⟩
  obtain ⟨al, HAL⟩ : ∃ n, Hid (allOf t = n) := ⟨_, rfl⟩
  have hal1 : al < 256 := by rw [← HAL.out]; exact (allOf_lt t).2
  have ha1 : a < 256 := by have : a ≤ al := by rw [← HTA.out, ← HAL.out]; exact (true_range hso).2
                           omega
  have hb0 : 0 ≤ b := by rw [← HTB.out]; exact (true_range hsu).1
  have hdb : decide (b < 0) = false := decide_eq_false (by omega)
  have h1 := (senT_ok hso).1
  have h3 := (senT_ok hso).2.1
  have hz2 : (ByteArray.mk #[40] ++ s ++ ByteArray.mk #[62] ++ u ++ ByteArray.mk #[41]).size ≤ 9223372036854775807 := by simp only [ByteArray.size_append, size1]; omega
  have hlen : decide ((60 : Int) < (s.size : Int) + (u.size : Int) + 3) = false := decide_eq_false (by omega)
  have HSU : Hid (supportsT t al (ByteArray.mk #[40] ++ s ++ ByteArray.mk #[62] ++ u ++ ByteArray.mk #[41]) = entailsT t s u) := by
    unfold Hid; rw [← HAL.out]; exact entails_supports hso hsu (by omega)
  clear hso hsu
  rcases hen : entailsT t s u with _ | _
  · have HEN := Lib.hid hen
    rw [hen] at HSU
    clear hen
    go_wp2_with fail
    refine (iEntailsOf_is HEN _ (by omega) (by omega)).mono ?_
    rintro e w' ⟨rfl, hb⟩
    replace HB := Lib.hid (bel_trans (by first | exact HB.out | exact bel_drewN HB.out _) hb)
    clear hb
    go_wp2_with fail
    refine (sEntailsOf_is HEN _ (by omega) (by omega)).mono ?_
    rintro e w' ⟨rfl, hb⟩
    replace HB := Lib.hid (bel_trans (by first | exact HB.out | exact bel_drewN HB.out _) hb)
    clear hb
    go_wp2_with fail
    refine (iTrueIn_is HTA _ (by omega)).mono ?_
    rintro e w' ⟨rfl, hb⟩
    replace HB := Lib.hid (bel_trans (by first | exact HB.out | exact bel_drewN HB.out _) hb)
    clear hb
    go_wp2_with fail
    refine (iTrueIn_is HTB _ (by omega)).mono ?_
    rintro e w' ⟨rfl, hb⟩
    replace HB := Lib.hid (bel_trans (by first | exact HB.out | exact bel_drewN HB.out _) hb)
    clear hb
    go_wp2_with fail
    refine (lWhole_is HAL h1 h3 _).mono ?_
    rintro e w' ⟨rfl, rfl⟩
    go_wp2_with fail
    refine (iSupportsT_is HSU _ hz2).mono ?_
    rintro e w' ⟨rfl, hb⟩
    replace HB := Lib.hid (bel_trans (by first | exact HB.out | exact bel_drewN HB.out _) hb)
    clear hb
    go_wp2_with fail
    go_ret
    exact ⟨rfl, HB.out⟩
  · have HEN := Lib.hid hen
    have HW : Hid (withinB a b = true) := by unfold Hid; rw [← HTA.out, ← HTB.out]; exact entails_within hen
    rw [hen] at HSU
    clear hen
    go_wp2_with fail
    refine (iEntailsOf_is HEN _ (by omega) (by omega)).mono ?_
    rintro e w' ⟨rfl, hb⟩
    replace HB := Lib.hid (bel_trans (by first | exact HB.out | exact bel_drewN HB.out _) hb)
    clear hb
    go_wp2_with fail
    refine (sEntailsOf_is HEN _ (by omega) (by omega)).mono ?_
    rintro e w' ⟨rfl, hb⟩
    replace HB := Lib.hid (bel_trans (by first | exact HB.out | exact bel_drewN HB.out _) hb)
    clear hb
    go_wp2_with fail
    refine (iTrueIn_is HTA _ (by omega)).mono ?_
    rintro e w' ⟨rfl, hb⟩
    replace HB := Lib.hid (bel_trans (by first | exact HB.out | exact bel_drewN HB.out _) hb)
    clear hb
    go_wp2_with fail
    refine (iTrueIn_is HTB _ (by omega)).mono ?_
    rintro e w' ⟨rfl, hb⟩
    replace HB := Lib.hid (bel_trans (by first | exact HB.out | exact bel_drewN HB.out _) hb)
    clear hb
    go_wp2_with fail
    refine (lWithin_is HW ha0 ha1 hb0 _).mono ?_
    rintro e w' ⟨rfl, rfl⟩
    go_wp2_with fail
    refine (lWhole_is HAL h1 h3 _).mono ?_
    rintro e w' ⟨rfl, rfl⟩
    go_wp2_with fail
    refine (iSupportsT_is HSU _ hz2).mono ?_
    rintro e w' ⟨rfl, hb⟩
    replace HB := Lib.hid (bel_trans (by first | exact HB.out | exact bel_drewN HB.out _) hb)
    clear hb
    go_wp2_with fail
    go_ret
    exact ⟨rfl, HB.out⟩

set_option maxRecDepth 100000 in
set_option maxHeartbeats 4000000 in
theorem wSupports (A B : Option Addr) (nn mm c d : Nat) (zs qs : List Int) (w : World) (hn : nn = zs.length) (hc : nn ≤ c) (hm : c ≤ maxLen) (hr : ∀ z ∈ zs, 0 ≤ z ∧ z ≤ 255) (hA : Nums .u8 w A zs)
    (hn2 : mm = qs.length) (hc2 : mm ≤ d) (hm2 : d ≤ maxLen) (_hr2 : ∀ z ∈ qs, 0 ≤ z ∧ z ≤ 255) (_hB : Nums .u8 w B qs) :
    Calls Try.prog 5 #[.slice A nn c, .slice B mm d] w fun e w' => e = .returned (.bool true) ∧ Below w.heap.size w w' := by
  have HO := Lib.hid (drawSupports_any A nn c zs w hn hc hm hr hA)
  have hm' : nn ≤ 9223372036854775807 := by unfold maxLen at hm; omega
  have hm2' : mm ≤ 9223372036854775807 := by unfold maxLen at hm2; omega
  clear hn hc hm hr hA hn2 hc2 hm2 _hr2 _hB
  by_cases hl : 1048576 < nn
  · have hd : decide ((1048576 : Int) < (nn : Int)) = true := decide_eq_true (by omega)
    go_enter Try.func5, Try.ntmps5
    go_wp2_with fail
    go_ret
    exact ⟨rfl, Below.refl _ _⟩
  by_cases hl2 : 1048576 < mm
  · have hd : decide ((1048576 : Int) < (nn : Int)) = false := decide_eq_false (by omega)
    have hd2 : decide ((1048576 : Int) < (mm : Int)) = true := decide_eq_true (by omega)
    go_enter Try.func5, Try.ntmps5
    go_wp2_with fail
    go_ret
    exact ⟨rfl, Below.refl _ _⟩
  have hd : decide ((1048576 : Int) < (nn : Int)) = false := decide_eq_false (by omega)
  have hd2 : decide ((1048576 : Int) < (mm : Int)) = false := decide_eq_false (by omega)
  have hmm : mm ≤ 1048576 := by omega
  clear hl hl2
  go_enter Try.func5, Try.ntmps5
  go_wp2_with fail
  refine HO.out.mono ?_
  rintro e w1 ⟨t, k, s, rfl, ht0, ht1, hk0, hk1, hs, hb⟩
  have HB := Lib.hid hb
  clear hb HO hd hd2
  obtain ⟨r, HIS⟩ : ∃ l, Hid (issueT t s = l) := ⟨_, rfl⟩
  have hrl : r.length ≤ 70 := by rw [← HIS.out]; exact issueT_len t s
  rcases hso : senT t s with _ | x
  · have HT : Hid (isT t s = false) := isT_none hso
    have HP : Hid (supportsT t k s = false) := by unfold Hid supportsT; rw [hso]
    clear hso
    go_wp2_with fail
    refine (iSupportsT_is HP _ (by omega)).mono ?_
    rintro e w' ⟨rfl, hb⟩
    replace HB := Lib.hid (bel_trans (by first | exact HB.out | exact bel_drewN HB.out _) hb)
    clear hb
    go_wp2_with fail
    refine (sSupportsT_is HP _ (by omega)).mono ?_
    rintro e w' ⟨rfl, hb⟩
    replace HB := Lib.hid (bel_trans (by first | exact HB.out | exact bel_drewN HB.out _) hb)
    clear hb
    go_wp2_with fail
    refine (iIssueOf_is HIS HT _ (by omega)).mono ?_
    rintro e w3 ⟨v, rfl, ho, hb⟩
    obtain ⟨A3, c3, rfl, _, _, _, _⟩ := ho.form
    replace HB := Lib.hid (bel_trans (by first | exact HB.out | exact bel_drewN HB.out _) hb)
    have HR3 := Lib.hid (Owns.row ho (by omega))
    clear ho hb
    go_wp2_with fail
    refine (lAlive _).mono ?_
    rintro e w' ⟨rfl, rfl⟩
    go_wp2_with fail
    go_ret
    exact ⟨rfl, HB.out⟩
  have HT : Hid (isT t s = true) := isT_some hso
  rcases hk : setOkB t k with _ | _
  · have HK := Lib.hid hk
    have HP : Hid (supportsT t k s = false) := by unfold Hid supportsT; rw [hso]; simp only [hk]; rfl
    clear hso hk
    go_wp2_with fail
    refine (iSupportsT_is HP _ (by omega)).mono ?_
    rintro e w' ⟨rfl, hb⟩
    replace HB := Lib.hid (bel_trans (by first | exact HB.out | exact bel_drewN HB.out _) hb)
    clear hb
    go_wp2_with fail
    refine (sSupportsT_is HP _ (by omega)).mono ?_
    rintro e w' ⟨rfl, hb⟩
    replace HB := Lib.hid (bel_trans (by first | exact HB.out | exact bel_drewN HB.out _) hb)
    clear hb
    go_wp2_with fail
    refine (iIssueOf_is HIS HT _ (by omega)).mono ?_
    rintro e w3 ⟨v, rfl, ho, hb⟩
    obtain ⟨A3, c3, rfl, _, _, _, _⟩ := ho.form
    replace HB := Lib.hid (bel_trans (by first | exact HB.out | exact bel_drewN HB.out _) hb)
    have HR3 := Lib.hid (Owns.row ho (by omega))
    clear ho hb
    go_wp2_with fail
    refine (sSetOk_is HK _).mono ?_
    rintro e w' ⟨rfl, rfl⟩
    go_wp2_with fail
    refine (lAlive _).mono ?_
    rintro e w' ⟨rfl, rfl⟩
    go_wp2_with fail
    go_ret
    exact ⟨rfl, HB.out⟩
  have HK := Lib.hid hk
  have hkr := setOkB_lt hk
  have hk00 : 0 ≤ k := hkr.2.2.1
  have hk2 : k < 256 := by have := hkr.2.2.2.1; have := (allOf_lt t).2; omega
  clear hkr
  rcases hp : supportsT t k s with _ | _
  · have HP := Lib.hid hp
    have HSE : Hid (settlesB t r k = false) := by unfold Hid; rw [← HIS.out, supports_settles hso hk, hp]
    clear hso hk hp
    go_wp2_with fail
    refine (iSupportsT_is HP _ (by omega)).mono ?_
    rintro e w' ⟨rfl, hb⟩
    replace HB := Lib.hid (bel_trans (by first | exact HB.out | exact bel_drewN HB.out _) hb)
    clear hb
    go_wp2_with fail
    refine (sSupportsT_is HP _ (by omega)).mono ?_
    rintro e w' ⟨rfl, hb⟩
    replace HB := Lib.hid (bel_trans (by first | exact HB.out | exact bel_drewN HB.out _) hb)
    clear hb
    go_wp2_with fail
    refine (iIssueOf_is HIS HT _ (by omega)).mono ?_
    rintro e w3 ⟨v, rfl, ho, hb⟩
    obtain ⟨A3, c3, rfl, _, _, _, _⟩ := ho.form
    replace HB := Lib.hid (bel_trans (by first | exact HB.out | exact bel_drewN HB.out _) hb)
    have HR3 := Lib.hid (Owns.row ho (by omega))
    clear ho hb
    go_wp2_with fail
    refine (sSetOk_is HK _).mono ?_
    rintro e w' ⟨rfl, rfl⟩
    go_wp2_with fail
    refine (rSettles HSE (by first | exact HR3.out | exact Row.drewN HR3.out _)).mono ?_
    rintro e w' ⟨rfl, m1, rfl⟩
    go_wp2_with fail
    go_ret
    exact ⟨rfl, bel_drewN HB.out _⟩
  · have HP := Lib.hid hp
    have HSE : Hid (settlesB t r k = true) := by unfold Hid; rw [← HIS.out, supports_settles hso hk, hp]
    have HDN : Hid (∀ b, supportsT t (andI k b) s = true) := supports_down hp
    clear hso hk hp
    go_wp2_with fail
    refine (iSupportsT_is HP _ (by omega)).mono ?_
    rintro e w' ⟨rfl, hb⟩
    replace HB := Lib.hid (bel_trans (by first | exact HB.out | exact bel_drewN HB.out _) hb)
    clear hb
    go_wp2_with fail
    refine (sSupportsT_is HP _ (by omega)).mono ?_
    rintro e w' ⟨rfl, hb⟩
    replace HB := Lib.hid (bel_trans (by first | exact HB.out | exact bel_drewN HB.out _) hb)
    clear hb
    go_wp2_with fail
    refine (iIssueOf_is HIS HT _ (by omega)).mono ?_
    rintro e w3 ⟨v, rfl, ho, hb⟩
    obtain ⟨A3, c3, rfl, _, _, _, _⟩ := ho.form
    replace HB := Lib.hid (bel_trans (by first | exact HB.out | exact bel_drewN HB.out _) hb)
    have HR3 := Lib.hid (Owns.row ho (by omega))
    clear ho hb
    go_wp2_with fail
    refine (sSetOk_is HK _).mono ?_
    rintro e w' ⟨rfl, rfl⟩
    go_wp2_with fail
    refine (rSettles HSE (by first | exact HR3.out | exact Row.drewN HR3.out _)).mono ?_
    rintro e w' ⟨rfl, m2, rfl⟩
    go_wp2_with fail
    refine (lBoth _ _ hk00 hk2 (by omega) _).mono ?_
    rintro e w' ⟨rfl, rfl⟩
    go_wp2_with fail
    refine (iSupportsT_is (HDN.out _) _ (by omega)).mono ?_
    rintro e w' ⟨rfl, hb⟩
    replace HB := Lib.hid (bel_trans (by first | exact HB.out | exact bel_drewN HB.out _) hb)
    replace HR3 := Lib.hid (Row.below (by first | exact HR3.out | exact Row.drewN HR3.out _) hb)
    clear hb
    go_wp2_with fail
    go_ret
    exact ⟨rfl, by first | exact HB.out | exact bel_drewN HB.out _⟩
end Go.Proofs.Ytmdpolllmipppaa
