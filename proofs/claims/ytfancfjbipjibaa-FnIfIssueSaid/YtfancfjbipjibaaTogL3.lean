/-
  Chapter 2: the walk of the law of IfIssue.
-/
import Derived.Test.YtfancfjbipjibaaTogL2
namespace Go.Proofs.Ytfancfjbipjibaa
open Go.RowKit

set_option maxRecDepth 100000 in
set_option maxHeartbeats 4000000 in
theorem wIfIssue (A B : Option Addr) (nn mm c d : Nat) (zs qs : List Int) (w : World) (hn : nn = zs.length) (hc : nn ≤ c) (hm : c ≤ maxLen) (hr : ∀ z ∈ zs, 0 ≤ z ∧ z ≤ 255) (hA : Nums .u8 w A zs)
    (hn2 : mm = qs.length) (hc2 : mm ≤ d) (hm2 : d ≤ maxLen) (hr2 : ∀ z ∈ qs, 0 ≤ z ∧ z ≤ 255) (hB : Nums .u8 w B qs) :
    Calls Try.prog 5 #[.slice A nn c, .slice B mm d] w fun e w' => e = .returned (.bool true) ∧ Below w.heap.size w w' := by
  have HO := Lib.hid (drawIfIssue_any A nn c zs w hn hc hm hr hA)
  have HO2 : Hid (∀ W, Below w.heap.size w W → Calls Try.prog 30 #[.slice B mm d] W (DrawTLL W)) := fun W hb => drawIfIssue_any B mm d qs W hn2 hc2 hm2 hr2 (hB.below hb)
  have hm' : nn ≤ 9223372036854775807 := by unfold maxLen at hm; omega
  have hm2' : mm ≤ 9223372036854775807 := by unfold maxLen at hm2; omega
  clear hn hc hm hr hA hn2 hc2 hm2 hr2 hB
  by_cases hl : 1048576 < nn
  · have hd : decide ((1048576 : Int) < (nn : Int)) = true := decide_eq_true (by omega)
    go_enter Try.func5, Try.ntmps5
    go_wp2_with fail
    go_ret
    exact ⟨rfl, Below.refl _ _⟩
  by_cases hl2 : 1048576 < mm
  · have hd : decide ((1048576 : Int) < (nn : Int)) = false := decide_eq_false (by omega)
    have hd2 : decide ((1048576 : Int) < (mm : Int)) = true := decide_eq_true (by omega)
    go_enter Try.func5, Try.ntmps5
    go_wp2_with fail
    go_ret
    exact ⟨rfl, Below.refl _ _⟩
  have hd : decide ((1048576 : Int) < (nn : Int)) = false := decide_eq_false (by omega)
  have hd2 : decide ((1048576 : Int) < (mm : Int)) = false := decide_eq_false (by omega)
  have hmm : mm ≤ 1048576 := by omega
  clear hl hl2
  go_enter Try.func5, Try.ntmps5
  go_wp2_with fail
  refine HO.out.mono ?_
  rintro e w1 ⟨t, v1, a, v2, b, rfl, ht0, ht1, ho1, hl1, ho2, hl2, hb⟩
  obtain ⟨A1, c1, rfl, _, _, _, _⟩ := ho1.form
  obtain ⟨A2, c2, rfl, _, _, _, _⟩ := ho2.form
  have HRa := Lib.hid (Owns.row ho1 (by omega))
  have HRb := Lib.hid (Owns.row ho2 (by omega))
  have HB := Lib.hid hb
  clear hb ho1 ho2 HO
  obtain ⟨r, HIS⟩ : ∃ l, Hid (ifL t a b = l) := ⟨_, rfl⟩
  have hrl : r.length ≤ 70 := by rw [← HIS.out]; exact if_le
  clear hd hd2
  go_wp2_with fail
  refine (iIfIssue t _ _ _ _ _ _ a b _ HRa.out HRb.out).mono ?_
  rintro e w3 ⟨v, rfl, ho, hb⟩
  rw [HIS.out] at ho
  obtain ⟨A3, c3, rfl, _, _, _, _⟩ := ho.form
  replace HRa := Lib.hid (Row.below (by first | exact HRa.out | exact Row.drewN HRa.out _) hb)
  replace HRb := Lib.hid (Row.below (by first | exact HRb.out | exact Row.drewN HRb.out _) hb)
  replace HB := Lib.hid (bel_trans (by first | exact HB.out | exact bel_drewN HB.out _) hb)
  have HR3 := Lib.hid (Owns.row ho (by omega))
  clear ho hb
  go_wp2_with fail
  refine (sIfIssue t _ _ _ _ _ _ a b _ HRa.out HRb.out).mono ?_
  rintro e w4 ⟨v, rfl, ho, hb⟩
  rw [HIS.out] at ho
  obtain ⟨A4, c4, rfl, _, _, _, _⟩ := ho.form
  replace HRa := Lib.hid (Row.below (by first | exact HRa.out | exact Row.drewN HRa.out _) hb)
  replace HRb := Lib.hid (Row.below (by first | exact HRb.out | exact Row.drewN HRb.out _) hb)
  replace HB := Lib.hid (bel_trans (by first | exact HB.out | exact bel_drewN HB.out _) hb)
  replace HR3 := Lib.hid (Row.below (by first | exact HR3.out | exact Row.drewN HR3.out _) hb)
  have HR4 := Lib.hid (Owns.row ho (by omega))
  clear ho hb
  go_wp2_with fail
  refine (rSame (same_self r) HR3.out HR4.out).mono ?_
  rintro e w' ⟨rfl, m1, rfl⟩
  obtain ⟨ok, HX⟩ : ∃ x, Hid (okTwo t a b = x) := ⟨_, rfl⟩
  cases ok
  · have HE : Hid (r = []) := by unfold Hid; rw [← HIS.out]; exact if_nil HX.out
    have hz : r.length ≤ 0 := by rw [HE.out]; simp
    have hq : ((r.length : Int) == 0) = true := by rw [beq_iff_eq]; omega
    clear hz
    go_wp2_with fail
    refine (lAlive _).mono ?_
    rintro e w' ⟨rfl, rfl⟩
    go_wp2_with fail
    go_ret
    exact ⟨rfl, bel_drewN HB.out _⟩
  obtain ⟨ha, hb⟩ := okTwo_ok HX.out
  have HI : Hid (issueOkB t r = true) := by unfold Hid; rw [← HIS.out]; exact if_ok ha hb
  have HHA := Lib.hid ha
  have HHB := Lib.hid hb
  have hq := not_empty HI.out
  clear ha hb
  go_wp2_with fail
  clear hq
  refine (HO2.out _ (bel_drewN HB.out _)).mono ?_
  rintro e w5 ⟨t2, v3, cc, v4, dd, rfl, _, _, ho3, hl3, ho4, hl4, hb⟩
  obtain ⟨A3, c3', rfl, _, _, _, _⟩ := ho3.form
  obtain ⟨A4', c4', rfl, _, _, _, _⟩ := ho4.form
  have HRc := Lib.hid (Owns.row ho3 (by omega))
  clear ho3 ho4 HO2
  replace HRa := Lib.hid (Row.below (by first | exact HRa.out | exact Row.drewN HRa.out _) hb)
  replace HRb := Lib.hid (Row.below (by first | exact HRb.out | exact Row.drewN HRb.out _) hb)
  replace HB := Lib.hid (bel_trans (by first | exact HB.out | exact bel_drewN HB.out _) hb)
  replace HR3 := Lib.hid (Row.below (by first | exact HR3.out | exact Row.drewN HR3.out _) hb)
  replace HR4 := Lib.hid (Row.below (by first | exact HR4.out | exact Row.drewN HR4.out _) hb)
  clear hb
  by_cases ht : t2 = t
  · subst ht
    obtain ⟨oc, HC⟩ : ∃ x, Hid (issueOkB t2 cc = x) := ⟨_, rfl⟩
    cases oc
    · go_wp2_with fail
      refine (rSIssueOk HC HRc.out).mono ?_
      rintro e w' ⟨rfl, m2, rfl⟩
      go_wp2_with fail
      refine (rIssueOk HI (by first | exact HR3.out | exact Row.drewN HR3.out _)).mono ?_
      rintro e w' ⟨rfl, m3, rfl⟩
      go_wp2_with fail
      go_ret
      exact ⟨rfl, bel_drewN HB.out _⟩
    obtain ⟨q1, HQ1⟩ : ∃ l, Hid (bothL t2 cc a = l) := ⟨_, rfl⟩
    have hq1 : q1.length ≤ 70 := by rw [← HQ1.out]; exact both_len
    obtain ⟨f, HF⟩ : ∃ x, Hid (followsB t2 cc r = x) := ⟨_, rfl⟩
    have HF2 : Hid (followsB t2 q1 b = f) := by unfold Hid; rw [← HQ1.out, ← HF.out, ← HIS.out]; exact (law_carry HHA.out HHB.out HC.out).symm
    by_cases hone : 1 < a.length
    · have hd1 : decide ((1 : Int) < (a.length : Int)) = true := decide_eq_true (by omega)
      go_wp2_with fail
      refine (rSIssueOk HC HRc.out).mono ?_
      rintro e w' ⟨rfl, m4, rfl⟩
      go_wp2_with fail
      refine (rFollows HF (by first | exact HRc.out | exact Row.drewN HRc.out _) (by first | exact HR3.out | exact Row.drewN HR3.out _)).mono ?_
      rintro e w' ⟨rfl, m5, rfl⟩
      go_wp2_with fail
      refine (iBothIssues t2 _ _ _ _ _ _ cc a _ (by first | exact HRc.out | exact Row.drewN HRc.out _) (by first | exact HRa.out | exact Row.drewN HRa.out _)).mono ?_
      rintro e w6 ⟨v, rfl, ho, hb⟩
      rw [HQ1.out] at ho
      obtain ⟨A6, c6, rfl, _, _, _, _⟩ := ho.form
      replace HRa := Lib.hid (Row.below (by first | exact HRa.out | exact Row.drewN HRa.out _) hb)
      replace HRb := Lib.hid (Row.below (by first | exact HRb.out | exact Row.drewN HRb.out _) hb)
      replace HB := Lib.hid (bel_trans (by first | exact HB.out | exact bel_drewN HB.out _) hb)
      replace HR3 := Lib.hid (Row.below (by first | exact HR3.out | exact Row.drewN HR3.out _) hb)
      replace HR4 := Lib.hid (Row.below (by first | exact HR4.out | exact Row.drewN HR4.out _) hb)
      replace HRc := Lib.hid (Row.below (by first | exact HRc.out | exact Row.drewN HRc.out _) hb)
      have HR6 := Lib.hid (Owns.row ho (by omega))
      clear ho hb
      go_wp2_with fail
      refine (rFollows HF2 HR6.out HRb.out).mono ?_
      rintro e w' ⟨rfl, m6, rfl⟩
      go_wp2_with fail
      go_ret
      exact ⟨rfl, bel_drewN HB.out _⟩
    · have hd1 : decide ((1 : Int) < (a.length : Int)) = false := decide_eq_false (by omega)
      have hd2 : decide (1 < a.length) = false := decide_eq_false hone
      obtain ⟨q2, HQ2⟩ : ∃ l, Hid (eitherL t2 b cc = l) := ⟨_, rfl⟩
      have hq2 : q2.length ≤ 70 := by rw [← HQ2.out]; exact either_len
      obtain ⟨q3, HQ3⟩ : ∃ l, Hid (ifL t2 a q2 = l) := ⟨_, rfl⟩
      have hq3 : q3.length ≤ 70 := by rw [← HQ3.out]; exact if_le
      obtain ⟨q4, HQ4⟩ : ∃ l, Hid (ifL t2 a cc = l) := ⟨_, rfl⟩
      have hq4 : q4.length ≤ 70 := by rw [← HQ4.out]; exact if_le
      have HQ5 : Hid (eitherL t2 r q4 = q3) := by unfold Hid; rw [← HIS.out, ← HQ4.out, ← HQ3.out, ← HQ2.out]; exact (law_ifEither HHA.out HHB.out HC.out (by omega)).symm
      go_wp2_with fail
      refine (rSIssueOk HC HRc.out).mono ?_
      rintro e w' ⟨rfl, m7, rfl⟩
      go_wp2_with fail
      refine (rFollows HF (by first | exact HRc.out | exact Row.drewN HRc.out _) (by first | exact HR3.out | exact Row.drewN HR3.out _)).mono ?_
      rintro e w' ⟨rfl, m8, rfl⟩
      go_wp2_with fail
      refine (iBothIssues t2 _ _ _ _ _ _ cc a _ (by first | exact HRc.out | exact Row.drewN HRc.out _) (by first | exact HRa.out | exact Row.drewN HRa.out _)).mono ?_
      rintro e w6 ⟨v, rfl, ho, hb⟩
      rw [HQ1.out] at ho
      obtain ⟨A6, c6, rfl, _, _, _, _⟩ := ho.form
      replace HRa := Lib.hid (Row.below (by first | exact HRa.out | exact Row.drewN HRa.out _) hb)
      replace HRb := Lib.hid (Row.below (by first | exact HRb.out | exact Row.drewN HRb.out _) hb)
      replace HB := Lib.hid (bel_trans (by first | exact HB.out | exact bel_drewN HB.out _) hb)
      replace HR3 := Lib.hid (Row.below (by first | exact HR3.out | exact Row.drewN HR3.out _) hb)
      replace HR4 := Lib.hid (Row.below (by first | exact HR4.out | exact Row.drewN HR4.out _) hb)
      replace HRc := Lib.hid (Row.below (by first | exact HRc.out | exact Row.drewN HRc.out _) hb)
      have HR6 := Lib.hid (Owns.row ho (by omega))
      clear ho hb
      go_wp2_with fail
      refine (rFollows HF2 HR6.out HRb.out).mono ?_
      rintro e w' ⟨rfl, m9, rfl⟩
      go_wp2_with fail
      refine (iEitherIssue t2 _ _ _ _ _ _ b cc _ (by first | exact HRb.out | exact Row.drewN HRb.out _) (by first | exact HRc.out | exact Row.drewN HRc.out _)).mono ?_
      rintro e w7 ⟨v, rfl, ho, hb⟩
      rw [HQ2.out] at ho
      obtain ⟨A7, c7, rfl, _, _, _, _⟩ := ho.form
      replace HRa := Lib.hid (Row.below (by first | exact HRa.out | exact Row.drewN HRa.out _) hb)
      replace HRb := Lib.hid (Row.below (by first | exact HRb.out | exact Row.drewN HRb.out _) hb)
      replace HB := Lib.hid (bel_trans (by first | exact HB.out | exact bel_drewN HB.out _) hb)
      replace HR3 := Lib.hid (Row.below (by first | exact HR3.out | exact Row.drewN HR3.out _) hb)
      replace HR4 := Lib.hid (Row.below (by first | exact HR4.out | exact Row.drewN HR4.out _) hb)
      replace HRc := Lib.hid (Row.below (by first | exact HRc.out | exact Row.drewN HRc.out _) hb)
      replace HR6 := Lib.hid (Row.below (by first | exact HR6.out | exact Row.drewN HR6.out _) hb)
      have HR7 := Lib.hid (Owns.row ho (by omega))
      clear ho hb
      go_wp2_with fail
      refine (iIfIssue t2 _ _ _ _ _ _ a q2 _ (by first | exact HRa.out | exact Row.drewN HRa.out _) (by first | exact HR7.out | exact Row.drewN HR7.out _)).mono ?_
      rintro e w8 ⟨v, rfl, ho, hb⟩
      rw [HQ3.out] at ho
      obtain ⟨A8, c8, rfl, _, _, _, _⟩ := ho.form
      replace HRa := Lib.hid (Row.below (by first | exact HRa.out | exact Row.drewN HRa.out _) hb)
      replace HRb := Lib.hid (Row.below (by first | exact HRb.out | exact Row.drewN HRb.out _) hb)
      replace HB := Lib.hid (bel_trans (by first | exact HB.out | exact bel_drewN HB.out _) hb)
      replace HR3 := Lib.hid (Row.below (by first | exact HR3.out | exact Row.drewN HR3.out _) hb)
      replace HR4 := Lib.hid (Row.below (by first | exact HR4.out | exact Row.drewN HR4.out _) hb)
      replace HRc := Lib.hid (Row.below (by first | exact HRc.out | exact Row.drewN HRc.out _) hb)
      replace HR6 := Lib.hid (Row.below (by first | exact HR6.out | exact Row.drewN HR6.out _) hb)
      replace HR7 := Lib.hid (Row.below (by first | exact HR7.out | exact Row.drewN HR7.out _) hb)
      have HR8 := Lib.hid (Owns.row ho (by omega))
      clear ho hb
      go_wp2_with fail
      refine (iIfIssue t2 _ _ _ _ _ _ a cc _ (by first | exact HRa.out | exact Row.drewN HRa.out _) (by first | exact HRc.out | exact Row.drewN HRc.out _)).mono ?_
      rintro e w9 ⟨v, rfl, ho, hb⟩
      rw [HQ4.out] at ho
      obtain ⟨A9, c9, rfl, _, _, _, _⟩ := ho.form
      replace HRa := Lib.hid (Row.below (by first | exact HRa.out | exact Row.drewN HRa.out _) hb)
      replace HRb := Lib.hid (Row.below (by first | exact HRb.out | exact Row.drewN HRb.out _) hb)
      replace HB := Lib.hid (bel_trans (by first | exact HB.out | exact bel_drewN HB.out _) hb)
      replace HR3 := Lib.hid (Row.below (by first | exact HR3.out | exact Row.drewN HR3.out _) hb)
      replace HR4 := Lib.hid (Row.below (by first | exact HR4.out | exact Row.drewN HR4.out _) hb)
      replace HRc := Lib.hid (Row.below (by first | exact HRc.out | exact Row.drewN HRc.out _) hb)
      replace HR6 := Lib.hid (Row.below (by first | exact HR6.out | exact Row.drewN HR6.out _) hb)
      replace HR7 := Lib.hid (Row.below (by first | exact HR7.out | exact Row.drewN HR7.out _) hb)
      replace HR8 := Lib.hid (Row.below (by first | exact HR8.out | exact Row.drewN HR8.out _) hb)
      have HR9 := Lib.hid (Owns.row ho (by omega))
      clear ho hb
      go_wp2_with fail
      refine (iEitherIssue t2 _ _ _ _ _ _ r q4 _ (by first | exact HR3.out | exact Row.drewN HR3.out _) (by first | exact HR9.out | exact Row.drewN HR9.out _)).mono ?_
      rintro e w10 ⟨v, rfl, ho, hb⟩
      rw [HQ5.out] at ho
      obtain ⟨A10, c10, rfl, _, _, _, _⟩ := ho.form
      replace HRa := Lib.hid (Row.below (by first | exact HRa.out | exact Row.drewN HRa.out _) hb)
      replace HRb := Lib.hid (Row.below (by first | exact HRb.out | exact Row.drewN HRb.out _) hb)
      replace HB := Lib.hid (bel_trans (by first | exact HB.out | exact bel_drewN HB.out _) hb)
      replace HR3 := Lib.hid (Row.below (by first | exact HR3.out | exact Row.drewN HR3.out _) hb)
      replace HR4 := Lib.hid (Row.below (by first | exact HR4.out | exact Row.drewN HR4.out _) hb)
      replace HRc := Lib.hid (Row.below (by first | exact HRc.out | exact Row.drewN HRc.out _) hb)
      replace HR6 := Lib.hid (Row.below (by first | exact HR6.out | exact Row.drewN HR6.out _) hb)
      replace HR7 := Lib.hid (Row.below (by first | exact HR7.out | exact Row.drewN HR7.out _) hb)
      replace HR8 := Lib.hid (Row.below (by first | exact HR8.out | exact Row.drewN HR8.out _) hb)
      replace HR9 := Lib.hid (Row.below (by first | exact HR9.out | exact Row.drewN HR9.out _) hb)
      have HR10 := Lib.hid (Owns.row ho (by omega))
      clear ho hb
      go_wp2_with fail
      refine (rSame (same_self q3) HR8.out HR10.out).mono ?_
      rintro e w' ⟨rfl, m10, rfl⟩
      go_wp2_with fail
      go_ret
      exact ⟨rfl, bel_drewN HB.out _⟩
  · have ht' : (t2 == t) = false := by simp [ht]
    have ht'' : (t2 != t) = true := by simp [ht]
    have HTT := Lib.hid ht
    clear ht
    go_wp2_with fail
    refine (rIssueOk HI (by first | exact HR3.out | exact Row.drewN HR3.out _)).mono ?_
    rintro e w' ⟨rfl, m99, rfl⟩
    go_wp2_with fail
    go_ret
    exact ⟨rfl, bel_drewN HB.out _⟩
end Go.Proofs.Ytfancfjbipjibaa
