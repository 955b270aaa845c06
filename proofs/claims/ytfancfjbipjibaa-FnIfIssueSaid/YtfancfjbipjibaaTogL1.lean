/-
  Chapter 2: the walks of the laws.
-/
import Derived.Test.YtfancfjbipjibaaTogX
namespace Go.Proofs.Ytfancfjbipjibaa
open Go.RowKit

theorem rSettles {t : Int} {xs : List Int} {s : Int} {b : Bool} (h : Hid (settlesB t xs s = b)) {A : Option Addr} {nn c : Nat} {w : World} (r : Row w A nn c xs) :
    Calls Try.prog 23 #[.int .i64 t, .slice A nn c, .int .i64 s] w fun e w' => e = .returned (.bool b) ∧ ∃ n, w' = w.drewN n := iSettles_is h _ _ _ _ r.hn r.hl r.hc r.hm r.hA
theorem rIssueOk {t : Int} {xs : List Int} {b : Bool} (h : Hid (issueOkB t xs = b)) {A : Option Addr} {nn c : Nat} {w : World} (r : Row w A nn c xs) :
    Calls Try.prog 24 #[.int .i64 t, .slice A nn c] w fun e w' => e = .returned (.bool b) ∧ ∃ n, w' = w.drewN n := iIssueOk_is h _ _ _ _ r.hn r.hl r.hc r.hm r.hA
theorem rSIssueOk {t : Int} {xs : List Int} {b : Bool} (h : Hid (issueOkB t xs = b)) {A : Option Addr} {nn c : Nat} {w : World} (r : Row w A nn c xs) :
    Calls Try.prog 33 #[.int .i64 t, .slice A nn c] w fun e w' => e = .returned (.bool b) ∧ ∃ n, w' = w.drewN n := sIssueOk_is h _ _ _ _ r.hn r.hl r.hA
theorem rSame {xs ys : List Int} {v : Bool} (h : Hid (decide (xs = ys) = v)) {A B : Option Addr} {nn c mm d : Nat} {w : World} (r : Row w A nn c xs) (q : Row w B mm d ys) :
    Calls Try.prog 19 #[.slice A nn c, .slice B mm d] w fun e w' => e = .returned (.bool v) ∧ ∃ n, w' = w.drewN n :=
  (lSameInts A B nn mm c d xs ys w r.hn q.hn r.hl q.hl r.hA q.hA).mono fun _ _ ⟨he, hw⟩ => ⟨he.trans (ret_bool h.out), hw⟩
theorem same_self (xs : List Int) : Hid (decide (xs = xs) = true) := decide_eq_true rfl
theorem lBoth_is {a b g : Int} (h : Hid (andI a b = g)) (ha : 0 ≤ a) (ha2 : a < 256) (hb : 0 ≤ b) (w : World) :
    Calls Try.prog 26 #[.int .i64 a, .int .i64 b] w fun e w' => e = .returned (.int .i64 g) ∧ w = w' :=
  (lBoth a b ha ha2 hb w).mono fun _ _ ⟨he, hw⟩ => ⟨he.trans (ret_int h.out), hw⟩
theorem not_empty {t : Int} {r : List Int} (h : issueOkB t r = true) : ((r.length : Int) == 0) = false := by
  have := (issue_ne h).1
  rw [beq_eq_false_iff_ne]; omega

set_option maxRecDepth 100000 in
set_option maxHeartbeats 4000000 in
theorem wBothIssues (A : Option Addr) (nn c : Nat) (zs : List Int) (w : World) (hn : nn = zs.length) (hc : nn ≤ c) (hm : c ≤ maxLen) (hr : ∀ z ∈ zs, 0 ≤ z ∧ z ≤ 255) (hA : Nums .u8 w A zs) :
    Calls Try.prog 3 #[.slice A nn c] w fun e w' => e = .returned (.bool true) ∧ Below w.heap.size w w' := by
  have HO := Lib.hid (drawBothIssues_any A nn c zs w hn hc hm hr hA)
  have hm' : nn ≤ 9223372036854775807 := by unfold maxLen at hm; omega
  clear hn hc hm hr hA
  by_cases hl : 1048576 < nn
  · have hd : decide ((1048576 : Int) < (nn : Int)) = true := decide_eq_true (by omega)
    go_enter Try.func3, Try.ntmps3
    go_wp2_with fail
    go_ret
    exact ⟨rfl, Below.refl _ _⟩
  have hd : decide ((1048576 : Int) < (nn : Int)) = false := decide_eq_false (by omega)
  clear hl
  go_enter Try.func3, Try.ntmps3
  go_wp2_with fail
  refine HO.out.mono ?_
  rintro e w1 ⟨t, v1, a, v2, b, rfl, ht0, ht1, ho1, hl1, ho2, hl2, hb⟩
  obtain ⟨A1, c1, rfl, _, _, _, _⟩ := ho1.form
  obtain ⟨A2, c2, rfl, _, _, _, _⟩ := ho2.form
  have HRa := Lib.hid (Owns.row ho1 (by omega))
  have HRb := Lib.hid (Owns.row ho2 (by omega))
  have HB := Lib.hid hb
  clear hb ho1 ho2 HO
  obtain ⟨r, HIS⟩ : ∃ l, Hid (bothL t a b = l) := ⟨_, rfl⟩
  have hrl : r.length ≤ 70 := by rw [← HIS.out]; exact both_len
  clear hd
  go_wp2_with fail
  refine (iBothIssues t _ _ _ _ _ _ a b _ HRa.out HRb.out).mono ?_
  rintro e w3 ⟨v, rfl, ho, hb⟩
  rw [HIS.out] at ho
  obtain ⟨A3, c3, rfl, _, _, _, _⟩ := ho.form
  replace HRa := Lib.hid (Row.below (by first | exact HRa.out | exact Row.drewN HRa.out _) hb)
  replace HRb := Lib.hid (Row.below (by first | exact HRb.out | exact Row.drewN HRb.out _) hb)
  replace HB := Lib.hid (bel_trans (by first | exact HB.out | exact bel_drewN HB.out _) hb)
  have HR3 := Lib.hid (Owns.row ho (by omega))
  clear ho hb
  go_wp2_with fail
  refine (sBothIssues t _ _ _ _ _ _ a b _ HRa.out HRb.out).mono ?_
  rintro e w4 ⟨v, rfl, ho, hb⟩
  rw [HIS.out] at ho
  obtain ⟨A4, c4, rfl, _, _, _, _⟩ := ho.form
  replace HRa := Lib.hid (Row.below (by first | exact HRa.out | exact Row.drewN HRa.out _) hb)
  replace HRb := Lib.hid (Row.below (by first | exact HRb.out | exact Row.drewN HRb.out _) hb)
  replace HB := Lib.hid (bel_trans (by first | exact HB.out | exact bel_drewN HB.out _) hb)
  replace HR3 := Lib.hid (Row.below (by first | exact HR3.out | exact Row.drewN HR3.out _) hb)
  have HR4 := Lib.hid (Owns.row ho (by omega))
  clear ho hb
  go_wp2_with fail
  refine (rSame (same_self r) HR3.out HR4.out).mono ?_
  rintro e w' ⟨rfl, m1, rfl⟩
  obtain ⟨ok, HX⟩ : ∃ x, Hid (okTwo t a b = x) := ⟨_, rfl⟩
  cases ok
  · have HE : Hid (r = []) := by unfold Hid; rw [← HIS.out]; exact both_nil HX.out
    have hz : r.length ≤ 0 := by rw [HE.out]; simp
    have hq : ((r.length : Int) == 0) = true := by rw [beq_iff_eq]; omega
    clear hz
    go_wp2_with fail
    refine (lAlive _).mono ?_
    rintro e w' ⟨rfl, rfl⟩
    go_wp2_with fail
    go_ret
    exact ⟨rfl, bel_drewN HB.out _⟩
  obtain ⟨ha, hb⟩ := okTwo_ok HX.out
  obtain ⟨h1, h3⟩ := issue_things ha
  have HI : Hid (issueOkB t r = true) := by unfold Hid; rw [← HIS.out]; exact both_ok ha hb
  obtain ⟨al, HAL⟩ : ∃ n, Hid (allOf t = n) := ⟨_, rfl⟩
  have hal1 : al < 256 := by rw [← HAL.out]; exact (allOf_lt t).2
  have hal0 : 0 ≤ al := by rw [← HAL.out]; exact (allOf_lt t).1
  have HLAW : Hid (∀ k, 0 ≤ k → k ≤ al → settlesB t r k = (settlesB t a k && settlesB t b k)) := fun k h0 hk => by rw [← HIS.out]; exact law_both ha hb h0 (by rw [HAL.out]; exact hk)
  obtain ⟨ga, HGA⟩ : ∃ n, Hid (grantedI t a = n) := ⟨_, rfl⟩
  obtain ⟨gb, HGB⟩ : ∃ n, Hid (grantedI t b = n) := ⟨_, rfl⟩
  obtain ⟨gr, HGR⟩ : ∃ n, Hid (grantedI t r = n) := ⟨_, rfl⟩
  have HG : Hid (andI ga gb = gr) := by unfold Hid; rw [← HGA.out, ← HGB.out, ← HGR.out, granted_ok ha, granted_ok hb, granted_ok HI.out, ← HIS.out, law_granted_both ha hb]
  have hga : 0 ≤ ga ∧ ga ≤ al := by rw [← HGA.out, granted_ok ha, ← HAL.out]; exact union_all ha
  have hgb : 0 ≤ gb ∧ gb ≤ al := by rw [← HGB.out, granted_ok hb, ← HAL.out]; exact union_all hb
  have hq := not_empty HI.out
  obtain ⟨hga0, hga1⟩ := hga
  obtain ⟨hgb0, hgb1⟩ := hgb
  clear ha hb
  go_wp2_with fail
  clear hq
  go_loopw [7] (fun i wr => ∃ k : Int, 0 ≤ k ∧ k ≤ al + 1 ∧ i = .int .i64 k ∧ ∃ n, wr = w4.drewN n) (fun i _ => (al + 1 - Go.RowKit.intOf i).toNat)
  case atStart => exact ⟨0, by omega, by omega, rfl, _, rfl⟩
  case round =>
    obtain ⟨k, hk0, hk, rfl, n, rfl⟩ := hrel
    by_cases hlt : k ≤ al
    · have HL := Lib.hid (HLAW.out k hk0 hlt)
      rcases hsa : settlesB t a k with _ | _
      · have HSA := Lib.hid hsa
        have HSR : Hid (settlesB t r k = false) := by unfold Hid; rw [HL.out, hsa]; rfl
        clear hsa HL
        go_wp2_with fail
        refine (lWhole_is HAL h1 h3 _).mono ?_
        rintro e w' ⟨rfl, rfl⟩
        go_wp2_with fail
        refine (rSettles HSR (by first | exact HR3.out | exact Row.drewN HR3.out _)).mono ?_
        rintro e w' ⟨rfl, m2, rfl⟩
        go_wp2_with fail
        refine (rSettles HSA (by first | exact HRa.out | exact Row.drewN HRa.out _)).mono ?_
        rintro e w' ⟨rfl, m3, rfl⟩
        go_wp2_with fail
        go_roundw
        case rel => exact ⟨k + 1, by omega, by omega, rfl, _, rfl⟩
        case measure => simp [Go.RowKit.intOf]; omega
      · obtain ⟨sb, HSB⟩ : ∃ s, Hid (settlesB t b k = s) := ⟨_, rfl⟩
        have HSA := Lib.hid hsa
        have HSR : Hid (settlesB t r k = sb) := by unfold Hid; rw [HL.out, hsa, HSB.out]; rfl
        clear hsa HL
        go_wp2_with fail
        refine (lWhole_is HAL h1 h3 _).mono ?_
        rintro e w' ⟨rfl, rfl⟩
        go_wp2_with fail
        refine (rSettles HSR (by first | exact HR3.out | exact Row.drewN HR3.out _)).mono ?_
        rintro e w' ⟨rfl, m4, rfl⟩
        go_wp2_with fail
        refine (rSettles HSA (by first | exact HRa.out | exact Row.drewN HRa.out _)).mono ?_
        rintro e w' ⟨rfl, m5, rfl⟩
        go_wp2_with fail
        refine (rSettles HSB (by first | exact HRb.out | exact Row.drewN HRb.out _)).mono ?_
        rintro e w' ⟨rfl, m6, rfl⟩
        go_wp2_with fail
        go_roundw
        case rel => exact ⟨k + 1, by omega, by omega, rfl, _, rfl⟩
        case measure => simp [Go.RowKit.intOf]; omega
    · go_wp2_with fail
      refine (lWhole_is HAL h1 h3 _).mono ?_
      rintro e w' ⟨rfl, rfl⟩
      go_wp2_with fail
      refine (rIssueOk HI (by first | exact HR3.out | exact Row.drewN HR3.out _)).mono ?_
      rintro e w' ⟨rfl, m7, rfl⟩
      go_wp2_with fail
      refine (iGrantedBy_ok HGR _ _ _ _ (by first | exact HR3.out | exact Row.drewN HR3.out _)).mono ?_
      rintro e w' ⟨rfl, m8, rfl⟩
      go_wp2_with fail
      refine (iGrantedBy_ok HGA _ _ _ _ (by first | exact HRa.out | exact Row.drewN HRa.out _)).mono ?_
      rintro e w' ⟨rfl, m9, rfl⟩
      go_wp2_with fail
      refine (iGrantedBy_ok HGB _ _ _ _ (by first | exact HRb.out | exact Row.drewN HRb.out _)).mono ?_
      rintro e w' ⟨rfl, m10, rfl⟩
      go_wp2_with fail
      refine (lBoth_is HG hga0 (by omega) hgb0 _).mono ?_
      rintro e w' ⟨rfl, rfl⟩
      go_wp2_with fail
      go_ret
      exact ⟨rfl, bel_drewN HB.out _⟩
end Go.Proofs.Ytfancfjbipjibaa
