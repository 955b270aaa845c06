/-
  The walk of the law of StatementOf.
-/
import Derived.Test.YtjhkeclimplbmaaLaws3
import Derived.Test.YtjhkeclimplbmaaBoth
namespace Go.Proofs.Ytjhkeclimplbmaa
open Go.RowKit

theorem iSettles_is {t : Int} {xs : List Int} {s : Int} {b : Bool} (h : Hid (settlesB t xs s = b)) (A : Option Addr) (nn c : Nat) (w : World) (hn : nn = xs.length) (hl : nn ≤ 1048576) (hc : nn ≤ c) (hm : c ≤ maxLen) (hA : Nums .i64 w A xs) :
    Calls Try.prog 32 #[.int .i64 t, .slice A nn c, .int .i64 s] w fun e w' => e = .returned (.bool b) ∧ ∃ n, w' = w.drewN n :=
  (iSettles t A nn c xs s w hn hl hc hm hA).mono fun _ _ ⟨he, hw⟩ => ⟨he.trans (ret_bool h.out), hw⟩
theorem sSettles_is {t : Int} {xs : List Int} {s : Int} {b : Bool} (h : Hid (settlesB t xs s = b)) (A : Option Addr) (nn c : Nat) (w : World) (hn : nn = xs.length) (hl : nn ≤ 1048576) (hA : Nums .i64 w A xs) :
    Calls Try.prog 34 #[.int .i64 t, .slice A nn c, .int .i64 s] w fun e w' => e = .returned (.bool b) ∧ ∃ n, w' = w.drewN n :=
  (sSettles t A nn c xs s w hn hl hA).mono fun _ _ ⟨he, hw⟩ => ⟨he.trans (ret_bool h.out), hw⟩
theorem lWithin_is {a b : Int} {v : Bool} (h : Hid (withinB a b = v)) (ha : 0 ≤ a) (ha2 : a < 256) (hb : 0 ≤ b) (w : World) :
    Calls Try.prog 39 #[.int .i64 a, .int .i64 b] w fun e w' => e = .returned (.bool v) ∧ w = w' :=
  (lWithin a b ha ha2 hb w).mono fun _ _ ⟨he, hw⟩ => ⟨he.trans (ret_bool h.out), hw⟩
theorem lWhole_is {t al : Int} (h : Hid (allOf t = al)) (h1 : 1 ≤ t) (h3 : t ≤ 3) (w : World) : Calls Try.prog 24 #[.int .i64 t] w fun e w' => e = .returned (.int .i64 al) ∧ w = w' :=
  (lWhole t w h1 h3).mono fun _ _ ⟨he, hw⟩ => ⟨he.trans (ret_int h.out), hw⟩
theorem setOk_of {t k : Int} (h1 : 1 ≤ t) (h3 : t ≤ 3) (h0 : 0 ≤ k) (hk : k ≤ allOf t) : setOkB t k = true := by
  unfold setOkB; apply decide_eq_true; exact ⟨h1, h3, h0, hk⟩
theorem issue_one {t s : Int} (h : setOkB t s = true) : issueOkB t [s] = true := by
  unfold issueOkB partsOkB pairB; simp [h]
theorem settles_one {t s k : Int} (h : setOkB t s = true) (hk : setOkB t k = true) : settlesB t [s] k = withinB k s := by
  unfold settlesB; rw [issue_one h, hk]; simp [anyWithin]
theorem granted_one {t s : Int} (h : setOkB t s = true) : grantedI t [s] = s := by
  have := setOkB_lt h
  unfold grantedI unionI; rw [issue_one h]; simp [orI]; omega

set_option maxHeartbeats 2000000 in
theorem wStatementOf (A : Option Addr) (nn c : Nat) (zs : List Int) (w : World) (hn : nn = zs.length) (hc : nn ≤ c) (hm : c ≤ maxLen) (hr : ∀ z ∈ zs, 0 ≤ z ∧ z ≤ 255) (hA : Nums .u8 w A zs) :
    Calls Try.prog 9 #[.slice A nn c] w fun e w' => e = .returned (.bool true) ∧ Below w.heap.size w w' := by
  have HO := Lib.hid (drawStatementOf_any A nn c zs w hn hc hm hr hA)
  have hm' : nn ≤ 9223372036854775807 := by unfold maxLen at hm; omega
  clear hn hc hm hr hA
  by_cases hl : 1048576 < nn
  · have hd : decide ((1048576 : Int) < (nn : Int)) = true := by simp; omega
    go_enter Try.func9, Try.ntmps9
    go_wp2_with fail
    go_ret
    exact ⟨rfl, Below.refl _ _⟩
  · have hd : decide ((1048576 : Int) < (nn : Int)) = false := by simp; omega
    clear hl
    go_enter Try.func9, Try.ntmps9
    go_wp2_with fail
    refine HO.out.mono ?_
    rintro e w1 ⟨t, s, rfl, ht0, ht1, hs0, hs1, hb⟩
    have HB := Lib.hid hb
    clear hb HO
    rcases hs : setOkB t s with _ | _
    · have H1 := Lib.hid hs
      have HI : Hid (∀ w : World, Calls Try.prog 41 #[.int .i64 t, .int .i64 s] w fun e w' => ∃ v, e = .returned v ∧ Owns w' w.heap.size v [] ∧ Below w.heap.size w w') := by
        intro w; have := iStatementOf t s w; unfold statementL at this; rw [hs] at this; exact this
      have HS : Hid (∀ w : World, Calls Try.prog 42 #[.int .i64 t, .int .i64 s] w fun e w' => ∃ v, e = .returned v ∧ Owns w' w.heap.size v [] ∧ Below w.heap.size w w') := by
        intro w; have := sStatementOf t s w; unfold statementL at this; rw [hs] at this; exact this
      clear hs
      go_wp2_with fail
      refine (HI.out _).mono ?_
      rintro e w2 ⟨v, rfl, ho, hb⟩
      obtain ⟨A1, c1, rfl, _, _, hn1, _⟩ := ho.form
      have HN1 := Lib.hid hn1
      have HB2 := Lib.hid (bel_trans HB.out hb)
      clear ho hn1 hb
      go_wp2_with fail
      refine (HS.out _).mono ?_
      rintro e w3 ⟨v, rfl, ho, hb⟩
      obtain ⟨A2, c2, rfl, _, _, hn2, _⟩ := ho.form
      have HN2 := Lib.hid hn2
      have HN12 := Lib.hid (HN1.out.below hb)
      have HB3 := Lib.hid (bel_trans HB2.out hb)
      clear ho hn2 hb
      go_wp2_with fail
      refine (lSameInts _ _ _ _ _ _ [] [] _ rfl rfl (by simp) (by simp) HN12.out HN2.out).mono ?_
      rintro e w4 ⟨rfl, n4, rfl⟩
      go_wp2_with fail
      refine (iSetOk_is H1 _).mono ?_
      rintro e w' ⟨rfl, rfl⟩
      go_wp2_with fail
      refine (lAlive _).mono ?_
      rintro e w' ⟨rfl, rfl⟩
      go_wp2_with fail
      go_ret
      exact ⟨rfl, bel_drewN HB3.out n4⟩
    · have H1 := Lib.hid hs
      obtain ⟨hh1, hh3, hh0, hha, hh5⟩ := setOkB_lt hs
      obtain ⟨al, HAL⟩ : ∃ n, Hid (allOf t = n) := ⟨_, rfl⟩
      have hal1 : al < 256 := by rw [← HAL.out]; exact (allOf_lt t).2
      have hal0 : 0 ≤ al := by rw [← HAL.out]; exact (allOf_lt t).1
      have HI : Hid (∀ w : World, Calls Try.prog 41 #[.int .i64 t, .int .i64 s] w fun e w' => ∃ v, e = .returned v ∧ Owns w' w.heap.size v [s] ∧ Below w.heap.size w w') := by
        intro w; have := iStatementOf t s w; unfold statementL at this; rw [hs] at this; exact this
      have HS : Hid (∀ w : World, Calls Try.prog 42 #[.int .i64 t, .int .i64 s] w fun e w' => ∃ v, e = .returned v ∧ Owns w' w.heap.size v [s] ∧ Below w.heap.size w w') := by
        intro w; have := sStatementOf t s w; unfold statementL at this; rw [hs] at this; exact this
      have HG := Lib.hid (granted_one hs)
      clear hs hha
      go_wp2_with fail
      refine (HI.out _).mono ?_
      rintro e w2 ⟨v, rfl, ho, hb⟩
      obtain ⟨A1, c1, rfl, hc1, hm1, hn1, _⟩ := ho.form
      have HN1 := Lib.hid hn1
      have HM1 := Lib.hid hm1
      have HB2 := Lib.hid (bel_trans HB.out hb)
      clear ho hn1 hb hm1
      go_wp2_with fail
      refine (HS.out _).mono ?_
      rintro e w3 ⟨v, rfl, ho, hb⟩
      obtain ⟨A2, c2, rfl, _, _, hn2, _⟩ := ho.form
      have HN2 := Lib.hid hn2
      have HN12 := Lib.hid (HN1.out.below hb)
      have HB3 := Lib.hid (bel_trans HB2.out hb)
      clear ho hn2 hb
      go_wp2_with fail
      refine (lSameInts _ _ _ _ _ _ [s] [s] _ rfl rfl (by simp) (by simp) HN12.out HN2.out).mono ?_
      rintro e w4 ⟨rfl, n4, rfl⟩
      go_wp2_with fail
      go_loopw [6] (fun i wr => ∃ k : Int, 0 ≤ k ∧ k ≤ al + 1 ∧ i = .int .i64 k ∧ ∃ n, wr = w3.drewN n) (fun i _ => (al + 1 - intOf i).toNat)
      case atStart => exact ⟨0, by omega, by omega, rfl, n4, rfl⟩
      case round =>
        obtain ⟨k, hk0, hk, rfl, n, rfl⟩ := hrel
        by_cases hlt : k ≤ al
        · have HK : Hid (setOkB t k = true) := setOk_of hh1 hh3 hk0 (by rw [HAL.out]; exact hlt)
          obtain ⟨b, HW⟩ : ∃ b, Hid (withinB k s = b) := ⟨_, rfl⟩
          have HS2 : Hid (settlesB t [s] k = b) := by unfold Hid; rw [settles_one H1.out HK.out]; exact HW.out
          go_wp2_with fail
          refine (lWhole_is HAL hh1 hh3 _).mono ?_
          rintro e w' ⟨rfl, rfl⟩
          go_wp2_with fail
          refine (iSettles_is HS2 _ _ _ _ rfl (by simp) hc1 HM1.out (by exact HN12.out)).mono ?_
          rintro e w' ⟨rfl, m, rfl⟩
          go_wp2_with fail
          refine (lWithin_is HW hk0 (by omega) hh0 _).mono ?_
          rintro e w' ⟨rfl, rfl⟩
          go_wp2_with fail
          go_roundw
          case rel => exact ⟨k + 1, by omega, by omega, rfl, _, rfl⟩
          case measure => simp [intOf]; omega
        · go_wp2_with fail
          refine (lWhole_is HAL hh1 hh3 _).mono ?_
          rintro e w' ⟨rfl, rfl⟩
          go_wp2_with fail
          refine (iGrantedBy t _ _ _ [s] _ rfl (by simp) hc1 HM1.out (by exact HN12.out)).mono ?_
          rintro e w' ⟨rfl, m, rfl⟩
          rw [HG.out]
          go_wp2_with fail
          go_ret
          exact ⟨rfl, bel_drewN HB3.out _⟩
end Go.Proofs.Ytjhkeclimplbmaa
