/-
  The walks of the laws of GrantedBy and Settles.
-/
import Derived.Test.YtjhkeclimplbmaaLaws5
import Derived.Test.YtjhkeclimplbmaaMathB
namespace Go.Proofs.Ytjhkeclimplbmaa
open Go.RowKit

theorem iGrantedBy_is {t : Int} {xs : List Int} {v : Int} (h : Hid (grantedI t xs = v)) (A : Option Addr) (nn c : Nat) (w : World) (hn : nn = xs.length) (hl : nn ≤ 1048576) (hc : nn ≤ c) (hm : c ≤ maxLen) (hA : Nums .i64 w A xs) :
    Calls Try.prog 37 #[.int .i64 t, .slice A nn c] w fun e w' => e = .returned (.int .i64 v) ∧ ∃ n, w' = w.drewN n :=
  (iGrantedBy t A nn c xs w hn hl hc hm hA).mono fun _ _ ⟨he, hw⟩ => ⟨he.trans (ret_int h.out), hw⟩
theorem sGrantedBy_is {t : Int} {xs : List Int} {v : Int} (h : Hid (grantedI t xs = v)) (A : Option Addr) (nn c : Nat) (w : World) (hn : nn = xs.length) (hl : nn ≤ 1048576) (hA : Nums .i64 w A xs) :
    Calls Try.prog 38 #[.int .i64 t, .slice A nn c] w fun e w' => e = .returned (.int .i64 v) ∧ ∃ n, w' = w.drewN n :=
  (sGrantedBy t A nn c xs w hn hl hA).mono fun _ _ ⟨he, hw⟩ => ⟨he.trans (ret_int h.out), hw⟩

set_option maxHeartbeats 2000000 in
theorem wGrantedBy (A : Option Addr) (nn c : Nat) (zs : List Int) (w : World) (hn : nn = zs.length) (hc : nn ≤ c) (hm : c ≤ maxLen) (hr : ∀ z ∈ zs, 0 ≤ z ∧ z ≤ 255) (hA : Nums .u8 w A zs) :
    Calls Try.prog 8 #[.slice A nn c] w fun e w' => e = .returned (.bool true) ∧ Below w.heap.size w w' := by
  have HO := Lib.hid (drawGrantedBy_any A nn c zs w hn hc hm hr hA)
  have hm' : nn ≤ 9223372036854775807 := by unfold maxLen at hm; omega
  clear hn hc hm hr hA
  by_cases hl : 1048576 < nn
  · have hd : decide ((1048576 : Int) < (nn : Int)) = true := decide_eq_true (by omega)
    go_enter Try.func8, Try.ntmps8
    go_wp2_with fail
    go_ret
    exact ⟨rfl, Below.refl _ _⟩
  · have hd : decide ((1048576 : Int) < (nn : Int)) = false := decide_eq_false (by omega)
    clear hl
    go_enter Try.func8, Try.ntmps8
    go_wp2_with fail
    refine HO.out.mono ?_
    rintro e w1 ⟨t, v, xs, rfl, ht0, ht1, ho, hlen, hrange, hb⟩
    obtain ⟨A1, c1, rfl, hc1, hm1, hn1, _⟩ := ho.form
    have HN := Lib.hid hn1
    have HM := Lib.hid hm1
    have HB := Lib.hid hb
    clear hb hn1 hm1 HO ho hrange
    rcases hs : issueOkB t xs with _ | _
    · have HG : Hid (grantedI t xs = -1) := by unfold Hid grantedI; rw [hs]; rfl
      clear hs
      go_wp2_with fail
      refine (iGrantedBy_is HG _ _ _ _ rfl (by omega) hc1 HM.out HN.out).mono ?_
      rintro e w2 ⟨rfl, n2, rfl⟩
      go_wp2_with fail
      refine (sGrantedBy_is HG _ _ _ _ rfl (by omega) (by exact HN.out)).mono ?_
      rintro e w3 ⟨rfl, n3, rfl⟩
      go_wp2_with fail
      refine (lAlive _).mono ?_
      rintro e w' ⟨rfl, rfl⟩
      go_wp2_with fail
      go_ret
      exact ⟨rfl, bel_drewN HB.out _⟩
    · obtain ⟨g, HG⟩ : ∃ g, Hid (unionI xs = g) := ⟨_, rfl⟩
      have HG1 : Hid (grantedI t xs = g) := by unfold Hid grantedI; rw [hs]; exact HG.out
      obtain ⟨hh1, hh3⟩ := issue_things hs
      have hu := union_range (issue_range hs)
      rw [HG.out] at hu
      obtain ⟨hg0, hg1⟩ := hu
      obtain ⟨al, HAL⟩ : ∃ n, Hid (allOf t = n) := ⟨_, rfl⟩
      have hal1 : al < 256 := by rw [← HAL.out]; exact (allOf_lt t).2
      have hal0 : 0 ≤ al := by rw [← HAL.out]; exact (allOf_lt t).1
      have HSU : Hid (settlesB t xs g = decide (xs.length = 1)) := by unfold Hid; rw [← HG.out]; exact settles_granted hs
      have HW : Hid (∀ k, settlesB t xs k = true → withinB k g = true) := fun k hk => by rw [← HG.out]; exact settles_union hs hk
      have hgneg : decide (g < 0) = false := decide_eq_false (by omega)
      clear hs
      go_wp2_with fail
      refine (iGrantedBy_is HG1 _ _ _ _ rfl (by omega) hc1 HM.out HN.out).mono ?_
      rintro e w2 ⟨rfl, n2, rfl⟩
      go_wp2_with fail
      refine (sGrantedBy_is HG1 _ _ _ _ rfl (by omega) (by exact HN.out)).mono ?_
      rintro e w3 ⟨rfl, n3, rfl⟩
      go_wp2_with fail
      clear hgneg
      go_loopw [6] (fun i wr => ∃ k : Int, 0 ≤ k ∧ k ≤ al + 1 ∧ i = .int .i64 k ∧ ∃ n, wr = w1.drewN n) (fun i _ => (al + 1 - intOf i).toNat)
      case atStart => exact ⟨0, by omega, by omega, rfl, _, rfl⟩
      case round =>
        obtain ⟨k, hk0, hk, rfl, n, rfl⟩ := hrel
        by_cases hlt : k ≤ al
        · obtain ⟨b, HS⟩ : ∃ b, Hid (settlesB t xs k = b) := ⟨_, rfl⟩
          cases b
          · go_wp2_with fail
            refine (lWhole_is HAL hh1 hh3 _).mono ?_
            rintro e w' ⟨rfl, rfl⟩
            go_wp2_with fail
            refine (iSettles_is HS _ _ _ _ rfl (by omega) hc1 HM.out (by exact HN.out)).mono ?_
            rintro e w' ⟨rfl, m, rfl⟩
            go_wp2_with fail
            go_roundw
            case rel => exact ⟨k + 1, by omega, by omega, rfl, _, rfl⟩
            case measure => simp [intOf]; omega
          · have HWK := Lib.hid (HW.out k HS.out)
            go_wp2_with fail
            refine (lWhole_is HAL hh1 hh3 _).mono ?_
            rintro e w' ⟨rfl, rfl⟩
            go_wp2_with fail
            refine (iSettles_is HS _ _ _ _ rfl (by omega) hc1 HM.out (by exact HN.out)).mono ?_
            rintro e w' ⟨rfl, m, rfl⟩
            go_wp2_with fail
            refine (lWithin_is HWK hk0 (by omega) hg0 _).mono ?_
            rintro e w' ⟨rfl, rfl⟩
            go_wp2_with fail
            go_roundw
            case rel => exact ⟨k + 1, by omega, by omega, rfl, _, rfl⟩
            case measure => simp [intOf]; omega
        · by_cases h1 : xs.length = 1
          · have hq : ((xs.length : Int) == 1) = true := by simp [h1]
            have HS : Hid (settlesB t xs g = true) := by unfold Hid; rw [HSU.out]; exact decide_eq_true h1
            clear h1
            go_wp2_with fail
            refine (lWhole_is HAL hh1 hh3 _).mono ?_
            rintro e w' ⟨rfl, rfl⟩
            go_wp2_with fail
            refine (iSettles_is HS _ _ _ _ rfl (by omega) hc1 HM.out (by exact HN.out)).mono ?_
            rintro e w' ⟨rfl, m, rfl⟩
            go_wp2_with fail
            go_ret
            exact ⟨rfl, bel_drewN HB.out _⟩
          · have hq : ((xs.length : Int) == 1) = false := by rw [beq_eq_false_iff_ne]; omega
            have HS : Hid (settlesB t xs g = false) := by unfold Hid; rw [HSU.out]; exact decide_eq_false h1
            clear h1
            go_wp2_with fail
            refine (lWhole_is HAL hh1 hh3 _).mono ?_
            rintro e w' ⟨rfl, rfl⟩
            go_wp2_with fail
            refine (iSettles_is HS _ _ _ _ rfl (by omega) hc1 HM.out (by exact HN.out)).mono ?_
            rintro e w' ⟨rfl, m, rfl⟩
            go_wp2_with fail
            go_ret
            exact ⟨rfl, bel_drewN HB.out _⟩
end Go.Proofs.Ytjhkeclimplbmaa
