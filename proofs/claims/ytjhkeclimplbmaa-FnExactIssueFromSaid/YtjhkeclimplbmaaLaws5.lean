/-
  The walks of the laws of IssueOk, GrantedBy, Settles.
-/
import Derived.Test.YtjhkeclimplbmaaLaws4
import Derived.Test.YtjhkeclimplbmaaDrawL
namespace Go.Proofs.Ytjhkeclimplbmaa
open Go.RowKit

theorem issue_init {t : Int} {xs : List Int} (h : issueOkB t xs = true) (k : Nat) (h1 : 1 ≤ k) (hk : k ≤ xs.length) : issueOkB t (xs.take k) = true := by
  unfold issueOkB partsOkB pairB at *
  simp only [Bool.and_eq_true, decide_eq_true_eq] at h ⊢
  obtain ⟨⟨⟨h2, h3⟩, h4⟩, h5⟩ := h
  refine ⟨⟨⟨?_, ?_⟩, ?_⟩, h5.sublist (List.take_sublist _ _)⟩
  · rw [List.length_take]; omega
  · rw [List.length_take]; omega
  · rw [List.all_eq_true] at h4 ⊢
    exact fun x hx => h4 x (List.mem_of_mem_take hx)
theorem issue_nil (t : Int) : issueOkB t [] = false := by unfold issueOkB partsOkB; simp
theorem issue_zero : issueOkB 2 [0] = true := issue_one (by decide)
theorem iIssueOk_nil (w : World) : Calls Try.prog 26 #[.int .i64 2, .slice none 0 0] w fun e w' => e = .returned (.bool false) ∧ ∃ n, w' = w.drewN n :=
  iIssueOk_is (issue_nil 2) none 0 0 w rfl (by omega) (by omega) (by simp [maxLen]) (Nums.nil _ _ _)

set_option maxHeartbeats 2000000 in
theorem wIssueOk (A : Option Addr) (nn c : Nat) (zs : List Int) (w : World) (hn : nn = zs.length) (hc : nn ≤ c) (hm : c ≤ maxLen) (hr : ∀ z ∈ zs, 0 ≤ z ∧ z ≤ 255) (hA : Nums .u8 w A zs) :
    Calls Try.prog 5 #[.slice A nn c] w fun e w' => e = .returned (.bool true) ∧ Below w.heap.size w w' := by
  have HO := Lib.hid (drawIssueOk_any A nn c zs w hn hc hm hr hA)
  have hm' : nn ≤ 9223372036854775807 := by unfold maxLen at hm; omega
  clear hn hc hm hr hA
  by_cases hl : 1048576 < nn
  · have hd : decide ((1048576 : Int) < (nn : Int)) = true := by simp; omega
    go_enter Try.func5, Try.ntmps5
    go_wp2_with fail
    go_ret
    exact ⟨rfl, Below.refl _ _⟩
  · have hd : decide ((1048576 : Int) < (nn : Int)) = false := by simp; omega
    clear hl
    go_enter Try.func5, Try.ntmps5
    go_wp2_with fail
    refine HO.out.mono ?_
    rintro e w1 ⟨t, v, xs, rfl, ht0, ht1, ho, hlen, hrange, hb⟩
    obtain ⟨A1, c1, rfl, hc1, hm1, hn1, _⟩ := ho.form
    have hc63 : c1 ≤ 9223372036854775807 := by unfold maxLen at hm1; omega
    have HN := Lib.hid hn1
    have HM := Lib.hid hm1
    have HB := Lib.hid hb
    have HZ : Hid (∀ W : World, Nums .i64 (W.alloc (.cells #[.int .i64 0] 3)) (some ⟨W.heap.size, 0, none⟩) [0]) := fun W => by
      obtain ⟨A9, c9, h9, _, _, h10, _⟩ := (Owns.lit W W.heap.size [0] (Nat.le_refl _) (by simp [maxLen])).form
      simp only [Value.slice.injEq] at h9
      rw [← h9.1] at h10; exact h10
    clear hb hn1 hm1 HO ho hrange
    rcases hs : issueOkB t xs with _ | _
    · have H1 := Lib.hid hs
      clear hs
      go_wp2_with fail
      refine (iIssueOk_is H1 _ _ _ _ rfl (by omega) hc1 HM.out HN.out).mono ?_
      rintro e w2 ⟨rfl, n2, rfl⟩
      go_wp2_with fail
      refine (sIssueOk_is H1 _ _ _ _ rfl (by omega) (by exact HN.out)).mono ?_
      rintro e w3 ⟨rfl, n3, rfl⟩
      go_wp2_with fail
      refine (iIssueOk_nil _).mono ?_
      rintro e w4 ⟨rfl, n4, rfl⟩
      go_wp2_with fail
      refine (iIssueOk_is (xs := [0]) issue_zero _ _ _ _ rfl (by simp) (by simp) (by simp [maxLen]) (by exact HZ.out _)).mono ?_
      rintro e w5 ⟨rfl, n5, rfl⟩
      go_wp2_with fail
      refine (lAlive _).mono ?_
      rintro e w' ⟨rfl, rfl⟩
      go_wp2_with fail
      go_ret
      exact ⟨rfl, bel_drewN ((bel_drewN HB.out _).alloc (bel_drewN HB.out _).size _) _⟩
    · have H1 := Lib.hid hs
      by_cases h2 : xs.length < 2
      · have hd2 : decide ((xs.length : Int) < 2) = true := decide_eq_true (by omega)
        clear hs h2
        go_wp2_with fail
        refine (iIssueOk_is H1 _ _ _ _ rfl (by omega) hc1 HM.out HN.out).mono ?_
        rintro e w2 ⟨rfl, n2, rfl⟩
        go_wp2_with fail
        refine (sIssueOk_is H1 _ _ _ _ rfl (by omega) (by exact HN.out)).mono ?_
        rintro e w3 ⟨rfl, n3, rfl⟩
        go_wp2_with fail
        refine (iIssueOk_nil _).mono ?_
        rintro e w4 ⟨rfl, n4, rfl⟩
        go_wp2_with fail
        refine (iIssueOk_is (xs := [0]) issue_zero _ _ _ _ rfl (by simp) (by simp) (by simp [maxLen]) (by exact HZ.out _)).mono ?_
        rintro e w5 ⟨rfl, n5, rfl⟩
        go_wp2_with fail
        refine (lAlive _).mono ?_
        rintro e w' ⟨rfl, rfl⟩
        go_wp2_with fail
        go_ret
        exact ⟨rfl, bel_drewN ((bel_drewN HB.out _).alloc (bel_drewN HB.out _).size _) _⟩
      · have hd2 : decide ((xs.length : Int) < 2) = false := decide_eq_false (by omega)
        have H3 := Lib.hid (issue_init hs (xs.length - 1) (by omega) (by omega))
        have H4 : Hid (xs.length - 1 = (xs.take (xs.length - 1)).length) := by unfold Hid; rw [List.length_take]; omega
        have hge : 2 ≤ xs.length := by omega
        clear hs h2
        go_wp2_with fail
        refine (iIssueOk_is H1 _ _ _ _ rfl (by omega) hc1 HM.out HN.out).mono ?_
        rintro e w2 ⟨rfl, n2, rfl⟩
        go_wp2_with fail
        refine (sIssueOk_is H1 _ _ _ _ rfl (by omega) (by exact HN.out)).mono ?_
        rintro e w3 ⟨rfl, n3, rfl⟩
        go_wp2_with fail
        refine (iIssueOk_is H3 _ _ _ _ H4.out (by omega) (by omega) HM.out (by exact HN.out.take _)).mono ?_
        rintro e w3 ⟨rfl, n3, rfl⟩
        go_wp2_with fail
        refine (iIssueOk_nil _).mono ?_
        rintro e w4 ⟨rfl, n4, rfl⟩
        go_wp2_with fail
        refine (iIssueOk_is (xs := [0]) issue_zero _ _ _ _ rfl (by simp) (by simp) (by simp [maxLen]) (by exact HZ.out _)).mono ?_
        rintro e w5 ⟨rfl, n5, rfl⟩
        go_wp2_with fail
        refine (lAlive _).mono ?_
        rintro e w' ⟨rfl, rfl⟩
        go_wp2_with fail
        go_ret
        exact ⟨rfl, bel_drewN ((bel_drewN HB.out _).alloc (bel_drewN HB.out _).size _) _⟩
end Go.Proofs.Ytjhkeclimplbmaa
