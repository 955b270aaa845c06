/-
  IssueFrom: the program's contract; the two laws of it.
-/
import Derived.Test.YtjhkeclimplbmaaGreat
import Derived.Test.YtjhkeclimplbmaaLaws7
namespace Go.Proofs.Ytjhkeclimplbmaa
open Go.RowKit

theorem iPartsOk_is {t : Int} {xs : List Int} {b : Bool} (h : Hid (partsOkB t xs = b)) (A : Option Addr) (nn c : Nat) (w : World) (hn : nn = xs.length) (hl : nn ≤ 1048576) (hA : Nums .i64 w A xs) :
    Calls Try.prog 54 #[.int .i64 t, .slice A nn c] w fun e w' => e = .returned (.bool b) ∧ w = w' :=
  (iPartsOk t A nn c xs w hn hl hA).mono fun _ _ ⟨he, hw⟩ => ⟨he.trans (ret_bool h.out), hw⟩

set_option maxHeartbeats 1000000 in
theorem iIssueFrom (t : Int) (A : Option Addr) (nn c : Nat) (xs : List Int) (w : World) (hn : nn = xs.length) (hl : nn ≤ 1048576) (hA : Nums .i64 w A xs) :
    Calls Try.prog 29 #[.int .i64 t, .slice A nn c] w fun e w' => ∃ v, e = .returned v ∧ Owns w' w.heap.size v (issueFromL t xs) ∧ Below w.heap.size w w' := by
  subst hn
  have HA := Lib.hid hA
  clear hA
  rcases hp : partsOkB t xs with _ | _
  · have HP := Lib.hid hp
    have HF := Lib.hid (from_bad hp)
    clear hp
    go_enter Try.func29, Try.ntmps29
    go_wp2_with fail
    refine (iPartsOk_is HP _ _ _ _ rfl hl HA.out).mono ?_
    rintro e w' ⟨rfl, rfl⟩
    go_wp2_with fail
    go_ret
    exact ⟨_, rfl, by rw [HF.out]; exact Owns.nil _ _, Below.refl _ _⟩
  · have HP := Lib.hid hp
    have HF := Lib.hid (from_ok hp)
    have HR := Lib.hid (partsOk_range hp)
    have h1 : 1 ≤ xs.length := by
      unfold partsOkB at hp; rw [Bool.and_eq_true, decide_eq_true_eq] at hp; exact hp.1.1
    clear hp
    go_enter Try.func29, Try.ntmps29
    go_wp2_with fail
    refine (iPartsOk_is HP _ _ _ _ rfl hl HA.out).mono ?_
    rintro e w' ⟨rfl, rfl⟩
    go_wp2_with fail
    refine (iGreatest _ _ _ xs _ rfl h1 hl HR.out HA.out).mono ?_
    rintro e w1 ⟨v, rfl, ho, hb⟩
    have HO := Lib.hid ho
    have HB := Lib.hid hb
    clear ho hb
    go_wp2_with fail
    go_ret
    exact ⟨_, rfl, by rw [HF.out]; exact HO.out, HB.out⟩

theorem from_len (t : Int) (xs : List Int) : (issueFromL t xs).length ≤ 256 := (issueFrom_range t xs).1

set_option maxHeartbeats 2000000 in
theorem wIssueFrom (A : Option Addr) (nn c : Nat) (zs : List Int) (w : World) (hn : nn = zs.length) (hc : nn ≤ c) (hm : c ≤ maxLen) (hr : ∀ z ∈ zs, 0 ≤ z ∧ z ≤ 255) (hA : Nums .u8 w A zs) :
    Calls Try.prog 6 #[.slice A nn c] w fun e w' => e = .returned (.bool true) ∧ Below w.heap.size w w' := by
  have HO := Lib.hid (drawIssueFrom_any A nn c zs w hn hc hm hr hA)
  have hm' : nn ≤ 9223372036854775807 := by unfold maxLen at hm; omega
  clear hn hc hm hr hA
  by_cases hl : 1048576 < nn
  · have hd : decide ((1048576 : Int) < (nn : Int)) = true := decide_eq_true (by omega)
    go_enter Try.func6, Try.ntmps6
    go_wp2_with fail
    go_ret
    exact ⟨rfl, Below.refl _ _⟩
  · have hd : decide ((1048576 : Int) < (nn : Int)) = false := decide_eq_false (by omega)
    clear hl
    go_enter Try.func6, Try.ntmps6
    go_wp2_with fail
    refine HO.out.mono ?_
    rintro e w1 ⟨t, v, xs, rfl, ht0, ht1, ho, hlen, hrange, hb⟩
    obtain ⟨A1, c1, rfl, hc1, hm1, hn1, _⟩ := ho.form
    have HN := Lib.hid hn1
    have HM := Lib.hid hm1
    have HB := Lib.hid hb
    obtain ⟨is, HIS⟩ : ∃ l, Hid (issueFromL t xs = l) := ⟨_, rfl⟩
    have hil : is.length ≤ 256 := by rw [← HIS.out]; exact from_len t xs
    clear hb hn1 hm1 HO ho hrange hd
    go_wp2_with fail
    refine (iIssueFrom t _ _ _ xs _ rfl (by omega) HN.out).mono ?_
    rintro e w2 ⟨v, rfl, ho, hb⟩
    rw [HIS.out] at ho
    obtain ⟨A2, c2, rfl, hc2, hm2, hn2, _⟩ := ho.form
    have HN2 := Lib.hid hn2
    have HM2 := Lib.hid hm2
    have HN12 := Lib.hid (HN.out.below hb)
    have HB2 := Lib.hid (bel_trans HB.out hb)
    clear ho hb hn2 hm2
    go_wp2_with fail
    refine (sIssueFrom t _ _ _ xs _ rfl (by omega) HN12.out).mono ?_
    rintro e w3 ⟨v, rfl, ho, hb⟩
    rw [HIS.out] at ho
    obtain ⟨A3, c3, rfl, hc3, hm3, hn3, _⟩ := ho.form
    have HN3 := Lib.hid hn3
    have HN13 := Lib.hid (HN12.out.below hb)
    have HN23 := Lib.hid (HN2.out.below hb)
    have HB3 := Lib.hid (bel_trans HB2.out hb)
    clear ho hb hn3 hm3
    go_wp2_with fail
    refine (lSameInts _ _ _ _ _ _ is is _ rfl rfl (by omega) (by omega) HN23.out HN3.out).mono ?_
    rintro e w4 ⟨rfl, n4, rfl⟩
    rcases hp : partsOkB t xs with _ | _
    · have HE : Hid (is = []) := by unfold Hid; rw [← HIS.out]; exact from_bad hp
      have hz : is.length ≤ 0 := by rw [HE.out]; simp
      have hq : ((is.length : Int) == 0) = true := by rw [beq_iff_eq]; omega
      clear hp hz
      go_wp2_with fail
      refine (lAlive _).mono ?_
      rintro e w' ⟨rfl, rfl⟩
      go_wp2_with fail
      go_ret
      exact ⟨rfl, bel_drewN HB3.out _⟩
    · have HI : Hid (issueOkB t is = true) := by unfold Hid; rw [← HIS.out, from_ok hp]; exact tidy_issue hp
      have HS : Hid (∀ x ∈ xs, settlesB t is x = true) := fun x hx => by rw [← HIS.out, from_ok hp]; exact tidy_cover hp hx
      have HF := Lib.hid (from_self HI.out)
      have hpos := (issue_ne HI.out).1
      have hq : ((is.length : Int) == 0) = false := by rw [beq_eq_false_iff_ne]; omega
      clear hp
      go_wp2_with fail
      clear hq
      go_loopw [6] (fun i wr => ∃ k : Nat, k ≤ xs.length ∧ i = .int .i64 k ∧ ∃ n, wr = w3.drewN n) (fun i _ => xs.length - (Go.RowKit.intOf i).toNat)
      case atStart => exact ⟨0, Nat.zero_le _, rfl, _, rfl⟩
      case round =>
        obtain ⟨k, hk, rfl, n, rfl⟩ := hrel
        by_cases hlt : k < xs.length
        · obtain ⟨b, off, x, rfl, hcell, hx, _⟩ := HN13.out.elem hlt
          have HX := Lib.hid (HS.out x (elem_mem hx))
          go_wp2_with fail
          refine (iSettles_is HX _ _ _ _ rfl (by omega) hc2 HM2.out (by exact HN23.out)).mono ?_
          rintro e w' ⟨rfl, m, rfl⟩
          go_wp2_with fail
          go_roundw
          case rel => exact ⟨k + 1, by omega, by go_num, _, rfl⟩
          case measure => simp [Go.RowKit.intOf]; omega
        · go_wp2_with fail
          refine (iIssueOk_is HI _ _ _ _ rfl (by omega) hc2 HM2.out (by exact HN23.out)).mono ?_
          rintro e w' ⟨rfl, m, rfl⟩
          go_wp2_with fail
          refine (iIssueFrom t _ _ _ is _ rfl (by omega) (by exact HN23.out)).mono ?_
          rintro e w6 ⟨v, rfl, ho, hb⟩
          rw [HF.out] at ho
          obtain ⟨A6, c6, rfl, hc6, hm6, hn6, _⟩ := ho.form
          have HN6 := Lib.hid hn6
          have HN26 := Lib.hid (Nums.below (w := w3.drewN (n + m)) HN23.out hb)
          have HB6 := Lib.hid (bel_trans (bel_drewN HB3.out (n + m)) hb)
          clear ho hb hn6 hm6
          go_wp2_with fail
          refine (lSameInts _ _ _ _ _ _ is is _ rfl rfl (by omega) (by omega) HN6.out HN26.out).mono ?_
          rintro e w7 ⟨rfl, n7, rfl⟩
          go_wp2_with fail
          go_ret
          exact ⟨rfl, bel_drewN HB6.out _⟩
end Go.Proofs.Ytjhkeclimplbmaa
