/-
  What the proofs of this seat's statements share (TogL, TogS, TogT, TogD, TogX, TogL1).
-/
import Derived.WalkSmall
import Derived.Deep.AppendLies
import Derived.Deep.RegionLaw
import Derived.Test.YtannpnhboeopdaaDoorU6
import Derived.Test.YtannpnhboeopdaaDoorU3

namespace Go.Proofs.YtannpnhboeopdaaDoor
open Go.RowKit

theorem either_nil {t : Int} {a b : List Int} (h : okTwo t a b = false) : eitherL t a b = [] := by
  unfold okTwo at h; unfold eitherL; rw [h]; rfl
theorem if_nil {t : Int} {a b : List Int} (h : okTwo t a b = false) : ifL t a b = [] := by
  unfold okTwo at h; unfold ifL; rw [h]; rfl
theorem not_nil {t : Int} {a : List Int} (h : issueOkB t a = false) : notL t a = [] := by unfold notL; rw [h]; rfl
theorem whether_all {t : Int} {a : List Int} : whetherL t a = eitherL t a (notL t a) := by
  unfold whetherL
  cases h : issueOkB t a
  · unfold eitherL; rw [h]; rfl
  · rfl

theorem two_cells (w : World) (u v : Value) (t : TypeId) : (w.alloc (.cells #[u, v] t)).cell? ⟨w.heap.size, 0, none⟩ = some u ∧ (w.alloc (.cells #[u, v] t)).cell? ⟨w.heap.size, 1, none⟩ = some v :=
  ⟨cell_two_new w u v t 0 u rfl, cell_two_new w u v t 1 v rfl⟩
set_option maxRecDepth 100000 in
set_option maxHeartbeats 2000000 in
theorem iEitherIssue (t : Int) (A B : Option Addr) (na ca nb cb : Nat) (a b : List Int) (w : World) (ha : Row w A na ca a) (hb : Row w B nb cb b) :
    Calls Tryd.prog 53 #[.int .i64 t, .slice A na ca, .slice B nb cb] w fun e w' => ∃ v, e = .returned v ∧ Owns w' w.heap.size v (eitherL t a b) ∧ Below w.heap.size w w' := by
  have HA := Lib.hid ha
  have HB := Lib.hid hb
  obtain rfl := ha.hn
  obtain rfl := hb.hn
  clear ha hb
  obtain ⟨x, HX⟩ : ∃ x, Hid (okTwo t a b = x) := ⟨_, rfl⟩
  cases x
  · have HF := Lib.hid (either_nil HX.out)
    go_enter Tryd.func53, Tryd.ntmps53
    go_wp2_with fail
    refine (iIssuesOk_is HX HA.out HB.out).mono ?_
    rintro e w' ⟨rfl, m1, rfl⟩
    go_wp2_with fail
    go_ret
    exact ⟨_, rfl, by rw [HF.out]; exact Owns.nil _ _, bel_drewN (Below.refl _ _) _⟩
  · obtain ⟨h1, h2⟩ := okTwo_ok HX.out
    obtain ⟨hla, hla2⟩ := issue_ne h1
    obtain ⟨hlb, hlb2⟩ := issue_ne h2
    have HF := Lib.hid (either_eq h1 h2)
    have HS := Lib.hid (sets_range (eitherX_sets h1 h2))
    clear h1 h2
    obtain ⟨ab, HAB⟩ : ∃ l, Hid (a ++ b = l) := ⟨_, rfl⟩
    have hpos : 1 ≤ ab.length := by rw [← HAB.out, List.length_append]; omega
    have hle : ab.length ≤ 1048576 := by rw [← HAB.out, List.length_append]; omega
    rw [HAB.out] at HF HS
    go_enter Tryd.func53, Tryd.ntmps53
    go_wp2_with fail
    refine (iIssuesOk_is HX HA.out HB.out).mono ?_
    rintro e w' ⟨rfl, m2, rfl⟩
    go_wp2_with fail
    have hbel : ∀ o, Below w.heap.size w ((w.drewN m2).alloc o) := fun o => (bel_drewN (Below.refl _ _) _).alloc (Nat.le_refl _) _
    refine (iConcat w.heap.size A B a.length ca b.length cb a b _ (by rw [World.size_alloc]; exact Nat.lt_succ_self _) (two_cells (w.drewN m2) _ _ _).1 (two_cells (w.drewN m2) _ _ _).2 (HA.out.below (hbel _)) (HB.out.below (hbel _)) hla hlb (by omega)).mono ?_
    rintro e w1 ⟨v, rfl, ho, hb⟩
    rw [HAB.out] at ho
    obtain ⟨A1, c1, rfl, hc1, hm1, hn1, _⟩ := ho.form
    have HN1 := Lib.hid hn1
    have HB1 := Lib.hid (hbel _ |>.trans (hb.mono (by rw [World.size_alloc]; exact Nat.le_succ _)))
    have hsz1 := HB1.out.size
    clear ho hb hm1 hn1 hbel
    go_wp2_with fail
    refine (iGreatest _ _ _ ab _ rfl hpos hle HS.out HN1.out).mono ?_
    rintro e w2 ⟨v, rfl, ho, hb⟩
    have HO2 := Lib.hid ho
    have HB2 := Lib.hid (bel_trans HB1.out hb)
    clear ho hb
    go_wp2_with fail
    go_ret
    exact ⟨_, rfl, by rw [HF.out]; exact HO2.out.base hsz1, HB2.out⟩

theorem if_next (a b : List Int) (k : Nat) : ifTo a b (k + 1) = ifTo a b k ++ (if goodB a b k = true then [(k : Int)] else []) := by
  unfold ifTo
  rw [List.range_succ, List.map_append, List.filter_append]
  simp only [List.map_cons, List.map_nil, List.filter_cons, List.filter_nil]
theorem if_len (a b : List Int) (k : Nat) : (ifTo a b k).length ≤ k := by
  unfold ifTo
  refine Nat.le_trans (List.length_filter_le _ _) (by simp)
theorem if_zero (a b : List Int) : ifTo a b 0 = [] := rfl
theorem ifTo_pos {t : Int} {a b : List Int} (_ : issueOkB t a = true) (hb : issueOkB t b = true) : 1 ≤ (ifTo a b (allOf t + 1).toNat).length := by
  refine List.length_pos_of_mem (a := 0) (mem_ifTo.2 ⟨by omega, by have := allOf_lt t; omega, good_zero hb⟩)
theorem iCarries_is {s : Int} {a b : List Int} {v : Bool} (h : Hid (goodB a b s = v)) (A B : Option Addr) (na ca nb cb : Nat) (w : World) (hs : 0 ≤ s) (hs2 : s < 256) (ha : Row w A na ca a) (hb : Row w B nb cb b) (hra : ∀ x ∈ a, 0 ≤ x ∧ x < 256) (hrb : ∀ x ∈ b, 0 ≤ x ∧ x < 256) :
    Calls Tryd.prog 69 #[.int .i64 s, .slice A na ca, .slice B nb cb] w fun e w' => e = .returned (.bool v) ∧ w = w' :=
  (iCarries s A B na ca nb cb a b w hs hs2 ha hb hra hrb).mono fun _ _ ⟨he, hw⟩ => ⟨he.trans (ret_bool h.out), hw⟩
theorem worlds_is {t : Int} (h1 : 1 ≤ t) (h3 : t ≤ 3) : ∃ n : Nat, worldsOf t = n ∧ 1 ≤ n ∧ n ≤ 8 ∧ allOf t + 1 = ((2 ^ n : Nat) : Int) := by
  have : t = 1 ∨ t = 2 ∨ t = 3 := by omega
  rcases this with rfl | rfl | rfl
  · exact ⟨2, rfl, by omega, by omega, rfl⟩
  · exact ⟨4, rfl, by omega, by omega, rfl⟩
  · exact ⟨8, rfl, by omega, by omega, rfl⟩

set_option maxRecDepth 100000 in
set_option maxHeartbeats 4000000 in
theorem iIfIssue (t : Int) (A B : Option Addr) (na ca nb cb : Nat) (a b : List Int) (w : World) (ha : Row w A na ca a) (hb : Row w B nb cb b) :
    Calls Tryd.prog 54 #[.int .i64 t, .slice A na ca, .slice B nb cb] w fun e w' => ∃ v, e = .returned v ∧ Owns w' w.heap.size v (ifL t a b) ∧ Below w.heap.size w w' := by
  have HA := Lib.hid ha
  have HB := Lib.hid hb
  obtain rfl := ha.hn
  obtain rfl := hb.hn
  clear ha hb
  obtain ⟨x, HX⟩ : ∃ x, Hid (okTwo t a b = x) := ⟨_, rfl⟩
  cases x
  · have HF := Lib.hid (if_nil HX.out)
    go_enter Tryd.func54, Tryd.ntmps54
    go_wp2_with fail
    refine (iIssuesOk_is HX HA.out HB.out).mono ?_
    rintro e w' ⟨rfl, m1, rfl⟩
    go_wp2_with fail
    go_ret
    exact ⟨_, rfl, by rw [HF.out]; exact Owns.nil _ _, bel_drewN (Below.refl _ _) _⟩
  · obtain ⟨h1, h2⟩ := okTwo_ok HX.out
    have HRA := Lib.hid (issue_range h1)
    have HRB := Lib.hid (issue_range h2)
    have HF := Lib.hid (if_eq h1 h2)
    have HS := Lib.hid (sets_range (ifX_sets (b := b) h1))
    have hpos := ifTo_pos h1 h2
    obtain ⟨ht1, ht3⟩ := issue_things h1
    have ht : t = 1 ∨ t = 2 ∨ t = 3 := by omega
    clear h1 h2 ht1 ht3
    rcases ht with rfl | rfl | rfl
    · have HAL : Hid ((allOf 1 + 1).toNat = 4) := rfl
      rw [HAL.out] at HF HS hpos
      go_enter Tryd.func54, Tryd.ntmps54
      go_wp2_with fail
      refine (iIssuesOk_is HX HA.out HB.out).mono ?_
      rintro e w' ⟨rfl, m2, rfl⟩
      go_wp2_with fail
      refine (iWorldsOf _ _).mono ?_
      rintro e w' ⟨rfl, rfl⟩
      simp only [worldsOf]
      go_wp2_with fail
      go_loopw [7, 17] (fun v i wr => ∃ k : Nat, k ≤ 4 ∧ i = .int .i64 k ∧ Owns wr w.heap.size v (ifTo a b k) ∧ Below w.heap.size w wr) (fun _ i _ => 4 - (Go.RowKit.intOf i).toNat)
      case atStart => exact ⟨0, by omega, rfl, by rw [if_zero]; exact Owns.nil _ _, bel_drewN (Below.refl _ _) _⟩
      case round =>
        obtain ⟨k, hk, rfl, hown, hbel⟩ := hrel
        have HOW := Lib.hid hown
        have HBW := Lib.hid hbel
        clear hown hbel
        by_cases hlt : k < 4
        · have hkl := if_len a b k
          rcases hg : goodB a b (k : Int) with _ | _
          · have HG := Lib.hid hg
            have HT : Hid (ifTo a b (k + 1) = ifTo a b k) := by unfold Hid; rw [if_next, hg]; simp
            clear hg
            go_wp2_with fail
            refine (iCarries_is HG _ _ _ _ _ _ _ (by omega) (by omega) (HA.out.below HBW.out) (HB.out.below HBW.out) HRA.out HRB.out).mono ?_
            rintro e w' ⟨rfl, rfl⟩
            go_wp2_with fail
            go_roundw
            case rel => exact ⟨k + 1, by omega, by go_num, by rw [HT.out]; exact HOW.out, HBW.out⟩
            case measure => simp [Go.RowKit.intOf]; omega
          · have HG := Lib.hid hg
            have HT : Hid (ifTo a b (k + 1) = ifTo a b k ++ [(k : Int)]) := by unfold Hid; rw [if_next, hg]; simp
            clear hg
            go_wp2_with fail
            refine (iCarries_is HG _ _ _ _ _ _ _ (by omega) (by omega) (HA.out.below HBW.out) (HB.out.below HBW.out) HRA.out HRB.out).mono ?_
            rintro e w' ⟨rfl, rfl⟩
            go_wp2_with (at_builtin; refine wp_append1 (W := wr) rfl _ _ rfl w.heap.size u7 (ifTo a b k) rfl HOW.out (k : Int) rfl (by omega) HBW.out.size ?_; intro v' w' hown' hgrow)
            have hb' := below_append HBW.out HBW.out.size HOW.out (Nat.le_refl _) hgrow
            go_roundw
            case rel => exact ⟨k + 1, by omega, by go_num, by rw [HT.out]; exact hown', hb'⟩
            case measure => simp [Go.RowKit.intOf]; omega
        · obtain rfl : k = 4 := by omega
          have hle := if_len a b 4
          obtain ⟨A1, c1, rfl, hc1, hm1, hn1, _⟩ := HOW.out.form
          have HN1 := Lib.hid hn1
          clear hm1 hn1
          go_wp2_with fail
          refine (iGreatest _ _ _ (ifTo a b 4) _ rfl hpos (by omega) HS.out HN1.out).mono ?_
          rintro e w2 ⟨v, rfl, ho, hb⟩
          have HO2 := Lib.hid ho
          have HB2 := Lib.hid (bel_trans HBW.out hb)
          have hsz := HBW.out.size
          clear ho hb
          go_wp2_with fail
          go_ret
          exact ⟨_, rfl, by rw [HF.out]; exact HO2.out.base hsz, HB2.out⟩
    · have HAL : Hid ((allOf 2 + 1).toNat = 16) := rfl
      rw [HAL.out] at HF HS hpos
      go_enter Tryd.func54, Tryd.ntmps54
      go_wp2_with fail
      refine (iIssuesOk_is HX HA.out HB.out).mono ?_
      rintro e w' ⟨rfl, m3, rfl⟩
      go_wp2_with fail
      refine (iWorldsOf _ _).mono ?_
      rintro e w' ⟨rfl, rfl⟩
      simp only [worldsOf]
      go_wp2_with fail
      go_loopw [7, 17] (fun v i wr => ∃ k : Nat, k ≤ 16 ∧ i = .int .i64 k ∧ Owns wr w.heap.size v (ifTo a b k) ∧ Below w.heap.size w wr) (fun _ i _ => 16 - (Go.RowKit.intOf i).toNat)
      case atStart => exact ⟨0, by omega, rfl, by rw [if_zero]; exact Owns.nil _ _, bel_drewN (Below.refl _ _) _⟩
      case round =>
        obtain ⟨k, hk, rfl, hown, hbel⟩ := hrel
        have HOW := Lib.hid hown
        have HBW := Lib.hid hbel
        clear hown hbel
        by_cases hlt : k < 16
        · have hkl := if_len a b k
          rcases hg : goodB a b (k : Int) with _ | _
          · have HG := Lib.hid hg
            have HT : Hid (ifTo a b (k + 1) = ifTo a b k) := by unfold Hid; rw [if_next, hg]; simp
            clear hg
            go_wp2_with fail
            refine (iCarries_is HG _ _ _ _ _ _ _ (by omega) (by omega) (HA.out.below HBW.out) (HB.out.below HBW.out) HRA.out HRB.out).mono ?_
            rintro e w' ⟨rfl, rfl⟩
            go_wp2_with fail
            go_roundw
            case rel => exact ⟨k + 1, by omega, by go_num, by rw [HT.out]; exact HOW.out, HBW.out⟩
            case measure => simp [Go.RowKit.intOf]; omega
          · have HG := Lib.hid hg
            have HT : Hid (ifTo a b (k + 1) = ifTo a b k ++ [(k : Int)]) := by unfold Hid; rw [if_next, hg]; simp
            clear hg
            go_wp2_with fail
            refine (iCarries_is HG _ _ _ _ _ _ _ (by omega) (by omega) (HA.out.below HBW.out) (HB.out.below HBW.out) HRA.out HRB.out).mono ?_
            rintro e w' ⟨rfl, rfl⟩
            go_wp2_with (at_builtin; refine wp_append1 (W := wr) rfl _ _ rfl w.heap.size u7 (ifTo a b k) rfl HOW.out (k : Int) rfl (by omega) HBW.out.size ?_; intro v' w' hown' hgrow)
            have hb' := below_append HBW.out HBW.out.size HOW.out (Nat.le_refl _) hgrow
            go_roundw
            case rel => exact ⟨k + 1, by omega, by go_num, by rw [HT.out]; exact hown', hb'⟩
            case measure => simp [Go.RowKit.intOf]; omega
        · obtain rfl : k = 16 := by omega
          have hle := if_len a b 16
          obtain ⟨A1, c1, rfl, hc1, hm1, hn1, _⟩ := HOW.out.form
          have HN1 := Lib.hid hn1
          clear hm1 hn1
          go_wp2_with fail
          refine (iGreatest _ _ _ (ifTo a b 16) _ rfl hpos (by omega) HS.out HN1.out).mono ?_
          rintro e w2 ⟨v, rfl, ho, hb⟩
          have HO2 := Lib.hid ho
          have HB2 := Lib.hid (bel_trans HBW.out hb)
          have hsz := HBW.out.size
          clear ho hb
          go_wp2_with fail
          go_ret
          exact ⟨_, rfl, by rw [HF.out]; exact HO2.out.base hsz, HB2.out⟩
    · have HAL : Hid ((allOf 3 + 1).toNat = 256) := rfl
      rw [HAL.out] at HF HS hpos
      go_enter Tryd.func54, Tryd.ntmps54
      go_wp2_with fail
      refine (iIssuesOk_is HX HA.out HB.out).mono ?_
      rintro e w' ⟨rfl, m4, rfl⟩
      go_wp2_with fail
      refine (iWorldsOf _ _).mono ?_
      rintro e w' ⟨rfl, rfl⟩
      simp only [worldsOf]
      go_wp2_with fail
      go_loopw [7, 17] (fun v i wr => ∃ k : Nat, k ≤ 256 ∧ i = .int .i64 k ∧ Owns wr w.heap.size v (ifTo a b k) ∧ Below w.heap.size w wr) (fun _ i _ => 256 - (Go.RowKit.intOf i).toNat)
      case atStart => exact ⟨0, by omega, rfl, by rw [if_zero]; exact Owns.nil _ _, bel_drewN (Below.refl _ _) _⟩
      case round =>
        obtain ⟨k, hk, rfl, hown, hbel⟩ := hrel
        have HOW := Lib.hid hown
        have HBW := Lib.hid hbel
        clear hown hbel
        by_cases hlt : k < 256
        · have hkl := if_len a b k
          rcases hg : goodB a b (k : Int) with _ | _
          · have HG := Lib.hid hg
            have HT : Hid (ifTo a b (k + 1) = ifTo a b k) := by unfold Hid; rw [if_next, hg]; simp
            clear hg
            go_wp2_with fail
            refine (iCarries_is HG _ _ _ _ _ _ _ (by omega) (by omega) (HA.out.below HBW.out) (HB.out.below HBW.out) HRA.out HRB.out).mono ?_
            rintro e w' ⟨rfl, rfl⟩
            go_wp2_with fail
            go_roundw
            case rel => exact ⟨k + 1, by omega, by go_num, by rw [HT.out]; exact HOW.out, HBW.out⟩
            case measure => simp [Go.RowKit.intOf]; omega
          · have HG := Lib.hid hg
            have HT : Hid (ifTo a b (k + 1) = ifTo a b k ++ [(k : Int)]) := by unfold Hid; rw [if_next, hg]; simp
            clear hg
            go_wp2_with fail
            refine (iCarries_is HG _ _ _ _ _ _ _ (by omega) (by omega) (HA.out.below HBW.out) (HB.out.below HBW.out) HRA.out HRB.out).mono ?_
            rintro e w' ⟨rfl, rfl⟩
            go_wp2_with (at_builtin; refine wp_append1 (W := wr) rfl _ _ rfl w.heap.size u7 (ifTo a b k) rfl HOW.out (k : Int) rfl (by omega) HBW.out.size ?_; intro v' w' hown' hgrow)
            have hb' := below_append HBW.out HBW.out.size HOW.out (Nat.le_refl _) hgrow
            go_roundw
            case rel => exact ⟨k + 1, by omega, by go_num, by rw [HT.out]; exact hown', hb'⟩
            case measure => simp [Go.RowKit.intOf]; omega
        · obtain rfl : k = 256 := by omega
          have hle := if_len a b 256
          obtain ⟨A1, c1, rfl, hc1, hm1, hn1, _⟩ := HOW.out.form
          have HN1 := Lib.hid hn1
          clear hm1 hn1
          go_wp2_with fail
          refine (iGreatest _ _ _ (ifTo a b 256) _ rfl hpos (by omega) HS.out HN1.out).mono ?_
          rintro e w2 ⟨v, rfl, ho, hb⟩
          have HO2 := Lib.hid ho
          have HB2 := Lib.hid (bel_trans HBW.out hb)
          have hsz := HBW.out.size
          clear ho hb
          go_wp2_with fail
          go_ret
          exact ⟨_, rfl, by rw [HF.out]; exact HO2.out.base hsz, HB2.out⟩

theorem andNot_rest {n : Nat} {g : Int} (hn : n ≤ 8) (h0 : 0 ≤ g) (h1 : g ≤ ((2 ^ n : Nat) : Int) - 1) : bits .andNot .i64 (((2 ^ n : Nat) : Int) - 1) g = ((2 ^ n : Nat) : Int) - 1 - g := by
  obtain ⟨b, rfl⟩ : ∃ b : Nat, g = b := ⟨g.toNat, by omega⟩
  have hp : 0 < 2 ^ n := Nat.two_pow_pos n
  have hp8 : 2 ^ n ≤ 2 ^ 8 := Nat.pow_le_pow_right (by omega) hn
  have e0 : ((2 ^ n : Nat) : Int) - 1 = ((2 ^ n - 1 : Nat) : Int) := by omega
  rw [e0]
  have e : bits .andNot .i64 ((2 ^ n - 1 : Nat) : Int) (b : Int) = (((2 ^ n - 1) &&& (2 ^ 64 - (b + 1)) : Nat) : Int) := by
    have hx : (2 ^ n - 1) &&& (2 ^ 64 - (b + 1)) ≤ 2 ^ n - 1 := Nat.and_le_left
    show IntKind.i64.wrap ((BitVec.ofInt 64 ((2 ^ n - 1 : Nat) : Int) &&& ~~~BitVec.ofInt 64 (b : Int)).toNat : Int) = _
    rw [BitVec.toNat_and, BitVec.toNat_not, BitVec.ofInt_natCast, BitVec.ofInt_natCast, BitVec.toNat_ofNat, BitVec.toNat_ofNat, Nat.mod_eq_of_lt (by omega), Nat.mod_eq_of_lt (by omega), IntKind.wrap_i64,
      show 2 ^ 64 - 1 - b = 2 ^ 64 - (b + 1) by omega]
    omega
  have hb : b < 2 ^ n := by omega
  have : (2 ^ n - 1) &&& (2 ^ 64 - (b + 1)) = 2 ^ n - (b + 1) := by
    apply Nat.eq_of_testBit_eq
    intro i
    rw [Nat.testBit_and, Nat.testBit_two_pow_sub_succ (show b < 2 ^ 64 by omega), Nat.testBit_two_pow_sub_succ hb, Nat.testBit_two_pow_sub_one]
    by_cases hi : i < n
    · simp [hi, show i < 64 by omega]
    · simp [hi]
  rw [e, this]; omega

theorem not_state {t : Int} {a : List Int} (ha : issueOkB t a = true) : statementL t (allOf t - unionI a) = notL t a := by
  unfold statementL; rw [rest_ok ha, law_not ha]; rfl
theorem iGrantedBy_ok {t : Int} {xs : List Int} {g : Int} (h : Hid (grantedI t xs = g)) (A : Option Addr) (nn c : Nat) (w : World) (ha : Row w A nn c xs) :
    Calls Tryd.prog 19 #[.int .i64 t, .slice A nn c] w fun e w' => e = .returned (.int .i64 g) ∧ ∃ n, w' = w.drewN n :=
  (iGrantedBy t A nn c xs w ha.hn ha.hl ha.hc ha.hm ha.hA).mono fun _ _ ⟨he, hw⟩ => ⟨he.trans (ret_int h.out), hw⟩
theorem granted_ok {t : Int} {xs : List Int} (h : issueOkB t xs = true) : grantedI t xs = unionI xs := by unfold grantedI; rw [h]; rfl

set_option maxHeartbeats 2000000 in
theorem iNotIssue (t : Int) (A : Option Addr) (na ca : Nat) (a : List Int) (w : World) (ha : Row w A na ca a) :
    Calls Tryd.prog 50 #[.int .i64 t, .slice A na ca] w fun e w' => ∃ v, e = .returned v ∧ Owns w' w.heap.size v (notL t a) ∧ Below w.heap.size w w' := by
  have HA := Lib.hid ha
  obtain rfl := ha.hn
  clear ha
  obtain ⟨x, HX⟩ : ∃ x, Hid (issueOkB t a = x) := ⟨_, rfl⟩
  cases x
  · have HF := Lib.hid (not_nil HX.out)
    go_enter Tryd.func50, Tryd.ntmps50
    go_wp2_with fail
    refine (iIssueOk_is HX _ _ _ _ rfl HA.out.hl HA.out.hc HA.out.hm HA.out.hA).mono ?_
    rintro e w' ⟨rfl, m1, rfl⟩
    go_wp2_with fail
    go_ret
    exact ⟨_, rfl, by rw [HF.out]; exact Owns.nil _ _, bel_drewN (Below.refl _ _) _⟩
  · obtain ⟨ht1, ht3⟩ := issue_things HX.out
    have HG := Lib.hid (granted_ok HX.out)
    have hu := union_all HX.out
    have HS := Lib.hid (not_state HX.out)
    obtain ⟨g, hg⟩ : ∃ g, g = unionI a := ⟨_, rfl⟩
    rw [← hg] at HG HS hu
    have ht : t = 1 ∨ t = 2 ∨ t = 3 := by omega
    clear ht1 ht3 hg
    obtain ⟨hu0, hu1⟩ := hu
    rcases ht with rfl | rfl | rfl
    · have HBN : Hid (bits .andNot .i64 3 g = 3 - g) := andNot_rest (n := 2) (by omega) hu0 hu1
      have HS2 : Hid (statementL 1 (3 - g) = notL 1 a) := HS.out
      clear hu1
      go_enter Tryd.func50, Tryd.ntmps50
      go_wp2_with fail
      refine (iIssueOk_is HX _ _ _ _ rfl HA.out.hl HA.out.hc HA.out.hm HA.out.hA).mono ?_
      rintro e w' ⟨rfl, m2, rfl⟩
      go_wp2_with fail
      refine (iWorldsOf _ _).mono ?_
      rintro e w' ⟨rfl, rfl⟩
      simp only [worldsOf]
      go_wp2_with fail
      refine (iGrantedBy_ok HG _ _ _ _ (HA.out.drewN _)).mono ?_
      rintro e w' ⟨rfl, m3, rfl⟩
      go_wp2_with fail
      rw [HBN.out]
      refine (iStatementOf _ _ _).mono ?_
      rintro e w1 ⟨v, rfl, ho, hb⟩
      rw [HS2.out] at ho
      have HO1 := Lib.hid ho
      have HB1 := Lib.hid (bel_trans (bel_drewN (Below.refl _ _) _) hb)
      clear ho hb
      go_wp2_with fail
      go_ret
      exact ⟨_, rfl, HO1.out, HB1.out⟩
    · have HBN : Hid (bits .andNot .i64 15 g = 15 - g) := andNot_rest (n := 4) (by omega) hu0 hu1
      have HS2 : Hid (statementL 2 (15 - g) = notL 2 a) := HS.out
      clear hu1
      go_enter Tryd.func50, Tryd.ntmps50
      go_wp2_with fail
      refine (iIssueOk_is HX _ _ _ _ rfl HA.out.hl HA.out.hc HA.out.hm HA.out.hA).mono ?_
      rintro e w' ⟨rfl, m4, rfl⟩
      go_wp2_with fail
      refine (iWorldsOf _ _).mono ?_
      rintro e w' ⟨rfl, rfl⟩
      simp only [worldsOf]
      go_wp2_with fail
      refine (iGrantedBy_ok HG _ _ _ _ (HA.out.drewN _)).mono ?_
      rintro e w' ⟨rfl, m5, rfl⟩
      go_wp2_with fail
      rw [HBN.out]
      refine (iStatementOf _ _ _).mono ?_
      rintro e w1 ⟨v, rfl, ho, hb⟩
      rw [HS2.out] at ho
      have HO1 := Lib.hid ho
      have HB1 := Lib.hid (bel_trans (bel_drewN (Below.refl _ _) _) hb)
      clear ho hb
      go_wp2_with fail
      go_ret
      exact ⟨_, rfl, HO1.out, HB1.out⟩
    · have HBN : Hid (bits .andNot .i64 255 g = 255 - g) := andNot_rest (n := 8) (by omega) hu0 hu1
      have HS2 : Hid (statementL 3 (255 - g) = notL 3 a) := HS.out
      clear hu1
      go_enter Tryd.func50, Tryd.ntmps50
      go_wp2_with fail
      refine (iIssueOk_is HX _ _ _ _ rfl HA.out.hl HA.out.hc HA.out.hm HA.out.hA).mono ?_
      rintro e w' ⟨rfl, m6, rfl⟩
      go_wp2_with fail
      refine (iWorldsOf _ _).mono ?_
      rintro e w' ⟨rfl, rfl⟩
      simp only [worldsOf]
      go_wp2_with fail
      refine (iGrantedBy_ok HG _ _ _ _ (HA.out.drewN _)).mono ?_
      rintro e w' ⟨rfl, m7, rfl⟩
      go_wp2_with fail
      rw [HBN.out]
      refine (iStatementOf _ _ _).mono ?_
      rintro e w1 ⟨v, rfl, ho, hb⟩
      rw [HS2.out] at ho
      have HO1 := Lib.hid ho
      have HB1 := Lib.hid (bel_trans (bel_drewN (Below.refl _ _) _) hb)
      clear ho hb
      go_wp2_with fail
      go_ret
      exact ⟨_, rfl, HO1.out, HB1.out⟩

theorem not_len (t : Int) (a : List Int) : (notL t a).length ≤ 70 := by
  cases h : issueOkB t a
  · rw [not_nil h]; simp
  · rw [law_not h]; simp
set_option maxHeartbeats 2000000 in
theorem iWhetherIssue (t : Int) (A : Option Addr) (na ca : Nat) (a : List Int) (w : World) (ha : Row w A na ca a) :
    Calls Tryd.prog 51 #[.int .i64 t, .slice A na ca] w fun e w' => ∃ v, e = .returned v ∧ Owns w' w.heap.size v (whetherL t a) ∧ Below w.heap.size w w' := by
  have HA := Lib.hid ha
  obtain rfl := ha.hn
  have hnl := not_len t a
  have HW := Lib.hid (whether_all (t := t) (a := a))
  clear ha
  go_enter Tryd.func51, Tryd.ntmps51
  go_wp2_with fail
  refine (iNotIssue t A _ ca a _ HA.out).mono ?_
  rintro e w1 ⟨v, rfl, ho, hb⟩
  obtain ⟨A1, c1, rfl, hc1, hm1, hn1, _⟩ := ho.form
  have HR1 := Lib.hid (ho.row (by omega))
  have HB1 := Lib.hid hb
  have hsz1 := hb.size
  clear ho hb hm1 hn1
  go_wp2_with fail
  refine (iEitherIssue t A _ _ _ _ _ a (notL t a) _ (HA.out.below HB1.out) HR1.out).mono ?_
  rintro e w2 ⟨v, rfl, ho, hb⟩
  have HO2 := Lib.hid ho
  have HB2 := Lib.hid (bel_trans HB1.out hb)
  clear ho hb
  go_wp2_with fail
  go_ret
  exact ⟨_, rfl, by rw [HW.out]; exact HO2.out.base hsz1, HB2.out⟩
end Go.Proofs.YtannpnhboeopdaaDoor

namespace Go.Proofs.YtannpnhboeopdaaDoor
open Go.RowKit

theorem step_append1 {W : World} {ops : Array Oper} {o : Oper} {a : Act} {K : Act → World → Prop} {Q : Exit → Act → World → Prop} {E : Prop} (hgd : o.guard = none) (s x : Operand)
    (ho : o.op = .call { callee := .builtin .append, args := #[s, x], argTypes := #[37, 37] }) (base : Nat) (v : Value) (xs : List Int) (hs : a.eval s = v) (hown : Owns W base v xs)
    (y : Int) (hx : a.eval x = .slice (some ⟨W.heap.size, 0, none⟩) 1 1) (hl : xs.length ≤ 1048576) (hb : base ≤ W.heap.size)
    (h : ∀ v' w', Owns w' base v' (xs ++ [y]) → (W.alloc (.cells #[.int .i64 y] 3)).grownBy w' v.ownBlock → K (a.put o.dst v') w') :
    if Region.wanted o (yielded ops a.tmps) = true then Oper.wp Tryd.prog o a (W.alloc (.cells #[.int .i64 y] 3)) K Q else E := by
  have hw : Region.wanted o (yielded ops a.tmps) = true := by simp [Region.wanted, hgd]
  rw [if_pos hw]
  obtain ⟨i0, hi0, hz0, hz1, hz2⟩ := info_parts int_info
  refine wp_append_own _ s x 37 ho base 3 i0 (.int .i64 0) 1 8 Tryd.underlying37 hi0 hz0 hz1 hz2 rfl (by decide) v xs.length (xs.map (Value.int .i64)) hs (World.ownsRow.alloc hown _)
    ⟨W.heap.size, 0, none⟩ 1 1 [.int .i64 y] hx rfl (cell_one_new _ _ _) (fun u hu => by rw [List.mem_singleton] at hu; subst hu; rfl) (by simp only [maxLen]; omega) (by omega) (by rw [World.size_alloc]; omega) ?_
  intro v' w' h1 h2 _
  refine h v' w' ?_ h2
  unfold Owns
  simpa using h1

theorem okTwo_no {t : Int} {a b : List Int} {y : Bool} (h1 : Hid (issueOkB t a = true)) (h2 : Hid (issueOkB t b = y)) : okTwo t a b = y := by unfold okTwo; rw [h1.out, h2.out]; rfl
theorem okTwo_no1 {t : Int} {a b : List Int} (h1 : Hid (issueOkB t a = false)) : okTwo t a b = false := by unfold okTwo; rw [h1.out]; rfl

end Go.Proofs.YtannpnhboeopdaaDoor

namespace Go.Proofs.YtannpnhboeopdaaDoor
open Go.RowKit

end Go.Proofs.YtannpnhboeopdaaDoor

namespace Go.Proofs.YtannpnhboeopdaaDoor
open Go.RowKit

def TwoPost (g u : Nat) (w : World) (e : Ending) (w' : World) : Prop :=
  ∃ (t : Int) (v1 : Value) (xs : List Int) (v2 : Value) (ys : List Int), e = .returned (.tuple #[.int .i64 t, v1, v2]) ∧ -1 ≤ t ∧ t ≤ 4 ∧ Owns w' w.heap.size v1 xs ∧ xs.length ≤ 257 ∧ Owns w' w.heap.size v2 ys ∧ ys.length ≤ 257 ∧ Rd w' g (u + 120) ∧ w.grownBy w' (some g)
theorem either_len {t : Int} {a b : List Int} : (eitherL t a b).length ≤ 70 := by
  cases h : okTwo t a b
  · rw [either_nil h]; simp
  · obtain ⟨h1, h2⟩ := okTwo_ok h
    exact (issue_ne (either_ok h1 h2)).2

def DrawTLL (w : World) (e : Ending) (w' : World) : Prop :=
  ∃ (t : Int) (v1 : Value) (xs : List Int) (v2 : Value) (ys : List Int), e = .returned (.tuple #[.int .i64 t, v1, v2]) ∧ -1 ≤ t ∧ t ≤ 4 ∧ Owns w' w.heap.size v1 xs ∧ xs.length ≤ 257 ∧ Owns w' w.heap.size v2 ys ∧ ys.length ≤ 257 ∧ Below w.heap.size w w'
def DrawTL2 (w : World) (e : Ending) (w' : World) : Prop :=
  ∃ (t : Int) (v1 : Value) (xs : List Int), e = .returned (.tuple #[.int .i64 t, v1]) ∧ -1 ≤ t ∧ t ≤ 4 ∧ Owns w' w.heap.size v1 xs ∧ xs.length ≤ 257 ∧ Below w.heap.size w w'

end Go.Proofs.YtannpnhboeopdaaDoor

namespace Go.Proofs.YtannpnhboeopdaaDoor
open Go.RowKit

theorem Nums.later {k : IntKind} {w w' : World} {A A2 : Option Addr} {n2 c2 : Nat} {xs : List Int} {B : Nat} (h : Nums k w A xs) (hg : w.grownBy w' (Value.slice A2 n2 c2).ownBlock)
    (h1 : ∀ ad, A = some ad → B ≤ ad.block) (h2 : ∀ ad, A2 = some ad → ad.block < B) : Nums k w' A xs := by
  refine h.grown hg fun ad ha e => ?_
  have hb := h1 ad ha
  cases A2 with
  | none => cases e
  | some ad2 =>
    have : ad.block = ad2.block := by simpa [Value.ownBlock] using e
    have := h2 ad2 rfl
    omega
theorem Owns.later {w w' : World} {base : Nat} {v : Value} {A2 : Option Addr} {n2 c2 : Nat} {xs : List Int} (h : Owns w base v xs) (hg : w.grownBy w' (Value.slice A2 n2 c2).ownBlock) (h2 : ∀ ad, A2 = some ad → ad.block < base) : Owns w' base v xs := by
  refine h.kept hg ?_
  cases e : v.ownBlock with
  | none => exact .inl rfl
  | some k =>
    right
    intro e2
    have := (World.ownsRow.lt h k e).1
    cases A2 with
    | none => cases e2
    | some ad2 =>
      have e3 : k = ad2.block := by simpa [Value.ownBlock] using e2
      have := h2 ad2 rfl
      omega
theorem both_len {t : Int} {a b : List Int} : (bothL t a b).length ≤ 70 := by
  cases h : okTwo t a b
  · rw [both_nil h]; simp
  · obtain ⟨h1, h2⟩ := okTwo_ok h
    exact (issue_ne (both_ok h1 h2)).2
theorem if_le {t : Int} {a b : List Int} : (ifL t a b).length ≤ 70 := by
  cases h : okTwo t a b
  · rw [if_nil h]; simp
  · obtain ⟨h1, h2⟩ := okTwo_ok h
    exact (issue_ne (if_ok h1 h2)).2
theorem whether_len {t : Int} {a : List Int} : (whetherL t a).length ≤ 70 := by rw [whether_all]; exact either_len

end Go.Proofs.YtannpnhboeopdaaDoor

namespace Go.Proofs.YtannpnhboeopdaaDoor
open Go.RowKit

theorem rIssueOk {t : Int} {xs : List Int} {b : Bool} (h : Hid (issueOkB t xs = b)) {A : Option Addr} {nn c : Nat} {w : World} (r : Row w A nn c xs) :
    Calls Tryd.prog 40 #[.int .i64 t, .slice A nn c] w fun e w' => e = .returned (.bool b) ∧ ∃ n, w' = w.drewN n := iIssueOk_is h _ _ _ _ r.hn r.hl r.hc r.hm r.hA
theorem same_self (xs : List Int) : Hid (decide (xs = xs) = true) := decide_eq_true rfl
theorem lBoth_is {a b g : Int} (h : Hid (andI a b = g)) (ha : 0 ≤ a) (ha2 : a < 256) (hb : 0 ≤ b) (w : World) :
    Calls Tryd.prog 14 #[.int .i64 a, .int .i64 b] w fun e w' => e = .returned (.int .i64 g) ∧ w = w' :=
  (lBoth a b ha ha2 hb w).mono fun _ _ ⟨he, hw⟩ => ⟨he.trans (ret_int h.out), hw⟩
theorem not_empty {t : Int} {r : List Int} (h : issueOkB t r = true) : ((r.length : Int) == 0) = false := by
  have := (issue_ne h).1
  rw [beq_eq_false_iff_ne]; omega

end Go.Proofs.YtannpnhboeopdaaDoor
