/-
  What the proofs of this seat's statements share (TogL, TogS, TogT, TogD, TogX, TogL1, MathE, MathP, Subs, Supp, Word).
-/
import Derived.WalkSmall
import Derived.Deep.AppendLies
import Derived.Deep.RegionLaw
import Derived.RangeFuncNested
import Derived.RangeFuncBound
import Derived.RangeFuncCalls
import Derived.RangeFuncLeaves
import Derived.Shelf.Abstract
import Derived.Shelf.RegionOpen
import Derived.OwnWalkIn
import Derived.TacticsInMore
import Derived.LoopNIn
import Derived.LoopIn
import Derived.RangeFuncBox
import Derived.Outline
import Derived.Test.YtmdpolllmipppaaU3
import Derived.Test.YtmdpolllmipppaaU2

namespace Go.Proofs.Ytmdpolllmipppaa
open Go.RowKit

theorem either_nil {t : Int} {a b : List Int} (h : okTwo t a b = false) : eitherL t a b = [] := by
  unfold okTwo at h; unfold eitherL; rw [h]; rfl
theorem if_nil {t : Int} {a b : List Int} (h : okTwo t a b = false) : ifL t a b = [] := by
  unfold okTwo at h; unfold ifL; rw [h]; rfl
theorem not_nil {t : Int} {a : List Int} (h : issueOkB t a = false) : notL t a = [] := by unfold notL; rw [h]; rfl
theorem whether_all {t : Int} {a : List Int} : whetherL t a = eitherL t a (notL t a) := by
  unfold whetherL
  cases h : issueOkB t a
  · unfold eitherL; rw [h]; rfl
  · rfl

theorem two_cells (w : World) (u v : Value) (t : TypeId) : (w.alloc (.cells #[u, v] t)).cell? ⟨w.heap.size, 0, none⟩ = some u ∧ (w.alloc (.cells #[u, v] t)).cell? ⟨w.heap.size, 1, none⟩ = some v :=
  ⟨cell_two_new w u v t 0 u rfl, cell_two_new w u v t 1 v rfl⟩
set_option maxRecDepth 100000 in
set_option maxHeartbeats 2000000 in
theorem iEitherIssue (t : Int) (A B : Option Addr) (na ca nb cb : Nat) (a b : List Int) (w : World) (ha : Row w A na ca a) (hb : Row w B nb cb b) :
    Calls Try.prog 82 #[.int .i64 t, .slice A na ca, .slice B nb cb] w fun e w' => ∃ v, e = .returned v ∧ Owns w' w.heap.size v (eitherL t a b) ∧ Below w.heap.size w w' := by
  have HA := Lib.hid ha
  have HB := Lib.hid hb
  obtain rfl := ha.hn
  obtain rfl := hb.hn
  clear ha hb
  obtain ⟨x, HX⟩ : ∃ x, Hid (okTwo t a b = x) := ⟨_, rfl⟩
  cases x
  · have HF := Lib.hid (either_nil HX.out)
    go_enter Try.func82, Try.ntmps82
    go_wp2_with fail
    refine (iIssuesOk_is HX HA.out HB.out).mono ?_
    rintro e w' ⟨rfl, m1, rfl⟩
    go_wp2_with fail
    go_ret
    exact ⟨_, rfl, by rw [HF.out]; exact Owns.nil _ _, bel_drewN (Below.refl _ _) _⟩
  · obtain ⟨h1, h2⟩ := okTwo_ok HX.out
    obtain ⟨hla, hla2⟩ := issue_ne h1
    obtain ⟨hlb, hlb2⟩ := issue_ne h2
    have HF := Lib.hid (either_eq h1 h2)
    have HS := Lib.hid (sets_range (eitherX_sets h1 h2))
    clear h1 h2
    obtain ⟨ab, HAB⟩ : ∃ l, Hid (a ++ b = l) := ⟨_, rfl⟩
    have hpos : 1 ≤ ab.length := by rw [← HAB.out, List.length_append]; omega
    have hle : ab.length ≤ 1048576 := by rw [← HAB.out, List.length_append]; omega
    rw [HAB.out] at HF HS
    go_enter Try.func82, Try.ntmps82
    go_wp2_with fail
    refine (iIssuesOk_is HX HA.out HB.out).mono ?_
    rintro e w' ⟨rfl, m2, rfl⟩
    go_wp2_with fail
    have hbel : ∀ o, Below w.heap.size w ((w.drewN m2).alloc o) := fun o => (bel_drewN (Below.refl _ _) _).alloc (Nat.le_refl _) _
    refine (iConcat w.heap.size A B a.length ca b.length cb a b _ (by rw [World.size_alloc]; exact Nat.lt_succ_self _) (two_cells (w.drewN m2) _ _ _).1 (two_cells (w.drewN m2) _ _ _).2 (HA.out.below (hbel _)) (HB.out.below (hbel _)) hla hlb (by omega)).mono ?_
    rintro e w1 ⟨v, rfl, ho, hb⟩
    rw [HAB.out] at ho
    obtain ⟨A1, c1, rfl, hc1, hm1, hn1, _⟩ := ho.form
    have HN1 := Lib.hid hn1
    have HB1 := Lib.hid (hbel _ |>.trans (hb.mono (by rw [World.size_alloc]; exact Nat.le_succ _)))
    have hsz1 := HB1.out.size
    clear ho hb hm1 hn1 hbel
    go_wp2_with fail
    refine (iGreatest _ _ _ ab _ rfl hpos hle HS.out HN1.out).mono ?_
    rintro e w2 ⟨v, rfl, ho, hb⟩
    have HO2 := Lib.hid ho
    have HB2 := Lib.hid (bel_trans HB1.out hb)
    clear ho hb
    go_wp2_with fail
    go_ret
    exact ⟨_, rfl, by rw [HF.out]; exact HO2.out.base hsz1, HB2.out⟩

theorem if_next (a b : List Int) (k : Nat) : ifTo a b (k + 1) = ifTo a b k ++ (if goodB a b k = true then [(k : Int)] else []) := by
  unfold ifTo
  rw [List.range_succ, List.map_append, List.filter_append]
  simp only [List.map_cons, List.map_nil, List.filter_cons, List.filter_nil]
theorem if_len (a b : List Int) (k : Nat) : (ifTo a b k).length ≤ k := by
  unfold ifTo
  refine Nat.le_trans (List.length_filter_le _ _) (by simp)
theorem if_zero (a b : List Int) : ifTo a b 0 = [] := rfl
theorem ifTo_pos {t : Int} {a b : List Int} (_ : issueOkB t a = true) (hb : issueOkB t b = true) : 1 ≤ (ifTo a b (allOf t + 1).toNat).length := by
  refine List.length_pos_of_mem (a := 0) (mem_ifTo.2 ⟨by omega, by have := allOf_lt t; omega, good_zero hb⟩)
theorem iCarries_is {s : Int} {a b : List Int} {v : Bool} (h : Hid (goodB a b s = v)) (A B : Option Addr) (na ca nb cb : Nat) (w : World) (hs : 0 ≤ s) (hs2 : s < 256) (ha : Row w A na ca a) (hb : Row w B nb cb b) (hra : ∀ x ∈ a, 0 ≤ x ∧ x < 256) (hrb : ∀ x ∈ b, 0 ≤ x ∧ x < 256) :
    Calls Try.prog 108 #[.int .i64 s, .slice A na ca, .slice B nb cb] w fun e w' => e = .returned (.bool v) ∧ w = w' :=
  (iCarries s A B na ca nb cb a b w hs hs2 ha hb hra hrb).mono fun _ _ ⟨he, hw⟩ => ⟨he.trans (ret_bool h.out), hw⟩
theorem worlds_is {t : Int} (h1 : 1 ≤ t) (h3 : t ≤ 3) : ∃ n : Nat, worldsOf t = n ∧ 1 ≤ n ∧ n ≤ 8 ∧ allOf t + 1 = ((2 ^ n : Nat) : Int) := by
  have : t = 1 ∨ t = 2 ∨ t = 3 := by omega
  rcases this with rfl | rfl | rfl
  · exact ⟨2, rfl, by omega, by omega, rfl⟩
  · exact ⟨4, rfl, by omega, by omega, rfl⟩
  · exact ⟨8, rfl, by omega, by omega, rfl⟩

set_option maxRecDepth 100000 in
set_option maxHeartbeats 4000000 in
theorem iIfIssue (t : Int) (A B : Option Addr) (na ca nb cb : Nat) (a b : List Int) (w : World) (ha : Row w A na ca a) (hb : Row w B nb cb b) :
    Calls Try.prog 83 #[.int .i64 t, .slice A na ca, .slice B nb cb] w fun e w' => ∃ v, e = .returned v ∧ Owns w' w.heap.size v (ifL t a b) ∧ Below w.heap.size w w' := by
  have HA := Lib.hid ha
  have HB := Lib.hid hb
  obtain rfl := ha.hn
  obtain rfl := hb.hn
  clear ha hb
  obtain ⟨x, HX⟩ : ∃ x, Hid (okTwo t a b = x) := ⟨_, rfl⟩
  cases x
  · have HF := Lib.hid (if_nil HX.out)
    go_enter Try.func83, Try.ntmps83
    go_wp2_with fail
    refine (iIssuesOk_is HX HA.out HB.out).mono ?_
    rintro e w' ⟨rfl, m1, rfl⟩
    go_wp2_with fail
    go_ret
    exact ⟨_, rfl, by rw [HF.out]; exact Owns.nil _ _, bel_drewN (Below.refl _ _) _⟩
  · obtain ⟨h1, h2⟩ := okTwo_ok HX.out
    have HRA := Lib.hid (issue_range h1)
    have HRB := Lib.hid (issue_range h2)
    have HF := Lib.hid (if_eq h1 h2)
    have HS := Lib.hid (sets_range (ifX_sets (b := b) h1))
    have hpos := ifTo_pos h1 h2
    obtain ⟨ht1, ht3⟩ := issue_things h1
    have ht : t = 1 ∨ t = 2 ∨ t = 3 := by omega
    clear h1 h2 ht1 ht3
    rcases ht with rfl | rfl | rfl
    · have HAL : Hid ((allOf 1 + 1).toNat = 4) := rfl
      rw [HAL.out] at HF HS hpos
      go_enter Try.func83, Try.ntmps83
      go_wp2_with fail
      refine (iIssuesOk_is HX HA.out HB.out).mono ?_
      rintro e w' ⟨rfl, m2, rfl⟩
      go_wp2_with fail
      refine (iWorldsOf _ _).mono ?_
      rintro e w' ⟨rfl, rfl⟩
      simp only [worldsOf]
      go_wp2_with fail
      go_loopw [7, 17] (fun v i wr => ∃ k : Nat, k ≤ 4 ∧ i = .int .i64 k ∧ Owns wr w.heap.size v (ifTo a b k) ∧ Below w.heap.size w wr) (fun _ i _ => 4 - (Go.RowKit.intOf i).toNat)
      case atStart => exact ⟨0, by omega, rfl, by rw [if_zero]; exact Owns.nil _ _, bel_drewN (Below.refl _ _) _⟩
      case round =>
        obtain ⟨k, hk, rfl, hown, hbel⟩ := hrel
        have HOW := Lib.hid hown
        have HBW := Lib.hid hbel
        clear hown hbel
        by_cases hlt : k < 4
        · have hkl := if_len a b k
          rcases hg : goodB a b (k : Int) with _ | _
          · have HG := Lib.hid hg
            have HT : Hid (ifTo a b (k + 1) = ifTo a b k) := by unfold Hid; rw [if_next, hg]; simp
            clear hg
            go_wp2_with fail
            refine (iCarries_is HG _ _ _ _ _ _ _ (by omega) (by omega) (HA.out.below HBW.out) (HB.out.below HBW.out) HRA.out HRB.out).mono ?_
            rintro e w' ⟨rfl, rfl⟩
            go_wp2_with fail
            go_roundw
            case rel => exact ⟨k + 1, by omega, by go_num, by rw [HT.out]; exact HOW.out, HBW.out⟩
            case measure => simp [Go.RowKit.intOf]; omega
          · have HG := Lib.hid hg
            have HT : Hid (ifTo a b (k + 1) = ifTo a b k ++ [(k : Int)]) := by unfold Hid; rw [if_next, hg]; simp
            clear hg
            go_wp2_with fail
            refine (iCarries_is HG _ _ _ _ _ _ _ (by omega) (by omega) (HA.out.below HBW.out) (HB.out.below HBW.out) HRA.out HRB.out).mono ?_
            rintro e w' ⟨rfl, rfl⟩
            go_wp2_with (at_builtin; refine wp_append1 (W := wr) rfl _ _ rfl w.heap.size u7 (ifTo a b k) rfl HOW.out (k : Int) rfl (by omega) HBW.out.size ?_; intro v' w' hown' hgrow)
            have hb' := below_append HBW.out HBW.out.size HOW.out (Nat.le_refl _) hgrow
            go_roundw
            case rel => exact ⟨k + 1, by omega, by go_num, by rw [HT.out]; exact hown', hb'⟩
            case measure => simp [Go.RowKit.intOf]; omega
        · obtain rfl : k = 4 := by omega
          have hle := if_len a b 4
          obtain ⟨A1, c1, rfl, hc1, hm1, hn1, _⟩ := HOW.out.form
          have HN1 := Lib.hid hn1
          clear hm1 hn1
          go_wp2_with fail
          refine (iGreatest _ _ _ (ifTo a b 4) _ rfl hpos (by omega) HS.out HN1.out).mono ?_
          rintro e w2 ⟨v, rfl, ho, hb⟩
          have HO2 := Lib.hid ho
          have HB2 := Lib.hid (bel_trans HBW.out hb)
          have hsz := HBW.out.size
          clear ho hb
          go_wp2_with fail
          go_ret
          exact ⟨_, rfl, by rw [HF.out]; exact HO2.out.base hsz, HB2.out⟩
    · have HAL : Hid ((allOf 2 + 1).toNat = 16) := rfl
      rw [HAL.out] at HF HS hpos
      go_enter Try.func83, Try.ntmps83
      go_wp2_with fail
      refine (iIssuesOk_is HX HA.out HB.out).mono ?_
      rintro e w' ⟨rfl, m3, rfl⟩
      go_wp2_with fail
      refine (iWorldsOf _ _).mono ?_
      rintro e w' ⟨rfl, rfl⟩
      simp only [worldsOf]
      go_wp2_with fail
      go_loopw [7, 17] (fun v i wr => ∃ k : Nat, k ≤ 16 ∧ i = .int .i64 k ∧ Owns wr w.heap.size v (ifTo a b k) ∧ Below w.heap.size w wr) (fun _ i _ => 16 - (Go.RowKit.intOf i).toNat)
      case atStart => exact ⟨0, by omega, rfl, by rw [if_zero]; exact Owns.nil _ _, bel_drewN (Below.refl _ _) _⟩
      case round =>
        obtain ⟨k, hk, rfl, hown, hbel⟩ := hrel
        have HOW := Lib.hid hown
        have HBW := Lib.hid hbel
        clear hown hbel
        by_cases hlt : k < 16
        · have hkl := if_len a b k
          rcases hg : goodB a b (k : Int) with _ | _
          · have HG := Lib.hid hg
            have HT : Hid (ifTo a b (k + 1) = ifTo a b k) := by unfold Hid; rw [if_next, hg]; simp
            clear hg
            go_wp2_with fail
            refine (iCarries_is HG _ _ _ _ _ _ _ (by omega) (by omega) (HA.out.below HBW.out) (HB.out.below HBW.out) HRA.out HRB.out).mono ?_
            rintro e w' ⟨rfl, rfl⟩
            go_wp2_with fail
            go_roundw
            case rel => exact ⟨k + 1, by omega, by go_num, by rw [HT.out]; exact HOW.out, HBW.out⟩
            case measure => simp [Go.RowKit.intOf]; omega
          · have HG := Lib.hid hg
            have HT : Hid (ifTo a b (k + 1) = ifTo a b k ++ [(k : Int)]) := by unfold Hid; rw [if_next, hg]; simp
            clear hg
            go_wp2_with fail
            refine (iCarries_is HG _ _ _ _ _ _ _ (by omega) (by omega) (HA.out.below HBW.out) (HB.out.below HBW.out) HRA.out HRB.out).mono ?_
            rintro e w' ⟨rfl, rfl⟩
            go_wp2_with (at_builtin; refine wp_append1 (W := wr) rfl _ _ rfl w.heap.size u7 (ifTo a b k) rfl HOW.out (k : Int) rfl (by omega) HBW.out.size ?_; intro v' w' hown' hgrow)
            have hb' := below_append HBW.out HBW.out.size HOW.out (Nat.le_refl _) hgrow
            go_roundw
            case rel => exact ⟨k + 1, by omega, by go_num, by rw [HT.out]; exact hown', hb'⟩
            case measure => simp [Go.RowKit.intOf]; omega
        · obtain rfl : k = 16 := by omega
          have hle := if_len a b 16
          obtain ⟨A1, c1, rfl, hc1, hm1, hn1, _⟩ := HOW.out.form
          have HN1 := Lib.hid hn1
          clear hm1 hn1
          go_wp2_with fail
          refine (iGreatest _ _ _ (ifTo a b 16) _ rfl hpos (by omega) HS.out HN1.out).mono ?_
          rintro e w2 ⟨v, rfl, ho, hb⟩
          have HO2 := Lib.hid ho
          have HB2 := Lib.hid (bel_trans HBW.out hb)
          have hsz := HBW.out.size
          clear ho hb
          go_wp2_with fail
          go_ret
          exact ⟨_, rfl, by rw [HF.out]; exact HO2.out.base hsz, HB2.out⟩
    · have HAL : Hid ((allOf 3 + 1).toNat = 256) := rfl
      rw [HAL.out] at HF HS hpos
      go_enter Try.func83, Try.ntmps83
      go_wp2_with fail
      refine (iIssuesOk_is HX HA.out HB.out).mono ?_
      rintro e w' ⟨rfl, m4, rfl⟩
      go_wp2_with fail
      refine (iWorldsOf _ _).mono ?_
      rintro e w' ⟨rfl, rfl⟩
      simp only [worldsOf]
      go_wp2_with fail
      go_loopw [7, 17] (fun v i wr => ∃ k : Nat, k ≤ 256 ∧ i = .int .i64 k ∧ Owns wr w.heap.size v (ifTo a b k) ∧ Below w.heap.size w wr) (fun _ i _ => 256 - (Go.RowKit.intOf i).toNat)
      case atStart => exact ⟨0, by omega, rfl, by rw [if_zero]; exact Owns.nil _ _, bel_drewN (Below.refl _ _) _⟩
      case round =>
        obtain ⟨k, hk, rfl, hown, hbel⟩ := hrel
        have HOW := Lib.hid hown
        have HBW := Lib.hid hbel
        clear hown hbel
        by_cases hlt : k < 256
        · have hkl := if_len a b k
          rcases hg : goodB a b (k : Int) with _ | _
          · have HG := Lib.hid hg
            have HT : Hid (ifTo a b (k + 1) = ifTo a b k) := by unfold Hid; rw [if_next, hg]; simp
            clear hg
            go_wp2_with fail
            refine (iCarries_is HG _ _ _ _ _ _ _ (by omega) (by omega) (HA.out.below HBW.out) (HB.out.below HBW.out) HRA.out HRB.out).mono ?_
            rintro e w' ⟨rfl, rfl⟩
            go_wp2_with fail
            go_roundw
            case rel => exact ⟨k + 1, by omega, by go_num, by rw [HT.out]; exact HOW.out, HBW.out⟩
            case measure => simp [Go.RowKit.intOf]; omega
          · have HG := Lib.hid hg
            have HT : Hid (ifTo a b (k + 1) = ifTo a b k ++ [(k : Int)]) := by unfold Hid; rw [if_next, hg]; simp
            clear hg
            go_wp2_with fail
            refine (iCarries_is HG _ _ _ _ _ _ _ (by omega) (by omega) (HA.out.below HBW.out) (HB.out.below HBW.out) HRA.out HRB.out).mono ?_
            rintro e w' ⟨rfl, rfl⟩
            go_wp2_with (at_builtin; refine wp_append1 (W := wr) rfl _ _ rfl w.heap.size u7 (ifTo a b k) rfl HOW.out (k : Int) rfl (by omega) HBW.out.size ?_; intro v' w' hown' hgrow)
            have hb' := below_append HBW.out HBW.out.size HOW.out (Nat.le_refl _) hgrow
            go_roundw
            case rel => exact ⟨k + 1, by omega, by go_num, by rw [HT.out]; exact hown', hb'⟩
            case measure => simp [Go.RowKit.intOf]; omega
        · obtain rfl : k = 256 := by omega
          have hle := if_len a b 256
          obtain ⟨A1, c1, rfl, hc1, hm1, hn1, _⟩ := HOW.out.form
          have HN1 := Lib.hid hn1
          clear hm1 hn1
          go_wp2_with fail
          refine (iGreatest _ _ _ (ifTo a b 256) _ rfl hpos (by omega) HS.out HN1.out).mono ?_
          rintro e w2 ⟨v, rfl, ho, hb⟩
          have HO2 := Lib.hid ho
          have HB2 := Lib.hid (bel_trans HBW.out hb)
          have hsz := HBW.out.size
          clear ho hb
          go_wp2_with fail
          go_ret
          exact ⟨_, rfl, by rw [HF.out]; exact HO2.out.base hsz, HB2.out⟩

theorem andNot_rest {n : Nat} {g : Int} (hn : n ≤ 8) (h0 : 0 ≤ g) (h1 : g ≤ ((2 ^ n : Nat) : Int) - 1) : bits .andNot .i64 (((2 ^ n : Nat) : Int) - 1) g = ((2 ^ n : Nat) : Int) - 1 - g := by
  obtain ⟨b, rfl⟩ : ∃ b : Nat, g = b := ⟨g.toNat, by omega⟩
  have hp : 0 < 2 ^ n := Nat.two_pow_pos n
  have hp8 : 2 ^ n ≤ 2 ^ 8 := Nat.pow_le_pow_right (by omega) hn
  have e0 : ((2 ^ n : Nat) : Int) - 1 = ((2 ^ n - 1 : Nat) : Int) := by omega
  rw [e0]
  have e : bits .andNot .i64 ((2 ^ n - 1 : Nat) : Int) (b : Int) = (((2 ^ n - 1) &&& (2 ^ 64 - (b + 1)) : Nat) : Int) := by
    have hx : (2 ^ n - 1) &&& (2 ^ 64 - (b + 1)) ≤ 2 ^ n - 1 := Nat.and_le_left
    show IntKind.i64.wrap ((BitVec.ofInt 64 ((2 ^ n - 1 : Nat) : Int) &&& ~~~BitVec.ofInt 64 (b : Int)).toNat : Int) = _
    rw [BitVec.toNat_and, BitVec.toNat_not, BitVec.ofInt_natCast, BitVec.ofInt_natCast, BitVec.toNat_ofNat, BitVec.toNat_ofNat, Nat.mod_eq_of_lt (by omega), Nat.mod_eq_of_lt (by omega), IntKind.wrap_i64,
      show 2 ^ 64 - 1 - b = 2 ^ 64 - (b + 1) by omega]
    omega
  have hb : b < 2 ^ n := by omega
  have : (2 ^ n - 1) &&& (2 ^ 64 - (b + 1)) = 2 ^ n - (b + 1) := by
    apply Nat.eq_of_testBit_eq
    intro i
    rw [Nat.testBit_and, Nat.testBit_two_pow_sub_succ (show b < 2 ^ 64 by omega), Nat.testBit_two_pow_sub_succ hb, Nat.testBit_two_pow_sub_one]
    by_cases hi : i < n
    · simp [hi, show i < 64 by omega]
    · simp [hi]
  rw [e, this]; omega

theorem not_state {t : Int} {a : List Int} (ha : issueOkB t a = true) : statementL t (allOf t - unionI a) = notL t a := by
  unfold statementL; rw [rest_ok ha, law_not ha]; rfl
theorem iGrantedBy_ok {t : Int} {xs : List Int} {g : Int} (h : Hid (grantedI t xs = g)) (A : Option Addr) (nn c : Nat) (w : World) (ha : Row w A nn c xs) :
    Calls Try.prog 22 #[.int .i64 t, .slice A nn c] w fun e w' => e = .returned (.int .i64 g) ∧ ∃ n, w' = w.drewN n :=
  (iGrantedBy t A nn c xs w ha.hn ha.hl ha.hc ha.hm ha.hA).mono fun _ _ ⟨he, hw⟩ => ⟨he.trans (ret_int h.out), hw⟩
theorem granted_ok {t : Int} {xs : List Int} (h : issueOkB t xs = true) : grantedI t xs = unionI xs := by unfold grantedI; rw [h]; rfl

set_option maxHeartbeats 2000000 in
theorem iNotIssue (t : Int) (A : Option Addr) (na ca : Nat) (a : List Int) (w : World) (ha : Row w A na ca a) :
    Calls Try.prog 79 #[.int .i64 t, .slice A na ca] w fun e w' => ∃ v, e = .returned v ∧ Owns w' w.heap.size v (notL t a) ∧ Below w.heap.size w w' := by
  have HA := Lib.hid ha
  obtain rfl := ha.hn
  clear ha
  obtain ⟨x, HX⟩ : ∃ x, Hid (issueOkB t a = x) := ⟨_, rfl⟩
  cases x
  · have HF := Lib.hid (not_nil HX.out)
    go_enter Try.func79, Try.ntmps79
    go_wp2_with fail
    refine (iIssueOk_is HX _ _ _ _ rfl HA.out.hl HA.out.hc HA.out.hm HA.out.hA).mono ?_
    rintro e w' ⟨rfl, m1, rfl⟩
    go_wp2_with fail
    go_ret
    exact ⟨_, rfl, by rw [HF.out]; exact Owns.nil _ _, bel_drewN (Below.refl _ _) _⟩
  · obtain ⟨ht1, ht3⟩ := issue_things HX.out
    have HG := Lib.hid (granted_ok HX.out)
    have hu := union_all HX.out
    have HS := Lib.hid (not_state HX.out)
    obtain ⟨g, hg⟩ : ∃ g, g = unionI a := ⟨_, rfl⟩
    rw [← hg] at HG HS hu
    have ht : t = 1 ∨ t = 2 ∨ t = 3 := by omega
    clear ht1 ht3 hg
    obtain ⟨hu0, hu1⟩ := hu
    rcases ht with rfl | rfl | rfl
    · have HBN : Hid (bits .andNot .i64 3 g = 3 - g) := andNot_rest (n := 2) (by omega) hu0 hu1
      have HS2 : Hid (statementL 1 (3 - g) = notL 1 a) := HS.out
      clear hu1
      go_enter Try.func79, Try.ntmps79
      go_wp2_with fail
      refine (iIssueOk_is HX _ _ _ _ rfl HA.out.hl HA.out.hc HA.out.hm HA.out.hA).mono ?_
      rintro e w' ⟨rfl, m2, rfl⟩
      go_wp2_with fail
      refine (iWorldsOf _ _).mono ?_
      rintro e w' ⟨rfl, rfl⟩
      simp only [worldsOf]
      go_wp2_with fail
      refine (iGrantedBy_ok HG _ _ _ _ (HA.out.drewN _)).mono ?_
      rintro e w' ⟨rfl, m3, rfl⟩
      go_wp2_with fail
      rw [HBN.out]
      refine (iStatementOf _ _ _).mono ?_
      rintro e w1 ⟨v, rfl, ho, hb⟩
      rw [HS2.out] at ho
      have HO1 := Lib.hid ho
      have HB1 := Lib.hid (bel_trans (bel_drewN (Below.refl _ _) _) hb)
      clear ho hb
      go_wp2_with fail
      go_ret
      exact ⟨_, rfl, HO1.out, HB1.out⟩
    · have HBN : Hid (bits .andNot .i64 15 g = 15 - g) := andNot_rest (n := 4) (by omega) hu0 hu1
      have HS2 : Hid (statementL 2 (15 - g) = notL 2 a) := HS.out
      clear hu1
      go_enter Try.func79, Try.ntmps79
      go_wp2_with fail
      refine (iIssueOk_is HX _ _ _ _ rfl HA.out.hl HA.out.hc HA.out.hm HA.out.hA).mono ?_
      rintro e w' ⟨rfl, m4, rfl⟩
      go_wp2_with fail
      refine (iWorldsOf _ _).mono ?_
      rintro e w' ⟨rfl, rfl⟩
      simp only [worldsOf]
      go_wp2_with fail
      refine (iGrantedBy_ok HG _ _ _ _ (HA.out.drewN _)).mono ?_
      rintro e w' ⟨rfl, m5, rfl⟩
      go_wp2_with fail
      rw [HBN.out]
      refine (iStatementOf _ _ _).mono ?_
      rintro e w1 ⟨v, rfl, ho, hb⟩
      rw [HS2.out] at ho
      have HO1 := Lib.hid ho
      have HB1 := Lib.hid (bel_trans (bel_drewN (Below.refl _ _) _) hb)
      clear ho hb
      go_wp2_with fail
      go_ret
      exact ⟨_, rfl, HO1.out, HB1.out⟩
    · have HBN : Hid (bits .andNot .i64 255 g = 255 - g) := andNot_rest (n := 8) (by omega) hu0 hu1
      have HS2 : Hid (statementL 3 (255 - g) = notL 3 a) := HS.out
      clear hu1
      go_enter Try.func79, Try.ntmps79
      go_wp2_with fail
      refine (iIssueOk_is HX _ _ _ _ rfl HA.out.hl HA.out.hc HA.out.hm HA.out.hA).mono ?_
      rintro e w' ⟨rfl, m6, rfl⟩
      go_wp2_with fail
      refine (iWorldsOf _ _).mono ?_
      rintro e w' ⟨rfl, rfl⟩
      simp only [worldsOf]
      go_wp2_with fail
      refine (iGrantedBy_ok HG _ _ _ _ (HA.out.drewN _)).mono ?_
      rintro e w' ⟨rfl, m7, rfl⟩
      go_wp2_with fail
      rw [HBN.out]
      refine (iStatementOf _ _ _).mono ?_
      rintro e w1 ⟨v, rfl, ho, hb⟩
      rw [HS2.out] at ho
      have HO1 := Lib.hid ho
      have HB1 := Lib.hid (bel_trans (bel_drewN (Below.refl _ _) _) hb)
      clear ho hb
      go_wp2_with fail
      go_ret
      exact ⟨_, rfl, HO1.out, HB1.out⟩

theorem not_len (t : Int) (a : List Int) : (notL t a).length ≤ 70 := by
  cases h : issueOkB t a
  · rw [not_nil h]; simp
  · rw [law_not h]; simp
set_option maxHeartbeats 2000000 in
theorem iWhetherIssue (t : Int) (A : Option Addr) (na ca : Nat) (a : List Int) (w : World) (ha : Row w A na ca a) :
    Calls Try.prog 80 #[.int .i64 t, .slice A na ca] w fun e w' => ∃ v, e = .returned v ∧ Owns w' w.heap.size v (whetherL t a) ∧ Below w.heap.size w w' := by
  have HA := Lib.hid ha
  obtain rfl := ha.hn
  have hnl := not_len t a
  have HW := Lib.hid (whether_all (t := t) (a := a))
  clear ha
  go_enter Try.func80, Try.ntmps80
  go_wp2_with fail
  refine (iNotIssue t A _ ca a _ HA.out).mono ?_
  rintro e w1 ⟨v, rfl, ho, hb⟩
  obtain ⟨A1, c1, rfl, hc1, hm1, hn1, _⟩ := ho.form
  have HR1 := Lib.hid (ho.row (by omega))
  have HB1 := Lib.hid hb
  have hsz1 := hb.size
  clear ho hb hm1 hn1
  go_wp2_with fail
  refine (iEitherIssue t A _ _ _ _ _ a (notL t a) _ (HA.out.below HB1.out) HR1.out).mono ?_
  rintro e w2 ⟨v, rfl, ho, hb⟩
  have HO2 := Lib.hid ho
  have HB2 := Lib.hid (bel_trans HB1.out hb)
  clear ho hb
  go_wp2_with fail
  go_ret
  exact ⟨_, rfl, by rw [HW.out]; exact HO2.out.base hsz1, HB2.out⟩
end Go.Proofs.Ytmdpolllmipppaa

namespace Go.Proofs.Ytmdpolllmipppaa
open Go.RowKit

theorem step_append1 {W : World} {ops : Array Oper} {o : Oper} {a : Act} {K : Act → World → Prop} {Q : Exit → Act → World → Prop} {E : Prop} (hgd : o.guard = none) (s x : Operand)
    (ho : o.op = .call { callee := .builtin .append, args := #[s, x], argTypes := #[25, 25] }) (base : Nat) (v : Value) (xs : List Int) (hs : a.eval s = v) (hown : Owns W base v xs)
    (y : Int) (hx : a.eval x = .slice (some ⟨W.heap.size, 0, none⟩) 1 1) (hl : xs.length ≤ 1048576) (hb : base ≤ W.heap.size)
    (h : ∀ v' w', Owns w' base v' (xs ++ [y]) → (W.alloc (.cells #[.int .i64 y] 3)).grownBy w' v.ownBlock → K (a.put o.dst v') w') :
    if Region.wanted o (yielded ops a.tmps) = true then Oper.wp Try.prog o a (W.alloc (.cells #[.int .i64 y] 3)) K Q else E := by
  have hw : Region.wanted o (yielded ops a.tmps) = true := by simp [Region.wanted, hgd]
  rw [if_pos hw]
  obtain ⟨i0, hi0, hz0, hz1, hz2⟩ := info_parts int_info
  refine wp_append_own _ s x 25 ho base 3 i0 (.int .i64 0) 1 8 Try.underlying25 hi0 hz0 hz1 hz2 rfl (by decide) v xs.length (xs.map (Value.int .i64)) hs (World.ownsRow.alloc hown _)
    ⟨W.heap.size, 0, none⟩ 1 1 [.int .i64 y] hx rfl (cell_one_new _ _ _) (fun u hu => by rw [List.mem_singleton] at hu; subst hu; rfl) (by simp only [maxLen]; omega) (by omega) (by rw [World.size_alloc]; omega) ?_
  intro v' w' h1 h2 _
  refine h v' w' ?_ h2
  unfold Owns
  simpa using h1

theorem okTwo_no {t : Int} {a b : List Int} {y : Bool} (h1 : Hid (issueOkB t a = true)) (h2 : Hid (issueOkB t b = y)) : okTwo t a b = y := by unfold okTwo; rw [h1.out, h2.out]; rfl
theorem okTwo_no1 {t : Int} {a b : List Int} (h1 : Hid (issueOkB t a = false)) : okTwo t a b = false := by unfold okTwo; rw [h1.out]; rfl

set_option maxRecDepth 100000 in
set_option maxHeartbeats 4000000 in
theorem sBothIssues (t : Int) (A B : Option Addr) (na ca nb cb : Nat) (a b : List Int) (w : World) (ha : Row w A na ca a) (hb : Row w B nb cb b) :
    Calls Try.prog 87 #[.int .i64 t, .slice A na ca, .slice B nb cb] w fun e w' => ∃ v, e = .returned v ∧ Owns w' w.heap.size v (bothL t a b) ∧ Below w.heap.size w w' := by
  have HA := Lib.hid ha
  have HB := Lib.hid hb
  obtain rfl := ha.hn
  obtain rfl := hb.hn
  clear ha hb
  obtain ⟨x, HX⟩ : ∃ x, Hid (issueOkB t a = x) := ⟨_, rfl⟩
  cases x
  · have HF := Lib.hid (both_nil (b := b) (okTwo_no1 HX))
    go_enter Try.func87, Try.ntmps87
    go_wp2_with fail
    refine (sIssueOk_is HX _ _ _ _ rfl HA.out.hl HA.out.hA).mono ?_
    rintro e w' ⟨rfl, m1, rfl⟩
    go_wp2_with fail
    go_ret
    exact ⟨_, rfl, by rw [HF.out]; exact Owns.lit _ _ [] (Nat.le_refl _) (by simp [maxLen]), (bel_drewN (Below.refl _ _) _).alloc (Nat.le_refl _) _⟩
  obtain ⟨y, HY⟩ : ∃ y, Hid (issueOkB t b = y) := ⟨_, rfl⟩
  cases y
  · have HF := Lib.hid (both_nil (okTwo_no HX HY))
    go_enter Try.func87, Try.ntmps87
    go_wp2_with fail
    refine (sIssueOk_is HX _ _ _ _ rfl HA.out.hl HA.out.hA).mono ?_
    rintro e w' ⟨rfl, m2, rfl⟩
    go_wp2_with fail
    refine (sIssueOk_is HY _ _ _ _ rfl HB.out.hl (by exact HB.out.hA)).mono ?_
    rintro e w' ⟨rfl, m3, rfl⟩
    go_wp2_with fail
    go_ret
    exact ⟨_, rfl, by rw [HF.out]; exact Owns.lit _ _ [] (Nat.le_refl _) (by simp [maxLen]), (bel_drewN (Below.refl _ _) _).alloc (Nat.le_refl _) _⟩
  have h1 := HX.out
  have h2 := HY.out
  obtain ⟨hla, hla2⟩ := issue_ne h1
  obtain ⟨hlb, hlb2⟩ := issue_ne h2
  have HRA := Lib.hid (issue_range h1)
  have HRB := Lib.hid (issue_range h2)
  have HF := Lib.hid (both_eq h1 h2)
  have HS := Lib.hid (sets_range (bothX_sets (b := b) h1))
  have HP2 : Hid ((bothX a b).length ≤ 4900) := by unfold Hid; rw [bothX_len]; exact Nat.le_trans (Nat.mul_le_mul hla2 hlb2) (by omega)
  clear h1 h2
  go_enter Try.func87, Try.ntmps87
  go_wp2_with fail
  refine (sIssueOk_is HX _ _ _ _ rfl HA.out.hl HA.out.hA).mono ?_
  rintro e w' ⟨rfl, m4, rfl⟩
  go_wp2_with fail
  refine (sIssueOk_is HY _ _ _ _ rfl HB.out.hl (by exact HB.out.hA)).mono ?_
  rintro e w' ⟨rfl, m5, rfl⟩
  go_wp2_with fail
  go_loopw [7, 8] (fun v i wr => ∃ k : Nat, k ≤ a.length ∧ i = .int .i64 k ∧ Owns wr w.heap.size v (bothTo a b k 0) ∧ Below w.heap.size w wr) (fun _ i _ => a.length - (Go.RowKit.intOf i).toNat)
  case atStart => exact ⟨0, Nat.zero_le _, rfl, by rw [bothTo_zero]; exact Owns.lit _ _ [] (Nat.le_refl _) (by simp [maxLen]), (bel_drewN (Below.refl _ _) _).alloc (Nat.le_refl _) _⟩
  case round =>
    obtain ⟨k, hk, rfl, hown, hbel⟩ := hrel
    have HOW := Lib.hid hown
    have HBW := Lib.hid hbel
    clear hown hbel
    by_cases hlt : k < a.length
    · obtain ⟨bb, off, x, rfl, _, hx, hbb⟩ := (HA.out.hA.below HBW.out).elem hlt
      obtain ⟨he1, he2⟩ := HRA.out x (elem_mem hx)
      have hd : decide ((k : Int) < (a.length : Int)) = true := decide_eq_true (by omega)
      go_wp2_with fail
      clear hd
      go_loopw [7, 9] (fun v i wi => ∃ j : Nat, j ≤ b.length ∧ i = .int .i64 j ∧ Owns wi w.heap.size v (bothTo a b k j) ∧ Below w.heap.size w wi) (fun _ i _ => b.length - (Go.RowKit.intOf i).toNat)
      case atStart => exact ⟨0, Nat.zero_le _, rfl, HOW.out, HBW.out⟩
      case round =>
        obtain ⟨j, hj, rfl, hown, hbel⟩ := hrel
        have HOI := Lib.hid hown
        have HBI := Lib.hid hbel
        clear hown hbel
        by_cases hjt : j < b.length
        · obtain ⟨bb1, off1, x1, hAe, hcell1, hx1, _⟩ := (HA.out.hA.below HBI.out).elem hlt
          simp only [Option.some.injEq, Addr.mk.injEq] at hAe
          obtain ⟨rfl, rfl, _⟩ := hAe
          obtain rfl : x1 = x := by have := hx1.out; rw [hx.out] at this; cases this; rfl
          obtain ⟨bb2, off2, y, rfl, hcell, hy, _⟩ := (HB.out.hA.below HBI.out).elem hjt
          obtain ⟨hf1, hf2⟩ := HRB.out y (elem_mem hy)
          have HT := Lib.hid (bothTo_in hx hy)
          have hsm := bothTo_small hla2 hlb2 k j hk
          have hj1 : (j : Int) < (b.length : Int) := by omega
          have hk1 : (k : Int) < (a.length : Int) := by omega
          go_wp2_with fail
          go_region_law (first | (refine step_append1 rfl _ _ rfl w.heap.size u7 (bothTo a b k j) rfl (by exact HOI.out) _ rfl (by omega) HBI.out.size ?_; intro v' w' hown' hgrow) | (go_simp; go_at_call 92; refine (sBothS _ _ he1 he2 hf1 hf2 _).mono ?_; rintro e w' ⟨rfl, m, rfl⟩))
          all_goals
            have hb' := below_append (bel_drewN HBI.out _) (by exact HBI.out.size) (by exact HOI.out) (Nat.le_refl _) hgrow
            go_wp2_with fail
            go_roundw
            case rel => exact ⟨j + 1, by omega, by go_num, by rw [HT.out]; exact hown', hb'⟩
            case measure => simp [Go.RowKit.intOf]; omega
        · obtain rfl : j = b.length := by omega
          have HT := Lib.hid (bothTo_out (b := b) hx)
          go_wp2_with fail
          go_roundw
          case rel => exact ⟨k + 1, by omega, by go_num, by rw [HT.out]; exact HOI.out, HBI.out⟩
          case measure => simp [Go.RowKit.intOf]; omega
    · obtain rfl : k = a.length := by omega
      have HE : Hid (bothTo a b a.length 0 = bothX a b) := bothTo_end a b
      rw [HE.out] at HOW
      obtain ⟨A1, c1, rfl, hc1, hm1, hn1, _⟩ := HOW.out.form
      have HN1 := Lib.hid hn1
      have hle : (bothX a b).length ≤ 1048576 := by have := HP2.out; omega
      clear hm1 hn1
      go_wp2_with fail
      refine (sTidy _ _ _ (bothX a b) _ rfl hle HS.out HN1.out).mono ?_
      rintro e w2 ⟨v, rfl, ho, hb⟩
      have HO2 := Lib.hid ho
      have HB2 := Lib.hid (bel_trans HBW.out hb)
      have hsz := HBW.out.size
      clear ho hb
      go_wp2_with fail
      go_ret
      exact ⟨_, rfl, by rw [HF.out]; exact HO2.out.base hsz, HB2.out⟩

set_option maxRecDepth 100000 in
set_option maxHeartbeats 4000000 in
theorem sEitherIssue (t : Int) (A B : Option Addr) (na ca nb cb : Nat) (a b : List Int) (w : World) (ha : Row w A na ca a) (hb : Row w B nb cb b) :
    Calls Try.prog 88 #[.int .i64 t, .slice A na ca, .slice B nb cb] w fun e w' => ∃ v, e = .returned v ∧ Owns w' w.heap.size v (eitherL t a b) ∧ Below w.heap.size w w' := by
  have HA := Lib.hid ha
  have HB := Lib.hid hb
  obtain rfl := ha.hn
  obtain rfl := hb.hn
  clear ha hb
  obtain ⟨x, HX⟩ : ∃ x, Hid (issueOkB t a = x) := ⟨_, rfl⟩
  cases x
  · have HF := Lib.hid (either_nil (b := b) (okTwo_no1 HX))
    go_enter Try.func88, Try.ntmps88
    go_wp2_with fail
    refine (sIssueOk_is HX _ _ _ _ rfl HA.out.hl HA.out.hA).mono ?_
    rintro e w' ⟨rfl, m1, rfl⟩
    go_wp2_with fail
    go_ret
    exact ⟨_, rfl, by rw [HF.out]; exact Owns.lit _ _ [] (Nat.le_refl _) (by simp [maxLen]), (bel_drewN (Below.refl _ _) _).alloc (Nat.le_refl _) _⟩
  obtain ⟨y, HY⟩ : ∃ y, Hid (issueOkB t b = y) := ⟨_, rfl⟩
  cases y
  · have HF := Lib.hid (either_nil (okTwo_no HX HY))
    go_enter Try.func88, Try.ntmps88
    go_wp2_with fail
    refine (sIssueOk_is HX _ _ _ _ rfl HA.out.hl HA.out.hA).mono ?_
    rintro e w' ⟨rfl, m2, rfl⟩
    go_wp2_with fail
    refine (sIssueOk_is HY _ _ _ _ rfl HB.out.hl (by exact HB.out.hA)).mono ?_
    rintro e w' ⟨rfl, m3, rfl⟩
    go_wp2_with fail
    go_ret
    exact ⟨_, rfl, by rw [HF.out]; exact Owns.lit _ _ [] (Nat.le_refl _) (by simp [maxLen]), (bel_drewN (Below.refl _ _) _).alloc (Nat.le_refl _) _⟩
  have h1 := HX.out
  have h2 := HY.out
  obtain ⟨hla, hla2⟩ := issue_ne h1
  obtain ⟨hlb, hlb2⟩ := issue_ne h2
  have HF := Lib.hid (either_eq h1 h2)
  have HS := Lib.hid (sets_range (eitherX_sets h1 h2))
  clear h1 h2
  obtain ⟨ab, HAB⟩ : ∃ l, Hid (a ++ b = l) := ⟨_, rfl⟩
  have hle : ab.length ≤ 1048576 := by rw [← HAB.out, List.length_append]; omega
  rw [HAB.out] at HF HS
  go_enter Try.func88, Try.ntmps88
  go_wp2_with fail
  refine (sIssueOk_is HX _ _ _ _ rfl HA.out.hl HA.out.hA).mono ?_
  rintro e w' ⟨rfl, m4, rfl⟩
  go_wp2_with fail
  refine (sIssueOk_is HY _ _ _ _ rfl HB.out.hl (by exact HB.out.hA)).mono ?_
  rintro e w' ⟨rfl, m5, rfl⟩
  have HB0 : Hid (Below w.heap.size w ((w.drewN (m4 + m5)).alloc (.cells #[] 3))) := (bel_drewN (Below.refl _ _) _).alloc (Nat.le_refl _) _
  have HO0 : Hid (Owns ((w.drewN (m4 + m5)).alloc (.cells #[] 3)) w.heap.size (.slice (some ⟨w.heap.size, 0, none⟩) 0 0) []) := Owns.lit (w.drewN (m4 + m5)) w.heap.size [] (Nat.le_refl _) (by simp [maxLen])
  go_wp2_with (at_builtin; first
    | (refine wp_appendL rfl _ _ rfl w.heap.size (.slice (some ⟨w.heap.size, 0, none⟩) 0 0) [] rfl HO0.out a A a.length ca rfl rfl hla (HA.out.hA.below HB0.out) (by simp; omega) HB0.out.size ?_; intro v2 w2 hown2 hgrow2; have HO2 := Lib.hid hown2; have HB2 := Lib.hid (below_appendL HB0.out HB0.out.size HO0.out (Nat.le_refl _) hgrow2); clear hown2 hgrow2 HO0 HB0)
    | (refine wp_appendL rfl _ _ rfl w.heap.size v2 a rfl HO2.out b B b.length cb rfl rfl hlb (HB.out.hA.below HB2.out) (by omega) HB2.out.size ?_; intro v3 w3 hown3 hgrow3))
  rw [HAB.out] at hown3
  have HO3 := Lib.hid hown3
  have HB3 := Lib.hid (below_appendL HB2.out HB2.out.size HO2.out (Nat.le_refl _) hgrow3)
  clear hown3 hgrow3
  obtain ⟨A1, c1, rfl, hc1, hm1, hn1, _⟩ := HO3.out.form
  have HN1 := Lib.hid hn1
  have hsz1 := HB3.out.size
  clear hm1 hn1
  go_wp2_with fail
  refine (sTidy _ _ _ ab _ rfl hle HS.out HN1.out).mono ?_
  rintro e w4 ⟨v, rfl, ho, hb⟩
  have HO4 := Lib.hid ho
  have HB4 := Lib.hid (bel_trans HB3.out hb)
  clear ho hb
  go_wp2_with fail
  go_ret
  exact ⟨_, rfl, by rw [HF.out]; exact HO4.out.base hsz1, HB4.out⟩
end Go.Proofs.Ytmdpolllmipppaa

namespace Go.Proofs.Ytmdpolllmipppaa
open Go.RowKit

set_option maxRecDepth 100000 in
set_option maxHeartbeats 4000000 in
theorem sIfIssue (t : Int) (A B : Option Addr) (na ca nb cb : Nat) (a b : List Int) (w : World) (ha : Row w A na ca a) (hb : Row w B nb cb b) :
    Calls Try.prog 89 #[.int .i64 t, .slice A na ca, .slice B nb cb] w fun e w' => ∃ v, e = .returned v ∧ Owns w' w.heap.size v (ifL t a b) ∧ Below w.heap.size w w' := by
  have HA := Lib.hid ha
  have HB := Lib.hid hb
  obtain rfl := ha.hn
  obtain rfl := hb.hn
  have hbl := hb.hl
  clear ha hb
  obtain ⟨x, HX⟩ : ∃ x, Hid (issueOkB t a = x) := ⟨_, rfl⟩
  cases x
  · have HF := Lib.hid (if_nil (b := b) (okTwo_no1 HX))
    go_enter Try.func89, Try.ntmps89
    go_wp2_with fail
    refine (sIssueOk_is HX _ _ _ _ rfl HA.out.hl HA.out.hA).mono ?_
    rintro e w' ⟨rfl, m1, rfl⟩
    go_wp2_with fail
    go_ret
    exact ⟨_, rfl, by rw [HF.out]; exact Owns.lit _ _ [] (Nat.le_refl _) (by simp [maxLen]), (bel_drewN (Below.refl _ _) _).alloc (Nat.le_refl _) _⟩
  obtain ⟨y, HY⟩ : ∃ y, Hid (issueOkB t b = y) := ⟨_, rfl⟩
  cases y
  · have HF := Lib.hid (if_nil (okTwo_no HX HY))
    go_enter Try.func89, Try.ntmps89
    go_wp2_with fail
    refine (sIssueOk_is HX _ _ _ _ rfl HA.out.hl HA.out.hA).mono ?_
    rintro e w' ⟨rfl, m2, rfl⟩
    go_wp2_with fail
    refine (sIssueOk_is HY _ _ _ _ rfl HB.out.hl (by exact HB.out.hA)).mono ?_
    rintro e w' ⟨rfl, m3, rfl⟩
    go_wp2_with fail
    go_ret
    exact ⟨_, rfl, by rw [HF.out]; exact Owns.lit _ _ [] (Nat.le_refl _) (by simp [maxLen]), (bel_drewN (Below.refl _ _) _).alloc (Nat.le_refl _) _⟩
  have h1 := HX.out
  have h2 := HY.out
  obtain ⟨hla, hla2⟩ := issue_ne h1
  obtain ⟨ht1, ht3⟩ := issue_things h1
  have HRA := Lib.hid (issue_range h1)
  have HRB := Lib.hid (issue_range h2)
  have HF := Lib.hid (if_eq h1 h2)
  have HS := Lib.hid (sets_range (ifX_sets (b := b) h1))
  obtain ⟨al, hal⟩ : ∃ n : Nat, n = (allOf t).toNat := ⟨_, rfl⟩
  have h0 := allOf_lt t
  have HAL : Hid (allOf t = (al : Int)) := by unfold Hid; omega
  have hal2 : al < 256 := by omega
  have HAL2 : Hid ((allOf t + 1).toNat = al + 1) := by unfold Hid; omega
  rw [HAL2.out] at HF HS
  clear h1 h2 hal h0
  go_enter Try.func89, Try.ntmps89
  go_wp2_with fail
  refine (sIssueOk_is HX _ _ _ _ rfl HA.out.hl HA.out.hA).mono ?_
  rintro e w' ⟨rfl, m4, rfl⟩
  go_wp2_with fail
  refine (sIssueOk_is HY _ _ _ _ rfl HB.out.hl (by exact HB.out.hA)).mono ?_
  rintro e w' ⟨rfl, m5, rfl⟩
  go_wp2_with fail
  go_loopw [7, 8] (fun v i wr => ∃ k : Nat, k ≤ al + 1 ∧ i = .int .i64 k ∧ Owns wr w.heap.size v (ifTo a b k) ∧ Below w.heap.size w wr) (fun _ i _ => al + 1 - (Go.RowKit.intOf i).toNat)
  case atStart => exact ⟨0, Nat.zero_le _, rfl, by rw [if_zero]; exact Owns.lit _ _ [] (Nat.le_refl _) (by simp [maxLen]), (bel_drewN (Below.refl _ _) _).alloc (Nat.le_refl _) _⟩
  case round =>
    obtain ⟨k, hk, rfl, hown, hbel⟩ := hrel
    have HOW := Lib.hid hown
    have HBW := Lib.hid hbel
    clear hown hbel
    by_cases hlt : k ≤ al
    · have hd : decide ((k : Int) ≤ (al : Int)) = true := decide_eq_true (by omega)
      go_wp2_with fail
      refine (sAll _ _ ht1 ht3).mono ?_
      rintro e w' ⟨rfl, rfl⟩
      rw [HAL.out]
      go_wp2_with fail
      clear hd
      go_loopw [9, 10] (fun g j wi => ∃ (i : Nat) (gb : Bool), i ≤ a.length ∧ j = .int .i64 i ∧ g = .bool gb ∧ Hid (goodB (a.take i) b k = gb) ∧ ∃ m, wi = wr.drewN m) (fun _ j _ => a.length - (Go.RowKit.intOf j).toNat)
      case atStart => exact ⟨0, true, Nat.zero_le _, rfl, rfl, rfl, 0, rfl⟩
      case round =>
        obtain ⟨i, gb, hi, rfl, rfl, hg, m, rfl⟩ := hrel
        by_cases hit : i < a.length
        · obtain ⟨bb, off, x, rfl, hcell, hx, _⟩ := (HA.out.hA.below HBW.out).elem hit
          obtain ⟨he1, he2⟩ := HRA.out x (elem_mem hx)
          cases gb
          · have HT : Hid (goodB (a.take (i + 1)) b k = false) := by unfold Hid; rw [good_snoc hx, hg.out]; rfl
            go_wp2_with fail
            go_roundw
            case rel => exact ⟨i + 1, false, by omega, by go_num, rfl, HT, _, rfl⟩
            case measure => simp [Go.RowKit.intOf]; omega
          · obtain ⟨v, HV⟩ : ∃ v, Hid (anyWithin (andI (k : Int) x) b = v) := ⟨_, rfl⟩
            have HT : Hid (goodB (a.take (i + 1)) b k = v) := by unfold Hid; rw [good_snoc hx, hg.out, HV.out]; rfl
            have hand0 := andI_nonneg (k : Int) x
            have hand1 := andI_le (k : Int) x (by omega)
            go_wp2_with fail
            refine (sBothS _ _ (by omega) (by omega) he1 he2 _).mono ?_
            rintro e w' ⟨rfl, m2, rfl⟩
            go_wp2_with fail
            refine (sL2Settles_is HV _ _ _ _ rfl hand0 (by omega) HRB.out hbl (HB.out.hA.below (bel_drewN HBW.out _))).mono ?_
            rintro e w' ⟨rfl, m3, rfl⟩
            go_wp2_with fail
            go_roundw
            case rel => exact ⟨i + 1, v, by omega, by go_num, rfl, HT, _, rfl⟩
            case measure => simp [Go.RowKit.intOf]; omega
        · obtain rfl : i = a.length := by omega
          rw [List.take_length] at hg
          have hlen := if_len a b k
          cases gb
          · have HT : Hid (ifTo a b (k + 1) = ifTo a b k) := by unfold Hid; rw [if_next, hg.out]; simp
            go_wp2_with fail
            go_roundw
            case rel => exact ⟨k + 1, by omega, by go_num, by rw [HT.out]; exact HOW.out, bel_drewN HBW.out _⟩
            case measure => simp [Go.RowKit.intOf]; omega
          · have HT : Hid (ifTo a b (k + 1) = ifTo a b k ++ [(k : Int)]) := by unfold Hid; rw [if_next, hg.out]; simp
            have HOW2 : Hid (Owns (wr.drewN m) w.heap.size u7 (ifTo a b k)) := HOW.out
            have HB2 := Lib.hid (bel_drewN HBW.out m)
            go_wp2_with (at_builtin; refine wp_append1 (W := wr.drewN m) rfl _ _ rfl w.heap.size u7 (ifTo a b k) rfl HOW2.out (k : Int) rfl (by omega) HB2.out.size ?_; intro v' w' hown' hgrow)
            have hb' := below_append HB2.out HB2.out.size HOW2.out (Nat.le_refl _) hgrow
            go_roundw
            case rel => exact ⟨k + 1, by omega, by go_num, by rw [HT.out]; exact hown', hb'⟩
            case measure => simp [Go.RowKit.intOf]; omega
    · obtain rfl : k = al + 1 := by omega
      have hd : decide (((al + 1 : Nat) : Int) ≤ (al : Int)) = false := decide_eq_false (by omega)
      have hd' : decide ((al : Int) + 1 ≤ (al : Int)) = false := decide_eq_false (by omega)
      have hlen := if_len a b (al + 1)
      obtain ⟨A1, c1, rfl, hc1, hm1, hn1, _⟩ := HOW.out.form
      have HN1 := Lib.hid hn1
      have hle : (ifTo a b (al + 1)).length ≤ 1048576 := by omega
      clear hm1 hn1
      go_wp2_with fail
      refine (sAll _ _ ht1 ht3).mono ?_
      rintro e w' ⟨rfl, rfl⟩
      rw [HAL.out]
      go_wp2_with fail
      refine (sTidy _ _ _ (ifTo a b (al + 1)) _ rfl hle HS.out HN1.out).mono ?_
      rintro e w2 ⟨v, rfl, ho, hb⟩
      have HO2 := Lib.hid ho
      have HB2 := Lib.hid (bel_trans HBW.out hb)
      have hsz := HBW.out.size
      clear ho hb
      go_wp2_with fail
      go_ret
      exact ⟨_, rfl, by rw [HF.out]; exact HO2.out.base hsz, HB2.out⟩

set_option maxHeartbeats 2000000 in
theorem sNotIssue (t : Int) (A : Option Addr) (na ca : Nat) (a : List Int) (w : World) (ha : Row w A na ca a) :
    Calls Try.prog 85 #[.int .i64 t, .slice A na ca] w fun e w' => ∃ v, e = .returned v ∧ Owns w' w.heap.size v (notL t a) ∧ Below w.heap.size w w' := by
  have HA := Lib.hid ha
  obtain rfl := ha.hn
  clear ha
  obtain ⟨x, HX⟩ : ∃ x, Hid (issueOkB t a = x) := ⟨_, rfl⟩
  cases x
  · have HF := Lib.hid (not_nil HX.out)
    go_enter Try.func85, Try.ntmps85
    go_wp2_with fail
    refine (sIssueOk_is HX _ _ _ _ rfl HA.out.hl HA.out.hA).mono ?_
    rintro e w' ⟨rfl, m1, rfl⟩
    go_wp2_with fail
    go_ret
    exact ⟨_, rfl, by rw [HF.out]; exact Owns.lit _ _ [] (Nat.le_refl _) (by simp [maxLen]), (bel_drewN (Below.refl _ _) _).alloc (Nat.le_refl _) _⟩
  · have HF := Lib.hid (not_eq HX.out)
    go_enter Try.func85, Try.ntmps85
    go_wp2_with fail
    refine (sIssueOk_is HX _ _ _ _ rfl HA.out.hl HA.out.hA).mono ?_
    rintro e w' ⟨rfl, m2, rfl⟩
    go_wp2_with fail
    have hbel : Below w.heap.size w ((w.drewN m2).alloc (.cells #[.int .i64 0] 3)) := (bel_drewN (Below.refl _ _) _).alloc (Nat.le_refl _) _
    have HO : Owns ((w.drewN m2).alloc (.cells #[.int .i64 0] 3)) w.heap.size (.slice (some ⟨w.heap.size, 0, none⟩) 1 1) [0] := Owns.lit (w.drewN m2) w.heap.size [0] (Nat.le_refl _) (by simp [maxLen])
    refine (sIfIssue t A _ a.length ca 1 1 a [0] _ (HA.out.below hbel) (HO.row (by simp))).mono ?_
    rintro e w1 ⟨v, rfl, ho, hb⟩
    have HO1 := Lib.hid ho
    have HB1 := Lib.hid (hbel.trans (hb.mono (by rw [World.size_alloc]; exact Nat.le_succ _)))
    clear ho hb HO hbel
    go_wp2_with fail
    go_ret
    exact ⟨_, rfl, by rw [HF.out]; exact HO1.out.base (by rw [World.size_alloc]; exact Nat.le_succ _), HB1.out⟩

set_option maxHeartbeats 2000000 in
theorem sWhetherIssue (t : Int) (A : Option Addr) (na ca : Nat) (a : List Int) (w : World) (ha : Row w A na ca a) :
    Calls Try.prog 86 #[.int .i64 t, .slice A na ca] w fun e w' => ∃ v, e = .returned v ∧ Owns w' w.heap.size v (whetherL t a) ∧ Below w.heap.size w w' := by
  have HA := Lib.hid ha
  obtain rfl := ha.hn
  have hnl := not_len t a
  have HW := Lib.hid (whether_all (t := t) (a := a))
  clear ha
  obtain ⟨x, HX⟩ : ∃ x, Hid (issueOkB t a = x) := ⟨_, rfl⟩
  cases x
  · have HF : Hid (whetherL t a = []) := by unfold Hid whetherL; rw [HX.out]; rfl
    go_enter Try.func86, Try.ntmps86
    go_wp2_with fail
    refine (sIssueOk_is HX _ _ _ _ rfl HA.out.hl HA.out.hA).mono ?_
    rintro e w' ⟨rfl, m1, rfl⟩
    go_wp2_with fail
    go_ret
    exact ⟨_, rfl, by rw [HF.out]; exact Owns.lit _ _ [] (Nat.le_refl _) (by simp [maxLen]), (bel_drewN (Below.refl _ _) _).alloc (Nat.le_refl _) _⟩
  · go_enter Try.func86, Try.ntmps86
    go_wp2_with fail
    refine (sIssueOk_is HX _ _ _ _ rfl HA.out.hl HA.out.hA).mono ?_
    rintro e w' ⟨rfl, m2, rfl⟩
    go_wp2_with fail
    refine (sNotIssue t A _ ca a _ (HA.out.drewN _)).mono ?_
    rintro e w1 ⟨v, rfl, ho, hb⟩
    obtain ⟨A1, c1, rfl, hc1, hm1, hn1, _⟩ := ho.form
    have HR1 := Lib.hid (ho.row (by omega))
    have HB1 := Lib.hid (bel_trans (bel_drewN (Below.refl _ _) m2) hb)
    have hsz1 := HB1.out.size
    clear ho hb hm1 hn1
    go_wp2_with fail
    refine (sEitherIssue t A _ _ _ _ _ a (notL t a) _ (HA.out.below HB1.out) HR1.out).mono ?_
    rintro e w2 ⟨v, rfl, ho, hb⟩
    have HO2 := Lib.hid ho
    have HB2 := Lib.hid (bel_trans HB1.out hb)
    clear ho hb
    go_wp2_with fail
    go_ret
    exact ⟨_, rfl, by rw [HW.out]; exact HO2.out.base hsz1, HB2.out⟩

set_option maxHeartbeats 1000000 in
theorem sFollows (t : Int) (A B : Option Addr) (na ca nb cb : Nat) (a b : List Int) (w : World) (ha : Row w A na ca a) (hb : Row w B nb cb b) :
    Calls Try.prog 70 #[.int .i64 t, .slice A na ca, .slice B nb cb] w fun e w' => e = .returned (.bool (followsB t a b)) ∧ ∃ n, w' = w.drewN n := by
  have HA := Lib.hid ha
  have HB := Lib.hid hb
  obtain rfl := ha.hn
  obtain rfl := hb.hn
  have hla := ha.hl
  have hlb := hb.hl
  clear ha hb
  obtain ⟨x, HX⟩ : ∃ x, Hid (issueOkB t a = x) := ⟨_, rfl⟩
  cases x
  · have HF : Hid (followsB t a b = false) := by unfold Hid; rw [follows_eq, okTwo_no1 HX]; rfl
    go_enter Try.func70, Try.ntmps70
    go_wp2_with fail
    refine (sIssueOk_is HX _ _ _ _ rfl hla HA.out.hA).mono ?_
    rintro e w' ⟨rfl, m1, rfl⟩
    go_wp2_with fail
    go_ret
    exact ⟨ret_bool HF.out.symm, _, rfl⟩
  obtain ⟨y, HY⟩ : ∃ y, Hid (issueOkB t b = y) := ⟨_, rfl⟩
  cases y
  · have HF : Hid (followsB t a b = false) := by unfold Hid; rw [follows_eq, okTwo_no HX HY]; rfl
    go_enter Try.func70, Try.ntmps70
    go_wp2_with fail
    refine (sIssueOk_is HX _ _ _ _ rfl hla HA.out.hA).mono ?_
    rintro e w' ⟨rfl, m2, rfl⟩
    go_wp2_with fail
    refine (sIssueOk_is HY _ _ _ _ rfl hlb (by exact HB.out.hA)).mono ?_
    rintro e w' ⟨rfl, m3, rfl⟩
    go_wp2_with fail
    go_ret
    exact ⟨ret_bool HF.out.symm, _, rfl⟩
  have HF : Hid (followsB t a b = a.all fun x => anyWithin x b) := by unfold Hid; rw [follows_eq, okTwo_no HX HY]; rfl
  have HRA := Lib.hid (issue_range HX.out)
  have HRB := Lib.hid (issue_range HY.out)
  go_enter Try.func70, Try.ntmps70
  go_wp2_with fail
  refine (sIssueOk_is HX _ _ _ _ rfl hla HA.out.hA).mono ?_
  rintro e w' ⟨rfl, m4, rfl⟩
  go_wp2_with fail
  refine (sIssueOk_is HY _ _ _ _ rfl hlb (by exact HB.out.hA)).mono ?_
  rintro e w' ⟨rfl, m5, rfl⟩
  go_wp2_with fail
  go_loopw [7] (fun i wr => ∃ k : Nat, k ≤ a.length ∧ i = .int .i64 k ∧ Hid (((a.take k).all fun x => anyWithin x b) = true) ∧ ∃ n, wr = w.drewN n) (fun i _ => a.length - (intOf i).toNat)
  case atStart => exact ⟨0, Nat.zero_le _, rfl, rfl, _, rfl⟩
  case round =>
    obtain ⟨k, hk, rfl, hsofar, n, rfl⟩ := hrel
    by_cases hlt : k < a.length
    · obtain ⟨bb, off, x, rfl, hcell, hx, _⟩ := HA.out.hA.elem hlt
      obtain ⟨he1, he2⟩ := HRA.out x (elem_mem hx)
      rcases hw : anyWithin x b with _ | _
      · have HW := Lib.hid hw
        clear hw
        go_wp2_with fail
        refine (sL2Settles_is HW _ _ _ _ rfl he1 he2 HRB.out hlb (by exact HB.out.hA)).mono ?_
        rintro e w' ⟨rfl, m6, rfl⟩
        go_wp2_with fail
        go_ret
        exact ⟨ret_bool (by rw [HF.out, allAny_miss hx HW.out]), _, rfl⟩
      · have HW := Lib.hid hw
        clear hw
        go_wp2_with fail
        refine (sL2Settles_is HW _ _ _ _ rfl he1 he2 HRB.out hlb (by exact HB.out.hA)).mono ?_
        rintro e w' ⟨rfl, m7, rfl⟩
        go_wp2_with fail
        go_roundw
        case rel => exact ⟨k + 1, by omega, by go_num, by unfold Hid; rw [allAny_snoc hx, hsofar.out, HW.out]; rfl, _, rfl⟩
        case measure => simp [intOf]; omega
    · obtain rfl : k = a.length := by omega
      have HN : Hid ((a.all fun x => anyWithin x b) = true) := by unfold Hid; rw [← hsofar.out, List.take_length]
      clear hsofar
      go_wp2
      go_ret
      exact ⟨ret_bool (by rw [HF.out, HN.out]), _, rfl⟩
end Go.Proofs.Ytmdpolllmipppaa

namespace Go.Proofs.Ytmdpolllmipppaa
open Go.RowKit

def TwoPost (g u : Nat) (w : World) (e : Ending) (w' : World) : Prop :=
  ∃ (t : Int) (v1 : Value) (xs : List Int) (v2 : Value) (ys : List Int), e = .returned (.tuple #[.int .i64 t, v1, v2]) ∧ -1 ≤ t ∧ t ≤ 4 ∧ Owns w' w.heap.size v1 xs ∧ xs.length ≤ 257 ∧ Owns w' w.heap.size v2 ys ∧ ys.length ≤ 257 ∧ Rd w' g (u + 120) ∧ w.grownBy w' (some g)
theorem either_len {t : Int} {a b : List Int} : (eitherL t a b).length ≤ 70 := by
  cases h : okTwo t a b
  · rw [either_nil h]; simp
  · obtain ⟨h1, h2⟩ := okTwo_ok h
    exact (issue_ne (either_ok h1 h2)).2

def DrawTLL (w : World) (e : Ending) (w' : World) : Prop :=
  ∃ (t : Int) (v1 : Value) (xs : List Int) (v2 : Value) (ys : List Int), e = .returned (.tuple #[.int .i64 t, v1, v2]) ∧ -1 ≤ t ∧ t ≤ 4 ∧ Owns w' w.heap.size v1 xs ∧ xs.length ≤ 257 ∧ Owns w' w.heap.size v2 ys ∧ ys.length ≤ 257 ∧ Below w.heap.size w w'
def DrawTL2 (w : World) (e : Ending) (w' : World) : Prop :=
  ∃ (t : Int) (v1 : Value) (xs : List Int), e = .returned (.tuple #[.int .i64 t, v1]) ∧ -1 ≤ t ∧ t ≤ 4 ∧ Owns w' w.heap.size v1 xs ∧ xs.length ≤ 257 ∧ Below w.heap.size w w'

end Go.Proofs.Ytmdpolllmipppaa

namespace Go.Proofs.Ytmdpolllmipppaa
open Go.RowKit

theorem Nums.later {k : IntKind} {w w' : World} {A A2 : Option Addr} {n2 c2 : Nat} {xs : List Int} {B : Nat} (h : Nums k w A xs) (hg : w.grownBy w' (Value.slice A2 n2 c2).ownBlock)
    (h1 : ∀ ad, A = some ad → B ≤ ad.block) (h2 : ∀ ad, A2 = some ad → ad.block < B) : Nums k w' A xs := by
  refine h.grown hg fun ad ha e => ?_
  have hb := h1 ad ha
  cases A2 with
  | none => cases e
  | some ad2 =>
    have : ad.block = ad2.block := by simpa [Value.ownBlock] using e
    have := h2 ad2 rfl
    omega
theorem Owns.later {w w' : World} {base : Nat} {v : Value} {A2 : Option Addr} {n2 c2 : Nat} {xs : List Int} (h : Owns w base v xs) (hg : w.grownBy w' (Value.slice A2 n2 c2).ownBlock) (h2 : ∀ ad, A2 = some ad → ad.block < base) : Owns w' base v xs := by
  refine h.kept hg ?_
  cases e : v.ownBlock with
  | none => exact .inl rfl
  | some k =>
    right
    intro e2
    have := (World.ownsRow.lt h k e).1
    cases A2 with
    | none => cases e2
    | some ad2 =>
      have e3 : k = ad2.block := by simpa [Value.ownBlock] using e2
      have := h2 ad2 rfl
      omega
theorem both_len {t : Int} {a b : List Int} : (bothL t a b).length ≤ 70 := by
  cases h : okTwo t a b
  · rw [both_nil h]; simp
  · obtain ⟨h1, h2⟩ := okTwo_ok h
    exact (issue_ne (both_ok h1 h2)).2
theorem if_le {t : Int} {a b : List Int} : (ifL t a b).length ≤ 70 := by
  cases h : okTwo t a b
  · rw [if_nil h]; simp
  · obtain ⟨h1, h2⟩ := okTwo_ok h
    exact (issue_ne (if_ok h1 h2)).2
theorem whether_len {t : Int} {a : List Int} : (whetherL t a).length ≤ 70 := by rw [whether_all]; exact either_len

end Go.Proofs.Ytmdpolllmipppaa

namespace Go.Proofs.Ytmdpolllmipppaa
open Go.RowKit

theorem rSettles {t : Int} {xs : List Int} {s : Int} {b : Bool} (h : Hid (settlesB t xs s = b)) {A : Option Addr} {nn c : Nat} {w : World} (r : Row w A nn c xs) :
    Calls Try.prog 31 #[.int .i64 t, .slice A nn c, .int .i64 s] w fun e w' => e = .returned (.bool b) ∧ ∃ n, w' = w.drewN n := iSettles_is h _ _ _ _ r.hn r.hl r.hc r.hm r.hA
theorem rIssueOk {t : Int} {xs : List Int} {b : Bool} (h : Hid (issueOkB t xs = b)) {A : Option Addr} {nn c : Nat} {w : World} (r : Row w A nn c xs) :
    Calls Try.prog 20 #[.int .i64 t, .slice A nn c] w fun e w' => e = .returned (.bool b) ∧ ∃ n, w' = w.drewN n := iIssueOk_is h _ _ _ _ r.hn r.hl r.hc r.hm r.hA
theorem rSIssueOk {t : Int} {xs : List Int} {b : Bool} (h : Hid (issueOkB t xs = b)) {A : Option Addr} {nn c : Nat} {w : World} (r : Row w A nn c xs) :
    Calls Try.prog 98 #[.int .i64 t, .slice A nn c] w fun e w' => e = .returned (.bool b) ∧ ∃ n, w' = w.drewN n := sIssueOk_is h _ _ _ _ r.hn r.hl r.hA
theorem rSame {xs ys : List Int} {v : Bool} (h : Hid (decide (xs = ys) = v)) {A B : Option Addr} {nn c mm d : Nat} {w : World} (r : Row w A nn c xs) (q : Row w B mm d ys) :
    Calls Try.prog 18 #[.slice A nn c, .slice B mm d] w fun e w' => e = .returned (.bool v) ∧ ∃ n, w' = w.drewN n :=
  (lSameInts A B nn mm c d xs ys w r.hn q.hn r.hl q.hl r.hA q.hA).mono fun _ _ ⟨he, hw⟩ => ⟨he.trans (ret_bool h.out), hw⟩
theorem same_self (xs : List Int) : Hid (decide (xs = xs) = true) := decide_eq_true rfl
theorem lBoth_is {a b g : Int} (h : Hid (andI a b = g)) (ha : 0 ≤ a) (ha2 : a < 256) (hb : 0 ≤ b) (w : World) :
    Calls Try.prog 32 #[.int .i64 a, .int .i64 b] w fun e w' => e = .returned (.int .i64 g) ∧ w = w' :=
  (lBoth a b ha ha2 hb w).mono fun _ _ ⟨he, hw⟩ => ⟨he.trans (ret_int h.out), hw⟩
theorem not_empty {t : Int} {r : List Int} (h : issueOkB t r = true) : ((r.length : Int) == 0) = false := by
  have := (issue_ne h).1
  rw [beq_eq_false_iff_ne]; omega

end Go.Proofs.Ytmdpolllmipppaa

namespace Go.Proofs.Ytmdpolllmipppaa
open Go.RowKit

inductive Sen where
  | one : Sen
  | zero : Sen
  | thing : Nat → Sen
  | no : Sen → Sen
  | ask : Sen → Sen
  | and_ : Sen → Sen → Sen
  | or_ : Sen → Sen → Sen
  | if_ : Sen → Sen → Sen

def letterSet (t : Int) (i : Nat) : Int := if i = 0 then andI 170 (allOf t) else if i = 1 then andI 204 (allOf t) else andI 240 (allOf t)
def senOk (t : Int) : Sen → Bool
  | .one => true
  | .zero => true
  | .thing i => decide ((i : Int) < t)
  | .no x => senOk t x
  | .ask x => senOk t x
  | .and_ x y => senOk t x && senOk t y
  | .or_ x y => senOk t x && senOk t y
  | .if_ x y => senOk t x && senOk t y
def issueS (t : Int) : Sen → List Int
  | .one => [allOf t]
  | .zero => [0]
  | .thing i => [letterSet t i]
  | .no x => notL t (issueS t x)
  | .ask x => whetherL t (issueS t x)
  | .and_ x y => bothL t (issueS t x) (issueS t y)
  | .or_ x y => eitherL t (issueS t x) (issueS t y)
  | .if_ x y => ifL t (issueS t x) (issueS t y)
def plainS : Sen → Bool
  | .one => true
  | .zero => true
  | .thing _ => true
  | .no x => plainS x
  | .ask _ => false
  | .and_ x y => plainS x && plainS y
  | .or_ _ _ => false
  | .if_ x y => plainS x && plainS y
def nWorlds (t : Int) : Nat := (worldsOf t).toNat
def hasW (s : Int) (w : Nat) : Bool := s.toNat.testBit w
def worldS (w : Nat) : Int := ((2 ^ w : Nat) : Int)
/-- Whether a set supports a sentence, by the sentence's own rules. -/
def holdsS (t : Int) : Sen → Int → Bool
  | .one, _ => true
  | .zero, s => decide (s = 0)
  | .thing i, s => withinB s (letterSet t i)
  | .no x, s => (List.range (nWorlds t)).all fun w => !hasW s w || !holdsS t x (worldS w)
  | .ask x, s => holdsS t x s || (List.range (nWorlds t)).all fun w => !hasW s w || !holdsS t x (worldS w)
  | .and_ x y, s => holdsS t x s && holdsS t y s
  | .or_ x y, s => holdsS t x s || holdsS t y s
  | .if_ x y, s => (List.range (s.toNat + 1)).all fun u : Nat => !withinB (u : Int) s || !holdsS t x (u : Int) || holdsS t y (u : Int)

section
variable {t : Int} {a b : List Int}
theorem letter_ok (h1 : 1 ≤ t) (h3 : t ≤ 3) (i : Nat) : setOkB t (letterSet t i) = true := by
  have hal := allOf_lt t
  have key : ∀ c : Int, setOkB t (andI c (allOf t)) = true := fun c => setOk_of h1 h3 (andI_nonneg _ _) (andI_le' _ _ hal.1)
  unfold letterSet
  split
  · exact key _
  · split <;> exact key _
theorem sen_issue (h1 : 1 ≤ t) (h3 : t ≤ 3) : ∀ s : Sen, issueOkB t (issueS t s) = true
  | .one => issue_one (setOk_of h1 h3 (allOf_lt t).1 (Int.le_refl _))
  | .zero => zero_issue h1 h3
  | .thing i => issue_one (letter_ok h1 h3 i)
  | .no x => not_ok (sen_issue h1 h3 x)
  | .ask x => whether_ok (sen_issue h1 h3 x)
  | .and_ x y => both_ok (sen_issue h1 h3 x) (sen_issue h1 h3 y)
  | .or_ x y => either_ok (sen_issue h1 h3 x) (sen_issue h1 h3 y)
  | .if_ x y => if_ok (sen_issue h1 h3 x) (sen_issue h1 h3 y)
theorem has_lt (h1 : 1 ≤ t) (h3 : t ≤ 3) {s : Int} (hs : 0 ≤ s) (hs2 : s ≤ allOf t) {w : Nat} (h : hasW s w = true) : w < nWorlds t := by
  have hb : ∀ n : Nat, s.toNat < 2 ^ n → w < n := by
    intro n hn
    rcases Nat.lt_or_ge w n with hw | hw
    · exact hw
    · unfold hasW at h
      rw [Nat.testBit_lt_two_pow (Nat.lt_of_lt_of_le hn (Nat.pow_le_pow_right (by omega) hw))] at h
      cases h
  have : t = 1 ∨ t = 2 ∨ t = 3 := by omega
  rcases this with rfl | rfl | rfl
  · exact hb 2 (by simp [allOf] at hs2; omega)
  · exact hb 4 (by simp [allOf] at hs2; omega)
  · exact hb 8 (by simp [allOf] at hs2; omega)
theorem world_ok (h1 : 1 ≤ t) (h3 : t ≤ 3) {w : Nat} (h : w < nWorlds t) : 0 ≤ worldS w ∧ worldS w ≤ allOf t := by
  have hp : ∀ n : Nat, w < n → 2 ^ w ≤ 2 ^ (n - 1) := fun n hn => Nat.pow_le_pow_right (by omega) (by omega)
  have hz : worldS w = ((2 ^ w : Nat) : Int) := rfl
  generalize 2 ^ w = q at hp hz
  rw [hz]
  refine ⟨by omega, ?_⟩
  have : t = 1 ∨ t = 2 ∨ t = 3 := by omega
  rcases this with rfl | rfl | rfl
  · have := hp 2 h; show (q : Int) ≤ 3; omega
  · have := hp 4 h; show (q : Int) ≤ 15; omega
  · have := hp 8 h; show (q : Int) ≤ 255; omega
theorem worldS_nonneg (w : Nat) : 0 ≤ worldS w := Int.natCast_nonneg _
theorem world_within (w : Nat) {x : Int} : withinB (worldS w) x = true ↔ hasW x w = true := by
  rw [within_iff (worldS_nonneg w)]
  unfold worldS hasW
  rw [Int.toNat_natCast]
  constructor
  · exact fun h => h w (by rw [Nat.testBit_two_pow]; simp)
  · intro h i hi
    rw [Nat.testBit_two_pow, decide_eq_true_eq] at hi
    subst hi; exact h
theorem any_world (w : Nat) : anyWithin (worldS w) a = hasW (unionI a) w := by
  unfold hasW
  rw [union_bit, Bool.eq_iff_iff, any_iff, List.any_eq_true]
  constructor
  · rintro ⟨x, hx, h⟩; exact ⟨x, hx, (world_within w).1 h⟩
  · rintro ⟨x, hx, h⟩; exact ⟨x, hx, (world_within w).2 h⟩
theorem not_any (ha : issueOkB t a = true) {s : Int} (hs : 0 ≤ s) (hs2 : s ≤ allOf t) : anyWithin s (notL t a) = (List.range (nWorlds t)).all fun w => !hasW s w || !anyWithin (worldS w) a := by
  obtain ⟨h1, h3⟩ := issue_things ha
  have hu := union_all ha
  rw [law_not ha, any_one, Bool.eq_iff_iff, comp_within h1 h3 hs hs2 hu.1 hu.2, List.all_eq_true]
  simp only [any_world]
  constructor
  · intro h w _
    have h2 : s.toNat &&& (unionI a).toNat = 0 := by unfold andI at h; omega
    have h4 := congrArg (fun x => x.testBit w) h2
    simp only [Nat.testBit_and, Nat.zero_testBit] at h4
    unfold hasW
    cases h5 : s.toNat.testBit w
    · rfl
    · rw [h5] at h4; simp at h4; rw [h4]; rfl
  · intro h
    have h2 : s.toNat &&& (unionI a).toNat = 0 := by
      apply Nat.eq_of_testBit_eq
      intro i
      rw [Nat.testBit_and, Nat.zero_testBit]
      cases h5 : s.toNat.testBit i
      · rfl
      · have := h i (List.mem_range.2 (has_lt h1 h3 hs hs2 h5))
        unfold hasW at this
        rw [h5] at this
        simpa using this
    unfold andI; omega
/-- To support is to settle. -/
theorem support_settle (h1 : 1 ≤ t) (h3 : t ≤ 3) : ∀ (x : Sen) (s : Int), 0 ≤ s → s ≤ allOf t → holdsS t x s = anyWithin s (issueS t x)
  | .one, s, h0, hs => by
    show true = anyWithin s [allOf t]
    rw [any_one, (within_all h1 h3 h0).2 hs]
  | .zero, s, h0, _ => by
    show decide (s = 0) = anyWithin s [0]
    rw [any_one, Bool.eq_iff_iff, decide_eq_true_eq, within_nothing h0]
  | .thing i, s, _, _ => by
    show _ = anyWithin s [letterSet t i]
    rw [any_one]; rfl
  | .no x, s, h0, hs => by
    show _ = anyWithin s (notL t (issueS t x))
    rw [not_any (sen_issue h1 h3 x) h0 hs]
    unfold holdsS
    rw [Bool.eq_iff_iff, List.all_eq_true, List.all_eq_true]
    refine forall_congr' fun w => ?_
    refine imp_congr_right fun hw => ?_
    have := world_ok h1 h3 (List.mem_range.1 hw)
    rw [support_settle h1 h3 x _ this.1 this.2]
  | .ask x, s, h0, hs => by
    show _ = anyWithin s (whetherL t (issueS t x))
    have ha := sen_issue h1 h3 x
    rw [whether_eq ha, either_any ha (not_ok ha) h0, not_any ha h0 hs]
    unfold holdsS
    rw [support_settle h1 h3 x s h0 hs]
    congr 1
    rw [Bool.eq_iff_iff, List.all_eq_true, List.all_eq_true]
    refine forall_congr' fun w => ?_
    refine imp_congr_right fun hw => ?_
    have := world_ok h1 h3 (List.mem_range.1 hw)
    rw [support_settle h1 h3 x _ this.1 this.2]
  | .and_ x y, s, h0, hs => by
    show _ = anyWithin s (bothL t (issueS t x) (issueS t y))
    rw [both_any (sen_issue h1 h3 x) (sen_issue h1 h3 y) h0]
    unfold holdsS
    rw [support_settle h1 h3 x s h0 hs, support_settle h1 h3 y s h0 hs]
  | .or_ x y, s, h0, hs => by
    show _ = anyWithin s (eitherL t (issueS t x) (issueS t y))
    rw [either_any (sen_issue h1 h3 x) (sen_issue h1 h3 y) h0]
    unfold holdsS
    rw [support_settle h1 h3 x s h0 hs, support_settle h1 h3 y s h0 hs]
  | .if_ x y, s, h0, hs => by
    show _ = anyWithin s (ifL t (issueS t x) (issueS t y))
    rw [if_any (sen_issue h1 h3 x) (sen_issue h1 h3 y) h0 hs, Bool.eq_iff_iff, good_iff]
    unfold holdsS
    rw [List.all_eq_true]
    constructor
    · intro h u hu hw hua
      have hle := within_le hw h0
      have := h u.toNat (List.mem_range.2 (by omega))
      rw [Int.toNat_of_nonneg hu, hw, support_settle h1 h3 x u hu (by omega), support_settle h1 h3 y u hu (by omega), hua] at this
      simpa using this
    · intro h u hu
      rw [List.mem_range] at hu
      rw [support_settle h1 h3 x u (by omega) (by omega), support_settle h1 h3 y u (by omega) (by omega)]
      cases hw : withinB (u : Int) s
      · rfl
      · cases hx : anyWithin (u : Int) (issueS t x)
        · rfl
        · rw [h u (by omega) hw hx]; rfl

/-! Plain sentences, what is true, consequences. -/
theorem both_one {x y : Int} (hx : setOkB t x = true) (hy : setOkB t y = true) : bothL t [x] [y] = [andI x y] := by
  rw [both_eq (issue_one hx) (issue_one hy)]
  exact issue_tidy (issue_one (t := t) (andI_ok hx))
theorem or_ok {x y : Int} (hx : setOkB t x = true) (hy : setOkB t y = true) : setOkB t (orI x y) = true := by
  have h1 := setOkB_lt hx
  have h2 := setOkB_lt hy
  refine setOk_of h1.1 h1.2.1 (orI_nonneg _ _) ?_
  refine (within_all h1.1 h1.2.1 (orI_nonneg _ _)).1 (or_within h1.2.2.1 h2.2.2.1 ?_ ?_)
  · exact (within_all h1.1 h1.2.1 h1.2.2.1).2 h1.2.2.2.1
  · exact (within_all h1.1 h1.2.1 h2.2.2.1).2 h2.2.2.2.1
theorem if_one {x y : Int} (hx : setOkB t x = true) (hy : setOkB t y = true) : ifL t [x] [y] = [orI (allOf t - x) y] := by
  obtain ⟨h1, h3, hx0, hxa, hx2⟩ := setOkB_lt hx
  obtain ⟨_, _, hy0, hya, hy2⟩ := setOkB_lt hy
  have hr : setOkB t (allOf t - x) = true := setOk_of h1 h3 (by omega) (by omega)
  refine any_ext (if_ok (issue_one hx) (issue_one hy)) (issue_one (or_ok hr hy)) fun s h0 hs => ?_
  rw [if_any (issue_one hx) (issue_one hy) h0 hs, any_one]
  unfold goodB
  simp only [List.all_cons, List.all_nil, Bool.and_true, any_one]
  rw [Bool.eq_iff_iff, within_iff (andI_nonneg _ _), within_iff h0]
  obtain ⟨n, _, hn⟩ := all_pow h1 h3
  have e : (allOf t - x).toNat = 2 ^ n - (x.toNat + 1) := by rw [hn]; omega
  have hxl : x.toNat < 2 ^ n := by rw [hn] at hxa; omega
  have hsl : s.toNat < 2 ^ n := by rw [hn] at hs; omega
  refine forall_congr' fun i => ?_
  show ((((s.toNat &&& x.toNat : Nat) : Int)).toNat.testBit i = true → _) ↔ (_ → ((((allOf t - x).toNat ||| y.toNat : Nat) : Int)).toNat.testBit i = true)
  rw [Int.toNat_natCast, Int.toNat_natCast, Nat.testBit_and, Nat.testBit_or, e, Nat.testBit_two_pow_sub_succ hxl]
  cases h5 : s.toNat.testBit i
  · simp
  · have : i < n := by
      rcases Nat.lt_or_ge i n with h | h
      · exact h
      · rw [Nat.testBit_lt_two_pow (Nat.lt_of_lt_of_le hsl (Nat.pow_le_pow_right (by omega) h))] at h5; cases h5
    cases x.toNat.testBit i <;> cases y.toNat.testBit i <;> simp [this]
theorem plain_one (h1 : 1 ≤ t) (h3 : t ≤ 3) : ∀ x : Sen, plainS x = true → ∃ g, setOkB t g = true ∧ issueS t x = [g]
  | .one, _ => ⟨_, setOk_of h1 h3 (allOf_lt t).1 (Int.le_refl _), rfl⟩
  | .zero, _ => ⟨0, setOk_of h1 h3 (by omega) (allOf_lt t).1, rfl⟩
  | .thing i, _ => ⟨_, letter_ok h1 h3 i, rfl⟩
  | .no x, _ => ⟨_, rest_ok (sen_issue h1 h3 x), law_not (sen_issue h1 h3 x)⟩
  | .ask _, h => by cases h
  | .and_ x y, h => by
    unfold plainS at h
    rw [Bool.and_eq_true] at h
    obtain ⟨p, hp, ep⟩ := plain_one h1 h3 x h.1
    obtain ⟨q, hq, eq⟩ := plain_one h1 h3 y h.2
    exact ⟨_, andI_ok hp, by show bothL t (issueS t x) (issueS t y) = _; rw [ep, eq, both_one hp hq]⟩
  | .or_ _ _, h => by cases h
  | .if_ x y, h => by
    unfold plainS at h
    rw [Bool.and_eq_true] at h
    obtain ⟨p, hp, ep⟩ := plain_one h1 h3 x h.1
    obtain ⟨q, hq, eq⟩ := plain_one h1 h3 y h.2
    have h5 := setOkB_lt hp
    have hr : setOkB t (allOf t - p) = true := setOk_of h1 h3 (by omega) (by omega)
    exact ⟨_, or_ok hr hq, by show ifL t (issueS t x) (issueS t y) = _; rw [ep, eq, if_one hp hq]⟩
theorem plain_granted (h1 : 1 ≤ t) (h3 : t ≤ 3) {x : Sen} (h : plainS x = true) : issueS t x = [unionI (issueS t x)] := by
  obtain ⟨g, hg, e⟩ := plain_one h1 h3 x h
  rw [e, union_one (setOkB_lt hg).2.2.1]

/-- The worlds below k in which a sentence is true, as a set. -/
def trueTo (t : Int) (x : Sen) : Nat → Nat
  | 0 => 0
  | k + 1 => trueTo t x k + if holdsS t x (worldS k) = true then 2 ^ k else 0
theorem true_mod (h1 : 1 ≤ t) (h3 : t ≤ 3) (x : Sen) : ∀ k, k ≤ nWorlds t → trueTo t x k = (unionI (issueS t x)).toNat % 2 ^ k
  | 0, _ => by simp [trueTo, Nat.mod_one]
  | k + 1, hk => by
    have hw := world_ok h1 h3 (show k < nWorlds t by omega)
    unfold trueTo
    rw [true_mod h1 h3 x k (by omega), support_settle h1 h3 x _ hw.1 hw.2, any_world, Nat.mod_pow_succ]
    unfold hasW
    rw [Nat.testBit_eq_decide_div_mod_eq]
    rcases Nat.mod_two_eq_zero_or_one ((unionI (issueS t x)).toNat / 2 ^ k) with h | h <;> rw [h] <;> simp
theorem true_granted (h1 : 1 ≤ t) (h3 : t ≤ 3) (x : Sen) : (trueTo t x (nWorlds t) : Int) = unionI (issueS t x) := by
  have hu := union_all (sen_issue h1 h3 x)
  rw [true_mod h1 h3 x _ (Nat.le_refl _)]
  have key : ∀ n : Nat, unionI (issueS t x) ≤ ((2 ^ n : Nat) : Int) - 1 → (((unionI (issueS t x)).toNat % 2 ^ n : Nat) : Int) = unionI (issueS t x) := by
    intro n hn
    rw [Nat.mod_eq_of_lt (by omega)]; omega
  have : t = 1 ∨ t = 2 ∨ t = 3 := by omega
  rcases this with rfl | rfl | rfl
  · exact key 2 (by have : allOf 1 = 3 := rfl; omega)
  · exact key 4 (by have : allOf 2 = 15 := rfl; omega)
  · exact key 8 (by have : allOf 3 = 255 := rfl; omega)
theorem follows_union (ha : issueOkB t a = true) (hb : issueOkB t b = true) (h : followsB t a b = true) : withinB (unionI a) (unionI b) = true := by
  refine union_least (issue_pos ha) fun x hx => ?_
  have := setOkB_lt (issue_sets ha x hx)
  have h2 := (follows_iff ha hb).1 h x this.2.2.1 this.2.2.2.1 (any_iff.2 ⟨x, hx, within_refl x this.2.2.1⟩)
  obtain ⟨y, hy, hw⟩ := any_iff.1 h2
  exact within_trans this.2.2.1 (issue_pos hb y hy) hw (mem_union (issue_pos hb) hy)
theorem entails_if (h1 : 1 ≤ t) (h3 : t ≤ 3) (x y : Sen) : holdsS t (.if_ x y) (allOf t) = followsB t (issueS t x) (issueS t y) := by
  have hx := sen_issue h1 h3 x
  have hy := sen_issue h1 h3 y
  have hal := allOf_lt t
  rw [support_settle h1 h3 _ _ hal.1 (Int.le_refl _)]
  show anyWithin (allOf t) (ifL t (issueS t x) (issueS t y)) = _
  rw [← law_follows_if hx hy, settles_any (if_ok hx hy) hal.1 (Int.le_refl _)]
end
end Go.Proofs.Ytmdpolllmipppaa

namespace Go.Proofs.Ytmdpolllmipppaa
open Go.RowKit

/-- The bytes of a text, as numbers. -/
def twoS (m : Nat) (x y : Sen) : Option Sen := if m = 38 then some (.and_ x y) else if m = 124 then some (.or_ x y) else if m = 62 then some (.if_ x y) else none
/-- The sentence at the head of a text, and what is left; n: no fewer than the bytes. -/
def readS (t : Int) : Nat → List Nat → Option (Sen × List Nat)
  | 0, _ => none
  | _ + 1, [] => none
  | n + 1, c :: l =>
    if c = 49 then some (.one, l) else if c = 48 then some (.zero, l)
    else if 97 ≤ c ∧ (c : Int) - 97 < t then some (.thing (c - 97), l)
    else if c = 33 then (readS t n l).map fun p => (.no p.1, p.2)
    else if c = 63 then (readS t n l).map fun p => (.ask p.1, p.2)
    else if c = 40 then
      match readS t n l with
      | some (x, m :: l2) =>
        match readS t n l2 with
        | some (y, e :: r) => if e = 41 then (twoS m x y).map fun z => (z, r) else none
        | _ => none
      | _ => none
    else none
theorem readS_less (t : Int) : ∀ (n : Nat) (l : List Nat) (x : Sen) (r : List Nat), readS t n l = some (x, r) → r.length < l.length
  | 0, _, _, _, h => by cases h
  | _ + 1, [], _, _, h => by cases h
  | n + 1, c :: l, x, r, h => by
    have ih := readS_less t n
    unfold readS at h
    split at h
    · cases h; simp
    split at h
    · cases h; simp
    split at h
    · cases h; simp
    split at h
    · obtain ⟨⟨y, q⟩, hy, e⟩ := Option.map_eq_some_iff.1 h
      cases e; have := ih _ _ _ hy; simp; omega
    split at h
    · obtain ⟨⟨y, q⟩, hy, e⟩ := Option.map_eq_some_iff.1 h
      cases e; have := ih _ _ _ hy; simp; omega
    split at h
    · split at h
      · rename_i x1 m l2 h1
        split at h
        · rename_i y1 e r1 h2
          split at h
          · obtain ⟨z, hz, e2⟩ := Option.map_eq_some_iff.1 h
            cases e2
            have := ih _ _ _ h1; have := ih _ _ _ h2; simp at *; omega
          · cases h
        · cases h
      · cases h
    · cases h
/-- More fuel than bytes changes nothing. -/
theorem readS_more (t : Int) : ∀ (n m : Nat) (l : List Nat), l.length ≤ n → l.length ≤ m → readS t n l = readS t m l
  | 0, 0, _, _, _ => rfl
  | 0, m + 1, l, h, _ => by
    have : l = [] := List.eq_nil_of_length_eq_zero (by omega)
    subst this; rfl
  | n + 1, 0, l, _, h => by
    have : l = [] := List.eq_nil_of_length_eq_zero (by omega)
    subst this; rfl
  | n + 1, m + 1, [], _, _ => rfl
  | n + 1, m + 1, c :: l, hn, hm => by
    simp only [List.length_cons] at hn hm
    have e1 := readS_more t n m l (by omega) (by omega)
    have e2 : ∀ x m' l2, readS t m l = some (x, m' :: l2) → readS t n l2 = readS t m l2 := fun x m' l2 h => by
      have := readS_less t m l x _ h
      simp only [List.length_cons] at this
      exact readS_more t n m l2 (by omega) (by omega)
    unfold readS
    rw [e1]
    rcases h : readS t m l with _ | ⟨x, _ | ⟨m', l2⟩⟩
    · rfl
    · rfl
    · simp only []
      rw [e2 x m' l2 h]
def textS : Sen → List Nat
  | .one => [49]
  | .zero => [48]
  | .thing i => [97 + i]
  | .no x => 33 :: textS x
  | .ask x => 63 :: textS x
  | .and_ x y => 40 :: (textS x ++ 38 :: (textS y ++ [41]))
  | .or_ x y => 40 :: (textS x ++ 124 :: (textS y ++ [41]))
  | .if_ x y => 40 :: (textS x ++ 62 :: (textS y ++ [41]))
theorem read_ok (t : Int) : ∀ (n : Nat) (l : List Nat) (x : Sen) (r : List Nat), readS t n l = some (x, r) → senOk t x = true ∧ l = textS x ++ r
  | 0, _, _, _, h => by cases h
  | _ + 1, [], _, _, h => by cases h
  | n + 1, c :: l, x, r, h => by
    have ih := read_ok t n
    unfold readS at h
    split at h
    · cases h; rename_i hc; subst hc; exact ⟨rfl, rfl⟩
    split at h
    · cases h; rename_i hc; subst hc; exact ⟨rfl, rfl⟩
    split at h
    · cases h; rename_i hc; exact ⟨by simp [senOk]; omega, by simp [textS]; omega⟩
    split at h
    · obtain ⟨⟨y, q⟩, hy, e⟩ := Option.map_eq_some_iff.1 h
      cases e; have := ih _ _ _ hy; rename_i hc; subst hc; exact ⟨this.1, by rw [this.2]; rfl⟩
    split at h
    · obtain ⟨⟨y, q⟩, hy, e⟩ := Option.map_eq_some_iff.1 h
      cases e; have := ih _ _ _ hy; rename_i hc; subst hc; exact ⟨this.1, by rw [this.2]; rfl⟩
    split at h
    · rename_i hc
      split at h
      · rename_i x1 m l2 h1
        split at h
        · rename_i y1 e r1 h2
          split at h
          · rename_i he
            obtain ⟨z, hz, e2⟩ := Option.map_eq_some_iff.1 h
            cases e2
            obtain ⟨a1, b1⟩ := ih _ _ _ h1
            obtain ⟨a2, b2⟩ := ih _ _ _ h2
            subst b1 b2 hc he
            unfold twoS at hz
            split at hz
            · cases hz; rename_i hm; subst hm; exact ⟨by simp [senOk, a1, a2], by simp [textS]⟩
            split at hz
            · cases hz; rename_i hm; subst hm; exact ⟨by simp [senOk, a1, a2], by simp [textS]⟩
            split at hz
            · cases hz; rename_i hm; subst hm; exact ⟨by simp [senOk, a1, a2], by simp [textS]⟩
            · cases hz
          · cases h
        · cases h
      · cases h
    · cases h
/-- The text of a sentence is read as the sentence, whatever stands behind it. -/
theorem read_text (t : Int) : ∀ (x : Sen) (n : Nat) (r : List Nat), senOk t x = true → t ≤ 26 → (textS x).length ≤ n → readS t n (textS x ++ r) = some (x, r)
  | .one, n + 1, r, _, _, _ => rfl
  | .zero, n + 1, r, _, _, _ => rfl
  | .thing i, n + 1, r, h, ht, _ => by
    simp only [senOk, decide_eq_true_eq] at h
    show readS t (n + 1) ((97 + i) :: r) = _
    unfold readS
    rw [if_neg (by omega), if_neg (by omega), if_pos (by omega)]
    congr 3; omega
  | .no x, n + 1, r, h, ht, hl => by
    simp only [textS, List.length_cons] at hl
    show readS t (n + 1) (33 :: (textS x ++ r)) = _
    unfold readS
    rw [if_neg (by omega), if_neg (by omega), if_neg (by omega), if_pos rfl, read_text t x n r h ht (by omega)]; rfl
  | .ask x, n + 1, r, h, ht, hl => by
    simp only [textS, List.length_cons] at hl
    show readS t (n + 1) (63 :: (textS x ++ r)) = _
    unfold readS
    rw [if_neg (by omega), if_neg (by omega), if_neg (by omega), if_neg (by omega), if_pos rfl, read_text t x n r h ht (by omega)]; rfl
  | .and_ x y, n + 1, r, h, ht, hl => by
    simp only [textS, List.length_cons, List.length_append, List.length_nil] at hl
    simp only [senOk, Bool.and_eq_true] at h
    show readS t (n + 1) (40 :: ((textS x ++ 38 :: (textS y ++ [41])) ++ r)) = _
    have e : (textS x ++ 38 :: (textS y ++ [41])) ++ r = textS x ++ (38 :: (textS y ++ (41 :: r))) := by simp
    rw [e]
    unfold readS
    rw [if_neg (by omega), if_neg (by omega), if_neg (by omega), if_neg (by omega), if_neg (by omega), if_pos rfl, read_text t x n _ h.1 ht (by omega)]
    simp only []
    rw [read_text t y n _ h.2 ht (by omega)]; rfl
  | .or_ x y, n + 1, r, h, ht, hl => by
    simp only [textS, List.length_cons, List.length_append, List.length_nil] at hl
    simp only [senOk, Bool.and_eq_true] at h
    show readS t (n + 1) (40 :: ((textS x ++ 124 :: (textS y ++ [41])) ++ r)) = _
    have e : (textS x ++ 124 :: (textS y ++ [41])) ++ r = textS x ++ (124 :: (textS y ++ (41 :: r))) := by simp
    rw [e]
    unfold readS
    rw [if_neg (by omega), if_neg (by omega), if_neg (by omega), if_neg (by omega), if_neg (by omega), if_pos rfl, read_text t x n _ h.1 ht (by omega)]
    simp only []
    rw [read_text t y n _ h.2 ht (by omega)]; rfl
  | .if_ x y, n + 1, r, h, ht, hl => by
    simp only [textS, List.length_cons, List.length_append, List.length_nil] at hl
    simp only [senOk, Bool.and_eq_true] at h
    show readS t (n + 1) (40 :: ((textS x ++ 62 :: (textS y ++ [41])) ++ r)) = _
    have e : (textS x ++ 62 :: (textS y ++ [41])) ++ r = textS x ++ (62 :: (textS y ++ (41 :: r))) := by simp
    rw [e]
    unfold readS
    rw [if_neg (by omega), if_neg (by omega), if_neg (by omega), if_neg (by omega), if_neg (by omega), if_pos rfl, read_text t x n _ h.1 ht (by omega)]
    simp only []
    rw [read_text t y n _ h.2 ht (by omega)]; rfl
  | .one, 0, _, _, _, hl => by simp [textS] at hl
  | .zero, 0, _, _, _, hl => by simp [textS] at hl
  | .thing _, 0, _, _, _, hl => by simp [textS] at hl
  | .no _, 0, _, _, _, hl => by simp [textS] at hl
  | .ask _, 0, _, _, _, hl => by simp [textS] at hl
  | .and_ _ _, 0, _, _, _, hl => by simp [textS] at hl
  | .or_ _ _, 0, _, _, _, hl => by simp [textS] at hl
  | .if_ _ _, 0, _, _, _, hl => by simp [textS] at hl
/-- The sentence of a text. -/
def senOf (t : Int) (l : List Nat) : Option Sen :=
  if 1 ≤ t ∧ t ≤ 3 ∧ l.length ≤ 60 then (match readS t l.length l with | some (x, []) => some x | _ => none) else none
theorem senOf_iff {t : Int} {l : List Nat} {x : Sen} : senOf t l = some x ↔ (1 ≤ t ∧ t ≤ 3 ∧ l.length ≤ 60 ∧ senOk t x = true ∧ l = textS x) := by
  unfold senOf
  constructor
  · intro h
    split at h
    · rename_i hc
      split at h
      · rename_i y hy
        cases h
        have := read_ok t _ _ _ _ hy
        simp at this
        exact ⟨hc.1, hc.2.1, hc.2.2, this.1, this.2⟩
      · cases h
    · cases h
  · rintro ⟨h1, h3, hl, hs, rfl⟩
    rw [if_pos ⟨h1, h3, hl⟩]
    have := read_text t x (textS x).length [] hs (by omega) (Nat.le_refl _)
    rw [List.append_nil] at this
    rw [this]

end Go.Proofs.Ytmdpolllmipppaa

namespace Go.Proofs.Ytmdpolllmipppaa
open Go.RowKit Go.Shelf
attribute [local go_sem] Oper.semAt_some

theorem and_mod2 (a b : Nat) : (a &&& b) % 2 = (a % 2) &&& (b % 2) := by simpa using Nat.and_mod_two_pow (a := a) (b := b) (n := 1)
/-- The greatest set within s below p, where p is one. -/
theorem sub_le : ∀ (p s u : Nat), p &&& s = p → u &&& s = u → u < p → u ≤ (p - 1) &&& s := by
  intro p
  induction p using Nat.strongRecOn with
  | _ p ih =>
    intro s u hp hu hlt
    have p2 : p / 2 &&& s / 2 = p / 2 := by rw [← Nat.and_div_two, hp]
    have u2 : u / 2 &&& s / 2 = u / 2 := by rw [← Nat.and_div_two, hu]
    have e2 : ((p - 1) &&& s) / 2 = (p - 1) / 2 &&& s / 2 := Nat.and_div_two
    have em := and_mod2 (p - 1) s
    have um := and_mod2 u s
    rw [hu] at um
    rcases Nat.mod_two_eq_zero_or_one p with h | h
    · have h1 : (p - 1) / 2 = p / 2 - 1 := by omega
      have h2 : (p - 1) % 2 = 1 := by omega
      have := ih (p / 2) (by omega) (s / 2) (u / 2) p2 u2 (by omega)
      rw [h1] at e2
      rw [h2] at em
      rw [← e2] at this
      rcases Nat.mod_two_eq_zero_or_one s with h3 | h3 <;> rcases Nat.mod_two_eq_zero_or_one u with h4 | h4 <;> rw [h3] at em um <;> rw [h4] at um <;>
        first | (have em : ((p - 1) &&& s) % 2 = 0 := em; omega) | (have em : ((p - 1) &&& s) % 2 = 1 := em; omega) | (exfalso; revert um; decide)
    · have h1 : (p - 1) / 2 = p / 2 := by omega
      rw [h1, p2] at e2
      omega
theorem within_nat {a b : Int} (ha : 0 ≤ a) (h : withinB a b = true) : a.toNat &&& b.toNat = a.toNat := by
  have := of_decide_eq_true h
  unfold andI at this
  omega
theorem subs_next {s p u : Int} (hp : withinB p s = true) (h0 : 0 < p) (hu0 : 0 ≤ u) (hu : withinB u s = true) (hlt : u < p) : u ≤ andI (p - 1) s := by
  have := sub_le p.toNat s.toNat u.toNat (within_nat (by omega) hp) (within_nat hu0 hu) (by omega)
  have e : (p - 1).toNat = p.toNat - 1 := by omega
  unfold andI
  rw [e]
  omega

abbrev Sub (s : Int) := { x : Int // 0 ≤ x ∧ x ≤ s ∧ withinB x s = true }
/-- All sets within s have come. -/
def FullS (s : Int) (xs : List (Sub s)) : Prop := ∀ u : Sub s, u ∈ xs
def FromS (s p : Int) (xs : List (Sub s)) : Prop := ∀ u : Sub s, p < u.1 → u ∈ xs
theorem fromS_start (s : Int) : FromS s s [] := fun u h => by have := u.2; omega
theorem fromS_next {s p : Int} {pre : List (Sub s)} (hp : 0 ≤ p ∧ p ≤ s ∧ withinB p s = true) (h0 : 0 < p) (h : FromS s p pre) : FromS s (andI (p - 1) s) (pre ++ [⟨p, hp⟩]) := by
  intro u hu
  rcases Int.lt_or_le p u.1 with h1 | h1
  · exact List.mem_append.2 (.inl (h u h1))
  · by_cases e : u.1 = p
    · exact List.mem_append.2 (.inr (by rw [List.mem_singleton]; exact Subtype.ext e))
    · have := subs_next hp.2.2 h0 u.2.1 u.2.2.2 (by omega)
      omega
theorem fromS_end {s p : Int} {pre : List (Sub s)} (hp : 0 ≤ p ∧ p ≤ s ∧ withinB p s = true) (h0 : ¬ 0 < p) (h : FromS s p pre) : FullS s (pre ++ [⟨p, hp⟩]) := by
  intro u
  rcases Int.lt_or_le p u.1 with h1 | h1
  · exact List.mem_append.2 (.inl (h u h1))
  · exact List.mem_append.2 (.inr (by rw [List.mem_singleton]; exact Subtype.ext (by have := u.2.1; show u.1 = p; omega)))

set_option maxRecDepth 100000 in
set_option maxHeartbeats 2000000 in
theorem iSetsWithin1 (n : Nat) (hn : 1 ≤ n) (l Bn : Nat) (s : Int) (hs0 : 0 ≤ s) (hs : s < 256) (J Jx : List (Sub s) → World → Prop)
    (hY : ∀ pre x W, J pre W → pre.length < (s + 1).toNat → YieldAt Fence.wide (n - 1) Try.prog l #[.int .i64 x.1] W fun e W' =>
      (e = .returned (.bool true) ∧ J (pre ++ [x]) W' ∧ W'.heap[Bn]? = W.heap[Bn]?) ∨ (e = .returned (.bool false) ∧ Jx (pre ++ [x]) W'))
    (W : World) (hBn : W.cell? ⟨Bn, 0, none⟩ = some (.int .i64 s)) (h0 : J [] W) :
    CallsIn Fence.wide n Try.prog 120 #[.func (.yield l) #[] #[], .pointer (some ⟨Bn, 0, none⟩)] W fun e W' => (∃ v, e = .returned v) ∧
      ((∃ xs, FullS s xs ∧ J xs W') ∨ (∃ pre, True ∧ Jx pre W')) := by
  have HY : Hid _ := Lib.hid hY
  clear hY
  refine callsIn_of_wp Try.func120 rfl trivial ?_ rfl
  simp only [Try.ntmps120, List.size_toArray, List.length_cons, List.length_nil, Nat.reduceAdd, Nat.reduceSub, Array.replicate_succ, Array.replicate_zero, List.push_toArray, List.append_toArray, List.nil_append, List.cons_append]
  gi_wp2
  have HF : Hid (FromS s s []) := fromS_start s
  have HW : Hid (withinB s s = true) := within_refl s hs0
  gi_loopw [3] (fun v wr => ∃ (pre : List (Sub s)) (p : Int), v = .int .i64 p ∧ 0 ≤ p ∧ p ≤ s ∧ Hid (withinB p s = true) ∧ Hid (FromS s p pre) ∧ pre.length + p.toNat ≤ s.toNat ∧ wr.cell? ⟨Bn, 0, none⟩ = some (.int .i64 s) ∧ Hid (J pre wr))
    (fun v _ => (Go.RowKit.intOf v).toNat)
  case atStart => exact ⟨[], s, rfl, hs0, Int.le_refl _, HW, HF, by simp, hBn, h0⟩
  case round =>
    obtain ⟨pre, p, rfl, hp0, hps, hpw, hfrom, hlen, hcs, hJ⟩ := hrel
    obtain ⟨fn, tmps, assign, body, hy, hR⟩ := HY.out pre ⟨p, hp0, hps, hpw.out⟩ wr hJ.out (by omega)
    clear HF HW hBn h0
    by_cases hz : 0 < p
    · have HN := Lib.hid (fromS_next ⟨hp0, hps, hpw.out⟩ hz hfrom.out)
      have HBI := Lib.hid (bits_and (p - 1) s (by omega) (by omega) hs0 (by omega))
      have hle := andI_le (p - 1) s (by omega)
      have hge := andI_nonneg (p - 1) s
      have HWI := Lib.hid (within_andI_right (p - 1) s)
      clear hfrom hJ
      gi_wp2
      refine hR.mono ?_
      rintro e W3 (⟨rfl, hJ3, hk3⟩ | ⟨rfl, hJx3⟩)
      · have hc3 : W3.cell? ⟨Bn, 0, none⟩ = some (.int .i64 s) := (World.cell?_of_block hk3).trans hcs
        have HJ3 := Lib.hid hJ3
        clear hJ3 hk3 hcs
        gi_wp2
        rw [HBI.out]
        go_roundw
        case rel => exact ⟨_, andI (p - 1) s, rfl, hge, by omega, HWI, HN, by rw [List.length_append]; simp; omega, hc3, HJ3⟩
        case measure => simp [Go.RowKit.intOf]; omega
      · have HJx3 := Lib.hid hJx3
        clear hJx3
        gi_wp2
        go_end0
        exact ⟨⟨_, rfl⟩, .inr ⟨_, trivial, HJx3.out⟩⟩
    · have HN := Lib.hid (fromS_end ⟨hp0, hps, hpw.out⟩ hz hfrom.out)
      clear hfrom hJ
      gi_wp2
      refine hR.mono ?_
      rintro e W3 (⟨rfl, hJ3, hk3⟩ | ⟨rfl, hJx3⟩)
      · have HJ3 := Lib.hid hJ3
        clear hJ3 hk3 hcs
        gi_wp2
        go_end0
        exact ⟨⟨_, rfl⟩, .inl ⟨_, HN.out, HJ3.out⟩⟩
      · have HJx3 := Lib.hid hJx3
        clear hJx3
        gi_wp2
        go_end0
        exact ⟨⟨_, rfl⟩, .inr ⟨_, trivial, HJx3.out⟩⟩
end Go.Proofs.Ytmdpolllmipppaa

namespace Go.Proofs.Ytmdpolllmipppaa
open Go.RowKit Go.Shelf
attribute [local go_sem] Oper.semAt_some

/-- The slice at ⟨b, o⟩ of n bools tells f of every set within s. -/
def Told (w : World) (b o n : Nat) (s : Int) (f : Int → Bool) : Prop :=
  b < w.heap.size ∧ ∀ u : Int, 0 ≤ u → withinB u s = true → u < n ∧ w.cell? ⟨b, o + u.toNat, none⟩ = some (.bool (f u))
theorem Told.below {w w' : World} {b o n : Nat} {s : Int} {f : Int → Bool} (h : Told w b o n s f) (hb : Below w.heap.size w w') : Told w' b o n s f :=
  ⟨Nat.lt_of_lt_of_le h.1 hb.size, fun u h0 hu => ⟨(h.2 u h0 hu).1, (hb.cell (p := ⟨b, o + u.toNat, none⟩) h.1).trans (h.2 u h0 hu).2⟩⟩
theorem Told.sub {w : World} {b o n : Nat} {s s2 : Int} {f : Int → Bool} (h : Told w b o n s f) (hs0 : 0 ≤ s2) (hs : withinB s2 s = true) : Told w b o n s2 f :=
  ⟨h.1, fun u h0 hu => h.2 u h0 (within_trans h0 hs0 hu hs)⟩

theorem iSetsWithin (n : Nat) (s : Int) (w : World) :
    CallsIn Fence.wide n Try.prog 111 #[.int .i64 s] w fun e w' => e = .returned (.func (.func 120) #[] #[.pointer (some ⟨w.heap.size, 0, none⟩)]) ∧ w' = w.alloc (.cells #[.int .i64 s] 3) := by
  refine callsIn_of_wp Try.func111 rfl trivial ?_ rfl
  simp only [Try.ntmps111, List.size_toArray, List.length_cons, List.length_nil, Nat.reduceAdd, Nat.reduceSub, Array.replicate_succ, Array.replicate_zero, List.push_toArray, List.append_toArray, List.nil_append, List.cons_append]
  gi_wp2
  go_ret
  exact ⟨rfl, rfl⟩
theorem iSets_stops (n : Nat) (hn : 1 ≤ n) (Bn : Nat) (s : Int) (hs0 : 0 ≤ s) (hs : s < 256) (w : World) (hBn : Bn < w.heap.size) (hc : w.cell? ⟨Bn, 0, none⟩ = some (.int .i64 s)) :
    SeqStopsK Fence.wide n Try.prog 120 #[.pointer (some ⟨Bn, 0, none⟩)] (fun x : Sub s => #[Value.int .i64 x.1]) (fun W W' => W'.heap[Bn]? = W.heap[Bn]?) (FullS s) (fun _ => True) (s + 1).toNat w := fun l J Jx W hW _ _ hY h0 =>
  iSetsWithin1 n hn l Bn s hs0 hs J Jx hY W ((hW.cell (p := ⟨Bn, 0, none⟩) hBn).trans hc) h0
theorem kept_t {Bn : Nat} {A B C : World} (h : B.heap[Bn]? = A.heap[Bn]?) (k : C.heap[Bn]? = B.heap[Bn]?) : C.heap[Bn]? = A.heap[Bn]? := k.trans h
theorem kept_b {Bn : Nat} {w : World} (hn : Bn < w.heap.size) (W : World) (l : Nat) (o o' : Obj) (hl : w.heap.size ≤ l) (_ : W.heap[l]? = some o) (_ : o.isCells = false) (_ : o.isWalk = false) : (W.putObj l o').heap[Bn]? = W.heap[Bn]? :=
  World.putObj_heap_other (by omega)

def ifB (s : Int) (f g : Int → Bool) : Bool := (List.range (s.toNat + 1)).all fun u : Nat => !withinB (u : Int) s || !f (u : Int) || g (u : Int)
theorem ifB_miss {s : Int} {f g : Int → Bool} (u : Sub s) (h1 : f u.1 = true) (h2 : g u.1 = false) : ifB s f g = false := by
  unfold ifB
  rw [List.all_eq_false]
  refine ⟨u.1.toNat, List.mem_range.2 (by have := u.2; omega), ?_⟩
  rw [Int.toNat_of_nonneg u.2.1, u.2.2.2, h1, h2]; decide
theorem ifB_full {s : Int} {f g : Int → Bool} (hs : 0 ≤ s) {xs : List (Sub s)} (hx : FullS s xs) (h : ∀ y ∈ xs, (f y.1 && !g y.1) = false) : ifB s f g = true := by
  unfold ifB
  rw [List.all_eq_true]
  intro u hu
  rw [List.mem_range] at hu
  cases hw : withinB (u : Int) s
  · rfl
  · have := h ⟨(u : Int), by omega, within_le hw hs, hw⟩ (hx _)
    revert this
    cases f (u : Int) <;> cases g (u : Int) <;> simp

theorem pre_snoc {s : Int} {f g : Int → Bool} {pre : List (Sub s)} {x : Sub s} (h : ∀ y ∈ pre, (f y.1 && !g y.1) = false) (hx : (f x.1 && !g x.1) = false) : ∀ y ∈ pre ++ [x], (f y.1 && !g y.1) = false := by
  intro y hy
  rcases List.mem_append.1 hy with e | e
  · exact h y e
  · rw [List.mem_singleton] at e; subst e; exact hx
theorem box_keep {W W' : World} {row : Option Nat} {B : Nat} {t : TypeId} {v : Value} (h : Boxed W B t v) (hg : W.grownBy W' row) (hr : ∀ r, row = some r → ∃ o : Obj, W.heap[r]? = some o ∧ o.isCells = false) : Boxed W' B t v :=
  h.kept hg (fun e => by obtain ⟨o, ho, hc⟩ := hr B e.symm; rw [show W.heap[B]? = _ from h] at ho; cases ho; cases hc)
theorem Boxed.below {W W' : World} {B : Nat} {t : TypeId} {v : Value} (h : Boxed W B t v) (hb : Below W.heap.size W W') : Boxed W' B t v := (hb.block B h.lt).trans h
theorem box_putObj {W : World} {B : Nat} {t : TypeId} {v : Value} (h : Boxed W B t v) {D : Nat} {o : Obj} (o' : Obj) (hD : W.heap[D]? = some o) (ho : o.isCells = false) : Boxed (W.putObj D o') B t v :=
  box_keep h (grownBy_putObj' W D o') (fun r e => by cases e; exact ⟨o, hD, ho⟩)

set_option maxRecDepth 100000 in
set_option maxHeartbeats 4000000 in
theorem iCarriesOver (s : Int) (b1 o1 n1 c1 b2 o2 n2 c2 : Nat) (f g : Int → Bool) (w : World) (hs0 : 0 ≤ s) (hs : s < 256) (h1 : Told w b1 o1 n1 s f) (h2 : Told w b2 o2 n2 s g) :
    Calls Try.prog 122 #[.int .i64 s, .slice (some ⟨b1, o1, none⟩) n1 c1, .slice (some ⟨b2, o2, none⟩) n2 c2] w fun e w' => e = .returned (.bool (ifB s f g)) ∧ Below w.heap.size w w' := by
  refine (callsIn_wide (n := 5)).1 ?_
  have HT1 := Lib.hid h1
  have HT2 := Lib.hid h2
  clear h1 h2
  refine callsIn_of_wp_marks Try.func122 rfl trivial ?_ rfl
  simp only [Try.ntmps122, List.size_toArray, List.length_cons, List.length_nil, Nat.reduceAdd, Nat.reduceSub, Array.replicate_succ, Array.replicate_zero, List.push_toArray, List.append_toArray, List.nil_append, List.cons_append]
  gi_wp2_with (refine ⟨trivial, ?_⟩; gi_at_call 111; refine (iSetsWithin _ _ _).mono ?_; rintro e w' ⟨rfl, rfl⟩)
  have x0 := Boxed.new w 89 (.slice (some ⟨b1, o1, none⟩) n1 c1)
  have x1 := Boxed.new (w.alloc (.cells #[.slice (some ⟨b1, o1, none⟩) n1 c1] 89)) 89 (.slice (some ⟨b2, o2, none⟩) n2 c2)
  have x2 := Boxed.new ((w.alloc (.cells #[.slice (some ⟨b1, o1, none⟩) n1 c1] 89)).alloc (.cells #[.slice (some ⟨b2, o2, none⟩) n2 c2] 89)) 4 (.bool false)
  have x3 := Boxed.new (((w.alloc (.cells #[.slice (some ⟨b1, o1, none⟩) n1 c1] 89)).alloc (.cells #[.slice (some ⟨b2, o2, none⟩) n2 c2] 89)).alloc (.cells #[.bool false] 4)) 3 (.int .i64 s)
  simp only [World.size_alloc] at x1 x2 x3
  have hB0 : Below w.heap.size w ((((w.alloc (.cells #[.slice (some ⟨b1, o1, none⟩) n1 c1] 89)).alloc (.cells #[.slice (some ⟨b2, o2, none⟩) n2 c2] 89)).alloc (.cells #[.bool false] 4)).alloc (.cells #[.int .i64 s] 3)) := ((((Below.refl _ w).alloc (Nat.le_refl _) _).alloc (by simp) _).alloc (by simp; omega) _).alloc (by simp; omega) _
  refine wpIn_rangeFunc_ownF rfl (by decide) (gf := 120) (lb := #[.pointer (some ⟨w.heap.size + 1 + 1 + 1, 0, none⟩)]) rfl trivial (enters_of Try.func120 (by kernel_rfl) rfl)
    (iSets_stops 4 (by decide) (w.heap.size + 1 + 1 + 1) s hs0 hs _ (by simp) x3.cell) (fun h k => kept_t h k) (kept_b (by simp)) (Below.refl _ _) (fun _ => rfl)
    (fun pre W => ((∀ y ∈ pre, (f y.1 && !g y.1) = false) ∧ Boxed W w.heap.size 89 (.slice (some ⟨b1, o1, none⟩) n1 c1) ∧ Boxed W (w.heap.size + 1) 89 (.slice (some ⟨b2, o2, none⟩) n2 c2) ∧ Boxed W (w.heap.size + 1 + 1) 4 (.bool false)) ∧ Below w.heap.size w W)
    (fun c pre W => (c = .ret ∧ ifB s f g = false ∧ Boxed W (w.heap.size + 1 + 1) 4 (.bool false)) ∧ Below w.heap.size w W)
    (OwnFrom.and (Own.from (fun s A B row hs hg hr => ⟨hs.1, box_keep hs.2.1 hg hr, box_keep hs.2.2.1 hg hr, box_keep hs.2.2.2 hg hr⟩) _) (ownFrom_below (Nat.le_refl _) (by simp; omega)))
    (fun c => OwnFrom.and (Own.from (fun s A B row hs hg hr => ⟨hs.1, hs.2.1, box_keep hs.2.2 hg hr⟩) _) (ownFrom_below (Nat.le_refl _) (by simp; omega)))
    ⟨⟨by simp, ((x0.alloc _).alloc _).alloc _, (x1.alloc _).alloc _, x2.alloc _⟩, hB0⟩
    (fun x => { tmps := #[.int .i64 s, .slice (some ⟨b1, o1, none⟩) n1 c1, .slice (some ⟨b2, o2, none⟩) n2 c2, undef, .pointer (some ⟨w.heap.size, 0, none⟩), .pointer (some ⟨w.heap.size + 1, 0, none⟩), .pointer (some ⟨w.heap.size + 1 + 1, 0, none⟩), .int .i64 x.1, .int .i64 s, .func (.func 120) #[] #[.pointer (some ⟨w.heap.size + 1 + 1 + 1, 0, none⟩)], .int .i64 x.1, undef, undef, undef, undef, undef, undef, undef, undef, undef, undef, undef], defers := [] }) ?assign ?body ?done ?stop
  case assign =>
    intro l x W K hK
    gi_wp2
    exact hK
  case body =>
    rintro l pre x W ⟨⟨hp, hx1, hx2, hxr⟩, hB⟩ _
    have hc1 := hx1.cell
    have hc2 := hx2.cell
    have hcr := hxr.cell
    have hfr := hxr.frozen
    obtain ⟨hl1, ht1⟩ := (HT1.out.below hB).2 x.1 x.2.1 x.2.2.2
    obtain ⟨hl2, ht2⟩ := (HT2.out.below hB).2 x.1 x.2.1 x.2.2.2
    have hxa := x.2.1
    have hxb := x.2.2.1
    cases hf : f x.1 <;> cases hg : g x.1 <;> rw [hf] at ht1 <;> rw [hg] at ht2
    all_goals
      have HP := Lib.hid hp
      have HF := Lib.hid hf
      have HG := Lib.hid hg
      clear hp hf hg
      gi_wp2
      first
        | exact ⟨KeepsOthers.refl _, rfl, ⟨pre_snoc HP.out (by rw [HF.out, HG.out]; rfl), hx1, hx2, hxr⟩, hB⟩
        | exact ⟨KeepsOthers.setCell _ _ _, ⟨rfl, ifB_miss x HF.out HG.out, hxr.set _⟩, hB.setCell (p := ⟨w.heap.size + 1 + 1, 0, none⟩) (by simp; omega) _⟩
  case done =>
    rintro D ys W hD hfull ⟨⟨hne, _, _, hxr⟩, hB⟩ hK
    have hcr := hxr.cell
    have hfr := hxr.frozen
    have HE := Lib.hid (ifB_full hs0 hfull hne)
    clear hne hfull
    gi_wp2
    have hK' := (KeepsOthers.setCell W ⟨w.heap.size + 1 + 1, 0, none⟩ (.bool true)).same D _ hK rfl
    refine ⟨by simp, .inl ⟨_, _, rfl, run_takeDeferred hK', ?_⟩⟩
    have hc5 := (box_putObj (hxr.set (.bool true)) (.deferred none) hK' rfl).cell
    refine ⟨.bool true, ?_, by rw [HE.out], (hB.setCell (p := ⟨w.heap.size + 1 + 1, 0, none⟩) (by simp; omega) _).trans (belowK_b (w := w) (Nat.le_refl _) _ D _ _ (by simp at hD; omega) hK' rfl rfl)⟩
    simp [results, Try.f122, go_sem, hc5]
  case stop =>
    rintro D c pre W hD hpre ⟨⟨rfl, hin, hxr⟩, hB⟩ hK
    gi_wp2
    refine ⟨by simp, .inl ⟨_, _, rfl, run_takeDeferred hK, ?_⟩⟩
    have hc5 := (box_putObj hxr (.deferred none) hK rfl).cell
    refine ⟨.bool false, ?_, by rw [hin], hB.trans (belowK_b (w := w) (Nat.le_refl _) W D _ _ (by simp at hD; omega) hK rfl rfl)⟩
    simp [results, Try.f122, go_sem, hc5]
end Go.Proofs.Ytmdpolllmipppaa

namespace Go.Proofs.Ytmdpolllmipppaa
open Go.RowKit

def bitOf (c k : Nat) : Bool := decide (c = 49) || (!decide (c = 48) && decide (k / 2 ^ (c - 97) % 2 = 1))
def wordTo (c : Nat) : Nat → Nat
  | 0 => 0
  | k + 1 => wordTo c k ||| (if bitOf c k = true then 2 ^ k else 0)
def isWord (c : Nat) : Prop := c = 48 ∨ c = 49 ∨ c = 97 ∨ c = 98 ∨ c = 99
def wNext (c k v : Nat) : Prop := v = wordTo c (k + 1)

set_option maxRecDepth 100000 in
set_option maxHeartbeats 4000000 in
theorem iWorldsOfWord (t : Int) (n : Nat) (hn : worldsOf t = (n : Int)) (hn8 : n ≤ 8) (c : Nat) (w : World) (hc : isWord c) :
    Calls Try.prog 84 #[.int .i64 t, .int .u8 c] w fun e w' => e = .returned (.int .i64 (wordTo c n)) ∧ w = w' := by
  have HN := Lib.hid hn
  clear hn
  go_enter Try.func84, Try.ntmps84
  go_wp2_with (go_at_call 56; refine (iWorldsOf _ _).mono ?_; rintro e w' ⟨rfl, rfl⟩)
  rw [HN.out]
  go_loop [5, 9] (fun v i => ∃ k : Nat, k ≤ n ∧ i = .int .i64 k ∧ v = .int .i64 (wordTo c k)) (fun _ i => n - (Go.RowKit.intOf i).toNat)
  case atStart => exact ⟨0, Nat.zero_le _, rfl, rfl⟩
  case round =>
    obtain ⟨k, hk, rfl, rfl⟩ := hrel
    by_cases hlt : k < n
    · have h8 : k = 0 ∨ k = 1 ∨ k = 2 ∨ k = 3 ∨ k = 4 ∨ k = 5 ∨ k = 6 ∨ k = 7 := by omega
      have hs : k + 1 ≤ n := hlt
      have HS := Lib.hid hs
      have HL : Hid ((k : Int) < (n : Int)) := by unfold Hid; omega
      clear hk hs hlt hn8
      rcases hc with rfl | rfl | rfl | rfl | rfl <;> rcases h8 with rfl | rfl | rfl | rfl | rfl | rfl | rfl | rfl
      all_goals
        have hlt := HL.out
        go_wp2
        refine ⟨⟨_, HS.out, rfl, by rfl⟩, ?_⟩
        clear HS HL
        simp [Go.RowKit.intOf]
        omega
    · obtain rfl : k = n := by omega
      go_wp2
      go_ret
      exact ⟨rfl, rfl⟩
end Go.Proofs.Ytmdpolllmipppaa
