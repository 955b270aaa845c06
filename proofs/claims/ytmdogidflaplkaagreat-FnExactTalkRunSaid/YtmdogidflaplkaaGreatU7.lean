/-
  What the proofs of this seat's statements share (TogL, TogS).
-/
import Derived.WalkSmall
import Derived.Deep.AppendLies
import Derived.Deep.RegionLaw
import Derived.Test.YtmdogidflaplkaaGreatU6

namespace Go.Proofs.YtmdogidflaplkaaGreat
open Go.RowKit

theorem either_nil {t : Int} {a b : List Int} (h : okTwo t a b = false) : eitherL t a b = [] := by
  unfold okTwo at h; unfold eitherL; rw [h]; rfl
theorem if_nil {t : Int} {a b : List Int} (h : okTwo t a b = false) : ifL t a b = [] := by
  unfold okTwo at h; unfold ifL; rw [h]; rfl
theorem not_nil {t : Int} {a : List Int} (h : issueOkB t a = false) : notL t a = [] := by unfold notL; rw [h]; rfl
theorem whether_all {t : Int} {a : List Int} : whetherL t a = eitherL t a (notL t a) := by
  unfold whetherL
  cases h : issueOkB t a
  · unfold eitherL; rw [h]; rfl
  · rfl

theorem two_cells (w : World) (u v : Value) (t : TypeId) : (w.alloc (.cells #[u, v] t)).cell? ⟨w.heap.size, 0, none⟩ = some u ∧ (w.alloc (.cells #[u, v] t)).cell? ⟨w.heap.size, 1, none⟩ = some v :=
  ⟨cell_two_new w u v t 0 u rfl, cell_two_new w u v t 1 v rfl⟩
set_option maxRecDepth 100000 in
set_option maxHeartbeats 2000000 in
theorem iEitherIssue (t : Int) (A B : Option Addr) (na ca nb cb : Nat) (a b : List Int) (w : World) (ha : Row w A na ca a) (hb : Row w B nb cb b) :
    Calls Tryz.prog 125 #[.int .i64 t, .slice A na ca, .slice B nb cb] w fun e w' => ∃ v, e = .returned v ∧ Owns w' w.heap.size v (eitherL t a b) ∧ Below w.heap.size w w' := by
  have HA := Lib.hid ha
  have HB := Lib.hid hb
  obtain rfl := ha.hn
  obtain rfl := hb.hn
  clear ha hb
  obtain ⟨x, HX⟩ : ∃ x, Hid (okTwo t a b = x) := ⟨_, rfl⟩
  cases x
  · have HF := Lib.hid (either_nil HX.out)
    go_enter Tryz.func125, Tryz.ntmps125
    go_wp2_with fail
    refine (iIssuesOk_is HX HA.out HB.out).mono ?_
    rintro e w' ⟨rfl, m1, rfl⟩
    go_wp2_with fail
    go_ret
    exact ⟨_, rfl, by rw [HF.out]; exact Owns.nil _ _, bel_drewN (Below.refl _ _) _⟩
  · obtain ⟨h1, h2⟩ := okTwo_ok HX.out
    obtain ⟨hla, hla2⟩ := issue_ne h1
    obtain ⟨hlb, hlb2⟩ := issue_ne h2
    have HF := Lib.hid (either_eq h1 h2)
    have HS := Lib.hid (sets_range (eitherX_sets h1 h2))
    clear h1 h2
    obtain ⟨ab, HAB⟩ : ∃ l, Hid (a ++ b = l) := ⟨_, rfl⟩
    have hpos : 1 ≤ ab.length := by rw [← HAB.out, List.length_append]; omega
    have hle : ab.length ≤ 1048576 := by rw [← HAB.out, List.length_append]; omega
    rw [HAB.out] at HF HS
    go_enter Tryz.func125, Tryz.ntmps125
    go_wp2_with fail
    refine (iIssuesOk_is HX HA.out HB.out).mono ?_
    rintro e w' ⟨rfl, m2, rfl⟩
    go_wp2_with fail
    have hbel : ∀ o, Below w.heap.size w ((w.drewN m2).alloc o) := fun o => (bel_drewN (Below.refl _ _) _).alloc (Nat.le_refl _) _
    refine (iConcat w.heap.size A B a.length ca b.length cb a b _ (by rw [World.size_alloc]; exact Nat.lt_succ_self _) (two_cells (w.drewN m2) _ _ _).1 (two_cells (w.drewN m2) _ _ _).2 (HA.out.below (hbel _)) (HB.out.below (hbel _)) hla hlb (by omega)).mono ?_
    rintro e w1 ⟨v, rfl, ho, hb⟩
    rw [HAB.out] at ho
    obtain ⟨A1, c1, rfl, hc1, hm1, hn1, _⟩ := ho.form
    have HN1 := Lib.hid hn1
    have HB1 := Lib.hid (hbel _ |>.trans (hb.mono (by rw [World.size_alloc]; exact Nat.le_succ _)))
    have hsz1 := HB1.out.size
    clear ho hb hm1 hn1 hbel
    go_wp2_with fail
    refine (iGreatest _ _ _ ab _ rfl hpos hle HS.out HN1.out).mono ?_
    rintro e w2 ⟨v, rfl, ho, hb⟩
    have HO2 := Lib.hid ho
    have HB2 := Lib.hid (bel_trans HB1.out hb)
    clear ho hb
    go_wp2_with fail
    go_ret
    exact ⟨_, rfl, by rw [HF.out]; exact HO2.out.base hsz1, HB2.out⟩

theorem if_next (a b : List Int) (k : Nat) : ifTo a b (k + 1) = ifTo a b k ++ (if goodB a b k = true then [(k : Int)] else []) := by
  unfold ifTo
  rw [List.range_succ, List.map_append, List.filter_append]
  simp only [List.map_cons, List.map_nil, List.filter_cons, List.filter_nil]
theorem if_len (a b : List Int) (k : Nat) : (ifTo a b k).length ≤ k := by
  unfold ifTo
  refine Nat.le_trans (List.length_filter_le _ _) (by simp)
theorem if_zero (a b : List Int) : ifTo a b 0 = [] := rfl
theorem ifTo_pos {t : Int} {a b : List Int} (_ : issueOkB t a = true) (hb : issueOkB t b = true) : 1 ≤ (ifTo a b (allOf t + 1).toNat).length := by
  refine List.length_pos_of_mem (a := 0) (mem_ifTo.2 ⟨by omega, by have := allOf_lt t; omega, good_zero hb⟩)
theorem iCarries_is {s : Int} {a b : List Int} {v : Bool} (h : Hid (goodB a b s = v)) (A B : Option Addr) (na ca nb cb : Nat) (w : World) (hs : 0 ≤ s) (hs2 : s < 256) (ha : Row w A na ca a) (hb : Row w B nb cb b) (hra : ∀ x ∈ a, 0 ≤ x ∧ x < 256) (hrb : ∀ x ∈ b, 0 ≤ x ∧ x < 256) :
    Calls Tryz.prog 134 #[.int .i64 s, .slice A na ca, .slice B nb cb] w fun e w' => e = .returned (.bool v) ∧ w = w' :=
  (iCarries s A B na ca nb cb a b w hs hs2 ha hb hra hrb).mono fun _ _ ⟨he, hw⟩ => ⟨he.trans (ret_bool h.out), hw⟩
set_option maxRecDepth 100000 in
set_option maxHeartbeats 4000000 in
theorem iIfIssue (t : Int) (A B : Option Addr) (na ca nb cb : Nat) (a b : List Int) (w : World) (ha : Row w A na ca a) (hb : Row w B nb cb b) :
    Calls Tryz.prog 126 #[.int .i64 t, .slice A na ca, .slice B nb cb] w fun e w' => ∃ v, e = .returned v ∧ Owns w' w.heap.size v (ifL t a b) ∧ Below w.heap.size w w' := by
  have HA := Lib.hid ha
  have HB := Lib.hid hb
  obtain rfl := ha.hn
  obtain rfl := hb.hn
  clear ha hb
  obtain ⟨x, HX⟩ : ∃ x, Hid (okTwo t a b = x) := ⟨_, rfl⟩
  cases x
  · have HF := Lib.hid (if_nil HX.out)
    go_enter Tryz.func126, Tryz.ntmps126
    go_wp2_with fail
    refine (iIssuesOk_is HX HA.out HB.out).mono ?_
    rintro e w' ⟨rfl, m1, rfl⟩
    go_wp2_with fail
    go_ret
    exact ⟨_, rfl, by rw [HF.out]; exact Owns.nil _ _, bel_drewN (Below.refl _ _) _⟩
  · obtain ⟨h1, h2⟩ := okTwo_ok HX.out
    have HRA := Lib.hid (issue_range h1)
    have HRB := Lib.hid (issue_range h2)
    have HF := Lib.hid (if_eq h1 h2)
    have HS := Lib.hid (sets_range (ifX_sets (b := b) h1))
    have hpos := ifTo_pos h1 h2
    obtain ⟨ht1, ht3⟩ := issue_things h1
    have ht : t = 1 ∨ t = 2 ∨ t = 3 := by omega
    clear h1 h2 ht1 ht3
    rcases ht with rfl | rfl | rfl
    · have HAL : Hid ((allOf 1 + 1).toNat = 4) := rfl
      rw [HAL.out] at HF HS hpos
      go_enter Tryz.func126, Tryz.ntmps126
      go_wp2_with fail
      refine (iIssuesOk_is HX HA.out HB.out).mono ?_
      rintro e w' ⟨rfl, m2, rfl⟩
      go_wp2_with fail
      refine (iWorldsOf _ _).mono ?_
      rintro e w' ⟨rfl, rfl⟩
      simp only [worldsOf]
      go_wp2_with fail
      go_loopw [7, 17] (fun v i wr => ∃ k : Nat, k ≤ 4 ∧ i = .int .i64 k ∧ Owns wr w.heap.size v (ifTo a b k) ∧ Below w.heap.size w wr) (fun _ i _ => 4 - (Go.RowKit.intOf i).toNat)
      case atStart => exact ⟨0, by omega, rfl, by rw [if_zero]; exact Owns.nil _ _, bel_drewN (Below.refl _ _) _⟩
      case round =>
        obtain ⟨k, hk, rfl, hown, hbel⟩ := hrel
        have HOW := Lib.hid hown
        have HBW := Lib.hid hbel
        clear hown hbel
        by_cases hlt : k < 4
        · have hkl := if_len a b k
          rcases hg : goodB a b (k : Int) with _ | _
          · have HG := Lib.hid hg
            have HT : Hid (ifTo a b (k + 1) = ifTo a b k) := by unfold Hid; rw [if_next, hg]; simp
            clear hg
            go_wp2_with fail
            refine (iCarries_is HG _ _ _ _ _ _ _ (by omega) (by omega) (HA.out.below HBW.out) (HB.out.below HBW.out) HRA.out HRB.out).mono ?_
            rintro e w' ⟨rfl, rfl⟩
            go_wp2_with fail
            go_roundw
            case rel => exact ⟨k + 1, by omega, by go_num, by rw [HT.out]; exact HOW.out, HBW.out⟩
            case measure => simp [Go.RowKit.intOf]; omega
          · have HG := Lib.hid hg
            have HT : Hid (ifTo a b (k + 1) = ifTo a b k ++ [(k : Int)]) := by unfold Hid; rw [if_next, hg]; simp
            clear hg
            go_wp2_with fail
            refine (iCarries_is HG _ _ _ _ _ _ _ (by omega) (by omega) (HA.out.below HBW.out) (HB.out.below HBW.out) HRA.out HRB.out).mono ?_
            rintro e w' ⟨rfl, rfl⟩
            go_wp2_with (at_builtin; refine wp_append1 (W := wr) rfl _ _ rfl w.heap.size u7 (ifTo a b k) rfl HOW.out (k : Int) rfl (by omega) HBW.out.size ?_; intro v' w' hown' hgrow)
            have hb' := below_append HBW.out HBW.out.size HOW.out (Nat.le_refl _) hgrow
            go_roundw
            case rel => exact ⟨k + 1, by omega, by go_num, by rw [HT.out]; exact hown', hb'⟩
            case measure => simp [Go.RowKit.intOf]; omega
        · obtain rfl : k = 4 := by omega
          have hle := if_len a b 4
          obtain ⟨A1, c1, rfl, hc1, hm1, hn1, _⟩ := HOW.out.form
          have HN1 := Lib.hid hn1
          clear hm1 hn1
          go_wp2_with fail
          refine (iGreatest _ _ _ (ifTo a b 4) _ rfl hpos (by omega) HS.out HN1.out).mono ?_
          rintro e w2 ⟨v, rfl, ho, hb⟩
          have HO2 := Lib.hid ho
          have HB2 := Lib.hid (bel_trans HBW.out hb)
          have hsz := HBW.out.size
          clear ho hb
          go_wp2_with fail
          go_ret
          exact ⟨_, rfl, by rw [HF.out]; exact HO2.out.base hsz, HB2.out⟩
    · have HAL : Hid ((allOf 2 + 1).toNat = 16) := rfl
      rw [HAL.out] at HF HS hpos
      go_enter Tryz.func126, Tryz.ntmps126
      go_wp2_with fail
      refine (iIssuesOk_is HX HA.out HB.out).mono ?_
      rintro e w' ⟨rfl, m3, rfl⟩
      go_wp2_with fail
      refine (iWorldsOf _ _).mono ?_
      rintro e w' ⟨rfl, rfl⟩
      simp only [worldsOf]
      go_wp2_with fail
      go_loopw [7, 17] (fun v i wr => ∃ k : Nat, k ≤ 16 ∧ i = .int .i64 k ∧ Owns wr w.heap.size v (ifTo a b k) ∧ Below w.heap.size w wr) (fun _ i _ => 16 - (Go.RowKit.intOf i).toNat)
      case atStart => exact ⟨0, by omega, rfl, by rw [if_zero]; exact Owns.nil _ _, bel_drewN (Below.refl _ _) _⟩
      case round =>
        obtain ⟨k, hk, rfl, hown, hbel⟩ := hrel
        have HOW := Lib.hid hown
        have HBW := Lib.hid hbel
        clear hown hbel
        by_cases hlt : k < 16
        · have hkl := if_len a b k
          rcases hg : goodB a b (k : Int) with _ | _
          · have HG := Lib.hid hg
            have HT : Hid (ifTo a b (k + 1) = ifTo a b k) := by unfold Hid; rw [if_next, hg]; simp
            clear hg
            go_wp2_with fail
            refine (iCarries_is HG _ _ _ _ _ _ _ (by omega) (by omega) (HA.out.below HBW.out) (HB.out.below HBW.out) HRA.out HRB.out).mono ?_
            rintro e w' ⟨rfl, rfl⟩
            go_wp2_with fail
            go_roundw
            case rel => exact ⟨k + 1, by omega, by go_num, by rw [HT.out]; exact HOW.out, HBW.out⟩
            case measure => simp [Go.RowKit.intOf]; omega
          · have HG := Lib.hid hg
            have HT : Hid (ifTo a b (k + 1) = ifTo a b k ++ [(k : Int)]) := by unfold Hid; rw [if_next, hg]; simp
            clear hg
            go_wp2_with fail
            refine (iCarries_is HG _ _ _ _ _ _ _ (by omega) (by omega) (HA.out.below HBW.out) (HB.out.below HBW.out) HRA.out HRB.out).mono ?_
            rintro e w' ⟨rfl, rfl⟩
            go_wp2_with (at_builtin; refine wp_append1 (W := wr) rfl _ _ rfl w.heap.size u7 (ifTo a b k) rfl HOW.out (k : Int) rfl (by omega) HBW.out.size ?_; intro v' w' hown' hgrow)
            have hb' := below_append HBW.out HBW.out.size HOW.out (Nat.le_refl _) hgrow
            go_roundw
            case rel => exact ⟨k + 1, by omega, by go_num, by rw [HT.out]; exact hown', hb'⟩
            case measure => simp [Go.RowKit.intOf]; omega
        · obtain rfl : k = 16 := by omega
          have hle := if_len a b 16
          obtain ⟨A1, c1, rfl, hc1, hm1, hn1, _⟩ := HOW.out.form
          have HN1 := Lib.hid hn1
          clear hm1 hn1
          go_wp2_with fail
          refine (iGreatest _ _ _ (ifTo a b 16) _ rfl hpos (by omega) HS.out HN1.out).mono ?_
          rintro e w2 ⟨v, rfl, ho, hb⟩
          have HO2 := Lib.hid ho
          have HB2 := Lib.hid (bel_trans HBW.out hb)
          have hsz := HBW.out.size
          clear ho hb
          go_wp2_with fail
          go_ret
          exact ⟨_, rfl, by rw [HF.out]; exact HO2.out.base hsz, HB2.out⟩
    · have HAL : Hid ((allOf 3 + 1).toNat = 256) := rfl
      rw [HAL.out] at HF HS hpos
      go_enter Tryz.func126, Tryz.ntmps126
      go_wp2_with fail
      refine (iIssuesOk_is HX HA.out HB.out).mono ?_
      rintro e w' ⟨rfl, m4, rfl⟩
      go_wp2_with fail
      refine (iWorldsOf _ _).mono ?_
      rintro e w' ⟨rfl, rfl⟩
      simp only [worldsOf]
      go_wp2_with fail
      go_loopw [7, 17] (fun v i wr => ∃ k : Nat, k ≤ 256 ∧ i = .int .i64 k ∧ Owns wr w.heap.size v (ifTo a b k) ∧ Below w.heap.size w wr) (fun _ i _ => 256 - (Go.RowKit.intOf i).toNat)
      case atStart => exact ⟨0, by omega, rfl, by rw [if_zero]; exact Owns.nil _ _, bel_drewN (Below.refl _ _) _⟩
      case round =>
        obtain ⟨k, hk, rfl, hown, hbel⟩ := hrel
        have HOW := Lib.hid hown
        have HBW := Lib.hid hbel
        clear hown hbel
        by_cases hlt : k < 256
        · have hkl := if_len a b k
          rcases hg : goodB a b (k : Int) with _ | _
          · have HG := Lib.hid hg
            have HT : Hid (ifTo a b (k + 1) = ifTo a b k) := by unfold Hid; rw [if_next, hg]; simp
            clear hg
            go_wp2_with fail
            refine (iCarries_is HG _ _ _ _ _ _ _ (by omega) (by omega) (HA.out.below HBW.out) (HB.out.below HBW.out) HRA.out HRB.out).mono ?_
            rintro e w' ⟨rfl, rfl⟩
            go_wp2_with fail
            go_roundw
            case rel => exact ⟨k + 1, by omega, by go_num, by rw [HT.out]; exact HOW.out, HBW.out⟩
            case measure => simp [Go.RowKit.intOf]; omega
          · have HG := Lib.hid hg
            have HT : Hid (ifTo a b (k + 1) = ifTo a b k ++ [(k : Int)]) := by unfold Hid; rw [if_next, hg]; simp
            clear hg
            go_wp2_with fail
            refine (iCarries_is HG _ _ _ _ _ _ _ (by omega) (by omega) (HA.out.below HBW.out) (HB.out.below HBW.out) HRA.out HRB.out).mono ?_
            rintro e w' ⟨rfl, rfl⟩
            go_wp2_with (at_builtin; refine wp_append1 (W := wr) rfl _ _ rfl w.heap.size u7 (ifTo a b k) rfl HOW.out (k : Int) rfl (by omega) HBW.out.size ?_; intro v' w' hown' hgrow)
            have hb' := below_append HBW.out HBW.out.size HOW.out (Nat.le_refl _) hgrow
            go_roundw
            case rel => exact ⟨k + 1, by omega, by go_num, by rw [HT.out]; exact hown', hb'⟩
            case measure => simp [Go.RowKit.intOf]; omega
        · obtain rfl : k = 256 := by omega
          have hle := if_len a b 256
          obtain ⟨A1, c1, rfl, hc1, hm1, hn1, _⟩ := HOW.out.form
          have HN1 := Lib.hid hn1
          clear hm1 hn1
          go_wp2_with fail
          refine (iGreatest _ _ _ (ifTo a b 256) _ rfl hpos (by omega) HS.out HN1.out).mono ?_
          rintro e w2 ⟨v, rfl, ho, hb⟩
          have HO2 := Lib.hid ho
          have HB2 := Lib.hid (bel_trans HBW.out hb)
          have hsz := HBW.out.size
          clear ho hb
          go_wp2_with fail
          go_ret
          exact ⟨_, rfl, by rw [HF.out]; exact HO2.out.base hsz, HB2.out⟩

theorem andNot_rest {n : Nat} {g : Int} (hn : n ≤ 8) (h0 : 0 ≤ g) (h1 : g ≤ ((2 ^ n : Nat) : Int) - 1) : bits .andNot .i64 (((2 ^ n : Nat) : Int) - 1) g = ((2 ^ n : Nat) : Int) - 1 - g := by
  obtain ⟨b, rfl⟩ : ∃ b : Nat, g = b := ⟨g.toNat, by omega⟩
  have hp : 0 < 2 ^ n := Nat.two_pow_pos n
  have hp8 : 2 ^ n ≤ 2 ^ 8 := Nat.pow_le_pow_right (by omega) hn
  have e0 : ((2 ^ n : Nat) : Int) - 1 = ((2 ^ n - 1 : Nat) : Int) := by omega
  rw [e0]
  have e : bits .andNot .i64 ((2 ^ n - 1 : Nat) : Int) (b : Int) = (((2 ^ n - 1) &&& (2 ^ 64 - (b + 1)) : Nat) : Int) := by
    have hx : (2 ^ n - 1) &&& (2 ^ 64 - (b + 1)) ≤ 2 ^ n - 1 := Nat.and_le_left
    show IntKind.i64.wrap ((BitVec.ofInt 64 ((2 ^ n - 1 : Nat) : Int) &&& ~~~BitVec.ofInt 64 (b : Int)).toNat : Int) = _
    rw [BitVec.toNat_and, BitVec.toNat_not, BitVec.ofInt_natCast, BitVec.ofInt_natCast, BitVec.toNat_ofNat, BitVec.toNat_ofNat, Nat.mod_eq_of_lt (by omega), Nat.mod_eq_of_lt (by omega), IntKind.wrap_i64,
      show 2 ^ 64 - 1 - b = 2 ^ 64 - (b + 1) by omega]
    omega
  have hb : b < 2 ^ n := by omega
  have : (2 ^ n - 1) &&& (2 ^ 64 - (b + 1)) = 2 ^ n - (b + 1) := by
    apply Nat.eq_of_testBit_eq
    intro i
    rw [Nat.testBit_and, Nat.testBit_two_pow_sub_succ (show b < 2 ^ 64 by omega), Nat.testBit_two_pow_sub_succ hb, Nat.testBit_two_pow_sub_one]
    by_cases hi : i < n
    · simp [hi, show i < 64 by omega]
    · simp [hi]
  rw [e, this]; omega

theorem not_state {t : Int} {a : List Int} (ha : issueOkB t a = true) : statementL t (allOf t - unionI a) = notL t a := by
  unfold statementL; rw [rest_ok ha, law_not ha]; rfl
theorem iGrantedBy_ok {t : Int} {xs : List Int} {g : Int} (h : Hid (grantedI t xs = g)) (A : Option Addr) (nn c : Nat) (w : World) (ha : Row w A nn c xs) :
    Calls Tryz.prog 98 #[.int .i64 t, .slice A nn c] w fun e w' => e = .returned (.int .i64 g) ∧ ∃ n, w' = w.drewN n :=
  (iGrantedBy t A nn c xs w ha.hn ha.hl ha.hc ha.hm ha.hA).mono fun _ _ ⟨he, hw⟩ => ⟨he.trans (ret_int h.out), hw⟩
theorem granted_ok {t : Int} {xs : List Int} (h : issueOkB t xs = true) : grantedI t xs = unionI xs := by unfold grantedI; rw [h]; rfl

set_option maxHeartbeats 2000000 in
theorem iNotIssue (t : Int) (A : Option Addr) (na ca : Nat) (a : List Int) (w : World) (ha : Row w A na ca a) :
    Calls Tryz.prog 122 #[.int .i64 t, .slice A na ca] w fun e w' => ∃ v, e = .returned v ∧ Owns w' w.heap.size v (notL t a) ∧ Below w.heap.size w w' := by
  have HA := Lib.hid ha
  obtain rfl := ha.hn
  clear ha
  obtain ⟨x, HX⟩ : ∃ x, Hid (issueOkB t a = x) := ⟨_, rfl⟩
  cases x
  · have HF := Lib.hid (not_nil HX.out)
    go_enter Tryz.func122, Tryz.ntmps122
    go_wp2_with fail
    refine (iIssueOk_is HX _ _ _ _ rfl HA.out.hl HA.out.hc HA.out.hm HA.out.hA).mono ?_
    rintro e w' ⟨rfl, m1, rfl⟩
    go_wp2_with fail
    go_ret
    exact ⟨_, rfl, by rw [HF.out]; exact Owns.nil _ _, bel_drewN (Below.refl _ _) _⟩
  · obtain ⟨ht1, ht3⟩ := issue_things HX.out
    have HG := Lib.hid (granted_ok HX.out)
    have hu := union_all HX.out
    have HS := Lib.hid (not_state HX.out)
    obtain ⟨g, hg⟩ : ∃ g, g = unionI a := ⟨_, rfl⟩
    rw [← hg] at HG HS hu
    have ht : t = 1 ∨ t = 2 ∨ t = 3 := by omega
    clear ht1 ht3 hg
    obtain ⟨hu0, hu1⟩ := hu
    rcases ht with rfl | rfl | rfl
    · have HBN : Hid (bits .andNot .i64 3 g = 3 - g) := andNot_rest (n := 2) (by omega) hu0 hu1
      have HS2 : Hid (statementL 1 (3 - g) = notL 1 a) := HS.out
      clear hu1
      go_enter Tryz.func122, Tryz.ntmps122
      go_wp2_with fail
      refine (iIssueOk_is HX _ _ _ _ rfl HA.out.hl HA.out.hc HA.out.hm HA.out.hA).mono ?_
      rintro e w' ⟨rfl, m2, rfl⟩
      go_wp2_with fail
      refine (iWorldsOf _ _).mono ?_
      rintro e w' ⟨rfl, rfl⟩
      simp only [worldsOf]
      go_wp2_with fail
      refine (iGrantedBy_ok HG _ _ _ _ (HA.out.drewN _)).mono ?_
      rintro e w' ⟨rfl, m3, rfl⟩
      go_wp2_with fail
      rw [HBN.out]
      refine (iStatementOf _ _ _).mono ?_
      rintro e w1 ⟨v, rfl, ho, hb⟩
      rw [HS2.out] at ho
      have HO1 := Lib.hid ho
      have HB1 := Lib.hid (bel_trans (bel_drewN (Below.refl _ _) _) hb)
      clear ho hb
      go_wp2_with fail
      go_ret
      exact ⟨_, rfl, HO1.out, HB1.out⟩
    · have HBN : Hid (bits .andNot .i64 15 g = 15 - g) := andNot_rest (n := 4) (by omega) hu0 hu1
      have HS2 : Hid (statementL 2 (15 - g) = notL 2 a) := HS.out
      clear hu1
      go_enter Tryz.func122, Tryz.ntmps122
      go_wp2_with fail
      refine (iIssueOk_is HX _ _ _ _ rfl HA.out.hl HA.out.hc HA.out.hm HA.out.hA).mono ?_
      rintro e w' ⟨rfl, m4, rfl⟩
      go_wp2_with fail
      refine (iWorldsOf _ _).mono ?_
      rintro e w' ⟨rfl, rfl⟩
      simp only [worldsOf]
      go_wp2_with fail
      refine (iGrantedBy_ok HG _ _ _ _ (HA.out.drewN _)).mono ?_
      rintro e w' ⟨rfl, m5, rfl⟩
      go_wp2_with fail
      rw [HBN.out]
      refine (iStatementOf _ _ _).mono ?_
      rintro e w1 ⟨v, rfl, ho, hb⟩
      rw [HS2.out] at ho
      have HO1 := Lib.hid ho
      have HB1 := Lib.hid (bel_trans (bel_drewN (Below.refl _ _) _) hb)
      clear ho hb
      go_wp2_with fail
      go_ret
      exact ⟨_, rfl, HO1.out, HB1.out⟩
    · have HBN : Hid (bits .andNot .i64 255 g = 255 - g) := andNot_rest (n := 8) (by omega) hu0 hu1
      have HS2 : Hid (statementL 3 (255 - g) = notL 3 a) := HS.out
      clear hu1
      go_enter Tryz.func122, Tryz.ntmps122
      go_wp2_with fail
      refine (iIssueOk_is HX _ _ _ _ rfl HA.out.hl HA.out.hc HA.out.hm HA.out.hA).mono ?_
      rintro e w' ⟨rfl, m6, rfl⟩
      go_wp2_with fail
      refine (iWorldsOf _ _).mono ?_
      rintro e w' ⟨rfl, rfl⟩
      simp only [worldsOf]
      go_wp2_with fail
      refine (iGrantedBy_ok HG _ _ _ _ (HA.out.drewN _)).mono ?_
      rintro e w' ⟨rfl, m7, rfl⟩
      go_wp2_with fail
      rw [HBN.out]
      refine (iStatementOf _ _ _).mono ?_
      rintro e w1 ⟨v, rfl, ho, hb⟩
      rw [HS2.out] at ho
      have HO1 := Lib.hid ho
      have HB1 := Lib.hid (bel_trans (bel_drewN (Below.refl _ _) _) hb)
      clear ho hb
      go_wp2_with fail
      go_ret
      exact ⟨_, rfl, HO1.out, HB1.out⟩

theorem not_len (t : Int) (a : List Int) : (notL t a).length ≤ 70 := by
  cases h : issueOkB t a
  · rw [not_nil h]; simp
  · rw [law_not h]; simp
set_option maxHeartbeats 2000000 in
theorem iWhetherIssue (t : Int) (A : Option Addr) (na ca : Nat) (a : List Int) (w : World) (ha : Row w A na ca a) :
    Calls Tryz.prog 123 #[.int .i64 t, .slice A na ca] w fun e w' => ∃ v, e = .returned v ∧ Owns w' w.heap.size v (whetherL t a) ∧ Below w.heap.size w w' := by
  have HA := Lib.hid ha
  obtain rfl := ha.hn
  have hnl := not_len t a
  have HW := Lib.hid (whether_all (t := t) (a := a))
  clear ha
  go_enter Tryz.func123, Tryz.ntmps123
  go_wp2_with fail
  refine (iNotIssue t A _ ca a _ HA.out).mono ?_
  rintro e w1 ⟨v, rfl, ho, hb⟩
  obtain ⟨A1, c1, rfl, hc1, hm1, hn1, _⟩ := ho.form
  have HR1 := Lib.hid (ho.row (by omega))
  have HB1 := Lib.hid hb
  have hsz1 := hb.size
  clear ho hb hm1 hn1
  go_wp2_with fail
  refine (iEitherIssue t A _ _ _ _ _ a (notL t a) _ (HA.out.below HB1.out) HR1.out).mono ?_
  rintro e w2 ⟨v, rfl, ho, hb⟩
  have HO2 := Lib.hid ho
  have HB2 := Lib.hid (bel_trans HB1.out hb)
  clear ho hb
  go_wp2_with fail
  go_ret
  exact ⟨_, rfl, by rw [HW.out]; exact HO2.out.base hsz1, HB2.out⟩
end Go.Proofs.YtmdogidflaplkaaGreat

namespace Go.Proofs.YtmdogidflaplkaaGreat
open Go.RowKit

theorem step_append1 {W : World} {ops : Array Oper} {o : Oper} {a : Act} {K : Act → World → Prop} {Q : Exit → Act → World → Prop} {E : Prop} (hgd : o.guard = none) (s x : Operand)
    (ho : o.op = .call { callee := .builtin .append, args := #[s, x], argTypes := #[101, 101] }) (base : Nat) (v : Value) (xs : List Int) (hs : a.eval s = v) (hown : Owns W base v xs)
    (y : Int) (hx : a.eval x = .slice (some ⟨W.heap.size, 0, none⟩) 1 1) (hl : xs.length ≤ 1048576) (hb : base ≤ W.heap.size)
    (h : ∀ v' w', Owns w' base v' (xs ++ [y]) → (W.alloc (.cells #[.int .i64 y] 3)).grownBy w' v.ownBlock → K (a.put o.dst v') w') :
    if Region.wanted o (yielded ops a.tmps) = true then Oper.wp Tryz.prog o a (W.alloc (.cells #[.int .i64 y] 3)) K Q else E := by
  have hw : Region.wanted o (yielded ops a.tmps) = true := by simp [Region.wanted, hgd]
  rw [if_pos hw]
  obtain ⟨i0, hi0, hz0, hz1, hz2⟩ := info_parts int_info
  refine wp_append_own _ s x 101 ho base 3 i0 (.int .i64 0) 1 8 Tryz.underlying101 hi0 hz0 hz1 hz2 rfl (by decide) v xs.length (xs.map (Value.int .i64)) hs (World.ownsRow.alloc hown _)
    ⟨W.heap.size, 0, none⟩ 1 1 [.int .i64 y] hx rfl (cell_one_new _ _ _) (fun u hu => by rw [List.mem_singleton] at hu; subst hu; rfl) (by simp only [maxLen]; omega) (by omega) (by rw [World.size_alloc]; omega) ?_
  intro v' w' h1 h2 _
  refine h v' w' ?_ h2
  unfold Owns
  simpa using h1

theorem okTwo_no {t : Int} {a b : List Int} {y : Bool} (h1 : Hid (issueOkB t a = true)) (h2 : Hid (issueOkB t b = y)) : okTwo t a b = y := by unfold okTwo; rw [h1.out, h2.out]; rfl
theorem okTwo_no1 {t : Int} {a b : List Int} (h1 : Hid (issueOkB t a = false)) : okTwo t a b = false := by unfold okTwo; rw [h1.out]; rfl

set_option maxRecDepth 100000 in
set_option maxHeartbeats 4000000 in
theorem sBothIssues (t : Int) (A B : Option Addr) (na ca nb cb : Nat) (a b : List Int) (w : World) (ha : Row w A na ca a) (hb : Row w B nb cb b) :
    Calls Tryz.prog 102 #[.int .i64 t, .slice A na ca, .slice B nb cb] w fun e w' => ∃ v, e = .returned v ∧ Owns w' w.heap.size v (bothL t a b) ∧ Below w.heap.size w w' := by
  have HA := Lib.hid ha
  have HB := Lib.hid hb
  obtain rfl := ha.hn
  obtain rfl := hb.hn
  clear ha hb
  obtain ⟨x, HX⟩ : ∃ x, Hid (issueOkB t a = x) := ⟨_, rfl⟩
  cases x
  · have HF := Lib.hid (both_nil (b := b) (okTwo_no1 HX))
    go_enter Tryz.func102, Tryz.ntmps102
    go_wp2_with fail
    refine (sIssueOk_is HX _ _ _ _ rfl HA.out.hl HA.out.hA).mono ?_
    rintro e w' ⟨rfl, m1, rfl⟩
    go_wp2_with fail
    go_ret
    exact ⟨_, rfl, by rw [HF.out]; exact Owns.lit _ _ [] (Nat.le_refl _) (by simp [maxLen]), (bel_drewN (Below.refl _ _) _).alloc (Nat.le_refl _) _⟩
  obtain ⟨y, HY⟩ : ∃ y, Hid (issueOkB t b = y) := ⟨_, rfl⟩
  cases y
  · have HF := Lib.hid (both_nil (okTwo_no HX HY))
    go_enter Tryz.func102, Tryz.ntmps102
    go_wp2_with fail
    refine (sIssueOk_is HX _ _ _ _ rfl HA.out.hl HA.out.hA).mono ?_
    rintro e w' ⟨rfl, m2, rfl⟩
    go_wp2_with fail
    refine (sIssueOk_is HY _ _ _ _ rfl HB.out.hl (by exact HB.out.hA)).mono ?_
    rintro e w' ⟨rfl, m3, rfl⟩
    go_wp2_with fail
    go_ret
    exact ⟨_, rfl, by rw [HF.out]; exact Owns.lit _ _ [] (Nat.le_refl _) (by simp [maxLen]), (bel_drewN (Below.refl _ _) _).alloc (Nat.le_refl _) _⟩
  have h1 := HX.out
  have h2 := HY.out
  obtain ⟨hla, hla2⟩ := issue_ne h1
  obtain ⟨hlb, hlb2⟩ := issue_ne h2
  have HRA := Lib.hid (issue_range h1)
  have HRB := Lib.hid (issue_range h2)
  have HF := Lib.hid (both_eq h1 h2)
  have HS := Lib.hid (sets_range (bothX_sets (b := b) h1))
  have HP2 : Hid ((bothX a b).length ≤ 4900) := by unfold Hid; rw [bothX_len]; exact Nat.le_trans (Nat.mul_le_mul hla2 hlb2) (by omega)
  clear h1 h2
  go_enter Tryz.func102, Tryz.ntmps102
  go_wp2_with fail
  refine (sIssueOk_is HX _ _ _ _ rfl HA.out.hl HA.out.hA).mono ?_
  rintro e w' ⟨rfl, m4, rfl⟩
  go_wp2_with fail
  refine (sIssueOk_is HY _ _ _ _ rfl HB.out.hl (by exact HB.out.hA)).mono ?_
  rintro e w' ⟨rfl, m5, rfl⟩
  go_wp2_with fail
  go_loopw [7, 8] (fun v i wr => ∃ k : Nat, k ≤ a.length ∧ i = .int .i64 k ∧ Owns wr w.heap.size v (bothTo a b k 0) ∧ Below w.heap.size w wr) (fun _ i _ => a.length - (Go.RowKit.intOf i).toNat)
  case atStart => exact ⟨0, Nat.zero_le _, rfl, by rw [bothTo_zero]; exact Owns.lit _ _ [] (Nat.le_refl _) (by simp [maxLen]), (bel_drewN (Below.refl _ _) _).alloc (Nat.le_refl _) _⟩
  case round =>
    obtain ⟨k, hk, rfl, hown, hbel⟩ := hrel
    have HOW := Lib.hid hown
    have HBW := Lib.hid hbel
    clear hown hbel
    by_cases hlt : k < a.length
    · obtain ⟨bb, off, x, rfl, _, hx, hbb⟩ := (HA.out.hA.below HBW.out).elem hlt
      obtain ⟨he1, he2⟩ := HRA.out x (elem_mem hx)
      have hd : decide ((k : Int) < (a.length : Int)) = true := decide_eq_true (by omega)
      go_wp2_with fail
      clear hd
      go_loopw [7, 9] (fun v i wi => ∃ j : Nat, j ≤ b.length ∧ i = .int .i64 j ∧ Owns wi w.heap.size v (bothTo a b k j) ∧ Below w.heap.size w wi) (fun _ i _ => b.length - (Go.RowKit.intOf i).toNat)
      case atStart => exact ⟨0, Nat.zero_le _, rfl, HOW.out, HBW.out⟩
      case round =>
        obtain ⟨j, hj, rfl, hown, hbel⟩ := hrel
        have HOI := Lib.hid hown
        have HBI := Lib.hid hbel
        clear hown hbel
        by_cases hjt : j < b.length
        · obtain ⟨bb1, off1, x1, hAe, hcell1, hx1, _⟩ := (HA.out.hA.below HBI.out).elem hlt
          simp only [Option.some.injEq, Addr.mk.injEq] at hAe
          obtain ⟨rfl, rfl, _⟩ := hAe
          obtain rfl : x1 = x := by have := hx1.out; rw [hx.out] at this; cases this; rfl
          obtain ⟨bb2, off2, y, rfl, hcell, hy, _⟩ := (HB.out.hA.below HBI.out).elem hjt
          obtain ⟨hf1, hf2⟩ := HRB.out y (elem_mem hy)
          have HT := Lib.hid (bothTo_in hx hy)
          have hsm := bothTo_small hla2 hlb2 k j hk
          have hj1 : (j : Int) < (b.length : Int) := by omega
          have hk1 : (k : Int) < (a.length : Int) := by omega
          go_wp2_with fail
          go_region_law (first | (refine step_append1 rfl _ _ rfl w.heap.size u7 (bothTo a b k j) rfl (by exact HOI.out) _ rfl (by omega) HBI.out.size ?_; intro v' w' hown' hgrow) | (go_simp; go_at_call 41; refine (sBothS _ _ he1 he2 hf1 hf2 _).mono ?_; rintro e w' ⟨rfl, m, rfl⟩))
          all_goals
            have hb' := below_append (bel_drewN HBI.out _) (by exact HBI.out.size) (by exact HOI.out) (Nat.le_refl _) hgrow
            go_wp2_with fail
            go_roundw
            case rel => exact ⟨j + 1, by omega, by go_num, by rw [HT.out]; exact hown', hb'⟩
            case measure => simp [Go.RowKit.intOf]; omega
        · obtain rfl : j = b.length := by omega
          have HT := Lib.hid (bothTo_out (b := b) hx)
          go_wp2_with fail
          go_roundw
          case rel => exact ⟨k + 1, by omega, by go_num, by rw [HT.out]; exact HOI.out, HBI.out⟩
          case measure => simp [Go.RowKit.intOf]; omega
    · obtain rfl : k = a.length := by omega
      have HE : Hid (bothTo a b a.length 0 = bothX a b) := bothTo_end a b
      rw [HE.out] at HOW
      obtain ⟨A1, c1, rfl, hc1, hm1, hn1, _⟩ := HOW.out.form
      have HN1 := Lib.hid hn1
      have hle : (bothX a b).length ≤ 1048576 := by have := HP2.out; omega
      clear hm1 hn1
      go_wp2_with fail
      refine (sTidy _ _ _ (bothX a b) _ rfl hle HS.out HN1.out).mono ?_
      rintro e w2 ⟨v, rfl, ho, hb⟩
      have HO2 := Lib.hid ho
      have HB2 := Lib.hid (bel_trans HBW.out hb)
      have hsz := HBW.out.size
      clear ho hb
      go_wp2_with fail
      go_ret
      exact ⟨_, rfl, by rw [HF.out]; exact HO2.out.base hsz, HB2.out⟩

set_option maxRecDepth 100000 in
set_option maxHeartbeats 4000000 in
theorem sEitherIssue (t : Int) (A B : Option Addr) (na ca nb cb : Nat) (a b : List Int) (w : World) (ha : Row w A na ca a) (hb : Row w B nb cb b) :
    Calls Tryz.prog 103 #[.int .i64 t, .slice A na ca, .slice B nb cb] w fun e w' => ∃ v, e = .returned v ∧ Owns w' w.heap.size v (eitherL t a b) ∧ Below w.heap.size w w' := by
  have HA := Lib.hid ha
  have HB := Lib.hid hb
  obtain rfl := ha.hn
  obtain rfl := hb.hn
  clear ha hb
  obtain ⟨x, HX⟩ : ∃ x, Hid (issueOkB t a = x) := ⟨_, rfl⟩
  cases x
  · have HF := Lib.hid (either_nil (b := b) (okTwo_no1 HX))
    go_enter Tryz.func103, Tryz.ntmps103
    go_wp2_with fail
    refine (sIssueOk_is HX _ _ _ _ rfl HA.out.hl HA.out.hA).mono ?_
    rintro e w' ⟨rfl, m1, rfl⟩
    go_wp2_with fail
    go_ret
    exact ⟨_, rfl, by rw [HF.out]; exact Owns.lit _ _ [] (Nat.le_refl _) (by simp [maxLen]), (bel_drewN (Below.refl _ _) _).alloc (Nat.le_refl _) _⟩
  obtain ⟨y, HY⟩ : ∃ y, Hid (issueOkB t b = y) := ⟨_, rfl⟩
  cases y
  · have HF := Lib.hid (either_nil (okTwo_no HX HY))
    go_enter Tryz.func103, Tryz.ntmps103
    go_wp2_with fail
    refine (sIssueOk_is HX _ _ _ _ rfl HA.out.hl HA.out.hA).mono ?_
    rintro e w' ⟨rfl, m2, rfl⟩
    go_wp2_with fail
    refine (sIssueOk_is HY _ _ _ _ rfl HB.out.hl (by exact HB.out.hA)).mono ?_
    rintro e w' ⟨rfl, m3, rfl⟩
    go_wp2_with fail
    go_ret
    exact ⟨_, rfl, by rw [HF.out]; exact Owns.lit _ _ [] (Nat.le_refl _) (by simp [maxLen]), (bel_drewN (Below.refl _ _) _).alloc (Nat.le_refl _) _⟩
  have h1 := HX.out
  have h2 := HY.out
  obtain ⟨hla, hla2⟩ := issue_ne h1
  obtain ⟨hlb, hlb2⟩ := issue_ne h2
  have HF := Lib.hid (either_eq h1 h2)
  have HS := Lib.hid (sets_range (eitherX_sets h1 h2))
  clear h1 h2
  obtain ⟨ab, HAB⟩ : ∃ l, Hid (a ++ b = l) := ⟨_, rfl⟩
  have hle : ab.length ≤ 1048576 := by rw [← HAB.out, List.length_append]; omega
  rw [HAB.out] at HF HS
  go_enter Tryz.func103, Tryz.ntmps103
  go_wp2_with fail
  refine (sIssueOk_is HX _ _ _ _ rfl HA.out.hl HA.out.hA).mono ?_
  rintro e w' ⟨rfl, m4, rfl⟩
  go_wp2_with fail
  refine (sIssueOk_is HY _ _ _ _ rfl HB.out.hl (by exact HB.out.hA)).mono ?_
  rintro e w' ⟨rfl, m5, rfl⟩
  have HB0 : Hid (Below w.heap.size w ((w.drewN (m4 + m5)).alloc (.cells #[] 3))) := (bel_drewN (Below.refl _ _) _).alloc (Nat.le_refl _) _
  have HO0 : Hid (Owns ((w.drewN (m4 + m5)).alloc (.cells #[] 3)) w.heap.size (.slice (some ⟨w.heap.size, 0, none⟩) 0 0) []) := Owns.lit (w.drewN (m4 + m5)) w.heap.size [] (Nat.le_refl _) (by simp [maxLen])
  go_wp2_with (at_builtin; first
    | (refine wp_appendL rfl _ _ rfl w.heap.size (.slice (some ⟨w.heap.size, 0, none⟩) 0 0) [] rfl HO0.out a A a.length ca rfl rfl hla (HA.out.hA.below HB0.out) (by simp; omega) HB0.out.size ?_; intro v2 w2 hown2 hgrow2; have HO2 := Lib.hid hown2; have HB2 := Lib.hid (below_appendL HB0.out HB0.out.size HO0.out (Nat.le_refl _) hgrow2); clear hown2 hgrow2 HO0 HB0)
    | (refine wp_appendL rfl _ _ rfl w.heap.size v2 a rfl HO2.out b B b.length cb rfl rfl hlb (HB.out.hA.below HB2.out) (by omega) HB2.out.size ?_; intro v3 w3 hown3 hgrow3))
  rw [HAB.out] at hown3
  have HO3 := Lib.hid hown3
  have HB3 := Lib.hid (below_appendL HB2.out HB2.out.size HO2.out (Nat.le_refl _) hgrow3)
  clear hown3 hgrow3
  obtain ⟨A1, c1, rfl, hc1, hm1, hn1, _⟩ := HO3.out.form
  have HN1 := Lib.hid hn1
  have hsz1 := HB3.out.size
  clear hm1 hn1
  go_wp2_with fail
  refine (sTidy _ _ _ ab _ rfl hle HS.out HN1.out).mono ?_
  rintro e w4 ⟨v, rfl, ho, hb⟩
  have HO4 := Lib.hid ho
  have HB4 := Lib.hid (bel_trans HB3.out hb)
  clear ho hb
  go_wp2_with fail
  go_ret
  exact ⟨_, rfl, by rw [HF.out]; exact HO4.out.base hsz1, HB4.out⟩
end Go.Proofs.YtmdogidflaplkaaGreat
