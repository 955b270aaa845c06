/-
  Chapter 2: the model's IfIssue, NotIssue, WhetherIssue, Follows.
-/
import Derived.Test.YtfancfjbipjibaaTogS
namespace Go.Proofs.Ytfancfjbipjibaa
open Go.RowKit

set_option maxRecDepth 100000 in
set_option maxHeartbeats 4000000 in
theorem sIfIssue (t : Int) (A B : Option Addr) (na ca nb cb : Nat) (a b : List Int) (w : World) (ha : Row w A na ca a) (hb : Row w B nb cb b) :
    Calls Try.prog 32 #[.int .i64 t, .slice A na ca, .slice B nb cb] w fun e w' => ∃ v, e = .returned v ∧ Owns w' w.heap.size v (ifL t a b) ∧ Below w.heap.size w w' := by
  have HA := Lib.hid ha
  have HB := Lib.hid hb
  obtain rfl := ha.hn
  obtain rfl := hb.hn
  have hbl := hb.hl
  clear ha hb
  obtain ⟨x, HX⟩ : ∃ x, Hid (issueOkB t a = x) := ⟨_, rfl⟩
  cases x
  · have HF := Lib.hid (if_nil (b := b) (okTwo_no1 HX))
    go_enter Try.func32, Try.ntmps32
    go_wp2_with fail
    refine (sIssueOk_is HX _ _ _ _ rfl HA.out.hl HA.out.hA).mono ?_
    rintro e w' ⟨rfl, m1, rfl⟩
    go_wp2_with fail
    go_ret
    exact ⟨_, rfl, by rw [HF.out]; exact Owns.lit _ _ [] (Nat.le_refl _) (by simp [maxLen]), (bel_drewN (Below.refl _ _) _).alloc (Nat.le_refl _) _⟩
  obtain ⟨y, HY⟩ : ∃ y, Hid (issueOkB t b = y) := ⟨_, rfl⟩
  cases y
  · have HF := Lib.hid (if_nil (okTwo_no HX HY))
    go_enter Try.func32, Try.ntmps32
    go_wp2_with fail
    refine (sIssueOk_is HX _ _ _ _ rfl HA.out.hl HA.out.hA).mono ?_
    rintro e w' ⟨rfl, m2, rfl⟩
    go_wp2_with fail
    refine (sIssueOk_is HY _ _ _ _ rfl HB.out.hl (by exact HB.out.hA)).mono ?_
    rintro e w' ⟨rfl, m3, rfl⟩
    go_wp2_with fail
    go_ret
    exact ⟨_, rfl, by rw [HF.out]; exact Owns.lit _ _ [] (Nat.le_refl _) (by simp [maxLen]), (bel_drewN (Below.refl _ _) _).alloc (Nat.le_refl _) _⟩
  have h1 := HX.out
  have h2 := HY.out
  obtain ⟨hla, hla2⟩ := issue_ne h1
  obtain ⟨ht1, ht3⟩ := issue_things h1
  have HRA := Lib.hid (issue_range h1)
  have HRB := Lib.hid (issue_range h2)
  have HF := Lib.hid (if_eq h1 h2)
  have HS := Lib.hid (sets_range (ifX_sets (b := b) h1))
  obtain ⟨al, hal⟩ : ∃ n : Nat, n = (allOf t).toNat := ⟨_, rfl⟩
  have h0 := allOf_lt t
  have HAL : Hid (allOf t = (al : Int)) := by unfold Hid; omega
  have hal2 : al < 256 := by omega
  have HAL2 : Hid ((allOf t + 1).toNat = al + 1) := by unfold Hid; omega
  rw [HAL2.out] at HF HS
  clear h1 h2 hal h0
  go_enter Try.func32, Try.ntmps32
  go_wp2_with fail
  refine (sIssueOk_is HX _ _ _ _ rfl HA.out.hl HA.out.hA).mono ?_
  rintro e w' ⟨rfl, m4, rfl⟩
  go_wp2_with fail
  refine (sIssueOk_is HY _ _ _ _ rfl HB.out.hl (by exact HB.out.hA)).mono ?_
  rintro e w' ⟨rfl, m5, rfl⟩
  go_wp2_with fail
  go_loopw [7, 8] (fun v i wr => ∃ k : Nat, k ≤ al + 1 ∧ i = .int .i64 k ∧ Owns wr w.heap.size v (ifTo a b k) ∧ Below w.heap.size w wr) (fun _ i _ => al + 1 - (Go.RowKit.intOf i).toNat)
  case atStart => exact ⟨0, Nat.zero_le _, rfl, by rw [if_zero]; exact Owns.lit _ _ [] (Nat.le_refl _) (by simp [maxLen]), (bel_drewN (Below.refl _ _) _).alloc (Nat.le_refl _) _⟩
  case round =>
    obtain ⟨k, hk, rfl, hown, hbel⟩ := hrel
    have HOW := Lib.hid hown
    have HBW := Lib.hid hbel
    clear hown hbel
    by_cases hlt : k ≤ al
    · have hd : decide ((k : Int) ≤ (al : Int)) = true := decide_eq_true (by omega)
      go_wp2_with fail
      refine (sAll _ _ ht1 ht3).mono ?_
      rintro e w' ⟨rfl, rfl⟩
      rw [HAL.out]
      go_wp2_with fail
      clear hd
      go_loopw [9, 10] (fun g j wi => ∃ (i : Nat) (gb : Bool), i ≤ a.length ∧ j = .int .i64 i ∧ g = .bool gb ∧ Hid (goodB (a.take i) b k = gb) ∧ ∃ m, wi = wr.drewN m) (fun _ j _ => a.length - (Go.RowKit.intOf j).toNat)
      case atStart => exact ⟨0, true, Nat.zero_le _, rfl, rfl, rfl, 0, rfl⟩
      case round =>
        obtain ⟨i, gb, hi, rfl, rfl, hg, m, rfl⟩ := hrel
        by_cases hit : i < a.length
        · obtain ⟨bb, off, x, rfl, hcell, hx, _⟩ := (HA.out.hA.below HBW.out).elem hit
          obtain ⟨he1, he2⟩ := HRA.out x (elem_mem hx)
          cases gb
          · have HT : Hid (goodB (a.take (i + 1)) b k = false) := by unfold Hid; rw [good_snoc hx, hg.out]; rfl
            go_wp2_with fail
            go_roundw
            case rel => exact ⟨i + 1, false, by omega, by go_num, rfl, HT, _, rfl⟩
            case measure => simp [Go.RowKit.intOf]; omega
          · obtain ⟨v, HV⟩ : ∃ v, Hid (anyWithin (andI (k : Int) x) b = v) := ⟨_, rfl⟩
            have HT : Hid (goodB (a.take (i + 1)) b k = v) := by unfold Hid; rw [good_snoc hx, hg.out, HV.out]; rfl
            have hand0 := andI_nonneg (k : Int) x
            have hand1 := andI_le (k : Int) x (by omega)
            go_wp2_with fail
            refine (sBothS _ _ (by omega) (by omega) he1 he2 _).mono ?_
            rintro e w' ⟨rfl, m2, rfl⟩
            go_wp2_with fail
            refine (sL2Settles_is HV _ _ _ _ rfl hand0 (by omega) HRB.out hbl (HB.out.hA.below (bel_drewN HBW.out _))).mono ?_
            rintro e w' ⟨rfl, m3, rfl⟩
            go_wp2_with fail
            go_roundw
            case rel => exact ⟨i + 1, v, by omega, by go_num, rfl, HT, _, rfl⟩
            case measure => simp [Go.RowKit.intOf]; omega
        · obtain rfl : i = a.length := by omega
          rw [List.take_length] at hg
          have hlen := if_len a b k
          cases gb
          · have HT : Hid (ifTo a b (k + 1) = ifTo a b k) := by unfold Hid; rw [if_next, hg.out]; simp
            go_wp2_with fail
            go_roundw
            case rel => exact ⟨k + 1, by omega, by go_num, by rw [HT.out]; exact HOW.out, bel_drewN HBW.out _⟩
            case measure => simp [Go.RowKit.intOf]; omega
          · have HT : Hid (ifTo a b (k + 1) = ifTo a b k ++ [(k : Int)]) := by unfold Hid; rw [if_next, hg.out]; simp
            have HOW2 : Hid (Owns (wr.drewN m) w.heap.size u7 (ifTo a b k)) := HOW.out
            have HB2 := Lib.hid (bel_drewN HBW.out m)
            go_wp2_with (at_builtin; refine wp_append1 (W := wr.drewN m) rfl _ _ rfl w.heap.size u7 (ifTo a b k) rfl HOW2.out (k : Int) rfl (by omega) HB2.out.size ?_; intro v' w' hown' hgrow)
            have hb' := below_append HB2.out HB2.out.size HOW2.out (Nat.le_refl _) hgrow
            go_roundw
            case rel => exact ⟨k + 1, by omega, by go_num, by rw [HT.out]; exact hown', hb'⟩
            case measure => simp [Go.RowKit.intOf]; omega
    · obtain rfl : k = al + 1 := by omega
      have hd : decide (((al + 1 : Nat) : Int) ≤ (al : Int)) = false := decide_eq_false (by omega)
      have hd' : decide ((al : Int) + 1 ≤ (al : Int)) = false := decide_eq_false (by omega)
      have hlen := if_len a b (al + 1)
      obtain ⟨A1, c1, rfl, hc1, hm1, hn1, _⟩ := HOW.out.form
      have HN1 := Lib.hid hn1
      have hle : (ifTo a b (al + 1)).length ≤ 1048576 := by omega
      clear hm1 hn1
      go_wp2_with fail
      refine (sAll _ _ ht1 ht3).mono ?_
      rintro e w' ⟨rfl, rfl⟩
      rw [HAL.out]
      go_wp2_with fail
      refine (sTidy _ _ _ (ifTo a b (al + 1)) _ rfl hle HS.out HN1.out).mono ?_
      rintro e w2 ⟨v, rfl, ho, hb⟩
      have HO2 := Lib.hid ho
      have HB2 := Lib.hid (bel_trans HBW.out hb)
      have hsz := HBW.out.size
      clear ho hb
      go_wp2_with fail
      go_ret
      exact ⟨_, rfl, by rw [HF.out]; exact HO2.out.base hsz, HB2.out⟩

set_option maxHeartbeats 2000000 in
theorem sNotIssue (t : Int) (A : Option Addr) (na ca : Nat) (a : List Int) (w : World) (ha : Row w A na ca a) :
    Calls Try.prog 37 #[.int .i64 t, .slice A na ca] w fun e w' => ∃ v, e = .returned v ∧ Owns w' w.heap.size v (notL t a) ∧ Below w.heap.size w w' := by
  have HA := Lib.hid ha
  obtain rfl := ha.hn
  clear ha
  obtain ⟨x, HX⟩ : ∃ x, Hid (issueOkB t a = x) := ⟨_, rfl⟩
  cases x
  · have HF := Lib.hid (not_nil HX.out)
    go_enter Try.func37, Try.ntmps37
    go_wp2_with fail
    refine (sIssueOk_is HX _ _ _ _ rfl HA.out.hl HA.out.hA).mono ?_
    rintro e w' ⟨rfl, m1, rfl⟩
    go_wp2_with fail
    go_ret
    exact ⟨_, rfl, by rw [HF.out]; exact Owns.lit _ _ [] (Nat.le_refl _) (by simp [maxLen]), (bel_drewN (Below.refl _ _) _).alloc (Nat.le_refl _) _⟩
  · have HF := Lib.hid (not_eq HX.out)
    go_enter Try.func37, Try.ntmps37
    go_wp2_with fail
    refine (sIssueOk_is HX _ _ _ _ rfl HA.out.hl HA.out.hA).mono ?_
    rintro e w' ⟨rfl, m2, rfl⟩
    go_wp2_with fail
    have hbel : Below w.heap.size w ((w.drewN m2).alloc (.cells #[.int .i64 0] 3)) := (bel_drewN (Below.refl _ _) _).alloc (Nat.le_refl _) _
    have HO : Owns ((w.drewN m2).alloc (.cells #[.int .i64 0] 3)) w.heap.size (.slice (some ⟨w.heap.size, 0, none⟩) 1 1) [0] := Owns.lit (w.drewN m2) w.heap.size [0] (Nat.le_refl _) (by simp [maxLen])
    refine (sIfIssue t A _ a.length ca 1 1 a [0] _ (HA.out.below hbel) (HO.row (by simp))).mono ?_
    rintro e w1 ⟨v, rfl, ho, hb⟩
    have HO1 := Lib.hid ho
    have HB1 := Lib.hid (hbel.trans (hb.mono (by rw [World.size_alloc]; exact Nat.le_succ _)))
    clear ho hb HO hbel
    go_wp2_with fail
    go_ret
    exact ⟨_, rfl, by rw [HF.out]; exact HO1.out.base (by rw [World.size_alloc]; exact Nat.le_succ _), HB1.out⟩

set_option maxHeartbeats 2000000 in
theorem sWhetherIssue (t : Int) (A : Option Addr) (na ca : Nat) (a : List Int) (w : World) (ha : Row w A na ca a) :
    Calls Try.prog 41 #[.int .i64 t, .slice A na ca] w fun e w' => ∃ v, e = .returned v ∧ Owns w' w.heap.size v (whetherL t a) ∧ Below w.heap.size w w' := by
  have HA := Lib.hid ha
  obtain rfl := ha.hn
  have hnl := not_len t a
  have HW := Lib.hid (whether_all (t := t) (a := a))
  clear ha
  obtain ⟨x, HX⟩ : ∃ x, Hid (issueOkB t a = x) := ⟨_, rfl⟩
  cases x
  · have HF : Hid (whetherL t a = []) := by unfold Hid whetherL; rw [HX.out]; rfl
    go_enter Try.func41, Try.ntmps41
    go_wp2_with fail
    refine (sIssueOk_is HX _ _ _ _ rfl HA.out.hl HA.out.hA).mono ?_
    rintro e w' ⟨rfl, m1, rfl⟩
    go_wp2_with fail
    go_ret
    exact ⟨_, rfl, by rw [HF.out]; exact Owns.lit _ _ [] (Nat.le_refl _) (by simp [maxLen]), (bel_drewN (Below.refl _ _) _).alloc (Nat.le_refl _) _⟩
  · go_enter Try.func41, Try.ntmps41
    go_wp2_with fail
    refine (sIssueOk_is HX _ _ _ _ rfl HA.out.hl HA.out.hA).mono ?_
    rintro e w' ⟨rfl, m2, rfl⟩
    go_wp2_with fail
    refine (sNotIssue t A _ ca a _ (HA.out.drewN _)).mono ?_
    rintro e w1 ⟨v, rfl, ho, hb⟩
    obtain ⟨A1, c1, rfl, hc1, hm1, hn1, _⟩ := ho.form
    have HR1 := Lib.hid (ho.row (by omega))
    have HB1 := Lib.hid (bel_trans (bel_drewN (Below.refl _ _) m2) hb)
    have hsz1 := HB1.out.size
    clear ho hb hm1 hn1
    go_wp2_with fail
    refine (sEitherIssue t A _ _ _ _ _ a (notL t a) _ (HA.out.below HB1.out) HR1.out).mono ?_
    rintro e w2 ⟨v, rfl, ho, hb⟩
    have HO2 := Lib.hid ho
    have HB2 := Lib.hid (bel_trans HB1.out hb)
    clear ho hb
    go_wp2_with fail
    go_ret
    exact ⟨_, rfl, by rw [HW.out]; exact HO2.out.base hsz1, HB2.out⟩

set_option maxHeartbeats 1000000 in
theorem sFollows (t : Int) (A B : Option Addr) (na ca nb cb : Nat) (a b : List Int) (w : World) (ha : Row w A na ca a) (hb : Row w B nb cb b) :
    Calls Try.prog 43 #[.int .i64 t, .slice A na ca, .slice B nb cb] w fun e w' => e = .returned (.bool (followsB t a b)) ∧ ∃ n, w' = w.drewN n := by
  have HA := Lib.hid ha
  have HB := Lib.hid hb
  obtain rfl := ha.hn
  obtain rfl := hb.hn
  have hla := ha.hl
  have hlb := hb.hl
  clear ha hb
  obtain ⟨x, HX⟩ : ∃ x, Hid (issueOkB t a = x) := ⟨_, rfl⟩
  cases x
  · have HF : Hid (followsB t a b = false) := by unfold Hid; rw [follows_eq, okTwo_no1 HX]; rfl
    go_enter Try.func43, Try.ntmps43
    go_wp2_with fail
    refine (sIssueOk_is HX _ _ _ _ rfl hla HA.out.hA).mono ?_
    rintro e w' ⟨rfl, m1, rfl⟩
    go_wp2_with fail
    go_ret
    exact ⟨ret_bool HF.out.symm, _, rfl⟩
  obtain ⟨y, HY⟩ : ∃ y, Hid (issueOkB t b = y) := ⟨_, rfl⟩
  cases y
  · have HF : Hid (followsB t a b = false) := by unfold Hid; rw [follows_eq, okTwo_no HX HY]; rfl
    go_enter Try.func43, Try.ntmps43
    go_wp2_with fail
    refine (sIssueOk_is HX _ _ _ _ rfl hla HA.out.hA).mono ?_
    rintro e w' ⟨rfl, m2, rfl⟩
    go_wp2_with fail
    refine (sIssueOk_is HY _ _ _ _ rfl hlb (by exact HB.out.hA)).mono ?_
    rintro e w' ⟨rfl, m3, rfl⟩
    go_wp2_with fail
    go_ret
    exact ⟨ret_bool HF.out.symm, _, rfl⟩
  have HF : Hid (followsB t a b = a.all fun x => anyWithin x b) := by unfold Hid; rw [follows_eq, okTwo_no HX HY]; rfl
  have HRA := Lib.hid (issue_range HX.out)
  have HRB := Lib.hid (issue_range HY.out)
  go_enter Try.func43, Try.ntmps43
  go_wp2_with fail
  refine (sIssueOk_is HX _ _ _ _ rfl hla HA.out.hA).mono ?_
  rintro e w' ⟨rfl, m4, rfl⟩
  go_wp2_with fail
  refine (sIssueOk_is HY _ _ _ _ rfl hlb (by exact HB.out.hA)).mono ?_
  rintro e w' ⟨rfl, m5, rfl⟩
  go_wp2_with fail
  go_loopw [7] (fun i wr => ∃ k : Nat, k ≤ a.length ∧ i = .int .i64 k ∧ Hid (((a.take k).all fun x => anyWithin x b) = true) ∧ ∃ n, wr = w.drewN n) (fun i _ => a.length - (intOf i).toNat)
  case atStart => exact ⟨0, Nat.zero_le _, rfl, rfl, _, rfl⟩
  case round =>
    obtain ⟨k, hk, rfl, hsofar, n, rfl⟩ := hrel
    by_cases hlt : k < a.length
    · obtain ⟨bb, off, x, rfl, hcell, hx, _⟩ := HA.out.hA.elem hlt
      obtain ⟨he1, he2⟩ := HRA.out x (elem_mem hx)
      rcases hw : anyWithin x b with _ | _
      · have HW := Lib.hid hw
        clear hw
        go_wp2_with fail
        refine (sL2Settles_is HW _ _ _ _ rfl he1 he2 HRB.out hlb (by exact HB.out.hA)).mono ?_
        rintro e w' ⟨rfl, m6, rfl⟩
        go_wp2_with fail
        go_ret
        exact ⟨ret_bool (by rw [HF.out, allAny_miss hx HW.out]), _, rfl⟩
      · have HW := Lib.hid hw
        clear hw
        go_wp2_with fail
        refine (sL2Settles_is HW _ _ _ _ rfl he1 he2 HRB.out hlb (by exact HB.out.hA)).mono ?_
        rintro e w' ⟨rfl, m7, rfl⟩
        go_wp2_with fail
        go_roundw
        case rel => exact ⟨k + 1, by omega, by go_num, by unfold Hid; rw [allAny_snoc hx, hsofar.out, HW.out]; rfl, _, rfl⟩
        case measure => simp [intOf]; omega
    · obtain rfl : k = a.length := by omega
      have HN : Hid ((a.all fun x => anyWithin x b) = true) := by unfold Hid; rw [← hsofar.out, List.take_length]
      clear hsofar
      go_wp2
      go_ret
      exact ⟨ret_bool (by rw [HF.out, HN.out]), _, rfl⟩
end Go.Proofs.Ytfancfjbipjibaa
