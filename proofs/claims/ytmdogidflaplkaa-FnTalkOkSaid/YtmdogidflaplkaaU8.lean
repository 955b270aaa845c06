/-
  What the proofs of this seat's statements share (TogS, TogT, TogD, TogX, TogL1).
-/
import Derived.Deep.AppendLies
import Derived.Deep.RegionLaw
import Derived.Test.YtmdogidflaplkaaU7
import Derived.Test.YtmdogidflaplkaaU4

namespace Go.Proofs.Ytmdogidflaplkaa
open Go.RowKit

theorem step_append1 {W : World} {ops : Array Oper} {o : Oper} {a : Act} {K : Act → World → Prop} {Q : Exit → Act → World → Prop} {E : Prop} (hgd : o.guard = none) (s x : Operand)
    (ho : o.op = .call { callee := .builtin .append, args := #[s, x], argTypes := #[59, 59] }) (base : Nat) (v : Value) (xs : List Int) (hs : a.eval s = v) (hown : Owns W base v xs)
    (y : Int) (hx : a.eval x = .slice (some ⟨W.heap.size, 0, none⟩) 1 1) (hl : xs.length ≤ 1048576) (hb : base ≤ W.heap.size)
    (h : ∀ v' w', Owns w' base v' (xs ++ [y]) → (W.alloc (.cells #[.int .i64 y] 3)).grownBy w' v.ownBlock → K (a.put o.dst v') w') :
    if Region.wanted o (yielded ops a.tmps) = true then Oper.wp Try.prog o a (W.alloc (.cells #[.int .i64 y] 3)) K Q else E := by
  have hw : Region.wanted o (yielded ops a.tmps) = true := by simp [Region.wanted, hgd]
  rw [if_pos hw]
  obtain ⟨i0, hi0, hz0, hz1, hz2⟩ := info_parts int_info
  refine wp_append_own _ s x 59 ho base 3 i0 (.int .i64 0) 1 8 Try.underlying59 hi0 hz0 hz1 hz2 rfl (by decide) v xs.length (xs.map (Value.int .i64)) hs (World.ownsRow.alloc hown _)
    ⟨W.heap.size, 0, none⟩ 1 1 [.int .i64 y] hx rfl (cell_one_new _ _ _) (fun u hu => by rw [List.mem_singleton] at hu; subst hu; rfl) (by simp only [maxLen]; omega) (by omega) (by rw [World.size_alloc]; omega) ?_
  intro v' w' h1 h2 _
  refine h v' w' ?_ h2
  unfold Owns
  simpa using h1

theorem okTwo_no {t : Int} {a b : List Int} {y : Bool} (h1 : Hid (issueOkB t a = true)) (h2 : Hid (issueOkB t b = y)) : okTwo t a b = y := by unfold okTwo; rw [h1.out, h2.out]; rfl
theorem okTwo_no1 {t : Int} {a b : List Int} (h1 : Hid (issueOkB t a = false)) : okTwo t a b = false := by unfold okTwo; rw [h1.out]; rfl

set_option maxRecDepth 100000 in
set_option maxHeartbeats 4000000 in
theorem sBothIssues (t : Int) (A B : Option Addr) (na ca nb cb : Nat) (a b : List Int) (w : World) (ha : Row w A na ca a) (hb : Row w B nb cb b) :
    Calls Try.prog 68 #[.int .i64 t, .slice A na ca, .slice B nb cb] w fun e w' => ∃ v, e = .returned v ∧ Owns w' w.heap.size v (bothL t a b) ∧ Below w.heap.size w w' := by
  have HA := Lib.hid ha
  have HB := Lib.hid hb
  obtain rfl := ha.hn
  obtain rfl := hb.hn
  clear ha hb
  obtain ⟨x, HX⟩ : ∃ x, Hid (issueOkB t a = x) := ⟨_, rfl⟩
  cases x
  · have HF := Lib.hid (both_nil (b := b) (okTwo_no1 HX))
    go_enter Try.func68, Try.ntmps68
    go_wp2_with fail
    refine (sIssueOk_is HX _ _ _ _ rfl HA.out.hl HA.out.hA).mono ?_
    rintro e w' ⟨rfl, m1, rfl⟩
    go_wp2_with fail
    go_ret
    exact ⟨_, rfl, by rw [HF.out]; exact Owns.lit _ _ [] (Nat.le_refl _) (by simp [maxLen]), (bel_drewN (Below.refl _ _) _).alloc (Nat.le_refl _) _⟩
  obtain ⟨y, HY⟩ : ∃ y, Hid (issueOkB t b = y) := ⟨_, rfl⟩
  cases y
  · have HF := Lib.hid (both_nil (okTwo_no HX HY))
    go_enter Try.func68, Try.ntmps68
    go_wp2_with fail
    refine (sIssueOk_is HX _ _ _ _ rfl HA.out.hl HA.out.hA).mono ?_
    rintro e w' ⟨rfl, m2, rfl⟩
    go_wp2_with fail
    refine (sIssueOk_is HY _ _ _ _ rfl HB.out.hl (by exact HB.out.hA)).mono ?_
    rintro e w' ⟨rfl, m3, rfl⟩
    go_wp2_with fail
    go_ret
    exact ⟨_, rfl, by rw [HF.out]; exact Owns.lit _ _ [] (Nat.le_refl _) (by simp [maxLen]), (bel_drewN (Below.refl _ _) _).alloc (Nat.le_refl _) _⟩
  have h1 := HX.out
  have h2 := HY.out
  obtain ⟨hla, hla2⟩ := issue_ne h1
  obtain ⟨hlb, hlb2⟩ := issue_ne h2
  have HRA := Lib.hid (issue_range h1)
  have HRB := Lib.hid (issue_range h2)
  have HF := Lib.hid (both_eq h1 h2)
  have HS := Lib.hid (sets_range (bothX_sets (b := b) h1))
  have HP2 : Hid ((bothX a b).length ≤ 4900) := by unfold Hid; rw [bothX_len]; exact Nat.le_trans (Nat.mul_le_mul hla2 hlb2) (by omega)
  clear h1 h2
  go_enter Try.func68, Try.ntmps68
  go_wp2_with fail
  refine (sIssueOk_is HX _ _ _ _ rfl HA.out.hl HA.out.hA).mono ?_
  rintro e w' ⟨rfl, m4, rfl⟩
  go_wp2_with fail
  refine (sIssueOk_is HY _ _ _ _ rfl HB.out.hl (by exact HB.out.hA)).mono ?_
  rintro e w' ⟨rfl, m5, rfl⟩
  go_wp2_with fail
  go_loopw [7, 8] (fun v i wr => ∃ k : Nat, k ≤ a.length ∧ i = .int .i64 k ∧ Owns wr w.heap.size v (bothTo a b k 0) ∧ Below w.heap.size w wr) (fun _ i _ => a.length - (Go.RowKit.intOf i).toNat)
  case atStart => exact ⟨0, Nat.zero_le _, rfl, by rw [bothTo_zero]; exact Owns.lit _ _ [] (Nat.le_refl _) (by simp [maxLen]), (bel_drewN (Below.refl _ _) _).alloc (Nat.le_refl _) _⟩
  case round =>
    obtain ⟨k, hk, rfl, hown, hbel⟩ := hrel
    have HOW := Lib.hid hown
    have HBW := Lib.hid hbel
    clear hown hbel
    by_cases hlt : k < a.length
    · obtain ⟨bb, off, x, rfl, _, hx, hbb⟩ := (HA.out.hA.below HBW.out).elem hlt
      obtain ⟨he1, he2⟩ := HRA.out x (elem_mem hx)
      have hd : decide ((k : Int) < (a.length : Int)) = true := decide_eq_true (by omega)
      go_wp2_with fail
      clear hd
      go_loopw [7, 9] (fun v i wi => ∃ j : Nat, j ≤ b.length ∧ i = .int .i64 j ∧ Owns wi w.heap.size v (bothTo a b k j) ∧ Below w.heap.size w wi) (fun _ i _ => b.length - (Go.RowKit.intOf i).toNat)
      case atStart => exact ⟨0, Nat.zero_le _, rfl, HOW.out, HBW.out⟩
      case round =>
        obtain ⟨j, hj, rfl, hown, hbel⟩ := hrel
        have HOI := Lib.hid hown
        have HBI := Lib.hid hbel
        clear hown hbel
        by_cases hjt : j < b.length
        · obtain ⟨bb1, off1, x1, hAe, hcell1, hx1, _⟩ := (HA.out.hA.below HBI.out).elem hlt
          simp only [Option.some.injEq, Addr.mk.injEq] at hAe
          obtain ⟨rfl, rfl, _⟩ := hAe
          obtain rfl : x1 = x := by have := hx1.out; rw [hx.out] at this; cases this; rfl
          obtain ⟨bb2, off2, y, rfl, hcell, hy, _⟩ := (HB.out.hA.below HBI.out).elem hjt
          obtain ⟨hf1, hf2⟩ := HRB.out y (elem_mem hy)
          have HT := Lib.hid (bothTo_in hx hy)
          have hsm := bothTo_small hla2 hlb2 k j hk
          have hj1 : (j : Int) < (b.length : Int) := by omega
          have hk1 : (k : Int) < (a.length : Int) := by omega
          go_wp2_with fail
          go_region_law (first | (refine step_append1 rfl _ _ rfl w.heap.size u7 (bothTo a b k j) rfl (by exact HOI.out) _ rfl (by omega) HBI.out.size ?_; intro v' w' hown' hgrow) | (go_simp; go_at_call 52; refine (sBothS _ _ he1 he2 hf1 hf2 _).mono ?_; rintro e w' ⟨rfl, m, rfl⟩))
          all_goals
            have hb' := below_append (bel_drewN HBI.out _) (by exact HBI.out.size) (by exact HOI.out) (Nat.le_refl _) hgrow
            go_wp2_with fail
            go_roundw
            case rel => exact ⟨j + 1, by omega, by go_num, by rw [HT.out]; exact hown', hb'⟩
            case measure => simp [Go.RowKit.intOf]; omega
        · obtain rfl : j = b.length := by omega
          have HT := Lib.hid (bothTo_out (b := b) hx)
          go_wp2_with fail
          go_roundw
          case rel => exact ⟨k + 1, by omega, by go_num, by rw [HT.out]; exact HOI.out, HBI.out⟩
          case measure => simp [Go.RowKit.intOf]; omega
    · obtain rfl : k = a.length := by omega
      have HE : Hid (bothTo a b a.length 0 = bothX a b) := bothTo_end a b
      rw [HE.out] at HOW
      obtain ⟨A1, c1, rfl, hc1, hm1, hn1, _⟩ := HOW.out.form
      have HN1 := Lib.hid hn1
      have hle : (bothX a b).length ≤ 1048576 := by have := HP2.out; omega
      clear hm1 hn1
      go_wp2_with fail
      refine (sTidy _ _ _ (bothX a b) _ rfl hle HS.out HN1.out).mono ?_
      rintro e w2 ⟨v, rfl, ho, hb⟩
      have HO2 := Lib.hid ho
      have HB2 := Lib.hid (bel_trans HBW.out hb)
      have hsz := HBW.out.size
      clear ho hb
      go_wp2_with fail
      go_ret
      exact ⟨_, rfl, by rw [HF.out]; exact HO2.out.base hsz, HB2.out⟩

set_option maxRecDepth 100000 in
set_option maxHeartbeats 4000000 in
theorem sEitherIssue (t : Int) (A B : Option Addr) (na ca nb cb : Nat) (a b : List Int) (w : World) (ha : Row w A na ca a) (hb : Row w B nb cb b) :
    Calls Try.prog 69 #[.int .i64 t, .slice A na ca, .slice B nb cb] w fun e w' => ∃ v, e = .returned v ∧ Owns w' w.heap.size v (eitherL t a b) ∧ Below w.heap.size w w' := by
  have HA := Lib.hid ha
  have HB := Lib.hid hb
  obtain rfl := ha.hn
  obtain rfl := hb.hn
  clear ha hb
  obtain ⟨x, HX⟩ : ∃ x, Hid (issueOkB t a = x) := ⟨_, rfl⟩
  cases x
  · have HF := Lib.hid (either_nil (b := b) (okTwo_no1 HX))
    go_enter Try.func69, Try.ntmps69
    go_wp2_with fail
    refine (sIssueOk_is HX _ _ _ _ rfl HA.out.hl HA.out.hA).mono ?_
    rintro e w' ⟨rfl, m1, rfl⟩
    go_wp2_with fail
    go_ret
    exact ⟨_, rfl, by rw [HF.out]; exact Owns.lit _ _ [] (Nat.le_refl _) (by simp [maxLen]), (bel_drewN (Below.refl _ _) _).alloc (Nat.le_refl _) _⟩
  obtain ⟨y, HY⟩ : ∃ y, Hid (issueOkB t b = y) := ⟨_, rfl⟩
  cases y
  · have HF := Lib.hid (either_nil (okTwo_no HX HY))
    go_enter Try.func69, Try.ntmps69
    go_wp2_with fail
    refine (sIssueOk_is HX _ _ _ _ rfl HA.out.hl HA.out.hA).mono ?_
    rintro e w' ⟨rfl, m2, rfl⟩
    go_wp2_with fail
    refine (sIssueOk_is HY _ _ _ _ rfl HB.out.hl (by exact HB.out.hA)).mono ?_
    rintro e w' ⟨rfl, m3, rfl⟩
    go_wp2_with fail
    go_ret
    exact ⟨_, rfl, by rw [HF.out]; exact Owns.lit _ _ [] (Nat.le_refl _) (by simp [maxLen]), (bel_drewN (Below.refl _ _) _).alloc (Nat.le_refl _) _⟩
  have h1 := HX.out
  have h2 := HY.out
  obtain ⟨hla, hla2⟩ := issue_ne h1
  obtain ⟨hlb, hlb2⟩ := issue_ne h2
  have HF := Lib.hid (either_eq h1 h2)
  have HS := Lib.hid (sets_range (eitherX_sets h1 h2))
  clear h1 h2
  obtain ⟨ab, HAB⟩ : ∃ l, Hid (a ++ b = l) := ⟨_, rfl⟩
  have hle : ab.length ≤ 1048576 := by rw [← HAB.out, List.length_append]; omega
  rw [HAB.out] at HF HS
  go_enter Try.func69, Try.ntmps69
  go_wp2_with fail
  refine (sIssueOk_is HX _ _ _ _ rfl HA.out.hl HA.out.hA).mono ?_
  rintro e w' ⟨rfl, m4, rfl⟩
  go_wp2_with fail
  refine (sIssueOk_is HY _ _ _ _ rfl HB.out.hl (by exact HB.out.hA)).mono ?_
  rintro e w' ⟨rfl, m5, rfl⟩
  have HB0 : Hid (Below w.heap.size w ((w.drewN (m4 + m5)).alloc (.cells #[] 3))) := (bel_drewN (Below.refl _ _) _).alloc (Nat.le_refl _) _
  have HO0 : Hid (Owns ((w.drewN (m4 + m5)).alloc (.cells #[] 3)) w.heap.size (.slice (some ⟨w.heap.size, 0, none⟩) 0 0) []) := Owns.lit (w.drewN (m4 + m5)) w.heap.size [] (Nat.le_refl _) (by simp [maxLen])
  go_wp2_with (at_builtin; first
    | (refine wp_appendL rfl _ _ rfl w.heap.size (.slice (some ⟨w.heap.size, 0, none⟩) 0 0) [] rfl HO0.out a A a.length ca rfl rfl hla (HA.out.hA.below HB0.out) (by simp; omega) HB0.out.size ?_; intro v2 w2 hown2 hgrow2; have HO2 := Lib.hid hown2; have HB2 := Lib.hid (below_appendL HB0.out HB0.out.size HO0.out (Nat.le_refl _) hgrow2); clear hown2 hgrow2 HO0 HB0)
    | (refine wp_appendL rfl _ _ rfl w.heap.size v2 a rfl HO2.out b B b.length cb rfl rfl hlb (HB.out.hA.below HB2.out) (by omega) HB2.out.size ?_; intro v3 w3 hown3 hgrow3))
  rw [HAB.out] at hown3
  have HO3 := Lib.hid hown3
  have HB3 := Lib.hid (below_appendL HB2.out HB2.out.size HO2.out (Nat.le_refl _) hgrow3)
  clear hown3 hgrow3
  obtain ⟨A1, c1, rfl, hc1, hm1, hn1, _⟩ := HO3.out.form
  have HN1 := Lib.hid hn1
  have hsz1 := HB3.out.size
  clear hm1 hn1
  go_wp2_with fail
  refine (sTidy _ _ _ ab _ rfl hle HS.out HN1.out).mono ?_
  rintro e w4 ⟨v, rfl, ho, hb⟩
  have HO4 := Lib.hid ho
  have HB4 := Lib.hid (bel_trans HB3.out hb)
  clear ho hb
  go_wp2_with fail
  go_ret
  exact ⟨_, rfl, by rw [HF.out]; exact HO4.out.base hsz1, HB4.out⟩
end Go.Proofs.Ytmdogidflaplkaa

namespace Go.Proofs.Ytmdogidflaplkaa
open Go.RowKit

set_option maxRecDepth 100000 in
set_option maxHeartbeats 4000000 in
theorem sIfIssue (t : Int) (A B : Option Addr) (na ca nb cb : Nat) (a b : List Int) (w : World) (ha : Row w A na ca a) (hb : Row w B nb cb b) :
    Calls Try.prog 70 #[.int .i64 t, .slice A na ca, .slice B nb cb] w fun e w' => ∃ v, e = .returned v ∧ Owns w' w.heap.size v (ifL t a b) ∧ Below w.heap.size w w' := by
  have HA := Lib.hid ha
  have HB := Lib.hid hb
  obtain rfl := ha.hn
  obtain rfl := hb.hn
  have hbl := hb.hl
  clear ha hb
  obtain ⟨x, HX⟩ : ∃ x, Hid (issueOkB t a = x) := ⟨_, rfl⟩
  cases x
  · have HF := Lib.hid (if_nil (b := b) (okTwo_no1 HX))
    go_enter Try.func70, Try.ntmps70
    go_wp2_with fail
    refine (sIssueOk_is HX _ _ _ _ rfl HA.out.hl HA.out.hA).mono ?_
    rintro e w' ⟨rfl, m1, rfl⟩
    go_wp2_with fail
    go_ret
    exact ⟨_, rfl, by rw [HF.out]; exact Owns.lit _ _ [] (Nat.le_refl _) (by simp [maxLen]), (bel_drewN (Below.refl _ _) _).alloc (Nat.le_refl _) _⟩
  obtain ⟨y, HY⟩ : ∃ y, Hid (issueOkB t b = y) := ⟨_, rfl⟩
  cases y
  · have HF := Lib.hid (if_nil (okTwo_no HX HY))
    go_enter Try.func70, Try.ntmps70
    go_wp2_with fail
    refine (sIssueOk_is HX _ _ _ _ rfl HA.out.hl HA.out.hA).mono ?_
    rintro e w' ⟨rfl, m2, rfl⟩
    go_wp2_with fail
    refine (sIssueOk_is HY _ _ _ _ rfl HB.out.hl (by exact HB.out.hA)).mono ?_
    rintro e w' ⟨rfl, m3, rfl⟩
    go_wp2_with fail
    go_ret
    exact ⟨_, rfl, by rw [HF.out]; exact Owns.lit _ _ [] (Nat.le_refl _) (by simp [maxLen]), (bel_drewN (Below.refl _ _) _).alloc (Nat.le_refl _) _⟩
  have h1 := HX.out
  have h2 := HY.out
  obtain ⟨hla, hla2⟩ := issue_ne h1
  obtain ⟨ht1, ht3⟩ := issue_things h1
  have HRA := Lib.hid (issue_range h1)
  have HRB := Lib.hid (issue_range h2)
  have HF := Lib.hid (if_eq h1 h2)
  have HS := Lib.hid (sets_range (ifX_sets (b := b) h1))
  obtain ⟨al, hal⟩ : ∃ n : Nat, n = (allOf t).toNat := ⟨_, rfl⟩
  have h0 := allOf_lt t
  have HAL : Hid (allOf t = (al : Int)) := by unfold Hid; omega
  have hal2 : al < 256 := by omega
  have HAL2 : Hid ((allOf t + 1).toNat = al + 1) := by unfold Hid; omega
  rw [HAL2.out] at HF HS
  clear h1 h2 hal h0
  go_enter Try.func70, Try.ntmps70
  go_wp2_with fail
  refine (sIssueOk_is HX _ _ _ _ rfl HA.out.hl HA.out.hA).mono ?_
  rintro e w' ⟨rfl, m4, rfl⟩
  go_wp2_with fail
  refine (sIssueOk_is HY _ _ _ _ rfl HB.out.hl (by exact HB.out.hA)).mono ?_
  rintro e w' ⟨rfl, m5, rfl⟩
  go_wp2_with fail
  go_loopw [7, 8] (fun v i wr => ∃ k : Nat, k ≤ al + 1 ∧ i = .int .i64 k ∧ Owns wr w.heap.size v (ifTo a b k) ∧ Below w.heap.size w wr) (fun _ i _ => al + 1 - (Go.RowKit.intOf i).toNat)
  case atStart => exact ⟨0, Nat.zero_le _, rfl, by rw [if_zero]; exact Owns.lit _ _ [] (Nat.le_refl _) (by simp [maxLen]), (bel_drewN (Below.refl _ _) _).alloc (Nat.le_refl _) _⟩
  case round =>
    obtain ⟨k, hk, rfl, hown, hbel⟩ := hrel
    have HOW := Lib.hid hown
    have HBW := Lib.hid hbel
    clear hown hbel
    by_cases hlt : k ≤ al
    · have hd : decide ((k : Int) ≤ (al : Int)) = true := decide_eq_true (by omega)
      go_wp2_with fail
      refine (sAll _ _ ht1 ht3).mono ?_
      rintro e w' ⟨rfl, rfl⟩
      rw [HAL.out]
      go_wp2_with fail
      clear hd
      go_loopw [9, 10] (fun g j wi => ∃ (i : Nat) (gb : Bool), i ≤ a.length ∧ j = .int .i64 i ∧ g = .bool gb ∧ Hid (goodB (a.take i) b k = gb) ∧ ∃ m, wi = wr.drewN m) (fun _ j _ => a.length - (Go.RowKit.intOf j).toNat)
      case atStart => exact ⟨0, true, Nat.zero_le _, rfl, rfl, rfl, 0, rfl⟩
      case round =>
        obtain ⟨i, gb, hi, rfl, rfl, hg, m, rfl⟩ := hrel
        by_cases hit : i < a.length
        · obtain ⟨bb, off, x, rfl, hcell, hx, _⟩ := (HA.out.hA.below HBW.out).elem hit
          obtain ⟨he1, he2⟩ := HRA.out x (elem_mem hx)
          cases gb
          · have HT : Hid (goodB (a.take (i + 1)) b k = false) := by unfold Hid; rw [good_snoc hx, hg.out]; rfl
            go_wp2_with fail
            go_roundw
            case rel => exact ⟨i + 1, false, by omega, by go_num, rfl, HT, _, rfl⟩
            case measure => simp [Go.RowKit.intOf]; omega
          · obtain ⟨v, HV⟩ : ∃ v, Hid (anyWithin (andI (k : Int) x) b = v) := ⟨_, rfl⟩
            have HT : Hid (goodB (a.take (i + 1)) b k = v) := by unfold Hid; rw [good_snoc hx, hg.out, HV.out]; rfl
            have hand0 := andI_nonneg (k : Int) x
            have hand1 := andI_le (k : Int) x (by omega)
            go_wp2_with fail
            refine (sBothS _ _ (by omega) (by omega) he1 he2 _).mono ?_
            rintro e w' ⟨rfl, m2, rfl⟩
            go_wp2_with fail
            refine (sL2Settles_is HV _ _ _ _ rfl hand0 (by omega) HRB.out hbl (HB.out.hA.below (bel_drewN HBW.out _))).mono ?_
            rintro e w' ⟨rfl, m3, rfl⟩
            go_wp2_with fail
            go_roundw
            case rel => exact ⟨i + 1, v, by omega, by go_num, rfl, HT, _, rfl⟩
            case measure => simp [Go.RowKit.intOf]; omega
        · obtain rfl : i = a.length := by omega
          rw [List.take_length] at hg
          have hlen := if_len a b k
          cases gb
          · have HT : Hid (ifTo a b (k + 1) = ifTo a b k) := by unfold Hid; rw [if_next, hg.out]; simp
            go_wp2_with fail
            go_roundw
            case rel => exact ⟨k + 1, by omega, by go_num, by rw [HT.out]; exact HOW.out, bel_drewN HBW.out _⟩
            case measure => simp [Go.RowKit.intOf]; omega
          · have HT : Hid (ifTo a b (k + 1) = ifTo a b k ++ [(k : Int)]) := by unfold Hid; rw [if_next, hg.out]; simp
            have HOW2 : Hid (Owns (wr.drewN m) w.heap.size u7 (ifTo a b k)) := HOW.out
            have HB2 := Lib.hid (bel_drewN HBW.out m)
            go_wp2_with (at_builtin; refine wp_append1 (W := wr.drewN m) rfl _ _ rfl w.heap.size u7 (ifTo a b k) rfl HOW2.out (k : Int) rfl (by omega) HB2.out.size ?_; intro v' w' hown' hgrow)
            have hb' := below_append HB2.out HB2.out.size HOW2.out (Nat.le_refl _) hgrow
            go_roundw
            case rel => exact ⟨k + 1, by omega, by go_num, by rw [HT.out]; exact hown', hb'⟩
            case measure => simp [Go.RowKit.intOf]; omega
    · obtain rfl : k = al + 1 := by omega
      have hd : decide (((al + 1 : Nat) : Int) ≤ (al : Int)) = false := decide_eq_false (by omega)
      have hd' : decide ((al : Int) + 1 ≤ (al : Int)) = false := decide_eq_false (by omega)
      have hlen := if_len a b (al + 1)
      obtain ⟨A1, c1, rfl, hc1, hm1, hn1, _⟩ := HOW.out.form
      have HN1 := Lib.hid hn1
      have hle : (ifTo a b (al + 1)).length ≤ 1048576 := by omega
      clear hm1 hn1
      go_wp2_with fail
      refine (sAll _ _ ht1 ht3).mono ?_
      rintro e w' ⟨rfl, rfl⟩
      rw [HAL.out]
      go_wp2_with fail
      refine (sTidy _ _ _ (ifTo a b (al + 1)) _ rfl hle HS.out HN1.out).mono ?_
      rintro e w2 ⟨v, rfl, ho, hb⟩
      have HO2 := Lib.hid ho
      have HB2 := Lib.hid (bel_trans HBW.out hb)
      have hsz := HBW.out.size
      clear ho hb
      go_wp2_with fail
      go_ret
      exact ⟨_, rfl, by rw [HF.out]; exact HO2.out.base hsz, HB2.out⟩

set_option maxHeartbeats 2000000 in
theorem sNotIssue (t : Int) (A : Option Addr) (na ca : Nat) (a : List Int) (w : World) (ha : Row w A na ca a) :
    Calls Try.prog 66 #[.int .i64 t, .slice A na ca] w fun e w' => ∃ v, e = .returned v ∧ Owns w' w.heap.size v (notL t a) ∧ Below w.heap.size w w' := by
  have HA := Lib.hid ha
  obtain rfl := ha.hn
  clear ha
  obtain ⟨x, HX⟩ : ∃ x, Hid (issueOkB t a = x) := ⟨_, rfl⟩
  cases x
  · have HF := Lib.hid (not_nil HX.out)
    go_enter Try.func66, Try.ntmps66
    go_wp2_with fail
    refine (sIssueOk_is HX _ _ _ _ rfl HA.out.hl HA.out.hA).mono ?_
    rintro e w' ⟨rfl, m1, rfl⟩
    go_wp2_with fail
    go_ret
    exact ⟨_, rfl, by rw [HF.out]; exact Owns.lit _ _ [] (Nat.le_refl _) (by simp [maxLen]), (bel_drewN (Below.refl _ _) _).alloc (Nat.le_refl _) _⟩
  · have HF := Lib.hid (not_eq HX.out)
    go_enter Try.func66, Try.ntmps66
    go_wp2_with fail
    refine (sIssueOk_is HX _ _ _ _ rfl HA.out.hl HA.out.hA).mono ?_
    rintro e w' ⟨rfl, m2, rfl⟩
    go_wp2_with fail
    have hbel : Below w.heap.size w ((w.drewN m2).alloc (.cells #[.int .i64 0] 3)) := (bel_drewN (Below.refl _ _) _).alloc (Nat.le_refl _) _
    have HO : Owns ((w.drewN m2).alloc (.cells #[.int .i64 0] 3)) w.heap.size (.slice (some ⟨w.heap.size, 0, none⟩) 1 1) [0] := Owns.lit (w.drewN m2) w.heap.size [0] (Nat.le_refl _) (by simp [maxLen])
    refine (sIfIssue t A _ a.length ca 1 1 a [0] _ (HA.out.below hbel) (HO.row (by simp))).mono ?_
    rintro e w1 ⟨v, rfl, ho, hb⟩
    have HO1 := Lib.hid ho
    have HB1 := Lib.hid (hbel.trans (hb.mono (by rw [World.size_alloc]; exact Nat.le_succ _)))
    clear ho hb HO hbel
    go_wp2_with fail
    go_ret
    exact ⟨_, rfl, by rw [HF.out]; exact HO1.out.base (by rw [World.size_alloc]; exact Nat.le_succ _), HB1.out⟩

set_option maxHeartbeats 2000000 in
theorem sWhetherIssue (t : Int) (A : Option Addr) (na ca : Nat) (a : List Int) (w : World) (ha : Row w A na ca a) :
    Calls Try.prog 67 #[.int .i64 t, .slice A na ca] w fun e w' => ∃ v, e = .returned v ∧ Owns w' w.heap.size v (whetherL t a) ∧ Below w.heap.size w w' := by
  have HA := Lib.hid ha
  obtain rfl := ha.hn
  have hnl := not_len t a
  have HW := Lib.hid (whether_all (t := t) (a := a))
  clear ha
  obtain ⟨x, HX⟩ : ∃ x, Hid (issueOkB t a = x) := ⟨_, rfl⟩
  cases x
  · have HF : Hid (whetherL t a = []) := by unfold Hid whetherL; rw [HX.out]; rfl
    go_enter Try.func67, Try.ntmps67
    go_wp2_with fail
    refine (sIssueOk_is HX _ _ _ _ rfl HA.out.hl HA.out.hA).mono ?_
    rintro e w' ⟨rfl, m1, rfl⟩
    go_wp2_with fail
    go_ret
    exact ⟨_, rfl, by rw [HF.out]; exact Owns.lit _ _ [] (Nat.le_refl _) (by simp [maxLen]), (bel_drewN (Below.refl _ _) _).alloc (Nat.le_refl _) _⟩
  · go_enter Try.func67, Try.ntmps67
    go_wp2_with fail
    refine (sIssueOk_is HX _ _ _ _ rfl HA.out.hl HA.out.hA).mono ?_
    rintro e w' ⟨rfl, m2, rfl⟩
    go_wp2_with fail
    refine (sNotIssue t A _ ca a _ (HA.out.drewN _)).mono ?_
    rintro e w1 ⟨v, rfl, ho, hb⟩
    obtain ⟨A1, c1, rfl, hc1, hm1, hn1, _⟩ := ho.form
    have HR1 := Lib.hid (ho.row (by omega))
    have HB1 := Lib.hid (bel_trans (bel_drewN (Below.refl _ _) m2) hb)
    have hsz1 := HB1.out.size
    clear ho hb hm1 hn1
    go_wp2_with fail
    refine (sEitherIssue t A _ _ _ _ _ a (notL t a) _ (HA.out.below HB1.out) HR1.out).mono ?_
    rintro e w2 ⟨v, rfl, ho, hb⟩
    have HO2 := Lib.hid ho
    have HB2 := Lib.hid (bel_trans HB1.out hb)
    clear ho hb
    go_wp2_with fail
    go_ret
    exact ⟨_, rfl, by rw [HW.out]; exact HO2.out.base hsz1, HB2.out⟩

end Go.Proofs.Ytmdogidflaplkaa

namespace Go.Proofs.Ytmdogidflaplkaa
open Go.RowKit

def TwoPost (g u : Nat) (w : World) (e : Ending) (w' : World) : Prop :=
  ∃ (t : Int) (v1 : Value) (xs : List Int) (v2 : Value) (ys : List Int), e = .returned (.tuple #[.int .i64 t, v1, v2]) ∧ -1 ≤ t ∧ t ≤ 4 ∧ Owns w' w.heap.size v1 xs ∧ xs.length ≤ 257 ∧ Owns w' w.heap.size v2 ys ∧ ys.length ≤ 257 ∧ Rd w' g (u + 120) ∧ w.grownBy w' (some g)
theorem either_len {t : Int} {a b : List Int} : (eitherL t a b).length ≤ 70 := by
  cases h : okTwo t a b
  · rw [either_nil h]; simp
  · obtain ⟨h1, h2⟩ := okTwo_ok h
    exact (issue_ne (either_ok h1 h2)).2

def DrawTLL (w : World) (e : Ending) (w' : World) : Prop :=
  ∃ (t : Int) (v1 : Value) (xs : List Int) (v2 : Value) (ys : List Int), e = .returned (.tuple #[.int .i64 t, v1, v2]) ∧ -1 ≤ t ∧ t ≤ 4 ∧ Owns w' w.heap.size v1 xs ∧ xs.length ≤ 257 ∧ Owns w' w.heap.size v2 ys ∧ ys.length ≤ 257 ∧ Below w.heap.size w w'
def DrawTL2 (w : World) (e : Ending) (w' : World) : Prop :=
  ∃ (t : Int) (v1 : Value) (xs : List Int), e = .returned (.tuple #[.int .i64 t, v1]) ∧ -1 ≤ t ∧ t ≤ 4 ∧ Owns w' w.heap.size v1 xs ∧ xs.length ≤ 257 ∧ Below w.heap.size w w'

end Go.Proofs.Ytmdogidflaplkaa

namespace Go.Proofs.Ytmdogidflaplkaa
open Go.RowKit

theorem Nums.later {k : IntKind} {w w' : World} {A A2 : Option Addr} {n2 c2 : Nat} {xs : List Int} {B : Nat} (h : Nums k w A xs) (hg : w.grownBy w' (Value.slice A2 n2 c2).ownBlock)
    (h1 : ∀ ad, A = some ad → B ≤ ad.block) (h2 : ∀ ad, A2 = some ad → ad.block < B) : Nums k w' A xs := by
  refine h.grown hg fun ad ha e => ?_
  have hb := h1 ad ha
  cases A2 with
  | none => cases e
  | some ad2 =>
    have : ad.block = ad2.block := by simpa [Value.ownBlock] using e
    have := h2 ad2 rfl
    omega
theorem Owns.later {w w' : World} {base : Nat} {v : Value} {A2 : Option Addr} {n2 c2 : Nat} {xs : List Int} (h : Owns w base v xs) (hg : w.grownBy w' (Value.slice A2 n2 c2).ownBlock) (h2 : ∀ ad, A2 = some ad → ad.block < base) : Owns w' base v xs := by
  refine h.kept hg ?_
  cases e : v.ownBlock with
  | none => exact .inl rfl
  | some k =>
    right
    intro e2
    have := (World.ownsRow.lt h k e).1
    cases A2 with
    | none => cases e2
    | some ad2 =>
      have e3 : k = ad2.block := by simpa [Value.ownBlock] using e2
      have := h2 ad2 rfl
      omega
theorem both_len {t : Int} {a b : List Int} : (bothL t a b).length ≤ 70 := by
  cases h : okTwo t a b
  · rw [both_nil h]; simp
  · obtain ⟨h1, h2⟩ := okTwo_ok h
    exact (issue_ne (both_ok h1 h2)).2
theorem if_le {t : Int} {a b : List Int} : (ifL t a b).length ≤ 70 := by
  cases h : okTwo t a b
  · rw [if_nil h]; simp
  · obtain ⟨h1, h2⟩ := okTwo_ok h
    exact (issue_ne (if_ok h1 h2)).2
theorem whether_len {t : Int} {a : List Int} : (whetherL t a).length ≤ 70 := by rw [whether_all]; exact either_len

end Go.Proofs.Ytmdogidflaplkaa

namespace Go.Proofs.Ytmdogidflaplkaa
open Go.RowKit

theorem rSettles {t : Int} {xs : List Int} {s : Int} {b : Bool} (h : Hid (settlesB t xs s = b)) {A : Option Addr} {nn c : Nat} {w : World} (r : Row w A nn c xs) :
    Calls Try.prog 57 #[.int .i64 t, .slice A nn c, .int .i64 s] w fun e w' => e = .returned (.bool b) ∧ ∃ n, w' = w.drewN n := iSettles_is h _ _ _ _ r.hn r.hl r.hc r.hm r.hA
theorem rIssueOk {t : Int} {xs : List Int} {b : Bool} (h : Hid (issueOkB t xs = b)) {A : Option Addr} {nn c : Nat} {w : World} (r : Row w A nn c xs) :
    Calls Try.prog 64 #[.int .i64 t, .slice A nn c] w fun e w' => e = .returned (.bool b) ∧ ∃ n, w' = w.drewN n := iIssueOk_is h _ _ _ _ r.hn r.hl r.hc r.hm r.hA
theorem rSIssueOk {t : Int} {xs : List Int} {b : Bool} (h : Hid (issueOkB t xs = b)) {A : Option Addr} {nn c : Nat} {w : World} (r : Row w A nn c xs) :
    Calls Try.prog 84 #[.int .i64 t, .slice A nn c] w fun e w' => e = .returned (.bool b) ∧ ∃ n, w' = w.drewN n := sIssueOk_is h _ _ _ _ r.hn r.hl r.hA
theorem same_self (xs : List Int) : Hid (decide (xs = xs) = true) := decide_eq_true rfl
theorem not_empty {t : Int} {r : List Int} (h : issueOkB t r = true) : ((r.length : Int) == 0) = false := by
  have := (issue_ne h).1
  rw [beq_eq_false_iff_ne]; omega

end Go.Proofs.Ytmdogidflaplkaa
