/-
  Chapter 2: the model's functions.
-/
import Derived.Test.YtfancfjbipjibaaTogL
import Derived.Deep.AppendLies
import Derived.Deep.RegionLaw
namespace Go.Proofs.Ytfancfjbipjibaa
open Go.RowKit

theorem step_append1 {W : World} {ops : Array Oper} {o : Oper} {a : Act} {K : Act → World → Prop} {Q : Exit → Act → World → Prop} {E : Prop} (hgd : o.guard = none) (s x : Operand)
    (ho : o.op = .call { callee := .builtin .append, args := #[s, x], argTypes := #[23, 23] }) (base : Nat) (v : Value) (xs : List Int) (hs : a.eval s = v) (hown : Owns W base v xs)
    (y : Int) (hx : a.eval x = .slice (some ⟨W.heap.size, 0, none⟩) 1 1) (hl : xs.length ≤ 1048576) (hb : base ≤ W.heap.size)
    (h : ∀ v' w', Owns w' base v' (xs ++ [y]) → (W.alloc (.cells #[.int .i64 y] 3)).grownBy w' v.ownBlock → K (a.put o.dst v') w') :
    if Region.wanted o (yielded ops a.tmps) = true then Oper.wp Try.prog o a (W.alloc (.cells #[.int .i64 y] 3)) K Q else E := by
  have hw : Region.wanted o (yielded ops a.tmps) = true := by simp [Region.wanted, hgd]
  rw [if_pos hw]
  obtain ⟨i0, hi0, hz0, hz1, hz2⟩ := info_parts int_info
  refine wp_append_own _ s x 23 ho base 3 i0 (.int .i64 0) 1 8 Try.underlying23 hi0 hz0 hz1 hz2 rfl (by decide) v xs.length (xs.map (Value.int .i64)) hs (World.ownsRow.alloc hown _)
    ⟨W.heap.size, 0, none⟩ 1 1 [.int .i64 y] hx rfl (cell_one_new _ _ _) (fun u hu => by rw [List.mem_singleton] at hu; subst hu; rfl) (by simp only [maxLen]; omega) (by omega) (by rw [World.size_alloc]; omega) ?_
  intro v' w' h1 h2 _
  refine h v' w' ?_ h2
  unfold Owns
  simpa using h1

theorem okTwo_no {t : Int} {a b : List Int} {y : Bool} (h1 : Hid (issueOkB t a = true)) (h2 : Hid (issueOkB t b = y)) : okTwo t a b = y := by unfold okTwo; rw [h1.out, h2.out]; rfl
theorem okTwo_no1 {t : Int} {a b : List Int} (h1 : Hid (issueOkB t a = false)) : okTwo t a b = false := by unfold okTwo; rw [h1.out]; rfl

set_option maxRecDepth 100000 in
set_option maxHeartbeats 4000000 in
theorem sBothIssues (t : Int) (A B : Option Addr) (na ca nb cb : Nat) (a b : List Int) (w : World) (ha : Row w A na ca a) (hb : Row w B nb cb b) :
    Calls Try.prog 20 #[.int .i64 t, .slice A na ca, .slice B nb cb] w fun e w' => ∃ v, e = .returned v ∧ Owns w' w.heap.size v (bothL t a b) ∧ Below w.heap.size w w' := by
  have HA := Lib.hid ha
  have HB := Lib.hid hb
  obtain rfl := ha.hn
  obtain rfl := hb.hn
  clear ha hb
  obtain ⟨x, HX⟩ : ∃ x, Hid (issueOkB t a = x) := ⟨_, rfl⟩
  cases x
  · have HF := Lib.hid (both_nil (b := b) (okTwo_no1 HX))
    go_enter Try.func20, Try.ntmps20
    go_wp2_with fail
    refine (sIssueOk_is HX _ _ _ _ rfl HA.out.hl HA.out.hA).mono ?_
    rintro e w' ⟨rfl, m1, rfl⟩
    go_wp2_with fail
    go_ret
    exact ⟨_, rfl, by rw [HF.out]; exact Owns.lit _ _ [] (Nat.le_refl _) (by simp [maxLen]), (bel_drewN (Below.refl _ _) _).alloc (Nat.le_refl _) _⟩
  obtain ⟨y, HY⟩ : ∃ y, Hid (issueOkB t b = y) := ⟨_, rfl⟩
  cases y
  · have HF := Lib.hid (both_nil (okTwo_no HX HY))
    go_enter Try.func20, Try.ntmps20
    go_wp2_with fail
    refine (sIssueOk_is HX _ _ _ _ rfl HA.out.hl HA.out.hA).mono ?_
    rintro e w' ⟨rfl, m2, rfl⟩
    go_wp2_with fail
    refine (sIssueOk_is HY _ _ _ _ rfl HB.out.hl (by exact HB.out.hA)).mono ?_
    rintro e w' ⟨rfl, m3, rfl⟩
    go_wp2_with fail
    go_ret
    exact ⟨_, rfl, by rw [HF.out]; exact Owns.lit _ _ [] (Nat.le_refl _) (by simp [maxLen]), (bel_drewN (Below.refl _ _) _).alloc (Nat.le_refl _) _⟩
  have h1 := HX.out
  have h2 := HY.out
  obtain ⟨hla, hla2⟩ := issue_ne h1
  obtain ⟨hlb, hlb2⟩ := issue_ne h2
  have HRA := Lib.hid (issue_range h1)
  have HRB := Lib.hid (issue_range h2)
  have HF := Lib.hid (both_eq h1 h2)
  have HS := Lib.hid (sets_range (bothX_sets (b := b) h1))
  have HP2 : Hid ((bothX a b).length ≤ 4900) := by unfold Hid; rw [bothX_len]; exact Nat.le_trans (Nat.mul_le_mul hla2 hlb2) (by omega)
  clear h1 h2
  go_enter Try.func20, Try.ntmps20
  go_wp2_with fail
  refine (sIssueOk_is HX _ _ _ _ rfl HA.out.hl HA.out.hA).mono ?_
  rintro e w' ⟨rfl, m4, rfl⟩
  go_wp2_with fail
  refine (sIssueOk_is HY _ _ _ _ rfl HB.out.hl (by exact HB.out.hA)).mono ?_
  rintro e w' ⟨rfl, m5, rfl⟩
  go_wp2_with fail
  go_loopw [7, 8] (fun v i wr => ∃ k : Nat, k ≤ a.length ∧ i = .int .i64 k ∧ Owns wr w.heap.size v (bothTo a b k 0) ∧ Below w.heap.size w wr) (fun _ i _ => a.length - (Go.RowKit.intOf i).toNat)
  case atStart => exact ⟨0, Nat.zero_le _, rfl, by rw [bothTo_zero]; exact Owns.lit _ _ [] (Nat.le_refl _) (by simp [maxLen]), (bel_drewN (Below.refl _ _) _).alloc (Nat.le_refl _) _⟩
  case round =>
    obtain ⟨k, hk, rfl, hown, hbel⟩ := hrel
    have HOW := Lib.hid hown
    have HBW := Lib.hid hbel
    clear hown hbel
    by_cases hlt : k < a.length
    · obtain ⟨bb, off, x, rfl, _, hx, hbb⟩ := (HA.out.hA.below HBW.out).elem hlt
      obtain ⟨he1, he2⟩ := HRA.out x (elem_mem hx)
      have hd : decide ((k : Int) < (a.length : Int)) = true := decide_eq_true (by omega)
      go_wp2_with fail
      clear hd
      go_loopw [7, 9] (fun v i wi => ∃ j : Nat, j ≤ b.length ∧ i = .int .i64 j ∧ Owns wi w.heap.size v (bothTo a b k j) ∧ Below w.heap.size w wi) (fun _ i _ => b.length - (Go.RowKit.intOf i).toNat)
      case atStart => exact ⟨0, Nat.zero_le _, rfl, HOW.out, HBW.out⟩
      case round =>
        obtain ⟨j, hj, rfl, hown, hbel⟩ := hrel
        have HOI := Lib.hid hown
        have HBI := Lib.hid hbel
        clear hown hbel
        by_cases hjt : j < b.length
        · obtain ⟨bb1, off1, x1, hAe, hcell1, hx1, _⟩ := (HA.out.hA.below HBI.out).elem hlt
          simp only [Option.some.injEq, Addr.mk.injEq] at hAe
          obtain ⟨rfl, rfl, _⟩ := hAe
          obtain rfl : x1 = x := by have := hx1.out; rw [hx.out] at this; cases this; rfl
          obtain ⟨bb2, off2, y, rfl, hcell, hy, _⟩ := (HB.out.hA.below HBI.out).elem hjt
          obtain ⟨hf1, hf2⟩ := HRB.out y (elem_mem hy)
          have HT := Lib.hid (bothTo_in hx hy)
          have hsm := bothTo_small hla2 hlb2 k j hk
          have hj1 : (j : Int) < (b.length : Int) := by omega
          have hk1 : (k : Int) < (a.length : Int) := by omega
          go_wp2_with fail
          go_region_law (first | (refine step_append1 rfl _ _ rfl w.heap.size u7 (bothTo a b k j) rfl (by exact HOI.out) _ rfl (by omega) HBI.out.size ?_; intro v' w' hown' hgrow) | (go_simp; go_at_call 59; refine (sBothS _ _ he1 he2 hf1 hf2 _).mono ?_; rintro e w' ⟨rfl, m, rfl⟩))
          all_goals
            have hb' := below_append (bel_drewN HBI.out _) (by exact HBI.out.size) (by exact HOI.out) (Nat.le_refl _) hgrow
            go_wp2_with fail
            go_roundw
            case rel => exact ⟨j + 1, by omega, by go_num, by rw [HT.out]; exact hown', hb'⟩
            case measure => simp [Go.RowKit.intOf]; omega
        · obtain rfl : j = b.length := by omega
          have HT := Lib.hid (bothTo_out (b := b) hx)
          go_wp2_with fail
          go_roundw
          case rel => exact ⟨k + 1, by omega, by go_num, by rw [HT.out]; exact HOI.out, HBI.out⟩
          case measure => simp [Go.RowKit.intOf]; omega
    · obtain rfl : k = a.length := by omega
      have HE : Hid (bothTo a b a.length 0 = bothX a b) := bothTo_end a b
      rw [HE.out] at HOW
      obtain ⟨A1, c1, rfl, hc1, hm1, hn1, _⟩ := HOW.out.form
      have HN1 := Lib.hid hn1
      have hle : (bothX a b).length ≤ 1048576 := by have := HP2.out; omega
      clear hm1 hn1
      go_wp2_with fail
      refine (sTidy _ _ _ (bothX a b) _ rfl hle HS.out HN1.out).mono ?_
      rintro e w2 ⟨v, rfl, ho, hb⟩
      have HO2 := Lib.hid ho
      have HB2 := Lib.hid (bel_trans HBW.out hb)
      have hsz := HBW.out.size
      clear ho hb
      go_wp2_with fail
      go_ret
      exact ⟨_, rfl, by rw [HF.out]; exact HO2.out.base hsz, HB2.out⟩

set_option maxRecDepth 100000 in
set_option maxHeartbeats 4000000 in
theorem sEitherIssue (t : Int) (A B : Option Addr) (na ca nb cb : Nat) (a b : List Int) (w : World) (ha : Row w A na ca a) (hb : Row w B nb cb b) :
    Calls Try.prog 29 #[.int .i64 t, .slice A na ca, .slice B nb cb] w fun e w' => ∃ v, e = .returned v ∧ Owns w' w.heap.size v (eitherL t a b) ∧ Below w.heap.size w w' := by
  have HA := Lib.hid ha
  have HB := Lib.hid hb
  obtain rfl := ha.hn
  obtain rfl := hb.hn
  clear ha hb
  obtain ⟨x, HX⟩ : ∃ x, Hid (issueOkB t a = x) := ⟨_, rfl⟩
  cases x
  · have HF := Lib.hid (either_nil (b := b) (okTwo_no1 HX))
    go_enter Try.func29, Try.ntmps29
    go_wp2_with fail
    refine (sIssueOk_is HX _ _ _ _ rfl HA.out.hl HA.out.hA).mono ?_
    rintro e w' ⟨rfl, m1, rfl⟩
    go_wp2_with fail
    go_ret
    exact ⟨_, rfl, by rw [HF.out]; exact Owns.lit _ _ [] (Nat.le_refl _) (by simp [maxLen]), (bel_drewN (Below.refl _ _) _).alloc (Nat.le_refl _) _⟩
  obtain ⟨y, HY⟩ : ∃ y, Hid (issueOkB t b = y) := ⟨_, rfl⟩
  cases y
  · have HF := Lib.hid (either_nil (okTwo_no HX HY))
    go_enter Try.func29, Try.ntmps29
    go_wp2_with fail
    refine (sIssueOk_is HX _ _ _ _ rfl HA.out.hl HA.out.hA).mono ?_
    rintro e w' ⟨rfl, m2, rfl⟩
    go_wp2_with fail
    refine (sIssueOk_is HY _ _ _ _ rfl HB.out.hl (by exact HB.out.hA)).mono ?_
    rintro e w' ⟨rfl, m3, rfl⟩
    go_wp2_with fail
    go_ret
    exact ⟨_, rfl, by rw [HF.out]; exact Owns.lit _ _ [] (Nat.le_refl _) (by simp [maxLen]), (bel_drewN (Below.refl _ _) _).alloc (Nat.le_refl _) _⟩
  have h1 := HX.out
  have h2 := HY.out
  obtain ⟨hla, hla2⟩ := issue_ne h1
  obtain ⟨hlb, hlb2⟩ := issue_ne h2
  have HF := Lib.hid (either_eq h1 h2)
  have HS := Lib.hid (sets_range (eitherX_sets h1 h2))
  clear h1 h2
  obtain ⟨ab, HAB⟩ : ∃ l, Hid (a ++ b = l) := ⟨_, rfl⟩
  have hle : ab.length ≤ 1048576 := by rw [← HAB.out, List.length_append]; omega
  rw [HAB.out] at HF HS
  go_enter Try.func29, Try.ntmps29
  go_wp2_with fail
  refine (sIssueOk_is HX _ _ _ _ rfl HA.out.hl HA.out.hA).mono ?_
  rintro e w' ⟨rfl, m4, rfl⟩
  go_wp2_with fail
  refine (sIssueOk_is HY _ _ _ _ rfl HB.out.hl (by exact HB.out.hA)).mono ?_
  rintro e w' ⟨rfl, m5, rfl⟩
  have HB0 : Hid (Below w.heap.size w ((w.drewN (m4 + m5)).alloc (.cells #[] 3))) := (bel_drewN (Below.refl _ _) _).alloc (Nat.le_refl _) _
  have HO0 : Hid (Owns ((w.drewN (m4 + m5)).alloc (.cells #[] 3)) w.heap.size (.slice (some ⟨w.heap.size, 0, none⟩) 0 0) []) := Owns.lit (w.drewN (m4 + m5)) w.heap.size [] (Nat.le_refl _) (by simp [maxLen])
  go_wp2_with (at_builtin; first
    | (refine wp_appendL rfl _ _ rfl w.heap.size (.slice (some ⟨w.heap.size, 0, none⟩) 0 0) [] rfl HO0.out a A a.length ca rfl rfl hla (HA.out.hA.below HB0.out) (by simp; omega) HB0.out.size ?_; intro v2 w2 hown2 hgrow2; have HO2 := Lib.hid hown2; have HB2 := Lib.hid (below_appendL HB0.out HB0.out.size HO0.out (Nat.le_refl _) hgrow2); clear hown2 hgrow2 HO0 HB0)
    | (refine wp_appendL rfl _ _ rfl w.heap.size v2 a rfl HO2.out b B b.length cb rfl rfl hlb (HB.out.hA.below HB2.out) (by omega) HB2.out.size ?_; intro v3 w3 hown3 hgrow3))
  rw [HAB.out] at hown3
  have HO3 := Lib.hid hown3
  have HB3 := Lib.hid (below_appendL HB2.out HB2.out.size HO2.out (Nat.le_refl _) hgrow3)
  clear hown3 hgrow3
  obtain ⟨A1, c1, rfl, hc1, hm1, hn1, _⟩ := HO3.out.form
  have HN1 := Lib.hid hn1
  have hsz1 := HB3.out.size
  clear hm1 hn1
  go_wp2_with fail
  refine (sTidy _ _ _ ab _ rfl hle HS.out HN1.out).mono ?_
  rintro e w4 ⟨v, rfl, ho, hb⟩
  have HO4 := Lib.hid ho
  have HB4 := Lib.hid (bel_trans HB3.out hb)
  clear ho hb
  go_wp2_with fail
  go_ret
  exact ⟨_, rfl, by rw [HF.out]; exact HO4.out.base hsz1, HB4.out⟩
end Go.Proofs.Ytfancfjbipjibaa
