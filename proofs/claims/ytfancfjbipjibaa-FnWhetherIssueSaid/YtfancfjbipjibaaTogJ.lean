/-
  Chapter 2: the program's BothIssues.
-/
import Derived.Test.YtfancfjbipjibaaTogI
namespace Go.Proofs.Ytfancfjbipjibaa
open Go.RowKit

theorem Owns.row {w : World} {base : Nat} {A : Option Addr} {n c : Nat} {xs : List Int} (h : Owns w base (.slice A n c) xs) (hl : xs.length ≤ 1048576) : Row w A n c xs := by
  obtain ⟨A', c', e, hc, hm, hn, _⟩ := h.form
  simp only [Value.slice.injEq] at e
  obtain ⟨rfl, rfl, rfl⟩ := e
  exact ⟨rfl, hl, hc, hm, hn⟩
def bothTo (a b : List Int) (k j : Nat) : List Int := ((a.take k).flatMap fun x => b.map fun y => andI x y) ++ (match a[k]? with | some x => (b.take j).map fun y => andI x y | none => [])
theorem bothTo_zero (a b : List Int) : bothTo a b 0 0 = [] := by unfold bothTo; cases a[0]? <;> simp
theorem bothTo_in {a b : List Int} {k j : Nat} {x y : Int} (hx : Hid (a[k]? = some x)) (hy : Hid (b[j]? = some y)) : bothTo a b k (j + 1) = bothTo a b k j ++ [andI x y] := by
  unfold bothTo; rw [hx.out]; simp only []; rw [take_snoc hy]; simp
theorem bothTo_out {a b : List Int} {k : Nat} {x : Int} (hx : Hid (a[k]? = some x)) : bothTo a b (k + 1) 0 = bothTo a b k b.length := by
  unfold bothTo; rw [hx.out, take_snoc hx]; simp only [List.take_length, List.take_zero, List.map_nil]
  cases a[k + 1]? <;> simp
theorem bothTo_end (a b : List Int) : bothTo a b a.length 0 = bothX a b := by
  unfold bothTo bothX; rw [List.take_length]; simp
theorem bothX_len (a b : List Int) : (bothX a b).length = a.length * b.length := by
  unfold bothX
  induction a with
  | nil => simp
  | cons x r ih => rw [List.flatMap_cons, List.length_append, ih, List.length_map, List.length_cons, Nat.succ_mul]; omega
theorem bothTo_len (a b : List Int) (k j : Nat) (hk : k ≤ a.length) : (bothTo a b k j).length ≤ (k + 1) * b.length := by
  unfold bothTo
  rw [List.length_append]
  have h1 : ((a.take k).flatMap fun x => b.map fun y => andI x y).length = k * b.length := by
    have := bothX_len (a.take k) b
    unfold bothX at this
    rw [this, List.length_take, Nat.min_eq_left hk]
  rw [h1, Nat.succ_mul]
  refine Nat.add_le_add_left ?_ _
  cases a[k]? with
  | none => simp
  | some x => simp only [List.length_map, List.length_take]; omega
theorem bothTo_small {a b : List Int} (ha : a.length ≤ 70) (hb : b.length ≤ 70) (k j : Nat) (hk : k ≤ a.length) : (bothTo a b k j).length ≤ 4970 :=
  Nat.le_trans (bothTo_len a b k j hk) (Nat.le_trans (Nat.mul_le_mul (show k + 1 ≤ 71 by omega) hb) (by omega))
theorem both_nil {t : Int} {a b : List Int} (h : okTwo t a b = false) : bothL t a b = [] := by
  unfold okTwo at h; unfold bothL; rw [h]; rfl
theorem bel_none {B : Nat} {a w w' : World} (h : Below B a w) (hg : w.grownBy w' none) (hB : B ≤ w.heap.size) : Below B a w' :=
  h.grown hg hB (fun k e => by cases e)

set_option maxRecDepth 100000 in
set_option maxHeartbeats 4000000 in
theorem iBothIssues (t : Int) (A B : Option Addr) (na ca nb cb : Nat) (a b : List Int) (w : World) (ha : Row w A na ca a) (hb : Row w B nb cb b) :
    Calls Try.prog 18 #[.int .i64 t, .slice A na ca, .slice B nb cb] w fun e w' => ∃ v, e = .returned v ∧ Owns w' w.heap.size v (bothL t a b) ∧ Below w.heap.size w w' := by
  have HA := Lib.hid ha
  have HB := Lib.hid hb
  obtain rfl := ha.hn
  obtain rfl := hb.hn
  clear ha hb
  obtain ⟨x, HX⟩ : ∃ x, Hid (okTwo t a b = x) := ⟨_, rfl⟩
  cases x
  · have HF := Lib.hid (both_nil HX.out)
    go_enter Try.func18, Try.ntmps18
    go_wp2_with fail
    refine (iIssuesOk_is HX HA.out HB.out).mono ?_
    rintro e w' ⟨rfl, m1, rfl⟩
    go_wp2_with fail
    go_ret
    exact ⟨_, rfl, by rw [HF.out]; exact Owns.nil _ _, bel_drewN (Below.refl _ _) _⟩
  · obtain ⟨h1, h2⟩ := okTwo_ok HX.out
    obtain ⟨hla, hla2⟩ := issue_ne h1
    obtain ⟨hlb, hlb2⟩ := issue_ne h2
    have HRA := Lib.hid (issue_range h1)
    have HRB := Lib.hid (issue_range h2)
    have HF := Lib.hid (both_eq h1 h2)
    have HS := Lib.hid (sets_range (bothX_sets (b := b) h1))
    obtain ⟨p, hp⟩ : ∃ p, p = a.length * b.length := ⟨_, rfl⟩
    have hp2 : p ≤ 4900 := by rw [hp]; exact Nat.le_trans (Nat.mul_le_mul hla2 hlb2) (by omega)
    have hp1 : 1 ≤ p := by rw [hp]; exact Nat.mul_pos hla hlb
    have HP : Hid ((a.length : Int) * (b.length : Int) = (p : Int)) := by unfold Hid; rw [hp]; push_cast; rfl
    have HP2 : Hid ((bothX a b).length = p) := by unfold Hid; rw [hp]; exact bothX_len a b
    obtain ⟨i0, hi, hz0, hz1, hz2⟩ := info_parts int_info
    clear hp h1 h2
    go_enter Try.func18, Try.ntmps18
    go_wp2_with fail
    refine (iIssuesOk_is HX HA.out HB.out).mono ?_
    rintro e w' ⟨rfl, m2, rfl⟩
    go_wp2_with (at_make; refine wpList_make_own _ rfl _ _ 23 rfl w.heap.size 3 i0 (.int .i64 0) 1 Try.underlying23 hi hz0 hz1 .i64 .i64 _ p rfl rfl (by rw [HP.out]; exact IntWalk.wrap64_in _ ⟨by omega, by omega⟩) (by rw [hz2]; omega) (by unfold maxLen; omega) (Nat.le_refl _) ?_; intro w1 hown1 hgrow1)
    clear hi hz0 hz1 hz2 HP
    have HB1 : Hid (Below w.heap.size w w1) := bel_none (w := w.drewN m2) (bel_drewN (Below.refl _ _) _) hgrow1 (Nat.le_refl _)
    have HO1 : Hid (Owns w1 w.heap.size (.slice (some ⟨w.heap.size, 0, none⟩) 0 p) []) := hown1
    clear hown1 hgrow1
    go_loopw [7, 25] (fun v i wr => ∃ k : Nat, k ≤ a.length ∧ i = .int .i64 k ∧ Owns wr w.heap.size v (bothTo a b k 0) ∧ Below w.heap.size w wr) (fun _ i _ => a.length - (Go.RowKit.intOf i).toNat)
    case atStart => exact ⟨0, Nat.zero_le _, rfl, by rw [bothTo_zero]; exact HO1.out, HB1.out⟩
    case round =>
      obtain ⟨k, hk, rfl, hown, hbel⟩ := hrel
      have HOW := Lib.hid hown
      have HBW := Lib.hid hbel
      clear hown hbel
      by_cases hlt : k < a.length
      · obtain ⟨bb, off, x, rfl, hcell, hx, _⟩ := (HA.out.hA.below HBW.out).elem hlt
        obtain ⟨he1, he2⟩ := HRA.out x (elem_mem hx)
        go_wp2_with fail
        clear hcell
        go_loopw [7, 31] (fun v i wi => ∃ j : Nat, j ≤ b.length ∧ i = .int .i64 j ∧ Owns wi w.heap.size v (bothTo a b k j) ∧ Below w.heap.size w wi) (fun _ i _ => b.length - (Go.RowKit.intOf i).toNat)
        case atStart => exact ⟨0, Nat.zero_le _, rfl, HOW.out, HBW.out⟩
        case round =>
          obtain ⟨j, hj, rfl, hown, hbel⟩ := hrel
          have HOI := Lib.hid hown
          have HBI := Lib.hid hbel
          clear hown hbel
          by_cases hjt : j < b.length
          · obtain ⟨bb2, off2, y, rfl, hcell, hy, _⟩ := (HB.out.hA.below HBI.out).elem hjt
            obtain ⟨hf1, hf2⟩ := HRB.out y (elem_mem hy)
            have HBA := Lib.hid (bits_and x y he1 (by omega) hf1 (by omega))
            have HT := Lib.hid (bothTo_in hx hy)
            have hsm := bothTo_small hla2 hlb2 k j hk
            go_wp2_with (at_builtin; refine wp_append1 (W := wr) rfl _ _ rfl w.heap.size u7 (bothTo a b k j) rfl HOI.out _ rfl (by omega) HBI.out.size ?_; intro v' w' hown' hgrow)
            have hb' := below_append HBI.out HBI.out.size HOI.out (Nat.le_refl _) hgrow
            rw [HBA.out] at hown'
            go_roundw
            case rel => exact ⟨j + 1, by omega, by go_num, by rw [HT.out]; exact hown', hb'⟩
            case measure => simp [Go.RowKit.intOf]; omega
          · obtain rfl : j = b.length := by omega
            have HT := Lib.hid (bothTo_out (b := b) hx)
            go_wp2_with fail
            go_roundw
            case rel => exact ⟨k + 1, by omega, by go_num, by rw [HT.out]; exact HOI.out, HBI.out⟩
            case measure => simp [Go.RowKit.intOf]; omega
      · obtain rfl : k = a.length := by omega
        have HE : Hid (bothTo a b a.length 0 = bothX a b) := bothTo_end a b
        rw [HE.out] at HOW
        obtain ⟨A1, c1, rfl, hc1, hm1, hn1, _⟩ := HOW.out.form
        have HN1 := Lib.hid hn1
        have hpos : 1 ≤ (bothX a b).length := by rw [HP2.out]; exact hp1
        have hle : (bothX a b).length ≤ 1048576 := by rw [HP2.out]; omega
        clear hm1 hn1
        go_wp2_with fail
        refine (iGreatest _ _ _ (bothX a b) _ rfl hpos hle HS.out HN1.out).mono ?_
        rintro e w2 ⟨v, rfl, ho, hb⟩
        have HO2 := Lib.hid ho
        have HB2 := Lib.hid (bel_trans HBW.out hb)
        have hsz := HBW.out.size
        clear ho hb
        go_wp2_with fail
        go_ret
        exact ⟨_, rfl, by rw [HF.out]; exact HO2.out.base hsz, HB2.out⟩
end Go.Proofs.Ytfancfjbipjibaa
