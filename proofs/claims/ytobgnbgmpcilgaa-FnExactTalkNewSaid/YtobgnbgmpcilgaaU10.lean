/-
  What the proofs of this seat's statements share (TlkN).
-/
import Derived.Test.YtobgnbgmpcilgaaU8
import Derived.Test.YtobgnbgmpcilgaaU9

namespace Go.Proofs.Ytobgnbgmpcilgaa
open Go.RowKit

theorem word_all {t : Int} (h1 : 1 ≤ t) (h3 : t ≤ 3) : ∃ n, worldsOf t = ((n : Nat) : Int) ∧ n ≤ 8 ∧ ((wordTo 49 n : Nat) : Int) = allOf t := by
  have h : t = 1 ∨ t = 2 ∨ t = 3 := by omega
  rcases h with rfl | rfl | rfl
  · exact ⟨2, rfl, by decide, by decide⟩
  · exact ⟨4, rfl, by decide, by decide⟩
  · exact ⟨8, rfl, by decide, by decide⟩
/-- The number of things of a new talk, its set. -/
def newN (t : Int) : Int := if 1 ≤ t ∧ t ≤ 3 then t else 0
def newK (t : Int) : Int := if 1 ≤ t ∧ t ≤ 3 then allOf t else 0
theorem talk_box (w : World) (t k : Int) : Hid (Box (w.alloc (.cells #[.int .i64 t, .int .i64 k, .slice none 0 0, .slice none 0 0] 43)) w.heap.size 43 [.int .i64 t, .int .i64 k, .slice none 0 0, .slice none 0 0]) ∧ Hid (Below w.heap.size w (w.alloc (.cells #[.int .i64 t, .int .i64 k, .slice none 0 0, .slice none 0 0] 43))) :=
  ⟨Box.new w _ [.int .i64 t, .int .i64 k, .slice none 0 0, .slice none 0 0], (Below.refl _ _).alloc (Nat.le_refl _) _⟩
set_option maxRecDepth 100000 in
theorem iTalkNew (t : Int) (w : World) : Calls Try.prog 24 #[.int .i64 t] w fun e w' => e = .returned (.agg #[.int .i64 (newN t), .int .i64 (newK t), .slice none 0 0, .slice none 0 0]) ∧ Below w.heap.size w w' := by
  by_cases h : 1 ≤ t ∧ t ≤ 3
  · obtain ⟨n, hn, hn8, hw⟩ := word_all h.1 h.2
    rw [show newN t = t by unfold newN; rw [if_pos h], show newK t = allOf t by unfold newK; rw [if_pos h], ← hw]
    have HW := Lib.hid (fun W => iWorldsOfWord t n hn hn8 49 W (.inr (.inl rfl)))
    have HN := Lib.hid hn
    obtain ⟨q, hq⟩ : ∃ q, ((wordTo 49 n : Nat) : Int) = q := ⟨_, rfl⟩
    rw [hq] at HW ⊢
    have hd : decide ((n : Int) < 0) = false := decide_eq_false (by omega)
    obtain ⟨HZ, HB⟩ := talk_box w t q
    clear h hn hw hq
    go_enter Try.func24, Try.ntmps24
    go_wp2_with fail
    refine (iWorldsOf _ _).mono ?_
    rintro e w' ⟨rfl, rfl⟩
    rw [HN.out]
    go_wp2_with fail
    refine (HW.out _).mono ?_
    rintro e w' ⟨rfl, rfl⟩
    go_wp2_with fail
    refine bodyPost_ret_by (results_talk (b := w.heap.size) rfl rfl HZ) rfl ⟨rfl, HB.out⟩
  · have hb := worldsOf_bad (t := t) (by omega)
    rw [show newN t = 0 by unfold newN; rw [if_neg h], show newK t = 0 by unfold newK; rw [if_neg h]]
    obtain ⟨HZ, HB⟩ := talk_box w 0 0
    have HN := Lib.hid hb
    clear h hb
    go_enter Try.func24, Try.ntmps24
    go_wp2_with fail
    refine (iWorldsOf _ _).mono ?_
    rintro e w' ⟨rfl, rfl⟩
    rw [HN.out]
    go_wp2_with fail
    refine bodyPost_ret_by (results_talk (b := w.heap.size) rfl rfl HZ) rfl ⟨rfl, HB.out⟩
set_option maxRecDepth 100000 in
theorem sTalkNew (t : Int) (w : World) : Calls Try.prog 23 #[.int .i64 t] w fun e w' => e = .returned (.agg #[.int .i64 (newN t), .int .i64 (newK t), .slice none 0 0, .slice none 0 0]) ∧ Below w.heap.size w w' := by
  by_cases h : 1 ≤ t ∧ t ≤ 3
  · rw [show newN t = t by unfold newN; rw [if_pos h], show newK t = allOf t by unfold newK; rw [if_pos h]]
    have HA := Lib.hid (fun W => sAll t W h.1 h.2)
    have HI := Lib.hid (fun W => sIn_yes t 1 3 W h.1 h.2)
    obtain ⟨q, hq⟩ : ∃ q, allOf t = q := ⟨_, rfl⟩
    rw [hq] at HA ⊢
    obtain ⟨HZ, HB⟩ := talk_box w t q
    clear h hq
    go_enter Try.func23, Try.ntmps23
    go_wp2_with fail
    refine (HI.out _).mono ?_
    rintro e w' ⟨rfl, rfl⟩
    go_wp2_with fail
    refine (HA.out _).mono ?_
    rintro e w' ⟨rfl, rfl⟩
    go_wp2_with fail
    refine bodyPost_ret_by (results_talk (b := w.heap.size) rfl rfl HZ) rfl ⟨rfl, HB.out⟩
  · rw [show newN t = 0 by unfold newN; rw [if_neg h], show newK t = 0 by unfold newK; rw [if_neg h]]
    have HI := Lib.hid (fun W => sIn_no t 1 3 W (by omega))
    obtain ⟨HZ, HB⟩ := talk_box w 0 0
    clear h
    go_enter Try.func23, Try.ntmps23
    go_wp2_with fail
    refine (HI.out _).mono ?_
    rintro e w' ⟨rfl, rfl⟩
    go_wp2_with fail
    refine bodyPost_ret_by (results_talk (b := w.heap.size) rfl rfl HZ) rfl ⟨rfl, HB.out⟩

/-! The laws' helpers at talks without questions. -/
set_option maxRecDepth 100000 in
theorem lEqStringN (w : World) : Calls Try.prog 67 #[.slice none 0 0, .slice none 0 0] w fun e w' => e = .returned (.bool true) ∧ w = w' := by
  go_enter Try.func67, Try.ntmps67
  go_wp2_with fail
  refine wp_loop_rounds 1 ?_
  rw [rounds_succ]
  go_wp2_with fail
  go_ret
  exact ⟨rfl, rfl⟩
set_option maxRecDepth 100000 in
theorem lEqStateN (k : Int) (w : World) : Calls Try.prog 54 #[.agg #[.int .i64 k, .slice none 0 0], .agg #[.int .i64 k, .slice none 0 0]] w fun e w' => e = .returned (.bool true) ∧ Below w.heap.size w w' := by
  have hd : (k != k) = false := by simp
  have hb : Below w.heap.size w ((w.alloc (.cells #[.int .i64 k, .slice none 0 0] 40)).alloc (.cells #[.int .i64 k, .slice none 0 0] 40)) := ((Below.refl _ _).alloc (Nat.le_refl _) _).alloc (by rw [World.size_alloc]; omega) _
  have HB := Lib.hid hb
  clear hb
  go_enter Try.func54, Try.ntmps54
  go_wp2_with fail
  refine (lEqStringN _).mono ?_
  rintro e w' ⟨rfl, rfl⟩
  go_wp2_with fail
  go_ret
  exact ⟨rfl, HB.out⟩
set_option maxRecDepth 100000 in
theorem lEqStateSN (w : World) : Calls Try.prog 55 #[.slice none 0 0, .slice none 0 0] w fun e w' => e = .returned (.bool true) ∧ w = w' := by
  go_enter Try.func55, Try.ntmps55
  go_wp2_with fail
  refine wp_loop_rounds 1 ?_
  rw [rounds_succ]
  go_wp2_with fail
  go_ret
  exact ⟨rfl, rfl⟩
set_option maxRecDepth 100000 in
theorem lEqTalkN (t k : Int) (w : World) : Calls Try.prog 25 #[.agg #[.int .i64 t, .int .i64 k, .slice none 0 0, .slice none 0 0], .agg #[.int .i64 t, .int .i64 k, .slice none 0 0, .slice none 0 0]] w fun e w' => e = .returned (.bool true) ∧ Below w.heap.size w w' := by
  have hd : (t != t) = false := by simp
  obtain ⟨HX, HB⟩ := talk_box w t k
  obtain ⟨HY, HC⟩ := talk_box (w.alloc (.cells #[.int .i64 t, .int .i64 k, .slice none 0 0, .slice none 0 0] 43)) t k
  replace HX := Lib.hid (HX.out.alloc (.cells #[.int .i64 t, .int .i64 k, .slice none 0 0, .slice none 0 0] 43))
  rw [World.size_alloc] at HY
  replace HB := Lib.hid (bel_trans HB.out HC.out)
  clear HC
  go_enter Try.func25, Try.ntmps25
  go_wp2_with fail
  refine (lEqStateN k _).mono ?_
  rintro e w1 ⟨rfl, hb⟩
  replace HB := Lib.hid (bel_trans HB.out hb)
  replace HX := Lib.hid (HX.out.below hb)
  replace HY := Lib.hid (HY.out.below hb)
  have hc := HX.out.cell (i := 3) (v := .slice none 0 0) rfl
  have hc2 := HY.out.cell (i := 3) (v := .slice none 0 0) rfl
  clear hb hd
  go_wp2_with fail
  refine (lEqStateSN _).mono ?_
  rintro e w' ⟨rfl, rfl⟩
  go_wp2_with fail
  go_ret
  exact ⟨rfl, HB.out⟩
set_option maxRecDepth 100000 in
theorem lMarkStringN (m : Int) (w : World) : Calls Try.prog 68 #[.slice none 0 0, .int .i64 m] w fun e w' => e = .returned (.int .i64 m) ∧ w = w' := by
  go_enter Try.func68, Try.ntmps68
  go_wp2_with fail
  refine wp_loop_rounds 1 ?_
  rw [rounds_succ]
  go_wp2_with fail
  go_ret
  exact ⟨rfl, rfl⟩
set_option maxRecDepth 100000 in
theorem lHeldStringN (m : Int) (w : World) : Calls Try.prog 69 #[.slice none 0 0, .int .i64 m] w fun e w' => e = .returned (.int .i64 m) ∧ w = w' := by
  go_enter Try.func69, Try.ntmps69
  go_wp2_with fail
  refine wp_loop_rounds 1 ?_
  rw [rounds_succ]
  go_wp2_with fail
  go_ret
  exact ⟨rfl, rfl⟩
set_option maxRecDepth 100000 in
theorem lMarkStateSN (m : Int) (w : World) : Calls Try.prog 57 #[.slice none 0 0, .int .i64 m] w fun e w' => e = .returned (.int .i64 m) ∧ w = w' := by
  go_enter Try.func57, Try.ntmps57
  go_wp2_with fail
  refine wp_loop_rounds 1 ?_
  rw [rounds_succ]
  go_wp2_with fail
  go_ret
  exact ⟨rfl, rfl⟩
set_option maxRecDepth 100000 in
theorem lHeldStateSN (m : Int) (w : World) : Calls Try.prog 59 #[.slice none 0 0, .int .i64 m] w fun e w' => e = .returned (.int .i64 m) ∧ w = w' := by
  go_enter Try.func59, Try.ntmps59
  go_wp2_with fail
  refine wp_loop_rounds 1 ?_
  rw [rounds_succ]
  go_wp2_with fail
  go_ret
  exact ⟨rfl, rfl⟩
set_option maxRecDepth 100000 in
theorem lMarkStateN (k m : Int) (w : World) : Calls Try.prog 56 #[.agg #[.int .i64 k, .slice none 0 0], .int .i64 m] w fun e w' => e = .returned (.int .i64 m) ∧ Below w.heap.size w w' := by
  go_enter Try.func56, Try.ntmps56
  go_wp2_with fail
  refine (lMarkStringN m _).mono ?_
  rintro e w' ⟨rfl, rfl⟩
  go_wp2_with fail
  go_ret
  exact ⟨rfl, (Below.refl _ _).alloc (Nat.le_refl _) _⟩
set_option maxRecDepth 100000 in
theorem lHeldStateN (k : Int) (m : Nat) (w : World) : Calls Try.prog 58 #[.agg #[.int .i64 k, .slice none 0 0], .int .i64 m] w fun e w' => e = .returned (.int .i64 m) ∧ Below w.heap.size w w' := by
  have hd : decide ((m : Int) < 0) = false := decide_eq_false (by omega)
  go_enter Try.func58, Try.ntmps58
  go_wp2_with fail
  refine (lHeldStringN m _).mono ?_
  rintro e w' ⟨rfl, rfl⟩
  go_wp2_with fail
  go_ret
  exact ⟨rfl, (Below.refl _ _).alloc (Nat.le_refl _) _⟩
set_option maxRecDepth 100000 in
theorem lMarkTalkN (t k : Int) (m : Nat) (w : World) : Calls Try.prog 26 #[.agg #[.int .i64 t, .int .i64 k, .slice none 0 0, .slice none 0 0], .int .i64 m] w fun e w' => e = .returned (.int .i64 m) ∧ Below w.heap.size w w' := by
  have hd : decide ((m : Int) < 0) = false := decide_eq_false (by omega)
  obtain ⟨HX, HB⟩ := talk_box w t k
  go_enter Try.func26, Try.ntmps26
  go_wp2_with fail
  refine (lMarkStateN k m _).mono ?_
  rintro e w1 ⟨rfl, hb⟩
  replace HB := Lib.hid (bel_trans HB.out hb)
  replace HX := Lib.hid (HX.out.below hb)
  have hc := HX.out.cell (i := 3) (v := .slice none 0 0) rfl
  clear hb
  go_wp2_with fail
  refine (lMarkStateSN m _).mono ?_
  rintro e w' ⟨rfl, rfl⟩
  go_wp2_with fail
  go_ret
  exact ⟨rfl, HB.out⟩
set_option maxRecDepth 100000 in
theorem lHeldTalkN (t k : Int) (m : Nat) (w : World) : Calls Try.prog 27 #[.agg #[.int .i64 t, .int .i64 k, .slice none 0 0, .slice none 0 0], .int .i64 m] w fun e w' => e = .returned (.int .i64 m) ∧ Below w.heap.size w w' := by
  have hd : decide ((m : Int) < 0) = false := decide_eq_false (by omega)
  obtain ⟨HX, HB⟩ := talk_box w t k
  go_enter Try.func27, Try.ntmps27
  go_wp2_with fail
  refine (lHeldStateN k m _).mono ?_
  rintro e w1 ⟨rfl, hb⟩
  replace HB := Lib.hid (bel_trans HB.out hb)
  replace HX := Lib.hid (HX.out.below hb)
  have hc := HX.out.cell (i := 3) (v := .slice none 0 0) rfl
  clear hb
  go_wp2_with fail
  refine (lHeldStateSN m _).mono ?_
  rintro e w' ⟨rfl, rfl⟩
  go_wp2_with fail
  go_ret
  exact ⟨rfl, HB.out⟩
set_option maxRecDepth 100000 in
set_option maxHeartbeats 4000000 in
theorem wExactTalkNew (t : Int) (w : World) : Calls Try.prog 6 #[.int .i64 t] w fun e w' => e = .returned (.bool true) ∧ Below w.heap.size w w' := by
  have HS := Lib.hid (fun W => sTalkNew t W)
  have HI := Lib.hid (fun W => iTalkNew t W)
  obtain ⟨n, hn⟩ : ∃ n, newN t = n := ⟨_, rfl⟩
  obtain ⟨k, hk⟩ : ∃ k, newK t = k := ⟨_, rfl⟩
  rw [hn, hk] at HS HI
  clear hn hk
  go_enter Try.func6, Try.ntmps6
  go_wp2_with fail
  refine (HS.out _).mono ?_
  rintro e w1 ⟨rfl, hb⟩
  have HB := Lib.hid (hb.alloc hb.size (.cells #[.int .i64 n, .int .i64 k, .slice none 0 0, .slice none 0 0] 43))
  have HX := (talk_box w1 n k).1
  clear hb
  go_wp2_with fail
  refine (HI.out _).mono ?_
  rintro e w2 ⟨rfl, hb⟩
  replace HB := Lib.hid (bel_trans HB.out hb)
  replace HX := Lib.hid (HX.out.below hb)
  have HY := (talk_box w2 n k).1
  replace HX := Lib.hid (HX.out.alloc (.cells #[.int .i64 n, .int .i64 k, .slice none 0 0, .slice none 0 0] 43))
  replace HB := Lib.hid (HB.out.alloc HB.out.size (.cells #[.int .i64 n, .int .i64 k, .slice none 0 0, .slice none 0 0] 43))
  have hx0 := HX.out.cell (i := 0) (v := .int .i64 n) rfl
  have hx1 := HX.out.cell (i := 1) (v := .int .i64 k) rfl
  have hx2 := HX.out.cell (i := 2) (v := .slice none 0 0) rfl
  have hx3 := HX.out.cell (i := 3) (v := .slice none 0 0) rfl
  clear hb
  go_wp2_with fail
  refine (lEqTalkN n k _).mono ?_
  rintro e w3 ⟨rfl, hb⟩
  clear hx0 hx1 hx2 hx3
  replace HB := Lib.hid (bel_trans HB.out hb)
  replace HX := Lib.hid (HX.out.below hb)
  replace HY := Lib.hid (HY.out.below hb)
  have hy0 := HY.out.cell (i := 0) (v := .int .i64 n) rfl
  have hy1 := HY.out.cell (i := 1) (v := .int .i64 k) rfl
  have hy2 := HY.out.cell (i := 2) (v := .slice none 0 0) rfl
  have hy3 := HY.out.cell (i := 3) (v := .slice none 0 0) rfl
  clear hb
  go_wp2_with fail
  refine (lMarkTalkN n k 1 _).mono ?_
  rintro e w4 ⟨rfl, hb⟩
  clear hy0 hy1 hy2 hy3
  replace HB := Lib.hid (bel_trans HB.out hb)
  replace HX := Lib.hid (HX.out.below hb)
  replace HY := Lib.hid (HY.out.below hb)
  have hy0 := HY.out.cell (i := 0) (v := .int .i64 n) rfl
  have hy1 := HY.out.cell (i := 1) (v := .int .i64 k) rfl
  have hy2 := HY.out.cell (i := 2) (v := .slice none 0 0) rfl
  have hy3 := HY.out.cell (i := 3) (v := .slice none 0 0) rfl
  clear hb
  go_wp2_with fail
  refine (lHeldTalkN n k 1 _).mono ?_
  rintro e w5 ⟨rfl, hb⟩
  clear hy0 hy1 hy2 hy3
  replace HB := Lib.hid (bel_trans HB.out hb)
  replace HX := Lib.hid (HX.out.below hb)
  replace HY := Lib.hid (HY.out.below hb)
  clear hb
  go_wp2_with fail
  refine (HI.out _).mono ?_
  rintro e w6 ⟨rfl, hb⟩
  replace HB := Lib.hid (bel_trans HB.out hb)
  replace HX := Lib.hid ((HX.out.below hb).alloc (.cells #[.int .i64 n, .int .i64 k, .slice none 0 0, .slice none 0 0] 43))
  replace HY := Lib.hid ((HY.out.below hb).alloc (.cells #[.int .i64 n, .int .i64 k, .slice none 0 0, .slice none 0 0] 43))
  replace HB := Lib.hid (HB.out.alloc HB.out.size (.cells #[.int .i64 n, .int .i64 k, .slice none 0 0, .slice none 0 0] 43))
  have hx0 := HX.out.cell (i := 0) (v := .int .i64 n) rfl
  have hx1 := HX.out.cell (i := 1) (v := .int .i64 k) rfl
  have hx2 := HX.out.cell (i := 2) (v := .slice none 0 0) rfl
  have hx3 := HX.out.cell (i := 3) (v := .slice none 0 0) rfl
  clear hb
  go_wp2_with fail
  refine (lEqTalkN n k _).mono ?_
  rintro e w7 ⟨rfl, hb⟩
  clear hx0 hx1 hx2 hx3
  replace HB := Lib.hid (bel_trans HB.out hb)
  replace HY := Lib.hid (HY.out.below hb)
  have hy0 := HY.out.cell (i := 0) (v := .int .i64 n) rfl
  have hy1 := HY.out.cell (i := 1) (v := .int .i64 k) rfl
  have hy2 := HY.out.cell (i := 2) (v := .slice none 0 0) rfl
  have hy3 := HY.out.cell (i := 3) (v := .slice none 0 0) rfl
  clear hb
  go_wp2_with fail
  refine (lHeldTalkN n k 1 _).mono ?_
  rintro e w8 ⟨rfl, hb⟩
  replace HB := Lib.hid (bel_trans HB.out hb)
  clear hb hy0 hy1 hy2 hy3
  go_wp2_with fail
  go_ret
  exact ⟨rfl, HB.out⟩
end Go.Proofs.Ytobgnbgmpcilgaa
