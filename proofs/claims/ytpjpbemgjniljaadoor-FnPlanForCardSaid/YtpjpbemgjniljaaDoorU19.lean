/-
  What the proofs of this seat's statements share (AskD, AskE, AskX).
-/
import Derived.Deep.OwnRows
import Derived.Test.YtpjpbemgjniljaaDoorU13
import Derived.Test.YtpjpbemgjniljaaDoorU18
import Derived.Test.YtpjpbemgjniljaaDoorU12
import Derived.Test.YtpjpbemgjniljaaDoorU8

namespace Go.Proofs.YtpjpbemgjniljaaDoor
open Go.RowKit

theorem sAll_is7 {t a : Int} (h : Hid (allOf t = a)) (h1 : 1 ≤ t) (h3 : t ≤ 3) (w : World) : Calls Tryd.prog 28 #[.int .i64 t] w fun e w' => e = .returned (.int .i64 a) ∧ w = w' := by
  have := sAll t w h1 h3
  rw [h.out] at this; exact this
theorem num_info : (Tryd.prog.info? 3).map (fun i => (i.zero, i.size, i.bytes)) = some (some (.int .i64 0), 1, 8) := by kernel_rfl
theorem made_six : madeCells #[Value.int .i64 0] 6 = #[.int .i64 0, .int .i64 0, .int .i64 0, .int .i64 0, .int .i64 0, .int .i64 0] := by
  first | kernel_rfl | (apply Array.ext'; simp [madeCells, Nat.mod_one, List.range_succ]) 
theorem run_make_six (W : World) : (Instr.makeSlice 23 (.int .i64 6) (.int .i64 6)).run Tryd.prog W = .ok (.slice (some ⟨W.heap.size, 0, none⟩) 6 6) (W.alloc (.cells #[.int .i64 0, .int .i64 0, .int .i64 0, .int .i64 0, .int .i64 0, .int .i64 0] 3)) := by
  have h := run_make_row' (P := Tryd.prog) 23 3 (.int .i64 0) 8 Tryd.underlying23 num_info rfl .i64 .i64 6 (by omega) (by omega) W
  rw [made_six] at h
  exact h
def TaskPost (g u : Nat) (w : World) (e : Ending) (w' : World) : Prop :=
  ∃ (t : Int) (v : Value) (xs : List Int) (v2 : Value) (ys : List Int) (s : Int), e = .returned (.tuple #[.int .i64 t, v, v2, .int .i64 s]) ∧ -1 ≤ t ∧ t ≤ 4 ∧ Owns w' w.heap.size v xs ∧ xs.length ≤ 6 ∧ Owns w' w.heap.size v2 ys ∧ ys.length ≤ 257 ∧ -1 ≤ s ∧ s ≤ 256 ∧ Rd w' g u ∧ w.grownBy w' (some g)
theorem results_tmp4 {fn : Func} {t0 t1 t2 t3 : Tmp} (h : fn.results = #[.tmp t0, .tmp t1, .tmp t2, .tmp t3]) (tmps : Array Value) (P : Program) (w : World) :
    (results fn tmps).run P w = .ok (.tuple #[tmps.getD t0 undef, tmps.getD t1 undef, tmps.getD t2 undef, tmps.getD t3 undef]) w := by
  simp [results, h]
theorem results_tmp5 {fn : Func} {t0 t1 t2 t3 t4 : Tmp} (h : fn.results = #[.tmp t0, .tmp t1, .tmp t2, .tmp t3, .tmp t4]) (tmps : Array Value) (P : Program) (w : World) :
    (results fn tmps).run P w = .ok (.tuple #[tmps.getD t0 undef, tmps.getD t1 undef, tmps.getD t2 undef, tmps.getD t3 undef, tmps.getD t4 undef]) w := by
  simp [results, h]
theorem results_tmp6 {fn : Func} {t0 t1 t2 t3 t4 t5 : Tmp} (h : fn.results = #[.tmp t0, .tmp t1, .tmp t2, .tmp t3, .tmp t4, .tmp t5]) (tmps : Array Value) (P : Program) (w : World) :
    (results fn tmps).run P w = .ok (.tuple #[tmps.getD t0 undef, tmps.getD t1 undef, tmps.getD t2 undef, tmps.getD t3 undef, tmps.getD t4 undef, tmps.getD t5 undef]) w := by
  simp [results, h]
theorem allOf_pos7 (t : Int) : -1 ≤ allOf t ∧ allOf t ≤ 256 := by have := allOf_lt t; omega
set_option maxRecDepth 100000 in
set_option maxHeartbeats 16000000 in
theorem task_any (g u : Nat) (n : Int) (w : World) (hn : n ≤ 300000) (hn0 : 0 ≤ n) (hu : u ≤ 500000) (hR : Rd w g u) :
    Calls Tryd.prog 13 #[.pointer (some ⟨g, 0, none⟩), .int .i64 n] w (TaskPost g (u + 300) w) := by
  have HR := Lib.hid hR
  have HLT := Lib.hid hR.lt
  have hmk := run_make_six
  clear hR
  go_enter Tryd.func13, Tryd.ntmps13
  go_wp2_with fail
  refine (things_any g u _ _ (by omega) (by omega) (by omega) HR.out).mono ?_
  rintro e w1 ⟨t0, rfl, ht0, ht1, hr, hg⟩
  have HR1 := Lib.hid hr
  have HG1 := Lib.hid hg
  clear hr hg
  by_cases h3 : t0 = 3
  · subst h3
    go_wp2_with fail
    refine (pick_any g _ _ _ (by omega) (by omega) (by omega) HR1.out).mono ?_
    rintro e w2 ⟨kk, rfl, hkk0, hkk1, hr, hg⟩
    have HR2 := Lib.hid hr
    have HG2 := Lib.hid (HG1.out.trans hg)
    clear hr hg hkk1
    by_cases hz : kk = 0
    · subst hz
      have HL := Lib.hid (Owns.lit w2 w.heap.size [] HG2.out.size (by simp [maxLen]))
      go_wp2_with fail
      refine (pick_any g (u + 2 + 1) _ _ (by omega) (by omega) (by omega) (by exact HR2.out.alloc _)).mono ?_
      rintro e w3 ⟨k0, rfl, hk0, hk1, hr, hg⟩
      have hkk := hk1 (by omega)
      have HR3 := Lib.hid hr
      have HG3 := Lib.hid ((grown_alloc HG2.out _).trans hg)
      have HO3 := Lib.hid (owns_grown HL.out hg HLT.out)
      clear hr hg hk1 HL
      go_wp2_with fail
      go_loopw [9, 10] (fun v q wr => ∃ (k : Nat) (ys : List Int), k ≤ 4 ∧ q = .int .i64 k ∧ Hid (ys.length + k ≤ 4) ∧ Owns wr w.heap.size v ys ∧ Rd wr g (u + 8 + 8 * ys.length) ∧ w.grownBy wr (some g)) (fun _ q _ => (Go.RowKit.intOf q).toNat)
      case atStart => exact ⟨k0.toNat, [], by omega, by rw [show ((k0.toNat : Nat) : Int) = k0 by omega], by unfold Hid; simp; omega, HO3.out, HR3.out.more (by omega), HG3.out⟩
      case round =>
        obtain ⟨k, ys, hk, rfl, hlen, hown, hrd, hgr⟩ := hrel
        have HOW := Lib.hid hown
        have HRD := Lib.hid hrd
        have HGR := Lib.hid hgr
        have hlen2 := hlen.out
        clear hown hrd hgr
        by_cases hpos : 0 < k
        · have hgt : decide ((0 : Int) < (k : Int)) = true := by simp; omega
          go_wp2_with fail
          refine (set_any g _ 2 _ _ (by omega) (by omega) (by omega) HRD.out).mono ?_
          rintro e w4 ⟨x, rfl, hx0, hx1, hr, hg⟩
          have HR4 := Lib.hid hr
          have HG4 := Lib.hid (HGR.out.trans hg)
          have HO4 := Lib.hid (owns_grown HOW.out hg HLT.out)
          have hs4 : w.heap.size ≤ w4.heap.size := HG4.out.size
          clear hr hg
          go_wp2_with (at_builtin; refine wp_append1 (W := w4) rfl _ _ rfl w.heap.size u9 ys rfl HO4.out x rfl (by omega) hs4 ?_; intro v' w' hown' hgrow)
          have hfin := rd_append HR4.out HG4.out HO4.out (Nat.le_refl _) HLT.out hgrow
          go_roundw
          case rel =>
            refine ⟨k - 1, ys ++ [x], by omega, by rw [show ((k - 1 : Nat) : Int) = (k : Int) - 1 by omega], by unfold Hid; simp; omega, hown', ?_, hfin.2⟩
            exact hfin.1.more (by simp; omega)
          case measure => simp [Go.RowKit.intOf]; omega
        · obtain rfl : k = 0 := by omega
          obtain ⟨A1, c1, rfl, _, _, _, _⟩ := HOW.out.form
          go_wp2_with fail
          refine (asked_any g _ 2 _ _ (by omega) (by omega) (by omega) HRD.out).mono ?_
          rintro e w4 ⟨v2, zs, rfl, ho, hlz, hr, hg⟩
          have HR4 := Lib.hid hr
          have HG4 := Lib.hid (HGR.out.trans hg)
          have HO4 := Lib.hid (owns_grown HOW.out hg HLT.out)
          have HI4 := Lib.hid (ho.base (base' := w.heap.size) HGR.out.size)
          obtain ⟨A2, c2, rfl, _, _, _, _⟩ := ho.form
          clear hr hg ho
          go_wp2_with fail
          refine (set_any g _ 2 n _ (by omega) (by omega) (by omega) HR4.out).mono ?_
          rintro e w5 ⟨x, rfl, hx0, hx1, hr, hg⟩
          have HR5 := Lib.hid hr
          have HG5 := Lib.hid (HG4.out.trans hg)
          have HO5 := Lib.hid (owns_grown HO4.out hg HLT.out)
          have HI5 := Lib.hid (owns_grown HI4.out hg HLT.out)
          clear hr hg
          go_wp2_with fail
          refine (pick_any g _ _ _ (by omega) (by omega) (by omega) HR5.out).mono ?_
          rintro e w6 ⟨k6, rfl, hk60, hk61, hr, hg⟩
          have HR6 := Lib.hid hr
          have HG6 := Lib.hid (HG5.out.trans hg)
          have HO6 := Lib.hid (owns_grown HO5.out hg HLT.out)
          have HI6 := Lib.hid (owns_grown HI5.out hg HLT.out)
          clear hr hg hk61
          by_cases hz6 : k6 = 0
          · subst hz6
            rcases hin : inB 2 1 3 with _ | _
            · have HIN := Lib.hid hin
              clear hin
              go_wp2_with fail
              refine (sIn_is HIN _).mono ?_
              rintro e w' ⟨rfl, rfl⟩
              go_wp2_with fail
              refine (odd_any g _ n _ (by omega) hn0 (by omega) HR6.out).mono ?_
              rintro e w7 ⟨b, rfl, hr, hg⟩
              have HR7 := Lib.hid hr
              have HG7 := Lib.hid (HG6.out.trans hg)
              have HO7 := Lib.hid (owns_grown HO6.out hg HLT.out)
              have HI7 := Lib.hid (owns_grown HI6.out hg HLT.out)
              clear hr hg
              cases b
              · go_wp2_with fail
                try simp only [Exit.inBlock, Exit.then]
                refine bodyPost_ret (results_tmp4 rfl _ _ _) rfl ?_
                exact ⟨2, _, ys, _, zs, x, rfl, by omega, by omega, HO7.out, by omega, HI7.out, hlz, by omega, by omega, HR7.out.more (by omega), HG7.out⟩
              · have HS6 := Lib.hid (Owns.lit w7 w.heap.size [0, 0, 0, 0, 0, 0] HG7.out.size (by simp [maxLen]))
                have HI8 := Lib.hid (HI7.out.below ((Below.refl _ w7).alloc (Nat.le_refl _) (.cells #[.int .i64 0, .int .i64 0, .int .i64 0, .int .i64 0, .int .i64 0, .int .i64 0] 3)))
                go_wp2_with fail
                try simp only [Exit.inBlock, Exit.then]
                refine bodyPost_ret (results_tmp4 rfl _ _ _) rfl ?_
                exact ⟨2, _, [0, 0, 0, 0, 0, 0], _, zs, x, rfl, by omega, by omega, HS6.out, by simp, HI8.out, hlz, by omega, by omega, (HR7.out.alloc _).more (by omega), grown_alloc HG7.out _⟩
            · have HIN := Lib.hid hin
              have hir : 1 ≤ (2 : Int) ∧ (2 : Int) ≤ 3 := by unfold inB at hin; exact of_decide_eq_true hin
              obtain ⟨al, HAL⟩ : ∃ a, Hid (allOf 2 = a) := ⟨_, rfl⟩
              have hal := allOf_lt 2
              have hal1 := allOf_pos7 2
              rw [HAL.out] at hal hal1
              clear hin
              go_wp2_with fail
              refine (sIn_is HIN _).mono ?_
              rintro e w' ⟨rfl, rfl⟩
              go_wp2_with fail
              refine (sAll_is7 HAL hir.1 hir.2 _).mono ?_
              rintro e w' ⟨rfl, rfl⟩
              go_wp2_with fail
              refine (odd_any g _ n _ (by omega) hn0 (by omega) HR6.out).mono ?_
              rintro e w7 ⟨b, rfl, hr, hg⟩
              have HR7 := Lib.hid hr
              have HG7 := Lib.hid (HG6.out.trans hg)
              have HO7 := Lib.hid (owns_grown HO6.out hg HLT.out)
              have HI7 := Lib.hid (owns_grown HI6.out hg HLT.out)
              clear hr hg
              cases b
              · go_wp2_with fail
                try simp only [Exit.inBlock, Exit.then]
                refine bodyPost_ret (results_tmp4 rfl _ _ _) rfl ?_
                exact ⟨2, _, ys, _, zs, al, rfl, by omega, by omega, HO7.out, by omega, HI7.out, hlz, by omega, by omega, HR7.out.more (by omega), HG7.out⟩
              · have HS6 := Lib.hid (Owns.lit w7 w.heap.size [0, 0, 0, 0, 0, 0] HG7.out.size (by simp [maxLen]))
                have HI8 := Lib.hid (HI7.out.below ((Below.refl _ w7).alloc (Nat.le_refl _) (.cells #[.int .i64 0, .int .i64 0, .int .i64 0, .int .i64 0, .int .i64 0, .int .i64 0] 3)))
                go_wp2_with fail
                try simp only [Exit.inBlock, Exit.then]
                refine bodyPost_ret (results_tmp4 rfl _ _ _) rfl ?_
                exact ⟨2, _, [0, 0, 0, 0, 0, 0], _, zs, al, rfl, by omega, by omega, HS6.out, by simp, HI8.out, hlz, by omega, by omega, (HR7.out.alloc _).more (by omega), grown_alloc HG7.out _⟩
          · have hz6b : (k6 == 0) = false := by rw [beq_eq_false_iff_ne]; exact hz6
            clear hz6
            go_wp2_with fail
            refine (odd_any g _ n _ (by omega) hn0 (by omega) HR6.out).mono ?_
            rintro e w7 ⟨b, rfl, hr, hg⟩
            have HR7 := Lib.hid hr
            have HG7 := Lib.hid (HG6.out.trans hg)
            have HO7 := Lib.hid (owns_grown HO6.out hg HLT.out)
            have HI7 := Lib.hid (owns_grown HI6.out hg HLT.out)
            clear hr hg
            cases b
            · go_wp2_with fail
              try simp only [Exit.inBlock, Exit.then]
              refine bodyPost_ret (results_tmp4 rfl _ _ _) rfl ?_
              exact ⟨2, _, ys, _, zs, x, rfl, by omega, by omega, HO7.out, by omega, HI7.out, hlz, by omega, by omega, HR7.out.more (by omega), HG7.out⟩
            · have HS6 := Lib.hid (Owns.lit w7 w.heap.size [0, 0, 0, 0, 0, 0] HG7.out.size (by simp [maxLen]))
              have HI8 := Lib.hid (HI7.out.below ((Below.refl _ w7).alloc (Nat.le_refl _) (.cells #[.int .i64 0, .int .i64 0, .int .i64 0, .int .i64 0, .int .i64 0, .int .i64 0] 3)))
              go_wp2_with fail
              try simp only [Exit.inBlock, Exit.then]
              refine bodyPost_ret (results_tmp4 rfl _ _ _) rfl ?_
              exact ⟨2, _, [0, 0, 0, 0, 0, 0], _, zs, x, rfl, by omega, by omega, HS6.out, by simp, HI8.out, hlz, by omega, by omega, (HR7.out.alloc _).more (by omega), grown_alloc HG7.out _⟩
    · have hzb : (kk == 0) = false := by rw [beq_eq_false_iff_ne]; exact hz
      clear hz
      have HL := Lib.hid (Owns.lit w2 w.heap.size [] HG2.out.size (by simp [maxLen]))
      go_wp2_with fail
      refine (pick_any g (u + 2 + 1) _ _ (by omega) (by omega) (by omega) (by exact HR2.out.alloc _)).mono ?_
      rintro e w3 ⟨k0, rfl, hk0, hk1, hr, hg⟩
      have hkk := hk1 (by omega)
      have HR3 := Lib.hid hr
      have HG3 := Lib.hid ((grown_alloc HG2.out _).trans hg)
      have HO3 := Lib.hid (owns_grown HL.out hg HLT.out)
      clear hr hg hk1 HL
      go_wp2_with fail
      go_loopw [9, 10] (fun v q wr => ∃ (k : Nat) (ys : List Int), k ≤ 4 ∧ q = .int .i64 k ∧ Hid (ys.length + k ≤ 4) ∧ Owns wr w.heap.size v ys ∧ Rd wr g (u + 8 + 8 * ys.length) ∧ w.grownBy wr (some g)) (fun _ q _ => (Go.RowKit.intOf q).toNat)
      case atStart => exact ⟨k0.toNat, [], by omega, by rw [show ((k0.toNat : Nat) : Int) = k0 by omega], by unfold Hid; simp; omega, HO3.out, HR3.out.more (by omega), HG3.out⟩
      case round =>
        obtain ⟨k, ys, hk, rfl, hlen, hown, hrd, hgr⟩ := hrel
        have HOW := Lib.hid hown
        have HRD := Lib.hid hrd
        have HGR := Lib.hid hgr
        have hlen2 := hlen.out
        clear hown hrd hgr
        by_cases hpos : 0 < k
        · have hgt : decide ((0 : Int) < (k : Int)) = true := by simp; omega
          go_wp2_with fail
          refine (set_any g _ 3 _ _ (by omega) (by omega) (by omega) HRD.out).mono ?_
          rintro e w4 ⟨x, rfl, hx0, hx1, hr, hg⟩
          have HR4 := Lib.hid hr
          have HG4 := Lib.hid (HGR.out.trans hg)
          have HO4 := Lib.hid (owns_grown HOW.out hg HLT.out)
          have hs4 : w.heap.size ≤ w4.heap.size := HG4.out.size
          clear hr hg
          go_wp2_with (at_builtin; refine wp_append1 (W := w4) rfl _ _ rfl w.heap.size u9 ys rfl HO4.out x rfl (by omega) hs4 ?_; intro v' w' hown' hgrow)
          have hfin := rd_append HR4.out HG4.out HO4.out (Nat.le_refl _) HLT.out hgrow
          go_roundw
          case rel =>
            refine ⟨k - 1, ys ++ [x], by omega, by rw [show ((k - 1 : Nat) : Int) = (k : Int) - 1 by omega], by unfold Hid; simp; omega, hown', ?_, hfin.2⟩
            exact hfin.1.more (by simp; omega)
          case measure => simp [Go.RowKit.intOf]; omega
        · obtain rfl : k = 0 := by omega
          obtain ⟨A1, c1, rfl, _, _, _, _⟩ := HOW.out.form
          go_wp2_with fail
          refine (asked_any g _ 3 _ _ (by omega) (by omega) (by omega) HRD.out).mono ?_
          rintro e w4 ⟨v2, zs, rfl, ho, hlz, hr, hg⟩
          have HR4 := Lib.hid hr
          have HG4 := Lib.hid (HGR.out.trans hg)
          have HO4 := Lib.hid (owns_grown HOW.out hg HLT.out)
          have HI4 := Lib.hid (ho.base (base' := w.heap.size) HGR.out.size)
          obtain ⟨A2, c2, rfl, _, _, _, _⟩ := ho.form
          clear hr hg ho
          go_wp2_with fail
          refine (set_any g _ 3 n _ (by omega) (by omega) (by omega) HR4.out).mono ?_
          rintro e w5 ⟨x, rfl, hx0, hx1, hr, hg⟩
          have HR5 := Lib.hid hr
          have HG5 := Lib.hid (HG4.out.trans hg)
          have HO5 := Lib.hid (owns_grown HO4.out hg HLT.out)
          have HI5 := Lib.hid (owns_grown HI4.out hg HLT.out)
          clear hr hg
          go_wp2_with fail
          refine (pick_any g _ _ _ (by omega) (by omega) (by omega) HR5.out).mono ?_
          rintro e w6 ⟨k6, rfl, hk60, hk61, hr, hg⟩
          have HR6 := Lib.hid hr
          have HG6 := Lib.hid (HG5.out.trans hg)
          have HO6 := Lib.hid (owns_grown HO5.out hg HLT.out)
          have HI6 := Lib.hid (owns_grown HI5.out hg HLT.out)
          clear hr hg hk61
          by_cases hz6 : k6 = 0
          · subst hz6
            rcases hin : inB 3 1 3 with _ | _
            · have HIN := Lib.hid hin
              clear hin
              go_wp2_with fail
              refine (sIn_is HIN _).mono ?_
              rintro e w' ⟨rfl, rfl⟩
              go_wp2_with fail
              refine (odd_any g _ n _ (by omega) hn0 (by omega) HR6.out).mono ?_
              rintro e w7 ⟨b, rfl, hr, hg⟩
              have HR7 := Lib.hid hr
              have HG7 := Lib.hid (HG6.out.trans hg)
              have HO7 := Lib.hid (owns_grown HO6.out hg HLT.out)
              have HI7 := Lib.hid (owns_grown HI6.out hg HLT.out)
              clear hr hg
              cases b
              · go_wp2_with fail
                try simp only [Exit.inBlock, Exit.then]
                refine bodyPost_ret (results_tmp4 rfl _ _ _) rfl ?_
                exact ⟨3, _, ys, _, zs, x, rfl, by omega, by omega, HO7.out, by omega, HI7.out, hlz, by omega, by omega, HR7.out.more (by omega), HG7.out⟩
              · have HS6 := Lib.hid (Owns.lit w7 w.heap.size [0, 0, 0, 0, 0, 0] HG7.out.size (by simp [maxLen]))
                have HI8 := Lib.hid (HI7.out.below ((Below.refl _ w7).alloc (Nat.le_refl _) (.cells #[.int .i64 0, .int .i64 0, .int .i64 0, .int .i64 0, .int .i64 0, .int .i64 0] 3)))
                go_wp2_with fail
                try simp only [Exit.inBlock, Exit.then]
                refine bodyPost_ret (results_tmp4 rfl _ _ _) rfl ?_
                exact ⟨3, _, [0, 0, 0, 0, 0, 0], _, zs, x, rfl, by omega, by omega, HS6.out, by simp, HI8.out, hlz, by omega, by omega, (HR7.out.alloc _).more (by omega), grown_alloc HG7.out _⟩
            · have HIN := Lib.hid hin
              have hir : 1 ≤ (3 : Int) ∧ (3 : Int) ≤ 3 := by unfold inB at hin; exact of_decide_eq_true hin
              obtain ⟨al, HAL⟩ : ∃ a, Hid (allOf 3 = a) := ⟨_, rfl⟩
              have hal := allOf_lt 3
              have hal1 := allOf_pos7 3
              rw [HAL.out] at hal hal1
              clear hin
              go_wp2_with fail
              refine (sIn_is HIN _).mono ?_
              rintro e w' ⟨rfl, rfl⟩
              go_wp2_with fail
              refine (sAll_is7 HAL hir.1 hir.2 _).mono ?_
              rintro e w' ⟨rfl, rfl⟩
              go_wp2_with fail
              refine (odd_any g _ n _ (by omega) hn0 (by omega) HR6.out).mono ?_
              rintro e w7 ⟨b, rfl, hr, hg⟩
              have HR7 := Lib.hid hr
              have HG7 := Lib.hid (HG6.out.trans hg)
              have HO7 := Lib.hid (owns_grown HO6.out hg HLT.out)
              have HI7 := Lib.hid (owns_grown HI6.out hg HLT.out)
              clear hr hg
              cases b
              · go_wp2_with fail
                try simp only [Exit.inBlock, Exit.then]
                refine bodyPost_ret (results_tmp4 rfl _ _ _) rfl ?_
                exact ⟨3, _, ys, _, zs, al, rfl, by omega, by omega, HO7.out, by omega, HI7.out, hlz, by omega, by omega, HR7.out.more (by omega), HG7.out⟩
              · have HS6 := Lib.hid (Owns.lit w7 w.heap.size [0, 0, 0, 0, 0, 0] HG7.out.size (by simp [maxLen]))
                have HI8 := Lib.hid (HI7.out.below ((Below.refl _ w7).alloc (Nat.le_refl _) (.cells #[.int .i64 0, .int .i64 0, .int .i64 0, .int .i64 0, .int .i64 0, .int .i64 0] 3)))
                go_wp2_with fail
                try simp only [Exit.inBlock, Exit.then]
                refine bodyPost_ret (results_tmp4 rfl _ _ _) rfl ?_
                exact ⟨3, _, [0, 0, 0, 0, 0, 0], _, zs, al, rfl, by omega, by omega, HS6.out, by simp, HI8.out, hlz, by omega, by omega, (HR7.out.alloc _).more (by omega), grown_alloc HG7.out _⟩
          · have hz6b : (k6 == 0) = false := by rw [beq_eq_false_iff_ne]; exact hz6
            clear hz6
            go_wp2_with fail
            refine (odd_any g _ n _ (by omega) hn0 (by omega) HR6.out).mono ?_
            rintro e w7 ⟨b, rfl, hr, hg⟩
            have HR7 := Lib.hid hr
            have HG7 := Lib.hid (HG6.out.trans hg)
            have HO7 := Lib.hid (owns_grown HO6.out hg HLT.out)
            have HI7 := Lib.hid (owns_grown HI6.out hg HLT.out)
            clear hr hg
            cases b
            · go_wp2_with fail
              try simp only [Exit.inBlock, Exit.then]
              refine bodyPost_ret (results_tmp4 rfl _ _ _) rfl ?_
              exact ⟨3, _, ys, _, zs, x, rfl, by omega, by omega, HO7.out, by omega, HI7.out, hlz, by omega, by omega, HR7.out.more (by omega), HG7.out⟩
            · have HS6 := Lib.hid (Owns.lit w7 w.heap.size [0, 0, 0, 0, 0, 0] HG7.out.size (by simp [maxLen]))
              have HI8 := Lib.hid (HI7.out.below ((Below.refl _ w7).alloc (Nat.le_refl _) (.cells #[.int .i64 0, .int .i64 0, .int .i64 0, .int .i64 0, .int .i64 0, .int .i64 0] 3)))
              go_wp2_with fail
              try simp only [Exit.inBlock, Exit.then]
              refine bodyPost_ret (results_tmp4 rfl _ _ _) rfl ?_
              exact ⟨3, _, [0, 0, 0, 0, 0, 0], _, zs, x, rfl, by omega, by omega, HS6.out, by simp, HI8.out, hlz, by omega, by omega, (HR7.out.alloc _).more (by omega), grown_alloc HG7.out _⟩
  · have h3b : (t0 == 3) = false := by rw [beq_eq_false_iff_ne]; exact h3
    have HR2 : Hid (Rd w1 g (u + 2 + 1)) := HR1.out.more (by omega)
    have HG2 := Lib.hid HG1.out
    obtain ⟨w2, rfl⟩ : ∃ w, w = w1 := ⟨_, rfl⟩
    clear h3
    have HL := Lib.hid (Owns.lit w2 w.heap.size [] HG2.out.size (by simp [maxLen]))
    go_wp2_with fail
    refine (pick_any g (u + 2 + 1) _ _ (by omega) (by omega) (by omega) (by exact HR2.out.alloc _)).mono ?_
    rintro e w3 ⟨k0, rfl, hk0, hk1, hr, hg⟩
    have hkk := hk1 (by omega)
    have HR3 := Lib.hid hr
    have HG3 := Lib.hid ((grown_alloc HG2.out _).trans hg)
    have HO3 := Lib.hid (owns_grown HL.out hg HLT.out)
    clear hr hg hk1 HL
    go_wp2_with fail
    go_loopw [9, 10] (fun v q wr => ∃ (k : Nat) (ys : List Int), k ≤ 4 ∧ q = .int .i64 k ∧ Hid (ys.length + k ≤ 4) ∧ Owns wr w.heap.size v ys ∧ Rd wr g (u + 8 + 8 * ys.length) ∧ w.grownBy wr (some g)) (fun _ q _ => (Go.RowKit.intOf q).toNat)
    case atStart => exact ⟨k0.toNat, [], by omega, by rw [show ((k0.toNat : Nat) : Int) = k0 by omega], by unfold Hid; simp; omega, HO3.out, HR3.out.more (by omega), HG3.out⟩
    case round =>
      obtain ⟨k, ys, hk, rfl, hlen, hown, hrd, hgr⟩ := hrel
      have HOW := Lib.hid hown
      have HRD := Lib.hid hrd
      have HGR := Lib.hid hgr
      have hlen2 := hlen.out
      clear hown hrd hgr
      by_cases hpos : 0 < k
      · have hgt : decide ((0 : Int) < (k : Int)) = true := by simp; omega
        go_wp2_with fail
        refine (set_any g _ t0 _ _ (by omega) (by omega) (by omega) HRD.out).mono ?_
        rintro e w4 ⟨x, rfl, hx0, hx1, hr, hg⟩
        have HR4 := Lib.hid hr
        have HG4 := Lib.hid (HGR.out.trans hg)
        have HO4 := Lib.hid (owns_grown HOW.out hg HLT.out)
        have hs4 : w.heap.size ≤ w4.heap.size := HG4.out.size
        clear hr hg
        go_wp2_with (at_builtin; refine wp_append1 (W := w4) rfl _ _ rfl w.heap.size u9 ys rfl HO4.out x rfl (by omega) hs4 ?_; intro v' w' hown' hgrow)
        have hfin := rd_append HR4.out HG4.out HO4.out (Nat.le_refl _) HLT.out hgrow
        go_roundw
        case rel =>
          refine ⟨k - 1, ys ++ [x], by omega, by rw [show ((k - 1 : Nat) : Int) = (k : Int) - 1 by omega], by unfold Hid; simp; omega, hown', ?_, hfin.2⟩
          exact hfin.1.more (by simp; omega)
        case measure => simp [Go.RowKit.intOf]; omega
      · obtain rfl : k = 0 := by omega
        obtain ⟨A1, c1, rfl, _, _, _, _⟩ := HOW.out.form
        go_wp2_with fail
        refine (asked_any g _ t0 _ _ (by omega) (by omega) (by omega) HRD.out).mono ?_
        rintro e w4 ⟨v2, zs, rfl, ho, hlz, hr, hg⟩
        have HR4 := Lib.hid hr
        have HG4 := Lib.hid (HGR.out.trans hg)
        have HO4 := Lib.hid (owns_grown HOW.out hg HLT.out)
        have HI4 := Lib.hid (ho.base (base' := w.heap.size) HGR.out.size)
        obtain ⟨A2, c2, rfl, _, _, _, _⟩ := ho.form
        clear hr hg ho
        go_wp2_with fail
        refine (set_any g _ t0 n _ (by omega) (by omega) (by omega) HR4.out).mono ?_
        rintro e w5 ⟨x, rfl, hx0, hx1, hr, hg⟩
        have HR5 := Lib.hid hr
        have HG5 := Lib.hid (HG4.out.trans hg)
        have HO5 := Lib.hid (owns_grown HO4.out hg HLT.out)
        have HI5 := Lib.hid (owns_grown HI4.out hg HLT.out)
        clear hr hg
        go_wp2_with fail
        refine (pick_any g _ _ _ (by omega) (by omega) (by omega) HR5.out).mono ?_
        rintro e w6 ⟨k6, rfl, hk60, hk61, hr, hg⟩
        have HR6 := Lib.hid hr
        have HG6 := Lib.hid (HG5.out.trans hg)
        have HO6 := Lib.hid (owns_grown HO5.out hg HLT.out)
        have HI6 := Lib.hid (owns_grown HI5.out hg HLT.out)
        clear hr hg hk61
        by_cases hz6 : k6 = 0
        · subst hz6
          rcases hin : inB t0 1 3 with _ | _
          · have HIN := Lib.hid hin
            clear hin
            go_wp2_with fail
            refine (sIn_is HIN _).mono ?_
            rintro e w' ⟨rfl, rfl⟩
            go_wp2_with fail
            refine (odd_any g _ n _ (by omega) hn0 (by omega) HR6.out).mono ?_
            rintro e w7 ⟨b, rfl, hr, hg⟩
            have HR7 := Lib.hid hr
            have HG7 := Lib.hid (HG6.out.trans hg)
            have HO7 := Lib.hid (owns_grown HO6.out hg HLT.out)
            have HI7 := Lib.hid (owns_grown HI6.out hg HLT.out)
            clear hr hg
            cases b
            · go_wp2_with fail
              try simp only [Exit.inBlock, Exit.then]
              refine bodyPost_ret (results_tmp4 rfl _ _ _) rfl ?_
              exact ⟨t0, _, ys, _, zs, x, rfl, by omega, by omega, HO7.out, by omega, HI7.out, hlz, by omega, by omega, HR7.out.more (by omega), HG7.out⟩
            · have HS6 := Lib.hid (Owns.lit w7 w.heap.size [0, 0, 0, 0, 0, 0] HG7.out.size (by simp [maxLen]))
              have HI8 := Lib.hid (HI7.out.below ((Below.refl _ w7).alloc (Nat.le_refl _) (.cells #[.int .i64 0, .int .i64 0, .int .i64 0, .int .i64 0, .int .i64 0, .int .i64 0] 3)))
              go_wp2_with fail
              try simp only [Exit.inBlock, Exit.then]
              refine bodyPost_ret (results_tmp4 rfl _ _ _) rfl ?_
              exact ⟨t0, _, [0, 0, 0, 0, 0, 0], _, zs, x, rfl, by omega, by omega, HS6.out, by simp, HI8.out, hlz, by omega, by omega, (HR7.out.alloc _).more (by omega), grown_alloc HG7.out _⟩
          · have HIN := Lib.hid hin
            have hir : 1 ≤ (t0 : Int) ∧ (t0 : Int) ≤ 3 := by unfold inB at hin; exact of_decide_eq_true hin
            obtain ⟨al, HAL⟩ : ∃ a, Hid (allOf t0 = a) := ⟨_, rfl⟩
            have hal := allOf_lt t0
            have hal1 := allOf_pos7 t0
            rw [HAL.out] at hal hal1
            clear hin
            go_wp2_with fail
            refine (sIn_is HIN _).mono ?_
            rintro e w' ⟨rfl, rfl⟩
            go_wp2_with fail
            refine (sAll_is7 HAL hir.1 hir.2 _).mono ?_
            rintro e w' ⟨rfl, rfl⟩
            go_wp2_with fail
            refine (odd_any g _ n _ (by omega) hn0 (by omega) HR6.out).mono ?_
            rintro e w7 ⟨b, rfl, hr, hg⟩
            have HR7 := Lib.hid hr
            have HG7 := Lib.hid (HG6.out.trans hg)
            have HO7 := Lib.hid (owns_grown HO6.out hg HLT.out)
            have HI7 := Lib.hid (owns_grown HI6.out hg HLT.out)
            clear hr hg
            cases b
            · go_wp2_with fail
              try simp only [Exit.inBlock, Exit.then]
              refine bodyPost_ret (results_tmp4 rfl _ _ _) rfl ?_
              exact ⟨t0, _, ys, _, zs, al, rfl, by omega, by omega, HO7.out, by omega, HI7.out, hlz, by omega, by omega, HR7.out.more (by omega), HG7.out⟩
            · have HS6 := Lib.hid (Owns.lit w7 w.heap.size [0, 0, 0, 0, 0, 0] HG7.out.size (by simp [maxLen]))
              have HI8 := Lib.hid (HI7.out.below ((Below.refl _ w7).alloc (Nat.le_refl _) (.cells #[.int .i64 0, .int .i64 0, .int .i64 0, .int .i64 0, .int .i64 0, .int .i64 0] 3)))
              go_wp2_with fail
              try simp only [Exit.inBlock, Exit.then]
              refine bodyPost_ret (results_tmp4 rfl _ _ _) rfl ?_
              exact ⟨t0, _, [0, 0, 0, 0, 0, 0], _, zs, al, rfl, by omega, by omega, HS6.out, by simp, HI8.out, hlz, by omega, by omega, (HR7.out.alloc _).more (by omega), grown_alloc HG7.out _⟩
        · have hz6b : (k6 == 0) = false := by rw [beq_eq_false_iff_ne]; exact hz6
          clear hz6
          go_wp2_with fail
          refine (odd_any g _ n _ (by omega) hn0 (by omega) HR6.out).mono ?_
          rintro e w7 ⟨b, rfl, hr, hg⟩
          have HR7 := Lib.hid hr
          have HG7 := Lib.hid (HG6.out.trans hg)
          have HO7 := Lib.hid (owns_grown HO6.out hg HLT.out)
          have HI7 := Lib.hid (owns_grown HI6.out hg HLT.out)
          clear hr hg
          cases b
          · go_wp2_with fail
            try simp only [Exit.inBlock, Exit.then]
            refine bodyPost_ret (results_tmp4 rfl _ _ _) rfl ?_
            exact ⟨t0, _, ys, _, zs, x, rfl, by omega, by omega, HO7.out, by omega, HI7.out, hlz, by omega, by omega, HR7.out.more (by omega), HG7.out⟩
          · have HS6 := Lib.hid (Owns.lit w7 w.heap.size [0, 0, 0, 0, 0, 0] HG7.out.size (by simp [maxLen]))
            have HI8 := Lib.hid (HI7.out.below ((Below.refl _ w7).alloc (Nat.le_refl _) (.cells #[.int .i64 0, .int .i64 0, .int .i64 0, .int .i64 0, .int .i64 0, .int .i64 0] 3)))
            go_wp2_with fail
            try simp only [Exit.inBlock, Exit.then]
            refine bodyPost_ret (results_tmp4 rfl _ _ _) rfl ?_
            exact ⟨t0, _, [0, 0, 0, 0, 0, 0], _, zs, x, rfl, by omega, by omega, HS6.out, by simp, HI8.out, hlz, by omega, by omega, (HR7.out.alloc _).more (by omega), grown_alloc HG7.out _⟩
end Go.Proofs.YtpjpbemgjniljaaDoor

namespace Go.Proofs.YtpjpbemgjniljaaDoor
open Go.RowKit

def words7 : List ByteArray := [⟨#[]⟩, ⟨#[46]⟩, ⟨#[48, 40, 46, 46, 41]⟩, ⟨#[49]⟩, ⟨#[41]⟩]
theorem words7_size {x : ByteArray} (h : x ∈ words7) : x.size ≤ 5 := by
  simp only [words7, List.mem_cons, List.not_mem_nil, or_false] at h
  rcases h with rfl | rfl | rfl | rfl | rfl <;> decide
theorem lit_here7 {k : Int} (h0 : 0 ≤ k) (hk : k < 5) : ∃ x : ByteArray, x ∈ words7 ∧ ∀ h, [Value.string ⟨#[]⟩, .string ⟨#[46]⟩, .string ⟨#[48, 40, 46, 46, 41]⟩, .string ⟨#[49]⟩, .string ⟨#[41]⟩][k.toNat]'h = .string x := by
  have h5 : k = 0 ∨ k = 1 ∨ k = 2 ∨ k = 3 ∨ k = 4 := by omega
  rcases h5 with rfl | rfl | rfl | rfl | rfl
  · exact ⟨_, List.mem_cons_self, fun _ => rfl⟩
  · exact ⟨_, List.mem_cons_of_mem _ List.mem_cons_self, fun _ => rfl⟩
  · exact ⟨_, List.mem_cons_of_mem _ (List.mem_cons_of_mem _ List.mem_cons_self), fun _ => rfl⟩
  · exact ⟨_, List.mem_cons_of_mem _ (List.mem_cons_of_mem _ (List.mem_cons_of_mem _ List.mem_cons_self)), fun _ => rfl⟩
  · exact ⟨_, List.mem_cons_of_mem _ (List.mem_cons_of_mem _ (List.mem_cons_of_mem _ (List.mem_cons_of_mem _ List.mem_cons_self))), fun _ => rfl⟩
theorem own_last {w4 w' : World} {base g : Nat} {v : Value} {xs : List Int} {o : Obj} (h : Owns w4 base v xs) (hg : (w4.alloc o).drew.grownBy w' (some g)) (hb : g < base) : Owns w' base v xs :=
  owns_grown (h.below ((Below.refl _ w4).alloc (Nat.le_refl _) o)) ((grown_drewN (World.grownBy.refl _ _) 1).trans hg) hb
theorem own_last2 {w4 w' : World} {base g : Nat} {v : Value} {xs : List Int} (h : Owns w4 base v xs) (hg : w4.drew.grownBy w' (some g)) (hb : g < base) (o : Obj) : Owns (w'.alloc o) base v xs :=
  (owns_grown h ((grown_drewN (World.grownBy.refl _ _) 1).trans hg) hb).below ((Below.refl _ w').alloc (Nat.le_refl _) o)
theorem sPlanFor_any (t : Int) (A B : Option Addr) (na ca nb cb : Nat) (asks issue : List Int) (u : Int) (w : World) (ha : Row w A na ca asks) (hb : Row w B nb cb issue) :
    Calls Tryd.prog 7 #[.int .i64 t, .slice A na ca, .slice B nb cb, .int .i64 u] w fun e w' => ∃ (b : ByteArray) (ok : Bool), e = .returned (.tuple #[.string b, .bool ok]) ∧ b.size ≤ 256 ∧ Below w.heap.size w w' := by
  refine (sPlanFor t A B na ca nb cb asks issue u w ha hb).mono ?_
  intro e w' h
  unfold planForB at h
  by_cases h0 : 0 ≤ asksNeededI t asks issue u
  · rw [if_pos h0] at h
    exact ⟨_, true, h.1, planI_size (by omega) u, h.2⟩
  · rw [if_neg h0] at h
    exact ⟨_, false, h.1, by decide, h.2⟩
def PlanDPost (g u : Nat) (w : World) (e : Ending) (w' : World) : Prop :=
  ∃ (t : Int) (v : Value) (xs : List Int) (v2 : Value) (ys : List Int) (s : Int) (b : ByteArray), e = .returned (.tuple #[.int .i64 t, v, v2, .int .i64 s, .string b]) ∧ -1 ≤ t ∧ t ≤ 4 ∧ Owns w' w.heap.size v xs ∧ xs.length ≤ 6 ∧ Owns w' w.heap.size v2 ys ∧ ys.length ≤ 257 ∧ -1 ≤ s ∧ s ≤ 256 ∧ b.size ≤ 600 ∧ Rd w' g u ∧ w.grownBy w' (some g)
def DrawT (w : World) (e : Ending) (w' : World) : Prop :=
  ∃ (t : Int) (v : Value) (xs : List Int) (v2 : Value) (ys : List Int) (s : Int), e = .returned (.tuple #[.int .i64 t, v, v2, .int .i64 s]) ∧ -1 ≤ t ∧ t ≤ 4 ∧ Owns w' w.heap.size v xs ∧ xs.length ≤ 6 ∧ Owns w' w.heap.size v2 ys ∧ ys.length ≤ 257 ∧ -1 ≤ s ∧ s ≤ 256 ∧ Below w.heap.size w w'
def DrawTP (w : World) (e : Ending) (w' : World) : Prop :=
  ∃ (t : Int) (v : Value) (xs : List Int) (v2 : Value) (ys : List Int) (s : Int) (b : ByteArray), e = .returned (.tuple #[.int .i64 t, v, v2, .int .i64 s, .string b]) ∧ -1 ≤ t ∧ t ≤ 4 ∧ Owns w' w.heap.size v xs ∧ xs.length ≤ 6 ∧ Owns w' w.heap.size v2 ys ∧ ys.length ≤ 257 ∧ -1 ≤ s ∧ s ≤ 256 ∧ b.size ≤ 600 ∧ Below w.heap.size w w'
def DrawTPW (w : World) (e : Ending) (w' : World) : Prop :=
  ∃ (t : Int) (v : Value) (xs : List Int) (v2 : Value) (ys : List Int) (s : Int) (b : ByteArray) (x : Int), e = .returned (.tuple #[.int .i64 t, v, v2, .int .i64 s, .string b, .int .i64 x]) ∧ -1 ≤ t ∧ t ≤ 4 ∧ Owns w' w.heap.size v xs ∧ xs.length ≤ 6 ∧ Owns w' w.heap.size v2 ys ∧ ys.length ≤ 257 ∧ -1 ≤ s ∧ s ≤ 256 ∧ b.size ≤ 600 ∧ -1 ≤ x ∧ x ≤ 9 ∧ Below w.heap.size w w'
set_option maxHeartbeats 1000000 in
theorem drawPlanFor_any (A : Option Addr) (nn c : Nat) (zs : List Int) (w : World) (hn : nn = zs.length) (hc : nn ≤ c) (hm : c ≤ maxLen) (hr : ∀ z ∈ zs, 0 ≤ z ∧ z ≤ 255) (hA : Nums .u8 w A zs) :
    Calls Tryd.prog 5 #[.slice A nn c] w (DrawT w) := by
  have HO := Lib.hid (open_any A nn c zs w hn hc hm hr hA)
  clear hn hc hm hr hA
  go_enter Tryd.func5, Tryd.ntmps5
  go_wp2_with fail
  refine HO.out.mono ?_
  rintro e w1 ⟨rfl, hrd, hb⟩
  have HR := Lib.hid hrd
  have HB := Lib.hid hb
  clear hrd hb
  go_wp2_with fail
  refine (task_any _ 0 _ _ (by omega) (by omega) (by omega) HR.out).mono ?_
  rintro e w2 ⟨t, v, xs, v2, ys, s, rfl, ht0, ht1, ho1, hlx, ho2, hly, hs0, hs1, hr, hg⟩
  have HB2 := Lib.hid (below_grown HB.out hg HB.out.size (Nat.le_refl _))
  have HO1 := Lib.hid (ho1.base (base' := w.heap.size) HB.out.size)
  have HO2 := Lib.hid (ho2.base (base' := w.heap.size) HB.out.size)
  clear hg hr ho1 ho2
  go_wp2_with fail
  try simp only [Exit.inBlock, Exit.then]
  refine bodyPost_ret (results_tmp4 rfl _ _ _) rfl ?_
  exact ⟨t, _, xs, _, ys, s, rfl, ht0, ht1, HO1.out, hlx, HO2.out, hly, hs0, hs1, HB2.out⟩
end Go.Proofs.YtpjpbemgjniljaaDoor

namespace Go.Proofs.YtpjpbemgjniljaaDoor
open Go.RowKit

theorem iAsksNeeded_is {t : Int} {asks issue : List Int} {u v : Int} (h : Hid (asksNeededI t asks issue u = v)) {A B : Option Addr} {na ca nb cb : Nat} {w : World} (ha : Row w A na ca asks) (hb : Row w B nb cb issue) :
    Calls Tryd.prog 8 #[.int .i64 t, .slice A na ca, .slice B nb cb, .int .i64 u] w fun e w' => e = .returned (.int .i64 v) ∧ Below w.heap.size w w' := by
  have := iAsksNeeded t A B na ca nb cb asks issue u w ha hb
  rw [h.out] at this; exact this
theorem iPlanAsks_is {t : Int} {asks issue : List Int} {u : Int} {s : ByteArray} {d : Int} (h : Hid (planAsksI t asks issue u s = d)) {A B : Option Addr} {na ca nb cb : Nat} {w : World} (ha : Row w A na ca asks) (hb : Row w B nb cb issue) (hs : s.size ≤ 1048576) :
    Calls Tryd.prog 10 #[.int .i64 t, .slice A na ca, .slice B nb cb, .int .i64 u, .string s] w fun e w' => e = .returned (.int .i64 d) ∧ Below w.heap.size w w' := by
  have := iPlanAsks t A B na ca nb cb asks issue u s w ha hb (by omega)
  rw [h.out] at this; exact this
def textV (o : Option ByteArray) : ByteArray := match o with | some b => b | none => ⟨#[]⟩
end Go.Proofs.YtpjpbemgjniljaaDoor
