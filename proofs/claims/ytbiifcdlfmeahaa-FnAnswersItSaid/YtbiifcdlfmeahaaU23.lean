/-
  What the proofs of this seat's statements share (ResY).
-/
import Derived.Test.YtbiifcdlfmeahaaU22
import Derived.Test.YtbiifcdlfmeahaaU9
import Derived.Test.YtbiifcdlfmeahaaU6

namespace Go.Proofs.Ytbiifcdlfmeahaa
open Go.RowKit

set_option maxHeartbeats 1000000 in
theorem lHasInt (A : Option Addr) (n c : Nat) (xs : List Int) (x : Int) (w : World) (h : Hid (x ∈ xs)) (ha : Row w A n c xs) :
    Calls Try.prog 28 #[.slice A n c, .int .i64 x] w fun e w' => e = .returned (.bool true) ∧ w = w' := by
  have HA := Lib.hid ha
  obtain rfl := ha.hn
  have hl := ha.hl
  clear ha
  go_enter Try.func28, Try.ntmps28
  go_wp2_with fail
  go_loop [5] (fun i => ∃ k : Nat, k ≤ xs.length ∧ i = .int .i64 k ∧ Hid (∀ y ∈ xs.take k, y ≠ x)) (fun i => xs.length - (Go.RowKit.intOf i).toNat)
  case atStart => exact ⟨0, Nat.zero_le _, rfl, by unfold Hid; simp⟩
  case round =>
    obtain ⟨k, hk, rfl, hno⟩ := hrel
    by_cases hlt : k < xs.length
    · obtain ⟨bb, off, y, rfl, hcell, hy, _⟩ := HA.out.hA.elem hlt
      by_cases he : y = x
      · have hq : (y == x) = true := by rw [beq_iff_eq]; exact he
        clear he
        go_wp2_with fail
        go_ret
        exact ⟨rfl, rfl⟩
      · have hq : (y == x) = false := by rw [beq_eq_false_iff_ne]; exact he
        have HE : Hid (∀ z ∈ xs.take (k + 1), z ≠ x) := fun z hz => by
          rw [take_snoc hy, List.mem_append, List.mem_singleton] at hz
          rcases hz with h | rfl
          · exact hno.out z h
          · exact he
        clear he
        go_wp2_with fail
        go_round
        case rel => exact ⟨k + 1, by omega, by go_num, HE⟩
        case measure => simp [Go.RowKit.intOf]; omega
    · exfalso
      have := hno.out x (by rw [List.take_of_length_le (by omega)]; exact h.out)
      exact this rfl

set_option maxRecDepth 100000 in
set_option maxHeartbeats 4000000 in
theorem wResolutionsOf (A : Option Addr) (nn c : Nat) (zs : List Int) (w : World) (hn : nn = zs.length) (hc : nn ≤ c) (hm : c ≤ maxLen) (hr : ∀ z ∈ zs, 0 ≤ z ∧ z ≤ 255) (hA : Nums .u8 w A zs) :
    Calls Try.prog 3 #[.slice A nn c] w fun e w' => e = .returned (.bool true) ∧ Below w.heap.size w w' := by
  have HO := Lib.hid (drawResolutionsOf_any A nn c zs w hn hc hm hr hA)
  have hm' : nn ≤ 9223372036854775807 := by unfold maxLen at hm; omega
  clear hn hc hm hr hA
  by_cases hl : 1048576 < nn
  · have hd : decide ((1048576 : Int) < (nn : Int)) = true := decide_eq_true (by omega)
    go_enter Try.func3, Try.ntmps3
    go_wp2_with fail
    go_ret
    exact ⟨rfl, Below.refl _ _⟩
  have hd : decide ((1048576 : Int) < (nn : Int)) = false := decide_eq_false (by omega)
  clear hl
  go_enter Try.func3, Try.ntmps3
  go_wp2_with fail
  refine HO.out.mono ?_
  rintro e w1 ⟨t, s, rfl, ht0, ht1, hs, hb⟩
  have HB := Lib.hid hb
  clear hb HO hd
  obtain ⟨r, HRL⟩ : ∃ l, Hid (resL t s = l) := ⟨_, rfl⟩
  have hrl : r.length ≤ 70 := by rw [← HRL.out]; exact Nat.le_trans (resL_len t s) (by omega)
  rcases hso : resOk t s with _ | _
  · have HT := Lib.hid hso
    have HE : Hid (r = []) := by unfold Hid; rw [← HRL.out]; exact resL_no hso
    have hz : r.length ≤ 0 := by rw [HE.out]; simp
    have hq : ((r.length : Int) == 0) = true := by rw [beq_iff_eq]; omega
    clear hz hso HE
    go_wp2_with fail
    refine (iResOf_is HRL HT _ (by omega)).mono ?_
    rintro e w3 ⟨v, rfl, ho, hb⟩
    obtain ⟨A3, c3, rfl, _, _, _, _⟩ := ho.form
    replace HB := Lib.hid (bel_trans (by first | exact HB.out | exact bel_drewN HB.out _) hb)
    have HR3 := Lib.hid (Owns.row ho (by omega))
    clear ho hb
    go_wp2_with fail
    refine (sResOf_is HRL HT _ (by omega)).mono ?_
    rintro e w4 ⟨v, rfl, ho, hb⟩
    obtain ⟨A4, c4, rfl, _, _, _, _⟩ := ho.form
    replace HB := Lib.hid (bel_trans (by first | exact HB.out | exact bel_drewN HB.out _) hb)
    replace HR3 := Lib.hid (Row.below (by first | exact HR3.out | exact Row.drewN HR3.out _) hb)
    have HR4 := Lib.hid (Owns.row ho (by omega))
    clear ho hb
    go_wp2_with fail
    refine (rSame (same_self r) HR3.out HR4.out).mono ?_
    rintro e w' ⟨rfl, m1, rfl⟩
    go_wp2_with fail
    refine (lAlive _).mono ?_
    rintro e w' ⟨rfl, rfl⟩
    go_wp2_with fail
    go_ret
    exact ⟨rfl, bel_drewN HB.out _⟩
  · have HT := Lib.hid hso
    obtain ⟨x, hx, _, _⟩ := resOk_some hso
    have h1 := (senT_ok hx).1
    have h3 := (senT_ok hx).2.1
    obtain ⟨hit, hfr⟩ := law_res_from hso
    have HIT := Lib.hid hit
    obtain ⟨q, HIQ⟩ : ∃ l, Hid (issueT t s = l) := ⟨_, rfl⟩
    have hql : q.length ≤ 70 := by rw [← HIQ.out]; exact issueT_len t s
    obtain ⟨al, HAL⟩ : ∃ n : Nat, Hid (allOf t = (n : Int)) := ⟨(allOf t).toNat, by have := allOf_lt t; show _ = _; omega⟩
    have hal : al < 256 := by have := (allOf_lt t).2; rw [HAL.out] at this; omega
    have HFR : Hid (issueFromL t r = q) := by unfold Hid; rw [← HIQ.out, ← HRL.out]; exact hfr
    have HST : Hid (∀ k : Nat, k ≤ al → settlesB t q (k : Int) = anyWithin (k : Int) r) := fun k hk => by
      rw [← HIQ.out, ← HRL.out]
      exact law_res_settles hso (by omega) (by rw [HAL.out]; omega)
    have HRR : Hid (∀ y ∈ r, 0 ≤ y ∧ y < 256) := by rw [← HRL.out]; exact resL_range t s
    clear hso hx hit hfr
    go_wp2_with fail
    refine (iResOf_is HRL HT _ (by omega)).mono ?_
    rintro e w3 ⟨v, rfl, ho, hb⟩
    obtain ⟨A3, c3, rfl, _, _, _, _⟩ := ho.form
    replace HB := Lib.hid (bel_trans (by first | exact HB.out | exact bel_drewN HB.out _) hb)
    have HR3 := Lib.hid (Owns.row ho (by omega))
    clear ho hb
    go_wp2_with fail
    refine (sResOf_is HRL HT _ (by omega)).mono ?_
    rintro e w4 ⟨v, rfl, ho, hb⟩
    obtain ⟨A4, c4, rfl, _, _, _, _⟩ := ho.form
    replace HB := Lib.hid (bel_trans (by first | exact HB.out | exact bel_drewN HB.out _) hb)
    replace HR3 := Lib.hid (Row.below (by first | exact HR3.out | exact Row.drewN HR3.out _) hb)
    have HR4 := Lib.hid (Owns.row ho (by omega))
    clear ho hb
    go_wp2_with fail
    refine (rSame (same_self r) HR3.out HR4.out).mono ?_
    rintro e w' ⟨rfl, m2, rfl⟩
    go_wp2_with fail
    refine (iIssueOf_is HIQ HIT _ (by omega)).mono ?_
    rintro e w5 ⟨v, rfl, ho, hb⟩
    obtain ⟨A5, c5, rfl, _, _, _, _⟩ := ho.form
    replace HB := Lib.hid (bel_trans (by first | exact HB.out | exact bel_drewN HB.out _) hb)
    replace HR3 := Lib.hid (Row.below (by first | exact HR3.out | exact Row.drewN HR3.out _) hb)
    replace HR4 := Lib.hid (Row.below (by first | exact HR4.out | exact Row.drewN HR4.out _) hb)
    have HR5 := Lib.hid (Owns.row ho (by omega))
    clear ho hb
    go_wp2_with fail
    go_loopw [11] (fun i wr => ∃ k : Nat, k ≤ al + 1 ∧ i = .int .i64 k ∧ ∃ m, wr = w5.drewN m) (fun i _ => al + 1 - (Go.RowKit.intOf i).toNat)
    case atStart => exact ⟨0, Nat.zero_le _, rfl, 0, rfl⟩
    case round =>
      obtain ⟨k, hk, rfl, m, rfl⟩ := hrel
      by_cases hlt : k ≤ al
      · have hki : (k : Int) ≤ (al : Int) := by omega
        go_wp2_with fail
        refine (lWhole_is HAL h1 h3 _).mono ?_
        rintro e w' ⟨rfl, rfl⟩
        go_wp2_with fail
        go_loopw [12, 13] (fun f i wi => ∃ j : Nat, j ≤ r.length ∧ i = .int .i64 j ∧ f = .bool (anyWithin (k : Int) (r.take j)) ∧ wi = w5.drewN m) (fun _ i _ => r.length - (Go.RowKit.intOf i).toNat)
        case atStart => exact ⟨0, Nat.zero_le _, rfl, rfl, rfl⟩
        case round =>
          obtain ⟨j, hj, rfl, rfl, rfl⟩ := hrel
          by_cases hjt : j < r.length
          · obtain ⟨bb2, off2, y, rfl, hcell2, hy, _⟩ := HR3.out.hA.elem hjt
            obtain ⟨hf1, hf2⟩ := HRR.out y (elem_mem hy)
            have HS := Lib.hid (anyWithin_snoc (s := (k : Int)) hy)
            have hji : (j : Int) < (r.length : Int) := by omega
            obtain ⟨v, HV⟩ : ∃ v, Hid (anyWithin (k : Int) (r.take j) = v) := ⟨_, rfl⟩
            obtain ⟨z, HZ⟩ : ∃ z, Hid (withinB (k : Int) y = z) := ⟨_, rfl⟩
            rw [HV.out]
            cases v
            · go_wp2_with fail
              refine (lWithin_is HZ (by omega) (by omega) hf1 _).mono ?_
              rintro e w' ⟨rfl, rfl⟩
              go_wp2_with fail
              go_roundw
              case rel => exact ⟨j + 1, by omega, by go_num, by rw [HS.out, HV.out, HZ.out]; rfl, by first | rfl | trivial⟩
              case measure => simp [Go.RowKit.intOf]; omega
            · go_wp2_with fail
              go_roundw
              case rel => exact ⟨j + 1, by omega, by go_num, by rw [HS.out, HV.out]; rfl, by first | rfl | trivial⟩
              case measure => simp [Go.RowKit.intOf]; omega
          · obtain rfl : j = r.length := by omega
            have HSE := Lib.hid (HST.out k hlt)
            rw [List.take_length]
            go_wp2_with fail
            refine (rSettles HSE (Row.drewN HR5.out _)).mono ?_
            rintro e w' ⟨rfl, m9, rfl⟩
            go_wp2_with fail
            go_roundw
            case rel => exact ⟨k + 1, by omega, by go_num, _, rfl⟩
            case measure => simp [Go.RowKit.intOf]; omega
      · obtain rfl : k = al + 1 := by omega
        have hki : decide (((al + 1 : Nat) : Int) ≤ (al : Int)) = false := decide_eq_false (by omega)
        go_wp2_with fail
        refine (lWhole_is HAL h1 h3 _).mono ?_
        rintro e w' ⟨rfl, rfl⟩
        go_wp2_with fail
        clear hki
        refine (iIssueFrom t _ _ _ r _ rfl (by omega) (by exact HR3.out.hA)).mono ?_
        rintro e w6 ⟨v, rfl, ho, hb⟩
        rw [HFR.out] at ho
        obtain ⟨A6, c6, rfl, _, _, _, _⟩ := ho.form
        have HR6 := Lib.hid (Owns.row ho (by omega))
        have HR5' := Lib.hid (Row.below (Row.drewN HR5.out m) hb)
        have HB' := Lib.hid (bel_trans (bel_drewN HB.out m) hb)
        clear ho hb
        go_wp2_with fail
        refine (rSame (same_self q) HR6.out HR5'.out).mono ?_
        rintro e w7 ⟨rfl, m7, rfl⟩
        go_wp2_with fail
        go_ret
        exact ⟨rfl, bel_drewN HB'.out _⟩

set_option maxRecDepth 100000 in
set_option maxHeartbeats 4000000 in
theorem wByResolutions (A : Option Addr) (nn c : Nat) (zs : List Int) (w : World) (hn : nn = zs.length) (hc : nn ≤ c) (hm : c ≤ maxLen) (hr : ∀ z ∈ zs, 0 ≤ z ∧ z ≤ 255) (hA : Nums .u8 w A zs) :
    Calls Try.prog 4 #[.slice A nn c] w fun e w' => e = .returned (.bool true) ∧ Below w.heap.size w w' := by
  have HO := Lib.hid (drawByResolutions_any A nn c zs w hn hc hm hr hA)
  have hm' : nn ≤ 9223372036854775807 := by unfold maxLen at hm; omega
  clear hn hc hm hr hA
  by_cases hl : 1048576 < nn
  · have hd : decide ((1048576 : Int) < (nn : Int)) = true := decide_eq_true (by omega)
    go_enter Try.func4, Try.ntmps4
    go_wp2_with fail
    go_ret
    exact ⟨rfl, Below.refl _ _⟩
  have hd : decide ((1048576 : Int) < (nn : Int)) = false := decide_eq_false (by omega)
  clear hl
  go_enter Try.func4, Try.ntmps4
  go_wp2_with fail
  refine HO.out.mono ?_
  rintro e w1 ⟨t, s, u, rfl, ht0, ht1, hs, hu, hb⟩
  have HB := Lib.hid hb
  clear hb HO hd
  obtain ⟨a, HA⟩ : ∃ n, Hid (resL t s = n) := ⟨_, rfl⟩
  obtain ⟨b, HBL⟩ : ∃ n, Hid (resL t u = n) := ⟨_, rfl⟩
  have hal : a.length ≤ 70 := by rw [← HA.out]; exact Nat.le_trans (resL_len t s) (by omega)
  have hbl : b.length ≤ 70 := by rw [← HBL.out]; exact Nat.le_trans (resL_len t u) (by omega)
  rcases hso : resOk t s with _ | _
  · have HT := Lib.hid hso
    have HN : Hid (byResB t s u = false) := byRes_no (.inl hso)
    obtain ⟨q, HQ⟩ : ∃ n, Hid (resOk t u = n) := ⟨_, rfl⟩
    clear hso
    go_wp2_with fail
    refine (iByRes_is HN _ (by omega) (by omega)).mono ?_
    rintro e w' ⟨rfl, hb⟩
    replace HB := Lib.hid (bel_trans (by first | exact HB.out | exact bel_drewN HB.out _) hb)
    clear hb
    go_wp2_with fail
    refine (sByRes_is HN _ (by omega) (by omega)).mono ?_
    rintro e w' ⟨rfl, hb⟩
    replace HB := Lib.hid (bel_trans (by first | exact HB.out | exact bel_drewN HB.out _) hb)
    clear hb
    go_wp2_with fail
    refine (iResOf_is HA HT _ (by omega)).mono ?_
    rintro e w3 ⟨v, rfl, ho, hb⟩
    obtain ⟨A3, c3, rfl, _, _, _, _⟩ := ho.form
    replace HB := Lib.hid (bel_trans (by first | exact HB.out | exact bel_drewN HB.out _) hb)
    have HR3 := Lib.hid (Owns.row ho (by omega))
    clear ho hb
    go_wp2_with fail
    refine (iResOf_is HBL HQ _ (by omega)).mono ?_
    rintro e w4 ⟨v, rfl, ho, hb⟩
    obtain ⟨A4, c4, rfl, _, _, _, _⟩ := ho.form
    replace HB := Lib.hid (bel_trans (by first | exact HB.out | exact bel_drewN HB.out _) hb)
    replace HR3 := Lib.hid (Row.below (by first | exact HR3.out | exact Row.drewN HR3.out _) hb)
    have HR4 := Lib.hid (Owns.row ho (by omega))
    clear ho hb
    go_wp2_with fail
    refine (lAlive _).mono ?_
    rintro e w' ⟨rfl, rfl⟩
    go_wp2_with fail
    go_ret
    exact ⟨rfl, HB.out⟩
  · rcases hsu : resOk t u with _ | _
    · have HT := Lib.hid hso
      have HQ := Lib.hid hsu
      have HN : Hid (byResB t s u = false) := byRes_no (.inr hsu)
      clear hso hsu
      go_wp2_with fail
      refine (iByRes_is HN _ (by omega) (by omega)).mono ?_
      rintro e w' ⟨rfl, hb⟩
      replace HB := Lib.hid (bel_trans (by first | exact HB.out | exact bel_drewN HB.out _) hb)
      clear hb
      go_wp2_with fail
      refine (sByRes_is HN _ (by omega) (by omega)).mono ?_
      rintro e w' ⟨rfl, hb⟩
      replace HB := Lib.hid (bel_trans (by first | exact HB.out | exact bel_drewN HB.out _) hb)
      clear hb
      go_wp2_with fail
      refine (iResOf_is HA HT _ (by omega)).mono ?_
      rintro e w3 ⟨v, rfl, ho, hb⟩
      obtain ⟨A3, c3, rfl, _, _, _, _⟩ := ho.form
      replace HB := Lib.hid (bel_trans (by first | exact HB.out | exact bel_drewN HB.out _) hb)
      have HR3 := Lib.hid (Owns.row ho (by omega))
      clear ho hb
      go_wp2_with fail
      refine (iResOf_is HBL HQ _ (by omega)).mono ?_
      rintro e w4 ⟨v, rfl, ho, hb⟩
      obtain ⟨A4, c4, rfl, _, _, _, _⟩ := ho.form
      replace HB := Lib.hid (bel_trans (by first | exact HB.out | exact bel_drewN HB.out _) hb)
      replace HR3 := Lib.hid (Row.below (by first | exact HR3.out | exact Row.drewN HR3.out _) hb)
      have HR4 := Lib.hid (Owns.row ho (by omega))
      clear ho hb
      go_wp2_with fail
      refine (lAlive _).mono ?_
      rintro e w' ⟨rfl, rfl⟩
      go_wp2_with fail
      go_ret
      exact ⟨rfl, HB.out⟩
    · have HT := Lib.hid hso
      have HQ := Lib.hid hsu
      obtain ⟨v, HN⟩ : ∃ v, Hid (byResB t s u = v) := ⟨_, rfl⟩
      have HEN : Hid (entailsT t s u = v) := by unfold Hid; rw [← HN.out]; exact law_byRes hso hsu
      clear hso hsu
      cases v
      all_goals
        go_wp2_with fail
        refine (iByRes_is HN _ (by omega) (by omega)).mono ?_
        rintro e w' ⟨rfl, hb⟩
        replace HB := Lib.hid (bel_trans (by first | exact HB.out | exact bel_drewN HB.out _) hb)
        clear hb
        go_wp2_with fail
        refine (sByRes_is HN _ (by omega) (by omega)).mono ?_
        rintro e w' ⟨rfl, hb⟩
        replace HB := Lib.hid (bel_trans (by first | exact HB.out | exact bel_drewN HB.out _) hb)
        clear hb
        go_wp2_with fail
        refine (iResOf_is HA HT _ (by omega)).mono ?_
        rintro e w3 ⟨v, rfl, ho, hb⟩
        obtain ⟨A3, c3, rfl, _, _, _, _⟩ := ho.form
        replace HB := Lib.hid (bel_trans (by first | exact HB.out | exact bel_drewN HB.out _) hb)
        have HR3 := Lib.hid (Owns.row ho (by omega))
        clear ho hb
        go_wp2_with fail
        refine (iResOf_is HBL HQ _ (by omega)).mono ?_
        rintro e w4 ⟨v, rfl, ho, hb⟩
        obtain ⟨A4, c4, rfl, _, _, _, _⟩ := ho.form
        replace HB := Lib.hid (bel_trans (by first | exact HB.out | exact bel_drewN HB.out _) hb)
        replace HR3 := Lib.hid (Row.below (by first | exact HR3.out | exact Row.drewN HR3.out _) hb)
        have HR4 := Lib.hid (Owns.row ho (by omega))
        clear ho hb
        go_wp2_with fail
        refine (iEntailsOf_is HEN _ (by omega) (by omega)).mono ?_
        rintro e w' ⟨rfl, hb⟩
        replace HB := Lib.hid (bel_trans (by first | exact HB.out | exact bel_drewN HB.out _) hb)
        replace HR3 := Lib.hid (Row.below (by first | exact HR3.out | exact Row.drewN HR3.out _) hb)
        replace HR4 := Lib.hid (Row.below (by first | exact HR4.out | exact Row.drewN HR4.out _) hb)
        clear hb
        go_wp2_with fail
        go_ret
        exact ⟨rfl, HB.out⟩

set_option maxRecDepth 100000 in
set_option maxHeartbeats 4000000 in
theorem wAnswersOf (A : Option Addr) (nn c : Nat) (zs : List Int) (w : World) (hn : nn = zs.length) (hc : nn ≤ c) (hm : c ≤ maxLen) (hr : ∀ z ∈ zs, 0 ≤ z ∧ z ≤ 255) (hA : Nums .u8 w A zs) :
    Calls Try.prog 5 #[.slice A nn c] w fun e w' => e = .returned (.bool true) ∧ Below w.heap.size w w' := by
  have HO := Lib.hid (drawAnswersOf_any A nn c zs w hn hc hm hr hA)
  have hm' : nn ≤ 9223372036854775807 := by unfold maxLen at hm; omega
  clear hn hc hm hr hA
  by_cases hl : 1048576 < nn
  · have hd : decide ((1048576 : Int) < (nn : Int)) = true := decide_eq_true (by omega)
    go_enter Try.func5, Try.ntmps5
    go_wp2_with fail
    go_ret
    exact ⟨rfl, Below.refl _ _⟩
  have hd : decide ((1048576 : Int) < (nn : Int)) = false := decide_eq_false (by omega)
  clear hl
  go_enter Try.func5, Try.ntmps5
  go_wp2_with fail
  refine HO.out.mono ?_
  rintro e w1 ⟨t, s, rfl, ht0, ht1, hs, hb⟩
  have HB := Lib.hid hb
  clear hb HO hd
  obtain ⟨r, HRL⟩ : ∃ l, Hid (answersL t s = l) := ⟨_, rfl⟩
  have hrl : r.length ≤ 256 := by rw [← HRL.out]; exact answers_len t s
  rcases hso : resOk t s with _ | _
  · have HE : Hid (r = []) := by unfold Hid; rw [← HRL.out]; exact answers_no hso
    have hz : r.length ≤ 0 := by rw [HE.out]; simp
    have hq : ((r.length : Int) == 0) = true := by rw [beq_iff_eq]; omega
    clear hz hso HE
    go_wp2_with fail
    refine (iAnswersOf_is HRL _ (by omega)).mono ?_
    rintro e w3 ⟨v, rfl, ho, hb⟩
    obtain ⟨A3, c3, rfl, _, _, _, _⟩ := ho.form
    replace HB := Lib.hid (bel_trans (by first | exact HB.out | exact bel_drewN HB.out _) hb)
    have HR3 := Lib.hid (Owns.row ho (by omega))
    clear ho hb
    go_wp2_with fail
    refine (sAnswersOf_is HRL _ (by omega)).mono ?_
    rintro e w4 ⟨v, rfl, ho, hb⟩
    obtain ⟨A4, c4, rfl, _, _, _, _⟩ := ho.form
    replace HB := Lib.hid (bel_trans (by first | exact HB.out | exact bel_drewN HB.out _) hb)
    replace HR3 := Lib.hid (Row.below (by first | exact HR3.out | exact Row.drewN HR3.out _) hb)
    have HR4 := Lib.hid (Owns.row ho (by omega))
    clear ho hb
    go_wp2_with fail
    refine (rSame (same_self r) HR3.out HR4.out).mono ?_
    rintro e w' ⟨rfl, m1, rfl⟩
    go_wp2_with fail
    refine (lAlive _).mono ?_
    rintro e w' ⟨rfl, rfl⟩
    go_wp2_with fail
    go_ret
    exact ⟨rfl, bel_drewN HB.out _⟩
  · have HT := Lib.hid hso
    obtain ⟨hit, hfr, hsub⟩ := law_answers hso
    have hpos := answers_pos hso
    have HIT := Lib.hid hit
    obtain ⟨q, HQ⟩ : ∃ l, Hid (resL t s = l) := ⟨_, rfl⟩
    have hql : q.length ≤ 70 := by rw [← HQ.out]; exact Nat.le_trans (resL_len t s) (by omega)
    rw [HRL.out] at hfr hsub hpos
    rw [HQ.out] at hsub
    have HIQ := Lib.hid hfr
    have HSUB := Lib.hid hsub
    have hq : ((r.length : Int) == 0) = false := by rw [beq_eq_false_iff_ne]; omega
    clear hso hit hfr hsub
    go_wp2_with fail
    refine (iAnswersOf_is HRL _ (by omega)).mono ?_
    rintro e w3 ⟨v, rfl, ho, hb⟩
    obtain ⟨A3, c3, rfl, _, _, _, _⟩ := ho.form
    replace HB := Lib.hid (bel_trans (by first | exact HB.out | exact bel_drewN HB.out _) hb)
    have HR3 := Lib.hid (Owns.row ho (by omega))
    clear ho hb
    go_wp2_with fail
    refine (sAnswersOf_is HRL _ (by omega)).mono ?_
    rintro e w4 ⟨v, rfl, ho, hb⟩
    obtain ⟨A4, c4, rfl, _, _, _, _⟩ := ho.form
    replace HB := Lib.hid (bel_trans (by first | exact HB.out | exact bel_drewN HB.out _) hb)
    replace HR3 := Lib.hid (Row.below (by first | exact HR3.out | exact Row.drewN HR3.out _) hb)
    have HR4 := Lib.hid (Owns.row ho (by omega))
    clear ho hb
    go_wp2_with fail
    refine (rSame (same_self r) HR3.out HR4.out).mono ?_
    rintro e w' ⟨rfl, m2, rfl⟩
    go_wp2_with fail
    refine (iIssueOf_is HIQ HIT _ (by omega)).mono ?_
    rintro e w5 ⟨v, rfl, ho, hb⟩
    obtain ⟨A5, c5, rfl, _, _, _, _⟩ := ho.form
    replace HB := Lib.hid (bel_trans (by first | exact HB.out | exact bel_drewN HB.out _) hb)
    replace HR3 := Lib.hid (Row.below (by first | exact HR3.out | exact Row.drewN HR3.out _) hb)
    replace HR4 := Lib.hid (Row.below (by first | exact HR4.out | exact Row.drewN HR4.out _) hb)
    have HR5 := Lib.hid (Owns.row ho (by omega))
    clear ho hb
    go_wp2_with fail
    refine (iResOf_is HQ HT _ (by omega)).mono ?_
    rintro e w6 ⟨v, rfl, ho, hb⟩
    obtain ⟨A6, c6, rfl, _, _, _, _⟩ := ho.form
    replace HB := Lib.hid (bel_trans (by first | exact HB.out | exact bel_drewN HB.out _) hb)
    replace HR3 := Lib.hid (Row.below (by first | exact HR3.out | exact Row.drewN HR3.out _) hb)
    replace HR4 := Lib.hid (Row.below (by first | exact HR4.out | exact Row.drewN HR4.out _) hb)
    replace HR5 := Lib.hid (Row.below (by first | exact HR5.out | exact Row.drewN HR5.out _) hb)
    have HR6 := Lib.hid (Owns.row ho (by omega))
    clear ho hb
    go_wp2_with fail
    clear hq
    go_loopw [10] (fun i wr => ∃ k : Nat, k ≤ r.length ∧ i = .int .i64 k ∧ wr = w6) (fun i _ => r.length - (Go.RowKit.intOf i).toNat)
    case atStart => exact ⟨0, Nat.zero_le _, rfl, rfl⟩
    case round =>
      obtain ⟨k, hk, rfl, rfl⟩ := hrel
      by_cases hlt : k < r.length
      · obtain ⟨bb, off, x, rfl, hcell, hx, _⟩ := HR3.out.hA.elem hlt
        have HX : Hid (x ∈ q) := HSUB.out x (elem_mem hx)
        have hki : (k : Int) < (r.length : Int) := by omega
        go_wp2_with fail
        refine (lHasInt _ _ _ q x _ HX HR6.out).mono ?_
        rintro e w' ⟨rfl, rfl⟩
        go_wp2_with fail
        go_roundw
        case rel => exact ⟨k + 1, by omega, by go_num, by first | rfl | trivial⟩
        case measure => simp [Go.RowKit.intOf]; omega
      · obtain rfl : k = r.length := by omega
        go_wp2_with fail
        refine (rSame (same_self r) HR5.out HR3.out).mono ?_
        rintro e w7 ⟨rfl, m7, rfl⟩
        go_wp2_with fail
        go_ret
        exact ⟨rfl, bel_drewN HB.out _⟩

set_option maxRecDepth 100000 in
set_option maxHeartbeats 4000000 in
theorem wAnswersIt (A : Option Addr) (nn c : Nat) (zs : List Int) (w : World) (hn : nn = zs.length) (hc : nn ≤ c) (hm : c ≤ maxLen) (hr : ∀ z ∈ zs, 0 ≤ z ∧ z ≤ 255) (hA : Nums .u8 w A zs) :
    Calls Try.prog 6 #[.slice A nn c] w fun e w' => e = .returned (.bool true) ∧ Below w.heap.size w w' := by
  have HO := Lib.hid (drawAnswersIt_any A nn c zs w hn hc hm hr hA)
  have hm' : nn ≤ 9223372036854775807 := by unfold maxLen at hm; omega
  clear hn hc hm hr hA
  by_cases hl : 1048576 < nn
  · have hd : decide ((1048576 : Int) < (nn : Int)) = true := decide_eq_true (by omega)
    go_enter Try.func6, Try.ntmps6
    go_wp2_with fail
    go_ret
    exact ⟨rfl, Below.refl _ _⟩
  have hd : decide ((1048576 : Int) < (nn : Int)) = false := decide_eq_false (by omega)
  clear hl
  go_enter Try.func6, Try.ntmps6
  go_wp2_with fail
  refine HO.out.mono ?_
  rintro e w1 ⟨t, k, s, rfl, ht0, ht1, hk0, hk1, hs, hb⟩
  have HB := Lib.hid hb
  clear hb HO hd
  rcases hok : (resOk t s && setOkB t k) with _ | _
  · have hno : resOk t s = false ∨ setOkB t k = false := by cases h : resOk t s <;> simp_all
    obtain ⟨e1, e2⟩ := answers_no_set hno
    have H1 := Lib.hid e1
    have H2 := Lib.hid e2
    clear hok hno e1 e2
    go_wp2_with fail
    refine (iAnswersIt_is H1 H2 _ (by omega)).mono ?_
    rintro e w' ⟨rfl, hb⟩
    replace HB := Lib.hid (bel_trans (by first | exact HB.out | exact bel_drewN HB.out _) hb)
    clear hb
    go_wp2_with fail
    refine (sAnswersIt_is H1 H2 _ (by omega)).mono ?_
    rintro e w' ⟨rfl, hb⟩
    replace HB := Lib.hid (bel_trans (by first | exact HB.out | exact bel_drewN HB.out _) hb)
    clear hb
    go_wp2_with fail
    refine (lAlive _).mono ?_
    rintro e w' ⟨rfl, rfl⟩
    go_wp2_with fail
    go_ret
    exact ⟨rfl, HB.out⟩
  · rw [Bool.and_eq_true] at hok
    obtain ⟨hso, hset⟩ := hok
    obtain ⟨r, HRL⟩ : ∃ l, Hid (answersL t s = l) := ⟨_, rfl⟩
    have hrl : r.length ≤ 256 := by rw [← HRL.out]; exact answers_len t s
    have hsup := law_answersIt hso hset
    rcases ha : anyWithin k (resL t s) with _ | _
    · obtain ⟨e1, e2⟩ := answers_left hso hset ha
      have hle := leftTo_le k (answersL t s)
      obtain ⟨c, HC⟩ : ∃ c, Hid (leftTo k (answersL t s) = c) := ⟨_, rfl⟩
      rw [HC.out] at e2 hle
      rw [HRL.out] at hle
      rw [e1] at hsup
      have H1 := Lib.hid e1
      have H2 := Lib.hid e2
      have H3 := Lib.hid hsup
      have hle2 : (c : Int) ≤ (r.length : Int) := by omega
      have hneg : decide ((c : Int) < 0) = false := decide_eq_false (by omega)
      clear hso hset ha e1 e2 hsup
      go_wp2_with fail
      refine (iAnswersIt_is H1 H2 _ (by omega)).mono ?_
      rintro e w' ⟨rfl, hb⟩
      replace HB := Lib.hid (bel_trans (by first | exact HB.out | exact bel_drewN HB.out _) hb)
      clear hb
      go_wp2_with fail
      refine (sAnswersIt_is H1 H2 _ (by omega)).mono ?_
      rintro e w' ⟨rfl, hb⟩
      replace HB := Lib.hid (bel_trans (by first | exact HB.out | exact bel_drewN HB.out _) hb)
      clear hb
      go_wp2_with fail
      refine (iSupportsT_is H3 _ (by omega)).mono ?_
      rintro e w' ⟨rfl, hb⟩
      replace HB := Lib.hid (bel_trans (by first | exact HB.out | exact bel_drewN HB.out _) hb)
      clear hb
      go_wp2_with fail
      refine (iAnswersOf_is HRL _ (by omega)).mono ?_
      rintro e w3 ⟨v, rfl, ho, hb⟩
      obtain ⟨A3, c3, rfl, _, _, _, _⟩ := ho.form
      replace HB := Lib.hid (bel_trans (by first | exact HB.out | exact bel_drewN HB.out _) hb)
      have HR3 := Lib.hid (Owns.row ho (by omega))
      clear ho hb
      go_wp2_with fail
      go_ret
      exact ⟨rfl, HB.out⟩
    · obtain ⟨e1, e2⟩ := answers_yes hso hset ha
      rw [e1] at hsup
      have H1 := Lib.hid e1
      have H2 := Lib.hid e2
      have H3 := Lib.hid hsup
      have hle2 : (0 : Int) ≤ (r.length : Int) := by omega
      clear hso hset ha e1 e2 hsup
      go_wp2_with fail
      refine (iAnswersIt_is H1 H2 _ (by omega)).mono ?_
      rintro e w' ⟨rfl, hb⟩
      replace HB := Lib.hid (bel_trans (by first | exact HB.out | exact bel_drewN HB.out _) hb)
      clear hb
      go_wp2_with fail
      refine (sAnswersIt_is H1 H2 _ (by omega)).mono ?_
      rintro e w' ⟨rfl, hb⟩
      replace HB := Lib.hid (bel_trans (by first | exact HB.out | exact bel_drewN HB.out _) hb)
      clear hb
      go_wp2_with fail
      refine (iSupportsT_is H3 _ (by omega)).mono ?_
      rintro e w' ⟨rfl, hb⟩
      replace HB := Lib.hid (bel_trans (by first | exact HB.out | exact bel_drewN HB.out _) hb)
      clear hb
      go_wp2_with fail
      refine (iAnswersOf_is HRL _ (by omega)).mono ?_
      rintro e w3 ⟨v, rfl, ho, hb⟩
      obtain ⟨A3, c3, rfl, _, _, _, _⟩ := ho.form
      replace HB := Lib.hid (bel_trans (by first | exact HB.out | exact bel_drewN HB.out _) hb)
      have HR3 := Lib.hid (Owns.row ho (by omega))
      clear ho hb
      go_wp2_with fail
      go_ret
      exact ⟨rfl, HB.out⟩
end Go.Proofs.Ytbiifcdlfmeahaa
