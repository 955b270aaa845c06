/-
  The model's IssueOk: its contract.
-/
import Derived.Test.YtfancfjbipjibaaLists
namespace Go.Proofs.Ytfancfjbipjibaa
open Go.RowKit

theorem pair_snoc_of {ys : List Int} {x : Int} (h : pairB ys = true) (hx : ∀ y ∈ ys, y < x ∧ withinB x y = false ∧ withinB y x = false) : pairB (ys ++ [x]) = true := by
  unfold pairB at *
  apply decide_eq_true
  rw [List.pairwise_append]
  refine ⟨of_decide_eq_true h, by simp, fun a ha b hb => ?_⟩
  obtain rfl : b = x := by simpa using hb
  obtain ⟨h1, h2, h3⟩ := hx a ha
  simp [apartB, h1, h2, h3]
theorem pair_lt {xs : List Int} (h : pairB xs = true) {i j : Nat} {x y : Int} (hij : i < j) (hx : xs[i]? = some x) (hy : xs[j]? = some y) : x < y ∧ withinB x y = false ∧ withinB y x = false := by
  obtain ⟨hi, rfl⟩ := List.getElem?_eq_some_iff.1 hx
  obtain ⟨hj, rfl⟩ := List.getElem?_eq_some_iff.1 hy
  have := List.pairwise_iff_getElem.1 (of_decide_eq_true h) i j hi hj hij
  simp [apartB] at this
  exact ⟨this.1.1, by simp [this.1.2], by simp [this.2]⟩
theorem issue_notPair {t : Int} {xs : List Int} {i j : Nat} {x y : Int} (hij : i < j) (hx : xs[i]? = some x) (hy : xs[j]? = some y) (h : y ≤ x ∨ withinB x y = true ∨ withinB y x = true) : issueOkB t xs = false := by
  unfold issueOkB
  rw [Bool.and_eq_false_iff]; right
  cases hp : pairB xs
  · rfl
  · obtain ⟨h1, h2, h3⟩ := pair_lt hp hij hx hy
    rcases h with h | h | h
    · omega
    · rw [h2] at h; cases h
    · rw [h3] at h; cases h

/-- What stands behind k rounds: the first k sets are sets and stand apart. -/
def Pre (t : Int) (xs : List Int) (k : Nat) : Prop := (xs.take k).all (setOkB t) = true ∧ pairB (xs.take k) = true
theorem pre_zero (t : Int) (xs : List Int) : Hid (Pre t xs 0) := ⟨rfl, rfl⟩
theorem pre_next {t : Int} {xs : List Int} {k : Nat} {x : Int} (h : Hid (Pre t xs k)) (hx : Hid (xs[k]? = some x)) (hs : setOkB t x = true) (ha : k = 0 ∨ ∃ y, xs[k - 1]? = some y ∧ y < x)
    (hw : ∀ i y, i < k → xs[i]? = some y → withinB x y = false ∧ withinB y x = false) : Hid (Pre t xs (k + 1)) := by
  obtain ⟨h1, h2⟩ := h.out
  refine ⟨by rw [all_snoc hx, h1, hs]; rfl, ?_⟩
  rw [take_snoc hx]
  refine pair_snoc_of h2 fun y hy => ?_
  obtain ⟨i, hi, rfl⟩ := List.mem_iff_getElem.1 hy
  have hik : i < k := by rw [List.length_take] at hi; omega
  have hxi : xs[i]? = some (xs.take k)[i] := by rw [List.getElem_take, List.getElem?_eq_getElem]
  refine ⟨?_, hw i _ hik hxi⟩
  rcases ha with rfl | ⟨z, hz, hzx⟩
  · omega
  · by_cases e : i = k - 1
    · rw [← e, hxi] at hz; cases hz; exact hzx
    · have h3 : (xs.take k)[k - 1]? = some z := by rw [List.getElem?_take_of_lt (by omega)]; exact hz
      have := (pair_lt h2 (show i < k - 1 by omega) (List.getElem?_eq_getElem hi) h3).1
      omega
theorem pre_end {t : Int} {xs : List Int} (h : Hid (Pre t xs xs.length)) : issueOkB t xs = (inB t 1 3 && inB (xs.length : Int) 1 70) := by
  obtain ⟨h1, h2⟩ := h.out
  rw [List.take_length] at h1 h2
  unfold issueOkB partsOkB
  rw [h1, h2]
  cases xs with
  | nil => simp [inB]
  | cons x r =>
    have hx : setOkB t x = true := by rw [List.all_eq_true] at h1; exact h1 x (by simp)
    have := setOkB_lt hx
    unfold inB
    rw [Bool.eq_iff_iff]
    simp only [List.length_cons, Bool.and_eq_true, decide_eq_true_eq, and_true]
    omega

theorem sSetOk_is {t s : Int} {b : Bool} (h : Hid (setOkB t s = b)) (w : World) : Calls Try.prog 70 #[.int .i64 t, .int .i64 s] w fun e w' => e = .returned (.bool b) ∧ w = w' :=
  (sSetOk t s w).mono fun _ _ ⟨he, hw⟩ => ⟨he.trans (ret_bool h.out), hw⟩
theorem sWithin_is {a b : Int} {v : Bool} (h : Hid (withinB a b = v)) (ha : 0 ≤ a) (ha2 : a < 256) (hb : 0 ≤ b) (hb2 : b < 256) (w : World) :
    Calls Try.prog 71 #[.int .i64 a, .int .i64 b] w fun e w' => e = .returned (.bool v) ∧ ∃ n, w' = w.drewN n :=
  (sWithin a b ha ha2 hb hb2 w).mono fun _ _ ⟨he, hw⟩ => ⟨he.trans (ret_bool h.out), hw⟩
theorem quiet_more {P : Program} {f : FuncId} {args : Array Value} {w : World} {a n : Nat} {v : Value}
    (h : Calls P f args (w.drewN (a + n)) fun e w' => e = .returned v ∧ ∃ m, w' = (w.drewN (a + n)).drewN m) : Calls P f args (w.drewN (a + n)) fun e w'' => e = .returned v ∧ ∃ m, w'' = w.drewN (a + m) :=
  h.mono fun _ _ ⟨he, m, hm⟩ => ⟨he, n + m, by rw [hm, World.drewN_drewN, Nat.add_assoc]⟩

theorem apart_snoc {xs : List Int} {i : Nat} {x y : Int} (h : Hid (∀ i' y, i' < i → xs[i']? = some y → withinB x y = false ∧ withinB y x = false)) (hy : Hid (xs[i]? = some y))
    (h1 : withinB x y = false) (h2 : withinB y x = false) : Hid (∀ i' y, i' < i + 1 → xs[i']? = some y → withinB x y = false ∧ withinB y x = false) := by
  intro j z hj hz
  by_cases e : j = i
  · subst e
    have := hy.out.symm.trans hz
    cases this
    exact ⟨h1, h2⟩
  · exact h.out j z (by omega) hz

set_option maxHeartbeats 2000000 in
theorem sIssueOk (t : Int) (A : Option Addr) (nn c : Nat) (xs : List Int) (w : World) (hn : nn = xs.length) (hl : nn ≤ 1048576) (hA : Nums .i64 w A xs) :
    Calls Try.prog 33 #[.int .i64 t, .slice A nn c] w fun e w' => e = .returned (.bool (issueOkB t xs)) ∧ ∃ n, w' = w.drewN n := by
  subst hn
  have HA := Lib.hid hA
  clear hA
  go_enter Try.func33, Try.ntmps33
  go_wp2
  go_loopw [5] (fun i wr => ∃ k : Nat, k ≤ xs.length ∧ i = .int .i64 k ∧ Hid (Pre t xs k) ∧ ∃ n, wr = w.drewN n) (fun i _ => xs.length - (intOf i).toNat)
  case atStart => exact ⟨0, Nat.zero_le _, rfl, pre_zero t xs, 0, rfl⟩
  case round =>
    obtain ⟨k, hk, rfl, hpre, n, rfl⟩ := hrel
    by_cases hlt : k < xs.length
    · obtain ⟨b, off, x, rfl, hcell, hx, _⟩ := HA.out.elem hlt
      rcases hs : setOkB t x with _ | _
      · have HS := Lib.hid hs
        clear hs
        go_wp2
        go_quiet ((go_at_call 70; exact quiet_add (sSetOk_is HS _)))
        go_wp2
        go_ret
        exact ⟨ret_bool (by rw [issue_notParts (partsOk_miss hx HS.out)]), _, World.drewN_drewN _ _ _⟩
      · have HS := Lib.hid hs
        obtain ⟨_, _, hx0, _, hx1⟩ := setOkB_lt hs
        clear hs
        have HALL : Hid (∀ i y, i < k → xs[i]? = some y → 0 ≤ y ∧ y < 256) := by
          intro i y hi hy
          have h1 := hpre.out.1
          rw [List.all_eq_true] at h1
          have := setOkB_lt (h1 y (List.mem_of_getElem? (by rw [List.getElem?_take_of_lt hi]; exact hy)))
          omega
        by_cases hk0 : k = 0
        · have hd : decide (0 < k) = false := by simp; omega
          have hadj : Hid (k = 0 ∨ ∃ y, xs[k - 1]? = some y ∧ y < x) := .inl hk0
          have HK := Lib.hid hk0
          clear hk0
          go_wp2
          go_quiet ((go_at_call 70; exact quiet_add (sSetOk_is HS _)))
          go_wp2
          go_loopw [6] (fun j wr => ∃ i : Nat, i ≤ k ∧ j = .int .i64 i ∧ Hid (∀ i' y, i' < i → xs[i']? = some y → withinB x y = false ∧ withinB y x = false) ∧ ∃ m, wr = w.drewN m) (fun j _ => k - (intOf j).toNat)
          case atStart => exact ⟨0, Nat.zero_le _, rfl, fun i' y h => by omega, _, World.drewN_drewN _ _ _⟩
          case round =>
            obtain ⟨i, hi, rfl, hsofar, m, rfl⟩ := hrel
            by_cases hik : i < k
            · obtain ⟨b', off', y, hAA, hcy, hy, _⟩ := HA.out.elem (i := i) (by omega)
              cases hAA
              have hin : i < xs.length := by omega
              have hyr := HALL.out i y hik hy.out
              obtain ⟨hy0, hy1⟩ := hyr
              rcases h1 : withinB x y with _ | _
              · rcases h2 : withinB y x with _ | _
                · go_wp2
                  go_quiet ((go_at_call 71; exact quiet_more (sWithin _ _ (by omega) (by omega) (by omega) (by omega) _)))
                  go_wp2
                  go_roundw
                  case rel => exact ⟨i + 1, by omega, by go_num, apart_snoc hsofar hy h1 h2, _, rfl⟩
                  case measure => simp [intOf]; omega
                · have HF := Lib.hid (issue_notPair (t := t) hik hy.out hx.out (.inr (.inl h2)))
                  go_wp2
                  go_quiet ((go_at_call 71; exact quiet_more (sWithin _ _ (by omega) (by omega) (by omega) (by omega) _)))
                  go_wp2
                  go_ret
                  exact ⟨ret_bool HF.out.symm, _, World.drewN_drewN _ _ _⟩
              · have HF := Lib.hid (issue_notPair (t := t) hik hy.out hx.out (.inr (.inr h1)))
                have H1 := Lib.hid h1
                clear h1
                go_wp2
                go_quiet ((go_at_call 71; exact quiet_more (sWithin_is H1 (by omega) (by omega) (by omega) (by omega) _)))
                go_wp2
                go_ret
                exact ⟨ret_bool HF.out.symm, _, World.drewN_drewN _ _ _⟩
            · obtain rfl : i = k := by omega
              have hnext := pre_next hpre hx HS.out hadj.out hsofar.out
              clear hsofar
              go_wp2
              go_roundw
              case rel => exact ⟨i + 1, by omega, by go_num, hnext, _, rfl⟩
              case measure => simp [intOf]; omega
        · have hd : decide (0 < k) = true := by simp; omega
          have e1 : IntKind.i64.wrap ((k : Int) - 1) = (k : Int) - 1 := IntWalk.i64_in _ (by omega)
          have e2 : (0 : Int) ≤ (k : Int) - 1 := by omega
          have e3 : ((k : Int) - 1).toNat = k - 1 := by omega
          have e4 : (k : Int) - 1 < (xs.length : Int) := by omega
          have e5 : (1 : Int) ≤ (k : Int) := by omega
          obtain ⟨b', off', z, hAA, hcz, hz, _⟩ := HA.out.elem (i := k - 1) (by omega)
          cases hAA
          by_cases hle : x ≤ z
          · have hdd : decide (x ≤ z) = true := by simp; omega
            have HF := Lib.hid (issue_notPair (t := t) (show k - 1 < k by omega) hz.out hx.out (.inl hle))
            go_wp2
            go_quiet ((go_at_call 70; exact quiet_add (sSetOk_is HS _)))
            go_wp2
            go_ret
            exact ⟨ret_bool HF.out.symm, _, World.drewN_drewN _ _ _⟩
          have hdd : decide (x ≤ z) = false := by simp; omega
          have hadj : Hid (k = 0 ∨ ∃ y, xs[k - 1]? = some y ∧ y < x) := .inr ⟨z, hz.out, by omega⟩
          go_wp2
          go_quiet ((go_at_call 70; exact quiet_add (sSetOk_is HS _)))
          clear e1 e2 e3 e4 e5 hdd hd
          go_wp2
          go_loopw [6] (fun j wr => ∃ i : Nat, i ≤ k ∧ j = .int .i64 i ∧ Hid (∀ i' y, i' < i → xs[i']? = some y → withinB x y = false ∧ withinB y x = false) ∧ ∃ m, wr = w.drewN m) (fun j _ => k - (intOf j).toNat)
          case atStart => exact ⟨0, Nat.zero_le _, rfl, fun i' y h => by omega, _, World.drewN_drewN _ _ _⟩
          case round =>
            obtain ⟨i, hi, rfl, hsofar, m, rfl⟩ := hrel
            by_cases hik : i < k
            · obtain ⟨b', off', y, hAA, hcy, hy, _⟩ := HA.out.elem (i := i) (by omega)
              cases hAA
              have hin : i < xs.length := by omega
              have hyr := HALL.out i y hik hy.out
              obtain ⟨hy0, hy1⟩ := hyr
              rcases h1 : withinB x y with _ | _
              · rcases h2 : withinB y x with _ | _
                · go_wp2
                  go_quiet ((go_at_call 71; exact quiet_more (sWithin _ _ (by omega) (by omega) (by omega) (by omega) _)))
                  go_wp2
                  go_roundw
                  case rel => exact ⟨i + 1, by omega, by go_num, apart_snoc hsofar hy h1 h2, _, rfl⟩
                  case measure => simp [intOf]; omega
                · have HF := Lib.hid (issue_notPair (t := t) hik hy.out hx.out (.inr (.inl h2)))
                  go_wp2
                  go_quiet ((go_at_call 71; exact quiet_more (sWithin _ _ (by omega) (by omega) (by omega) (by omega) _)))
                  go_wp2
                  go_ret
                  exact ⟨ret_bool HF.out.symm, _, World.drewN_drewN _ _ _⟩
              · have HF := Lib.hid (issue_notPair (t := t) hik hy.out hx.out (.inr (.inr h1)))
                have H1 := Lib.hid h1
                clear h1
                go_wp2
                go_quiet ((go_at_call 71; exact quiet_more (sWithin_is H1 (by omega) (by omega) (by omega) (by omega) _)))
                go_wp2
                go_ret
                exact ⟨ret_bool HF.out.symm, _, World.drewN_drewN _ _ _⟩
            · obtain rfl : i = k := by omega
              have hnext := pre_next hpre hx HS.out hadj.out hsofar.out
              clear hsofar
              go_wp2
              go_roundw
              case rel => exact ⟨i + 1, by omega, by go_num, hnext, _, rfl⟩
              case measure => simp [intOf]; omega
    · obtain rfl : k = xs.length := by omega
      have HE := Lib.hid (pre_end hpre)
      clear hpre
      rcases ht : inB t 1 3 with _ | _
      · have HT := Lib.hid ht
        clear ht
        go_wp2_with fail
        refine (sIn _ _ _ _).mono ?_
        rintro e w' ⟨rfl, rfl⟩
        rw [HT.out]
        go_wp2_with fail
        go_ret
        exact ⟨ret_bool (by rw [HE.out, HT.out]; rfl), _, rfl⟩
      · have HT := Lib.hid ht
        clear ht
        go_wp2_with fail
        refine (sIn _ _ _ _).mono ?_
        rintro e w' ⟨rfl, rfl⟩
        rw [HT.out]
        go_wp2_with fail
        refine (sIn _ _ _ _).mono ?_
        rintro e w' ⟨rfl, rfl⟩
        go_wp2_with fail
        go_ret
        exact ⟨ret_bool (by rw [HE.out, HT.out]; rfl), _, rfl⟩
end Go.Proofs.Ytfancfjbipjibaa
