/-
  What the proofs of this seat's statements share (IssueOk, Settles, Statement, Read, Draw, Laws3, Both, Laws4).
-/
import Derived.BigQuiet
import Derived.Deep.QuietTactic
import Derived.OwnWalk
import Derived.OpenShut
import Derived.Test.YtmdogidflaplkaaGreatU2

namespace Go.Proofs.YtmdogidflaplkaaGreat
open Go.RowKit

theorem pair_snoc_of {ys : List Int} {x : Int} (h : pairB ys = true) (hx : ∀ y ∈ ys, y < x ∧ withinB x y = false ∧ withinB y x = false) : pairB (ys ++ [x]) = true := by
  unfold pairB at *
  apply decide_eq_true
  rw [List.pairwise_append]
  refine ⟨of_decide_eq_true h, by simp, fun a ha b hb => ?_⟩
  obtain rfl : b = x := by simpa using hb
  obtain ⟨h1, h2, h3⟩ := hx a ha
  simp [apartB, h1, h2, h3]
theorem pair_lt {xs : List Int} (h : pairB xs = true) {i j : Nat} {x y : Int} (hij : i < j) (hx : xs[i]? = some x) (hy : xs[j]? = some y) : x < y ∧ withinB x y = false ∧ withinB y x = false := by
  obtain ⟨hi, rfl⟩ := List.getElem?_eq_some_iff.1 hx
  obtain ⟨hj, rfl⟩ := List.getElem?_eq_some_iff.1 hy
  have := List.pairwise_iff_getElem.1 (of_decide_eq_true h) i j hi hj hij
  simp [apartB] at this
  exact ⟨this.1.1, by simp [this.1.2], by simp [this.2]⟩
theorem issue_notPair {t : Int} {xs : List Int} {i j : Nat} {x y : Int} (hij : i < j) (hx : xs[i]? = some x) (hy : xs[j]? = some y) (h : y ≤ x ∨ withinB x y = true ∨ withinB y x = true) : issueOkB t xs = false := by
  unfold issueOkB
  rw [Bool.and_eq_false_iff]; right
  cases hp : pairB xs
  · rfl
  · obtain ⟨h1, h2, h3⟩ := pair_lt hp hij hx hy
    rcases h with h | h | h
    · omega
    · rw [h2] at h; cases h
    · rw [h3] at h; cases h

/-- What stands behind k rounds: the first k sets are sets and stand apart. -/
def Pre (t : Int) (xs : List Int) (k : Nat) : Prop := (xs.take k).all (setOkB t) = true ∧ pairB (xs.take k) = true
theorem pre_zero (t : Int) (xs : List Int) : Hid (Pre t xs 0) := ⟨rfl, rfl⟩
theorem pre_next {t : Int} {xs : List Int} {k : Nat} {x : Int} (h : Hid (Pre t xs k)) (hx : Hid (xs[k]? = some x)) (hs : setOkB t x = true) (ha : k = 0 ∨ ∃ y, xs[k - 1]? = some y ∧ y < x)
    (hw : ∀ i y, i < k → xs[i]? = some y → withinB x y = false ∧ withinB y x = false) : Hid (Pre t xs (k + 1)) := by
  obtain ⟨h1, h2⟩ := h.out
  refine ⟨by rw [all_snoc hx, h1, hs]; rfl, ?_⟩
  rw [take_snoc hx]
  refine pair_snoc_of h2 fun y hy => ?_
  obtain ⟨i, hi, rfl⟩ := List.mem_iff_getElem.1 hy
  have hik : i < k := by rw [List.length_take] at hi; omega
  have hxi : xs[i]? = some (xs.take k)[i] := by rw [List.getElem_take, List.getElem?_eq_getElem]
  refine ⟨?_, hw i _ hik hxi⟩
  rcases ha with rfl | ⟨z, hz, hzx⟩
  · omega
  · by_cases e : i = k - 1
    · rw [← e, hxi] at hz; cases hz; exact hzx
    · have h3 : (xs.take k)[k - 1]? = some z := by rw [List.getElem?_take_of_lt (by omega)]; exact hz
      have := (pair_lt h2 (show i < k - 1 by omega) (List.getElem?_eq_getElem hi) h3).1
      omega
theorem pre_end {t : Int} {xs : List Int} (h : Hid (Pre t xs xs.length)) : issueOkB t xs = (inB t 1 3 && inB (xs.length : Int) 1 70) := by
  obtain ⟨h1, h2⟩ := h.out
  rw [List.take_length] at h1 h2
  unfold issueOkB partsOkB
  rw [h1, h2]
  cases xs with
  | nil => simp [inB]
  | cons x r =>
    have hx : setOkB t x = true := by rw [List.all_eq_true] at h1; exact h1 x (by simp)
    have := setOkB_lt hx
    unfold inB
    rw [Bool.eq_iff_iff]
    simp only [List.length_cons, Bool.and_eq_true, decide_eq_true_eq, and_true]
    omega

theorem sSetOk_is {t s : Int} {b : Bool} (h : Hid (setOkB t s = b)) (w : World) : Calls Tryz.prog 79 #[.int .i64 t, .int .i64 s] w fun e w' => e = .returned (.bool b) ∧ w = w' :=
  (sSetOk t s w).mono fun _ _ ⟨he, hw⟩ => ⟨he.trans (ret_bool h.out), hw⟩
theorem sWithin_is {a b : Int} {v : Bool} (h : Hid (withinB a b = v)) (ha : 0 ≤ a) (ha2 : a < 256) (hb : 0 ≤ b) (hb2 : b < 256) (w : World) :
    Calls Tryz.prog 44 #[.int .i64 a, .int .i64 b] w fun e w' => e = .returned (.bool v) ∧ ∃ n, w' = w.drewN n :=
  (sWithin a b ha ha2 hb hb2 w).mono fun _ _ ⟨he, hw⟩ => ⟨he.trans (ret_bool h.out), hw⟩
theorem quiet_more {P : Program} {f : FuncId} {args : Array Value} {w : World} {a n : Nat} {v : Value}
    (h : Calls P f args (w.drewN (a + n)) fun e w' => e = .returned v ∧ ∃ m, w' = (w.drewN (a + n)).drewN m) : Calls P f args (w.drewN (a + n)) fun e w'' => e = .returned v ∧ ∃ m, w'' = w.drewN (a + m) :=
  h.mono fun _ _ ⟨he, m, hm⟩ => ⟨he, n + m, by rw [hm, World.drewN_drewN, Nat.add_assoc]⟩

theorem apart_snoc {xs : List Int} {i : Nat} {x y : Int} (h : Hid (∀ i' y, i' < i → xs[i']? = some y → withinB x y = false ∧ withinB y x = false)) (hy : Hid (xs[i]? = some y))
    (h1 : withinB x y = false) (h2 : withinB y x = false) : Hid (∀ i' y, i' < i + 1 → xs[i']? = some y → withinB x y = false ∧ withinB y x = false) := by
  intro j z hj hz
  by_cases e : j = i
  · subst e
    have := hy.out.symm.trans hz
    cases this
    exact ⟨h1, h2⟩
  · exact h.out j z (by omega) hz

set_option maxHeartbeats 2000000 in
theorem sIssueOk (t : Int) (A : Option Addr) (nn c : Nat) (xs : List Int) (w : World) (hn : nn = xs.length) (hl : nn ≤ 1048576) (hA : Nums .i64 w A xs) :
    Calls Tryz.prog 115 #[.int .i64 t, .slice A nn c] w fun e w' => e = .returned (.bool (issueOkB t xs)) ∧ ∃ n, w' = w.drewN n := by
  subst hn
  have HA := Lib.hid hA
  clear hA
  go_enter Tryz.func115, Tryz.ntmps115
  go_wp2
  go_loopw [5] (fun i wr => ∃ k : Nat, k ≤ xs.length ∧ i = .int .i64 k ∧ Hid (Pre t xs k) ∧ ∃ n, wr = w.drewN n) (fun i _ => xs.length - (Go.RowKit.intOf i).toNat)
  case atStart => exact ⟨0, Nat.zero_le _, rfl, pre_zero t xs, 0, rfl⟩
  case round =>
    obtain ⟨k, hk, rfl, hpre, n, rfl⟩ := hrel
    by_cases hlt : k < xs.length
    · obtain ⟨b, off, x, rfl, hcell, hx, _⟩ := HA.out.elem hlt
      rcases hs : setOkB t x with _ | _
      · have HS := Lib.hid hs
        clear hs
        go_wp2
        go_quiet ((go_at_call 79; exact quiet_add (sSetOk_is HS _)))
        go_wp2
        go_ret
        exact ⟨ret_bool (by rw [issue_notParts (partsOk_miss hx HS.out)]), _, World.drewN_drewN _ _ _⟩
      · have HS := Lib.hid hs
        obtain ⟨_, _, hx0, _, hx1⟩ := setOkB_lt hs
        clear hs
        have HALL : Hid (∀ i y, i < k → xs[i]? = some y → 0 ≤ y ∧ y < 256) := by
          intro i y hi hy
          have h1 := hpre.out.1
          rw [List.all_eq_true] at h1
          have := setOkB_lt (h1 y (List.mem_of_getElem? (by rw [List.getElem?_take_of_lt hi]; exact hy)))
          omega
        by_cases hk0 : k = 0
        · have hd : decide (0 < k) = false := by simp; omega
          have hadj : Hid (k = 0 ∨ ∃ y, xs[k - 1]? = some y ∧ y < x) := .inl hk0
          have HK := Lib.hid hk0
          clear hk0
          go_wp2
          go_quiet ((go_at_call 79; exact quiet_add (sSetOk_is HS _)))
          go_wp2
          go_loopw [6] (fun j wr => ∃ i : Nat, i ≤ k ∧ j = .int .i64 i ∧ Hid (∀ i' y, i' < i → xs[i']? = some y → withinB x y = false ∧ withinB y x = false) ∧ ∃ m, wr = w.drewN m) (fun j _ => k - (Go.RowKit.intOf j).toNat)
          case atStart => exact ⟨0, Nat.zero_le _, rfl, fun i' y h => by omega, _, World.drewN_drewN _ _ _⟩
          case round =>
            obtain ⟨i, hi, rfl, hsofar, m, rfl⟩ := hrel
            by_cases hik : i < k
            · obtain ⟨b', off', y, hAA, hcy, hy, _⟩ := HA.out.elem (i := i) (by omega)
              cases hAA
              have hin : i < xs.length := by omega
              have hyr := HALL.out i y hik hy.out
              obtain ⟨hy0, hy1⟩ := hyr
              rcases h1 : withinB x y with _ | _
              · rcases h2 : withinB y x with _ | _
                · go_wp2
                  go_quiet ((go_at_call 44; exact quiet_more (sWithin _ _ (by omega) (by omega) (by omega) (by omega) _)))
                  go_wp2
                  go_roundw
                  case rel => exact ⟨i + 1, by omega, by go_num, apart_snoc hsofar hy h1 h2, _, rfl⟩
                  case measure => simp [Go.RowKit.intOf]; omega
                · have HF := Lib.hid (issue_notPair (t := t) hik hy.out hx.out (.inr (.inl h2)))
                  go_wp2
                  go_quiet ((go_at_call 44; exact quiet_more (sWithin _ _ (by omega) (by omega) (by omega) (by omega) _)))
                  go_wp2
                  go_ret
                  exact ⟨ret_bool HF.out.symm, _, World.drewN_drewN _ _ _⟩
              · have HF := Lib.hid (issue_notPair (t := t) hik hy.out hx.out (.inr (.inr h1)))
                have H1 := Lib.hid h1
                clear h1
                go_wp2
                go_quiet ((go_at_call 44; exact quiet_more (sWithin_is H1 (by omega) (by omega) (by omega) (by omega) _)))
                go_wp2
                go_ret
                exact ⟨ret_bool HF.out.symm, _, World.drewN_drewN _ _ _⟩
            · obtain rfl : i = k := by omega
              have hnext := pre_next hpre hx HS.out hadj.out hsofar.out
              clear hsofar
              go_wp2
              go_roundw
              case rel => exact ⟨i + 1, by omega, by go_num, hnext, _, rfl⟩
              case measure => simp [Go.RowKit.intOf]; omega
        · have hd : decide (0 < k) = true := by simp; omega
          have e1 : IntKind.i64.wrap ((k : Int) - 1) = (k : Int) - 1 := IntWalk.i64_in _ (by omega)
          have e2 : (0 : Int) ≤ (k : Int) - 1 := by omega
          have e3 : ((k : Int) - 1).toNat = k - 1 := by omega
          have e4 : (k : Int) - 1 < (xs.length : Int) := by omega
          have e5 : (1 : Int) ≤ (k : Int) := by omega
          obtain ⟨b', off', z, hAA, hcz, hz, _⟩ := HA.out.elem (i := k - 1) (by omega)
          cases hAA
          by_cases hle : x ≤ z
          · have hdd : decide (x ≤ z) = true := by simp; omega
            have HF := Lib.hid (issue_notPair (t := t) (show k - 1 < k by omega) hz.out hx.out (.inl hle))
            go_wp2
            go_quiet ((go_at_call 79; exact quiet_add (sSetOk_is HS _)))
            go_wp2
            go_ret
            exact ⟨ret_bool HF.out.symm, _, World.drewN_drewN _ _ _⟩
          have hdd : decide (x ≤ z) = false := by simp; omega
          have hadj : Hid (k = 0 ∨ ∃ y, xs[k - 1]? = some y ∧ y < x) := .inr ⟨z, hz.out, by omega⟩
          go_wp2
          go_quiet ((go_at_call 79; exact quiet_add (sSetOk_is HS _)))
          clear e1 e2 e3 e4 e5 hdd hd
          go_wp2
          go_loopw [6] (fun j wr => ∃ i : Nat, i ≤ k ∧ j = .int .i64 i ∧ Hid (∀ i' y, i' < i → xs[i']? = some y → withinB x y = false ∧ withinB y x = false) ∧ ∃ m, wr = w.drewN m) (fun j _ => k - (Go.RowKit.intOf j).toNat)
          case atStart => exact ⟨0, Nat.zero_le _, rfl, fun i' y h => by omega, _, World.drewN_drewN _ _ _⟩
          case round =>
            obtain ⟨i, hi, rfl, hsofar, m, rfl⟩ := hrel
            by_cases hik : i < k
            · obtain ⟨b', off', y, hAA, hcy, hy, _⟩ := HA.out.elem (i := i) (by omega)
              cases hAA
              have hin : i < xs.length := by omega
              have hyr := HALL.out i y hik hy.out
              obtain ⟨hy0, hy1⟩ := hyr
              rcases h1 : withinB x y with _ | _
              · rcases h2 : withinB y x with _ | _
                · go_wp2
                  go_quiet ((go_at_call 44; exact quiet_more (sWithin _ _ (by omega) (by omega) (by omega) (by omega) _)))
                  go_wp2
                  go_roundw
                  case rel => exact ⟨i + 1, by omega, by go_num, apart_snoc hsofar hy h1 h2, _, rfl⟩
                  case measure => simp [Go.RowKit.intOf]; omega
                · have HF := Lib.hid (issue_notPair (t := t) hik hy.out hx.out (.inr (.inl h2)))
                  go_wp2
                  go_quiet ((go_at_call 44; exact quiet_more (sWithin _ _ (by omega) (by omega) (by omega) (by omega) _)))
                  go_wp2
                  go_ret
                  exact ⟨ret_bool HF.out.symm, _, World.drewN_drewN _ _ _⟩
              · have HF := Lib.hid (issue_notPair (t := t) hik hy.out hx.out (.inr (.inr h1)))
                have H1 := Lib.hid h1
                clear h1
                go_wp2
                go_quiet ((go_at_call 44; exact quiet_more (sWithin_is H1 (by omega) (by omega) (by omega) (by omega) _)))
                go_wp2
                go_ret
                exact ⟨ret_bool HF.out.symm, _, World.drewN_drewN _ _ _⟩
            · obtain rfl : i = k := by omega
              have hnext := pre_next hpre hx HS.out hadj.out hsofar.out
              clear hsofar
              go_wp2
              go_roundw
              case rel => exact ⟨i + 1, by omega, by go_num, hnext, _, rfl⟩
              case measure => simp [Go.RowKit.intOf]; omega
    · obtain rfl : k = xs.length := by omega
      have HE := Lib.hid (pre_end hpre)
      clear hpre
      rcases ht : inB t 1 3 with _ | _
      · have HT := Lib.hid ht
        clear ht
        go_wp2_with fail
        refine (sIn _ _ _ _).mono ?_
        rintro e w' ⟨rfl, rfl⟩
        rw [HT.out]
        go_wp2_with fail
        go_ret
        exact ⟨ret_bool (by rw [HE.out, HT.out]; rfl), _, rfl⟩
      · have HT := Lib.hid ht
        clear ht
        go_wp2_with fail
        refine (sIn _ _ _ _).mono ?_
        rintro e w' ⟨rfl, rfl⟩
        rw [HT.out]
        go_wp2_with fail
        refine (sIn _ _ _ _).mono ?_
        rintro e w' ⟨rfl, rfl⟩
        go_wp2_with fail
        go_ret
        exact ⟨ret_bool (by rw [HE.out, HT.out]; rfl), _, rfl⟩
end Go.Proofs.YtmdogidflaplkaaGreat

namespace Go.Proofs.YtmdogidflaplkaaGreat
open Go.RowKit

def settlesB (t : Int) (xs : List Int) (s : Int) : Bool := issueOkB t xs && setOkB t s && anyWithin s xs

theorem iSetOk_is {t s : Int} {b : Bool} (h : Hid (setOkB t s = b)) (w : World) : Calls Tryz.prog 52 #[.int .i64 t, .int .i64 s] w fun e w' => e = .returned (.bool b) ∧ w = w' :=
  (iSetOk t s w).mono fun _ _ ⟨he, hw⟩ => ⟨he.trans (ret_bool h.out), hw⟩
theorem iIssueOk_is {t : Int} {xs : List Int} {b : Bool} (h : Hid (issueOkB t xs = b)) (A : Option Addr) (nn c : Nat) (w : World) (hn : nn = xs.length) (hl : nn ≤ 1048576) (hc : nn ≤ c) (hm : c ≤ maxLen) (hA : Nums .i64 w A xs) :
    Calls Tryz.prog 113 #[.int .i64 t, .slice A nn c] w fun e w' => e = .returned (.bool b) ∧ ∃ n, w' = w.drewN n :=
  (iIssueOk t A nn c xs w hn hl hc hm hA).mono fun _ _ ⟨he, hw⟩ => ⟨he.trans (ret_bool h.out), hw⟩
theorem sIssueOk_is {t : Int} {xs : List Int} {b : Bool} (h : Hid (issueOkB t xs = b)) (A : Option Addr) (nn c : Nat) (w : World) (hn : nn = xs.length) (hl : nn ≤ 1048576) (hA : Nums .i64 w A xs) :
    Calls Tryz.prog 115 #[.int .i64 t, .slice A nn c] w fun e w' => e = .returned (.bool b) ∧ ∃ n, w' = w.drewN n :=
  (sIssueOk t A nn c xs w hn hl hA).mono fun _ _ ⟨he, hw⟩ => ⟨he.trans (ret_bool h.out), hw⟩

set_option maxHeartbeats 1000000 in
theorem iSettles (t : Int) (A : Option Addr) (nn c : Nat) (xs : List Int) (s : Int) (w : World) (hn : nn = xs.length) (hl : nn ≤ 1048576) (hc : nn ≤ c) (hm : c ≤ maxLen) (hA : Nums .i64 w A xs) :
    Calls Tryz.prog 96 #[.int .i64 t, .slice A nn c, .int .i64 s] w fun e w' => e = .returned (.bool (settlesB t xs s)) ∧ ∃ n, w' = w.drewN n := by
  subst hn
  have HM := Lib.hid hm
  have HA := Lib.hid hA
  clear hA hm
  rcases h1 : setOkB t s with _ | _
  · have H1 := Lib.hid h1
    have HF : Hid (settlesB t xs s = false) := by unfold Hid settlesB; rw [h1]; simp
    clear h1
    go_enter Tryz.func96, Tryz.ntmps96
    go_wp2_with fail
    refine (iSetOk_is H1 _).mono ?_
    rintro e w' ⟨rfl, rfl⟩
    go_wp2_with fail
    go_ret
    exact ⟨ret_bool HF.out.symm, 0, rfl⟩
  · rcases h2 : issueOkB t xs with _ | _
    · have H1 := Lib.hid h1
      have H2 := Lib.hid h2
      have HF : Hid (settlesB t xs s = false) := by unfold Hid settlesB; rw [h2]; rfl
      clear h1 h2
      go_enter Tryz.func96, Tryz.ntmps96
      go_wp2_with fail
      refine (iSetOk_is H1 _).mono ?_
      rintro e w' ⟨rfl, rfl⟩
      go_wp2_with fail
      refine (iIssueOk_is H2 _ _ _ _ rfl hl hc HM.out HA.out).mono ?_
      rintro e w' ⟨rfl, n, rfl⟩
      go_wp2_with fail
      go_ret
      exact ⟨ret_bool HF.out.symm, _, rfl⟩
    · have H1 := Lib.hid h1
      have H2 := Lib.hid h2
      have HF : Hid (settlesB t xs s = anyWithin s xs) := by unfold Hid settlesB; rw [h1, h2]; rfl
      obtain ⟨_, _, hs0, _, hs1⟩ := setOkB_lt h1
      clear h1 h2
      go_enter Tryz.func96, Tryz.ntmps96
      go_wp2_with fail
      refine (iSetOk_is H1 _).mono ?_
      rintro e w' ⟨rfl, rfl⟩
      go_wp2_with fail
      refine (iIssueOk_is H2 _ _ _ _ rfl hl hc HM.out HA.out).mono ?_
      rintro e w' ⟨rfl, n, rfl⟩
      go_wp2_with fail
      refine (iWithinAny _ _ _ _ xs _ rfl hs0 hs1 (issue_range H2.out) hl (by exact HA.out)).mono ?_
      rintro e w' ⟨rfl, rfl⟩
      go_wp2_with fail
      go_ret
      exact ⟨ret_bool HF.out.symm, _, rfl⟩

def unionI (xs : List Int) : Int := xs.foldl orI 0
def grantedI (t : Int) (xs : List Int) : Int := if issueOkB t xs = true then unionI xs else -1
theorem union_snoc {xs : List Int} {i : Nat} {x : Int} (hx : Hid (xs[i]? = some x)) : unionI (xs.take (i + 1)) = orI (unionI (xs.take i)) x := by
  unfold unionI; rw [take_snoc hx, List.foldl_append]; rfl
theorem union_range {xs : List Int} (h : ∀ x ∈ xs, 0 ≤ x ∧ x < 256) : 0 ≤ unionI xs ∧ unionI xs < 256 := by
  unfold unionI
  have : ∀ (l : List Int) (a : Int), 0 ≤ a ∧ a < 256 → (∀ x ∈ l, 0 ≤ x ∧ x < 256) → 0 ≤ l.foldl orI a ∧ l.foldl orI a < 256 := by
    intro l
    induction l with
    | nil => intro a ha _; exact ha
    | cons x r ih =>
      intro a ha hr
      exact ih _ ⟨orI_nonneg _ _, orI_lt _ _ ha.2 (hr x (by simp)).2⟩ fun y hy => hr y (by simp [hy])
  exact this xs 0 (by omega) h
theorem union_take_range {xs : List Int} (h : Hid (∀ x ∈ xs, 0 ≤ x ∧ x < 256)) (k : Nat) : 0 ≤ unionI (xs.take k) ∧ unionI (xs.take k) < 256 :=
  union_range fun x hx => h.out x (List.mem_of_mem_take hx)

theorem ofInt_i64 (a : Nat) (ha : a < 9223372036854775808) : (BitVec.ofInt 64 (a : Int)).toNat = a := by
  rw [BitVec.ofInt_natCast, BitVec.toNat_ofNat]; exact Nat.mod_eq_of_lt (by omega)
theorem bits_or (a b : Int) (ha : 0 ≤ a) (ha2 : a < 1024) (hb : 0 ≤ b) (hb2 : b < 1024) : bits .or .i64 a b = orI a b := by
  obtain ⟨a, rfl⟩ := Int.eq_ofNat_of_zero_le ha
  obtain ⟨b, rfl⟩ := Int.eq_ofNat_of_zero_le hb
  have hx : a ||| b < 2 ^ 10 := Nat.or_lt_two_pow (by omega) (by omega)
  show IntKind.i64.wrap ((BitVec.ofInt 64 (a : Int) ||| BitVec.ofInt 64 (b : Int)).toNat : Int) = _
  rw [BitVec.toNat_or, ofInt_i64 a (by omega), ofInt_i64 b (by omega), IntKind.wrap_i64, orI_nat]
  omega
theorem bits_and (a b : Int) (ha : 0 ≤ a) (ha2 : a < 1024) (hb : 0 ≤ b) (_ : b < 1024) : bits .and .i64 a b = andI a b := by
  obtain ⟨a, rfl⟩ := Int.eq_ofNat_of_zero_le ha
  obtain ⟨b, rfl⟩ := Int.eq_ofNat_of_zero_le hb
  have hx : a &&& b ≤ a := Nat.and_le_left
  show IntKind.i64.wrap ((BitVec.ofInt 64 (a : Int) &&& BitVec.ofInt 64 (b : Int)).toNat : Int) = _
  rw [BitVec.toNat_and, ofInt_i64 a (by omega), ofInt_i64 b (by omega), IntKind.wrap_i64, andI_nat]
  omega

set_option maxHeartbeats 1000000 in
theorem iGrantedBy (t : Int) (A : Option Addr) (nn c : Nat) (xs : List Int) (w : World) (hn : nn = xs.length) (hl : nn ≤ 1048576) (hc : nn ≤ c) (hm : c ≤ maxLen) (hA : Nums .i64 w A xs) :
    Calls Tryz.prog 98 #[.int .i64 t, .slice A nn c] w fun e w' => e = .returned (.int .i64 (grantedI t xs)) ∧ ∃ n, w' = w.drewN n := by
  subst hn
  have HM := Lib.hid hm
  have HA := Lib.hid hA
  clear hA hm
  rcases h2 : issueOkB t xs with _ | _
  · have H2 := Lib.hid h2
    have HF : Hid (grantedI t xs = -1) := by unfold Hid grantedI; rw [h2]; rfl
    clear h2
    go_enter Tryz.func98, Tryz.ntmps98
    go_wp2_with fail
    refine (iIssueOk_is H2 _ _ _ _ rfl hl hc HM.out HA.out).mono ?_
    rintro e w' ⟨rfl, n, rfl⟩
    go_wp2_with fail
    go_ret
    exact ⟨ret_int HF.out.symm, _, rfl⟩
  · have H2 := Lib.hid h2
    have HR := Lib.hid (issue_range h2)
    have HF : Hid (grantedI t xs = unionI xs) := by unfold Hid grantedI; rw [h2]; rfl
    clear h2
    go_enter Tryz.func98, Tryz.ntmps98
    go_wp2_with fail
    refine (iIssueOk_is H2 _ _ _ _ rfl hl hc HM.out HA.out).mono ?_
    rintro e w' ⟨rfl, n, rfl⟩
    go_wp2_with fail
    go_loop [5, 14] (fun g i => ∃ k : Nat, k ≤ xs.length ∧ i = .int .i64 k ∧ g = .int .i64 (unionI (xs.take k))) (fun _ i => xs.length - (Go.RowKit.intOf i).toNat)
    case atStart => exact ⟨0, Nat.zero_le _, rfl, rfl⟩
    case round =>
      obtain ⟨k, hk, rfl, rfl⟩ := hrel
      by_cases hlt : k < xs.length
      · obtain ⟨b, off, x, rfl, hcell, hx, _⟩ := HA.out.elem hlt
        obtain ⟨he1, he2⟩ := HR.out x (elem_mem hx)
        obtain ⟨hg1, hg2⟩ := union_take_range HR k
        have HU : Hid (unionI (xs.take (k + 1)) = bits .or .i64 (unionI (xs.take k)) x) := by unfold Hid; rw [union_snoc hx, bits_or _ _ hg1 (by omega) he1 (by omega)]
        go_wp2
        go_round
        case rel => exact ⟨k + 1, by omega, by go_num, by rw [HU.out]⟩
        case measure => simp [Go.RowKit.intOf]; omega
      · obtain rfl : k = xs.length := by omega
        have HT : Hid (unionI (xs.take xs.length) = grantedI t xs) := by unfold Hid; rw [List.take_length, HF.out]
        go_wp2
        go_ret
        exact ⟨ret_int (by first | exact HT.out | (rw [HF.out])), _, rfl⟩

end Go.Proofs.YtmdogidflaplkaaGreat

namespace Go.Proofs.YtmdogidflaplkaaGreat
open Go.RowKit

def statementL (t s : Int) : List Int := if setOkB t s = true then [s] else []

set_option maxHeartbeats 400000 in
theorem iStatementOf (t s : Int) (w : World) : Calls Tryz.prog 127 #[.int .i64 t, .int .i64 s] w fun e w' => ∃ v, e = .returned v ∧ Owns w' w.heap.size v (statementL t s) ∧ Below w.heap.size w w' := by
  rcases h1 : setOkB t s with _ | _
  · have H1 := Lib.hid h1
    have HF : Hid (statementL t s = []) := by unfold Hid statementL; rw [h1]; rfl
    clear h1
    go_enter Tryz.func127, Tryz.ntmps127
    go_wp2_with fail
    refine (iSetOk_is H1 _).mono ?_
    rintro e w' ⟨rfl, rfl⟩
    go_wp2_with fail
    go_ret
    exact ⟨_, rfl, by rw [HF.out]; exact Owns.nil _ _, Below.refl _ _⟩
  · have H1 := Lib.hid h1
    have HF : Hid (statementL t s = [s]) := by unfold Hid statementL; rw [h1]; rfl
    clear h1
    go_enter Tryz.func127, Tryz.ntmps127
    go_wp2_with fail
    refine (iSetOk_is H1 _).mono ?_
    rintro e w' ⟨rfl, rfl⟩
    go_wp2_with fail
    go_ret
    exact ⟨_, rfl, by rw [HF.out]; exact Owns.lit _ _ [s] (Nat.le_refl _) (by simp [maxLen]), (Below.refl _ _).alloc (Nat.le_refl _) _⟩

end Go.Proofs.YtmdogidflaplkaaGreat

namespace Go.Proofs.YtmdogidflaplkaaGreat
open Go.RowKit

/-- Block g is a reader that has drawn at most u numbers. -/
def Rd (w : World) (g : Nat) (u : Nat) : Prop :=
  ∃ (A : Option Addr) (c : Nat) (zs : List Int) (p : Nat), w.heap[g]? = some (.cells #[.slice A zs.length c, .int .i64 p] 99 (0, 0)) ∧ Nums .u8 w A zs ∧ zs.length ≤ 2000 ∧ p ≤ u ∧
    (∀ z ∈ zs, 0 ≤ z ∧ z ≤ 255) ∧ (∀ ad, 0 < zs.length → A = some ad → ad.block < g)

theorem Rd.more {w : World} {g u v : Nat} (h : Rd w g u) (hv : u ≤ v) : Rd w g v := by
  obtain ⟨A, c, zs, p, h1, h2, h3, h4, h5, h6⟩ := h
  exact ⟨A, c, zs, p, h1, h2, h3, by omega, h5, h6⟩
theorem Rd.below {w w' : World} {g u : Nat} (h : Rd w g u) (hb : Below w.heap.size w w') : Rd w' g u := by
  obtain ⟨A, c, zs, p, h1, h2, h3, h4, h5, h6⟩ := h
  exact ⟨A, c, zs, p, (hb.block g (Array.getElem?_eq_some_iff.1 h1).1).trans h1, h2.below hb, h3, h4, h5, h6⟩
theorem Rd.drewN {w : World} {g u : Nat} (h : Rd w g u) (n : Nat) : Rd (w.drewN n) g u := h
theorem Rd.lt {w : World} {g u : Nat} (h : Rd w g u) : g < w.heap.size := by
  obtain ⟨A, c, zs, p, h1, _⟩ := h
  exact (Array.getElem?_eq_some_iff.1 h1).1

theorem grown_drewN {a w : World} {row : Option Nat} (h : a.grownBy w row) (n : Nat) : a.grownBy (w.drewN n) row := ⟨h.os, h.tape, h.output, h.size, h.block⟩
/-- What a draw leaves: a number of its range; the reader has drawn one more; nothing else has turned. -/
def PickPost (g u : Nat) (n : Int) (w : World) (e : Ending) (w' : World) : Prop := ∃ k : Int, e = .returned (.int .i64 k) ∧ 0 ≤ k ∧ (1 ≤ n → k < n) ∧ Rd w' g (u + 1) ∧ w.grownBy w' (some g)
theorem rd_step {w : World} {g u p c : Nat} {A : Option Addr} {zs : List Int} (h1 : w.heap[g]? = some (.cells #[.slice A zs.length c, .int .i64 p] 99 (0, 0))) (h2 : Nums .u8 w A zs) (h3 : zs.length ≤ 2000) (h4 : p ≤ u)
    (h5 : ∀ z ∈ zs, 0 ≤ z ∧ z ≤ 255) (h6 : ∀ ad, 0 < zs.length → A = some ad → ad.block < g) (n : Nat) :
    Rd ((w.setCell ⟨g, 1, none⟩ (.int .i64 ((p : Int) + 1))).drewN n) g (u + 1) ∧ w.grownBy ((w.setCell ⟨g, 1, none⟩ (.int .i64 ((p : Int) + 1))).drewN n) (some g) := by
  have hg : w.grownBy (w.setCell ⟨g, 1, none⟩ (.int .i64 ((p : Int) + 1))) (some g) := grown_set (World.grownBy.refl w _) 1 _
  refine ⟨⟨A, c, zs, p + 1, ?_, (fun hp => (h2.grown hg (fun ad ha e => by have := h6 ad hp ha; injection e; omega) : Nums .u8 (w.setCell ⟨g, 1, none⟩ (.int .i64 ((p : Int) + 1))) A zs) hp), h3, by omega, h5, h6⟩, grown_drewN hg n⟩
  show (w.setCell ⟨g, 1, none⟩ (.int .i64 ((p : Int) + 1))).heap[g]? = _
  simp [World.setCell, Array.getElem?_modify, h1]

theorem bits_xor_nonneg (a b : Int) (ha : 0 ≤ a) (ha2 : a < 1073741824) (hb : 0 ≤ b) (hb2 : b < 1073741824) : 0 ≤ bits .xor .i64 a b := by
  obtain ⟨a, rfl⟩ := Int.eq_ofNat_of_zero_le ha
  obtain ⟨b, rfl⟩ := Int.eq_ofNat_of_zero_le hb
  have hx : a ^^^ b < 2 ^ 30 := Nat.xor_lt_two_pow (by omega) (by omega)
  show 0 ≤ IntKind.i64.wrap ((BitVec.ofInt 64 (a : Int) ^^^ BitVec.ofInt 64 (b : Int)).toNat : Int)
  rw [BitVec.toNat_xor, BitVec.ofInt_natCast, BitVec.ofInt_natCast, BitVec.toNat_ofNat, BitVec.toNat_ofNat, Nat.mod_eq_of_lt (by omega), Nat.mod_eq_of_lt (by omega), IntKind.wrap_i64]
  omega

set_option maxHeartbeats 1000000 in
theorem pick_any (g u : Nat) (n : Int) (w : World) (hn : n ≤ 1048576) (hn0 : -1048576 ≤ n) (hu : u ≤ 1048576) (hR : Rd w g u) :
    Calls Tryz.prog 70 #[.pointer (some ⟨g, 0, none⟩), .int .i64 n] w fun e w' => PickPost g u n w e w' := by
  obtain ⟨A, c, zs, p, h1, h2, h3, h4, h5, h6⟩ := hR
  have hc0 : w.cell? ⟨g, 0, none⟩ = some (.slice A zs.length c) := by simp [World.cell?, h1]
  have hc1 : w.cell? ⟨g, 1, none⟩ = some (.int .i64 p) := by simp [World.cell?, h1]
  have hf1 : w.frozen? ⟨g, 1, none⟩ = false := by simp [World.frozen?, h1]
  have hf1' : (w.setCell ⟨g, 1, none⟩ (.int .i64 ((p : Int) + 1))).cell? ⟨g, 1, none⟩ = some (.int .i64 ((p : Int) + 1)) := by simp [World.cell?, World.setCell, Array.getElem?_modify, h1]
  have HF := Lib.hid (rd_step h1 h2 h3 h4 h5 h6)
  have HN := Lib.hid h2
  have H5 := Lib.hid h5
  have H6 := Lib.hid h6
  clear h1 h2 h5 h6
  by_cases hn1 : n < 1
  · go_enter Tryz.func70, Tryz.ntmps70
    go_wp2
    go_ret
    exact ⟨0, rfl, by omega, by omega, HF.out 0⟩
  · by_cases hz : zs.length = 0
    · have hz' : ((zs.length : Int) == 0) = true := by simp [hz]
      have HZ := Lib.hid hz
      clear hz
      go_enter Tryz.func70, Tryz.ntmps70
      go_wp2
      go_ret
      exact ⟨0, rfl, by omega, by omega, HF.out 0⟩
    · have hz' : ((zs.length : Int) == 0) = false := by simp; intro e; subst e; exact hz rfl
      by_cases hlt : p < zs.length
      · obtain ⟨b, off, z, rfl, hcell, hx, _⟩ := HN.out.elem hlt
        obtain ⟨hz1, hz2⟩ := H5.out z (elem_mem hx)
        have hne : b ≠ g := Nat.ne_of_lt (H6.out _ (by omega) rfl)
        go_enter Tryz.func70, Tryz.ntmps70
        go_wp2
        go_ret
        exact ⟨_, rfl, Int.emod_nonneg _ (by omega), fun _ => Int.emod_lt_of_pos _ (by omega), HF.out 0⟩
      · obtain ⟨r1, hr1⟩ : ∃ r, r = p % zs.length := ⟨_, rfl⟩
        obtain ⟨r2, hr2⟩ : ∃ r, r = (p * 7 + 3) % zs.length := ⟨_, rfl⟩
        obtain ⟨d, hd⟩ : ∃ d, d = p / zs.length := ⟨_, rfl⟩
        have hb1 : r1 < zs.length := by rw [hr1]; exact Nat.mod_lt _ (by omega)
        have hb2 : r2 < zs.length := by rw [hr2]; exact Nat.mod_lt _ (by omega)
        have hbd : d ≤ p := by rw [hd]; exact Nat.div_le_self _ _
        have t1 : (p : Int).tmod (zs.length : Int) = (r1 : Int) := by rw [hr1]; exact Int.ofNat_tmod _ _ |>.symm
        have t2 : ((p : Int) * 7 + 3).tmod (zs.length : Int) = (r2 : Int) := by rw [hr2]; exact (Int.ofNat_tmod (p * 7 + 3) _).symm
        have t3 : (p : Int).tdiv (zs.length : Int) = (d : Int) := by rw [hd]; exact Int.ofNat_tdiv _ _ |>.symm
        clear hr1 hr2 hd
        obtain ⟨b, off, z, rfl, hcell, hx, _⟩ := HN.out.elem (i := r1) hb1
        obtain ⟨b', off', y, hAA, hcell2, hy, _⟩ := HN.out.elem (i := r2) hb2
        cases hAA
        obtain ⟨hz1, hz2⟩ := H5.out z (elem_mem hx)
        obtain ⟨hy1, hy2⟩ := H5.out y (elem_mem hy)
        have hne : b ≠ g := Nat.ne_of_lt (H6.out _ (by omega) rfl)
        have hL : (0 : Int) < (zs.length : Int) := by omega
        have hb1' : (r1 : Int) < (zs.length : Int) := by omega
        have hb2' : (r2 : Int) < (zs.length : Int) := by omega
        have e1 : IntKind.i64.wrap (z * 131) = z * 131 := IntWalk.i64_in _ (by omega)
        have e2 : IntKind.i64.wrap (y * 1117) = y * 1117 := IntWalk.i64_in _ (by omega)
        have e3 : IntKind.i64.wrap (z * 131 + y * 1117) = z * 131 + y * 1117 := IntWalk.i64_in _ (by omega)
        have e4 : IntKind.i64.wrap ((p : Int) * 29) = (p : Int) * 29 := IntWalk.i64_in _ (by omega)
        have e5 : IntKind.i64.wrap (z * 131 + y * 1117 + (p : Int) * 29) = z * 131 + y * 1117 + (p : Int) * 29 := IntWalk.i64_in _ (by omega)
        have e6 : IntKind.i64.wrap (d : Int) = (d : Int) := IntWalk.i64_in _ (by omega)
        have e7 : IntKind.i64.wrap ((d : Int) * 53) = (d : Int) * 53 := IntWalk.i64_in _ (by omega)
        have e8 : IntKind.i64.wrap (z * 131 + y * 1117 + (p : Int) * 29 + (d : Int) * 53) = z * 131 + y * 1117 + (p : Int) * 29 + (d : Int) * 53 := IntWalk.i64_in _ (by omega)
        have m1 : IntKind.i64.wrap ((p : Int) * 7) = (p : Int) * 7 := IntWalk.i64_in _ (by omega)
        have m2 : IntKind.i64.wrap ((p : Int) * 7 + 3) = (p : Int) * 7 + 3 := IntWalk.i64_in _ (by omega)
        have e9 : IntKind.i64.wrap z = z := IntWalk.i64_in _ (by omega)
        have e10 : IntKind.i64.wrap y = y := IntWalk.i64_in _ (by omega)
        go_enter Tryz.func70, Tryz.ntmps70
        go_wp2
        go_quiet (fail)
        clear t1 t2 t3 e1 e2 e3 e4 e5 e6 e7 e8 m1 m2 e9 e10
        have hd0 : (0 : Int) ≤ (d : Int) := by omega
        have hx0 := bits_xor_nonneg (z * 131 + y * 1117 + (p : Int) * 29 + (d : Int) * 53) ((z * 131 + y * 1117 + (p : Int) * 29 + (d : Int) * 53) / 64) (by omega) (by omega) (by omega) (by omega)
        go_wp2
        go_ret
        exact ⟨_, rfl, Int.emod_nonneg _ (by omega), fun _ => Int.emod_lt_of_pos _ (by omega), HF.out _⟩
end Go.Proofs.YtmdogidflaplkaaGreat

namespace Go.Proofs.YtmdogidflaplkaaGreat
open Go.RowKit

theorem Rd.alloc {w : World} {g u : Nat} (h : Rd w g u) (o : Obj) : Rd (w.alloc o) g u := h.below ((Below.refl _ _).alloc (Nat.le_refl _) o)
theorem grown_alloc {a w : World} {row : Option Nat} (h : a.grownBy w row) (o : Obj) : a.grownBy (w.alloc o) row :=
  ⟨h.os, h.tape, h.output, Nat.le_trans h.size (by simp), fun i hi hne => (Below.heap_alloc w o i (Nat.lt_of_lt_of_le hi h.size)).trans (h.block i hi hne)⟩
theorem grown_below {a w w' : World} {row : Option Nat} (h : a.grownBy w row) (hb : Below w.heap.size w w') : a.grownBy w' row :=
  ⟨hb.os.trans h.os, hb.tape.trans h.tape, hb.output.trans h.output, Nat.le_trans h.size hb.size, fun i hi hn => (hb.block i (Nat.lt_of_lt_of_le hi h.size)).trans (h.block i hi hn)⟩
/-- What is written into a block that is newer than a is no change of a's. -/
theorem grown_fresh {a w w' : World} {row : Option Nat} {r : Option Nat} (h : a.grownBy w row) (hg : w.grownBy w' r) (hr : ∀ k, r = some k → a.heap.size ≤ k) : a.grownBy w' row :=
  ⟨hg.os.trans h.os, hg.tape.trans h.tape, hg.output.trans h.output, Nat.le_trans h.size hg.size, fun i hi hn => (hg.block i (Nat.lt_of_lt_of_le hi h.size) (fun e => by have := hr i e.symm; omega)).trans (h.block i hi hn)⟩

/-- A new row of numbers is still there behind a draw. -/
theorem lit_cell {w w' : World} {g : Nat} (xs : List Int) {t : TypeId} (hg : (w.alloc (.cells (xs.map (Value.int .i64)).toArray t)).grownBy w' (some g)) (hne : g < w.heap.size) {k : Int} (h0 : 0 ≤ k) (hk : k < xs.length) :
    ∃ x : Int, x ∈ xs ∧ w'.cell? ⟨w.heap.size, k.toNat, none⟩ = some (.int .i64 x) := by
  have hb : w'.heap[w.heap.size]? = (w.alloc (.cells (xs.map (Value.int .i64)).toArray t)).heap[w.heap.size]? := hg.block w.heap.size (by simp) (fun e => by injection e; omega)
  have hi : k.toNat < xs.length := by omega
  refine ⟨xs[k.toNat], List.getElem_mem hi, ?_⟩
  have h2 : (w.alloc (.cells (xs.map (Value.int .i64)).toArray t)).heap[w.heap.size]? = some (.cells (xs.map (Value.int .i64)).toArray t (0, 0)) := heap_alloc_new w _
  rw [h2] at hb
  rw [cell_of_row w' w.heap.size k.toNat _ t (0, 0) hb]
  simp [hi]

def BoolPost (g u : Nat) (w : World) (e : Ending) (w' : World) : Prop := ∃ b : Bool, e = .returned (.bool b) ∧ Rd w' g u ∧ w.grownBy w' (some g)

set_option maxHeartbeats 400000 in
theorem odd_any (g u : Nat) (n : Int) (w : World) (hn : n ≤ 1048576) (hn0 : 0 ≤ n) (hu : u ≤ 1048576) (hR : Rd w g u) :
    Calls Tryz.prog 55 #[.pointer (some ⟨g, 0, none⟩), .int .i64 n] w (BoolPost g (u + 1) w) := by
  have HR := Lib.hid hR
  clear hR
  by_cases h0 : 0 < n
  · go_enter Tryz.func55, Tryz.ntmps55
    go_wp2_with fail
    refine (pick_any g u n _ hn (by omega) hu HR.out).mono ?_
    rintro e w1 ⟨k, rfl, hk0, hk1, hr, hg⟩
    have HP := Lib.hid (And.intro hr hg)
    clear hr hg hk1
    go_wp2_with fail
    go_ret
    exact ⟨_, rfl, HP.out⟩
  · have HP : Hid (Rd w g (u + 1) ∧ w.grownBy w (some g)) := ⟨HR.out.more (by omega), World.grownBy.refl w _⟩
    go_enter Tryz.func55, Tryz.ntmps55
    go_wp2_with fail
    go_ret
    exact ⟨_, rfl, HP.out⟩

/-- What the opening of a reader leaves. -/
def OpenPost (w : World) (e : Ending) (w' : World) : Prop := e = .returned (.pointer (some ⟨w.heap.size, 0, none⟩)) ∧ Rd w' w.heap.size 0 ∧ Below w.heap.size w w'
theorem open_rd {w : World} {A : Option Addr} {c : Nat} {zs : List Int} (h : Nums .u8 w A zs) (hl : zs.length ≤ 2000) (hr : ∀ z ∈ zs, 0 ≤ z ∧ z ≤ 255) :
    Rd (w.alloc (.cells #[.slice A zs.length c, .int .i64 0] 99)) w.heap.size 0 := by
  refine ⟨A, c, zs, 0, heap_alloc_new w _, h.alloc _, hl, Nat.le_refl _, hr, fun ad hp ha => ?_⟩
  obtain ⟨b, off, hA, hb, _⟩ := h hp
  rw [hA] at ha
  cases ha
  exact hb

set_option maxHeartbeats 400000 in
theorem open_any (A : Option Addr) (nn c : Nat) (zs : List Int) (w : World) (hn : nn = zs.length) (hc : nn ≤ c) (hm : c ≤ maxLen) (hr : ∀ z ∈ zs, 0 ≤ z ∧ z ≤ 255) (hA : Nums .u8 w A zs) :
    Calls Tryz.prog 32 #[.slice A nn c] w (OpenPost w) := by
  subst hn
  have hm' : c ≤ 9223372036854775807 := by unfold maxLen at hm; omega
  have HB : Hid (∀ o, Below w.heap.size w (w.alloc o)) := fun o => (Below.refl _ _).alloc (Nat.le_refl _) o
  by_cases hl : 2000 < zs.length
  · have hd : decide ((2000 : Int) < (zs.length : Int)) = true := by simp; omega
    have hlen : (zs.take 2000).length = 2000 := by rw [List.length_take]; omega
    have HR : Hid (Rd (w.alloc (.cells #[.slice A 2000 c, .int .i64 0] 99)) w.heap.size 0) := by
      have := open_rd (c := c) (hA.take 2000) (by omega) (fun z hz => hr z (List.mem_of_mem_take hz))
      rw [hlen] at this
      exact this
    clear hA hr hlen hm
    go_enter Tryz.func32, Tryz.ntmps32
    go_wp2
    go_ret
    exact ⟨rfl, HR.out, HB.out _⟩
  · have hd : decide ((2000 : Int) < (zs.length : Int)) = false := by simp; omega
    have HR := Lib.hid (open_rd (c := c) hA (by omega) hr)
    clear hA hr hm
    go_enter Tryz.func32, Tryz.ntmps32
    go_wp2
    go_ret
    exact ⟨rfl, HR.out, HB.out _⟩

end Go.Proofs.YtmdogidflaplkaaGreat

namespace Go.Proofs.YtmdogidflaplkaaGreat
open Go.RowKit

theorem bytes_range {xs : List Int} (h : ∀ x ∈ xs, (Lit.int .u8 x).wf = true) : ∀ z ∈ xs, 0 ≤ z ∧ z ≤ 255 := fun z hz => bounds_u8 (h z hz)
end Go.Proofs.YtmdogidflaplkaaGreat

namespace Go.Proofs.YtmdogidflaplkaaGreat
open Go.RowKit

end Go.Proofs.YtmdogidflaplkaaGreat

namespace Go.Proofs.YtmdogidflaplkaaGreat
open Go.RowKit

theorem iSettles_is {t : Int} {xs : List Int} {s : Int} {b : Bool} (h : Hid (settlesB t xs s = b)) (A : Option Addr) (nn c : Nat) (w : World) (hn : nn = xs.length) (hl : nn ≤ 1048576) (hc : nn ≤ c) (hm : c ≤ maxLen) (hA : Nums .i64 w A xs) :
    Calls Tryz.prog 96 #[.int .i64 t, .slice A nn c, .int .i64 s] w fun e w' => e = .returned (.bool b) ∧ ∃ n, w' = w.drewN n :=
  (iSettles t A nn c xs s w hn hl hc hm hA).mono fun _ _ ⟨he, hw⟩ => ⟨he.trans (ret_bool h.out), hw⟩
theorem setOk_of {t k : Int} (h1 : 1 ≤ t) (h3 : t ≤ 3) (h0 : 0 ≤ k) (hk : k ≤ allOf t) : setOkB t k = true := by
  unfold setOkB; apply decide_eq_true; exact ⟨h1, h3, h0, hk⟩
theorem issue_one {t s : Int} (h : setOkB t s = true) : issueOkB t [s] = true := by
  unfold issueOkB partsOkB pairB; simp [h]
end Go.Proofs.YtmdogidflaplkaaGreat
