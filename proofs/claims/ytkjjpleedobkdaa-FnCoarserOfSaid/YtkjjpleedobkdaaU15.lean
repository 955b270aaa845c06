/-
  What the proofs of this seat's statements share (PartT).
-/
import Derived.Test.YtkjjpleedobkdaaU13

namespace Go.Proofs.Ytkjjpleedobkdaa
open Go.RowKit

theorem state_miss {t : Int} {xs : List Int} {k : Nat} {x : Int} (hx : Hid (xs[k]? = some x)) (h : setOkB t x = false) : stateB t xs = false := by
  unfold stateB
  have : xs.all (setOkB t) = false := by rw [List.all_eq_false]; exact ⟨x, elem_mem hx, by rw [h]; simp⟩
  rw [this]; rfl
def allTo6 (t : Int) (xs : List Int) (k : Nat) : Prop := ∀ i x, i < k → xs[i]? = some x → setOkB t x = true
theorem allTo6_next {t : Int} {xs : List Int} {k : Nat} {x : Int} (h : allTo6 t xs k) (hx : Hid (xs[k]? = some x)) (hs : setOkB t x = true) : allTo6 t xs (k + 1) := fun i y hi hy => by
  by_cases e : i = k
  · subst e
    have := hx.out
    rw [this] at hy; cases hy; exact hs
  · exact h i y (by omega) hy
theorem allTo6_end {t : Int} {xs : List Int} (h : allTo6 t xs xs.length) : ∀ x ∈ xs, setOkB t x = true := fun x hx => by
  obtain ⟨i, hi, rfl⟩ := List.mem_iff_getElem.1 hx
  exact h i _ hi (List.getElem?_eq_getElem hi)
theorem state_end {t : Int} {xs : List Int} (h : ∀ x ∈ xs, setOkB t x = true) : stateB t xs = (inB t 1 3 && decide (xs.length ≤ 70)) := by
  unfold stateB
  rw [List.all_eq_true.2 h, Bool.true_and]; rfl
theorem sIn_is6 {n a b : Int} {v : Bool} (h : Hid (inB n a b = v)) (w : World) : Calls Try.prog 54 #[.int .i64 n, .int .i64 a, .int .i64 b] w fun e w' => e = .returned (.bool v) ∧ w = w' :=
  (sIn n a b w).mono fun _ _ ⟨he, hw⟩ => ⟨he.trans (ret_bool h.out), hw⟩
set_option maxRecDepth 100000 in
set_option maxHeartbeats 4000000 in
theorem sAsksOf (t : Int) (A : Option Addr) (n c : Nat) (xs : List Int) (w : World) (ha : Row w A n c xs) : Calls Try.prog 21 #[.int .i64 t, .slice A n c] w (OwnL (asksL t xs) w) := by
  have HA := Lib.hid ha
  obtain rfl := ha.hn
  have hl := ha.hl
  clear ha
  obtain ⟨l, HL⟩ : ∃ l, Hid (asksL t xs = l) := ⟨_, rfl⟩
  have HNO : Hid (stateB t xs = false → l = []) := fun h => by rw [← HL.out]; exact asks_no h
  have HYES : Hid (stateB t xs = true → tidyL (partsX t xs) = l) := fun h => by rw [← HL.out, asks_state, if_pos h]
  rw [HL.out]
  go_enter Try.func21, Try.ntmps21
  go_wp2_with fail
  go_loop [5] (fun i => ∃ k : Nat, k ≤ xs.length ∧ i = .int .i64 k ∧ Hid (allTo6 t xs k)) (fun i => xs.length - (intOf i).toNat)
  case atStart => exact ⟨0, Nat.zero_le _, rfl, fun _ _ h => by omega⟩
  case round =>
    obtain ⟨k, hk, rfl, hall⟩ := hrel
    by_cases hlt : k < xs.length
    · obtain ⟨b, off, x, rfl, hcell, hx, _⟩ := HA.out.hA.elem hlt
      rcases hy : setOkB t x with _ | _
      · have HY := Lib.hid hy
        have HN := Lib.hid (HNO.out (state_miss hx hy))
        clear hy
        go_wp2_with fail
        refine (sSetOk_is HY _).mono ?_
        rintro e w' ⟨rfl, rfl⟩
        go_wp2_with fail
        go_ret
        exact ⟨_, rfl, by rw [HN.out]; exact Owns.lit _ _ [] (Nat.le_refl _) (by simp [maxLen]), (Below.refl _ _).alloc (Nat.le_refl _) _⟩
      · have HY := Lib.hid hy
        have HN := Lib.hid (allTo6_next hall.out hx hy)
        clear hy
        go_wp2_with fail
        refine (sSetOk_is HY _).mono ?_
        rintro e w' ⟨rfl, rfl⟩
        go_wp2_with fail
        go_round
        case rel => exact ⟨k + 1, by omega, by go_num, HN⟩
        case measure => simp [intOf]; omega
    · obtain rfl : k = xs.length := by omega
      have hal := allTo6_end hall.out
      have hst := state_end hal
      have HAL := Lib.hid hal
      clear hal
      rcases hi : inB t 1 3 with _ | _
      · have HI := Lib.hid hi
        have HN := Lib.hid (HNO.out (by rw [hst, hi]; rfl))
        clear hi hst
        go_wp2_with fail
        refine (sIn_is6 HI _).mono ?_
        rintro e w' ⟨rfl, rfl⟩
        go_wp2_with fail
        go_ret
        exact ⟨_, rfl, by rw [HN.out]; exact Owns.lit _ _ [] (Nat.le_refl _) (by simp [maxLen]), (Below.refl _ _).alloc (Nat.le_refl _) _⟩
      · have HI := Lib.hid hi
        by_cases h7 : xs.length ≤ 70
        · have hd : decide ((70 : Int) < (xs.length : Int)) = false := decide_eq_false (by omega)
          have h13 : 1 ≤ t ∧ t ≤ 3 := by unfold inB at hi; exact of_decide_eq_true hi
          have HF := Lib.hid (HYES.out (by rw [hst, hi, decide_eq_true h7]; rfl))
          clear hi hst
          go_wp2_with fail
          refine (sIn_is6 HI _).mono ?_
          rintro e w' ⟨rfl, rfl⟩
          go_wp2_with fail
          refine (sParts_is HF h13.1 h13.2 HAL.out HA.out).mono ?_
          rintro e w1 ⟨v, rfl, ho, hb⟩
          go_wp2_with fail
          go_ret
          exact ⟨_, rfl, ho, hb⟩
        · have hd : decide ((70 : Int) < (xs.length : Int)) = true := decide_eq_true (by omega)
          have HN := Lib.hid (HNO.out (by rw [hst, decide_eq_false h7, Bool.and_false]))
          clear hi hst
          go_wp2_with fail
          refine (sIn_is6 HI _).mono ?_
          rintro e w' ⟨rfl, rfl⟩
          go_wp2_with fail
          go_ret
          exact ⟨_, rfl, by rw [HN.out]; exact Owns.lit _ _ [] (Nat.le_refl _) (by simp [maxLen]), (Below.refl _ _).alloc (Nat.le_refl _) _⟩
theorem sAsksOf_is {t : Int} {xs l : List Int} (h : Hid (asksL t xs = l)) {A : Option Addr} {n c : Nat} {w : World} (ha : Row w A n c xs) : Calls Try.prog 21 #[.int .i64 t, .slice A n c] w (OwnL l w) := by
  have := sAsksOf t A n c xs w ha
  rw [h.out] at this; exact this

theorem answer_no {t u : Int} {xs : List Int} (h : isPartB t xs = false) : answerI t xs u = -1 := by unfold answerI; rw [h]; rfl
theorem answer_out {t u : Int} {xs : List Int} (h : inB u 0 (worldsOf t - 1) = false) : answerI t xs u = -1 := by
  unfold answerI
  unfold inB at h
  have := of_decide_eq_false h
  rw [decide_eq_false (by omega), Bool.and_false]; rfl
theorem answer_at {t : Int} {xs : List Int} {u k : Nat} {x : Int} (h : isPartB t xs = true) (hu : (u : Int) < worldsOf t) (hx : Hid (xs[k]? = some x)) (hn : ∀ i y, i < k → xs[i]? = some y → hasW y u = false) (hy : hasW x u = true) : answerI t xs u = x := by
  unfold answerI
  rw [h, decide_eq_true (by omega), Int.toNat_natCast]
  have : (xs.find? fun x => hasW x u) = some x := by
    rw [List.find?_eq_some_iff_getElem]
    have hlt := elem_lt hx
    refine ⟨hy, k, hlt, ?_, fun j hj => ?_⟩
    · have := hx.out
      rw [List.getElem?_eq_getElem hlt] at this
      exact Option.some.inj this
    · have := hn j _ hj (List.getElem?_eq_getElem (by omega))
      simpa using this
  show (xs.find? fun x => hasW x u).getD (-1) = x
  rw [this]; rfl
theorem answer_none {t : Int} {xs : List Int} {u : Nat} (h : isPartB t xs = true) (hu : u < nWorlds t) : ¬ ∀ i y, i < xs.length → xs[i]? = some y → hasW y u = false := fun hn => by
  obtain ⟨x, hx, hw, _⟩ := part_unique h hu
  obtain ⟨i, hi, rfl⟩ := List.mem_iff_getElem.1 hx
  rw [hn i _ hi (List.getElem?_eq_getElem hi)] at hw; cases hw
set_option maxRecDepth 100000 in
set_option maxHeartbeats 4000000 in
theorem sAnswerIn (t : Int) (A : Option Addr) (n c : Nat) (xs : List Int) (u : Int) (w : World) (ha : Row w A n c xs) :
    Calls Try.prog 28 #[.int .i64 t, .slice A n c, .int .i64 u] w fun e w' => e = .returned (.int .i64 (answerI t xs u)) ∧ ∃ m, w' = w.drewN m := by
  have HA := Lib.hid ha
  obtain rfl := ha.hn
  have hl := ha.hl
  clear ha
  rcases h1 : isPartB t xs with _ | _
  · have H1 := Lib.hid h1
    have HF := Lib.hid (answer_no (u := u) h1)
    clear h1
    go_enter Try.func28, Try.ntmps28
    go_wp2_with fail
    refine (sIsPart_is H1 HA.out).mono ?_
    rintro e w' ⟨rfl, m, rfl⟩
    go_wp2_with fail
    go_ret
    exact ⟨ret_int HF.out.symm, _, rfl⟩
  · have H1 := Lib.hid h1
    have HR := Lib.hid (sets_range (part_sets h1))
    obtain ⟨ht1, ht3⟩ := part_things h1
    have ht : t = 1 ∨ t = 2 ∨ t = 3 := by omega
    clear ht1 ht3
    rcases ht with rfl | rfl | rfl
    · rcases h2 : inB u 0 1 with _ | _
      · have H2 := Lib.hid h2
        have HF : Hid (answerI 1 xs u = -1) := answer_out h2
        clear h1 h2
        go_enter Try.func28, Try.ntmps28
        go_wp2_with fail
        refine (sIsPart_is H1 HA.out).mono ?_
        rintro e w' ⟨rfl, m, rfl⟩
        go_wp2_with fail
        refine (sIn_is6 H2 _).mono ?_
        rintro e w' ⟨rfl, rfl⟩
        go_wp2_with fail
        go_ret
        exact ⟨ret_int HF.out.symm, _, rfl⟩
      · have H2 := Lib.hid h2
        have hur : 0 ≤ u ∧ u ≤ 1 := by unfold inB at h2; exact of_decide_eq_true h2
        obtain ⟨k, rfl⟩ : ∃ k : Nat, u = k := ⟨u.toNat, by omega⟩
        have hk : k < 2 := by omega
        have HAT : Hid (∀ (j : Nat) (x : Int), Hid (xs[j]? = some x) → (∀ i y, i < j → xs[i]? = some y → hasW y k = false) → hasW x k = true → answerI 1 xs k = x) := fun j x hx hn hy => answer_at h1 (by show (k : Int) < 2; omega) hx hn hy
        have HNONE : Hid (¬ ∀ i y, i < xs.length → xs[i]? = some y → hasW y k = false) := answer_none h1 hk
        obtain ⟨res, HRES⟩ : ∃ r, Hid (answerI 1 xs k = r) := ⟨_, rfl⟩
        rw [HRES.out] at HAT ⊢
        clear h1 h2 hur
        go_enter Try.func28, Try.ntmps28
        go_wp2_with fail
        refine (sIsPart_is H1 HA.out).mono ?_
        rintro e w' ⟨rfl, m, rfl⟩
        go_wp2_with fail
        refine (sIn_is6 H2 _).mono ?_
        rintro e w' ⟨rfl, rfl⟩
        go_wp2_with fail
        go_loop [7] (fun i => ∃ j : Nat, j ≤ xs.length ∧ i = .int .i64 j ∧ Hid (∀ i y, i < j → xs[i]? = some y → hasW y k = false)) (fun i => xs.length - (intOf i).toNat)
        case atStart => exact ⟨0, Nat.zero_le _, rfl, fun _ _ h => by omega⟩
        case round =>
          obtain ⟨j, hj, rfl, hno⟩ := hrel
          by_cases hlt : j < xs.length
          · obtain ⟨b, off, x, rfl, hcell, hx, _⟩ := HA.out.hA.elem hlt
            obtain ⟨hx0, hx1⟩ := HR.out x (elem_mem hx)
            have hbv := bit_val (k := k) hx0
            rcases hh : hasW x k with _ | _
            · have hb : ((x / (2 : Int) ^ k).tmod 2 == 1) = false := by rw [hbv, hh]; rfl
              have HN : Hid (∀ i y, i < j + 1 → xs[i]? = some y → hasW y k = false) := fun i y hi hy => by
                by_cases e : i = j
                · subst e
                  have := hx.out
                  rw [this] at hy; cases hy; exact hh
                · exact hno.out i y (by omega) hy
              clear hbv hh
              go_wp2_with fail
              go_round
              case rel => exact ⟨j + 1, by omega, by go_num, HN⟩
              case measure => simp [intOf]; omega
            · have hb : ((x / (2 : Int) ^ k).tmod 2 == 1) = true := by rw [hbv, hh]; rfl
              have HN := Lib.hid (HAT.out j x hx hno.out hh)
              clear hbv hh
              go_wp2_with fail
              go_ret
              exact ⟨ret_int HN.out.symm, _, rfl⟩
          · obtain rfl : j = xs.length := by omega
            exact absurd hno.out HNONE.out
    · rcases h2 : inB u 0 3 with _ | _
      · have H2 := Lib.hid h2
        have HF : Hid (answerI 2 xs u = -1) := answer_out h2
        clear h1 h2
        go_enter Try.func28, Try.ntmps28
        go_wp2_with fail
        refine (sIsPart_is H1 HA.out).mono ?_
        rintro e w' ⟨rfl, m, rfl⟩
        go_wp2_with fail
        refine (sIn_is6 H2 _).mono ?_
        rintro e w' ⟨rfl, rfl⟩
        go_wp2_with fail
        go_ret
        exact ⟨ret_int HF.out.symm, _, rfl⟩
      · have H2 := Lib.hid h2
        have hur : 0 ≤ u ∧ u ≤ 3 := by unfold inB at h2; exact of_decide_eq_true h2
        obtain ⟨k, rfl⟩ : ∃ k : Nat, u = k := ⟨u.toNat, by omega⟩
        have hk : k < 4 := by omega
        have HAT : Hid (∀ (j : Nat) (x : Int), Hid (xs[j]? = some x) → (∀ i y, i < j → xs[i]? = some y → hasW y k = false) → hasW x k = true → answerI 2 xs k = x) := fun j x hx hn hy => answer_at h1 (by show (k : Int) < 4; omega) hx hn hy
        have HNONE : Hid (¬ ∀ i y, i < xs.length → xs[i]? = some y → hasW y k = false) := answer_none h1 hk
        obtain ⟨res, HRES⟩ : ∃ r, Hid (answerI 2 xs k = r) := ⟨_, rfl⟩
        rw [HRES.out] at HAT ⊢
        clear h1 h2 hur
        go_enter Try.func28, Try.ntmps28
        go_wp2_with fail
        refine (sIsPart_is H1 HA.out).mono ?_
        rintro e w' ⟨rfl, m, rfl⟩
        go_wp2_with fail
        refine (sIn_is6 H2 _).mono ?_
        rintro e w' ⟨rfl, rfl⟩
        go_wp2_with fail
        go_loop [7] (fun i => ∃ j : Nat, j ≤ xs.length ∧ i = .int .i64 j ∧ Hid (∀ i y, i < j → xs[i]? = some y → hasW y k = false)) (fun i => xs.length - (intOf i).toNat)
        case atStart => exact ⟨0, Nat.zero_le _, rfl, fun _ _ h => by omega⟩
        case round =>
          obtain ⟨j, hj, rfl, hno⟩ := hrel
          by_cases hlt : j < xs.length
          · obtain ⟨b, off, x, rfl, hcell, hx, _⟩ := HA.out.hA.elem hlt
            obtain ⟨hx0, hx1⟩ := HR.out x (elem_mem hx)
            have hbv := bit_val (k := k) hx0
            rcases hh : hasW x k with _ | _
            · have hb : ((x / (2 : Int) ^ k).tmod 2 == 1) = false := by rw [hbv, hh]; rfl
              have HN : Hid (∀ i y, i < j + 1 → xs[i]? = some y → hasW y k = false) := fun i y hi hy => by
                by_cases e : i = j
                · subst e
                  have := hx.out
                  rw [this] at hy; cases hy; exact hh
                · exact hno.out i y (by omega) hy
              clear hbv hh
              go_wp2_with fail
              go_round
              case rel => exact ⟨j + 1, by omega, by go_num, HN⟩
              case measure => simp [intOf]; omega
            · have hb : ((x / (2 : Int) ^ k).tmod 2 == 1) = true := by rw [hbv, hh]; rfl
              have HN := Lib.hid (HAT.out j x hx hno.out hh)
              clear hbv hh
              go_wp2_with fail
              go_ret
              exact ⟨ret_int HN.out.symm, _, rfl⟩
          · obtain rfl : j = xs.length := by omega
            exact absurd hno.out HNONE.out
    · rcases h2 : inB u 0 7 with _ | _
      · have H2 := Lib.hid h2
        have HF : Hid (answerI 3 xs u = -1) := answer_out h2
        clear h1 h2
        go_enter Try.func28, Try.ntmps28
        go_wp2_with fail
        refine (sIsPart_is H1 HA.out).mono ?_
        rintro e w' ⟨rfl, m, rfl⟩
        go_wp2_with fail
        refine (sIn_is6 H2 _).mono ?_
        rintro e w' ⟨rfl, rfl⟩
        go_wp2_with fail
        go_ret
        exact ⟨ret_int HF.out.symm, _, rfl⟩
      · have H2 := Lib.hid h2
        have hur : 0 ≤ u ∧ u ≤ 7 := by unfold inB at h2; exact of_decide_eq_true h2
        obtain ⟨k, rfl⟩ : ∃ k : Nat, u = k := ⟨u.toNat, by omega⟩
        have hk : k < 8 := by omega
        have HAT : Hid (∀ (j : Nat) (x : Int), Hid (xs[j]? = some x) → (∀ i y, i < j → xs[i]? = some y → hasW y k = false) → hasW x k = true → answerI 3 xs k = x) := fun j x hx hn hy => answer_at h1 (by show (k : Int) < 8; omega) hx hn hy
        have HNONE : Hid (¬ ∀ i y, i < xs.length → xs[i]? = some y → hasW y k = false) := answer_none h1 hk
        obtain ⟨res, HRES⟩ : ∃ r, Hid (answerI 3 xs k = r) := ⟨_, rfl⟩
        rw [HRES.out] at HAT ⊢
        clear h1 h2 hur
        go_enter Try.func28, Try.ntmps28
        go_wp2_with fail
        refine (sIsPart_is H1 HA.out).mono ?_
        rintro e w' ⟨rfl, m, rfl⟩
        go_wp2_with fail
        refine (sIn_is6 H2 _).mono ?_
        rintro e w' ⟨rfl, rfl⟩
        go_wp2_with fail
        go_loop [7] (fun i => ∃ j : Nat, j ≤ xs.length ∧ i = .int .i64 j ∧ Hid (∀ i y, i < j → xs[i]? = some y → hasW y k = false)) (fun i => xs.length - (intOf i).toNat)
        case atStart => exact ⟨0, Nat.zero_le _, rfl, fun _ _ h => by omega⟩
        case round =>
          obtain ⟨j, hj, rfl, hno⟩ := hrel
          by_cases hlt : j < xs.length
          · obtain ⟨b, off, x, rfl, hcell, hx, _⟩ := HA.out.hA.elem hlt
            obtain ⟨hx0, hx1⟩ := HR.out x (elem_mem hx)
            have hbv := bit_val (k := k) hx0
            rcases hh : hasW x k with _ | _
            · have hb : ((x / (2 : Int) ^ k).tmod 2 == 1) = false := by rw [hbv, hh]; rfl
              have HN : Hid (∀ i y, i < j + 1 → xs[i]? = some y → hasW y k = false) := fun i y hi hy => by
                by_cases e : i = j
                · subst e
                  have := hx.out
                  rw [this] at hy; cases hy; exact hh
                · exact hno.out i y (by omega) hy
              clear hbv hh
              go_wp2_with fail
              go_round
              case rel => exact ⟨j + 1, by omega, by go_num, HN⟩
              case measure => simp [intOf]; omega
            · have hb : ((x / (2 : Int) ^ k).tmod 2 == 1) = true := by rw [hbv, hh]; rfl
              have HN := Lib.hid (HAT.out j x hx hno.out hh)
              clear hbv hh
              go_wp2_with fail
              go_ret
              exact ⟨ret_int HN.out.symm, _, rfl⟩
          · obtain rfl : j = xs.length := by omega
            exact absurd hno.out HNONE.out
theorem sAnswerIn_is {t u : Int} {xs : List Int} {b : Int} (h : Hid (answerI t xs u = b)) {A : Option Addr} {n c : Nat} {w : World} (ha : Row w A n c xs) :
    Calls Try.prog 28 #[.int .i64 t, .slice A n c, .int .i64 u] w fun e w' => e = .returned (.int .i64 b) ∧ ∃ m, w' = w.drewN m :=
  (sAnswerIn t A n c xs u w ha).mono fun _ _ ⟨he, hw⟩ => ⟨he.trans (ret_int h.out), hw⟩

theorem sBoth6 {a b g : Int} (h : Hid (andI a b = g)) (ha : 0 ≤ a) (ha2 : a < 256) (hb : 0 ≤ b) (hb2 : b < 256) (w : World) :
    Calls Try.prog 73 #[.int .i64 a, .int .i64 b] w fun e w' => e = .returned (.int .i64 g) ∧ ∃ n, w' = w.drewN n :=
  (sBothS a b ha ha2 hb hb2 w).mono fun _ _ ⟨he, hw⟩ => ⟨he.trans (ret_int h.out), hw⟩
def outTo (a b : List Int) (k : Nat) : List Int := (a.take k).map fun x => joinN (a ++ b) (a ++ b).length x
theorem outTo_next {a b : List Int} {k : Nat} {x : Int} (hx : Hid (a[k]? = some x)) : outTo a b (k + 1) = outTo a b k ++ [joinN (a ++ b) (a ++ b).length x] := by unfold outTo; rw [take_snoc hx, List.map_append]; rfl
theorem outTo_len (a b : List Int) (k : Nat) : (outTo a b k).length ≤ a.length := by unfold outTo; rw [List.length_map, List.length_take]; omega
theorem coarser_nil (w : World) : Owns (w.alloc (.cells #[] 3)) w.heap.size (.slice (some ⟨w.heap.size, 0, none⟩) 0 0) [] := Owns.lit _ _ [] (Nat.le_refl _) (by simp [maxLen])
set_option maxRecDepth 100000 in
set_option maxHeartbeats 8000000 in
theorem sCoarserOf (t : Int) (A B : Option Addr) (na ca nb cb : Nat) (a b : List Int) (w : World) (ha : Row w A na ca a) (hb : Row w B nb cb b) :
    Calls Try.prog 33 #[.int .i64 t, .slice A na ca, .slice B nb cb] w (OwnL (coarserL t a b) w) := by
  have HA := Lib.hid ha
  have HB := Lib.hid hb
  obtain rfl := ha.hn
  obtain rfl := hb.hn
  have hlA := ha.hl
  have hlB := hb.hl
  clear ha hb
  rcases h1 : isPartB t a with _ | _
  · have H1 := Lib.hid h1
    have HF : Hid (coarserL t a b = []) := coarser_no (by rw [h1]; rfl)
    clear h1
    go_enter Try.func33, Try.ntmps33
    go_wp2_with fail
    refine (sIsPart_is H1 HA.out).mono ?_
    rintro e w' ⟨rfl, m, rfl⟩
    go_wp2_with fail
    go_ret
    exact ⟨_, rfl, by rw [HF.out]; exact Owns.lit _ _ [] (Nat.le_refl _) (by simp [maxLen]), (bel_drewN (Below.refl _ _) _).alloc (Nat.le_refl _) _⟩
  rcases h2 : isPartB t b with _ | _
  · have H1 := Lib.hid h1
    have H2 := Lib.hid h2
    have HF : Hid (coarserL t a b = []) := coarser_no (by rw [h1, h2]; rfl)
    clear h1 h2
    go_enter Try.func33, Try.ntmps33
    go_wp2_with fail
    refine (sIsPart_is H1 HA.out).mono ?_
    rintro e w' ⟨rfl, m, rfl⟩
    go_wp2_with fail
    refine (sIsPart_is H2 (HB.out.drewN m)).mono ?_
    rintro e w' ⟨rfl, m2, rfl⟩
    go_wp2_with fail
    go_ret
    exact ⟨_, rfl, by rw [HF.out]; exact Owns.lit _ _ [] (Nat.le_refl _) (by simp [maxLen]), (bel_drewN (Below.refl _ _) _).alloc (Nat.le_refl _) _⟩
  have H1 := Lib.hid h1
  have H2 := Lib.hid h2
  have HF := Lib.hid (coarser_model h1 h2)
  obtain ⟨hla, hla2⟩ := issue_ne (part_issue h1)
  obtain ⟨hlb, hlb2⟩ := issue_ne (part_issue h2)
  have HS := Lib.hid (two_sets h1 h2)
  have HNX : Hid (∀ (k : Nat) (x : Int), Hid (a[k]? = some x) → outTo a b (k + 1) = outTo a b k ++ [joinN (a ++ b) (a ++ b).length x]) := fun k x hx => outTo_next hx
  have HOL := Lib.hid (outTo_len a b)
  have HEA : Hid (∀ (k : Nat) (x : Int), Hid (a[k]? = some x) → setOkB t x = true) := fun k x hx => part_sets h1 x (elem_mem hx)
  have HEND : Hid (outTo a b a.length = a.map fun x => joinN (a ++ b) (a ++ b).length x) := by unfold Hid outTo; rw [List.take_length]
  clear h1 h2
  obtain ⟨ab, HAB⟩ : ∃ l, Hid (a ++ b = l) := ⟨_, rfl⟩
  have hle : ab.length ≤ 1048576 := by rw [← HAB.out, List.length_append]; omega
  rw [HAB.out] at HF HS HNX HEND
  have HJ : Hid (∀ n x, setOkB t x = true → setOkB t (joinN ab n x) = true) := fun n x h => joinN_ok HS.out n x h
  have HJT : Hid (∀ n x, setOkB t x = true → setOkB t (joinStep (ab.take n) x) = true) := fun n x h => join_ok _ x (fun s hs => HS.out s (List.mem_of_mem_take hs)) h
  have HRO : Hid (∀ x ∈ (a.map fun x => joinN ab ab.length x), 0 ≤ x ∧ x < 256) := fun x hx => by
    obtain ⟨y, hy, rfl⟩ := List.mem_map.1 hx
    obtain ⟨i, hi, rfl⟩ := List.mem_iff_getElem.1 hy
    have := setOkB_lt (HJ.out ab.length _ (HEA.out i _ (List.getElem?_eq_getElem hi)))
    exact ⟨this.2.2.1, this.2.2.2.2⟩
  go_enter Try.func33, Try.ntmps33
  go_wp2_with fail
  refine (sIsPart_is H1 HA.out).mono ?_
  rintro e w' ⟨rfl, m1, rfl⟩
  go_wp2_with fail
  refine (sIsPart_is H2 (HB.out.drewN _)).mono ?_
  rintro e w' ⟨rfl, m2, rfl⟩
  have HB0 : Hid (Below w.heap.size w ((w.drewN (m1 + m2)).alloc (.cells #[] 3))) := (bel_drewN (Below.refl _ _) _).alloc (Nat.le_refl _) _
  have HO0 : Hid (Owns ((w.drewN (m1 + m2)).alloc (.cells #[] 3)) w.heap.size (.slice (some ⟨w.heap.size, 0, none⟩) 0 0) []) := Owns.lit (w.drewN (m1 + m2)) w.heap.size [] (Nat.le_refl _) (by simp [maxLen])
  go_wp2_with (at_builtin; first
    | (refine wp_appendL rfl _ _ rfl w.heap.size (.slice (some ⟨w.heap.size, 0, none⟩) 0 0) [] rfl HO0.out a A a.length ca rfl rfl hla (HA.out.hA.below HB0.out) (by simp; omega) HB0.out.size ?_; intro v2 w2 hown2 hgrow2; have HO2 := Lib.hid hown2; have HB2 := Lib.hid (below_appendL HB0.out HB0.out.size HO0.out (Nat.le_refl _) hgrow2); clear hown2 hgrow2 HO0 HB0)
    | (refine wp_appendL rfl _ _ rfl w.heap.size v2 a rfl HO2.out b B b.length cb rfl rfl hlb (HB.out.hA.below HB2.out) (by omega) HB2.out.size ?_; intro v3 w3 hown3 hgrow3; rw [HAB.out] at hown3; have HO3 := Lib.hid hown3; have HB3 := Lib.hid (below_appendL HB2.out HB2.out.size HO2.out (Nat.le_refl _) hgrow3); clear hown3 hgrow3; obtain ⟨A1, c1, rfl, _, _, _, _⟩ := HO3.out.form; have HR3 := Lib.hid (Owns.row HO3.out hle); have hsz3 := HB3.out.size))
  go_wp2_with fail
  go_loopw [8, 9] (fun v i wr => ∃ k : Nat, k ≤ a.length ∧ i = .int .i64 k ∧ Owns wr w3.heap.size v (outTo a b k) ∧ Below w3.heap.size w3 wr) (fun _ i _ => a.length - (Go.RowKit.intOf i).toNat)
  case atStart => exact ⟨0, Nat.zero_le _, rfl, coarser_nil w3, (Below.refl _ _).alloc (Nat.le_refl _) _⟩
  case round =>
    obtain ⟨k, hk, rfl, hown, hbel⟩ := hrel
    obtain ⟨W0, rfl⟩ : ∃ W, W = wr := ⟨_, rfl⟩
    have HO := Lib.hid hown
    have HBO := Lib.hid hbel
    have hsz := hbel.size
    have hol := HOL.out k
    have HBA := Lib.hid (bel_trans HB3.out hbel)
    clear hown hbel
    by_cases hlt : k < a.length
    · obtain ⟨bb, off, z, rfl, hcell, hz, _⟩ := (HA.out.hA.below HBA.out).elem hlt
      have HZ := Lib.hid (HEA.out k z hz)
      have HN := Lib.hid (HNX.out k z hz)
      have HXN : Hid (∀ n, setOkB t (joinN ab n z) = true) := fun n => HJ.out n z HZ.out
      go_wp2_with fail
      go_loopw [10, 11] (fun xv i wr => ∃ n : Nat, n ≤ ab.length ∧ i = .int .i64 n ∧ xv = .int .i64 (joinN ab n z) ∧ ∃ q, wr = W0.drewN q) (fun _ i _ => ab.length - (Go.RowKit.intOf i).toNat)
      case atStart => exact ⟨0, Nat.zero_le _, rfl, rfl, 0, rfl⟩
      case round =>
        obtain ⟨n, hn, rfl, rfl, q, rfl⟩ := hrel
        have HSU := Lib.hid (joinN_succ ab n z)
        have HY0 := Lib.hid (HXN.out n)
        by_cases hnt : n < ab.length
        · obtain ⟨y, HY⟩ : ∃ y, Hid (joinN ab n z = y) := ⟨_, rfl⟩
          rw [HY.out] at HSU HY0 ⊢
          go_wp2_with fail
          go_loopw [10, 12] (fun xv i wr => ∃ j : Nat, j ≤ ab.length ∧ i = .int .i64 j ∧ xv = .int .i64 (joinStep (ab.take j) y) ∧ ∃ q, wr = W0.drewN q) (fun _ i _ => ab.length - (Go.RowKit.intOf i).toNat)
          case atStart => exact ⟨0, Nat.zero_le _, rfl, rfl, q, rfl⟩
          case round =>
            obtain ⟨j, hj, rfl, rfl, q2, rfl⟩ := hrel
            by_cases hjt : j < ab.length
            · obtain ⟨b2, off2, s, rfl, hcell2, hs, _⟩ := (HR3.out.hA.below HBO.out).elem hjt
              have hsr := setOkB_lt (HS.out s (elem_mem hs))
              have hs0 := hsr.2.2.1
              have hs1 := hsr.2.2.2.2
              have hqr := setOkB_lt (HJT.out j y HY0.out)
              have hq0 := hqr.2.2.1
              have hq1 := hqr.2.2.2.2
              have hnx := joinTo_next hs y
              obtain ⟨x, HX⟩ : ∃ x, Hid (joinStep (ab.take j) y = x) := ⟨_, rfl⟩
              rw [HX.out] at hq0 hq1 hnx ⊢
              unfold joinF at hnx
              clear hsr hqr
              obtain ⟨g, HG⟩ : ∃ g, Hid (andI x s = g) := ⟨_, rfl⟩
              rw [HG.out] at hnx
              by_cases hm : g = 0
              · rw [if_pos hm] at hnx
                have HNX2 := Lib.hid hnx
                have hd : (g != 0) = false := by rw [hm]; rfl
                clear hnx hm
                go_wp2_with fail
                refine (sBoth6 HG hq0 hq1 hs0 hs1 _).mono ?_
                rintro e w' ⟨rfl, m, rfl⟩
                go_wp2_with fail
                go_roundw
                case rel => exact ⟨j + 1, by omega, by go_num, by rw [HNX2.out], _, rfl⟩
                case measure => simp [Go.RowKit.intOf]; omega
              · rw [if_neg hm] at hnx
                have HNX2 := Lib.hid hnx
                have hd : (g != 0) = true := by simpa using hm
                clear hnx hm
                go_wp2_with fail
                refine (sBoth6 HG hq0 hq1 hs0 hs1 _).mono ?_
                rintro e w' ⟨rfl, m, rfl⟩
                go_wp2_with fail
                refine (sEither x s hq0 hq1 hs0 hs1 _).mono ?_
                rintro e w' ⟨rfl, m2, rfl⟩
                go_wp2_with fail
                go_roundw
                case rel => exact ⟨j + 1, by omega, by go_num, by rw [HNX2.out], _, rfl⟩
                case measure => simp [Go.RowKit.intOf]; omega
            · obtain rfl : j = ab.length := by omega
              have HT : Hid (joinStep (ab.take ab.length) y = joinN ab (n + 1) z) := by unfold Hid; rw [List.take_length, HSU.out]
              rw [HT.out]
              go_wp2_with fail
              go_roundw
              case rel => exact ⟨n + 1, by omega, by go_num, rfl, _, rfl⟩
              case measure => simp [Go.RowKit.intOf]; omega
        · obtain rfl : n = ab.length := by omega
          obtain ⟨y, HY⟩ : ∃ y, Hid (joinN ab ab.length z = y) := ⟨_, rfl⟩
          rw [HY.out] at HN ⊢
          have HOQ : Hid (Owns (W0.drewN q) w3.heap.size u8 (outTo a b k)) := HO.out
          have HBQ : Hid (Below w3.heap.size w3 (W0.drewN q)) := bel_drewN HBO.out q
          have hszq : w3.heap.size ≤ (W0.drewN q).heap.size := HBO.out.size
          go_wp2_with (at_builtin; refine wp_append1 (W := W0.drewN q) rfl _ _ rfl w3.heap.size u8 (outTo a b k) rfl HOQ.out y rfl (by omega) (by exact hszq) ?_; intro v' w' hown' hgrow)
          have hb' := below_append HBQ.out hszq HOQ.out (Nat.le_refl _) hgrow
          go_roundw
          case rel => exact ⟨k + 1, by omega, by go_num, by rw [HN.out]; exact hown', hb'⟩
          case measure => simp [Go.RowKit.intOf]; omega
    · obtain rfl : k = a.length := by omega
      rw [HEND.out] at HO hol
      obtain ⟨l, HLL⟩ : ∃ l, Hid ((a.map fun x => joinN ab ab.length x) = l) := ⟨_, rfl⟩
      rw [HLL.out] at HO HF HRO hol
      obtain ⟨A4, c4, rfl, _, _, hn4, _⟩ := HO.out.form
      have HN4 := Lib.hid hn4
      have hll : l.length ≤ 70 := by omega
      clear hn4 hol
      go_wp2_with fail
      refine (sTidy _ _ _ l _ rfl (by omega) HRO.out HN4.out).mono ?_
      rintro e w4 ⟨v, rfl, ho, hb⟩
      have HO4 := Lib.hid ho
      have HB4 := Lib.hid (bel_trans HBA.out hb)
      have hszA := HBA.out.size
      clear ho hb
      go_wp2_with fail
      go_ret
      exact ⟨_, rfl, by rw [← HF.out]; exact HO4.out.base hszA, HB4.out⟩
theorem sCoarserOf_is {t : Int} {a b l : List Int} (h : Hid (coarserL t a b = l)) {A B : Option Addr} {na ca nb cb : Nat} {w : World} (ha : Row w A na ca a) (hb : Row w B nb cb b) :
    Calls Try.prog 33 #[.int .i64 t, .slice A na ca, .slice B nb cb] w (OwnL l w) := by
  have := sCoarserOf t A B na ca nb cb a b w ha hb
  rw [h.out] at this; exact this
end Go.Proofs.Ytkjjpleedobkdaa
