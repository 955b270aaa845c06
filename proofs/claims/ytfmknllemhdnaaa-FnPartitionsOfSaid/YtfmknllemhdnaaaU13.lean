/-
  What the proofs of this seat's statements share (PartS, RowV, RowW, PartT).
-/
import Derived.Test.YtfmknllemhdnaaaU11
import Derived.Test.YtfmknllemhdnaaaU6
import Derived.Test.YtfmknllemhdnaaaU12
import Derived.Test.YtfmknllemhdnaaaU3

namespace Go.Proofs.Ytfmknllemhdnaaa
open Go.RowKit

theorem bit_val {x : Int} {k : Nat} (h0 : 0 ≤ x) : (x / (2 : Int) ^ k).tmod 2 = if hasW x k = true then 1 else 0 := by
  obtain ⟨m, rfl⟩ : ∃ m : Nat, x = m := ⟨x.toNat, by omega⟩
  have e : (2 : Int) ^ k = ((2 ^ k : Nat) : Int) := by push_cast; rfl
  have e2 : hasW (m : Int) k = decide (m / 2 ^ k % 2 = 1) := by unfold hasW; rw [Int.toNat_natCast, Nat.testBit_eq_decide_div_mod_eq]
  rw [e2, e, show ((m : Int) / ((2 ^ k : Nat) : Int)).tmod 2 = ((m / 2 ^ k % 2 : Nat) : Int) by rw [← Int.natCast_ediv]; rfl]
  rcases Nat.mod_two_eq_zero_or_one (m / 2 ^ k) with h | h <;> rw [h] <;> rfl
def cntTo (xs : List Int) (k j : Nat) : Nat := ((xs.take j).filter fun x => hasW x k).length
theorem cnt_next {xs : List Int} {j : Nat} {x : Int} (hx : Hid (xs[j]? = some x)) (k : Nat) : cntTo xs k (j + 1) = cntTo xs k j + if hasW x k = true then 1 else 0 := by
  unfold cntTo
  rw [take_snoc hx, List.filter_append, List.length_append]
  by_cases h : hasW x k = true
  · simp [h]
  · simp [h]
theorem cnt_le (xs : List Int) (k j : Nat) : cntTo xs k j ≤ j := by
  unfold cntTo
  refine Nat.le_trans (List.length_filter_le _ _) ?_
  rw [List.length_take]; omega
def OneTo (xs : List Int) (k : Nat) : Prop := ∀ v, v < k → (xs.filter fun x => hasW x v).length = 1
theorem one_zero (xs : List Int) : OneTo xs 0 := fun _ h => by omega
theorem one_next {xs : List Int} {k : Nat} (h : OneTo xs k) (hk : (xs.filter fun x => hasW x k).length = 1) : OneTo xs (k + 1) := fun v hv => by
  by_cases e : v = k
  · rw [e]; exact hk
  · exact h v (by omega)
theorem one_end {t : Int} {xs : List Int} (ho : issueOkB t xs = true) (h : OneTo xs (nWorlds t)) : isPartB t xs = true := by
  unfold isPartB
  rw [ho, Bool.true_and, List.all_eq_true]
  intro w hw
  rw [decide_eq_true_eq]
  exact h w (List.mem_range.1 hw)
theorem one_miss {t : Int} {xs : List Int} {k : Nat} (hk : k < nWorlds t) (h : (xs.filter fun x => hasW x k).length ≠ 1) : isPartB t xs = false := by
  unfold isPartB
  rw [Bool.and_eq_false_iff]
  right
  rw [List.all_eq_false]
  exact ⟨k, List.mem_range.2 hk, by rw [decide_eq_true_eq]; exact h⟩

set_option maxRecDepth 100000 in
set_option maxHeartbeats 4000000 in
theorem sIsPart (t : Int) (A : Option Addr) (n c : Nat) (xs : List Int) (w : World) (ha : Row w A n c xs) :
    Calls Try.prog 38 #[.int .i64 t, .slice A n c] w fun e w' => e = .returned (.bool (isPartB t xs)) ∧ ∃ m, w' = w.drewN m := by
  have HA := Lib.hid ha
  obtain rfl := ha.hn
  have hl := ha.hl
  clear ha
  rcases h1 : issueOkB t xs with _ | _
  · have H1 := Lib.hid h1
    have HF : Hid (isPartB t xs = false) := by unfold Hid isPartB; rw [h1]; rfl
    clear h1
    go_enter Try.func38, Try.ntmps38
    go_wp2_with fail
    refine (sIssueOk_is H1 _ _ _ _ rfl hl HA.out.hA).mono ?_
    rintro e w' ⟨rfl, m, rfl⟩
    go_wp2_with fail
    go_ret
    exact ⟨ret_bool HF.out.symm, _, rfl⟩
  · have H1 := Lib.hid h1
    obtain ⟨ht1, ht3⟩ := issue_things h1
    have HR := Lib.hid (issue_range h1)
    have HMISS : Hid (∀ k, k < nWorlds t → (xs.filter fun x => hasW x k).length ≠ 1 → isPartB t xs = false) := fun k hk h => one_miss hk h
    have HEND : Hid (OneTo xs (nWorlds t) → isPartB t xs = true) := one_end h1
    obtain ⟨res, HRES⟩ : ∃ b, Hid (isPartB t xs = b) := ⟨_, rfl⟩
    rw [HRES.out] at HMISS HEND ⊢
    clear h1
    have ht : t = 1 ∨ t = 2 ∨ t = 3 := by omega
    clear ht1 ht3
    rcases ht with rfl | rfl | rfl
    · have HNW : Hid (nWorlds 1 = 2) := rfl
      rw [HNW.out] at HMISS HEND
      go_enter Try.func38, Try.ntmps38
      go_wp2_with fail
      refine (sIssueOk_is H1 _ _ _ _ rfl hl HA.out.hA).mono ?_
      rintro e w' ⟨rfl, m, rfl⟩
      go_wp2_with fail
      go_loop [5] (fun i => ∃ k : Nat, k ≤ 2 ∧ i = .int .i64 k ∧ Hid (OneTo xs k)) (fun i => 2 - (Go.RowKit.intOf i).toNat)
      case atStart => exact ⟨0, Nat.zero_le _, rfl, one_zero xs⟩
      case round =>
        obtain ⟨k, hk, rfl, hone⟩ := hrel
        by_cases hkt : k < 2
        · go_wp2_with fail
          go_loop [6, 7] (fun s i => ∃ j : Nat, j ≤ xs.length ∧ i = .int .i64 j ∧ s = .int .i64 (cntTo xs k j)) (fun _ i => xs.length - (Go.RowKit.intOf i).toNat)
          case atStart => exact ⟨0, Nat.zero_le _, rfl, rfl⟩
          case round =>
            obtain ⟨j, hj, rfl, rfl⟩ := hrel
            have hcl := cnt_le xs k j
            by_cases hjt : j < xs.length
            · obtain ⟨b, off, x, rfl, hcell, hx, _⟩ := HA.out.hA.elem hjt
              obtain ⟨hx0, hx1⟩ := HR.out x (elem_mem hx)
              have hnx := cnt_next hx k
              have hbv := bit_val (k := k) hx0
              obtain ⟨q, HQ⟩ : ∃ q, Hid (cntTo xs k j = q) := ⟨_, rfl⟩
              rw [HQ.out] at hcl hnx ⊢
              by_cases hh : hasW x k = true
              · rw [if_pos hh] at hnx hbv
                have HN := Lib.hid hnx
                clear hnx hh
                go_wp2_with fail
                go_round
                case rel => exact ⟨j + 1, by omega, by go_num, by rw [HN.out]; go_num⟩
                case measure => simp [Go.RowKit.intOf]; omega
              · rw [if_neg hh] at hnx hbv
                have HN := Lib.hid hnx
                clear hnx hh
                go_wp2_with fail
                go_round
                case rel => exact ⟨j + 1, by omega, by go_num, by rw [HN.out]; go_num⟩
                case measure => simp [Go.RowKit.intOf]; omega
            · obtain rfl : j = xs.length := by omega
              have HC : Hid (cntTo xs k xs.length = (xs.filter fun x => hasW x k).length) := by unfold Hid cntTo; rw [List.take_length]
              obtain ⟨q, HQ⟩ : ∃ q, Hid (cntTo xs k xs.length = q) := ⟨_, rfl⟩
              rw [HQ.out] at HC hcl ⊢
              by_cases hq : q = 1
              · have HN := Lib.hid (one_next hone.out (HC.out.symm.trans hq))
                have hd : ((q : Int) != 1) = false := by rw [hq]; rfl
                clear hq
                go_wp2_with fail
                go_round
                case rel => exact ⟨k + 1, by omega, by go_num, HN⟩
                case measure => simp [Go.RowKit.intOf]; omega
              · have HN := Lib.hid (HMISS.out k hkt (fun e => hq (HC.out.trans e)))
                have hd : ((q : Int) != 1) = true := by rw [bne_iff_ne]; omega
                clear hq
                go_wp2_with fail
                go_ret
                exact ⟨ret_bool HN.out.symm, _, rfl⟩
        · obtain rfl : k = 2 := by omega
          have HN := Lib.hid (HEND.out hone.out)
          go_wp2_with fail
          go_ret
          exact ⟨ret_bool HN.out.symm, _, rfl⟩
    · have HNW : Hid (nWorlds 2 = 4) := rfl
      rw [HNW.out] at HMISS HEND
      go_enter Try.func38, Try.ntmps38
      go_wp2_with fail
      refine (sIssueOk_is H1 _ _ _ _ rfl hl HA.out.hA).mono ?_
      rintro e w' ⟨rfl, m, rfl⟩
      go_wp2_with fail
      go_loop [5] (fun i => ∃ k : Nat, k ≤ 4 ∧ i = .int .i64 k ∧ Hid (OneTo xs k)) (fun i => 4 - (Go.RowKit.intOf i).toNat)
      case atStart => exact ⟨0, Nat.zero_le _, rfl, one_zero xs⟩
      case round =>
        obtain ⟨k, hk, rfl, hone⟩ := hrel
        by_cases hkt : k < 4
        · go_wp2_with fail
          go_loop [6, 7] (fun s i => ∃ j : Nat, j ≤ xs.length ∧ i = .int .i64 j ∧ s = .int .i64 (cntTo xs k j)) (fun _ i => xs.length - (Go.RowKit.intOf i).toNat)
          case atStart => exact ⟨0, Nat.zero_le _, rfl, rfl⟩
          case round =>
            obtain ⟨j, hj, rfl, rfl⟩ := hrel
            have hcl := cnt_le xs k j
            by_cases hjt : j < xs.length
            · obtain ⟨b, off, x, rfl, hcell, hx, _⟩ := HA.out.hA.elem hjt
              obtain ⟨hx0, hx1⟩ := HR.out x (elem_mem hx)
              have hnx := cnt_next hx k
              have hbv := bit_val (k := k) hx0
              obtain ⟨q, HQ⟩ : ∃ q, Hid (cntTo xs k j = q) := ⟨_, rfl⟩
              rw [HQ.out] at hcl hnx ⊢
              by_cases hh : hasW x k = true
              · rw [if_pos hh] at hnx hbv
                have HN := Lib.hid hnx
                clear hnx hh
                go_wp2_with fail
                go_round
                case rel => exact ⟨j + 1, by omega, by go_num, by rw [HN.out]; go_num⟩
                case measure => simp [Go.RowKit.intOf]; omega
              · rw [if_neg hh] at hnx hbv
                have HN := Lib.hid hnx
                clear hnx hh
                go_wp2_with fail
                go_round
                case rel => exact ⟨j + 1, by omega, by go_num, by rw [HN.out]; go_num⟩
                case measure => simp [Go.RowKit.intOf]; omega
            · obtain rfl : j = xs.length := by omega
              have HC : Hid (cntTo xs k xs.length = (xs.filter fun x => hasW x k).length) := by unfold Hid cntTo; rw [List.take_length]
              obtain ⟨q, HQ⟩ : ∃ q, Hid (cntTo xs k xs.length = q) := ⟨_, rfl⟩
              rw [HQ.out] at HC hcl ⊢
              by_cases hq : q = 1
              · have HN := Lib.hid (one_next hone.out (HC.out.symm.trans hq))
                have hd : ((q : Int) != 1) = false := by rw [hq]; rfl
                clear hq
                go_wp2_with fail
                go_round
                case rel => exact ⟨k + 1, by omega, by go_num, HN⟩
                case measure => simp [Go.RowKit.intOf]; omega
              · have HN := Lib.hid (HMISS.out k hkt (fun e => hq (HC.out.trans e)))
                have hd : ((q : Int) != 1) = true := by rw [bne_iff_ne]; omega
                clear hq
                go_wp2_with fail
                go_ret
                exact ⟨ret_bool HN.out.symm, _, rfl⟩
        · obtain rfl : k = 4 := by omega
          have HN := Lib.hid (HEND.out hone.out)
          go_wp2_with fail
          go_ret
          exact ⟨ret_bool HN.out.symm, _, rfl⟩
    · have HNW : Hid (nWorlds 3 = 8) := rfl
      rw [HNW.out] at HMISS HEND
      go_enter Try.func38, Try.ntmps38
      go_wp2_with fail
      refine (sIssueOk_is H1 _ _ _ _ rfl hl HA.out.hA).mono ?_
      rintro e w' ⟨rfl, m, rfl⟩
      go_wp2_with fail
      go_loop [5] (fun i => ∃ k : Nat, k ≤ 8 ∧ i = .int .i64 k ∧ Hid (OneTo xs k)) (fun i => 8 - (Go.RowKit.intOf i).toNat)
      case atStart => exact ⟨0, Nat.zero_le _, rfl, one_zero xs⟩
      case round =>
        obtain ⟨k, hk, rfl, hone⟩ := hrel
        by_cases hkt : k < 8
        · go_wp2_with fail
          go_loop [6, 7] (fun s i => ∃ j : Nat, j ≤ xs.length ∧ i = .int .i64 j ∧ s = .int .i64 (cntTo xs k j)) (fun _ i => xs.length - (Go.RowKit.intOf i).toNat)
          case atStart => exact ⟨0, Nat.zero_le _, rfl, rfl⟩
          case round =>
            obtain ⟨j, hj, rfl, rfl⟩ := hrel
            have hcl := cnt_le xs k j
            by_cases hjt : j < xs.length
            · obtain ⟨b, off, x, rfl, hcell, hx, _⟩ := HA.out.hA.elem hjt
              obtain ⟨hx0, hx1⟩ := HR.out x (elem_mem hx)
              have hnx := cnt_next hx k
              have hbv := bit_val (k := k) hx0
              obtain ⟨q, HQ⟩ : ∃ q, Hid (cntTo xs k j = q) := ⟨_, rfl⟩
              rw [HQ.out] at hcl hnx ⊢
              by_cases hh : hasW x k = true
              · rw [if_pos hh] at hnx hbv
                have HN := Lib.hid hnx
                clear hnx hh
                go_wp2_with fail
                go_round
                case rel => exact ⟨j + 1, by omega, by go_num, by rw [HN.out]; go_num⟩
                case measure => simp [Go.RowKit.intOf]; omega
              · rw [if_neg hh] at hnx hbv
                have HN := Lib.hid hnx
                clear hnx hh
                go_wp2_with fail
                go_round
                case rel => exact ⟨j + 1, by omega, by go_num, by rw [HN.out]; go_num⟩
                case measure => simp [Go.RowKit.intOf]; omega
            · obtain rfl : j = xs.length := by omega
              have HC : Hid (cntTo xs k xs.length = (xs.filter fun x => hasW x k).length) := by unfold Hid cntTo; rw [List.take_length]
              obtain ⟨q, HQ⟩ : ∃ q, Hid (cntTo xs k xs.length = q) := ⟨_, rfl⟩
              rw [HQ.out] at HC hcl ⊢
              by_cases hq : q = 1
              · have HN := Lib.hid (one_next hone.out (HC.out.symm.trans hq))
                have hd : ((q : Int) != 1) = false := by rw [hq]; rfl
                clear hq
                go_wp2_with fail
                go_round
                case rel => exact ⟨k + 1, by omega, by go_num, HN⟩
                case measure => simp [Go.RowKit.intOf]; omega
              · have HN := Lib.hid (HMISS.out k hkt (fun e => hq (HC.out.trans e)))
                have hd : ((q : Int) != 1) = true := by rw [bne_iff_ne]; omega
                clear hq
                go_wp2_with fail
                go_ret
                exact ⟨ret_bool HN.out.symm, _, rfl⟩
        · obtain rfl : k = 8 := by omega
          have HN := Lib.hid (HEND.out hone.out)
          go_wp2_with fail
          go_ret
          exact ⟨ret_bool HN.out.symm, _, rfl⟩
theorem sIsPart_is {t : Int} {xs : List Int} {b : Bool} (h : Hid (isPartB t xs = b)) {A : Option Addr} {n c : Nat} {w : World} (ha : Row w A n c xs) :
    Calls Try.prog 38 #[.int .i64 t, .slice A n c] w fun e w' => e = .returned (.bool b) ∧ ∃ m, w' = w.drewN m :=
  (sIsPart t A n c xs w ha).mono fun _ _ ⟨he, hw⟩ => ⟨he.trans (ret_bool h.out), hw⟩

def partsTo (t : Int) (xs : List Int) (k : Nat) : List Int := (List.range k).map (partOf t xs)
theorem partsTo_next (t : Int) (xs : List Int) (k : Nat) : partsTo t xs (k + 1) = partsTo t xs k ++ [partOf t xs k] := by unfold partsTo; rw [List.range_succ, List.map_append]; rfl
theorem partsTo_len (t : Int) (xs : List Int) (k : Nat) : (partsTo t xs k).length = k := by unfold partsTo; rw [List.length_map, List.length_range]
/-- What the model has of a part behind v worlds. -/
def upTo (xs : List Int) (u v : Nat) : Nat := setOfW (fun z => sameIn xs z u) v
theorem upTo_next (xs : List Int) (u v : Nat) : upTo xs u (v + 1) = upTo xs u v + if sameIn xs v u = true then 2 ^ v else 0 := rfl
theorem upTo_lt (xs : List Int) (u v : Nat) : upTo xs u v < 2 ^ v := setOfW_lt _ v
def sameTo (xs : List Int) (v u j : Nat) : Bool := sameIn (xs.take j) v u

end Go.Proofs.Ytfmknllemhdnaaa

namespace Go.Proofs.Ytfmknllemhdnaaa
open Go.RowKit

theorem OwnsR.size_eq {W : World} {base n c : Nat} {A : Option Addr} {vs : List Value} {xss : List (List Int)} (h : OwnsR W base (.slice A n c) vs xss) : n = xss.length := by
  obtain ⟨A', c', e, _⟩ := h.form
  simp only [Value.slice.injEq] at e
  exact e.2.1
/-- Two rows change their places. -/
theorem OwnsR.swap {W : World} {base n c g : Nat} {vs : List Value} {xss : List (List Int)} (h : OwnsR W base (.slice (some ⟨g, 0, none⟩) n c) vs xss) {p : Nat} {u v : Value}
    (hu : W.cell? ⟨g, p + 1, none⟩ = some u) (hv : W.cell? ⟨g, p, none⟩ = some v) (hp : p + 1 < xss.length) :
    OwnsR ((W.setCell ⟨g, p + 1, none⟩ v).setCell ⟨g, p, none⟩ u) base (.slice (some ⟨g, 0, none⟩) n c) ((vs.set (p + 1) v).set p u) (swapL xss p) := by
  have hn := h.size_eq
  have hl := h.len
  have hrow := h.row
  rw [show vs.length = n by omega] at hrow
  have eu : vs[p + 1]? = some u := by rw [← hrow.cellAt (p + 1) (by omega)]; exact hu
  have ev : vs[p]? = some v := by rw [← hrow.cellAt p (by omega)]; exact hv
  have s1 := hrow.stored (p + 1) v
  have s2 := s1.1.stored p u
  refine ⟨?_, ?_, ?_⟩
  · rw [List.length_set, List.length_set, show vs.length = n by omega]; exact s2.1
  · rw [List.length_set, List.length_set, swap_len]; exact hl
  · have K : ∀ (i : Nat) (xs : List Int), xss[i]? = some xs → ∃ z, vs[i]? = some z ∧ Owns ((W.setCell ⟨g, p + 1, none⟩ v).setCell ⟨g, p, none⟩ u) base z xs ∧ xs.length ≤ 300 ∧ (z.ownBlock = none ∨ z.ownBlock ≠ (Value.slice (some ⟨g, 0, none⟩) n c).ownBlock) := fun i xs hx => by
      obtain ⟨z, h1, h2, h3, h4⟩ := h.sees.2 i xs hx
      refine ⟨z, h1, ?_, h3, h4⟩
      exact (h2.kept s1.2 h4).kept s2.2 h4
    intro i xs hx
    unfold swapL at hx
    rw [List.getElem?_set, List.length_set] at hx
    rw [List.getElem?_set, List.length_set]
    by_cases h1 : p = i
    · subst h1
      rw [if_pos rfl, if_pos (by omega)] at hx ⊢
      obtain ⟨z, g1, g2⟩ := K (p + 1) _ (List.getElem?_eq_getElem hp)
      rw [eu] at g1
      cases g1
      cases hx
      rw [List.getD_eq_getElem?_getD, List.getElem?_eq_getElem hp]
      exact ⟨u, rfl, g2⟩
    · rw [if_neg h1, List.getElem?_set] at hx ⊢
      by_cases h2 : p + 1 = i
      · subst h2
        rw [if_pos rfl, if_pos (by omega)] at hx ⊢
        obtain ⟨z, g1, g2⟩ := K p _ (List.getElem?_eq_getElem (by omega))
        rw [ev] at g1
        cases g1
        cases hx
        rw [List.getD_eq_getElem?_getD, List.getElem?_eq_getElem (by omega)]
        exact ⟨v, rfl, g2⟩
      · rw [if_neg h2] at hx ⊢
        exact K i xs hx
/-- All that two rows' change of places asks and leaves. -/
theorem OwnsR.pair {W : World} {base n c : Nat} {A : Option Addr} {vs : List Value} {xss : List (List Int)} (h : OwnsR W base (.slice A n c) vs xss) {p q : Nat} (hq : q = p + 1) (hp : q < xss.length) :
    ∃ g off Ai ci xs Bi di ys, A = some ⟨g, off, none⟩ ∧ base ≤ g ∧ Hid (xss.getD (p + 1) [] = xs) ∧ Hid (xss.getD p [] = ys) ∧ Hid (Row W Ai xs.length ci xs) ∧ Hid (Row W Bi ys.length di ys) ∧
      W.cell? ⟨g, off + q, none⟩ = some (.slice Ai xs.length ci) ∧ W.cell? ⟨g, off + p, none⟩ = some (.slice Bi ys.length di) ∧ W.frozen? ⟨g, off + q, none⟩ = false ∧ W.frozen? ⟨g, off + p, none⟩ = false ∧
      Hid (∀ m, ∃ vs', OwnsR (((W.drewN m).setCell ⟨g, off + q, none⟩ (.slice Bi ys.length di)).setCell ⟨g, off + p, none⟩ (.slice Ai xs.length ci)) base (.slice A n c) vs' (swapL xss p)) := by
  subst hq
  have hn := h.size_eq
  have hl := h.len
  obtain ⟨g, off, Ai, ci, xs, hA, hc1, hx, hrx⟩ := h.elem hp
  obtain ⟨g', off', Bi, di, ys, hA', hc2, hy, hry⟩ := h.elem (i := p) (by omega)
  rw [hA] at hA'
  cases hA'
  have h0 : off = 0 ∧ base ≤ g := by
    rcases h.row.2 with ⟨hv, hl⟩ | ⟨g, cap, cur, hv, hb, _⟩
    · omega
    · simp only [Value.slice.injEq] at hv
      rw [hA] at hv
      cases hv.1
      exact ⟨rfl, hb⟩
  obtain ⟨rfl, hb⟩ := h0
  subst hA
  have hrow := h.row
  rw [show vs.length = n by omega] at hrow
  refine ⟨g, 0, Ai, ci, xs, Bi, di, ys, rfl, hb, by unfold Hid; rw [List.getD_eq_getElem?_getD, hx.out]; rfl, by unfold Hid; rw [List.getD_eq_getElem?_getD, hy.out]; rfl, hrx, hry, hc1, hc2, ?_, ?_, ?_⟩
  · rw [Nat.zero_add]; exact hrow.frozenAt (p + 1)
  · rw [Nat.zero_add]; exact hrow.frozenAt p
  · intro m
    rw [Nat.zero_add] at hc1 hc2
    rw [Nat.zero_add, Nat.zero_add]
    exact ⟨_, (h.drewN m).swap hc1 hc2 hp⟩

theorem sAll_is {t a : Int} (h : Hid (allOf t = a)) (h1 : 1 ≤ t) (h3 : t ≤ 3) (w : World) : Calls Try.prog 28 #[.int .i64 t] w fun e w' => e = .returned (.int .i64 a) ∧ w = w' := by
  have := sAll t w h1 h3
  rw [h.out] at this; exact this
theorem issues4 {A : Option Addr} {n c : Nat} {w : World} (hA : A ≠ none) (h : Row w A n c []) : Calls Try.prog 27 #[.int .i64 (3 + 1), .int .i64 0, .slice A n c] w (OwnR (issuesM 4 4 []) w) :=
  sIssuesAll 4 (by decide) 4 A n c [] w (Nat.le_refl _) (by simp) (fun _ h => by cases h) hA h
theorem issues16 {A : Option Addr} {n c : Nat} {w : World} (hA : A ≠ none) (h : Row w A n c []) : Calls Try.prog 27 #[.int .i64 (15 + 1), .int .i64 0, .slice A n c] w (OwnR (issuesM 16 16 []) w) :=
  sIssuesAll 16 (by decide) 16 A n c [] w (Nat.le_refl _) (by simp) (fun _ h => by cases h) hA h
theorem issuesOf_one : issuesOfL 1 = sortL (issuesM 4 4 []) := by unfold issuesOfL; rw [if_pos rfl]
theorem issuesOf_two : issuesOfL 2 = sortL (issuesM 16 16 []) := by unfold issuesOfL; rw [if_neg (by decide), if_pos rfl]
theorem row_none (W : World) : Row (W.alloc (.cells #[] 3)) (some ⟨W.heap.size, 0, none⟩) 0 0 [] :=
  Owns.row (Owns.lit W W.heap.size [] (Nat.le_refl _) (by simp [maxLen])) (by simp)
theorem issues_set {t : Int} (ht : t = 1 ∨ t = 2) : (∃ (al : Int) (L : List (List Int)), allOf t = al ∧ 0 ≤ al ∧ al < 300 ∧ issuesOfL t = sortL L ∧ L.length ≤ 65536 ∧ 1 ≤ t ∧ t ≤ 3 ∧ inB t 1 2 = true ∧
        ∀ (A : Option Addr) (n c : Nat) (w : World), A ≠ none → Row w A n c [] → Calls Try.prog 27 #[.int .i64 (al + 1), .int .i64 0, .slice A n c] w (OwnR L w)) := by
  rcases ht with rfl | rfl
  · exact ⟨3, issuesM 4 4 [], by decide, by decide, by decide, issuesOf_one, Nat.le_trans (issuesM_len 4 4 []) (by decide), by decide, by decide, by decide, fun A n c w h1 h2 => issues4 h1 h2⟩
  · exact ⟨15, issuesM 16 16 [], by decide, by decide, by decide, issuesOf_two, Nat.le_trans (issuesM_len 16 16 []) (by decide), by decide, by decide, by decide, fun A n c w h1 h2 => issues16 h1 h2⟩
set_option maxRecDepth 100000 in
set_option maxHeartbeats 8000000 in
theorem sIssuesOf (t : Int) (w : World) : Calls Try.prog 10 #[.int .i64 t] w (OwnR (issuesOfL t) w) := by
  by_cases ht : t = 1 ∨ t = 2
  · have HSET := issues_set ht
    obtain ⟨al, L, hal, h0, h1, hiss, hlen, ht1, ht3, hin, hcall⟩ := HSET
    rw [hiss]
    have HAL := Lib.hid hal
    have HIN := Lib.hid hin
    have HC := Lib.hid hcall
    obtain ⟨n, HN⟩ : ∃ n, Hid (L.length = n) := ⟨_, rfl⟩
    have HSL : Hid (∀ m, (sortTo L m).length = n) := fun m => by rw [sortTo_len]; exact HN.out
    have HFIN : Hid (sortL L = sortTo L (n - 1)) := by unfold Hid sortL; rw [HN.out]
    obtain ⟨R, HR⟩ : ∃ R, Hid (sortL L = R) := ⟨_, rfl⟩
    have hln : n ≤ 65536 := by rw [← HN.out]; exact hlen
    rw [HR.out] at HFIN ⊢
    clear hal hiss hlen hin hcall ht HR
    go_enter Try.func10, Try.ntmps10
    go_wp2_with fail
    refine (sIn_is HIN _).mono ?_
    rintro e w' ⟨rfl, rfl⟩
    go_wp2_with fail
    refine (sAll_is HAL ht1 ht3 _).mono ?_
    rintro e w' ⟨rfl, rfl⟩
    go_wp2_with fail
    refine (HC.out _ _ _ _ (by simp) (row_none _)).mono ?_
    rintro e w5 ⟨v5, vs5, rfl, ho5, hb5⟩
    rw [World.size_alloc] at ho5
    have HO5 := Lib.hid (ho5.base (show w.heap.size ≤ w.heap.size + 1 by omega))
    have HB5 := Lib.hid (bel_trans (show Below w.heap.size w (w.alloc (.cells #[] 3)) from (Below.refl _ _).alloc (Nat.le_refl _) _) hb5)
    obtain ⟨A5, c5, rfl, _, _, _⟩ := ho5.form
    rw [HN.out] at HO5 ⊢
    clear ho5 hb5
    go_wp2_with fail
    go_loopw [4] (fun i wr => ∃ (k m : Nat) (vs : List Value), k = m + 1 ∧ (k ≤ n ∨ k = 1) ∧ i = .int .i64 k ∧ OwnsR wr w.heap.size (.slice A5 n c5) vs (sortTo L m) ∧ Below w.heap.size w wr) (fun i _ => n - (Go.RowKit.intOf i).toNat)
    case atStart => exact ⟨1, 0, vs5, rfl, .inr rfl, rfl, HO5.out, HB5.out⟩
    case round =>
      obtain ⟨k, m, vs, hkm, hkn, rfl, hown, hbel⟩ := hrel
      obtain ⟨W0, rfl⟩ : ∃ W, W = wr := ⟨_, rfl⟩
      have HOW := Lib.hid hown
      have HBW := Lib.hid hbel
      have HKM := Lib.hid hkm
      clear hown hbel hkm
      by_cases hlt : k < n
      · obtain ⟨Z, HZ⟩ : ∃ Z, Hid (sinkL k (sortTo L m) = Z) := ⟨_, rfl⟩
        have HZ2 : Hid (sortTo L (m + 1) = Z) := by unfold Hid; rw [← HZ.out, HKM.out]; rfl
        have HK1 := Lib.hid (show 1 ≤ k by have := HKM.out; omega)
        clear hkn
        go_wp2_with fail
        go_loopw [5] (fun i wr => ∃ (q : Nat) (vs : List Value) (zs : List (List Int)), q < n ∧ i = .int .i64 q ∧ Hid (zs.length = n) ∧ Hid (sinkL q zs = Z) ∧ OwnsR wr w.heap.size (.slice A5 n c5) vs zs ∧ Below w.heap.size w wr) (fun i _ => (Go.RowKit.intOf i).toNat)
        case atStart => exact ⟨k, vs, sortTo L m, hlt, rfl, HSL.out m, HZ, HOW.out, HBW.out⟩
        case round =>
          obtain ⟨q, vs2, zs, hq, rfl, hzl, hsink, hown2, hbel2⟩ := hrel
          obtain ⟨W1, rfl⟩ : ∃ W, W = wr := ⟨_, rfl⟩
          have HO2 := Lib.hid hown2
          have HB2 := Lib.hid hbel2
          clear hown2 hbel2
          by_cases hpos : 0 < q
          · obtain ⟨p, HP⟩ : ∃ p, Hid (q = p + 1) := ⟨q - 1, by unfold Hid; omega⟩
            have hpq : (q : Int) - 1 = (p : Int) := by have := HP.out; omega
            have hpn : p < n := by have := HP.out; omega
            have hgt : decide ((0 : Int) < (q : Int)) = true := by simp; omega
            obtain ⟨g, off, Ai, ci, xs, Bi, di, ys, rfl, hbg, hx, hy, hrx, hry, hc1, hc2, hf1, hf2, hsw⟩ := HO2.out.pair HP.out (by rw [hzl.out]; exact hq)
            obtain ⟨b, HL⟩ : ∃ b, Hid (lessB xs ys = b) := ⟨_, rfl⟩
            cases b
            · have HDONE : Hid (zs = Z) := by
                have h := hsink.out
                rw [HP.out] at h
                unfold sinkL at h
                rw [hx.out, hy.out, HL.out] at h
                exact h
              clear hsink hf1 hf2
              go_wp2_with fail
              go_quiet ((go_at_call 29; with_reducible exact Calls.quiet_of (sLess_is HL (hrx.out.drewN _) (hry.out.drewN _))))
              go_wp2_with fail
              go_roundw
              case rel => exact ⟨k + 1, m + 1, vs2, by rw [HKM.out], .inl (by omega), by go_num, by rw [HZ2.out, ← HDONE.out]; exact HO2.out.drewN _, bel_drewN HB2.out _⟩
              case measure => simp [Go.RowKit.intOf]; omega
            · have HNEXT : Hid (sinkL p (swapL zs p) = Z) := by
                have h := hsink.out
                rw [HP.out] at h
                unfold sinkL at h
                rw [hx.out, hy.out, HL.out] at h
                exact h
              have HLEN : Hid ((swapL zs p).length = n) := by unfold Hid; rw [swap_len]; exact hzl.out
              clear hsink
              go_wp2_with fail
              go_quiet ((go_at_call 29; with_reducible exact Calls.quiet_of (sLess_is HL (hrx.out.drewN _) (hry.out.drewN _))))
              go_wp2_with fail
              go_roundw
              case rel => exact ⟨p, _, swapL zs p, hpn, by go_num, HLEN, HNEXT, (hsw.out _).choose_spec, ((bel_drewN HB2.out _).setCell (by exact hbg) _).setCell (by exact hbg) _⟩
              case measure => simp [Go.RowKit.intOf]; omega
          · obtain rfl : q = 0 := by omega
            have HDONE : Hid (zs = Z) := hsink.out
            clear hsink
            go_wp2_with fail
            go_quiet (fail)
            go_wp2_with fail
            go_roundw
            case rel => exact ⟨k + 1, m + 1, vs2, by rw [HKM.out], .inl (by omega), by go_num, by rw [HZ2.out, ← HDONE.out]; exact HO2.out.drewN _, bel_drewN HB2.out _⟩
            case measure => simp [Go.RowKit.intOf]; omega
      · have HE : Hid (m = n - 1) := by have := HKM.out; unfold Hid; omega
        have HOE : Hid (OwnsR W0 w.heap.size (.slice A5 n c5) vs R) := by unfold Hid; rw [HFIN.out, ← HE.out]; exact HOW.out
        clear hkn
        go_wp2_with fail
        go_ret
        exact ⟨_, vs, rfl, HOE.out, HBW.out⟩
  · have HF : Hid (issuesOfL t = []) := by
      unfold Hid issuesOfL
      rw [if_neg (fun h => ht (.inl h)), if_neg (fun h => ht (.inr h))]
    have HIN : Hid (inB t 1 2 = false) := by unfold Hid inB; simp; omega
    rw [HF.out]
    clear ht
    go_enter Try.func10, Try.ntmps10
    go_wp2_with fail
    refine (sIn_is HIN _).mono ?_
    rintro e w' ⟨rfl, rfl⟩
    go_wp2_with fail
    go_ret
    exact ⟨_, _, rfl, OwnsR.lit _ _ (Nat.le_refl _), (Below.refl _ _).alloc (Nat.le_refl _) _⟩
end Go.Proofs.Ytfmknllemhdnaaa

namespace Go.Proofs.Ytfmknllemhdnaaa
open Go.RowKit

def FarFrom (o : Option Nat) (us : List Value) : Prop := ∀ u ∈ us, u.ownBlock = none ∨ u.ownBlock ≠ o
theorem OwnsR.kept {w w' : World} {base : Nat} {v : Value} {vs : List Value} {xss : List (List Int)} (h : OwnsR w base v vs xss) {o : Option Nat} (hg : w.grownBy w' o) (hf : FarFrom o (v :: vs)) : OwnsR w' base v vs xss := by
  refine ⟨World.ownsRow.kept h.row hg (hf v List.mem_cons_self), h.sees.1, fun i xs hx => ?_⟩
  obtain ⟨u, h1, h2, h3, h4⟩ := h.sees.2 i xs hx
  exact ⟨u, h1, h2.kept hg (hf u (List.mem_cons_of_mem _ (List.mem_of_getElem? h1))), h3, h4⟩
/-- No block of the list's lies behind the world. -/
theorem OwnsR.lt {w : World} {base : Nat} {v : Value} {vs : List Value} {xss : List (List Int)} (h : OwnsR w base v vs xss) : ∀ u ∈ v :: vs, ∀ k, u.ownBlock = some k → base ≤ k ∧ k < w.heap.size := by
  intro u hu k hk
  rcases List.mem_cons.1 hu with rfl | hu
  · exact World.ownsRow.lt h.row k hk
  · obtain ⟨i, hi, rfl⟩ := List.mem_iff_getElem.1 hu
    have hil : i < xss.length := by have := h.len; omega
    obtain ⟨v, h1, h2, _⟩ := h.sees.2 i xss[i] (List.getElem?_eq_getElem hil)
    rw [List.getElem?_eq_getElem hi] at h1
    rw [Option.some.inj h1] at hk
    exact World.ownsRow.lt h2 k hk
theorem far_next {o o' : Option Nat} {us : List Value} {S : Nat} (h : FarFrom o us) (hlt : ∀ u ∈ us, ∀ k, u.ownBlock = some k → k < S) (ho : o' = o ∨ o' = some S) : FarFrom o' us := by
  intro u hu
  rcases ho with rfl | rfl
  · exact h u hu
  · cases e : u.ownBlock with
    | none => exact .inl rfl
    | some k =>
      right
      intro e2
      have := hlt u hu k e
      injection e2 with e3
      omega
theorem far_below {S : Nat} {us : List Value} (h : ∀ u ∈ us, ∀ k, u.ownBlock = some k → S < k) : FarFrom (some S) us := by
  intro u hu
  cases e : u.ownBlock with
  | none => exact .inl rfl
  | some k =>
    right
    intro e2
    have := h u hu k e
    injection e2 with e3
    omega
theorem OwnsR.elemO {w : World} {base n c : Nat} {A : Option Addr} {vs : List Value} {xss : List (List Int)} (h : OwnsR w base (.slice A n c) vs xss) {i : Nat} (hi : i < xss.length) :
    ∃ g off Ai ci xs, A = some ⟨g, off, none⟩ ∧ w.cell? ⟨g, off + i, none⟩ = some (.slice Ai xs.length ci) ∧ Hid (xss[i]? = some xs) ∧ Hid (Row w Ai xs.length ci xs) ∧ Hid (Owns w base (.slice Ai xs.length ci) xs) ∧ xs.length ≤ 300 ∧
      Hid (.slice Ai xs.length ci ∈ vs) := by
  rcases h.row.2 with ⟨hv, hl⟩ | ⟨g, cap, cur, hv, hb, hg, hn, hm, hcs, ht⟩
  · have := h.len; omega
  · simp only [Value.slice.injEq] at hv
    obtain ⟨rfl, _, rfl⟩ := hv
    obtain ⟨v, h1, h2, h3, _⟩ := h.sees.2 i xss[i] (List.getElem?_eq_getElem hi)
    obtain ⟨Ai, ci, rfl, _, _, _, _⟩ := h2.form
    refine ⟨g, 0, Ai, ci, xss[i], rfl, ?_, List.getElem?_eq_getElem hi, Owns.row h2 (by omega), h2, h3, List.mem_of_getElem? h1⟩
    rw [Nat.mul_one] at ht
    have hil : i < vs.length := by rw [h.len]; exact hi
    have e : cur[i]? = some (.slice Ai xss[i].length ci) := by
      have h4 : (cur.toList.take vs.length)[i]? = vs[i]? := by rw [ht]
      rw [List.getElem?_take_of_lt hil, h1] at h4
      simpa using h4
    simp [World.cell?, hg, e]

def keptTo (t : Int) (L : List (List Int)) (k : Nat) : List (List Int) := (L.take k).filter (isPartB t)
def partitionsL (t : Int) : List (List Int) := (issuesOfL t).filter (isPartB t)
theorem kept_yes {t : Int} {L : List (List Int)} {k : Nat} {x : List Int} (hx : Hid (L[k]? = some x)) (h : Hid (isPartB t x = true)) : keptTo t L (k + 1) = keptTo t L k ++ [x] := by
  unfold keptTo; rw [List.take_add_one, hx.out, List.filter_append]; simp [h.out]
theorem kept_no {t : Int} {L : List (List Int)} {k : Nat} {x : List Int} (hx : Hid (L[k]? = some x)) (h : Hid (isPartB t x = false)) : keptTo t L (k + 1) = keptTo t L k := by
  unfold keptTo; rw [List.take_add_one, hx.out, List.filter_append]; simp [h.out]
theorem kept_len (t : Int) (L : List (List Int)) (k : Nat) : (keptTo t L k).length ≤ L.length := by
  unfold keptTo
  have := List.length_filter_le (isPartB t) (L.take k)
  rw [List.length_take] at this
  omega
theorem issuesOf_len (t : Int) : (issuesOfL t).length ≤ 65536 := by
  by_cases ht : t = 1 ∨ t = 2
  · obtain ⟨al, L, _, _, _, h1, h2, _⟩ := issues_set ht
    rw [h1]
    unfold sortL
    rw [sortTo_len]; exact h2
  · unfold issuesOfL
    rw [if_neg (fun h => ht (.inl h)), if_neg (fun h => ht (.inr h))]
    simp
set_option maxRecDepth 100000 in
set_option maxHeartbeats 8000000 in
theorem sPartitionsOf (t : Int) (w : World) : Calls Try.prog 19 #[.int .i64 t] w (OwnR (partitionsL t) w) := by
  obtain ⟨L, HL⟩ : ∃ L, Hid (issuesOfL t = L) := ⟨_, rfl⟩
  have HS : Hid (∀ w, Calls Try.prog 10 #[.int .i64 t] w (OwnR L w)) := fun w => by rw [← HL.out]; exact sIssuesOf t w
  have hlen := issuesOf_len t
  have HFIN : Hid (partitionsL t = keptTo t L L.length) := by unfold Hid partitionsL keptTo; rw [HL.out, List.take_length]
  rw [HL.out] at hlen
  obtain ⟨R, HR⟩ : ∃ R, Hid (partitionsL t = R) := ⟨_, rfl⟩
  rw [HR.out] at HFIN ⊢
  clear HR HL
  have HB0 : Hid (Below w.heap.size w (w.alloc (.cells #[] 29))) := (Below.refl _ _).alloc (Nat.le_refl _) _
  go_enter Try.func19, Try.ntmps19
  go_wp2_with fail
  refine (HS.out _).mono ?_
  rintro e w5 ⟨v5, vs5, rfl, ho5, hb5⟩
  have HO5 : Hid (OwnsR w5 w.heap.size v5 vs5 L) := ho5.base (by rw [World.size_alloc]; omega)
  have HF5 : Hid (FarFrom (some w.heap.size) (v5 :: vs5)) := far_below fun u hu k hk => by have := (ho5.lt u hu k hk).1; rw [World.size_alloc] at this; omega
  have HOUT : Hid (OwnsR w5 w.heap.size (.slice (some ⟨w.heap.size, 0, none⟩) 0 0) [] []) := (OwnsR.lit w w.heap.size (Nat.le_refl _)).below hb5
  have HB5 := Lib.hid (bel_trans HB0.out hb5)
  obtain ⟨A5, c5, rfl, _, _, _⟩ := ho5.form
  clear ho5 hb5 HS HB0
  go_wp2_with fail
  go_loopw [3, 5] (fun v i wr => ∃ (k : Nat) (vs : List Value), k ≤ L.length ∧ i = .int .i64 k ∧ OwnsR wr w.heap.size v vs (keptTo t L k) ∧ OwnsR wr w.heap.size (.slice A5 L.length c5) vs5 L ∧ FarFrom v.ownBlock (.slice A5 L.length c5 :: vs5) ∧ Below w.heap.size w wr) (fun _ i _ => L.length - (Go.RowKit.intOf i).toNat)
  case atStart => exact ⟨0, [], Nat.zero_le _, rfl, HOUT.out, HO5.out, HF5.out, HB5.out⟩
  case round =>
    obtain ⟨k, vs, hk, rfl, hown, hlist, hfar, hbel⟩ := hrel
    obtain ⟨W0, rfl⟩ : ∃ W, W = wr := ⟨_, rfl⟩
    have HO := Lib.hid hown
    have HLI := Lib.hid hlist
    have HFA := Lib.hid hfar
    have HBW := Lib.hid hbel
    have hkl := kept_len t L k
    have hszW := hbel.size
    clear hown hlist hfar hbel
    by_cases hlt : k < L.length
    · obtain ⟨g, off, Ai, ci, x, rfl, hcell, hx, hrow, hox, hx300, hmem⟩ := HLI.out.elemO hlt
      obtain ⟨b, HT⟩ : ∃ b, Hid (isPartB t x = b) := ⟨_, rfl⟩
      cases b
      · have HN := Lib.hid (kept_no hx HT)
        go_wp2_with fail
        refine (sIsPart_is HT hrow.out).mono ?_
        rintro e w' ⟨rfl, q, rfl⟩
        go_wp2_with fail
        go_roundw
        case rel => exact ⟨k + 1, vs, by omega, by go_num, by rw [HN.out]; exact HO.out.drewN _, HLI.out.drewN _, HFA.out, bel_drewN HBW.out _⟩
        case measure => simp [Go.RowKit.intOf]; omega
      · have HN := Lib.hid (kept_yes hx HT)
        obtain ⟨ks, HKS⟩ : ∃ ks, Hid (keptTo t L k = ks) := ⟨_, rfl⟩
        rw [HKS.out] at HO HN hkl
        go_wp2_with fail
        refine (sIsPart_is HT hrow.out).mono ?_
        rintro e w' ⟨rfl, q, rfl⟩
        have hszd : w.heap.size ≤ (W0.drewN q).heap.size := hszW
        have HOX : Hid (Owns (W0.drewN q) w.heap.size (.slice Ai x.length ci) x) := hox.out
        have HOD := Lib.hid (HO.out.drewN q)
        have HFX := Lib.hid (HFA.out _ (List.mem_cons_of_mem _ hmem.out))
        go_wp2_with (at_builtin; refine wp_appendR4 (W := W0.drewN q) rfl _ _ rfl w.heap.size u3 vs ks rfl HOD.out (.slice Ai x.length ci) x HOX.out hx300 HFX.out rfl (by omega) (by exact hszd) ?_; intro v' w' hown' hgrow hblk)
        have hb' := below_appendR (bel_drewN HBW.out q) hszd HOD.out (Nat.le_refl _) hgrow
        have hlist' := ((HLI.out.drewN q).below ((Below.refl _ _).alloc (Nat.le_refl _) _)).kept hgrow HFA.out
        have hfar' := far_next HFA.out (fun u hu k hk => by have := (HLI.out.lt u hu k hk).2; show k < (W0.drewN q).heap.size + 1; have e : (W0.drewN q).heap.size = W0.heap.size := rfl; omega) hblk
        go_roundw
        case rel => exact ⟨k + 1, _, by omega, by go_num, by rw [HN.out]; exact hown', hlist', hfar', hb'⟩
        case measure => simp [Go.RowKit.intOf]; omega
    · obtain rfl : k = L.length := by omega
      have HE : Hid (OwnsR W0 w.heap.size u3 vs R) := by unfold Hid; rw [HFIN.out]; exact HO.out
      go_wp2_with fail
      go_ret
      exact ⟨_, vs, rfl, HE.out, HBW.out⟩
end Go.Proofs.Ytfmknllemhdnaaa

namespace Go.Proofs.Ytfmknllemhdnaaa
open Go.RowKit

theorem state_miss {t : Int} {xs : List Int} {k : Nat} {x : Int} (hx : Hid (xs[k]? = some x)) (h : setOkB t x = false) : stateB t xs = false := by
  unfold stateB
  have : xs.all (setOkB t) = false := by rw [List.all_eq_false]; exact ⟨x, elem_mem hx, by rw [h]; simp⟩
  rw [this]; rfl
def allTo6 (t : Int) (xs : List Int) (k : Nat) : Prop := ∀ i x, i < k → xs[i]? = some x → setOkB t x = true
theorem allTo6_next {t : Int} {xs : List Int} {k : Nat} {x : Int} (h : allTo6 t xs k) (hx : Hid (xs[k]? = some x)) (hs : setOkB t x = true) : allTo6 t xs (k + 1) := fun i y hi hy => by
  by_cases e : i = k
  · subst e
    have := hx.out
    rw [this] at hy; cases hy; exact hs
  · exact h i y (by omega) hy
theorem allTo6_end {t : Int} {xs : List Int} (h : allTo6 t xs xs.length) : ∀ x ∈ xs, setOkB t x = true := fun x hx => by
  obtain ⟨i, hi, rfl⟩ := List.mem_iff_getElem.1 hx
  exact h i _ hi (List.getElem?_eq_getElem hi)
theorem state_end {t : Int} {xs : List Int} (h : ∀ x ∈ xs, setOkB t x = true) : stateB t xs = (inB t 1 3 && decide (xs.length ≤ 70)) := by
  unfold stateB
  rw [List.all_eq_true.2 h, Bool.true_and]; rfl
theorem sIn_is6 {n a b : Int} {v : Bool} (h : Hid (inB n a b = v)) (w : World) : Calls Try.prog 26 #[.int .i64 n, .int .i64 a, .int .i64 b] w fun e w' => e = .returned (.bool v) ∧ w = w' :=
  (sIn n a b w).mono fun _ _ ⟨he, hw⟩ => ⟨he.trans (ret_bool h.out), hw⟩
theorem answer_no {t u : Int} {xs : List Int} (h : isPartB t xs = false) : answerI t xs u = -1 := by unfold answerI; rw [h]; rfl
theorem answer_out {t u : Int} {xs : List Int} (h : inB u 0 (worldsOf t - 1) = false) : answerI t xs u = -1 := by
  unfold answerI
  unfold inB at h
  have := of_decide_eq_false h
  rw [decide_eq_false (by omega), Bool.and_false]; rfl
theorem answer_at {t : Int} {xs : List Int} {u k : Nat} {x : Int} (h : isPartB t xs = true) (hu : (u : Int) < worldsOf t) (hx : Hid (xs[k]? = some x)) (hn : ∀ i y, i < k → xs[i]? = some y → hasW y u = false) (hy : hasW x u = true) : answerI t xs u = x := by
  unfold answerI
  rw [h, decide_eq_true (by omega), Int.toNat_natCast]
  have : (xs.find? fun x => hasW x u) = some x := by
    rw [List.find?_eq_some_iff_getElem]
    have hlt := elem_lt hx
    refine ⟨hy, k, hlt, ?_, fun j hj => ?_⟩
    · have := hx.out
      rw [List.getElem?_eq_getElem hlt] at this
      exact Option.some.inj this
    · have := hn j _ hj (List.getElem?_eq_getElem (by omega))
      simpa using this
  show (xs.find? fun x => hasW x u).getD (-1) = x
  rw [this]; rfl
theorem answer_none {t : Int} {xs : List Int} {u : Nat} (h : isPartB t xs = true) (hu : u < nWorlds t) : ¬ ∀ i y, i < xs.length → xs[i]? = some y → hasW y u = false := fun hn => by
  obtain ⟨x, hx, hw, _⟩ := part_unique h hu
  obtain ⟨i, hi, rfl⟩ := List.mem_iff_getElem.1 hx
  rw [hn i _ hi (List.getElem?_eq_getElem hi)] at hw; cases hw
theorem sBoth6 {a b g : Int} (h : Hid (andI a b = g)) (ha : 0 ≤ a) (ha2 : a < 256) (hb : 0 ≤ b) (hb2 : b < 256) (w : World) :
    Calls Try.prog 52 #[.int .i64 a, .int .i64 b] w fun e w' => e = .returned (.int .i64 g) ∧ ∃ n, w' = w.drewN n :=
  (sBothS a b ha ha2 hb hb2 w).mono fun _ _ ⟨he, hw⟩ => ⟨he.trans (ret_int h.out), hw⟩
def outTo (a b : List Int) (k : Nat) : List Int := (a.take k).map fun x => joinN (a ++ b) (a ++ b).length x
theorem outTo_next {a b : List Int} {k : Nat} {x : Int} (hx : Hid (a[k]? = some x)) : outTo a b (k + 1) = outTo a b k ++ [joinN (a ++ b) (a ++ b).length x] := by unfold outTo; rw [take_snoc hx, List.map_append]; rfl
theorem outTo_len (a b : List Int) (k : Nat) : (outTo a b k).length ≤ a.length := by unfold outTo; rw [List.length_map, List.length_take]; omega
theorem coarser_nil (w : World) : Owns (w.alloc (.cells #[] 3)) w.heap.size (.slice (some ⟨w.heap.size, 0, none⟩) 0 0) [] := Owns.lit _ _ [] (Nat.le_refl _) (by simp [maxLen])
end Go.Proofs.Ytfmknllemhdnaaa
