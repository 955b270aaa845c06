/-
  What the proofs of this seat's statements share (PartD).
-/
import Derived.Test.YtkjjpleedobkdaaU15
import Derived.Test.YtkjjpleedobkdaaU5
import Derived.Test.YtkjjpleedobkdaaU7

namespace Go.Proofs.Ytkjjpleedobkdaa
open Go.RowKit

def AskPost (g u : Nat) (w : World) (e : Ending) (w' : World) : Prop :=
  ∃ (v : Value) (xs : List Int), e = .returned v ∧ Owns w' w.heap.size v xs ∧ xs.length ≤ 257 ∧ Rd w' g u ∧ w.grownBy w' (some g)
set_option maxRecDepth 100000 in
set_option maxHeartbeats 4000000 in
theorem asked_any (g u : Nat) (t n : Int) (w : World) (hn : n ≤ 1048576) (hn0 : 0 ≤ n) (hu : u ≤ 700000) (hR : Rd w g u) :
    Calls Try.prog 49 #[.pointer (some ⟨g, 0, none⟩), .int .i64 t, .int .i64 n] w (AskPost g (u + 100) w) := by
  have HR := Lib.hid hR
  have HLT := Lib.hid hR.lt
  have HL := Lib.hid (Owns.lit w w.heap.size [] (Nat.le_refl _) (by simp [maxLen]))
  clear hR
  go_enter Try.func49, Try.ntmps49
  go_wp2_with fail
  refine (pick_any g u _ _ (by omega) (by omega) (by omega) (by exact HR.out.alloc _)).mono ?_
  rintro e w1 ⟨k0, rfl, hk0, hk1, hr, hg⟩
  have hkk := hk1 (by omega)
  have HR1 := Lib.hid hr
  have HG1 := Lib.hid ((grown_alloc (World.grownBy.refl w (some g)) _).trans hg)
  have HO1 := Lib.hid (owns_grown HL.out hg HLT.out)
  clear hr hg hk1 HL
  go_wp2_with fail
  go_loopw [7, 8] (fun v q wr => ∃ (k : Nat) (ys : List Int), k ≤ 4 ∧ q = .int .i64 k ∧ Hid (ys.length + k ≤ 4) ∧ Owns wr w.heap.size v ys ∧ Rd wr g (u + 1 + 8 * ys.length) ∧ w.grownBy wr (some g)) (fun _ q _ => (intOf q).toNat)
  case atStart => exact ⟨k0.toNat, [], by omega, by rw [show ((k0.toNat : Nat) : Int) = k0 by omega], by unfold Hid; simp; omega, HO1.out, HR1.out, HG1.out⟩
  case round =>
    obtain ⟨k, ys, hk, rfl, hlen, hown, hrd, hgr⟩ := hrel
    have HOW := Lib.hid hown
    have HRD := Lib.hid hrd
    have HGR := Lib.hid hgr
    clear hown hrd hgr
    by_cases hpos : 0 < k
    · have hlen2 := hlen.out
      have hgt : decide ((0 : Int) < (k : Int)) = true := by simp; omega
      go_wp2_with fail
      refine (set_any g _ t 0 _ (by omega) (by omega) (by omega) HRD.out).mono ?_
      rintro e w2 ⟨x, rfl, hx0, hx1, hr, hg⟩
      have HR2 := Lib.hid hr
      have HG2 := Lib.hid (HGR.out.trans hg)
      have HO2 := Lib.hid (owns_grown HOW.out hg HLT.out)
      have hs2 : w.heap.size ≤ w2.heap.size := HG2.out.size
      clear hr hg
      go_wp2_with (at_builtin; refine wp_append1 (W := w2) rfl _ _ rfl w.heap.size u7 ys rfl HO2.out x rfl (by omega) hs2 ?_; intro v' w' hown' hgrow)
      have hfin := rd_append HR2.out HG2.out HO2.out (Nat.le_refl _) HLT.out hgrow
      go_roundw
      case rel =>
        refine ⟨k - 1, ys ++ [x], by omega, by rw [show ((k - 1 : Nat) : Int) = (k : Int) - 1 by omega], by unfold Hid; simp; omega, hown', ?_, hfin.2⟩
        exact hfin.1.more (by simp; omega)
      case measure => simp [intOf]; omega
    · obtain rfl : k = 0 := by omega
      have hlen2 := hlen.out
      obtain ⟨A1, c1, rfl, _, _, _, _⟩ := HOW.out.form
      have HRW := Lib.hid (Owns.row HOW.out (by omega))
      have hszr := HGR.out.size
      go_wp2_with fail
      refine (odd_any g _ n _ hn hn0 (by omega) HRD.out).mono ?_
      rintro e w3 ⟨b, rfl, hr, hg⟩
      have HR3 := Lib.hid hr
      have HG3 := Lib.hid (HGR.out.trans hg)
      have HO3 := Lib.hid (owns_grown HOW.out hg HLT.out)
      have hs3 : w.heap.size ≤ w3.heap.size := HG3.out.size
      clear hr hg
      cases b
      · go_wp2_with fail
        have HRW3 := Lib.hid (Owns.row HO3.out (by omega))
        refine (sAsksOf t _ _ _ _ _ HRW3.out).mono ?_
        rintro e w4 ⟨v, rfl, ho, hb⟩
        have hal := asks_len t ys
        have HO4 := Lib.hid (ho.base (base' := w.heap.size) hs3)
        have HR4 := Lib.hid (HR3.out.below hb)
        have HG4 := Lib.hid (grown_below HG3.out hb)
        clear ho hb
        go_wp2_with fail
        go_ret
        exact ⟨_, _, rfl, HO4.out, by omega, HR4.out.more (by omega), HG4.out⟩
      · go_wp2_with fail
        refine (issue_any g _ t _ _ (by omega) (by omega) (by omega) HR3.out).mono ?_
        rintro e w4 ⟨v, xs, rfl, ho, hlen4, _, hr, hg⟩
        have HO4 := Lib.hid (ho.base (base' := w.heap.size) hs3)
        have HR4 := Lib.hid hr
        have HG4 := Lib.hid (HG3.out.trans hg)
        clear ho hr hg
        go_wp2_with fail
        go_ret
        exact ⟨_, xs, rfl, HO4.out, hlen4, HR4.out.more (by omega), HG4.out⟩

def DrawA (w : World) (e : Ending) (w' : World) : Prop :=
  ∃ (t : Int) (v : Value) (xs : List Int), e = .returned (.tuple #[.int .i64 t, v]) ∧ -1 ≤ t ∧ t ≤ 4 ∧ Owns w' w.heap.size v xs ∧ xs.length ≤ 257 ∧ Below w.heap.size w w'
def DrawAA (w : World) (e : Ending) (w' : World) : Prop :=
  ∃ (t : Int) (v : Value) (xs : List Int) (v2 : Value) (ys : List Int), e = .returned (.tuple #[.int .i64 t, v, v2]) ∧ -1 ≤ t ∧ t ≤ 4 ∧ Owns w' w.heap.size v xs ∧ xs.length ≤ 257 ∧ Owns w' w.heap.size v2 ys ∧ ys.length ≤ 257 ∧ Below w.heap.size w w'
def DrawAU (w : World) (e : Ending) (w' : World) : Prop :=
  ∃ (t : Int) (v : Value) (xs : List Int) (u : Int), e = .returned (.tuple #[.int .i64 t, v, .int .i64 u]) ∧ -1 ≤ t ∧ t ≤ 4 ∧ Owns w' w.heap.size v xs ∧ xs.length ≤ 257 ∧ -1 ≤ u ∧ u ≤ 9 ∧ Below w.heap.size w w'
def DrawN (w : World) (e : Ending) (w' : World) : Prop := ∃ t : Int, e = .returned (.int .i64 t) ∧ 0 ≤ t ∧ t ≤ 4 ∧ Below w.heap.size w w'

set_option maxHeartbeats 1000000 in
theorem drawIsPartition_any (A : Option Addr) (nn c : Nat) (zs : List Int) (w : World) (hn : nn = zs.length) (hc : nn ≤ c) (hm : c ≤ maxLen) (hr : ∀ z ∈ zs, 0 ≤ z ∧ z ≤ 255) (hA : Nums .u8 w A zs) :
    Calls Try.prog 13 #[.slice A nn c] w (DrawA w) := by
  have HO := Lib.hid (open_any A nn c zs w hn hc hm hr hA)
  clear hn hc hm hr hA
  go_enter Try.func13, Try.ntmps13
  go_wp2_with fail
  refine HO.out.mono ?_
  rintro e w1 ⟨rfl, hrd, hb⟩
  have HR := Lib.hid hrd
  have HB := Lib.hid hb
  clear hrd hb
  go_wp2_with fail
  refine (things_any _ 0 _ _ (by omega) (by omega) (by omega) HR.out).mono ?_
  rintro e w2 ⟨t, rfl, ht0, ht1, hr, hg⟩
  have HR2 := Lib.hid hr
  have HB2 := Lib.hid (below_grown HB.out hg HB.out.size (Nat.le_refl _))
  clear hg hr
  go_wp2_with fail
  refine (asked_any _ _ _ _ _ (by omega) (by omega) (by omega) HR2.out).mono ?_
  rintro e w3 ⟨v, xs, rfl, ho, hlen, _, hg⟩
  have HB3 := Lib.hid (below_grown HB2.out hg HB2.out.size (Nat.le_refl _))
  have HO3 := Lib.hid (ho.base (base' := w.heap.size) HB2.out.size)
  clear hg ho
  go_wp2_with fail
  go_ret2
  exact ⟨t, _, xs, rfl, ht0, ht1, HO3.out, hlen, HB3.out⟩

set_option maxHeartbeats 1000000 in
theorem drawAsksOf_any (A : Option Addr) (nn c : Nat) (zs : List Int) (w : World) (hn : nn = zs.length) (hc : nn ≤ c) (hm : c ≤ maxLen) (hr : ∀ z ∈ zs, 0 ≤ z ∧ z ≤ 255) (hA : Nums .u8 w A zs) :
    Calls Try.prog 20 #[.slice A nn c] w (DrawA w) := by
  have HO := Lib.hid (open_any A nn c zs w hn hc hm hr hA)
  clear hn hc hm hr hA
  go_enter Try.func20, Try.ntmps20
  go_wp2_with fail
  refine HO.out.mono ?_
  rintro e w1 ⟨rfl, hrd, hb⟩
  have HR := Lib.hid hrd
  have HB := Lib.hid hb
  clear hrd hb
  go_wp2_with fail
  refine (things_any _ 0 _ _ (by omega) (by omega) (by omega) HR.out).mono ?_
  rintro e w2 ⟨t, rfl, ht0, ht1, hr, hg⟩
  have HR2 := Lib.hid hr
  have HB2 := Lib.hid (below_grown HB.out hg HB.out.size (Nat.le_refl _))
  clear hg hr
  go_wp2_with fail
  refine (odd_any _ _ _ _ (by omega) (by omega) (by omega) HR2.out).mono ?_
  rintro e w3 ⟨b, rfl, hr, hg⟩
  have HR3 := Lib.hid hr
  have HB3 := Lib.hid (below_grown HB2.out hg HB2.out.size (Nat.le_refl _))
  clear hg hr
  cases b
  · go_wp2_with fail
    refine (sets_any _ _ _ _ _ (by omega) (by omega) (by omega) HR3.out).mono ?_
    rintro e w4 ⟨v, xs, rfl, ho, hlen, _, _, hg⟩
    have HB4 := Lib.hid (below_grown HB3.out hg HB3.out.size (Nat.le_refl _))
    have HO4 := Lib.hid (ho.base (base' := w.heap.size) HB3.out.size)
    clear hg ho
    go_wp2_with fail
    go_ret2
    exact ⟨t, _, xs, rfl, ht0, ht1, HO4.out, by omega, HB4.out⟩
  · go_wp2_with fail
    go_ret2
    exact ⟨t, _, [], rfl, ht0, ht1, Owns.lit _ _ [] HB3.out.size (by simp [maxLen]), by simp, HB3.out.alloc HB3.out.size _⟩

set_option maxHeartbeats 2000000 in
theorem drawCoarserOf_any (A : Option Addr) (nn c : Nat) (zs : List Int) (w : World) (hn : nn = zs.length) (hc : nn ≤ c) (hm : c ≤ maxLen) (hr : ∀ z ∈ zs, 0 ≤ z ∧ z ≤ 255) (hA : Nums .u8 w A zs) :
    Calls Try.prog 31 #[.slice A nn c] w (DrawAA w) := by
  have HO := Lib.hid (open_any A nn c zs w hn hc hm hr hA)
  clear hn hc hm hr hA
  go_enter Try.func31, Try.ntmps31
  go_wp2_with fail
  refine HO.out.mono ?_
  rintro e w1 ⟨rfl, hrd, hb⟩
  have HR := Lib.hid hrd
  have HB := Lib.hid hb
  have HLT := Lib.hid hrd.lt
  clear hrd hb
  go_wp2_with fail
  refine (things_any _ 0 _ _ (by omega) (by omega) (by omega) HR.out).mono ?_
  rintro e w2 ⟨t, rfl, ht0, ht1, hr, hg⟩
  have HR2 := Lib.hid hr
  have HB2 := Lib.hid (below_grown HB.out hg HB.out.size (Nat.le_refl _))
  have hlt2 : w.heap.size < w2.heap.size := Nat.lt_of_lt_of_le HLT.out hg.size
  clear hg hr
  go_wp2_with fail
  refine (asked_any _ _ _ _ _ (by omega) (by omega) (by omega) HR2.out).mono ?_
  rintro e w3 ⟨v, xs, rfl, ho, hlen, hr, hg⟩
  have HR3 := Lib.hid hr
  have HB3 := Lib.hid (below_grown HB2.out hg HB2.out.size (Nat.le_refl _))
  have HO3 := Lib.hid ho
  clear hg ho hr
  go_wp2_with fail
  refine (asked_any _ _ _ _ _ (by omega) (by omega) (by omega) HR3.out).mono ?_
  rintro e w4 ⟨v2, ys, rfl, ho, hlen2, hr, hg⟩
  have HB4 := Lib.hid (below_grown HB3.out hg HB3.out.size (Nat.le_refl _))
  have HO4 := Lib.hid ((owns_grown HO3.out hg hlt2).base (base' := w.heap.size) (Nat.le_of_lt hlt2))
  have HO5 := Lib.hid (ho.base (base' := w.heap.size) HB3.out.size)
  clear hg ho hr
  go_wp2_with fail
  go_ret3
  exact ⟨t, _, xs, _, ys, rfl, ht0, ht1, HO4.out, hlen, HO5.out, hlen2, HB4.out⟩

theorem sWorldsOf_is {t v : Int} (h : Hid (worldsOf t = v)) (w : World) : Calls Try.prog 29 #[.int .i64 t] w fun e w' => e = .returned (.int .i64 v) ∧ w = w' :=
  (sWorldsOf t w).mono fun _ _ ⟨he, hw⟩ => ⟨he.trans (ret_int h.out), hw⟩
theorem worlds_cases (t : Int) : worldsOf t = 2 ∨ worldsOf t = 4 ∨ worldsOf t = 8 ∨ worldsOf t = -1 := by
  by_cases h : 1 ≤ t ∧ t ≤ 3
  · have : t = 1 ∨ t = 2 ∨ t = 3 := by omega
    rcases this with rfl | rfl | rfl
    · exact .inl rfl
    · exact .inr (.inl rfl)
    · exact .inr (.inr (.inl rfl))
  · exact .inr (.inr (.inr (worldsOf_bad (by omega))))
set_option maxHeartbeats 4000000 in
theorem drawAnswerIn_any (A : Option Addr) (nn c : Nat) (zs : List Int) (w : World) (hn : nn = zs.length) (hc : nn ≤ c) (hm : c ≤ maxLen) (hr : ∀ z ∈ zs, 0 ≤ z ∧ z ≤ 255) (hA : Nums .u8 w A zs) :
    Calls Try.prog 26 #[.slice A nn c] w (DrawAU w) := by
  have HO := Lib.hid (open_any A nn c zs w hn hc hm hr hA)
  clear hn hc hm hr hA
  go_enter Try.func26, Try.ntmps26
  go_wp2_with fail
  refine HO.out.mono ?_
  rintro e w1 ⟨rfl, hrd, hb⟩
  have HR := Lib.hid hrd
  have HB := Lib.hid hb
  have HLT := Lib.hid hrd.lt
  clear hrd hb
  go_wp2_with fail
  refine (things_any _ 0 _ _ (by omega) (by omega) (by omega) HR.out).mono ?_
  rintro e w2 ⟨t, rfl, ht0, ht1, hr, hg⟩
  have HR2 := Lib.hid hr
  have HB2 := Lib.hid (below_grown HB.out hg HB.out.size (Nat.le_refl _))
  have hlt2 : w.heap.size < w2.heap.size := Nat.lt_of_lt_of_le HLT.out hg.size
  clear hg hr
  go_wp2_with fail
  refine (asked_any _ _ _ _ _ (by omega) (by omega) (by omega) HR2.out).mono ?_
  rintro e w3 ⟨v, xs, rfl, ho, hlen, hr, hg⟩
  have HR3 := Lib.hid hr
  have HB3 := Lib.hid (below_grown HB2.out hg HB2.out.size (Nat.le_refl _))
  have HO3 := Lib.hid ho
  clear hg ho hr
  go_wp2_with fail
  have hwc := worlds_cases t
  rcases hwc with hw | hw | hw | hw
  all_goals
    have HW := Lib.hid hw
    clear hw
    refine (sWorldsOf_is HW _).mono ?_
    rintro e w' ⟨rfl, rfl⟩
    go_wp2_with fail
    refine (pick_any _ _ _ _ (by omega) (by omega) (by omega) HR3.out).mono ?_
    rintro e w4 ⟨k, rfl, hk0, hk1, hr, hg⟩
    have hkk := hk1 (by omega)
    have HR4 := Lib.hid hr
    have HB4 := Lib.hid (below_grown HB3.out hg HB3.out.size (Nat.le_refl _))
    have HO4 := Lib.hid (owns_grown HO3.out hg hlt2)
    clear hr hg hk1
    go_wp2_with fail
    refine (pick_any _ _ _ _ (by omega) (by omega) (by omega) HR4.out).mono ?_
    rintro e w5 ⟨q, rfl, hq0, hq1, hr, hg⟩
    have hqq := hq1 (by omega)
    have HB5 := Lib.hid (below_grown HB4.out hg HB4.out.size (Nat.le_refl _))
    have HO5 := Lib.hid ((owns_grown HO4.out hg hlt2).base (base' := w.heap.size) (Nat.le_of_lt hlt2))
    clear hr hg hq1
    by_cases h19 : q = 19
    · subst h19
      go_wp2_with fail
      go_ret3
      exact ⟨t, _, xs, _, rfl, ht0, ht1, HO5.out, hlen, by omega, by omega, HB5.out⟩
    · have hz : q.tdiv 19 = 0 := by rw [Int.tdiv_eq_ediv_of_nonneg hq0]; omega
      go_wp2_with fail
      go_ret3
      exact ⟨t, _, xs, _, rfl, ht0, ht1, HO5.out, hlen, by omega, by omega, HB5.out⟩
set_option maxHeartbeats 1000000 in
theorem drawPartitionsOf_any (A : Option Addr) (nn c : Nat) (zs : List Int) (w : World) (hn : nn = zs.length) (hc : nn ≤ c) (hm : c ≤ maxLen) (hr : ∀ z ∈ zs, 0 ≤ z ∧ z ≤ 255) (hA : Nums .u8 w A zs) :
    Calls Try.prog 37 #[.slice A nn c] w (DrawN w) := by
  have HO := Lib.hid (open_any A nn c zs w hn hc hm hr hA)
  clear hn hc hm hr hA
  go_enter Try.func37, Try.ntmps37
  go_wp2_with fail
  refine HO.out.mono ?_
  rintro e w1 ⟨rfl, hrd, hb⟩
  have HR := Lib.hid hrd
  have HB := Lib.hid hb
  clear hrd hb
  go_wp2_with fail
  refine (pick_any _ _ _ _ (by omega) (by omega) (by omega) HR.out).mono ?_
  rintro e w4 ⟨k, rfl, hk0, hk1, _, hg⟩
  have hkk := hk1 (by omega)
  have HB4 := Lib.hid (below_grown HB.out hg HB.out.size (Nat.le_refl _))
  clear hg hk1
  go_wp2_with fail
  go_ret
  exact ⟨k, rfl, hk0, by omega, HB4.out⟩
end Go.Proofs.Ytkjjpleedobkdaa
