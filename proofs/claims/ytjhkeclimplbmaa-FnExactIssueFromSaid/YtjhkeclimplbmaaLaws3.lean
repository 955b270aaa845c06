/-
  Walks of the laws of WorldsOf, SetOk, StatementOf, over whatever is drawn.
-/
import Derived.Test.YtjhkeclimplbmaaDraw
import Derived.Test.YtjhkeclimplbmaaStatement
import Derived.OpenShut
namespace Go.Proofs.Ytjhkeclimplbmaa
open Go.RowKit

theorem bytes_range {xs : List Int} (h : ∀ x ∈ xs, (Lit.int .u8 x).wf = true) : ∀ z ∈ xs, 0 ≤ z ∧ z ≤ 255 := fun z hz => bounds_u8 (h z hz)
def Draw1 (lo hi : Int) (w : World) (e : Ending) (w' : World) : Prop := ∃ k : Int, e = .returned (.int .i64 k) ∧ lo ≤ k ∧ k ≤ hi ∧ Below w.heap.size w w'
def Draw2 (w : World) (e : Ending) (w' : World) : Prop := ∃ t s : Int, e = .returned (.tuple #[.int .i64 t, .int .i64 s]) ∧ -1 ≤ t ∧ t ≤ 4 ∧ -1 ≤ s ∧ s ≤ 256 ∧ Below w.heap.size w w'

set_option maxHeartbeats 400000 in
theorem drawWorldsOf_any (A : Option Addr) (nn c : Nat) (zs : List Int) (w : World) (hn : nn = zs.length) (hc : nn ≤ c) (hm : c ≤ maxLen) (hr : ∀ z ∈ zs, 0 ≤ z ∧ z ≤ 255) (hA : Nums .u8 w A zs) :
    Calls Try.prog 17 #[.slice A nn c] w (Draw1 (-1) 5 w) := by
  have HO := Lib.hid (open_any A nn c zs w hn hc hm hr hA)
  clear hn hc hm hr hA
  go_enter Try.func17, Try.ntmps17
  go_wp2_with fail
  refine HO.out.mono ?_
  rintro e w1 ⟨rfl, hrd, hb⟩
  have HR := Lib.hid hrd
  have HB := Lib.hid hb
  clear hrd hb
  go_wp2_with fail
  refine (pick_any _ 0 _ _ (by omega) (by omega) (by omega) HR.out).mono ?_
  rintro e w2 ⟨k, rfl, hk0, hk1, _, hg⟩
  have hk := hk1 (by omega)
  have HB2 := Lib.hid (below_grown HB.out hg HB.out.size (Nat.le_refl _))
  clear hg hk1
  go_wp2_with fail
  go_ret
  exact ⟨_, rfl, by omega, by omega, HB2.out⟩

set_option maxHeartbeats 400000 in
theorem drawSetOk_any (A : Option Addr) (nn c : Nat) (zs : List Int) (w : World) (hn : nn = zs.length) (hc : nn ≤ c) (hm : c ≤ maxLen) (hr : ∀ z ∈ zs, 0 ≤ z ∧ z ≤ 255) (hA : Nums .u8 w A zs) :
    Calls Try.prog 21 #[.slice A nn c] w (Draw2 w) := by
  have HO := Lib.hid (open_any A nn c zs w hn hc hm hr hA)
  clear hn hc hm hr hA
  go_enter Try.func21, Try.ntmps21
  go_wp2_with fail
  refine HO.out.mono ?_
  rintro e w1 ⟨rfl, hrd, hb⟩
  have HR := Lib.hid hrd
  have HB := Lib.hid hb
  clear hrd hb
  go_wp2_with fail
  refine (things_any _ 0 _ _ (by omega) (by omega) (by omega) HR.out).mono ?_
  rintro e w2 ⟨t, rfl, ht0, ht1, hr, hg⟩
  have HR2 := Lib.hid hr
  have HB2 := Lib.hid (below_grown HB.out hg HB.out.size (Nat.le_refl _))
  clear hg hr
  go_wp2_with fail
  refine (set_any _ 2 _ _ _ (by omega) (by omega) (by omega) HR2.out).mono ?_
  rintro e w3 ⟨s, rfl, hs0, hs1, _, hg⟩
  have HB3 := Lib.hid (below_grown HB2.out hg HB2.out.size (Nat.le_refl _))
  clear hg
  go_wp2_with fail
  go_ret2
  exact ⟨t, s, rfl, ht0, ht1, hs0, hs1, HB3.out⟩

set_option maxHeartbeats 400000 in
theorem drawStatementOf_any (A : Option Addr) (nn c : Nat) (zs : List Int) (w : World) (hn : nn = zs.length) (hc : nn ≤ c) (hm : c ≤ maxLen) (hr : ∀ z ∈ zs, 0 ≤ z ∧ z ≤ 255) (hA : Nums .u8 w A zs) :
    Calls Try.prog 40 #[.slice A nn c] w (Draw2 w) := by
  have HO := Lib.hid (open_any A nn c zs w hn hc hm hr hA)
  clear hn hc hm hr hA
  go_enter Try.func40, Try.ntmps40
  go_wp2_with fail
  refine HO.out.mono ?_
  rintro e w1 ⟨rfl, hrd, hb⟩
  have HR := Lib.hid hrd
  have HB := Lib.hid hb
  clear hrd hb
  go_wp2_with fail
  refine (things_any _ 0 _ _ (by omega) (by omega) (by omega) HR.out).mono ?_
  rintro e w2 ⟨t, rfl, ht0, ht1, hr, hg⟩
  have HR2 := Lib.hid hr
  have HB2 := Lib.hid (below_grown HB.out hg HB.out.size (Nat.le_refl _))
  clear hg hr
  go_wp2_with fail
  refine (set_any _ 2 _ _ _ (by omega) (by omega) (by omega) HR2.out).mono ?_
  rintro e w3 ⟨s, rfl, hs0, hs1, _, hg⟩
  have HB3 := Lib.hid (below_grown HB2.out hg HB2.out.size (Nat.le_refl _))
  clear hg
  go_wp2_with fail
  go_ret2
  exact ⟨t, s, rfl, ht0, ht1, hs0, hs1, HB3.out⟩

set_option maxHeartbeats 1000000 in
theorem wWorldsOf (A : Option Addr) (nn c : Nat) (zs : List Int) (w : World) (hn : nn = zs.length) (hc : nn ≤ c) (hm : c ≤ maxLen) (hr : ∀ z ∈ zs, 0 ≤ z ∧ z ≤ 255) (hA : Nums .u8 w A zs) :
    Calls Try.prog 3 #[.slice A nn c] w fun e w' => e = .returned (.bool true) ∧ Below w.heap.size w w' := by
  have HO := Lib.hid (drawWorldsOf_any A nn c zs w hn hc hm hr hA)
  have hm' : nn ≤ 9223372036854775807 := by unfold maxLen at hm; omega
  clear hn hc hm hr hA
  by_cases hl : 1048576 < nn
  · have hd : decide ((1048576 : Int) < (nn : Int)) = true := by simp; omega
    go_enter Try.func3, Try.ntmps3
    go_wp2_with fail
    go_ret
    exact ⟨rfl, Below.refl _ _⟩
  · have hd : decide ((1048576 : Int) < (nn : Int)) = false := by simp; omega
    clear hl
    go_enter Try.func3, Try.ntmps3
    go_wp2_with fail
    refine HO.out.mono ?_
    rintro e w1 ⟨t, rfl, ht0, ht1, hb⟩
    have HB := Lib.hid hb
    clear hb
    by_cases hbad : t < 1 ∨ 3 < t
    · have HW := Lib.hid (worldsOf_bad hbad)
      clear hbad
      go_wp2_with fail
      refine (iWorldsOf _ _).mono ?_
      rintro e w' ⟨rfl, rfl⟩
      rw [HW.out]
      go_wp2_with fail
      refine (sWorldsOf _ _).mono ?_
      rintro e w' ⟨rfl, rfl⟩
      rw [HW.out]
      go_wp2_with fail
      refine (lAlive _).mono ?_
      rintro e w' ⟨rfl, rfl⟩
      go_wp2_with fail
      go_ret
      exact ⟨rfl, HB.out⟩
    · have h : t = 1 ∨ t = 2 ∨ t = 3 := by omega
      clear hbad
      rcases h with rfl | rfl | rfl
      · go_wp2_with fail
        refine (iWorldsOf _ _).mono ?_
        rintro e w' ⟨rfl, rfl⟩
        simp only [worldsOf]
        go_wp2_with fail
        refine (sWorldsOf _ _).mono ?_
        rintro e w' ⟨rfl, rfl⟩
        simp only [worldsOf]
        go_wp2_with fail
        refine (iWorldsOf _ _).mono ?_
        rintro e w' ⟨rfl, rfl⟩
        simp only [worldsOf]
        go_wp2_with fail
        go_ret
        exact ⟨rfl, HB.out⟩
      · go_wp2_with fail
        refine (iWorldsOf _ _).mono ?_
        rintro e w' ⟨rfl, rfl⟩
        simp only [worldsOf]
        go_wp2_with fail
        refine (sWorldsOf _ _).mono ?_
        rintro e w' ⟨rfl, rfl⟩
        simp only [worldsOf]
        go_wp2_with fail
        refine (iWorldsOf _ _).mono ?_
        rintro e w' ⟨rfl, rfl⟩
        simp only [worldsOf]
        go_wp2_with fail
        go_ret
        exact ⟨rfl, HB.out⟩
      · go_wp2_with fail
        refine (iWorldsOf _ _).mono ?_
        rintro e w' ⟨rfl, rfl⟩
        simp only [worldsOf]
        go_wp2_with fail
        refine (sWorldsOf _ _).mono ?_
        rintro e w' ⟨rfl, rfl⟩
        simp only [worldsOf]
        go_wp2_with fail
        go_ret
        exact ⟨rfl, HB.out⟩

set_option maxHeartbeats 1000000 in
theorem wSetOk (A : Option Addr) (nn c : Nat) (zs : List Int) (w : World) (hn : nn = zs.length) (hc : nn ≤ c) (hm : c ≤ maxLen) (hr : ∀ z ∈ zs, 0 ≤ z ∧ z ≤ 255) (hA : Nums .u8 w A zs) :
    Calls Try.prog 4 #[.slice A nn c] w fun e w' => e = .returned (.bool true) ∧ Below w.heap.size w w' := by
  have HO := Lib.hid (drawSetOk_any A nn c zs w hn hc hm hr hA)
  have hm' : nn ≤ 9223372036854775807 := by unfold maxLen at hm; omega
  clear hn hc hm hr hA
  by_cases hl : 1048576 < nn
  · have hd : decide ((1048576 : Int) < (nn : Int)) = true := by simp; omega
    go_enter Try.func4, Try.ntmps4
    go_wp2_with fail
    go_ret
    exact ⟨rfl, Below.refl _ _⟩
  · have hd : decide ((1048576 : Int) < (nn : Int)) = false := by simp; omega
    clear hl
    go_enter Try.func4, Try.ntmps4
    go_wp2_with fail
    refine HO.out.mono ?_
    rintro e w1 ⟨t, s, rfl, ht0, ht1, hs0, hs1, hb⟩
    have HB := Lib.hid hb
    clear hb
    by_cases hbad : t < 1 ∨ 3 < t
    · have HW := Lib.hid (worldsOf_bad hbad)
      have H1 := Lib.hid (setOkB_bad (s := s) hbad)
      have H2 := Lib.hid (setOkB_bad (s := 0) hbad)
      clear hbad
      go_wp2_with fail
      refine (iSetOk_is H1 _).mono ?_
      rintro e w' ⟨rfl, rfl⟩
      go_wp2_with fail
      refine (sSetOk_is H1 _).mono ?_
      rintro e w' ⟨rfl, rfl⟩
      go_wp2_with fail
      refine (iSetOk_is H2 _).mono ?_
      rintro e w' ⟨rfl, rfl⟩
      go_wp2_with fail
      refine (iWorldsOf _ _).mono ?_
      rintro e w' ⟨rfl, rfl⟩
      rw [HW.out]
      go_wp2_with fail
      refine (lAlive _).mono ?_
      rintro e w' ⟨rfl, rfl⟩
      go_wp2_with fail
      go_ret
      exact ⟨rfl, HB.out⟩
    · have htt : 1 ≤ t ∧ t ≤ 3 := by omega
      obtain ⟨h1, h3⟩ := htt
      have H2 : Hid (setOkB t 0 = true) := by
        unfold Hid setOkB; apply decide_eq_true; have := allOf_lt t; omega
      obtain ⟨n, hn⟩ : ∃ n, n = worldsOf t := ⟨_, rfl⟩
      have hnp : 0 < n := by
        rw [hn]; unfold worldsOf
        have : t = 1 ∨ t = 2 ∨ t = 3 := by omega
        rcases this with rfl | rfl | rfl <;> simp
      have hnp' : decide (0 < n) = true := by simp [hnp]
      have HW := Lib.hid hn.symm
      clear hn hbad
      rcases hs : setOkB t s with _ | _
      · have H1 := Lib.hid hs
        clear hs
        go_wp2_with fail
        refine (iSetOk_is H1 _).mono ?_
        rintro e w' ⟨rfl, rfl⟩
        go_wp2_with fail
        refine (sSetOk_is H1 _).mono ?_
        rintro e w' ⟨rfl, rfl⟩
        go_wp2_with fail
        refine (iSetOk_is H2 _).mono ?_
        rintro e w' ⟨rfl, rfl⟩
        go_wp2_with fail
        refine (iWorldsOf _ _).mono ?_
        rintro e w' ⟨rfl, rfl⟩
        rw [HW.out]
        go_wp2_with fail
        refine (lAlive _).mono ?_
        rintro e w' ⟨rfl, rfl⟩
        go_wp2_with fail
        go_ret
        exact ⟨rfl, HB.out⟩
      · have H1 := Lib.hid hs
        have hlt := setOkB_lt hs
        have hall := allOf_lt t
        have H4 : Hid (setOkB t (allOf t - s) = true) := by unfold Hid setOkB; apply decide_eq_true; omega
        obtain ⟨al, hal⟩ : ∃ n, n = allOf t := ⟨_, rfl⟩
        have hal1 : 0 ≤ al ∧ al < 256 := by rw [hal]; exact hall
        rw [← hal] at H4
        have HAL := Lib.hid hal.symm
        obtain ⟨hal2, hal3⟩ := hal1
        clear hs hal hlt hall
        go_wp2_with fail
        refine (iSetOk_is H1 _).mono ?_
        rintro e w' ⟨rfl, rfl⟩
        go_wp2_with fail
        refine (sSetOk_is H1 _).mono ?_
        rintro e w' ⟨rfl, rfl⟩
        go_wp2_with fail
        refine (iSetOk_is H2 _).mono ?_
        rintro e w' ⟨rfl, rfl⟩
        go_wp2_with fail
        refine (iWorldsOf _ _).mono ?_
        rintro e w' ⟨rfl, rfl⟩
        rw [HW.out]
        go_wp2_with fail
        refine (lWhole _ _ h1 h3).mono ?_
        rintro e w' ⟨rfl, rfl⟩
        rw [HAL.out]
        go_wp2_with fail
        refine (iSetOk_is H4 _).mono ?_
        rintro e w' ⟨rfl, rfl⟩
        go_wp2_with fail
        refine (lAlive _).mono ?_
        rintro e w' ⟨rfl, rfl⟩
        go_wp2_with fail
        go_ret
        exact ⟨rfl, HB.out⟩
end Go.Proofs.Ytjhkeclimplbmaa
