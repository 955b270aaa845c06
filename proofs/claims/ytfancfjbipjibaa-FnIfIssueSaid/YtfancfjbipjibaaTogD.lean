/-
  Chapter 2: what is drawn.
-/
import Derived.Test.YtfancfjbipjibaaTogT
import Derived.Test.YtfancfjbipjibaaDrawL
namespace Go.Proofs.Ytfancfjbipjibaa
open Go.RowKit

def TwoPost (g u : Nat) (w : World) (e : Ending) (w' : World) : Prop :=
  ∃ (t : Int) (v1 : Value) (xs : List Int) (v2 : Value) (ys : List Int), e = .returned (.tuple #[.int .i64 t, v1, v2]) ∧ -1 ≤ t ∧ t ≤ 4 ∧ Owns w' w.heap.size v1 xs ∧ xs.length ≤ 257 ∧ Owns w' w.heap.size v2 ys ∧ ys.length ≤ 257 ∧ Rd w' g (u + 120) ∧ w.grownBy w' (some g)
theorem either_len {t : Int} {a b : List Int} : (eitherL t a b).length ≤ 70 := by
  cases h : okTwo t a b
  · rw [either_nil h]; simp
  · obtain ⟨h1, h2⟩ := okTwo_ok h
    exact (issue_ne (either_ok h1 h2)).2

set_option maxRecDepth 100000 in
set_option maxHeartbeats 4000000 in
theorem two_any (g u : Nat) (w : World) (hu : u ≤ 700000) (hR : Rd w g u) :
    Calls Try.prog 55 #[.pointer (some ⟨g, 0, none⟩)] w (TwoPost g u w) := by
  have HR := Lib.hid hR
  have HLT := Lib.hid hR.lt
  clear hR
  go_enter Try.func55, Try.ntmps55
  go_wp2_with fail
  refine (things_any g u _ _ (by omega) (by omega) (by omega) HR.out).mono ?_
  rintro e w1 ⟨t, rfl, ht0, ht1, hr, hg⟩
  have HR1 := Lib.hid hr
  have HG1 := Lib.hid hg
  clear hr hg
  go_wp2_with fail
  refine (issue_any g _ t _ _ (by omega) (by omega) (by omega) HR1.out).mono ?_
  rintro e w2 ⟨v, xs, rfl, ho, hlen, _, hr, hg⟩
  have hlt1 : g < w1.heap.size := Nat.lt_of_lt_of_le HLT.out HG1.out.size
  have HR2 := Lib.hid hr
  have HG2 := Lib.hid (HG1.out.trans hg)
  have HO2 := Lib.hid ho
  clear ho hr hg
  go_wp2_with fail
  refine (issue_any g _ t _ _ (by omega) (by omega) (by omega) HR2.out).mono ?_
  rintro e w3 ⟨v2, ys, rfl, ho, hlen2, _, hr, hg⟩
  have HR3 := Lib.hid hr
  have HG3 := Lib.hid (HG2.out.trans hg)
  have HO3 := Lib.hid (owns_grown HO2.out hg hlt1)
  have HY3 := Lib.hid ho
  have hlt2 : g < w2.heap.size := Nat.lt_of_lt_of_le HLT.out HG2.out.size
  clear ho hr hg HO2
  go_wp2_with fail
  refine (pick_any g _ _ _ (by omega) (by omega) (by omega) HR3.out).mono ?_
  rintro e w4 ⟨k, rfl, hk0, hk1, hr, hg⟩
  have hkk := hk1 (by omega)
  have HR4 := Lib.hid hr
  have HG4 := Lib.hid (HG3.out.trans hg)
  have HO4 := Lib.hid (owns_grown HO3.out hg hlt1)
  have HY4 := Lib.hid (owns_grown HY3.out hg hlt2)
  clear hr hg hk1 HO3 HY3
  have hb1 : w.heap.size ≤ w1.heap.size := HG1.out.size
  have hb2 : w.heap.size ≤ w2.heap.size := HG2.out.size
  obtain ⟨A1, c1, rfl, hc1, hm1, hn1, _⟩ := HO4.out.form
  obtain ⟨A2, c2, rfl, hc2, hm2, hn2, _⟩ := HY4.out.form
  have HN1 := Lib.hid hn1
  have HN2 := Lib.hid hn2
  clear hm1 hm2 hn1 hn2
  have HFIN : Hid (TwoPost g u w (.returned (.tuple #[.int .i64 t, .slice A1 xs.length c1, .slice A2 ys.length c2])) w4) :=
    ⟨t, _, xs, _, ys, rfl, ht0, ht1, HO4.out.base hb1, hlen, HY4.out.base hb2, hlen2, HR4.out.more (by omega), HG4.out⟩
  have HFIN2 : Hid (∀ n, TwoPost g u w (.returned (.tuple #[.int .i64 t, .slice A1 xs.length c1, .slice A2 ys.length c2])) (w4.drewN n)) := fun n =>
    ⟨t, _, xs, _, ys, rfl, ht0, ht1, HO4.out.base hb1, hlen, HY4.out.base hb2, hlen2, HR4.out.more (by omega), grown_drewN HG4.out n⟩
  by_cases hz : k = 0
  · subst hz
    clear hk0 hkk
    by_cases hx : 0 < xs.length
    · have hx1 : decide ((0 : Int) < (xs.length : Int)) = true := decide_eq_true (by omega)
      by_cases hy : 0 < ys.length
      · have hy1 : decide ((0 : Int) < (ys.length : Int)) = true := decide_eq_true (by omega)
        obtain ⟨x, HX⟩ : ∃ x, Hid (issueOkB t xs = x) := ⟨_, rfl⟩
        obtain ⟨y, HY⟩ : ∃ y, Hid (issueOkB t ys = y) := ⟨_, rfl⟩
        cases x
        · go_wp2_with fail
          refine (sIssueOk_is HX _ _ _ _ rfl (by omega) HN1.out).mono ?_
          rintro e w' ⟨rfl, m1, rfl⟩
          go_wp2_with fail
          go_ret3
          exact HFIN2.out _
        · cases y
          · go_wp2_with fail
            refine (sIssueOk_is HX _ _ _ _ rfl (by omega) HN1.out).mono ?_
            rintro e w' ⟨rfl, m2, rfl⟩
            go_wp2_with fail
            refine (sIssueOk_is HY _ _ _ _ rfl (by omega) (by exact HN2.out)).mono ?_
            rintro e w' ⟨rfl, m3, rfl⟩
            go_wp2_with fail
            go_ret3
            exact HFIN2.out _
          · go_wp2_with fail
            refine (sIssueOk_is HX _ _ _ _ rfl (by omega) HN1.out).mono ?_
            rintro e w' ⟨rfl, m4, rfl⟩
            go_wp2_with fail
            refine (sIssueOk_is HY _ _ _ _ rfl (by omega) (by exact HN2.out)).mono ?_
            rintro e w' ⟨rfl, m5, rfl⟩
            have HRA := Lib.hid (Owns.row HO4.out (by omega))
            have HRB := Lib.hid (Owns.row HY4.out (by omega))
            have hel := either_len (t := t) (a := xs) (b := ys)
            go_wp2_with fail
            refine (sEitherIssue t _ _ _ _ _ _ xs ys _ (HRA.out.drewN _) (HRB.out.drewN _)).mono ?_
            rintro e w5 ⟨v, rfl, ho, hb⟩
            have HO5 := Lib.hid (Owns.base (base' := w.heap.size) ho HG4.out.size)
            have HX5 := Lib.hid (Owns.below (w := w4.drewN (m4 + m5)) HO4.out hb)
            have HR5 := Lib.hid (Rd.below (w := w4.drewN (m4 + m5)) HR4.out hb)
            have HG5 := Lib.hid (grown_below (w := w4.drewN (m4 + m5)) (grown_drewN HG4.out _) hb)
            clear ho hb
            go_wp2_with fail
            go_ret3
            exact ⟨t, _, xs, _, _, rfl, ht0, ht1, HX5.out.base hb1, hlen, HO5.out, by omega, HR5.out.more (by omega), HG5.out⟩
      · have hy1 : decide ((0 : Int) < (ys.length : Int)) = false := decide_eq_false (by omega)
        have hy2 : decide (0 < ys.length) = false := decide_eq_false (by omega)
        go_wp2_with fail
        go_ret3
        exact HFIN.out
    · have hx1 : decide ((0 : Int) < (xs.length : Int)) = false := decide_eq_false (by omega)
      have hx2 : decide (0 < xs.length) = false := decide_eq_false (by omega)
      go_wp2_with fail
      go_ret3
      exact HFIN.out
  · have hz' : (k == 0) = false := by simp [hz]
    have HZ := Lib.hid hz
    clear hz
    go_wp2_with fail
    go_ret3
    exact HFIN.out

def DrawTLL (w : World) (e : Ending) (w' : World) : Prop :=
  ∃ (t : Int) (v1 : Value) (xs : List Int) (v2 : Value) (ys : List Int), e = .returned (.tuple #[.int .i64 t, v1, v2]) ∧ -1 ≤ t ∧ t ≤ 4 ∧ Owns w' w.heap.size v1 xs ∧ xs.length ≤ 257 ∧ Owns w' w.heap.size v2 ys ∧ ys.length ≤ 257 ∧ Below w.heap.size w w'
def DrawTL2 (w : World) (e : Ending) (w' : World) : Prop :=
  ∃ (t : Int) (v1 : Value) (xs : List Int), e = .returned (.tuple #[.int .i64 t, v1]) ∧ -1 ≤ t ∧ t ≤ 4 ∧ Owns w' w.heap.size v1 xs ∧ xs.length ≤ 257 ∧ Below w.heap.size w w'

set_option maxHeartbeats 1000000 in
theorem drawBothIssues_any (A : Option Addr) (nn c : Nat) (zs : List Int) (w : World) (hn : nn = zs.length) (hc : nn ≤ c) (hm : c ≤ maxLen) (hr : ∀ z ∈ zs, 0 ≤ z ∧ z ≤ 255) (hA : Nums .u8 w A zs) :
    Calls Try.prog 17 #[.slice A nn c] w (DrawTLL w) := by
  have HO := Lib.hid (open_any A nn c zs w hn hc hm hr hA)
  clear hn hc hm hr hA
  go_enter Try.func17, Try.ntmps17
  go_wp2_with fail
  refine HO.out.mono ?_
  rintro e w1 ⟨rfl, hrd, hb⟩
  have HR := Lib.hid hrd
  have HB := Lib.hid hb
  clear hrd hb
  go_wp2_with fail
  refine (two_any _ 0 _ (by omega) HR.out).mono ?_
  rintro e w2 ⟨t, v1, xs, v2, ys, rfl, ht0, ht1, ho1, hl1, ho2, hl2, _, hg⟩
  have HO1 := Lib.hid (ho1.base (base' := w.heap.size) HB.out.size)
  have HO2 := Lib.hid (ho2.base (base' := w.heap.size) HB.out.size)
  have HB2 := Lib.hid (below_grown HB.out hg HB.out.size (Nat.le_refl _))
  clear hg ho1 ho2
  go_wp2_with fail
  go_ret3
  exact ⟨t, _, xs, _, ys, rfl, ht0, ht1, HO1.out, hl1, HO2.out, hl2, HB2.out⟩

set_option maxHeartbeats 1000000 in
theorem drawEitherIssue_any (A : Option Addr) (nn c : Nat) (zs : List Int) (w : World) (hn : nn = zs.length) (hc : nn ≤ c) (hm : c ≤ maxLen) (hr : ∀ z ∈ zs, 0 ≤ z ∧ z ≤ 255) (hA : Nums .u8 w A zs) :
    Calls Try.prog 27 #[.slice A nn c] w (DrawTLL w) := by
  have HO := Lib.hid (open_any A nn c zs w hn hc hm hr hA)
  clear hn hc hm hr hA
  go_enter Try.func27, Try.ntmps27
  go_wp2_with fail
  refine HO.out.mono ?_
  rintro e w1 ⟨rfl, hrd, hb⟩
  have HR := Lib.hid hrd
  have HB := Lib.hid hb
  clear hrd hb
  go_wp2_with fail
  refine (two_any _ 0 _ (by omega) HR.out).mono ?_
  rintro e w2 ⟨t, v1, xs, v2, ys, rfl, ht0, ht1, ho1, hl1, ho2, hl2, _, hg⟩
  have HO1 := Lib.hid (ho1.base (base' := w.heap.size) HB.out.size)
  have HO2 := Lib.hid (ho2.base (base' := w.heap.size) HB.out.size)
  have HB2 := Lib.hid (below_grown HB.out hg HB.out.size (Nat.le_refl _))
  clear hg ho1 ho2
  go_wp2_with fail
  go_ret3
  exact ⟨t, _, xs, _, ys, rfl, ht0, ht1, HO1.out, hl1, HO2.out, hl2, HB2.out⟩

set_option maxHeartbeats 1000000 in
theorem drawIfIssue_any (A : Option Addr) (nn c : Nat) (zs : List Int) (w : World) (hn : nn = zs.length) (hc : nn ≤ c) (hm : c ≤ maxLen) (hr : ∀ z ∈ zs, 0 ≤ z ∧ z ≤ 255) (hA : Nums .u8 w A zs) :
    Calls Try.prog 30 #[.slice A nn c] w (DrawTLL w) := by
  have HO := Lib.hid (open_any A nn c zs w hn hc hm hr hA)
  clear hn hc hm hr hA
  go_enter Try.func30, Try.ntmps30
  go_wp2_with fail
  refine HO.out.mono ?_
  rintro e w1 ⟨rfl, hrd, hb⟩
  have HR := Lib.hid hrd
  have HB := Lib.hid hb
  clear hrd hb
  go_wp2_with fail
  refine (two_any _ 0 _ (by omega) HR.out).mono ?_
  rintro e w2 ⟨t, v1, xs, v2, ys, rfl, ht0, ht1, ho1, hl1, ho2, hl2, _, hg⟩
  have HO1 := Lib.hid (ho1.base (base' := w.heap.size) HB.out.size)
  have HO2 := Lib.hid (ho2.base (base' := w.heap.size) HB.out.size)
  have HB2 := Lib.hid (below_grown HB.out hg HB.out.size (Nat.le_refl _))
  clear hg ho1 ho2
  go_wp2_with fail
  go_ret3
  exact ⟨t, _, xs, _, ys, rfl, ht0, ht1, HO1.out, hl1, HO2.out, hl2, HB2.out⟩

set_option maxHeartbeats 1000000 in
theorem drawFollows_any (A : Option Addr) (nn c : Nat) (zs : List Int) (w : World) (hn : nn = zs.length) (hc : nn ≤ c) (hm : c ≤ maxLen) (hr : ∀ z ∈ zs, 0 ≤ z ∧ z ≤ 255) (hA : Nums .u8 w A zs) :
    Calls Try.prog 42 #[.slice A nn c] w (DrawTLL w) := by
  have HO := Lib.hid (open_any A nn c zs w hn hc hm hr hA)
  clear hn hc hm hr hA
  go_enter Try.func42, Try.ntmps42
  go_wp2_with fail
  refine HO.out.mono ?_
  rintro e w1 ⟨rfl, hrd, hb⟩
  have HR := Lib.hid hrd
  have HB := Lib.hid hb
  clear hrd hb
  go_wp2_with fail
  refine (two_any _ 0 _ (by omega) HR.out).mono ?_
  rintro e w2 ⟨t, v1, xs, v2, ys, rfl, ht0, ht1, ho1, hl1, ho2, hl2, _, hg⟩
  have HO1 := Lib.hid (ho1.base (base' := w.heap.size) HB.out.size)
  have HO2 := Lib.hid (ho2.base (base' := w.heap.size) HB.out.size)
  have HB2 := Lib.hid (below_grown HB.out hg HB.out.size (Nat.le_refl _))
  clear hg ho1 ho2
  go_wp2_with fail
  go_ret3
  exact ⟨t, _, xs, _, ys, rfl, ht0, ht1, HO1.out, hl1, HO2.out, hl2, HB2.out⟩

set_option maxHeartbeats 1000000 in
theorem drawNotIssue_any (A : Option Addr) (nn c : Nat) (zs : List Int) (w : World) (hn : nn = zs.length) (hc : nn ≤ c) (hm : c ≤ maxLen) (hr : ∀ z ∈ zs, 0 ≤ z ∧ z ≤ 255) (hA : Nums .u8 w A zs) :
    Calls Try.prog 35 #[.slice A nn c] w (DrawTL2 w) := by
  have HO := Lib.hid (open_any A nn c zs w hn hc hm hr hA)
  clear hn hc hm hr hA
  go_enter Try.func35, Try.ntmps35
  go_wp2_with fail
  refine HO.out.mono ?_
  rintro e w1 ⟨rfl, hrd, hb⟩
  have HR := Lib.hid hrd
  have HB := Lib.hid hb
  clear hrd hb
  go_wp2_with fail
  refine (two_any _ 0 _ (by omega) HR.out).mono ?_
  rintro e w2 ⟨t, v1, xs, v2, ys, rfl, ht0, ht1, ho1, hl1, ho2, hl2, _, hg⟩
  have HO1 := Lib.hid (ho1.base (base' := w.heap.size) HB.out.size)
  have HB2 := Lib.hid (below_grown HB.out hg HB.out.size (Nat.le_refl _))
  clear hg ho1 ho2
  go_wp2_with fail
  go_ret2
  exact ⟨t, _, xs, rfl, ht0, ht1, HO1.out, hl1, HB2.out⟩

set_option maxHeartbeats 1000000 in
theorem drawWhetherIssue_any (A : Option Addr) (nn c : Nat) (zs : List Int) (w : World) (hn : nn = zs.length) (hc : nn ≤ c) (hm : c ≤ maxLen) (hr : ∀ z ∈ zs, 0 ≤ z ∧ z ≤ 255) (hA : Nums .u8 w A zs) :
    Calls Try.prog 39 #[.slice A nn c] w (DrawTL2 w) := by
  have HO := Lib.hid (open_any A nn c zs w hn hc hm hr hA)
  clear hn hc hm hr hA
  go_enter Try.func39, Try.ntmps39
  go_wp2_with fail
  refine HO.out.mono ?_
  rintro e w1 ⟨rfl, hrd, hb⟩
  have HR := Lib.hid hrd
  have HB := Lib.hid hb
  clear hrd hb
  go_wp2_with fail
  refine (two_any _ 0 _ (by omega) HR.out).mono ?_
  rintro e w2 ⟨t, v1, xs, v2, ys, rfl, ht0, ht1, ho1, hl1, ho2, hl2, _, hg⟩
  have HO1 := Lib.hid (ho1.base (base' := w.heap.size) HB.out.size)
  have HB2 := Lib.hid (below_grown HB.out hg HB.out.size (Nat.le_refl _))
  clear hg ho1 ho2
  go_wp2_with fail
  go_ret2
  exact ⟨t, _, xs, rfl, ht0, ht1, HO1.out, hl1, HB2.out⟩

end Go.Proofs.Ytfancfjbipjibaa
