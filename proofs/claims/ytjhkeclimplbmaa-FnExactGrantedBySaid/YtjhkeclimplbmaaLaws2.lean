/-
  Walks of the exact laws of IssueOk, Settles, GrantedBy, by the contracts.
-/
import Derived.Test.YtjhkeclimplbmaaStatement
namespace Go.Proofs.Ytjhkeclimplbmaa
open Go.RowKit

set_option maxHeartbeats 1000000 in
theorem wExactIssueOk (t : Int) (A : Option Addr) (nn c : Nat) (xs : List Int) (w : World) (hn : nn = xs.length) (hA : Nums .i64 w A xs) :
    Calls Try.prog 12 #[.int .i64 t, .slice A nn c] w fun e w' => e = .returned (.bool true) ∧ Below w.heap.size w w' := by
  subst hn
  have HA := Lib.hid hA
  clear hA
  by_cases hl : 1048576 < xs.length
  · have hd : decide ((1048576 : Int) < (xs.length : Int)) = true := by simp; omega
    go_enter Try.func12, Try.ntmps12
    go_wp2_with fail
    go_ret
    exact ⟨rfl, Below.refl _ _⟩
  · have hd : decide ((1048576 : Int) < (xs.length : Int)) = false := by simp; omega
    have hle : xs.length ≤ 1048576 := by omega
    clear hl
    go_enter Try.func12, Try.ntmps12
    go_wp2_with fail
    refine (lToIntS _ _ _ xs _ rfl hle HA.out).mono ?_
    rintro e w1 ⟨v, rfl, ho, hb⟩
    obtain ⟨A1, c1, rfl, hc1, hm1, hn1, _⟩ := ho.form
    have HO := Lib.hid hn1
    have HB := Lib.hid hb
    clear ho hn1 hb
    go_wp2_with fail
    refine (sIssueOk _ _ _ _ xs _ rfl hle HO.out).mono ?_
    rintro e w2 ⟨rfl, n1, rfl⟩
    go_wp2_with fail
    refine (lToIntS _ _ _ xs _ rfl hle (by exact HA.out.below (bel_drewN HB.out n1))).mono ?_
    rintro e w3 ⟨v, rfl, ho, hb⟩
    obtain ⟨A2, c2, rfl, hc2, hm2, hn2, _⟩ := ho.form
    have HO2 := Lib.hid hn2
    have HB2 := Lib.hid (bel_trans (bel_drewN HB.out n1) hb)
    clear ho hn2 hb
    go_wp2_with fail
    refine (iIssueOk _ _ _ _ xs _ rfl hle hc2 hm2 HO2.out).mono ?_
    rintro e w4 ⟨rfl, n2, rfl⟩
    go_wp2_with fail
    refine (lToIntS _ _ _ xs _ rfl hle (by exact HA.out.below (bel_drewN HB2.out n2))).mono ?_
    rintro e w5 ⟨v, rfl, ho, hb⟩
    obtain ⟨A3, c3, rfl, hc3, hm3, hn3, _⟩ := ho.form
    have HO3 := Lib.hid hn3
    have HO4 := Lib.hid (Nums.below (w := w3.drewN n2) HO2.out hb)
    have HB3 := Lib.hid (bel_trans (bel_drewN HB2.out n2) hb)
    clear ho hn3 hb
    go_wp2_with fail
    refine (lEqIntS _ _ _ _ _ _ xs xs _ rfl rfl hle hle HO4.out HO3.out).mono ?_
    rintro e w6 ⟨rfl, n3, rfl⟩
    go_wp2_with fail
    go_ret
    exact ⟨rfl, bel_drewN HB3.out n3⟩

set_option maxHeartbeats 1000000 in
theorem wExactSettles (t : Int) (A : Option Addr) (nn c : Nat) (xs : List Int) (s : Int) (w : World) (hn : nn = xs.length) (hA : Nums .i64 w A xs) :
    Calls Try.prog 14 #[.int .i64 t, .slice A nn c, .int .i64 s] w fun e w' => e = .returned (.bool true) ∧ Below w.heap.size w w' := by
  subst hn
  have HA := Lib.hid hA
  clear hA
  by_cases hl : 1048576 < xs.length
  · have hd : decide ((1048576 : Int) < (xs.length : Int)) = true := by simp; omega
    go_enter Try.func14, Try.ntmps14
    go_wp2_with fail
    go_ret
    exact ⟨rfl, Below.refl _ _⟩
  · have hd : decide ((1048576 : Int) < (xs.length : Int)) = false := by simp; omega
    have hle : xs.length ≤ 1048576 := by omega
    clear hl
    go_enter Try.func14, Try.ntmps14
    go_wp2_with fail
    refine (lToIntS _ _ _ xs _ rfl hle HA.out).mono ?_
    rintro e w1 ⟨v, rfl, ho, hb⟩
    obtain ⟨A1, c1, rfl, hc1, hm1, hn1, _⟩ := ho.form
    have HO := Lib.hid hn1
    have HB := Lib.hid hb
    clear ho hn1 hb
    go_wp2_with fail
    refine (sSettles _ _ _ _ xs _ _ rfl hle HO.out).mono ?_
    rintro e w2 ⟨rfl, n1, rfl⟩
    go_wp2_with fail
    refine (lToIntS _ _ _ xs _ rfl hle (by exact HA.out.below (bel_drewN HB.out n1))).mono ?_
    rintro e w3 ⟨v, rfl, ho, hb⟩
    obtain ⟨A2, c2, rfl, hc2, hm2, hn2, _⟩ := ho.form
    have HO2 := Lib.hid hn2
    have HB2 := Lib.hid (bel_trans (bel_drewN HB.out n1) hb)
    clear ho hn2 hb
    go_wp2_with fail
    refine (iSettles _ _ _ _ xs _ _ rfl hle hc2 hm2 HO2.out).mono ?_
    rintro e w4 ⟨rfl, n2, rfl⟩
    go_wp2_with fail
    refine (lToIntS _ _ _ xs _ rfl hle (by exact HA.out.below (bel_drewN HB2.out n2))).mono ?_
    rintro e w5 ⟨v, rfl, ho, hb⟩
    obtain ⟨A3, c3, rfl, hc3, hm3, hn3, _⟩ := ho.form
    have HO3 := Lib.hid hn3
    have HO4 := Lib.hid (Nums.below (w := w3.drewN n2) HO2.out hb)
    have HB3 := Lib.hid (bel_trans (bel_drewN HB2.out n2) hb)
    clear ho hn3 hb
    go_wp2_with fail
    refine (lEqIntS _ _ _ _ _ _ xs xs _ rfl rfl hle hle HO4.out HO3.out).mono ?_
    rintro e w6 ⟨rfl, n3, rfl⟩
    go_wp2_with fail
    go_ret
    exact ⟨rfl, bel_drewN HB3.out n3⟩

set_option maxHeartbeats 1000000 in
theorem wExactGrantedBy (t : Int) (A : Option Addr) (nn c : Nat) (xs : List Int) (w : World) (hn : nn = xs.length) (hA : Nums .i64 w A xs) :
    Calls Try.prog 15 #[.int .i64 t, .slice A nn c] w fun e w' => e = .returned (.bool true) ∧ Below w.heap.size w w' := by
  subst hn
  have HA := Lib.hid hA
  clear hA
  by_cases hl : 1048576 < xs.length
  · have hd : decide ((1048576 : Int) < (xs.length : Int)) = true := by simp; omega
    go_enter Try.func15, Try.ntmps15
    go_wp2_with fail
    go_ret
    exact ⟨rfl, Below.refl _ _⟩
  · have hd : decide ((1048576 : Int) < (xs.length : Int)) = false := by simp; omega
    have hle : xs.length ≤ 1048576 := by omega
    clear hl
    go_enter Try.func15, Try.ntmps15
    go_wp2_with fail
    refine (lToIntS _ _ _ xs _ rfl hle HA.out).mono ?_
    rintro e w1 ⟨v, rfl, ho, hb⟩
    obtain ⟨A1, c1, rfl, hc1, hm1, hn1, _⟩ := ho.form
    have HO := Lib.hid hn1
    have HB := Lib.hid hb
    clear ho hn1 hb
    go_wp2_with fail
    refine (sGrantedBy _ _ _ _ xs _ rfl hle HO.out).mono ?_
    rintro e w2 ⟨rfl, n1, rfl⟩
    go_wp2_with fail
    refine (lToIntS _ _ _ xs _ rfl hle (by exact HA.out.below (bel_drewN HB.out n1))).mono ?_
    rintro e w3 ⟨v, rfl, ho, hb⟩
    obtain ⟨A2, c2, rfl, hc2, hm2, hn2, _⟩ := ho.form
    have HO2 := Lib.hid hn2
    have HB2 := Lib.hid (bel_trans (bel_drewN HB.out n1) hb)
    clear ho hn2 hb
    go_wp2_with fail
    refine (iGrantedBy _ _ _ _ xs _ rfl hle hc2 hm2 HO2.out).mono ?_
    rintro e w4 ⟨rfl, n2, rfl⟩
    go_wp2_with fail
    refine (lToIntS _ _ _ xs _ rfl hle (by exact HA.out.below (bel_drewN HB2.out n2))).mono ?_
    rintro e w5 ⟨v, rfl, ho, hb⟩
    obtain ⟨A3, c3, rfl, hc3, hm3, hn3, _⟩ := ho.form
    have HO3 := Lib.hid hn3
    have HO4 := Lib.hid (Nums.below (w := w3.drewN n2) HO2.out hb)
    have HB3 := Lib.hid (bel_trans (bel_drewN HB2.out n2) hb)
    clear ho hn3 hb
    go_wp2_with fail
    refine (lEqIntS _ _ _ _ _ _ xs xs _ rfl rfl hle hle HO4.out HO3.out).mono ?_
    rintro e w6 ⟨rfl, n3, rfl⟩
    go_wp2_with fail
    go_ret
    exact ⟨rfl, bel_drewN HB3.out n3⟩


set_option maxHeartbeats 1000000 in
theorem wExactStatementOf (t s : Int) (w : World) :
    Calls Try.prog 16 #[.int .i64 t, .int .i64 s] w fun e w' => e = .returned (.bool true) ∧ Below w.heap.size w w' := by
  have hlen : Hid ((statementL t s).length ≤ 1) := by unfold Hid statementL; split <;> simp
  obtain ⟨r, hr⟩ : ∃ r, r = statementL t s := ⟨_, rfl⟩
  have HS : Hid (∀ w : World, Calls Try.prog 42 #[.int .i64 t, .int .i64 s] w fun e w' => ∃ v, e = .returned v ∧ Owns w' w.heap.size v r ∧ Below w.heap.size w w') := by
    rw [hr]; exact fun w => sStatementOf t s w
  have HI : Hid (∀ w : World, Calls Try.prog 41 #[.int .i64 t, .int .i64 s] w fun e w' => ∃ v, e = .returned v ∧ Owns w' w.heap.size v r ∧ Below w.heap.size w w') := by
    rw [hr]; exact fun w => iStatementOf t s w
  have hl : r.length ≤ 1048576 := by rw [hr]; have := hlen.out; omega
  clear hr hlen
  go_enter Try.func16, Try.ntmps16
  go_wp2_with fail
  refine (HS.out _).mono ?_
  rintro e w1 ⟨v, rfl, ho, hb⟩
  obtain ⟨A1, c1, rfl, hc1, hm1, hn1, ha1⟩ := ho.form
  have HO1 := Lib.hid ho
  have HN1 := Lib.hid hn1
  have HA1 := Lib.hid ha1
  have HB1 := Lib.hid hb
  clear ho hn1 hb ha1
  go_wp2_with fail
  refine (HI.out _).mono ?_
  rintro e w2 ⟨v, rfl, ho, hb⟩
  obtain ⟨A2, c2, rfl, hc2, hm2, hn2, ha2⟩ := ho.form
  have HO2 := Lib.hid ho
  have HN2 := Lib.hid hn2
  have HN12 := Lib.hid (HN1.out.below hb)
  have HB2 := Lib.hid (bel_trans HB1.out hb)
  have hge : w1.heap.size ≤ w2.heap.size := hb.size
  have HA2 := Lib.hid ha2
  clear ho hn2 hb ha2
  go_wp2_with fail
  refine (lEqIntS _ _ _ _ _ _ r r _ rfl rfl hl hl HN2.out HN12.out).mono ?_
  rintro e w3 ⟨rfl, n3, rfl⟩
  go_wp2_with fail
  refine (lMarkIntS w1.heap.size _ _ _ r _ _ rfl hl (by omega) (by omega) (by exact HO2.out)).mono ?_
  rintro e w4 ⟨ys, rfl, hy, hv, ho, hg⟩
  obtain ⟨A2', c2', he, _, _, hn4, _⟩ := ho.form
  simp only [Value.slice.injEq] at he
  obtain ⟨rfl, hx, rfl⟩ := he
  clear hx
  have HN4 := Lib.hid hn4
  have HY := Lib.hid hy
  have HV := Lib.hid hv
  have HB4 : Hid (Below w.heap.size w w4) := bel_mark (bel_drewN HB2.out n3) hg (fun ad h => Nat.le_trans HB1.out.size (HA2.out ad h).1)
  have HN14 : Hid (Nums .i64 w4 A1 r) := Nums.other (B := w1.heap.size) (w := w2.drewN n3) HN12.out hg (fun ad h => (HA1.out ad h).2) (fun ad h => (HA2.out ad h).1)
  clear ho hn4 hg hy hv
  go_wp2_with fail
  refine (lHeldIntS _ _ _ ys _ _ HY.out.symm hl (by omega) (by omega) HN4.out HV.out).mono ?_
  rintro e w5 ⟨rfl, rfl⟩
  rw [HY.out]
  have hneg : decide ((1 : Int) + (r.length : Int) < 0) = false := by simp; omega
  go_wp2_with fail
  refine (HI.out _).mono ?_
  rintro e w6 ⟨v, rfl, ho, hb⟩
  obtain ⟨A3, c3, rfl, hc3, hm3, hn3', _⟩ := ho.form
  have HN3 := Lib.hid hn3'
  have HN16 := Lib.hid (HN14.out.below hb)
  have HN46 := Lib.hid (HN4.out.below hb)
  have HB6 := Lib.hid (bel_trans HB4.out hb)
  clear ho hn3' hb
  go_wp2_with fail
  refine (lEqIntS _ _ _ _ _ _ r r _ rfl rfl hl hl HN3.out HN16.out).mono ?_
  rintro e w7 ⟨rfl, n7, rfl⟩
  go_wp2_with fail
  refine (lHeldIntS _ _ _ ys _ _ HY.out.symm hl (by omega) (by omega) (by exact HN46.out) HV.out).mono ?_
  rintro e w8 ⟨rfl, rfl⟩
  rw [HY.out]
  go_wp2_with fail
  go_ret
  exact ⟨rfl, bel_drewN HB6.out n7⟩
end Go.Proofs.Ytjhkeclimplbmaa
