/-
  What the proofs of this seat's statements share (PartX).
-/
import Derived.Test.YtkjjpleedobkdaaU13
import Derived.Test.YtkjjpleedobkdaaU7

namespace Go.Proofs.Ytkjjpleedobkdaa
open Go.RowKit

set_option maxHeartbeats 4000000 in
theorem wExactIsPartition (t : Int) (Aa : Option Addr) (na ca : Nat) (a : List Int) (w : World) (hna : na = a.length) (hAa : Nums .i64 w Aa a) :
    Calls Try.prog 8 #[.int .i64 t, .slice Aa na ca] w fun e w' => e = .returned (.bool true) ∧ Below w.heap.size w w' := by
  subst hna
  have HAa := Lib.hid hAa
  clear hAa
  by_cases hla : 1048576 < a.length
  · have hd : decide ((1048576 : Int) < (a.length : Int)) = true := decide_eq_true (by omega)
    go_enter Try.func8, Try.ntmps8
    go_wp2_with fail
    go_ret
    exact ⟨rfl, Below.refl _ _⟩
  have hda : decide ((1048576 : Int) < (a.length : Int)) = false := decide_eq_false (by omega)
  have hlea : a.length ≤ 1048576 := by omega
  clear hla
  obtain ⟨r, HT⟩ : ∃ b, Hid (isPartB t a = b) := ⟨_, rfl⟩
  have HB : Hid (Below w.heap.size w w) := Below.refl _ _
  go_enter Try.func8, Try.ntmps8
  go_wp2_with fail
  refine (lToIntS _ _ _ a _ rfl hlea (by first | exact HAa.out.below HB.out | exact HAa.out.below (bel_drewN HB.out _))).mono ?_
  rintro e w1 ⟨v, rfl, ho, hb⟩
  obtain ⟨A1, c1, rfl, hc1, hm1, hn1, ha1⟩ := ho.form
  have hsz1 : w.heap.size ≤ w1.heap.size := hb.size
  replace HB := Lib.hid (bel_trans (by first | exact HB.out | exact bel_drewN HB.out _) hb)
  have HM1 := Lib.hid hm1
  have HA1 : Hid (∀ ad, A1 = some ad → w.heap.size ≤ ad.block ∧ ad.block < w1.heap.size) := ha1
  have HN1 := Lib.hid hn1
  have HO1 : Hid (Owns w1 w.heap.size _ _) := ho
  clear ho hb hm1 hn1 ha1
  go_wp2_with fail
  refine (sIsPart_is HT (Owns.row (by exact HO1.out) hlea)).mono ?_
  rintro e w' ⟨rfl, m1, rfl⟩
  go_wp2_with fail
  refine (lToIntS _ _ _ a _ rfl hlea (by first | exact HAa.out.below HB.out | exact HAa.out.below (bel_drewN HB.out _))).mono ?_
  rintro e w2 ⟨v, rfl, ho, hb⟩
  obtain ⟨A2, c2, rfl, hc2, hm2, hn2, ha2⟩ := ho.form
  have hsz2 : w1.heap.size ≤ w2.heap.size := hb.size
  replace HB := Lib.hid (bel_trans (by first | exact HB.out | exact bel_drewN HB.out _) hb)
  replace HN1 := Lib.hid (Nums.below (by exact HN1.out) hb)
  replace HO1 := Lib.hid (Owns.below (by exact HO1.out) hb)
  have HM2 := Lib.hid hm2
  have HA2 : Hid (∀ ad, A2 = some ad → w1.heap.size ≤ ad.block ∧ ad.block < w2.heap.size) := ha2
  have HN2 := Lib.hid hn2
  have HO2 : Hid (Owns w2 w1.heap.size _ _) := ho
  clear ho hb hm2 hn2 ha2
  go_wp2_with fail
  refine (iIsPart_is HT (Owns.row (by exact HO2.out) hlea)).mono ?_
  rintro e w' ⟨rfl, m2, rfl⟩
  go_wp2_with fail
  refine (lToIntS _ _ _ a _ rfl hlea (by first | exact HAa.out.below HB.out | exact HAa.out.below (bel_drewN HB.out _))).mono ?_
  rintro e w3 ⟨v, rfl, ho, hb⟩
  obtain ⟨A3, c3, rfl, hc3, hm3, hn3, ha3⟩ := ho.form
  have hsz3 : w2.heap.size ≤ w3.heap.size := hb.size
  replace HB := Lib.hid (bel_trans (by first | exact HB.out | exact bel_drewN HB.out _) hb)
  replace HN1 := Lib.hid (Nums.below (by exact HN1.out) hb)
  replace HO1 := Lib.hid (Owns.below (by exact HO1.out) hb)
  replace HN2 := Lib.hid (Nums.below (by exact HN2.out) hb)
  replace HO2 := Lib.hid (Owns.below (by exact HO2.out) hb)
  have HM3 := Lib.hid hm3
  have HA3 : Hid (∀ ad, A3 = some ad → w2.heap.size ≤ ad.block ∧ ad.block < w3.heap.size) := ha3
  have HN3 := Lib.hid hn3
  have HO3 : Hid (Owns w3 w2.heap.size _ _) := ho
  clear ho hb hm3 hn3 ha3
  go_wp2_with fail
  refine (lEqIntS _ _ _ _ _ _ a a _ rfl rfl (by omega) (by omega) (by exact HN2.out) (by exact HN3.out)).mono ?_
  rintro e w' ⟨rfl, m3, rfl⟩
  go_wp2_with fail
  go_ret
  exact ⟨rfl, by first | exact HB.out | exact bel_drewN HB.out _⟩

set_option maxHeartbeats 4000000 in
theorem wExactAsksOf (t : Int) (Aa : Option Addr) (na ca : Nat) (a : List Int) (w : World) (hna : na = a.length) (hAa : Nums .i64 w Aa a) :
    Calls Try.prog 9 #[.int .i64 t, .slice Aa na ca] w fun e w' => e = .returned (.bool true) ∧ Below w.heap.size w w' := by
  subst hna
  have HAa := Lib.hid hAa
  clear hAa
  by_cases hla : 1048576 < a.length
  · have hd : decide ((1048576 : Int) < (a.length : Int)) = true := decide_eq_true (by omega)
    go_enter Try.func9, Try.ntmps9
    go_wp2_with fail
    go_ret
    exact ⟨rfl, Below.refl _ _⟩
  have hda : decide ((1048576 : Int) < (a.length : Int)) = false := decide_eq_false (by omega)
  have hlea : a.length ≤ 1048576 := by omega
  clear hla
  obtain ⟨r, HIS⟩ : ∃ l, Hid (asksL t a = l) := ⟨_, rfl⟩
  have hrl : r.length ≤ 256 := by rw [← HIS.out]; have := asks_len t a; omega
  have HB : Hid (Below w.heap.size w w) := Below.refl _ _
  go_enter Try.func9, Try.ntmps9
  go_wp2_with fail
  refine (lToIntS _ _ _ a _ rfl hlea (by first | exact HAa.out.below HB.out | exact HAa.out.below (bel_drewN HB.out _))).mono ?_
  rintro e w1 ⟨v, rfl, ho, hb⟩
  obtain ⟨A1, c1, rfl, hc1, hm1, hn1, ha1⟩ := ho.form
  have hsz1 : w.heap.size ≤ w1.heap.size := hb.size
  replace HB := Lib.hid (bel_trans (by first | exact HB.out | exact bel_drewN HB.out _) hb)
  have HM1 := Lib.hid hm1
  have HA1 : Hid (∀ ad, A1 = some ad → w.heap.size ≤ ad.block ∧ ad.block < w1.heap.size) := ha1
  have HN1 := Lib.hid hn1
  have HO1 : Hid (Owns w1 w.heap.size _ _) := ho
  clear ho hb hm1 hn1 ha1
  go_wp2_with fail
  refine (sAsksOf t _ _ _ a _ (Owns.row (by exact HO1.out) hlea)).mono ?_
  rintro e w2 ⟨v, rfl, ho, hb⟩
  rw [HIS.out] at ho
  obtain ⟨A2, c2, rfl, hc2, hm2, hn2, ha2⟩ := ho.form
  have hsz2 : w1.heap.size ≤ w2.heap.size := hb.size
  replace HB := Lib.hid (bel_trans (by first | exact HB.out | exact bel_drewN HB.out _) hb)
  replace HN1 := Lib.hid (Nums.below (by exact HN1.out) hb)
  replace HO1 := Lib.hid (Owns.below (by exact HO1.out) hb)
  have HM2 := Lib.hid hm2
  have HA2 : Hid (∀ ad, A2 = some ad → w1.heap.size ≤ ad.block ∧ ad.block < w2.heap.size) := ha2
  have HN2 := Lib.hid hn2
  have HO2 : Hid (Owns w2 w1.heap.size _ _) := ho
  clear ho hb hm2 hn2 ha2
  go_wp2_with fail
  refine (lToIntS _ _ _ a _ rfl hlea (by first | exact HAa.out.below HB.out | exact HAa.out.below (bel_drewN HB.out _))).mono ?_
  rintro e w3 ⟨v, rfl, ho, hb⟩
  obtain ⟨A3, c3, rfl, hc3, hm3, hn3, ha3⟩ := ho.form
  have hsz3 : w2.heap.size ≤ w3.heap.size := hb.size
  replace HB := Lib.hid (bel_trans (by first | exact HB.out | exact bel_drewN HB.out _) hb)
  replace HN1 := Lib.hid (Nums.below (by exact HN1.out) hb)
  replace HO1 := Lib.hid (Owns.below (by exact HO1.out) hb)
  replace HN2 := Lib.hid (Nums.below (by exact HN2.out) hb)
  replace HO2 := Lib.hid (Owns.below (by exact HO2.out) hb)
  have HM3 := Lib.hid hm3
  have HA3 : Hid (∀ ad, A3 = some ad → w2.heap.size ≤ ad.block ∧ ad.block < w3.heap.size) := ha3
  have HN3 := Lib.hid hn3
  have HO3 : Hid (Owns w3 w2.heap.size _ _) := ho
  clear ho hb hm3 hn3 ha3
  go_wp2_with fail
  refine (iAsksOf t _ _ _ a _ (Owns.row (by exact HO3.out) hlea)).mono ?_
  rintro e w4 ⟨v, rfl, ho, hb⟩
  rw [HIS.out] at ho
  obtain ⟨A4, c4, rfl, hc4, hm4, hn4, ha4⟩ := ho.form
  have hsz4 : w3.heap.size ≤ w4.heap.size := hb.size
  replace HB := Lib.hid (bel_trans (by first | exact HB.out | exact bel_drewN HB.out _) hb)
  replace HN1 := Lib.hid (Nums.below (by exact HN1.out) hb)
  replace HO1 := Lib.hid (Owns.below (by exact HO1.out) hb)
  replace HN2 := Lib.hid (Nums.below (by exact HN2.out) hb)
  replace HO2 := Lib.hid (Owns.below (by exact HO2.out) hb)
  replace HN3 := Lib.hid (Nums.below (by exact HN3.out) hb)
  replace HO3 := Lib.hid (Owns.below (by exact HO3.out) hb)
  have HM4 := Lib.hid hm4
  have HA4 : Hid (∀ ad, A4 = some ad → w3.heap.size ≤ ad.block ∧ ad.block < w4.heap.size) := ha4
  have HN4 := Lib.hid hn4
  have HO4 : Hid (Owns w4 w3.heap.size _ _) := ho
  clear ho hb hm4 hn4 ha4
  go_wp2_with fail
  refine (lEqIntS _ _ _ _ _ _ r r _ rfl rfl (by omega) (by omega) (by exact HN4.out) (by exact HN2.out)).mono ?_
  rintro e w' ⟨rfl, m1, rfl⟩
  go_wp2_with fail
  refine (lToIntS _ _ _ a _ rfl hlea (by first | exact HAa.out.below HB.out | exact HAa.out.below (bel_drewN HB.out _))).mono ?_
  rintro e w5 ⟨v, rfl, ho, hb⟩
  obtain ⟨A5, c5, rfl, hc5, hm5, hn5, ha5⟩ := ho.form
  have hsz5 : w4.heap.size ≤ w5.heap.size := hb.size
  replace HB := Lib.hid (bel_trans (by first | exact HB.out | exact bel_drewN HB.out _) hb)
  replace HN1 := Lib.hid (Nums.below (by exact HN1.out) hb)
  replace HO1 := Lib.hid (Owns.below (by exact HO1.out) hb)
  replace HN2 := Lib.hid (Nums.below (by exact HN2.out) hb)
  replace HO2 := Lib.hid (Owns.below (by exact HO2.out) hb)
  replace HN3 := Lib.hid (Nums.below (by exact HN3.out) hb)
  replace HO3 := Lib.hid (Owns.below (by exact HO3.out) hb)
  replace HN4 := Lib.hid (Nums.below (by exact HN4.out) hb)
  replace HO4 := Lib.hid (Owns.below (by exact HO4.out) hb)
  have HM5 := Lib.hid hm5
  have HA5 : Hid (∀ ad, A5 = some ad → w4.heap.size ≤ ad.block ∧ ad.block < w5.heap.size) := ha5
  have HN5 := Lib.hid hn5
  have HO5 : Hid (Owns w5 w4.heap.size _ _) := ho
  clear ho hb hm5 hn5 ha5
  go_wp2_with fail
  refine (lEqIntS _ _ _ _ _ _ a a _ rfl rfl (by omega) (by omega) (by exact HN3.out) (by exact HN5.out)).mono ?_
  rintro e w' ⟨rfl, m2, rfl⟩
  go_wp2_with fail
  refine (lMarkIntS _ _ _ _ a _ _ rfl hlea (by omega) (by omega) (by exact HO3.out)).mono ?_
  rintro e w6 ⟨ys6, rfl, hz, hv, ho, hg⟩
  replace HB := Lib.hid (bel_mark (by first | exact HB.out | exact bel_drewN HB.out _) hg (fun ad h => by have := (HA3.out ad h).1; omega))
  replace HN1 := Lib.hid (Nums.other (B := w2.heap.size) (by exact HN1.out) hg (fun ad h => by have := (HA1.out ad h).2; omega) (fun ad h => (HA3.out ad h).1))
  clear HO1
  replace HN2 := Lib.hid (Nums.other (B := w2.heap.size) (by exact HN2.out) hg (fun ad h => by have := (HA2.out ad h).2; omega) (fun ad h => (HA3.out ad h).1))
  clear HO2
  replace HN4 := Lib.hid (Nums.later (B := w3.heap.size) (by exact HN4.out) hg (fun ad h => (HA4.out ad h).1) (fun ad h => by have := (HA3.out ad h).2; omega))
  replace HO4 := Lib.hid (Owns.later (by exact HO4.out) hg (fun ad h => by have := (HA3.out ad h).2; omega))
  replace HN5 := Lib.hid (Nums.later (B := w4.heap.size) (by exact HN5.out) hg (fun ad h => (HA5.out ad h).1) (fun ad h => by have := (HA3.out ad h).2; omega))
  replace HO5 := Lib.hid (Owns.later (by exact HO5.out) hg (fun ad h => by have := (HA3.out ad h).2; omega))
  obtain ⟨_, _, he, _, _, hnn, _⟩ := ho.form
  simp only [Value.slice.injEq] at he
  obtain ⟨rfl, hx1, rfl⟩ := he
  replace HN3 := Lib.hid hnn
  have hsz6 : w5.heap.size ≤ w6.heap.size := hg.size
  have HZ6 := Lib.hid hz
  have HV6 := Lib.hid hv
  clear ho hg hz hv hnn hx1
  clear HO3
  have hneg0 : decide ((1 : Int) + (a.length : Int) < 0) = false := decide_eq_false (by omega)
  go_wp2_with fail
  refine (lEqIntS _ _ _ _ _ _ r r _ rfl rfl (by omega) (by omega) (by exact HN4.out) (by exact HN2.out)).mono ?_
  rintro e w' ⟨rfl, m3, rfl⟩
  clear hneg0
  go_wp2_with fail
  refine (lMarkIntS _ _ _ _ r _ _ rfl (by omega) (by omega) (by omega) (by exact HO4.out)).mono ?_
  rintro e w7 ⟨ys7, rfl, hz, hv, ho, hg⟩
  replace HB := Lib.hid (bel_mark (by first | exact HB.out | exact bel_drewN HB.out _) hg (fun ad h => by have := (HA4.out ad h).1; omega))
  replace HN1 := Lib.hid (Nums.other (B := w3.heap.size) (by exact HN1.out) hg (fun ad h => by have := (HA1.out ad h).2; omega) (fun ad h => (HA4.out ad h).1))
  replace HN2 := Lib.hid (Nums.other (B := w3.heap.size) (by exact HN2.out) hg (fun ad h => by have := (HA2.out ad h).2; omega) (fun ad h => (HA4.out ad h).1))
  replace HN3 := Lib.hid (Nums.other (B := w3.heap.size) (by exact HN3.out) hg (fun ad h => by have := (HA3.out ad h).2; omega) (fun ad h => (HA4.out ad h).1))
  replace HN5 := Lib.hid (Nums.later (B := w4.heap.size) (by exact HN5.out) hg (fun ad h => (HA5.out ad h).1) (fun ad h => by have := (HA4.out ad h).2; omega))
  replace HO5 := Lib.hid (Owns.later (by exact HO5.out) hg (fun ad h => by have := (HA4.out ad h).2; omega))
  obtain ⟨_, _, he, _, _, hnn, _⟩ := ho.form
  simp only [Value.slice.injEq] at he
  obtain ⟨rfl, hx1, rfl⟩ := he
  replace HN4 := Lib.hid hnn
  have hsz7 : w6.heap.size ≤ w7.heap.size := hg.size
  have HZ7 := Lib.hid hz
  have HV7 := Lib.hid hv
  clear ho hg hz hv hnn hx1
  clear HO4
  go_wp2_with fail
  refine (lHeldIntS _ _ _ ys7 _ _ HZ7.out.symm (by omega) (by omega) (by omega) (by exact HN4.out) HV7.out).mono ?_
  rintro e w' ⟨rfl, rfl⟩
  rw [HZ7.out]
  have hneg : decide ((1 : Int) + (r.length : Int) < 0) = false := decide_eq_false (by omega)
  go_wp2_with fail
  refine (lToIntS _ _ _ a _ rfl hlea (by first | exact HAa.out.below HB.out | exact HAa.out.below (bel_drewN HB.out _))).mono ?_
  rintro e w8 ⟨v, rfl, ho, hb⟩
  obtain ⟨A8, c8, rfl, hc8, hm8, hn8, ha8⟩ := ho.form
  have hsz8 : w7.heap.size ≤ w8.heap.size := hb.size
  replace HB := Lib.hid (bel_trans (by first | exact HB.out | exact bel_drewN HB.out _) hb)
  replace HN1 := Lib.hid (Nums.below (by exact HN1.out) hb)
  replace HN2 := Lib.hid (Nums.below (by exact HN2.out) hb)
  replace HN3 := Lib.hid (Nums.below (by exact HN3.out) hb)
  replace HN4 := Lib.hid (Nums.below (by exact HN4.out) hb)
  replace HN5 := Lib.hid (Nums.below (by exact HN5.out) hb)
  replace HO5 := Lib.hid (Owns.below (by exact HO5.out) hb)
  have HM8 := Lib.hid hm8
  have HA8 : Hid (∀ ad, A8 = some ad → w7.heap.size ≤ ad.block ∧ ad.block < w8.heap.size) := ha8
  have HN8 := Lib.hid hn8
  have HO8 : Hid (Owns w8 w7.heap.size _ _) := ho
  clear ho hb hm8 hn8 ha8
  go_wp2_with fail
  refine (iAsksOf t _ _ _ a _ (Owns.row (by exact HO8.out) hlea)).mono ?_
  rintro e w9 ⟨v, rfl, ho, hb⟩
  rw [HIS.out] at ho
  obtain ⟨A9, c9, rfl, hc9, hm9, hn9, ha9⟩ := ho.form
  have hsz9 : w8.heap.size ≤ w9.heap.size := hb.size
  replace HB := Lib.hid (bel_trans (by first | exact HB.out | exact bel_drewN HB.out _) hb)
  replace HN1 := Lib.hid (Nums.below (by exact HN1.out) hb)
  replace HN2 := Lib.hid (Nums.below (by exact HN2.out) hb)
  replace HN3 := Lib.hid (Nums.below (by exact HN3.out) hb)
  replace HN4 := Lib.hid (Nums.below (by exact HN4.out) hb)
  replace HN5 := Lib.hid (Nums.below (by exact HN5.out) hb)
  replace HO5 := Lib.hid (Owns.below (by exact HO5.out) hb)
  replace HN8 := Lib.hid (Nums.below (by exact HN8.out) hb)
  replace HO8 := Lib.hid (Owns.below (by exact HO8.out) hb)
  have HM9 := Lib.hid hm9
  have HA9 : Hid (∀ ad, A9 = some ad → w8.heap.size ≤ ad.block ∧ ad.block < w9.heap.size) := ha9
  have HN9 := Lib.hid hn9
  have HO9 : Hid (Owns w9 w8.heap.size _ _) := ho
  clear ho hb hm9 hn9 ha9
  go_wp2_with fail
  refine (lEqIntS _ _ _ _ _ _ r r _ rfl rfl (by omega) (by omega) (by exact HN9.out) (by exact HN2.out)).mono ?_
  rintro e w' ⟨rfl, m4, rfl⟩
  go_wp2_with fail
  refine (lHeldIntS _ _ _ ys7 _ _ HZ7.out.symm (by omega) (by omega) (by omega) (by exact HN4.out) HV7.out).mono ?_
  rintro e w' ⟨rfl, rfl⟩
  rw [HZ7.out]
  go_wp2_with fail
  go_ret
  exact ⟨rfl, by first | exact HB.out | exact bel_drewN HB.out _⟩

set_option maxHeartbeats 4000000 in
theorem wExactAnswerIn (t : Int) (Aa : Option Addr) (na ca : Nat) (a : List Int) (u : Int) (w : World) (hna : na = a.length) (hAa : Nums .i64 w Aa a) :
    Calls Try.prog 10 #[.int .i64 t, .slice Aa na ca, .int .i64 u] w fun e w' => e = .returned (.bool true) ∧ Below w.heap.size w w' := by
  subst hna
  have HAa := Lib.hid hAa
  clear hAa
  by_cases hla : 1048576 < a.length
  · have hd : decide ((1048576 : Int) < (a.length : Int)) = true := decide_eq_true (by omega)
    go_enter Try.func10, Try.ntmps10
    go_wp2_with fail
    go_ret
    exact ⟨rfl, Below.refl _ _⟩
  have hda : decide ((1048576 : Int) < (a.length : Int)) = false := decide_eq_false (by omega)
  have hlea : a.length ≤ 1048576 := by omega
  clear hla
  obtain ⟨r, HT⟩ : ∃ b, Hid (answerI t a u = b) := ⟨_, rfl⟩
  have hre : (r != r) = false := by simp
  have HB : Hid (Below w.heap.size w w) := Below.refl _ _
  go_enter Try.func10, Try.ntmps10
  go_wp2_with fail
  refine (lToIntS _ _ _ a _ rfl hlea (by first | exact HAa.out.below HB.out | exact HAa.out.below (bel_drewN HB.out _))).mono ?_
  rintro e w1 ⟨v, rfl, ho, hb⟩
  obtain ⟨A1, c1, rfl, hc1, hm1, hn1, ha1⟩ := ho.form
  have hsz1 : w.heap.size ≤ w1.heap.size := hb.size
  replace HB := Lib.hid (bel_trans (by first | exact HB.out | exact bel_drewN HB.out _) hb)
  have HM1 := Lib.hid hm1
  have HA1 : Hid (∀ ad, A1 = some ad → w.heap.size ≤ ad.block ∧ ad.block < w1.heap.size) := ha1
  have HN1 := Lib.hid hn1
  have HO1 : Hid (Owns w1 w.heap.size _ _) := ho
  clear ho hb hm1 hn1 ha1
  go_wp2_with fail
  refine (sAnswerIn_is HT (Owns.row (by exact HO1.out) hlea)).mono ?_
  rintro e w' ⟨rfl, m1, rfl⟩
  go_wp2_with fail
  refine (lToIntS _ _ _ a _ rfl hlea (by first | exact HAa.out.below HB.out | exact HAa.out.below (bel_drewN HB.out _))).mono ?_
  rintro e w2 ⟨v, rfl, ho, hb⟩
  obtain ⟨A2, c2, rfl, hc2, hm2, hn2, ha2⟩ := ho.form
  have hsz2 : w1.heap.size ≤ w2.heap.size := hb.size
  replace HB := Lib.hid (bel_trans (by first | exact HB.out | exact bel_drewN HB.out _) hb)
  replace HN1 := Lib.hid (Nums.below (by exact HN1.out) hb)
  replace HO1 := Lib.hid (Owns.below (by exact HO1.out) hb)
  have HM2 := Lib.hid hm2
  have HA2 : Hid (∀ ad, A2 = some ad → w1.heap.size ≤ ad.block ∧ ad.block < w2.heap.size) := ha2
  have HN2 := Lib.hid hn2
  have HO2 : Hid (Owns w2 w1.heap.size _ _) := ho
  clear ho hb hm2 hn2 ha2
  go_wp2_with fail
  refine (iAnswerIn_is HT (Owns.row (by exact HO2.out) hlea)).mono ?_
  rintro e wG ⟨rfl, hb⟩
  replace HB := Lib.hid (bel_trans (by first | exact HB.out | exact bel_drewN HB.out _) hb)
  replace HN1 := Lib.hid (Nums.below (by exact HN1.out) hb)
  replace HO1 := Lib.hid (Owns.below (by exact HO1.out) hb)
  replace HN2 := Lib.hid (Nums.below (by exact HN2.out) hb)
  replace HO2 := Lib.hid (Owns.below (by exact HO2.out) hb)
  clear hb
  go_wp2_with fail
  refine (lToIntS _ _ _ a _ rfl hlea (by first | exact HAa.out.below HB.out | exact HAa.out.below (bel_drewN HB.out _))).mono ?_
  rintro e w3 ⟨v, rfl, ho, hb⟩
  obtain ⟨A3, c3, rfl, hc3, hm3, hn3, ha3⟩ := ho.form
  have hsz3 : wG.heap.size ≤ w3.heap.size := hb.size
  replace HB := Lib.hid (bel_trans (by first | exact HB.out | exact bel_drewN HB.out _) hb)
  replace HN1 := Lib.hid (Nums.below (by exact HN1.out) hb)
  replace HO1 := Lib.hid (Owns.below (by exact HO1.out) hb)
  replace HN2 := Lib.hid (Nums.below (by exact HN2.out) hb)
  replace HO2 := Lib.hid (Owns.below (by exact HO2.out) hb)
  have HM3 := Lib.hid hm3
  have HA3 : Hid (∀ ad, A3 = some ad → wG.heap.size ≤ ad.block ∧ ad.block < w3.heap.size) := ha3
  have HN3 := Lib.hid hn3
  have HO3 : Hid (Owns w3 wG.heap.size _ _) := ho
  clear ho hb hm3 hn3 ha3
  go_wp2_with fail
  refine (lEqIntS _ _ _ _ _ _ a a _ rfl rfl (by omega) (by omega) (by exact HN2.out) (by exact HN3.out)).mono ?_
  rintro e w' ⟨rfl, m2, rfl⟩
  go_wp2_with fail
  go_ret
  exact ⟨rfl, by first | exact HB.out | exact bel_drewN HB.out _⟩

set_option maxHeartbeats 4000000 in
theorem wExactCoarserOf (t : Int) (Aa : Option Addr) (na ca : Nat) (a : List Int) (Ab : Option Addr) (nb cb : Nat) (b : List Int) (w : World) (hna : na = a.length) (hAa : Nums .i64 w Aa a) (hnb : nb = b.length) (hAb : Nums .i64 w Ab b) :
    Calls Try.prog 11 #[.int .i64 t, .slice Aa na ca, .slice Ab nb cb] w fun e w' => e = .returned (.bool true) ∧ Below w.heap.size w w' := by
  subst hna hnb
  have HAa := Lib.hid hAa
  have HAb := Lib.hid hAb
  clear hAa hAb
  by_cases hla : 1048576 < a.length
  · have hd : decide ((1048576 : Int) < (a.length : Int)) = true := decide_eq_true (by omega)
    go_enter Try.func11, Try.ntmps11
    go_wp2_with fail
    go_ret
    exact ⟨rfl, Below.refl _ _⟩
  by_cases hlb : 1048576 < b.length
  · have hd : decide ((1048576 : Int) < (b.length : Int)) = true := decide_eq_true (by omega)
    have hda : decide ((1048576 : Int) < (a.length : Int)) = false := decide_eq_false (by omega)
    go_enter Try.func11, Try.ntmps11
    go_wp2_with fail
    go_ret
    exact ⟨rfl, Below.refl _ _⟩
  have hda : decide ((1048576 : Int) < (a.length : Int)) = false := decide_eq_false (by omega)
  have hlea : a.length ≤ 1048576 := by omega
  have hdb : decide ((1048576 : Int) < (b.length : Int)) = false := decide_eq_false (by omega)
  have hleb : b.length ≤ 1048576 := by omega
  clear hla hlb
  obtain ⟨r, HIS⟩ : ∃ l, Hid (coarserL t a b = l) := ⟨_, rfl⟩
  have hrl : r.length ≤ 256 := by rw [← HIS.out]; have := coarser_len t a b; omega
  have HB : Hid (Below w.heap.size w w) := Below.refl _ _
  go_enter Try.func11, Try.ntmps11
  go_wp2_with fail
  refine (lToIntS _ _ _ a _ rfl hlea (by first | exact HAa.out.below HB.out | exact HAa.out.below (bel_drewN HB.out _))).mono ?_
  rintro e w1 ⟨v, rfl, ho, hb⟩
  obtain ⟨A1, c1, rfl, hc1, hm1, hn1, ha1⟩ := ho.form
  have hsz1 : w.heap.size ≤ w1.heap.size := hb.size
  replace HB := Lib.hid (bel_trans (by first | exact HB.out | exact bel_drewN HB.out _) hb)
  have HM1 := Lib.hid hm1
  have HA1 : Hid (∀ ad, A1 = some ad → w.heap.size ≤ ad.block ∧ ad.block < w1.heap.size) := ha1
  have HN1 := Lib.hid hn1
  have HO1 : Hid (Owns w1 w.heap.size _ _) := ho
  clear ho hb hm1 hn1 ha1
  go_wp2_with fail
  refine (lToIntS _ _ _ b _ rfl hleb (by first | exact HAb.out.below HB.out | exact HAb.out.below (bel_drewN HB.out _))).mono ?_
  rintro e w2 ⟨v, rfl, ho, hb⟩
  obtain ⟨A2, c2, rfl, hc2, hm2, hn2, ha2⟩ := ho.form
  have hsz2 : w1.heap.size ≤ w2.heap.size := hb.size
  replace HB := Lib.hid (bel_trans (by first | exact HB.out | exact bel_drewN HB.out _) hb)
  replace HN1 := Lib.hid (Nums.below (by exact HN1.out) hb)
  replace HO1 := Lib.hid (Owns.below (by exact HO1.out) hb)
  have HM2 := Lib.hid hm2
  have HA2 : Hid (∀ ad, A2 = some ad → w1.heap.size ≤ ad.block ∧ ad.block < w2.heap.size) := ha2
  have HN2 := Lib.hid hn2
  have HO2 : Hid (Owns w2 w1.heap.size _ _) := ho
  clear ho hb hm2 hn2 ha2
  go_wp2_with fail
  refine (sCoarserOf t _ _ _ _ _ _ a b _ (Owns.row (by exact HO1.out) hlea) (Owns.row (by exact HO2.out) hleb)).mono ?_
  rintro e w3 ⟨v, rfl, ho, hb⟩
  rw [HIS.out] at ho
  obtain ⟨A3, c3, rfl, hc3, hm3, hn3, ha3⟩ := ho.form
  have hsz3 : w2.heap.size ≤ w3.heap.size := hb.size
  replace HB := Lib.hid (bel_trans (by first | exact HB.out | exact bel_drewN HB.out _) hb)
  replace HN1 := Lib.hid (Nums.below (by exact HN1.out) hb)
  replace HO1 := Lib.hid (Owns.below (by exact HO1.out) hb)
  replace HN2 := Lib.hid (Nums.below (by exact HN2.out) hb)
  replace HO2 := Lib.hid (Owns.below (by exact HO2.out) hb)
  have HM3 := Lib.hid hm3
  have HA3 : Hid (∀ ad, A3 = some ad → w2.heap.size ≤ ad.block ∧ ad.block < w3.heap.size) := ha3
  have HN3 := Lib.hid hn3
  have HO3 : Hid (Owns w3 w2.heap.size _ _) := ho
  clear ho hb hm3 hn3 ha3
  go_wp2_with fail
  refine (lToIntS _ _ _ a _ rfl hlea (by first | exact HAa.out.below HB.out | exact HAa.out.below (bel_drewN HB.out _))).mono ?_
  rintro e w4 ⟨v, rfl, ho, hb⟩
  obtain ⟨A4, c4, rfl, hc4, hm4, hn4, ha4⟩ := ho.form
  have hsz4 : w3.heap.size ≤ w4.heap.size := hb.size
  replace HB := Lib.hid (bel_trans (by first | exact HB.out | exact bel_drewN HB.out _) hb)
  replace HN1 := Lib.hid (Nums.below (by exact HN1.out) hb)
  replace HO1 := Lib.hid (Owns.below (by exact HO1.out) hb)
  replace HN2 := Lib.hid (Nums.below (by exact HN2.out) hb)
  replace HO2 := Lib.hid (Owns.below (by exact HO2.out) hb)
  replace HN3 := Lib.hid (Nums.below (by exact HN3.out) hb)
  replace HO3 := Lib.hid (Owns.below (by exact HO3.out) hb)
  have HM4 := Lib.hid hm4
  have HA4 : Hid (∀ ad, A4 = some ad → w3.heap.size ≤ ad.block ∧ ad.block < w4.heap.size) := ha4
  have HN4 := Lib.hid hn4
  have HO4 : Hid (Owns w4 w3.heap.size _ _) := ho
  clear ho hb hm4 hn4 ha4
  go_wp2_with fail
  refine (lToIntS _ _ _ b _ rfl hleb (by first | exact HAb.out.below HB.out | exact HAb.out.below (bel_drewN HB.out _))).mono ?_
  rintro e w5 ⟨v, rfl, ho, hb⟩
  obtain ⟨A5, c5, rfl, hc5, hm5, hn5, ha5⟩ := ho.form
  have hsz5 : w4.heap.size ≤ w5.heap.size := hb.size
  replace HB := Lib.hid (bel_trans (by first | exact HB.out | exact bel_drewN HB.out _) hb)
  replace HN1 := Lib.hid (Nums.below (by exact HN1.out) hb)
  replace HO1 := Lib.hid (Owns.below (by exact HO1.out) hb)
  replace HN2 := Lib.hid (Nums.below (by exact HN2.out) hb)
  replace HO2 := Lib.hid (Owns.below (by exact HO2.out) hb)
  replace HN3 := Lib.hid (Nums.below (by exact HN3.out) hb)
  replace HO3 := Lib.hid (Owns.below (by exact HO3.out) hb)
  replace HN4 := Lib.hid (Nums.below (by exact HN4.out) hb)
  replace HO4 := Lib.hid (Owns.below (by exact HO4.out) hb)
  have HM5 := Lib.hid hm5
  have HA5 : Hid (∀ ad, A5 = some ad → w4.heap.size ≤ ad.block ∧ ad.block < w5.heap.size) := ha5
  have HN5 := Lib.hid hn5
  have HO5 : Hid (Owns w5 w4.heap.size _ _) := ho
  clear ho hb hm5 hn5 ha5
  go_wp2_with fail
  refine (iCoarserOf t _ _ _ _ _ _ a b _ (Owns.row (by exact HO4.out) hlea) (Owns.row (by exact HO5.out) hleb)).mono ?_
  rintro e w6 ⟨v, rfl, ho, hb⟩
  rw [HIS.out] at ho
  obtain ⟨A6, c6, rfl, hc6, hm6, hn6, ha6⟩ := ho.form
  have hsz6 : w5.heap.size ≤ w6.heap.size := hb.size
  replace HB := Lib.hid (bel_trans (by first | exact HB.out | exact bel_drewN HB.out _) hb)
  replace HN1 := Lib.hid (Nums.below (by exact HN1.out) hb)
  replace HO1 := Lib.hid (Owns.below (by exact HO1.out) hb)
  replace HN2 := Lib.hid (Nums.below (by exact HN2.out) hb)
  replace HO2 := Lib.hid (Owns.below (by exact HO2.out) hb)
  replace HN3 := Lib.hid (Nums.below (by exact HN3.out) hb)
  replace HO3 := Lib.hid (Owns.below (by exact HO3.out) hb)
  replace HN4 := Lib.hid (Nums.below (by exact HN4.out) hb)
  replace HO4 := Lib.hid (Owns.below (by exact HO4.out) hb)
  replace HN5 := Lib.hid (Nums.below (by exact HN5.out) hb)
  replace HO5 := Lib.hid (Owns.below (by exact HO5.out) hb)
  have HM6 := Lib.hid hm6
  have HA6 : Hid (∀ ad, A6 = some ad → w5.heap.size ≤ ad.block ∧ ad.block < w6.heap.size) := ha6
  have HN6 := Lib.hid hn6
  have HO6 : Hid (Owns w6 w5.heap.size _ _) := ho
  clear ho hb hm6 hn6 ha6
  go_wp2_with fail
  refine (lEqIntS _ _ _ _ _ _ r r _ rfl rfl (by omega) (by omega) (by exact HN6.out) (by exact HN3.out)).mono ?_
  rintro e w' ⟨rfl, m1, rfl⟩
  go_wp2_with fail
  refine (lToIntS _ _ _ a _ rfl hlea (by first | exact HAa.out.below HB.out | exact HAa.out.below (bel_drewN HB.out _))).mono ?_
  rintro e w7 ⟨v, rfl, ho, hb⟩
  obtain ⟨A7, c7, rfl, hc7, hm7, hn7, ha7⟩ := ho.form
  have hsz7 : w6.heap.size ≤ w7.heap.size := hb.size
  replace HB := Lib.hid (bel_trans (by first | exact HB.out | exact bel_drewN HB.out _) hb)
  replace HN1 := Lib.hid (Nums.below (by exact HN1.out) hb)
  replace HO1 := Lib.hid (Owns.below (by exact HO1.out) hb)
  replace HN2 := Lib.hid (Nums.below (by exact HN2.out) hb)
  replace HO2 := Lib.hid (Owns.below (by exact HO2.out) hb)
  replace HN3 := Lib.hid (Nums.below (by exact HN3.out) hb)
  replace HO3 := Lib.hid (Owns.below (by exact HO3.out) hb)
  replace HN4 := Lib.hid (Nums.below (by exact HN4.out) hb)
  replace HO4 := Lib.hid (Owns.below (by exact HO4.out) hb)
  replace HN5 := Lib.hid (Nums.below (by exact HN5.out) hb)
  replace HO5 := Lib.hid (Owns.below (by exact HO5.out) hb)
  replace HN6 := Lib.hid (Nums.below (by exact HN6.out) hb)
  replace HO6 := Lib.hid (Owns.below (by exact HO6.out) hb)
  have HM7 := Lib.hid hm7
  have HA7 : Hid (∀ ad, A7 = some ad → w6.heap.size ≤ ad.block ∧ ad.block < w7.heap.size) := ha7
  have HN7 := Lib.hid hn7
  have HO7 : Hid (Owns w7 w6.heap.size _ _) := ho
  clear ho hb hm7 hn7 ha7
  go_wp2_with fail
  refine (lEqIntS _ _ _ _ _ _ a a _ rfl rfl (by omega) (by omega) (by exact HN4.out) (by exact HN7.out)).mono ?_
  rintro e w' ⟨rfl, m2, rfl⟩
  go_wp2_with fail
  refine (lToIntS _ _ _ b _ rfl hleb (by first | exact HAb.out.below HB.out | exact HAb.out.below (bel_drewN HB.out _))).mono ?_
  rintro e w8 ⟨v, rfl, ho, hb⟩
  obtain ⟨A8, c8, rfl, hc8, hm8, hn8, ha8⟩ := ho.form
  have hsz8 : w7.heap.size ≤ w8.heap.size := hb.size
  replace HB := Lib.hid (bel_trans (by first | exact HB.out | exact bel_drewN HB.out _) hb)
  replace HN1 := Lib.hid (Nums.below (by exact HN1.out) hb)
  replace HO1 := Lib.hid (Owns.below (by exact HO1.out) hb)
  replace HN2 := Lib.hid (Nums.below (by exact HN2.out) hb)
  replace HO2 := Lib.hid (Owns.below (by exact HO2.out) hb)
  replace HN3 := Lib.hid (Nums.below (by exact HN3.out) hb)
  replace HO3 := Lib.hid (Owns.below (by exact HO3.out) hb)
  replace HN4 := Lib.hid (Nums.below (by exact HN4.out) hb)
  replace HO4 := Lib.hid (Owns.below (by exact HO4.out) hb)
  replace HN5 := Lib.hid (Nums.below (by exact HN5.out) hb)
  replace HO5 := Lib.hid (Owns.below (by exact HO5.out) hb)
  replace HN6 := Lib.hid (Nums.below (by exact HN6.out) hb)
  replace HO6 := Lib.hid (Owns.below (by exact HO6.out) hb)
  replace HN7 := Lib.hid (Nums.below (by exact HN7.out) hb)
  replace HO7 := Lib.hid (Owns.below (by exact HO7.out) hb)
  have HM8 := Lib.hid hm8
  have HA8 : Hid (∀ ad, A8 = some ad → w7.heap.size ≤ ad.block ∧ ad.block < w8.heap.size) := ha8
  have HN8 := Lib.hid hn8
  have HO8 : Hid (Owns w8 w7.heap.size _ _) := ho
  clear ho hb hm8 hn8 ha8
  go_wp2_with fail
  refine (lEqIntS _ _ _ _ _ _ b b _ rfl rfl (by omega) (by omega) (by exact HN5.out) (by exact HN8.out)).mono ?_
  rintro e w' ⟨rfl, m3, rfl⟩
  go_wp2_with fail
  refine (lMarkIntS _ _ _ _ a _ _ rfl hlea (by omega) (by omega) (by exact HO4.out)).mono ?_
  rintro e w9 ⟨ys9, rfl, hz, hv, ho, hg⟩
  replace HB := Lib.hid (bel_mark (by first | exact HB.out | exact bel_drewN HB.out _) hg (fun ad h => by have := (HA4.out ad h).1; omega))
  replace HN1 := Lib.hid (Nums.other (B := w3.heap.size) (by exact HN1.out) hg (fun ad h => by have := (HA1.out ad h).2; omega) (fun ad h => (HA4.out ad h).1))
  clear HO1
  replace HN2 := Lib.hid (Nums.other (B := w3.heap.size) (by exact HN2.out) hg (fun ad h => by have := (HA2.out ad h).2; omega) (fun ad h => (HA4.out ad h).1))
  clear HO2
  replace HN3 := Lib.hid (Nums.other (B := w3.heap.size) (by exact HN3.out) hg (fun ad h => by have := (HA3.out ad h).2; omega) (fun ad h => (HA4.out ad h).1))
  clear HO3
  replace HN5 := Lib.hid (Nums.later (B := w4.heap.size) (by exact HN5.out) hg (fun ad h => (HA5.out ad h).1) (fun ad h => by have := (HA4.out ad h).2; omega))
  replace HO5 := Lib.hid (Owns.later (by exact HO5.out) hg (fun ad h => by have := (HA4.out ad h).2; omega))
  replace HN6 := Lib.hid (Nums.later (B := w5.heap.size) (by exact HN6.out) hg (fun ad h => (HA6.out ad h).1) (fun ad h => by have := (HA4.out ad h).2; omega))
  replace HO6 := Lib.hid (Owns.later (by exact HO6.out) hg (fun ad h => by have := (HA4.out ad h).2; omega))
  replace HN7 := Lib.hid (Nums.later (B := w6.heap.size) (by exact HN7.out) hg (fun ad h => (HA7.out ad h).1) (fun ad h => by have := (HA4.out ad h).2; omega))
  replace HO7 := Lib.hid (Owns.later (by exact HO7.out) hg (fun ad h => by have := (HA4.out ad h).2; omega))
  replace HN8 := Lib.hid (Nums.later (B := w7.heap.size) (by exact HN8.out) hg (fun ad h => (HA8.out ad h).1) (fun ad h => by have := (HA4.out ad h).2; omega))
  replace HO8 := Lib.hid (Owns.later (by exact HO8.out) hg (fun ad h => by have := (HA4.out ad h).2; omega))
  obtain ⟨_, _, he, _, _, hnn, _⟩ := ho.form
  simp only [Value.slice.injEq] at he
  obtain ⟨rfl, hx1, rfl⟩ := he
  replace HN4 := Lib.hid hnn
  have hsz9 : w8.heap.size ≤ w9.heap.size := hg.size
  have HZ9 := Lib.hid hz
  have HV9 := Lib.hid hv
  clear ho hg hz hv hnn hx1
  clear HO4
  go_wp2_with fail
  refine (lMarkIntS _ _ _ _ b _ _ rfl hleb (by omega) (by omega) (by exact HO5.out)).mono ?_
  rintro e w10 ⟨ys10, rfl, hz, hv, ho, hg⟩
  replace HB := Lib.hid (bel_mark (by first | exact HB.out | exact bel_drewN HB.out _) hg (fun ad h => by have := (HA5.out ad h).1; omega))
  replace HN1 := Lib.hid (Nums.other (B := w4.heap.size) (by exact HN1.out) hg (fun ad h => by have := (HA1.out ad h).2; omega) (fun ad h => (HA5.out ad h).1))
  replace HN2 := Lib.hid (Nums.other (B := w4.heap.size) (by exact HN2.out) hg (fun ad h => by have := (HA2.out ad h).2; omega) (fun ad h => (HA5.out ad h).1))
  replace HN3 := Lib.hid (Nums.other (B := w4.heap.size) (by exact HN3.out) hg (fun ad h => by have := (HA3.out ad h).2; omega) (fun ad h => (HA5.out ad h).1))
  replace HN4 := Lib.hid (Nums.other (B := w4.heap.size) (by exact HN4.out) hg (fun ad h => by have := (HA4.out ad h).2; omega) (fun ad h => (HA5.out ad h).1))
  replace HN6 := Lib.hid (Nums.later (B := w5.heap.size) (by exact HN6.out) hg (fun ad h => (HA6.out ad h).1) (fun ad h => by have := (HA5.out ad h).2; omega))
  replace HO6 := Lib.hid (Owns.later (by exact HO6.out) hg (fun ad h => by have := (HA5.out ad h).2; omega))
  replace HN7 := Lib.hid (Nums.later (B := w6.heap.size) (by exact HN7.out) hg (fun ad h => (HA7.out ad h).1) (fun ad h => by have := (HA5.out ad h).2; omega))
  replace HO7 := Lib.hid (Owns.later (by exact HO7.out) hg (fun ad h => by have := (HA5.out ad h).2; omega))
  replace HN8 := Lib.hid (Nums.later (B := w7.heap.size) (by exact HN8.out) hg (fun ad h => (HA8.out ad h).1) (fun ad h => by have := (HA5.out ad h).2; omega))
  replace HO8 := Lib.hid (Owns.later (by exact HO8.out) hg (fun ad h => by have := (HA5.out ad h).2; omega))
  obtain ⟨_, _, he, _, _, hnn, _⟩ := ho.form
  simp only [Value.slice.injEq] at he
  obtain ⟨rfl, hx1, rfl⟩ := he
  replace HN5 := Lib.hid hnn
  have hsz10 : w9.heap.size ≤ w10.heap.size := hg.size
  have HZ10 := Lib.hid hz
  have HV10 := Lib.hid hv
  clear ho hg hz hv hnn hx1
  clear HO5
  have hneg0 : decide ((1 : Int) + (a.length : Int) + (b.length : Int) < 0) = false := decide_eq_false (by omega)
  go_wp2_with fail
  refine (lEqIntS _ _ _ _ _ _ r r _ rfl rfl (by omega) (by omega) (by exact HN6.out) (by exact HN3.out)).mono ?_
  rintro e w' ⟨rfl, m4, rfl⟩
  clear hneg0
  go_wp2_with fail
  refine (lMarkIntS _ _ _ _ r _ _ rfl (by omega) (by omega) (by omega) (by exact HO6.out)).mono ?_
  rintro e w11 ⟨ys11, rfl, hz, hv, ho, hg⟩
  replace HB := Lib.hid (bel_mark (by first | exact HB.out | exact bel_drewN HB.out _) hg (fun ad h => by have := (HA6.out ad h).1; omega))
  replace HN1 := Lib.hid (Nums.other (B := w5.heap.size) (by exact HN1.out) hg (fun ad h => by have := (HA1.out ad h).2; omega) (fun ad h => (HA6.out ad h).1))
  replace HN2 := Lib.hid (Nums.other (B := w5.heap.size) (by exact HN2.out) hg (fun ad h => by have := (HA2.out ad h).2; omega) (fun ad h => (HA6.out ad h).1))
  replace HN3 := Lib.hid (Nums.other (B := w5.heap.size) (by exact HN3.out) hg (fun ad h => by have := (HA3.out ad h).2; omega) (fun ad h => (HA6.out ad h).1))
  replace HN4 := Lib.hid (Nums.other (B := w5.heap.size) (by exact HN4.out) hg (fun ad h => by have := (HA4.out ad h).2; omega) (fun ad h => (HA6.out ad h).1))
  replace HN5 := Lib.hid (Nums.other (B := w5.heap.size) (by exact HN5.out) hg (fun ad h => by have := (HA5.out ad h).2; omega) (fun ad h => (HA6.out ad h).1))
  replace HN7 := Lib.hid (Nums.later (B := w6.heap.size) (by exact HN7.out) hg (fun ad h => (HA7.out ad h).1) (fun ad h => by have := (HA6.out ad h).2; omega))
  replace HO7 := Lib.hid (Owns.later (by exact HO7.out) hg (fun ad h => by have := (HA6.out ad h).2; omega))
  replace HN8 := Lib.hid (Nums.later (B := w7.heap.size) (by exact HN8.out) hg (fun ad h => (HA8.out ad h).1) (fun ad h => by have := (HA6.out ad h).2; omega))
  replace HO8 := Lib.hid (Owns.later (by exact HO8.out) hg (fun ad h => by have := (HA6.out ad h).2; omega))
  obtain ⟨_, _, he, _, _, hnn, _⟩ := ho.form
  simp only [Value.slice.injEq] at he
  obtain ⟨rfl, hx1, rfl⟩ := he
  replace HN6 := Lib.hid hnn
  have hsz11 : w10.heap.size ≤ w11.heap.size := hg.size
  have HZ11 := Lib.hid hz
  have HV11 := Lib.hid hv
  clear ho hg hz hv hnn hx1
  clear HO6
  go_wp2_with fail
  refine (lHeldIntS _ _ _ ys11 _ _ HZ11.out.symm (by omega) (by omega) (by omega) (by exact HN6.out) HV11.out).mono ?_
  rintro e w' ⟨rfl, rfl⟩
  rw [HZ11.out]
  have hneg : decide ((1 : Int) + (r.length : Int) < 0) = false := decide_eq_false (by omega)
  go_wp2_with fail
  refine (lToIntS _ _ _ a _ rfl hlea (by first | exact HAa.out.below HB.out | exact HAa.out.below (bel_drewN HB.out _))).mono ?_
  rintro e w12 ⟨v, rfl, ho, hb⟩
  obtain ⟨A12, c12, rfl, hc12, hm12, hn12, ha12⟩ := ho.form
  have hsz12 : w11.heap.size ≤ w12.heap.size := hb.size
  replace HB := Lib.hid (bel_trans (by first | exact HB.out | exact bel_drewN HB.out _) hb)
  replace HN1 := Lib.hid (Nums.below (by exact HN1.out) hb)
  replace HN2 := Lib.hid (Nums.below (by exact HN2.out) hb)
  replace HN3 := Lib.hid (Nums.below (by exact HN3.out) hb)
  replace HN4 := Lib.hid (Nums.below (by exact HN4.out) hb)
  replace HN5 := Lib.hid (Nums.below (by exact HN5.out) hb)
  replace HN6 := Lib.hid (Nums.below (by exact HN6.out) hb)
  replace HN7 := Lib.hid (Nums.below (by exact HN7.out) hb)
  replace HO7 := Lib.hid (Owns.below (by exact HO7.out) hb)
  replace HN8 := Lib.hid (Nums.below (by exact HN8.out) hb)
  replace HO8 := Lib.hid (Owns.below (by exact HO8.out) hb)
  have HM12 := Lib.hid hm12
  have HA12 : Hid (∀ ad, A12 = some ad → w11.heap.size ≤ ad.block ∧ ad.block < w12.heap.size) := ha12
  have HN12 := Lib.hid hn12
  have HO12 : Hid (Owns w12 w11.heap.size _ _) := ho
  clear ho hb hm12 hn12 ha12
  go_wp2_with fail
  refine (lToIntS _ _ _ b _ rfl hleb (by first | exact HAb.out.below HB.out | exact HAb.out.below (bel_drewN HB.out _))).mono ?_
  rintro e w13 ⟨v, rfl, ho, hb⟩
  obtain ⟨A13, c13, rfl, hc13, hm13, hn13, ha13⟩ := ho.form
  have hsz13 : w12.heap.size ≤ w13.heap.size := hb.size
  replace HB := Lib.hid (bel_trans (by first | exact HB.out | exact bel_drewN HB.out _) hb)
  replace HN1 := Lib.hid (Nums.below (by exact HN1.out) hb)
  replace HN2 := Lib.hid (Nums.below (by exact HN2.out) hb)
  replace HN3 := Lib.hid (Nums.below (by exact HN3.out) hb)
  replace HN4 := Lib.hid (Nums.below (by exact HN4.out) hb)
  replace HN5 := Lib.hid (Nums.below (by exact HN5.out) hb)
  replace HN6 := Lib.hid (Nums.below (by exact HN6.out) hb)
  replace HN7 := Lib.hid (Nums.below (by exact HN7.out) hb)
  replace HO7 := Lib.hid (Owns.below (by exact HO7.out) hb)
  replace HN8 := Lib.hid (Nums.below (by exact HN8.out) hb)
  replace HO8 := Lib.hid (Owns.below (by exact HO8.out) hb)
  replace HN12 := Lib.hid (Nums.below (by exact HN12.out) hb)
  replace HO12 := Lib.hid (Owns.below (by exact HO12.out) hb)
  have HM13 := Lib.hid hm13
  have HA13 : Hid (∀ ad, A13 = some ad → w12.heap.size ≤ ad.block ∧ ad.block < w13.heap.size) := ha13
  have HN13 := Lib.hid hn13
  have HO13 : Hid (Owns w13 w12.heap.size _ _) := ho
  clear ho hb hm13 hn13 ha13
  go_wp2_with fail
  refine (iCoarserOf t _ _ _ _ _ _ a b _ (Owns.row (by exact HO12.out) hlea) (Owns.row (by exact HO13.out) hleb)).mono ?_
  rintro e w14 ⟨v, rfl, ho, hb⟩
  rw [HIS.out] at ho
  obtain ⟨A14, c14, rfl, hc14, hm14, hn14, ha14⟩ := ho.form
  have hsz14 : w13.heap.size ≤ w14.heap.size := hb.size
  replace HB := Lib.hid (bel_trans (by first | exact HB.out | exact bel_drewN HB.out _) hb)
  replace HN1 := Lib.hid (Nums.below (by exact HN1.out) hb)
  replace HN2 := Lib.hid (Nums.below (by exact HN2.out) hb)
  replace HN3 := Lib.hid (Nums.below (by exact HN3.out) hb)
  replace HN4 := Lib.hid (Nums.below (by exact HN4.out) hb)
  replace HN5 := Lib.hid (Nums.below (by exact HN5.out) hb)
  replace HN6 := Lib.hid (Nums.below (by exact HN6.out) hb)
  replace HN7 := Lib.hid (Nums.below (by exact HN7.out) hb)
  replace HO7 := Lib.hid (Owns.below (by exact HO7.out) hb)
  replace HN8 := Lib.hid (Nums.below (by exact HN8.out) hb)
  replace HO8 := Lib.hid (Owns.below (by exact HO8.out) hb)
  replace HN12 := Lib.hid (Nums.below (by exact HN12.out) hb)
  replace HO12 := Lib.hid (Owns.below (by exact HO12.out) hb)
  replace HN13 := Lib.hid (Nums.below (by exact HN13.out) hb)
  replace HO13 := Lib.hid (Owns.below (by exact HO13.out) hb)
  have HM14 := Lib.hid hm14
  have HA14 : Hid (∀ ad, A14 = some ad → w13.heap.size ≤ ad.block ∧ ad.block < w14.heap.size) := ha14
  have HN14 := Lib.hid hn14
  have HO14 : Hid (Owns w14 w13.heap.size _ _) := ho
  clear ho hb hm14 hn14 ha14
  go_wp2_with fail
  refine (lEqIntS _ _ _ _ _ _ r r _ rfl rfl (by omega) (by omega) (by exact HN14.out) (by exact HN3.out)).mono ?_
  rintro e w' ⟨rfl, m5, rfl⟩
  go_wp2_with fail
  refine (lHeldIntS _ _ _ ys11 _ _ HZ11.out.symm (by omega) (by omega) (by omega) (by exact HN6.out) HV11.out).mono ?_
  rintro e w' ⟨rfl, rfl⟩
  rw [HZ11.out]
  go_wp2_with fail
  go_ret
  exact ⟨rfl, by first | exact HB.out | exact bel_drewN HB.out _⟩

end Go.Proofs.Ytkjjpleedobkdaa
