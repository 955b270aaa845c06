/-
  What the proofs of this seat's statements share (AskX, AskM).
-/
import Derived.Test.YtpjpbemgjniljaaU19
import Derived.Test.YtpjpbemgjniljaaU7
import Derived.Test.YtpjpbemgjniljaaU9

namespace Go.Proofs.Ytpjpbemgjniljaa
open Go.RowKit

theorem iAsksNeeded_is {t : Int} {asks issue : List Int} {u v : Int} (h : Hid (asksNeededI t asks issue u = v)) {A B : Option Addr} {na ca nb cb : Nat} {w : World} (ha : Row w A na ca asks) (hb : Row w B nb cb issue) :
    Calls Try.prog 10 #[.int .i64 t, .slice A na ca, .slice B nb cb, .int .i64 u] w fun e w' => e = .returned (.int .i64 v) ∧ Below w.heap.size w w' := by
  have := iAsksNeeded t A B na ca nb cb asks issue u w ha hb
  rw [h.out] at this; exact this
theorem iPlanAsks_is {t : Int} {asks issue : List Int} {u : Int} {s : ByteArray} {d : Int} (h : Hid (planAsksI t asks issue u s = d)) {A B : Option Addr} {na ca nb cb : Nat} {w : World} (ha : Row w A na ca asks) (hb : Row w B nb cb issue) (hs : s.size ≤ 1048576) :
    Calls Try.prog 17 #[.int .i64 t, .slice A na ca, .slice B nb cb, .int .i64 u, .string s] w fun e w' => e = .returned (.int .i64 d) ∧ Below w.heap.size w w' := by
  have := iPlanAsks t A B na ca nb cb asks issue u s w ha hb (by omega)
  rw [h.out] at this; exact this
def textV (o : Option ByteArray) : ByteArray := match o with | some b => b | none => ⟨#[]⟩
theorem iAnswersTo_is {t : Int} {asks issue : List Int} {u : Int} {s : ByteArray} {v : Int} {b : ByteArray} {k : Bool} (h : Hid (textV (answersToB t asks issue u s v) = b ∧ (answersToB t asks issue u s v).isSome = k)) {A B : Option Addr} {na ca nb cb : Nat} {w : World} (ha : Row w A na ca asks) (hb : Row w B nb cb issue) (hs : s.size ≤ 1048576) :
    Calls Try.prog 20 #[.int .i64 t, .slice A na ca, .slice B nb cb, .int .i64 u, .string s, .int .i64 v] w fun e w' => e = .returned (.tuple #[.string b, .bool k]) ∧ Below w.heap.size w w' := by
  refine (iAnswersTo t A B na ca nb cb asks issue u s v w ha hb (by omega)).mono ?_
  intro e w' hp
  obtain ⟨h1, h2⟩ := h.out
  rcases ho : answersToB t asks issue u s v with _ | x
  · rw [ho] at hp h1 h2; subst h1 h2; exact hp
  · rw [ho] at hp h1 h2; subst h1 h2; exact hp
theorem sAnswersTo_is {t : Int} {asks issue : List Int} {u : Int} {s : ByteArray} {v : Int} {b : ByteArray} {k : Bool} (h : Hid (textV (answersToB t asks issue u s v) = b ∧ (answersToB t asks issue u s v).isSome = k)) {A B : Option Addr} {na ca nb cb : Nat} {w : World} (ha : Row w A na ca asks) (hb : Row w B nb cb issue) (hs : s.size ≤ 1048576) :
    Calls Try.prog 21 #[.int .i64 t, .slice A na ca, .slice B nb cb, .int .i64 u, .string s, .int .i64 v] w fun e w' => e = .returned (.tuple #[.string b, .bool k]) ∧ ∃ n, w' = w.drewN n := by
  refine (sAnswersTo t A B na ca nb cb asks issue u s v w ha hb hs).mono ?_
  intro e w' hp
  obtain ⟨h1, h2⟩ := h.out
  rcases ho : answersToB t asks issue u s v with _ | x
  · rw [ho] at hp h1 h2; subst h1 h2; exact hp
  · rw [ho] at hp h1 h2; subst h1 h2; exact hp

set_option maxHeartbeats 4000000 in
theorem wExactAsksNeeded (t : Int) (Aa : Option Addr) (na ca : Nat) (a : List Int) (Ab : Option Addr) (nb cb : Nat) (b : List Int) (u : Int) (w : World) (hna : na = a.length) (hAa : Nums .i64 w Aa a) (hnb : nb = b.length) (hAb : Nums .i64 w Ab b) :
    Calls Try.prog 6 #[.int .i64 t, .slice Aa na ca, .slice Ab nb cb, .int .i64 u] w fun e w' => e = .returned (.bool true) ∧ Below w.heap.size w w' := by
  subst hna hnb
  have HAa := Lib.hid hAa
  have HAb := Lib.hid hAb
  clear hAa hAb
  by_cases hla : 1048576 < a.length
  · have hd : decide ((1048576 : Int) < (a.length : Int)) = true := decide_eq_true (by omega)
    go_enter Try.func6, Try.ntmps6
    go_wp2_with fail
    go_ret
    exact ⟨rfl, Below.refl _ _⟩
  by_cases hlb : 1048576 < b.length
  · have hd : decide ((1048576 : Int) < (b.length : Int)) = true := decide_eq_true (by omega)
    have hda : decide ((1048576 : Int) < (a.length : Int)) = false := decide_eq_false (by omega)
    go_enter Try.func6, Try.ntmps6
    go_wp2_with fail
    go_ret
    exact ⟨rfl, Below.refl _ _⟩
  have hda : decide ((1048576 : Int) < (a.length : Int)) = false := decide_eq_false (by omega)
  have hlea : a.length ≤ 1048576 := by omega
  have hdb : decide ((1048576 : Int) < (b.length : Int)) = false := decide_eq_false (by omega)
  have hleb : b.length ≤ 1048576 := by omega
  clear hla hlb
  obtain ⟨r, HT⟩ : ∃ x, Hid (asksNeededI t a b u = x) := ⟨_, rfl⟩
  have hre : (r != r) = false := by simp
  have HB : Hid (Below w.heap.size w w) := Below.refl _ _
  go_enter Try.func6, Try.ntmps6
  go_wp2_with fail
  refine (lToIntS _ _ _ a _ rfl hlea (by first | exact HAa.out.below HB.out | exact HAa.out.below (bel_drewN HB.out _))).mono ?_
  rintro e w1 ⟨v, rfl, ho, hb⟩
  obtain ⟨A1, c1, rfl, hc1, hm1, hn1, ha1⟩ := ho.form
  have hsz1 : w.heap.size ≤ w1.heap.size := hb.size
  replace HB := Lib.hid (bel_trans (by first | exact HB.out | exact bel_drewN HB.out _) hb)
  have HM1 := Lib.hid hm1
  have HA1 : Hid (∀ ad, A1 = some ad → w.heap.size ≤ ad.block ∧ ad.block < w1.heap.size) := ha1
  have HN1 := Lib.hid hn1
  have HO1 : Hid (Owns w1 w.heap.size _ _) := ho
  clear ho hb hm1 hn1 ha1
  go_wp2_with fail
  refine (lToIntS _ _ _ b _ rfl hleb (by first | exact HAb.out.below HB.out | exact HAb.out.below (bel_drewN HB.out _))).mono ?_
  rintro e w2 ⟨v, rfl, ho, hb⟩
  obtain ⟨A2, c2, rfl, hc2, hm2, hn2, ha2⟩ := ho.form
  have hsz2 : w1.heap.size ≤ w2.heap.size := hb.size
  replace HB := Lib.hid (bel_trans (by first | exact HB.out | exact bel_drewN HB.out _) hb)
  replace HN1 := Lib.hid (Nums.below (by exact HN1.out) hb)
  replace HO1 := Lib.hid (Owns.below (by exact HO1.out) hb)
  have HM2 := Lib.hid hm2
  have HA2 : Hid (∀ ad, A2 = some ad → w1.heap.size ≤ ad.block ∧ ad.block < w2.heap.size) := ha2
  have HN2 := Lib.hid hn2
  have HO2 : Hid (Owns w2 w1.heap.size _ _) := ho
  clear ho hb hm2 hn2 ha2
  go_wp2_with fail
  refine (sAsksNeeded_is HT (Owns.row (by exact HO1.out) hlea) (Owns.row (by exact HO2.out) hleb)).mono ?_
  rintro e w' ⟨rfl, m1, rfl⟩
  go_wp2_with fail
  refine (lToIntS _ _ _ a _ rfl hlea (by first | exact HAa.out.below HB.out | exact HAa.out.below (bel_drewN HB.out _))).mono ?_
  rintro e w3 ⟨v, rfl, ho, hb⟩
  obtain ⟨A3, c3, rfl, hc3, hm3, hn3, ha3⟩ := ho.form
  have hsz3 : w2.heap.size ≤ w3.heap.size := hb.size
  replace HB := Lib.hid (bel_trans (by first | exact HB.out | exact bel_drewN HB.out _) hb)
  replace HN1 := Lib.hid (Nums.below (by exact HN1.out) hb)
  replace HO1 := Lib.hid (Owns.below (by exact HO1.out) hb)
  replace HN2 := Lib.hid (Nums.below (by exact HN2.out) hb)
  replace HO2 := Lib.hid (Owns.below (by exact HO2.out) hb)
  have HM3 := Lib.hid hm3
  have HA3 : Hid (∀ ad, A3 = some ad → w2.heap.size ≤ ad.block ∧ ad.block < w3.heap.size) := ha3
  have HN3 := Lib.hid hn3
  have HO3 : Hid (Owns w3 w2.heap.size _ _) := ho
  clear ho hb hm3 hn3 ha3
  go_wp2_with fail
  refine (lToIntS _ _ _ b _ rfl hleb (by first | exact HAb.out.below HB.out | exact HAb.out.below (bel_drewN HB.out _))).mono ?_
  rintro e w4 ⟨v, rfl, ho, hb⟩
  obtain ⟨A4, c4, rfl, hc4, hm4, hn4, ha4⟩ := ho.form
  have hsz4 : w3.heap.size ≤ w4.heap.size := hb.size
  replace HB := Lib.hid (bel_trans (by first | exact HB.out | exact bel_drewN HB.out _) hb)
  replace HN1 := Lib.hid (Nums.below (by exact HN1.out) hb)
  replace HO1 := Lib.hid (Owns.below (by exact HO1.out) hb)
  replace HN2 := Lib.hid (Nums.below (by exact HN2.out) hb)
  replace HO2 := Lib.hid (Owns.below (by exact HO2.out) hb)
  replace HN3 := Lib.hid (Nums.below (by exact HN3.out) hb)
  replace HO3 := Lib.hid (Owns.below (by exact HO3.out) hb)
  have HM4 := Lib.hid hm4
  have HA4 : Hid (∀ ad, A4 = some ad → w3.heap.size ≤ ad.block ∧ ad.block < w4.heap.size) := ha4
  have HN4 := Lib.hid hn4
  have HO4 : Hid (Owns w4 w3.heap.size _ _) := ho
  clear ho hb hm4 hn4 ha4
  go_wp2_with fail
  refine (iAsksNeeded_is HT (Owns.row (by exact HO3.out) hlea) (Owns.row (by exact HO4.out) hleb)).mono ?_
  rintro e wG ⟨rfl, hb⟩
  replace HB := Lib.hid (bel_trans (by first | exact HB.out | exact bel_drewN HB.out _) hb)
  replace HN1 := Lib.hid (Nums.below (by exact HN1.out) hb)
  replace HO1 := Lib.hid (Owns.below (by exact HO1.out) hb)
  replace HN2 := Lib.hid (Nums.below (by exact HN2.out) hb)
  replace HO2 := Lib.hid (Owns.below (by exact HO2.out) hb)
  replace HN3 := Lib.hid (Nums.below (by exact HN3.out) hb)
  replace HO3 := Lib.hid (Owns.below (by exact HO3.out) hb)
  replace HN4 := Lib.hid (Nums.below (by exact HN4.out) hb)
  replace HO4 := Lib.hid (Owns.below (by exact HO4.out) hb)
  clear hb
  go_wp2_with fail
  refine (lToIntS _ _ _ a _ rfl hlea (by first | exact HAa.out.below HB.out | exact HAa.out.below (bel_drewN HB.out _))).mono ?_
  rintro e w5 ⟨v, rfl, ho, hb⟩
  obtain ⟨A5, c5, rfl, hc5, hm5, hn5, ha5⟩ := ho.form
  have hsz5 : wG.heap.size ≤ w5.heap.size := hb.size
  replace HB := Lib.hid (bel_trans (by first | exact HB.out | exact bel_drewN HB.out _) hb)
  replace HN1 := Lib.hid (Nums.below (by exact HN1.out) hb)
  replace HO1 := Lib.hid (Owns.below (by exact HO1.out) hb)
  replace HN2 := Lib.hid (Nums.below (by exact HN2.out) hb)
  replace HO2 := Lib.hid (Owns.below (by exact HO2.out) hb)
  replace HN3 := Lib.hid (Nums.below (by exact HN3.out) hb)
  replace HO3 := Lib.hid (Owns.below (by exact HO3.out) hb)
  replace HN4 := Lib.hid (Nums.below (by exact HN4.out) hb)
  replace HO4 := Lib.hid (Owns.below (by exact HO4.out) hb)
  have HM5 := Lib.hid hm5
  have HA5 : Hid (∀ ad, A5 = some ad → wG.heap.size ≤ ad.block ∧ ad.block < w5.heap.size) := ha5
  have HN5 := Lib.hid hn5
  have HO5 : Hid (Owns w5 wG.heap.size _ _) := ho
  clear ho hb hm5 hn5 ha5
  go_wp2_with fail
  refine (lEqIntS _ _ _ _ _ _ a a _ rfl rfl (by omega) (by omega) (by exact HN3.out) (by exact HN5.out)).mono ?_
  rintro e w' ⟨rfl, m2, rfl⟩
  go_wp2_with fail
  refine (lToIntS _ _ _ b _ rfl hleb (by first | exact HAb.out.below HB.out | exact HAb.out.below (bel_drewN HB.out _))).mono ?_
  rintro e w6 ⟨v, rfl, ho, hb⟩
  obtain ⟨A6, c6, rfl, hc6, hm6, hn6, ha6⟩ := ho.form
  have hsz6 : w5.heap.size ≤ w6.heap.size := hb.size
  replace HB := Lib.hid (bel_trans (by first | exact HB.out | exact bel_drewN HB.out _) hb)
  replace HN1 := Lib.hid (Nums.below (by exact HN1.out) hb)
  replace HO1 := Lib.hid (Owns.below (by exact HO1.out) hb)
  replace HN2 := Lib.hid (Nums.below (by exact HN2.out) hb)
  replace HO2 := Lib.hid (Owns.below (by exact HO2.out) hb)
  replace HN3 := Lib.hid (Nums.below (by exact HN3.out) hb)
  replace HO3 := Lib.hid (Owns.below (by exact HO3.out) hb)
  replace HN4 := Lib.hid (Nums.below (by exact HN4.out) hb)
  replace HO4 := Lib.hid (Owns.below (by exact HO4.out) hb)
  replace HN5 := Lib.hid (Nums.below (by exact HN5.out) hb)
  replace HO5 := Lib.hid (Owns.below (by exact HO5.out) hb)
  have HM6 := Lib.hid hm6
  have HA6 : Hid (∀ ad, A6 = some ad → w5.heap.size ≤ ad.block ∧ ad.block < w6.heap.size) := ha6
  have HN6 := Lib.hid hn6
  have HO6 : Hid (Owns w6 w5.heap.size _ _) := ho
  clear ho hb hm6 hn6 ha6
  go_wp2_with fail
  refine (lEqIntS _ _ _ _ _ _ b b _ rfl rfl (by omega) (by omega) (by exact HN4.out) (by exact HN6.out)).mono ?_
  rintro e w' ⟨rfl, m3, rfl⟩
  go_wp2_with fail
  go_ret
  exact ⟨rfl, by first | exact HB.out | exact bel_drewN HB.out _⟩

set_option maxHeartbeats 4000000 in
theorem wExactPlanAsks (t : Int) (Aa : Option Addr) (na ca : Nat) (a : List Int) (Ab : Option Addr) (nb cb : Nat) (b : List Int) (u : Int) (s : ByteArray) (w : World) (hna : na = a.length) (hAa : Nums .i64 w Aa a) (hnb : nb = b.length) (hAb : Nums .i64 w Ab b) (hss : s.size ≤ maxLen) :
    Calls Try.prog 7 #[.int .i64 t, .slice Aa na ca, .slice Ab nb cb, .int .i64 u, .string s] w fun e w' => e = .returned (.bool true) ∧ Below w.heap.size w w' := by
  subst hna hnb
  have HAa := Lib.hid hAa
  have HAb := Lib.hid hAb
  clear hAa hAb
  unfold maxLen at hss
  by_cases hla : 1048576 < a.length
  · have hd : decide ((1048576 : Int) < (a.length : Int)) = true := decide_eq_true (by omega)
    go_enter Try.func7, Try.ntmps7
    go_wp2_with fail
    go_ret
    exact ⟨rfl, Below.refl _ _⟩
  by_cases hlb : 1048576 < b.length
  · have hd : decide ((1048576 : Int) < (b.length : Int)) = true := decide_eq_true (by omega)
    have hda : decide ((1048576 : Int) < (a.length : Int)) = false := decide_eq_false (by omega)
    go_enter Try.func7, Try.ntmps7
    go_wp2_with fail
    go_ret
    exact ⟨rfl, Below.refl _ _⟩
  by_cases hls : 1048576 < s.size
  · have hd : decide ((1048576 : Int) < (s.size : Int)) = true := decide_eq_true (by omega)
    have hda : decide ((1048576 : Int) < (a.length : Int)) = false := decide_eq_false (by omega)
    have hdb : decide ((1048576 : Int) < (b.length : Int)) = false := decide_eq_false (by omega)
    go_enter Try.func7, Try.ntmps7
    go_wp2_with fail
    go_ret
    exact ⟨rfl, Below.refl _ _⟩
  have hda : decide ((1048576 : Int) < (a.length : Int)) = false := decide_eq_false (by omega)
  have hlea : a.length ≤ 1048576 := by omega
  have hdb : decide ((1048576 : Int) < (b.length : Int)) = false := decide_eq_false (by omega)
  have hleb : b.length ≤ 1048576 := by omega
  have hds : decide ((1048576 : Int) < (s.size : Int)) = false := decide_eq_false (by omega)
  have hles : s.size ≤ 1048576 := by omega
  clear hla hlb hls
  obtain ⟨r, HT⟩ : ∃ x, Hid (planAsksI t a b u s = x) := ⟨_, rfl⟩
  have hre : (r != r) = false := by simp
  have HB : Hid (Below w.heap.size w w) := Below.refl _ _
  go_enter Try.func7, Try.ntmps7
  go_wp2_with fail
  refine (lToIntS _ _ _ a _ rfl hlea (by first | exact HAa.out.below HB.out | exact HAa.out.below (bel_drewN HB.out _))).mono ?_
  rintro e w1 ⟨v, rfl, ho, hb⟩
  obtain ⟨A1, c1, rfl, hc1, hm1, hn1, ha1⟩ := ho.form
  have hsz1 : w.heap.size ≤ w1.heap.size := hb.size
  replace HB := Lib.hid (bel_trans (by first | exact HB.out | exact bel_drewN HB.out _) hb)
  have HM1 := Lib.hid hm1
  have HA1 : Hid (∀ ad, A1 = some ad → w.heap.size ≤ ad.block ∧ ad.block < w1.heap.size) := ha1
  have HN1 := Lib.hid hn1
  have HO1 : Hid (Owns w1 w.heap.size _ _) := ho
  clear ho hb hm1 hn1 ha1
  go_wp2_with fail
  refine (lToIntS _ _ _ b _ rfl hleb (by first | exact HAb.out.below HB.out | exact HAb.out.below (bel_drewN HB.out _))).mono ?_
  rintro e w2 ⟨v, rfl, ho, hb⟩
  obtain ⟨A2, c2, rfl, hc2, hm2, hn2, ha2⟩ := ho.form
  have hsz2 : w1.heap.size ≤ w2.heap.size := hb.size
  replace HB := Lib.hid (bel_trans (by first | exact HB.out | exact bel_drewN HB.out _) hb)
  replace HN1 := Lib.hid (Nums.below (by exact HN1.out) hb)
  replace HO1 := Lib.hid (Owns.below (by exact HO1.out) hb)
  have HM2 := Lib.hid hm2
  have HA2 : Hid (∀ ad, A2 = some ad → w1.heap.size ≤ ad.block ∧ ad.block < w2.heap.size) := ha2
  have HN2 := Lib.hid hn2
  have HO2 : Hid (Owns w2 w1.heap.size _ _) := ho
  clear ho hb hm2 hn2 ha2
  go_wp2_with fail
  refine (sPlanAsks_is HT (Owns.row (by exact HO1.out) hlea) (Owns.row (by exact HO2.out) hleb) hles).mono ?_
  rintro e w' ⟨rfl, m1, rfl⟩
  go_wp2_with fail
  refine (lToIntS _ _ _ a _ rfl hlea (by first | exact HAa.out.below HB.out | exact HAa.out.below (bel_drewN HB.out _))).mono ?_
  rintro e w3 ⟨v, rfl, ho, hb⟩
  obtain ⟨A3, c3, rfl, hc3, hm3, hn3, ha3⟩ := ho.form
  have hsz3 : w2.heap.size ≤ w3.heap.size := hb.size
  replace HB := Lib.hid (bel_trans (by first | exact HB.out | exact bel_drewN HB.out _) hb)
  replace HN1 := Lib.hid (Nums.below (by exact HN1.out) hb)
  replace HO1 := Lib.hid (Owns.below (by exact HO1.out) hb)
  replace HN2 := Lib.hid (Nums.below (by exact HN2.out) hb)
  replace HO2 := Lib.hid (Owns.below (by exact HO2.out) hb)
  have HM3 := Lib.hid hm3
  have HA3 : Hid (∀ ad, A3 = some ad → w2.heap.size ≤ ad.block ∧ ad.block < w3.heap.size) := ha3
  have HN3 := Lib.hid hn3
  have HO3 : Hid (Owns w3 w2.heap.size _ _) := ho
  clear ho hb hm3 hn3 ha3
  go_wp2_with fail
  refine (lToIntS _ _ _ b _ rfl hleb (by first | exact HAb.out.below HB.out | exact HAb.out.below (bel_drewN HB.out _))).mono ?_
  rintro e w4 ⟨v, rfl, ho, hb⟩
  obtain ⟨A4, c4, rfl, hc4, hm4, hn4, ha4⟩ := ho.form
  have hsz4 : w3.heap.size ≤ w4.heap.size := hb.size
  replace HB := Lib.hid (bel_trans (by first | exact HB.out | exact bel_drewN HB.out _) hb)
  replace HN1 := Lib.hid (Nums.below (by exact HN1.out) hb)
  replace HO1 := Lib.hid (Owns.below (by exact HO1.out) hb)
  replace HN2 := Lib.hid (Nums.below (by exact HN2.out) hb)
  replace HO2 := Lib.hid (Owns.below (by exact HO2.out) hb)
  replace HN3 := Lib.hid (Nums.below (by exact HN3.out) hb)
  replace HO3 := Lib.hid (Owns.below (by exact HO3.out) hb)
  have HM4 := Lib.hid hm4
  have HA4 : Hid (∀ ad, A4 = some ad → w3.heap.size ≤ ad.block ∧ ad.block < w4.heap.size) := ha4
  have HN4 := Lib.hid hn4
  have HO4 : Hid (Owns w4 w3.heap.size _ _) := ho
  clear ho hb hm4 hn4 ha4
  go_wp2_with fail
  refine (iPlanAsks_is HT (Owns.row (by exact HO3.out) hlea) (Owns.row (by exact HO4.out) hleb) hles).mono ?_
  rintro e wG ⟨rfl, hb⟩
  replace HB := Lib.hid (bel_trans (by first | exact HB.out | exact bel_drewN HB.out _) hb)
  replace HN1 := Lib.hid (Nums.below (by exact HN1.out) hb)
  replace HO1 := Lib.hid (Owns.below (by exact HO1.out) hb)
  replace HN2 := Lib.hid (Nums.below (by exact HN2.out) hb)
  replace HO2 := Lib.hid (Owns.below (by exact HO2.out) hb)
  replace HN3 := Lib.hid (Nums.below (by exact HN3.out) hb)
  replace HO3 := Lib.hid (Owns.below (by exact HO3.out) hb)
  replace HN4 := Lib.hid (Nums.below (by exact HN4.out) hb)
  replace HO4 := Lib.hid (Owns.below (by exact HO4.out) hb)
  clear hb
  go_wp2_with fail
  refine (lToIntS _ _ _ a _ rfl hlea (by first | exact HAa.out.below HB.out | exact HAa.out.below (bel_drewN HB.out _))).mono ?_
  rintro e w5 ⟨v, rfl, ho, hb⟩
  obtain ⟨A5, c5, rfl, hc5, hm5, hn5, ha5⟩ := ho.form
  have hsz5 : wG.heap.size ≤ w5.heap.size := hb.size
  replace HB := Lib.hid (bel_trans (by first | exact HB.out | exact bel_drewN HB.out _) hb)
  replace HN1 := Lib.hid (Nums.below (by exact HN1.out) hb)
  replace HO1 := Lib.hid (Owns.below (by exact HO1.out) hb)
  replace HN2 := Lib.hid (Nums.below (by exact HN2.out) hb)
  replace HO2 := Lib.hid (Owns.below (by exact HO2.out) hb)
  replace HN3 := Lib.hid (Nums.below (by exact HN3.out) hb)
  replace HO3 := Lib.hid (Owns.below (by exact HO3.out) hb)
  replace HN4 := Lib.hid (Nums.below (by exact HN4.out) hb)
  replace HO4 := Lib.hid (Owns.below (by exact HO4.out) hb)
  have HM5 := Lib.hid hm5
  have HA5 : Hid (∀ ad, A5 = some ad → wG.heap.size ≤ ad.block ∧ ad.block < w5.heap.size) := ha5
  have HN5 := Lib.hid hn5
  have HO5 : Hid (Owns w5 wG.heap.size _ _) := ho
  clear ho hb hm5 hn5 ha5
  go_wp2_with fail
  refine (lEqIntS _ _ _ _ _ _ a a _ rfl rfl (by omega) (by omega) (by exact HN3.out) (by exact HN5.out)).mono ?_
  rintro e w' ⟨rfl, m2, rfl⟩
  go_wp2_with fail
  refine (lToIntS _ _ _ b _ rfl hleb (by first | exact HAb.out.below HB.out | exact HAb.out.below (bel_drewN HB.out _))).mono ?_
  rintro e w6 ⟨v, rfl, ho, hb⟩
  obtain ⟨A6, c6, rfl, hc6, hm6, hn6, ha6⟩ := ho.form
  have hsz6 : w5.heap.size ≤ w6.heap.size := hb.size
  replace HB := Lib.hid (bel_trans (by first | exact HB.out | exact bel_drewN HB.out _) hb)
  replace HN1 := Lib.hid (Nums.below (by exact HN1.out) hb)
  replace HO1 := Lib.hid (Owns.below (by exact HO1.out) hb)
  replace HN2 := Lib.hid (Nums.below (by exact HN2.out) hb)
  replace HO2 := Lib.hid (Owns.below (by exact HO2.out) hb)
  replace HN3 := Lib.hid (Nums.below (by exact HN3.out) hb)
  replace HO3 := Lib.hid (Owns.below (by exact HO3.out) hb)
  replace HN4 := Lib.hid (Nums.below (by exact HN4.out) hb)
  replace HO4 := Lib.hid (Owns.below (by exact HO4.out) hb)
  replace HN5 := Lib.hid (Nums.below (by exact HN5.out) hb)
  replace HO5 := Lib.hid (Owns.below (by exact HO5.out) hb)
  have HM6 := Lib.hid hm6
  have HA6 : Hid (∀ ad, A6 = some ad → w5.heap.size ≤ ad.block ∧ ad.block < w6.heap.size) := ha6
  have HN6 := Lib.hid hn6
  have HO6 : Hid (Owns w6 w5.heap.size _ _) := ho
  clear ho hb hm6 hn6 ha6
  go_wp2_with fail
  refine (lEqIntS _ _ _ _ _ _ b b _ rfl rfl (by omega) (by omega) (by exact HN4.out) (by exact HN6.out)).mono ?_
  rintro e w' ⟨rfl, m3, rfl⟩
  go_wp2_with fail
  go_ret
  exact ⟨rfl, by first | exact HB.out | exact bel_drewN HB.out _⟩

set_option maxHeartbeats 4000000 in
theorem wExactAnswersTo (t : Int) (Aa : Option Addr) (na ca : Nat) (a : List Int) (Ab : Option Addr) (nb cb : Nat) (b : List Int) (u : Int) (s : ByteArray) (v : Int) (w : World) (hna : na = a.length) (hAa : Nums .i64 w Aa a) (hnb : nb = b.length) (hAb : Nums .i64 w Ab b) (hss : s.size ≤ maxLen) :
    Calls Try.prog 8 #[.int .i64 t, .slice Aa na ca, .slice Ab nb cb, .int .i64 u, .string s, .int .i64 v] w fun e w' => e = .returned (.bool true) ∧ Below w.heap.size w w' := by
  subst hna hnb
  have HAa := Lib.hid hAa
  have HAb := Lib.hid hAb
  clear hAa hAb
  unfold maxLen at hss
  by_cases hla : 1048576 < a.length
  · have hd : decide ((1048576 : Int) < (a.length : Int)) = true := decide_eq_true (by omega)
    go_enter Try.func8, Try.ntmps8
    go_wp2_with fail
    go_ret
    exact ⟨rfl, Below.refl _ _⟩
  by_cases hlb : 1048576 < b.length
  · have hd : decide ((1048576 : Int) < (b.length : Int)) = true := decide_eq_true (by omega)
    have hda : decide ((1048576 : Int) < (a.length : Int)) = false := decide_eq_false (by omega)
    go_enter Try.func8, Try.ntmps8
    go_wp2_with fail
    go_ret
    exact ⟨rfl, Below.refl _ _⟩
  by_cases hls : 1048576 < s.size
  · have hd : decide ((1048576 : Int) < (s.size : Int)) = true := decide_eq_true (by omega)
    have hda : decide ((1048576 : Int) < (a.length : Int)) = false := decide_eq_false (by omega)
    have hdb : decide ((1048576 : Int) < (b.length : Int)) = false := decide_eq_false (by omega)
    go_enter Try.func8, Try.ntmps8
    go_wp2_with fail
    go_ret
    exact ⟨rfl, Below.refl _ _⟩
  have hda : decide ((1048576 : Int) < (a.length : Int)) = false := decide_eq_false (by omega)
  have hlea : a.length ≤ 1048576 := by omega
  have hdb : decide ((1048576 : Int) < (b.length : Int)) = false := decide_eq_false (by omega)
  have hleb : b.length ≤ 1048576 := by omega
  have hds : decide ((1048576 : Int) < (s.size : Int)) = false := decide_eq_false (by omega)
  have hles : s.size ≤ 1048576 := by omega
  clear hla hlb hls
  obtain ⟨r, k, HT⟩ : ∃ x k, Hid (textV (answersToB t a b u s v) = x ∧ (answersToB t a b u s v).isSome = k) := ⟨_, _, rfl, rfl⟩
  have HB : Hid (Below w.heap.size w w) := Below.refl _ _
  go_enter Try.func8, Try.ntmps8
  go_wp2_with fail
  refine (lToIntS _ _ _ a _ rfl hlea (by first | exact HAa.out.below HB.out | exact HAa.out.below (bel_drewN HB.out _))).mono ?_
  rintro e w1 ⟨v, rfl, ho, hb⟩
  obtain ⟨A1, c1, rfl, hc1, hm1, hn1, ha1⟩ := ho.form
  have hsz1 : w.heap.size ≤ w1.heap.size := hb.size
  replace HB := Lib.hid (bel_trans (by first | exact HB.out | exact bel_drewN HB.out _) hb)
  have HM1 := Lib.hid hm1
  have HA1 : Hid (∀ ad, A1 = some ad → w.heap.size ≤ ad.block ∧ ad.block < w1.heap.size) := ha1
  have HN1 := Lib.hid hn1
  have HO1 : Hid (Owns w1 w.heap.size _ _) := ho
  clear ho hb hm1 hn1 ha1
  go_wp2_with fail
  refine (lToIntS _ _ _ b _ rfl hleb (by first | exact HAb.out.below HB.out | exact HAb.out.below (bel_drewN HB.out _))).mono ?_
  rintro e w2 ⟨v, rfl, ho, hb⟩
  obtain ⟨A2, c2, rfl, hc2, hm2, hn2, ha2⟩ := ho.form
  have hsz2 : w1.heap.size ≤ w2.heap.size := hb.size
  replace HB := Lib.hid (bel_trans (by first | exact HB.out | exact bel_drewN HB.out _) hb)
  replace HN1 := Lib.hid (Nums.below (by exact HN1.out) hb)
  replace HO1 := Lib.hid (Owns.below (by exact HO1.out) hb)
  have HM2 := Lib.hid hm2
  have HA2 : Hid (∀ ad, A2 = some ad → w1.heap.size ≤ ad.block ∧ ad.block < w2.heap.size) := ha2
  have HN2 := Lib.hid hn2
  have HO2 : Hid (Owns w2 w1.heap.size _ _) := ho
  clear ho hb hm2 hn2 ha2
  go_wp2_with fail
  refine (sAnswersTo_is HT (Owns.row (by exact HO1.out) hlea) (Owns.row (by exact HO2.out) hleb) hles).mono ?_
  rintro e w' ⟨rfl, m1, rfl⟩
  go_wp2_with fail
  refine (lToIntS _ _ _ a _ rfl hlea (by first | exact HAa.out.below HB.out | exact HAa.out.below (bel_drewN HB.out _))).mono ?_
  rintro e w3 ⟨v, rfl, ho, hb⟩
  obtain ⟨A3, c3, rfl, hc3, hm3, hn3, ha3⟩ := ho.form
  have hsz3 : w2.heap.size ≤ w3.heap.size := hb.size
  replace HB := Lib.hid (bel_trans (by first | exact HB.out | exact bel_drewN HB.out _) hb)
  replace HN1 := Lib.hid (Nums.below (by exact HN1.out) hb)
  replace HO1 := Lib.hid (Owns.below (by exact HO1.out) hb)
  replace HN2 := Lib.hid (Nums.below (by exact HN2.out) hb)
  replace HO2 := Lib.hid (Owns.below (by exact HO2.out) hb)
  have HM3 := Lib.hid hm3
  have HA3 : Hid (∀ ad, A3 = some ad → w2.heap.size ≤ ad.block ∧ ad.block < w3.heap.size) := ha3
  have HN3 := Lib.hid hn3
  have HO3 : Hid (Owns w3 w2.heap.size _ _) := ho
  clear ho hb hm3 hn3 ha3
  go_wp2_with fail
  refine (lToIntS _ _ _ b _ rfl hleb (by first | exact HAb.out.below HB.out | exact HAb.out.below (bel_drewN HB.out _))).mono ?_
  rintro e w4 ⟨v, rfl, ho, hb⟩
  obtain ⟨A4, c4, rfl, hc4, hm4, hn4, ha4⟩ := ho.form
  have hsz4 : w3.heap.size ≤ w4.heap.size := hb.size
  replace HB := Lib.hid (bel_trans (by first | exact HB.out | exact bel_drewN HB.out _) hb)
  replace HN1 := Lib.hid (Nums.below (by exact HN1.out) hb)
  replace HO1 := Lib.hid (Owns.below (by exact HO1.out) hb)
  replace HN2 := Lib.hid (Nums.below (by exact HN2.out) hb)
  replace HO2 := Lib.hid (Owns.below (by exact HO2.out) hb)
  replace HN3 := Lib.hid (Nums.below (by exact HN3.out) hb)
  replace HO3 := Lib.hid (Owns.below (by exact HO3.out) hb)
  have HM4 := Lib.hid hm4
  have HA4 : Hid (∀ ad, A4 = some ad → w3.heap.size ≤ ad.block ∧ ad.block < w4.heap.size) := ha4
  have HN4 := Lib.hid hn4
  have HO4 : Hid (Owns w4 w3.heap.size _ _) := ho
  clear ho hb hm4 hn4 ha4
  go_wp2_with fail
  refine (iAnswersTo_is HT (Owns.row (by exact HO3.out) hlea) (Owns.row (by exact HO4.out) hleb) hles).mono ?_
  rintro e wG ⟨rfl, hb⟩
  replace HB := Lib.hid (bel_trans (by first | exact HB.out | exact bel_drewN HB.out _) hb)
  replace HN1 := Lib.hid (Nums.below (by exact HN1.out) hb)
  replace HO1 := Lib.hid (Owns.below (by exact HO1.out) hb)
  replace HN2 := Lib.hid (Nums.below (by exact HN2.out) hb)
  replace HO2 := Lib.hid (Owns.below (by exact HO2.out) hb)
  replace HN3 := Lib.hid (Nums.below (by exact HN3.out) hb)
  replace HO3 := Lib.hid (Owns.below (by exact HO3.out) hb)
  replace HN4 := Lib.hid (Nums.below (by exact HN4.out) hb)
  replace HO4 := Lib.hid (Owns.below (by exact HO4.out) hb)
  clear hb
  go_wp2_with fail
  refine (lToIntS _ _ _ a _ rfl hlea (by first | exact HAa.out.below HB.out | exact HAa.out.below (bel_drewN HB.out _))).mono ?_
  rintro e w5 ⟨v, rfl, ho, hb⟩
  obtain ⟨A5, c5, rfl, hc5, hm5, hn5, ha5⟩ := ho.form
  have hsz5 : wG.heap.size ≤ w5.heap.size := hb.size
  replace HB := Lib.hid (bel_trans (by first | exact HB.out | exact bel_drewN HB.out _) hb)
  replace HN1 := Lib.hid (Nums.below (by exact HN1.out) hb)
  replace HO1 := Lib.hid (Owns.below (by exact HO1.out) hb)
  replace HN2 := Lib.hid (Nums.below (by exact HN2.out) hb)
  replace HO2 := Lib.hid (Owns.below (by exact HO2.out) hb)
  replace HN3 := Lib.hid (Nums.below (by exact HN3.out) hb)
  replace HO3 := Lib.hid (Owns.below (by exact HO3.out) hb)
  replace HN4 := Lib.hid (Nums.below (by exact HN4.out) hb)
  replace HO4 := Lib.hid (Owns.below (by exact HO4.out) hb)
  have HM5 := Lib.hid hm5
  have HA5 : Hid (∀ ad, A5 = some ad → wG.heap.size ≤ ad.block ∧ ad.block < w5.heap.size) := ha5
  have HN5 := Lib.hid hn5
  have HO5 : Hid (Owns w5 wG.heap.size _ _) := ho
  clear ho hb hm5 hn5 ha5
  go_wp2_with fail
  refine (lEqIntS _ _ _ _ _ _ a a _ rfl rfl (by omega) (by omega) (by exact HN3.out) (by exact HN5.out)).mono ?_
  rintro e w' ⟨rfl, m2, rfl⟩
  go_wp2_with fail
  refine (lToIntS _ _ _ b _ rfl hleb (by first | exact HAb.out.below HB.out | exact HAb.out.below (bel_drewN HB.out _))).mono ?_
  rintro e w6 ⟨v, rfl, ho, hb⟩
  obtain ⟨A6, c6, rfl, hc6, hm6, hn6, ha6⟩ := ho.form
  have hsz6 : w5.heap.size ≤ w6.heap.size := hb.size
  replace HB := Lib.hid (bel_trans (by first | exact HB.out | exact bel_drewN HB.out _) hb)
  replace HN1 := Lib.hid (Nums.below (by exact HN1.out) hb)
  replace HO1 := Lib.hid (Owns.below (by exact HO1.out) hb)
  replace HN2 := Lib.hid (Nums.below (by exact HN2.out) hb)
  replace HO2 := Lib.hid (Owns.below (by exact HO2.out) hb)
  replace HN3 := Lib.hid (Nums.below (by exact HN3.out) hb)
  replace HO3 := Lib.hid (Owns.below (by exact HO3.out) hb)
  replace HN4 := Lib.hid (Nums.below (by exact HN4.out) hb)
  replace HO4 := Lib.hid (Owns.below (by exact HO4.out) hb)
  replace HN5 := Lib.hid (Nums.below (by exact HN5.out) hb)
  replace HO5 := Lib.hid (Owns.below (by exact HO5.out) hb)
  have HM6 := Lib.hid hm6
  have HA6 : Hid (∀ ad, A6 = some ad → w5.heap.size ≤ ad.block ∧ ad.block < w6.heap.size) := ha6
  have HN6 := Lib.hid hn6
  have HO6 : Hid (Owns w6 w5.heap.size _ _) := ho
  clear ho hb hm6 hn6 ha6
  go_wp2_with fail
  refine (lEqIntS _ _ _ _ _ _ b b _ rfl rfl (by omega) (by omega) (by exact HN4.out) (by exact HN6.out)).mono ?_
  rintro e w' ⟨rfl, m3, rfl⟩
  go_wp2_with fail
  go_ret
  exact ⟨rfl, by first | exact HB.out | exact bel_drewN HB.out _⟩

end Go.Proofs.Ytpjpbemgjniljaa

namespace Go.Proofs.Ytpjpbemgjniljaa
open Go.RowKit

section
variable {t : Int} {asks issue : List Int} {u : Int}
theorem issue_nodup {xs : List Int} (h : issueOkB t xs = true) : xs.Nodup := by
  have asc : xs.Pairwise (· < ·) := by
    rw [← issue_tidy h]; exact tidy_asc xs
  exact asc_nodup asc
theorem asked_cases : asksNeededI t asks issue u = -1 ∨ (0 ≤ asksNeededI t asks issue u ∧ asksNeededI t asks issue u ≤ 5 ∧ ok7 t asks issue u = true ∧ asksNeededI t asks issue u = needs asks issue u) := by
  unfold asksNeededI
  by_cases h : ok7 t asks issue u = true
  · rw [if_pos h]
    have h2 := (ok7_parts h).2.2.1
    have := needs_range asks issue h2
    by_cases hn : needs asks issue u = -1
    · exact .inl hn
    · exact .inr ⟨by omega, by omega, h, rfl⟩
  · rw [if_neg h]; exact .inl rfl
theorem ok7_of (ha : ∀ q ∈ asks, setOkB t q = true) (hl : asks.length ≤ 5) (hi : issueOkB t issue = true) (hu : setOkB t u = true) : ok7 t asks issue u = true := by
  unfold ok7
  rw [hi, hu, decide_eq_true hl, List.all_eq_true.2 ha]; rfl
theorem ok7_sets (h : ok7 t asks issue u = true) : ∀ q ∈ asks, setOkB t q = true := by
  unfold ok7 at h
  simp only [Bool.and_eq_true, List.all_eq_true] at h
  exact h.1.1.1
theorem ok7_less (h : ok7 t asks issue u = true) (c : Int) : ok7 t asks issue (andI u c) = true := by
  obtain ⟨_, _, _, _, hl, hi, hu⟩ := ok7_parts h
  exact ok7_of (ok7_sets h) hl hi (andI_ok hu)
theorem law_less (h0 : 0 ≤ asksNeededI t asks issue u) (c : Int) : 0 ≤ asksNeededI t asks issue (andI u c) ∧ asksNeededI t asks issue (andI u c) ≤ asksNeededI t asks issue u := by
  rcases asked_cases (t := t) (asks := asks) (issue := issue) (u := u) with h | ⟨_, _, hok, he⟩
  · omega
  · rw [he] at h0 ⊢
    have h2 := (ok7_parts hok).2.2.1
    have e : asksNeededI t asks issue (andI u c) = needs asks issue (andI u c) := by unfold asksNeededI; rw [if_pos (ok7_less hok c)]
    rw [e]
    exact need_fewer h2 (and_pos u c) ((within_iff (and_pos u c)).2 fun i hi => by
      have := has_yes u c
      have hh : hasW (andI u c) i = true := hi
      rw [this] at hh
      unfold yesF at hh
      rw [Bool.and_eq_true] at hh
      exact hh.1) h0
theorem law_longer (h0 : 0 ≤ asksNeededI t asks issue u) (hl : asks.length < 5) : 0 ≤ asksNeededI t (asks ++ [1]) issue u ∧ asksNeededI t (asks ++ [1]) issue u ≤ asksNeededI t asks issue u := by
  rcases asked_cases (t := t) (asks := asks) (issue := issue) (u := u) with h | ⟨_, _, hok, he⟩
  · omega
  · rw [he] at h0 ⊢
    obtain ⟨_, _, h2, _, _, hi, hu⟩ := ok7_parts hok
    have ht := things7 hok
    have hok2 : ok7 t (asks ++ [1]) issue u = true := ok7_of (fun q hq => by
      rcases List.mem_append.1 hq with hq | hq
      · exact ok7_sets hok q hq
      · rw [List.mem_singleton] at hq
        subst hq
        have : t = 1 ∨ t = 2 ∨ t = 3 := by omega
        rcases this with rfl | rfl | rfl <;> decide) (by rw [List.length_append, List.length_singleton]; omega) hi hu
    have e : asksNeededI t (asks ++ [1]) issue u = needs (asks ++ [1]) issue u := by unfold asksNeededI; rw [if_pos hok2]
    rw [e]
    exact need_longer h2 (fun q hq => List.mem_append_left _ hq) h0
theorem law_zero (h0 : 0 ≤ asksNeededI t asks issue u) : decide (asksNeededI t asks issue u = 0) = settlesB t issue u := by
  rcases asked_cases (t := t) (asks := asks) (issue := issue) (u := u) with h | ⟨_, _, hok, he⟩
  · omega
  · obtain ⟨_, _, h2, _, _, hi, hu⟩ := ok7_parts hok
    rw [he]
    unfold settlesB
    rw [hi, hu, Bool.true_and, Bool.true_and]
    rw [Bool.eq_iff_iff, decide_eq_true_eq]
    exact need_none h2
/-- How many of the first sets have a world in common with a set. -/
def manyTo (issue : List Int) (u : Int) (k : Nat) : Nat := ((issue.take k).filter fun x => decide (andI x u ≠ 0)).length
theorem many_next {x : Int} {k : Nat} (hx : Hid (issue[k]? = some x)) : manyTo issue u (k + 1) = manyTo issue u k + if andI x u ≠ 0 then 1 else 0 := by
  unfold manyTo
  rw [take_snoc hx, List.filter_append, List.length_append]
  by_cases h : andI x u ≠ 0
  · rw [if_pos h, List.filter_cons_of_pos (by simpa using h)]; rfl
  · rw [if_neg h, List.filter_cons_of_neg (by simpa using h)]; rfl
theorem common {a b : Int} (h : andI a b ≠ 0) : ∃ w, hasW a w = true ∧ hasW b w = true := by
  apply Classical.byContradiction
  intro hn
  apply h
  refine has_ext (and_pos a b) (Int.le_refl 0) fun w => ?_
  rw [has_yes]
  unfold yesF
  have h0 : hasW 0 w = false := by unfold hasW; simp
  rw [h0]
  cases ha : hasW a w
  · rfl
  · cases hb : hasW b w
    · rfl
    · exact absurd ⟨w, ha, hb⟩ hn
theorem law_many (h0 : 0 ≤ asksNeededI t asks issue u) (hp : isPartB t issue = true) : manyTo issue u issue.length ≤ 2 ^ (asksNeededI t asks issue u).toNat := by
  rcases asked_cases (t := t) (asks := asks) (issue := issue) (u := u) with h | ⟨_, _, hok, he⟩
  · omega
  · rw [he] at h0 ⊢
    obtain ⟨_, _, h2, _, _, hi, hu⟩ := ok7_parts hok
    obtain ⟨h1, h3⟩ := things7 hok
    have hsets := issue_sets hi
    rcases (need_least asks issue 5 u h2).1 with g | ⟨_, _, g⟩
    · have : needs asks issue u = -1 := g
      omega
    · unfold manyTo
      rw [List.take_length]
      refine need_many (asks := asks) (issue := issue) (fun p hpm q hqm w hw hw2 => ?_) _ _ g _ ((issue_nodup hi).filter _) (fun p hpm => ?_)
      · have hlt : w < nWorlds t := has_lt h1 h3 (setOkB_lt (hsets p hpm)).2.2.1 (setOkB_lt (hsets p hpm)).2.2.2.1 hw
        obtain ⟨x, _, _, hx⟩ := part_unique hp hlt
        rw [hx p hpm hw, hx q hqm hw2]
      · obtain ⟨hm, hd⟩ := List.mem_filter.1 hpm
        rw [decide_eq_true_eq] at hd
        exact ⟨hm, common hd⟩

theorem law_planNeed {s : ByteArray} {x : PlanT} (h : settlingP t asks issue u s = some x) : 0 ≤ asksNeededI t asks issue u ∧ asksNeededI t asks issue u ≤ (depthP x : Int) := by
  obtain ⟨hok, _, ho⟩ := settling_is h
  obtain ⟨_, _, h2, _, hl, _, _⟩ := ok7_parts hok
  unfold asksNeededI
  rw [if_pos hok]
  exact need_plan h2 hl (ok_can x u h2 ho)
theorem law_planLess {s : ByteArray} {x : PlanT} (h : settlingP t asks issue u s = some x) (c : Int) : settlingP t asks issue (andI u c) s = some x := by
  obtain ⟨hok, hp, ho⟩ := settling_is h
  obtain ⟨_, _, h2, _, hl, _, _⟩ := ok7_parts hok
  have ho2 : okP asks issue x (andI u c) = true := ok_less x u (andI u c) h2 (and_pos u c) (by rw [has_yes]; exact yes_less _ _) ho
  unfold settlingP
  rw [if_pos (ok7_less hok c), hp]
  simp only
  rw [if_pos ho2]
theorem ansB_inj : ∀ {l m : List Bool}, ansB l = ansB m → l = m := by
  intro l m h
  have key : ∀ l : List Bool, (ansB l).data.toList = l.map fun b => if b = true then 121 else 110 := by
    intro l
    induction l with
    | nil => rfl
    | cons b r ih =>
      show ((if b = true then (⟨#[121]⟩ : ByteArray) else ⟨#[110]⟩) ++ ansB r).data.toList = _
      rw [ByteArray.data_append, Array.toList_append, ih]
      cases b <;> rfl
  have h2 := congrArg (fun b : ByteArray => b.data.toList) h
  simp only [key] at h2
  clear h key
  induction l generalizing m with
  | nil =>
    cases m with
    | nil => rfl
    | cons b r => cases h2
  | cons a r ih =>
    cases m with
    | nil => cases h2
    | cons b q =>
      rw [List.map_cons, List.map_cons] at h2
      injection h2 with e1 e2
      rw [ih e2]
      cases a <;> cases b <;> first | rfl | (exact absurd e1 (by decide))
/-- The worlds with the same answers. -/
def sameAns (t : Int) (asks issue : List Int) (u : Int) (s b : ByteArray) : Nat → Nat := setOfW fun v => decide (answersToB t asks issue u s v = some b)
theorem law_same {s b : ByteArray} {v : Int} (h : answersToB t asks issue u s v = some b) : settlesB t issue (sameAns t asks issue u s b (nWorlds t) : Int) = true ∧ (b.size : Int) ≤ planAsksI t asks issue u s := by
  rcases hp : settlingP t asks issue u s with _ | x
  · rw [answersTo_none hp] at h; cases h
  · obtain ⟨hok, hpo, ho⟩ := settling_is hp
    obtain ⟨_, _, h2, _, _, hi, hu⟩ := ok7_parts hok
    obtain ⟨h1, h3⟩ := things7 hok
    by_cases hv : 0 ≤ v ∧ v < worldsOf t ∧ hasW u v.toNat = true
    · have hb : ansB (answersP asks v.toNat x) = b := by
        unfold answersToB at h
        rw [hp] at h
        simp only at h
        rw [if_pos hv] at h
        exact Option.some.inj h
      have hbit : ∀ w, hasW (sameAns t asks issue u s b (nWorlds t) : Int) w = (decide (w < nWorlds t) && decide (answersToB t asks issue u s w = some b)) := fun w => by
        unfold hasW sameAns
        rw [Int.toNat_natCast, setOfW_bit]
      have hset := answers_settle (issue := issue) v.toNat x u h2 ho
      have hlt := setOfW_lt (fun v : Nat => decide (answersToB t asks issue u s v = some b)) (nWorlds t)
      have hok2 : setOkB t (sameAns t asks issue u s b (nWorlds t) : Int) = true := by
        refine setOk_of h1 h3 (Int.natCast_nonneg _) ?_
        have e : ((2 ^ nWorlds t : Nat) : Int) - 1 = allOf t := by
          have : t = 1 ∨ t = 2 ∨ t = 3 := by omega
          rcases this with rfl | rfl | rfl <;> rfl
        unfold sameAns
        omega
      constructor
      · unfold settlesB
        rw [hi, hok2, Bool.true_and, Bool.true_and]
        refine (any_inOne (Int.natCast_nonneg _)).2 (inOne_down issue _ _ (fun w hw => ?_) hset)
        rw [hbit, Bool.and_eq_true, decide_eq_true_eq, decide_eq_true_eq] at hw
        obtain ⟨_, hw⟩ := hw
        unfold answersToB at hw
        rw [hp] at hw
        simp only at hw
        by_cases hc : 0 ≤ (w : Int) ∧ (w : Int) < worldsOf t ∧ hasW u (w : Int).toNat = true
        · rw [if_pos hc, Int.toNat_natCast] at hw
          rw [Int.toNat_natCast] at hc
          rw [hc.2.2, Bool.true_and, decide_eq_true_eq]
          exact ansB_inj (by rw [Option.some.inj hw, hb])
        · rw [if_neg hc] at hw; cases hw
      · rw [planAsks_eq, hp]
        simp only
        rw [← hb, ansB_size]
        have := answersP_len asks v.toNat x
        omega
    · rw [answersTo_no hp hv] at h; cases h
end
end Go.Proofs.Ytpjpbemgjniljaa
