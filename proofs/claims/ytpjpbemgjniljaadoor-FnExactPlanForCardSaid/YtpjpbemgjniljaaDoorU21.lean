/-
  What the proofs of this seat's statements share (PlnJ, TxtG).
-/
import Derived.Test.YtpjpbemgjniljaaDoorTie
import Derived.LaidMore
import Derived.ProofKit
import Derived.OpenShut
import Derived.Test.YtpjpbemgjniljaaDoorU20
import Derived.Test.YtpjpbemgjniljaaDoorU19

namespace Go.Proofs.YtpjpbemgjniljaaDoor
open Go.RowKit

theorem iPlanFor_is {t : Int} {asks issue : List Int} {u : Int} {b : ByteArray} {k : Bool} (h : Hid (textV (planForB t asks issue u) = b ∧ (planForB t asks issue u).isSome = k)) {A B : Option Addr} {na ca nb cb : Nat} {w : World} (ha : Row w A na ca asks) (hb : Row w B nb cb issue) :
    Calls Tryd.prog 6 #[.int .i64 t, .slice A na ca, .slice B nb cb, .int .i64 u] w fun e w' => e = .returned (.tuple #[.string b, .bool k]) ∧ Below w.heap.size w w' := by
  refine (iPlanFor t A B na ca nb cb asks issue u w ha hb).mono ?_
  intro e w' hp
  obtain ⟨h1, h2⟩ := h.out
  rcases ho : planForB t asks issue u with _ | x
  · rw [ho] at hp h1 h2; subst h1 h2; exact hp
  · rw [ho] at hp h1 h2; subst h1 h2; exact hp
theorem sPlanFor_is {t : Int} {asks issue : List Int} {u : Int} {b : ByteArray} {k : Bool} (h : Hid (textV (planForB t asks issue u) = b ∧ (planForB t asks issue u).isSome = k)) {A B : Option Addr} {na ca nb cb : Nat} {w : World} (ha : Row w A na ca asks) (hb : Row w B nb cb issue) :
    Calls Tryd.prog 7 #[.int .i64 t, .slice A na ca, .slice B nb cb, .int .i64 u] w fun e w' => e = .returned (.tuple #[.string b, .bool k]) ∧ Below w.heap.size w w' := by
  refine (sPlanFor t A B na ca nb cb asks issue u w ha hb).mono ?_
  intro e w' hp
  obtain ⟨h1, h2⟩ := h.out
  rcases ho : planForB t asks issue u with _ | x
  · rw [ho] at hp h1 h2; subst h1 h2; exact hp
  · rw [ho] at hp h1 h2; subst h1 h2; exact hp
theorem planB_bytes : ∀ (p : PlanT), knowsP 5 p → bytesN (planB p) = textP p
  | .dot, _ => rfl
  | .ask k y n, ⟨hk, h1, h2⟩ => by
    have e1 := planB_bytes y h1
    have e2 := planB_bytes n h2
    have hap : ∀ a b : ByteArray, bytesN (a ++ b) = bytesN a ++ bytesN b := fun a b => by
      unfold bytesN
      rw [ByteArray.data_append, Array.toList_append, List.map_append]
    show bytesN ((((digitB k ++ ⟨#[40]⟩) ++ planB y) ++ planB n) ++ ⟨#[41]⟩) = (48 + k) :: 40 :: (textP y ++ (textP n ++ [41]))
    rw [hap, hap, hap, hap, e1, e2]
    have hd : bytesN (digitB k) = [48 + k] := by
      have : k = 0 ∨ k = 1 ∨ k = 2 ∨ k = 3 ∨ k = 4 := by omega
      rcases this with rfl | rfl | rfl | rfl | rfl <;> rfl
    rw [hd, show bytesN (⟨#[40]⟩ : ByteArray) = [40] from rfl, show bytesN (⟨#[41]⟩ : ByteArray) = [41] from rfl]
    simp
theorem size_text : ∀ p : PlanT, sizeP p ≤ (textP p).length
  | .dot => Nat.le_refl _
  | .ask k y n => by
    have h1 := size_text y
    have h2 := size_text n
    unfold sizeP textP
    simp
    omega
theorem knows_le {m n : Nat} (h : m ≤ n) : ∀ p : PlanT, knowsP m p → knowsP n p
  | .dot, _ => trivial
  | .ask _ y z, ⟨h1, h2, h3⟩ => ⟨by omega, knows_le h y h2, knows_le h z h3⟩
/-- Best plans need no more. -/
theorem law_planFor {t : Int} {asks issue : List Int} {u : Int} {b : ByteArray} (h : planForB t asks issue u = some b) (hs : b.size ≤ 60) : planAsksI t asks issue u b = asksNeededI t asks issue u := by
  unfold planForB at h
  by_cases h0 : 0 ≤ asksNeededI t asks issue u
  · rw [if_pos h0] at h
    have hb := Option.some.inj h
    rcases asked_cases (t := t) (asks := asks) (issue := issue) (u := u) with g | ⟨_, _, hok, he⟩
    · omega
    · obtain ⟨_, _, h2, _, hl, _, _⟩ := ok7_parts hok
      rw [he] at h0 ⊢
      obtain ⟨p1, p2⟩ := plan_ok asks issue 5 u h2 h0
      have hk := ok_knows _ _ p1
      have hbt : bytesN b = textP (planI asks issue 5 u) := by rw [← hb]; exact planB_bytes _ (knows_le hl _ hk)
      have hsz : (textP (planI asks issue 5 u)).length = b.size := by rw [← hbt, bytesN_len]
      have hpo : planOf asks.length b = some (planI asks issue 5 u) := by
        refine planOf_some hs ?_
        have := readP_text asks.length (planI asks issue 5 u) (b.size + 1) [] hk (by have := size_text (planI asks issue 5 u); omega)
        rw [List.append_nil, ← hbt] at this
        exact this
      rw [planAsks_eq]
      unfold settlingP
      rw [if_pos hok, hpo]
      simp only
      rw [if_pos p1]
      exact p2
  · rw [if_neg h0] at h; cases h
set_option maxRecDepth 100000 in
set_option maxHeartbeats 4000000 in
theorem wPlanFor (A : Option Addr) (nn c : Nat) (zs : List Int) (w : World) (hn : nn = zs.length) (hc : nn ≤ c) (hm : c ≤ maxLen) (hr : ∀ z ∈ zs, 0 ≤ z ∧ z ≤ 255) (hA : Nums .u8 w A zs) :
    Calls Tryd.prog 3 #[.slice A nn c] w fun e w' => e = .returned (.bool true) ∧ Below w.heap.size w w' := by
  have HO := Lib.hid (drawPlanFor_any A nn c zs w hn hc hm hr hA)
  have hm' : nn ≤ 9223372036854775807 := by unfold maxLen at hm; omega
  clear hn hc hm hr hA
  by_cases hl : 1048576 < nn
  · have hd : decide ((1048576 : Int) < (nn : Int)) = true := decide_eq_true (by omega)
    go_enter Tryd.func3, Tryd.ntmps3
    go_wp2_with fail
    go_ret
    exact ⟨rfl, Below.refl _ _⟩
  have hd : decide ((1048576 : Int) < (nn : Int)) = false := decide_eq_false (by omega)
  clear hl
  go_enter Tryd.func3, Tryd.ntmps3
  go_wp2_with fail
  refine HO.out.mono ?_
  rintro e w1 ⟨t, v1, a, v2, b, u, rfl, ht0, ht1, ho1, hl1, ho2, hl2, hu0, hu1, hb⟩
  obtain ⟨A1, c1, rfl, _, _, _, _⟩ := ho1.form
  obtain ⟨A2, c2, rfl, _, _, _, _⟩ := ho2.form
  have HRa := Lib.hid (Owns.row ho1 (by omega))
  have HRb := Lib.hid (Owns.row ho2 (by omega))
  have HB := Lib.hid hb
  clear hb ho1 ho2 HO hd
  rcases hp : planForB t a b u with _ | bb
  · have HP : Hid (textV (planForB t a b u) = ⟨#[]⟩ ∧ (planForB t a b u).isSome = false) := by unfold Hid; rw [hp]; exact ⟨rfl, rfl⟩
    have HN : Hid (asksNeededI t a b u = -1) := by
      unfold Hid
      unfold planForB at hp
      by_cases h0 : 0 ≤ asksNeededI t a b u
      · rw [if_pos h0] at hp; cases hp
      · rcases asked_cases (t := t) (asks := a) (issue := b) (u := u) with g | ⟨g, _⟩
        · exact g
        · exact absurd g h0
    clear hp
    go_wp2_with fail
    refine (iPlanFor_is HP (by first | exact HRa.out | exact Row.drewN HRa.out _) (by first | exact HRb.out | exact Row.drewN HRb.out _)).mono ?_
    rintro e w' ⟨rfl, hb⟩
    replace HRa := Lib.hid (Row.below (by first | exact HRa.out | exact Row.drewN HRa.out _) hb)
    replace HRb := Lib.hid (Row.below (by first | exact HRb.out | exact Row.drewN HRb.out _) hb)
    replace HB := Lib.hid (bel_trans (by first | exact HB.out | exact bel_drewN HB.out _) hb)
    clear hb
    go_wp2_with fail
    refine (sPlanFor_is HP (by first | exact HRa.out | exact Row.drewN HRa.out _) (by first | exact HRb.out | exact Row.drewN HRb.out _)).mono ?_
    rintro e w' ⟨rfl, hb⟩
    replace HRa := Lib.hid (Row.below (by first | exact HRa.out | exact Row.drewN HRa.out _) hb)
    replace HRb := Lib.hid (Row.below (by first | exact HRb.out | exact Row.drewN HRb.out _) hb)
    replace HB := Lib.hid (bel_trans (by first | exact HB.out | exact bel_drewN HB.out _) hb)
    clear hb
    go_wp2_with fail
    refine (iAsksNeeded_is HN (by first | exact HRa.out | exact Row.drewN HRa.out _) (by first | exact HRb.out | exact Row.drewN HRb.out _)).mono ?_
    rintro e w' ⟨rfl, hb⟩
    replace HRa := Lib.hid (Row.below (by first | exact HRa.out | exact Row.drewN HRa.out _) hb)
    replace HRb := Lib.hid (Row.below (by first | exact HRb.out | exact Row.drewN HRb.out _) hb)
    replace HB := Lib.hid (bel_trans (by first | exact HB.out | exact bel_drewN HB.out _) hb)
    clear hb
    go_wp2_with fail
    refine (lAlive _).mono ?_
    rintro e w' ⟨rfl, rfl⟩
    go_wp2_with fail
    go_ret
    exact ⟨rfl, HB.out⟩
  · have HP : Hid (textV (planForB t a b u) = bb ∧ (planForB t a b u).isSome = true) := by unfold Hid; rw [hp]; exact ⟨rfl, rfl⟩
    obtain ⟨n, HN⟩ : ∃ n, Hid (asksNeededI t a b u = n) := ⟨_, rfl⟩
    have hsz : bb.size ≤ 256 := by
      unfold planForB at hp
      by_cases h0 : 0 ≤ asksNeededI t a b u
      · rw [if_pos h0] at hp
        rw [← Option.some.inj hp]
        exact planI_size (by omega) u
      · rw [if_neg h0] at hp; cases hp
    by_cases h60 : 60 < bb.size
    · have hdz : decide ((60 : Int) < (bb.size : Int)) = true := decide_eq_true (by omega)
      have hdz2 : decide (60 < bb.size) = true := decide_eq_true h60
      clear hp
      go_wp2_with fail
      refine (iPlanFor_is HP (by first | exact HRa.out | exact Row.drewN HRa.out _) (by first | exact HRb.out | exact Row.drewN HRb.out _)).mono ?_
      rintro e w' ⟨rfl, hb⟩
      replace HRa := Lib.hid (Row.below (by first | exact HRa.out | exact Row.drewN HRa.out _) hb)
      replace HRb := Lib.hid (Row.below (by first | exact HRb.out | exact Row.drewN HRb.out _) hb)
      replace HB := Lib.hid (bel_trans (by first | exact HB.out | exact bel_drewN HB.out _) hb)
      clear hb
      go_wp2_with fail
      refine (sPlanFor_is HP (by first | exact HRa.out | exact Row.drewN HRa.out _) (by first | exact HRb.out | exact Row.drewN HRb.out _)).mono ?_
      rintro e w' ⟨rfl, hb⟩
      replace HRa := Lib.hid (Row.below (by first | exact HRa.out | exact Row.drewN HRa.out _) hb)
      replace HRb := Lib.hid (Row.below (by first | exact HRb.out | exact Row.drewN HRb.out _) hb)
      replace HB := Lib.hid (bel_trans (by first | exact HB.out | exact bel_drewN HB.out _) hb)
      clear hb
      go_wp2_with fail
      go_ret
      exact ⟨rfl, HB.out⟩
    · have hdz : decide ((60 : Int) < (bb.size : Int)) = false := decide_eq_false (by omega)
      have hdz2 : decide (60 < bb.size) = false := decide_eq_false h60
      have HPA : Hid (planAsksI t a b u bb = n) := by unfold Hid; rw [law_planFor hp (by omega), HN.out]
      clear hp
      go_wp2_with fail
      refine (iPlanFor_is HP (by first | exact HRa.out | exact Row.drewN HRa.out _) (by first | exact HRb.out | exact Row.drewN HRb.out _)).mono ?_
      rintro e w' ⟨rfl, hb⟩
      replace HRa := Lib.hid (Row.below (by first | exact HRa.out | exact Row.drewN HRa.out _) hb)
      replace HRb := Lib.hid (Row.below (by first | exact HRb.out | exact Row.drewN HRb.out _) hb)
      replace HB := Lib.hid (bel_trans (by first | exact HB.out | exact bel_drewN HB.out _) hb)
      clear hb
      go_wp2_with fail
      refine (sPlanFor_is HP (by first | exact HRa.out | exact Row.drewN HRa.out _) (by first | exact HRb.out | exact Row.drewN HRb.out _)).mono ?_
      rintro e w' ⟨rfl, hb⟩
      replace HRa := Lib.hid (Row.below (by first | exact HRa.out | exact Row.drewN HRa.out _) hb)
      replace HRb := Lib.hid (Row.below (by first | exact HRb.out | exact Row.drewN HRb.out _) hb)
      replace HB := Lib.hid (bel_trans (by first | exact HB.out | exact bel_drewN HB.out _) hb)
      clear hb
      go_wp2_with fail
      refine (iPlanAsks_is HPA (by first | exact HRa.out | exact Row.drewN HRa.out _) (by first | exact HRb.out | exact Row.drewN HRb.out _) (by omega)).mono ?_
      rintro e w' ⟨rfl, hb⟩
      replace HRa := Lib.hid (Row.below (by first | exact HRa.out | exact Row.drewN HRa.out _) hb)
      replace HRb := Lib.hid (Row.below (by first | exact HRb.out | exact Row.drewN HRb.out _) hb)
      replace HB := Lib.hid (bel_trans (by first | exact HB.out | exact bel_drewN HB.out _) hb)
      clear hb
      go_wp2_with fail
      refine (iAsksNeeded_is HN (by first | exact HRa.out | exact Row.drewN HRa.out _) (by first | exact HRb.out | exact Row.drewN HRb.out _)).mono ?_
      rintro e w' ⟨rfl, hb⟩
      replace HRa := Lib.hid (Row.below (by first | exact HRa.out | exact Row.drewN HRa.out _) hb)
      replace HRb := Lib.hid (Row.below (by first | exact HRb.out | exact Row.drewN HRb.out _) hb)
      replace HB := Lib.hid (bel_trans (by first | exact HB.out | exact bel_drewN HB.out _) hb)
      clear hb
      go_wp2_with fail
      go_ret
      exact ⟨rfl, HB.out⟩
set_option maxHeartbeats 4000000 in
theorem wExactPlanFor (t : Int) (Aa : Option Addr) (na ca : Nat) (a : List Int) (Ab : Option Addr) (nb cb : Nat) (b : List Int) (u : Int) (w : World) (hna : na = a.length) (hAa : Nums .i64 w Aa a) (hnb : nb = b.length) (hAb : Nums .i64 w Ab b) :
    Calls Tryd.prog 4 #[.int .i64 t, .slice Aa na ca, .slice Ab nb cb, .int .i64 u] w fun e w' => e = .returned (.bool true) ∧ Below w.heap.size w w' := by
  subst hna hnb
  have HAa := Lib.hid hAa
  have HAb := Lib.hid hAb
  clear hAa hAb
  by_cases hla : 1048576 < a.length
  · have hd : decide ((1048576 : Int) < (a.length : Int)) = true := decide_eq_true (by omega)
    go_enter Tryd.func4, Tryd.ntmps4
    go_wp2_with fail
    go_ret
    exact ⟨rfl, Below.refl _ _⟩
  by_cases hlb : 1048576 < b.length
  · have hd : decide ((1048576 : Int) < (b.length : Int)) = true := decide_eq_true (by omega)
    have hda : decide ((1048576 : Int) < (a.length : Int)) = false := decide_eq_false (by omega)
    go_enter Tryd.func4, Tryd.ntmps4
    go_wp2_with fail
    go_ret
    exact ⟨rfl, Below.refl _ _⟩
  have hda : decide ((1048576 : Int) < (a.length : Int)) = false := decide_eq_false (by omega)
  have hlea : a.length ≤ 1048576 := by omega
  have hdb : decide ((1048576 : Int) < (b.length : Int)) = false := decide_eq_false (by omega)
  have hleb : b.length ≤ 1048576 := by omega
  clear hla hlb
  obtain ⟨r, k, HT⟩ : ∃ x k, Hid (textV (planForB t a b u) = x ∧ (planForB t a b u).isSome = k) := ⟨_, _, rfl, rfl⟩
  have HB : Hid (Below w.heap.size w w) := Below.refl _ _
  go_enter Tryd.func4, Tryd.ntmps4
  go_wp2_with fail
  refine (lToIntS _ _ _ a _ rfl hlea (by first | exact HAa.out.below HB.out | exact HAa.out.below (bel_drewN HB.out _))).mono ?_
  rintro e w1 ⟨v, rfl, ho, hb⟩
  obtain ⟨A1, c1, rfl, hc1, hm1, hn1, ha1⟩ := ho.form
  have hsz1 : w.heap.size ≤ w1.heap.size := hb.size
  replace HB := Lib.hid (bel_trans (by first | exact HB.out | exact bel_drewN HB.out _) hb)
  have HM1 := Lib.hid hm1
  have HA1 : Hid (∀ ad, A1 = some ad → w.heap.size ≤ ad.block ∧ ad.block < w1.heap.size) := ha1
  have HN1 := Lib.hid hn1
  have HO1 : Hid (Owns w1 w.heap.size _ _) := ho
  clear ho hb hm1 hn1 ha1
  go_wp2_with fail
  refine (lToIntS _ _ _ b _ rfl hleb (by first | exact HAb.out.below HB.out | exact HAb.out.below (bel_drewN HB.out _))).mono ?_
  rintro e w2 ⟨v, rfl, ho, hb⟩
  obtain ⟨A2, c2, rfl, hc2, hm2, hn2, ha2⟩ := ho.form
  have hsz2 : w1.heap.size ≤ w2.heap.size := hb.size
  replace HB := Lib.hid (bel_trans (by first | exact HB.out | exact bel_drewN HB.out _) hb)
  replace HN1 := Lib.hid (Nums.below (by exact HN1.out) hb)
  replace HO1 := Lib.hid (Owns.below (by exact HO1.out) hb)
  have HM2 := Lib.hid hm2
  have HA2 : Hid (∀ ad, A2 = some ad → w1.heap.size ≤ ad.block ∧ ad.block < w2.heap.size) := ha2
  have HN2 := Lib.hid hn2
  have HO2 : Hid (Owns w2 w1.heap.size _ _) := ho
  clear ho hb hm2 hn2 ha2
  go_wp2_with fail
  refine (sPlanFor_is HT (Owns.row (by exact HO1.out) hlea) (Owns.row (by exact HO2.out) hleb)).mono ?_
  rintro e wS ⟨rfl, hb⟩
  replace HB := Lib.hid (bel_trans (by first | exact HB.out | exact bel_drewN HB.out _) hb)
  replace HN1 := Lib.hid (Nums.below (by exact HN1.out) hb)
  replace HO1 := Lib.hid (Owns.below (by exact HO1.out) hb)
  replace HN2 := Lib.hid (Nums.below (by exact HN2.out) hb)
  replace HO2 := Lib.hid (Owns.below (by exact HO2.out) hb)
  clear hb
  go_wp2_with fail
  refine (lToIntS _ _ _ a _ rfl hlea (by first | exact HAa.out.below HB.out | exact HAa.out.below (bel_drewN HB.out _))).mono ?_
  rintro e w3 ⟨v, rfl, ho, hb⟩
  obtain ⟨A3, c3, rfl, hc3, hm3, hn3, ha3⟩ := ho.form
  have hsz3 : wS.heap.size ≤ w3.heap.size := hb.size
  replace HB := Lib.hid (bel_trans (by first | exact HB.out | exact bel_drewN HB.out _) hb)
  replace HN1 := Lib.hid (Nums.below (by exact HN1.out) hb)
  replace HO1 := Lib.hid (Owns.below (by exact HO1.out) hb)
  replace HN2 := Lib.hid (Nums.below (by exact HN2.out) hb)
  replace HO2 := Lib.hid (Owns.below (by exact HO2.out) hb)
  have HM3 := Lib.hid hm3
  have HA3 : Hid (∀ ad, A3 = some ad → wS.heap.size ≤ ad.block ∧ ad.block < w3.heap.size) := ha3
  have HN3 := Lib.hid hn3
  have HO3 : Hid (Owns w3 wS.heap.size _ _) := ho
  clear ho hb hm3 hn3 ha3
  go_wp2_with fail
  refine (lToIntS _ _ _ b _ rfl hleb (by first | exact HAb.out.below HB.out | exact HAb.out.below (bel_drewN HB.out _))).mono ?_
  rintro e w4 ⟨v, rfl, ho, hb⟩
  obtain ⟨A4, c4, rfl, hc4, hm4, hn4, ha4⟩ := ho.form
  have hsz4 : w3.heap.size ≤ w4.heap.size := hb.size
  replace HB := Lib.hid (bel_trans (by first | exact HB.out | exact bel_drewN HB.out _) hb)
  replace HN1 := Lib.hid (Nums.below (by exact HN1.out) hb)
  replace HO1 := Lib.hid (Owns.below (by exact HO1.out) hb)
  replace HN2 := Lib.hid (Nums.below (by exact HN2.out) hb)
  replace HO2 := Lib.hid (Owns.below (by exact HO2.out) hb)
  replace HN3 := Lib.hid (Nums.below (by exact HN3.out) hb)
  replace HO3 := Lib.hid (Owns.below (by exact HO3.out) hb)
  have HM4 := Lib.hid hm4
  have HA4 : Hid (∀ ad, A4 = some ad → w3.heap.size ≤ ad.block ∧ ad.block < w4.heap.size) := ha4
  have HN4 := Lib.hid hn4
  have HO4 : Hid (Owns w4 w3.heap.size _ _) := ho
  clear ho hb hm4 hn4 ha4
  go_wp2_with fail
  refine (iPlanFor_is HT (Owns.row (by exact HO3.out) hlea) (Owns.row (by exact HO4.out) hleb)).mono ?_
  rintro e wG ⟨rfl, hb⟩
  replace HB := Lib.hid (bel_trans (by first | exact HB.out | exact bel_drewN HB.out _) hb)
  replace HN1 := Lib.hid (Nums.below (by exact HN1.out) hb)
  replace HO1 := Lib.hid (Owns.below (by exact HO1.out) hb)
  replace HN2 := Lib.hid (Nums.below (by exact HN2.out) hb)
  replace HO2 := Lib.hid (Owns.below (by exact HO2.out) hb)
  replace HN3 := Lib.hid (Nums.below (by exact HN3.out) hb)
  replace HO3 := Lib.hid (Owns.below (by exact HO3.out) hb)
  replace HN4 := Lib.hid (Nums.below (by exact HN4.out) hb)
  replace HO4 := Lib.hid (Owns.below (by exact HO4.out) hb)
  clear hb
  go_wp2_with fail
  refine (lToIntS _ _ _ a _ rfl hlea (by first | exact HAa.out.below HB.out | exact HAa.out.below (bel_drewN HB.out _))).mono ?_
  rintro e w5 ⟨v, rfl, ho, hb⟩
  obtain ⟨A5, c5, rfl, hc5, hm5, hn5, ha5⟩ := ho.form
  have hsz5 : wG.heap.size ≤ w5.heap.size := hb.size
  replace HB := Lib.hid (bel_trans (by first | exact HB.out | exact bel_drewN HB.out _) hb)
  replace HN1 := Lib.hid (Nums.below (by exact HN1.out) hb)
  replace HO1 := Lib.hid (Owns.below (by exact HO1.out) hb)
  replace HN2 := Lib.hid (Nums.below (by exact HN2.out) hb)
  replace HO2 := Lib.hid (Owns.below (by exact HO2.out) hb)
  replace HN3 := Lib.hid (Nums.below (by exact HN3.out) hb)
  replace HO3 := Lib.hid (Owns.below (by exact HO3.out) hb)
  replace HN4 := Lib.hid (Nums.below (by exact HN4.out) hb)
  replace HO4 := Lib.hid (Owns.below (by exact HO4.out) hb)
  have HM5 := Lib.hid hm5
  have HA5 : Hid (∀ ad, A5 = some ad → wG.heap.size ≤ ad.block ∧ ad.block < w5.heap.size) := ha5
  have HN5 := Lib.hid hn5
  have HO5 : Hid (Owns w5 wG.heap.size _ _) := ho
  clear ho hb hm5 hn5 ha5
  go_wp2_with fail
  refine (lEqIntS _ _ _ _ _ _ a a _ rfl rfl (by omega) (by omega) (by exact HN3.out) (by exact HN5.out)).mono ?_
  rintro e w' ⟨rfl, m1, rfl⟩
  go_wp2_with fail
  refine (lToIntS _ _ _ b _ rfl hleb (by first | exact HAb.out.below HB.out | exact HAb.out.below (bel_drewN HB.out _))).mono ?_
  rintro e w6 ⟨v, rfl, ho, hb⟩
  obtain ⟨A6, c6, rfl, hc6, hm6, hn6, ha6⟩ := ho.form
  have hsz6 : w5.heap.size ≤ w6.heap.size := hb.size
  replace HB := Lib.hid (bel_trans (by first | exact HB.out | exact bel_drewN HB.out _) hb)
  replace HN1 := Lib.hid (Nums.below (by exact HN1.out) hb)
  replace HO1 := Lib.hid (Owns.below (by exact HO1.out) hb)
  replace HN2 := Lib.hid (Nums.below (by exact HN2.out) hb)
  replace HO2 := Lib.hid (Owns.below (by exact HO2.out) hb)
  replace HN3 := Lib.hid (Nums.below (by exact HN3.out) hb)
  replace HO3 := Lib.hid (Owns.below (by exact HO3.out) hb)
  replace HN4 := Lib.hid (Nums.below (by exact HN4.out) hb)
  replace HO4 := Lib.hid (Owns.below (by exact HO4.out) hb)
  replace HN5 := Lib.hid (Nums.below (by exact HN5.out) hb)
  replace HO5 := Lib.hid (Owns.below (by exact HO5.out) hb)
  have HM6 := Lib.hid hm6
  have HA6 : Hid (∀ ad, A6 = some ad → w5.heap.size ≤ ad.block ∧ ad.block < w6.heap.size) := ha6
  have HN6 := Lib.hid hn6
  have HO6 : Hid (Owns w6 w5.heap.size _ _) := ho
  clear ho hb hm6 hn6 ha6
  go_wp2_with fail
  refine (lEqIntS _ _ _ _ _ _ b b _ rfl rfl (by omega) (by omega) (by exact HN4.out) (by exact HN6.out)).mono ?_
  rintro e w' ⟨rfl, m2, rfl⟩
  go_wp2_with fail
  go_ret
  exact ⟨rfl, by first | exact HB.out | exact bel_drewN HB.out _⟩

end Go.Proofs.YtpjpbemgjniljaaDoor

namespace Go.Proofs.YtpjpbemgjniljaaDoor
open Go.ChangeShapes Go.WideShapes Go.ChangeAt Go.RowKit

def LaidTab (_ : World) : Prop := True
def tabs7 {H : Type} : List (String × DataW H) := [("math/bits.deBruijn32tab", Rows.laid_math_bits_deBruijn32tab), ("math/bits.deBruijn64tab", Rows.laid_math_bits_deBruijn64tab), ("internal/strconv.uint64pow10", Rows.laid_internal_strconv_uint64pow10)]
theorem door_met (os : Os) (args : Array Value) : laidMetH Tryd.prog tabs7 ((World.doorLaid Tryd.prog 400 os).forCall (fun _ _ => 0) ⟨#[], args, []⟩).memory :=
  laidMetH_of_parts3 (fuel := 8) (laidMet_of_run' 8 (by kernel_rfl) (by kernel_rfl)) (by kernel_rfl) (by kernel_rfl)
theorem tab_of_laid {W : World} (_h : laidMetH Tryd.prog tabs7 W) : LaidTab W := trivial
end Go.Proofs.YtpjpbemgjniljaaDoor
