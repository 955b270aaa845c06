/-
  What the proofs of this seat's statements share (PartY).
-/
import Derived.Test.YtkjjpleedobkdaaU14

namespace Go.Proofs.Ytkjjpleedobkdaa
open Go.RowKit

set_option maxHeartbeats 1000000 in
theorem lHasInt6 (A : Option Addr) (n c : Nat) (xs : List Int) (x : Int) (w : World) (h : Hid (x ∈ xs)) (ha : Row w A n c xs) :
    Calls Try.prog 30 #[.slice A n c, .int .i64 x] w fun e w' => e = .returned (.bool true) ∧ w = w' := by
  have HA := Lib.hid ha
  obtain rfl := ha.hn
  have hl := ha.hl
  clear ha
  go_enter Try.func30, Try.ntmps30
  go_wp2_with fail
  go_loop [5] (fun i => ∃ k : Nat, k ≤ xs.length ∧ i = .int .i64 k ∧ Hid (∀ y ∈ xs.take k, y ≠ x)) (fun i => xs.length - (Go.RowKit.intOf i).toNat)
  case atStart => exact ⟨0, Nat.zero_le _, rfl, by unfold Hid; simp⟩
  case round =>
    obtain ⟨k, hk, rfl, hno⟩ := hrel
    by_cases hlt : k < xs.length
    · obtain ⟨bb, off, y, rfl, hcell, hy, _⟩ := HA.out.hA.elem hlt
      by_cases he : y = x
      · have hq : (y == x) = true := by rw [beq_iff_eq]; exact he
        clear he
        go_wp2_with fail
        go_ret
        exact ⟨rfl, rfl⟩
      · have hq : (y == x) = false := by rw [beq_eq_false_iff_ne]; exact he
        have HE : Hid (∀ z ∈ xs.take (k + 1), z ≠ x) := fun z hz => by
          rw [take_snoc hy, List.mem_append, List.mem_singleton] at hz
          rcases hz with h | rfl
          · exact hno.out z h
          · exact he
        clear he
        go_wp2_with fail
        go_round
        case rel => exact ⟨k + 1, by omega, by go_num, HE⟩
        case measure => simp [Go.RowKit.intOf]; omega
    · exfalso
      have := hno.out x (by rw [List.take_of_length_le (by omega)]; exact h.out)
      exact this rfl


theorem lSame6 {xs ys : List Int} {b : Bool} (h : Hid (decide (xs = ys) = b)) {A B : Option Addr} {nn mm c d : Nat} {w : World} (hn : nn = xs.length) (hm : mm = ys.length) (hl : nn ≤ 1048576) (hl2 : mm ≤ 1048576) (hA : Nums .i64 w A xs) (hB : Nums .i64 w B ys) :
    Calls Try.prog 18 #[.slice A nn c, .slice B mm d] w fun e w' => e = .returned (.bool b) ∧ ∃ n, w' = w.drewN n :=
  (lSameInts A B nn mm c d xs ys w hn hm hl hl2 hA hB).mono fun _ _ ⟨he, hw⟩ => ⟨he.trans (ret_bool h.out), hw⟩
theorem asks_self {t : Int} {xs : List Int} (h : issueOkB t xs = true) : asksL t xs = tidyL (partsX t xs) := by
  have h70 := (issue_ne h).2
  obtain ⟨h1, h3⟩ := issue_things h
  exact asks_eq h1 h3 (issue_sets h) h70
set_option maxRecDepth 100000 in
set_option maxHeartbeats 4000000 in
theorem wIsPartition (A : Option Addr) (nn c : Nat) (zs : List Int) (w : World) (hn : nn = zs.length) (hc : nn ≤ c) (hm : c ≤ maxLen) (hr : ∀ z ∈ zs, 0 ≤ z ∧ z ≤ 255) (hA : Nums .u8 w A zs) :
    Calls Try.prog 3 #[.slice A nn c] w fun e w' => e = .returned (.bool true) ∧ Below w.heap.size w w' := by
  have HO := Lib.hid (drawIsPartition_any A nn c zs w hn hc hm hr hA)
  have hm' : nn ≤ 9223372036854775807 := by unfold maxLen at hm; omega
  clear hn hc hm hr hA
  by_cases hl : 1048576 < nn
  · have hd : decide ((1048576 : Int) < (nn : Int)) = true := decide_eq_true (by omega)
    go_enter Try.func3, Try.ntmps3
    go_wp2_with fail
    go_ret
    exact ⟨rfl, Below.refl _ _⟩
  have hd : decide ((1048576 : Int) < (nn : Int)) = false := decide_eq_false (by omega)
  clear hl
  go_enter Try.func3, Try.ntmps3
  go_wp2_with fail
  refine HO.out.mono ?_
  rintro e w1 ⟨t, v, xs, rfl, ht0, ht1, ho, hlen, hb⟩
  obtain ⟨A1, c1, rfl, _, _, _, _⟩ := ho.form
  have HR := Lib.hid (Owns.row ho (by omega))
  have HB := Lib.hid hb
  clear hb HO hd ho
  obtain ⟨b, HT⟩ : ∃ b, Hid (isPartB t xs = b) := ⟨_, rfl⟩
  have hbn : (b != b) = false := by cases b <;> rfl
  rcases hi : issueOkB t xs with _ | _
  · have HI := Lib.hid hi
    obtain rfl : b = false := by rw [← HT.out]; unfold isPartB; rw [hi]; rfl
    clear hi hbn
    go_wp2_with fail
    refine (iIsPart_is HT HR.out).mono ?_
    rintro e w2 ⟨rfl, n2, rfl⟩
    go_wp2_with fail
    refine (sIsPart_is HT (HR.out.drewN _)).mono ?_
    rintro e w2 ⟨rfl, n3, rfl⟩
    go_wp2_with fail
    refine (sIssueOk_is HI _ _ _ _ rfl (by omega) (by exact HR.out.hA)).mono ?_
    rintro e w2 ⟨rfl, n4, rfl⟩
    go_wp2_with fail
    refine (lAlive _).mono ?_
    rintro e w' ⟨rfl, rfl⟩
    go_wp2_with fail
    go_ret
    exact ⟨rfl, bel_drewN HB.out _⟩
  · have HI := Lib.hid hi
    have hla := asks_len t xs
    obtain ⟨l, HL⟩ : ∃ l, Hid (asksL t xs = l) := ⟨_, rfl⟩
    have HD : Hid (decide (l = xs) = b) := by unfold Hid; rw [← HL.out, asks_self hi, law_isPart hi, HT.out]
    rw [HL.out] at hla
    have hbe : (b == b) = true := by cases b <;> rfl
    clear hi
    go_wp2_with fail
    refine (iIsPart_is HT HR.out).mono ?_
    rintro e w2 ⟨rfl, n2, rfl⟩
    go_wp2_with fail
    refine (sIsPart_is HT (HR.out.drewN _)).mono ?_
    rintro e w2 ⟨rfl, n3, rfl⟩
    go_wp2_with fail
    refine (sIssueOk_is HI _ _ _ _ rfl (by omega) (by exact HR.out.hA)).mono ?_
    rintro e w2 ⟨rfl, n4, rfl⟩
    go_wp2_with fail
    refine (iAsksOf_is HL (HR.out.drewN _)).mono ?_
    rintro e w3 ⟨v, rfl, ho, hb⟩
    obtain ⟨A2, c2, rfl, _, _, hn2, _⟩ := ho.form
    have HN2 := Lib.hid hn2
    have HN1 := Lib.hid (HR.out.hA.below (Below.trans (bel_drewN (Below.refl w1.heap.size w1) _) hb))
    have HB2 := Lib.hid (bel_trans (bel_drewN HB.out _) hb)
    clear ho hb hn2
    go_wp2_with fail
    refine (lSame6 HD rfl rfl (by omega) (by omega) HN2.out HN1.out).mono ?_
    rintro e w' ⟨rfl, n5, rfl⟩
    go_wp2_with fail
    go_ret
    exact ⟨rfl, bel_drewN HB2.out _⟩

/-- What AnswerIn tells: a set with the world in it; every world of it has the same answer. -/
theorem answer_some {t u : Int} {xs : List Int} (h : 0 ≤ answerI t xs u) : isPartB t xs = true ∧ 0 ≤ u ∧ u < worldsOf t ∧ answerI t xs u ∈ xs ∧ hasW (answerI t xs u) u.toNat = true := by
  by_cases hc : (isPartB t xs && decide (0 ≤ u ∧ u < worldsOf t)) = true
  · have hp := hc
    rw [Bool.and_eq_true, decide_eq_true_eq] at hp
    obtain ⟨k, rfl⟩ : ∃ k : Nat, u = k := ⟨u.toNat, by omega⟩
    have hk : k < nWorlds t := by unfold nWorlds; omega
    obtain ⟨y, hy, hyw, _⟩ := part_unique hp.1 hk
    have e : answerI t xs (k : Int) = (xs.find? fun x => hasW x k).getD (-1) := by unfold answerI; rw [if_pos hc, Int.toNat_natCast]
    rcases hq : (xs.find? fun x => hasW x k) with _ | x
    · rw [List.find?_eq_none] at hq; exact absurd hyw (hq y hy)
    · rw [hq] at e
      have e2 : answerI t xs (k : Int) = x := e
      refine ⟨hp.1, hp.2.1, hp.2.2, ?_, ?_⟩
      · rw [e2]; exact List.mem_of_find?_eq_some hq
      · rw [e2, Int.toNat_natCast]; have := List.find?_some hq; simpa using this
  · unfold answerI at h
    rw [if_neg hc] at h; omega
theorem answer_neg {t u : Int} {xs : List Int} (h : answerI t xs u < 0) : answerI t xs u = -1 := by
  by_cases hc : (isPartB t xs && decide (0 ≤ u ∧ u < worldsOf t)) = true
  · have hp := hc
    rw [Bool.and_eq_true, decide_eq_true_eq] at hp
    have e : answerI t xs u = (xs.find? fun x => hasW x u.toNat).getD (-1) := by unfold answerI; rw [if_pos hc]
    rcases hq : (xs.find? fun x => hasW x u.toNat) with _ | x
    · rw [hq] at e; exact e
    · rw [hq] at e
      have hx := (setOkB_lt (part_sets hp.1 x (List.mem_of_find?_eq_some hq))).2.2.1
      have e2 : answerI t xs u = x := e
      omega
  · unfold answerI; rw [if_neg hc]
theorem answer_same {t u : Int} {xs : List Int} (h : 0 ≤ answerI t xs u) {k : Nat} (hk : (k : Int) < worldsOf t) (hw : hasW (answerI t xs u) k = true) : answerI t xs k = answerI t xs u := by
  obtain ⟨hp, _, _, hm, _⟩ := answer_some h
  have hkn : k < nWorlds t := by unfold nWorlds; omega
  obtain ⟨y, hy, hyw, hu⟩ := part_unique hp hkn
  have hx : (xs.find? fun x => hasW x k) = some (answerI t xs u) := by
    rcases hq : (xs.find? fun x => hasW x k) with _ | x
    · rw [List.find?_eq_none] at hq; exact absurd hyw (hq y hy)
    · have h1 := hu x (List.mem_of_find?_eq_some hq) (by have := List.find?_some hq; simpa using this)
      have h2 := hu _ hm hw
      rw [h1, h2]
  generalize answerI t xs u = r at hx
  unfold answerI
  rw [hp, decide_eq_true (by omega), Int.toNat_natCast, hx]; rfl
set_option maxRecDepth 100000 in
set_option maxHeartbeats 4000000 in
theorem wAnswerIn (A : Option Addr) (nn c : Nat) (zs : List Int) (w : World) (hn : nn = zs.length) (hc : nn ≤ c) (hm : c ≤ maxLen) (hr : ∀ z ∈ zs, 0 ≤ z ∧ z ≤ 255) (hA : Nums .u8 w A zs) :
    Calls Try.prog 5 #[.slice A nn c] w fun e w' => e = .returned (.bool true) ∧ Below w.heap.size w w' := by
  have HO := Lib.hid (drawAnswerIn_any A nn c zs w hn hc hm hr hA)
  have hm' : nn ≤ 9223372036854775807 := by unfold maxLen at hm; omega
  clear hn hc hm hr hA
  by_cases hl : 1048576 < nn
  · have hd : decide ((1048576 : Int) < (nn : Int)) = true := decide_eq_true (by omega)
    go_enter Try.func5, Try.ntmps5
    go_wp2_with fail
    go_ret
    exact ⟨rfl, Below.refl _ _⟩
  have hd : decide ((1048576 : Int) < (nn : Int)) = false := decide_eq_false (by omega)
  clear hl
  go_enter Try.func5, Try.ntmps5
  go_wp2_with fail
  refine HO.out.mono ?_
  rintro e w1 ⟨t, v, xs, u, rfl, ht0, ht1, ho, hlen, hu0, hu1, hb⟩
  obtain ⟨A1, c1, rfl, _, _, _, _⟩ := ho.form
  have HR := Lib.hid (Owns.row ho (by omega))
  have HB := Lib.hid hb
  clear hb HO hd ho
  by_cases hneg : answerI t xs u < 0
  · have HT : Hid (answerI t xs u = -1) := answer_neg hneg
    clear hneg
    go_wp2_with fail
    refine (iAnswerIn_is HT HR.out).mono ?_
    rintro e w2 ⟨rfl, hb⟩
    have HB2 := Lib.hid (bel_trans HB.out hb)
    have HR2 := Lib.hid (HR.out.below hb)
    clear hb
    go_wp2_with fail
    refine (sAnswerIn_is HT HR2.out).mono ?_
    rintro e w3 ⟨rfl, n3, rfl⟩
    go_wp2_with fail
    refine (lAlive _).mono ?_
    rintro e w' ⟨rfl, rfl⟩
    go_wp2_with fail
    go_ret
    exact ⟨rfl, bel_drewN HB2.out _⟩
  · have hpos : 0 ≤ answerI t xs u := by omega
    obtain ⟨hp, hu2, hu3, hm, hw⟩ := answer_some hpos
    have HSAME : Hid (∀ k : Nat, (k : Int) < worldsOf t → hasW (answerI t xs u) k = true → answerI t xs k = answerI t xs u) := fun k hk hw => answer_same hpos hk hw
    obtain ⟨r, HT⟩ : ∃ r, Hid (answerI t xs u = r) := ⟨_, rfl⟩
    rw [HT.out] at HSAME hm hw hpos
    have HM := Lib.hid hm
    obtain ⟨q, rfl⟩ : ∃ q : Nat, u = q := ⟨u.toNat, by omega⟩
    rw [Int.toNat_natCast] at hw
    obtain ⟨N, HN⟩ : ∃ n : Nat, Hid (worldsOf t = (n : Int)) := ⟨(worldsOf t).toNat, by show _ = _; omega⟩
    have hN8 : N ≤ 8 := by have := worlds_cases t; have := HN.out; omega
    rw [HN.out] at HSAME hu3
    have hq8 : q < 8 := by omega
    have hrr : (r != r) = false := by simp
    have hneg2 : decide (r < 0) = false := decide_eq_false (by omega)
    have hbit : ((r / (2 : Int) ^ q).tmod 2 == 1) = true := by rw [bit_val hpos, hw]; rfl
    have HBIT := Lib.hid hbit
    have HRR := Lib.hid hrr
    have HPOS := Lib.hid hpos
    clear hp hm hw hneg hu2 hbit
    go_wp2_with fail
    refine (iAnswerIn_is HT HR.out).mono ?_
    rintro e w2 ⟨rfl, hb⟩
    have HB2 := Lib.hid (bel_trans HB.out hb)
    have HR2 := Lib.hid (HR.out.below hb)
    clear hb
    go_wp2_with fail
    refine (sAnswerIn_is HT HR2.out).mono ?_
    rintro e w3 ⟨rfl, n3, rfl⟩
    go_wp2_with fail
    clear hneg2 hrr
    go_loopw [7] (fun i wr => ∃ k : Nat, k ≤ N ∧ i = .int .i64 k ∧ Below w2.heap.size w2 wr) (fun i _ => N - (Go.RowKit.intOf i).toNat)
    case atStart => exact ⟨0, Nat.zero_le _, rfl, bel_drewN (Below.refl _ _) _⟩
    case round =>
      obtain ⟨k, hk, rfl, hbel⟩ := hrel
      have HBL := Lib.hid hbel
      clear hbel
      go_wp2_with fail
      refine (sWorldsOf_is HN _).mono ?_
      rintro e w' ⟨rfl, rfl⟩
      by_cases hkt : k < N
      · have hlt : decide ((k : Int) < (N : Int)) = true := decide_eq_true (by omega)
        have hbv := bit_val (k := k) HPOS.out
        rcases hh : hasW r k with _ | _
        · have hb : ((r / (2 : Int) ^ k).tmod 2 == 1) = false := by rw [hbv, hh]; rfl
          clear hbv hh
          go_wp2_with fail
          go_roundw
          case rel => exact ⟨k + 1, by omega, by go_num, HBL.out⟩
          case measure => simp [Go.RowKit.intOf]; omega
        · have hb : ((r / (2 : Int) ^ k).tmod 2 == 1) = true := by rw [hbv, hh]; rfl
          have HTK := Lib.hid (HSAME.out k (by omega) hh)
          have hrr := HRR.out
          clear hbv hh
          go_wp2_with fail
          refine (iAnswerIn_is HTK (HR2.out.below HBL.out)).mono ?_
          rintro e w4 ⟨rfl, hb4⟩
          have HB4 := Lib.hid (bel_trans HBL.out hb4)
          clear hb4
          go_wp2_with fail
          go_roundw
          case rel => exact ⟨k + 1, by omega, by go_num, HB4.out⟩
          case measure => simp [Go.RowKit.intOf]; omega
      · obtain rfl : k = N := by omega
        have hlt : decide ((k : Int) < (k : Int)) = false := decide_eq_false (by omega)
        have hbit := HBIT.out
        go_wp2_with fail
        refine (lHasInt6 _ _ _ xs r _ HM (HR2.out.below HBL.out)).mono ?_
        rintro e w' ⟨rfl, rfl⟩
        go_wp2_with fail
        go_ret
        exact ⟨rfl, bel_trans HB2.out HBL.out⟩
end Go.Proofs.Ytkjjpleedobkdaa
