/-
  What the proofs of this seat's statements share (PartY, PartZ, PartV).
-/
import Derived.Test.YtkjjpleedobkdaaU16
import Derived.Test.YtkjjpleedobkdaaU12
import Derived.Test.YtkjjpleedobkdaaU7
import Derived.Test.YtkjjpleedobkdaaU14

namespace Go.Proofs.Ytkjjpleedobkdaa
open Go.RowKit

set_option maxHeartbeats 1000000 in
theorem lHasInt6 (A : Option Addr) (n c : Nat) (xs : List Int) (x : Int) (w : World) (h : Hid (x ∈ xs)) (ha : Row w A n c xs) :
    Calls Try.prog 30 #[.slice A n c, .int .i64 x] w fun e w' => e = .returned (.bool true) ∧ w = w' := by
  have HA := Lib.hid ha
  obtain rfl := ha.hn
  have hl := ha.hl
  clear ha
  go_enter Try.func30, Try.ntmps30
  go_wp2_with fail
  go_loop [5] (fun i => ∃ k : Nat, k ≤ xs.length ∧ i = .int .i64 k ∧ Hid (∀ y ∈ xs.take k, y ≠ x)) (fun i => xs.length - (Go.RowKit.intOf i).toNat)
  case atStart => exact ⟨0, Nat.zero_le _, rfl, by unfold Hid; simp⟩
  case round =>
    obtain ⟨k, hk, rfl, hno⟩ := hrel
    by_cases hlt : k < xs.length
    · obtain ⟨bb, off, y, rfl, hcell, hy, _⟩ := HA.out.hA.elem hlt
      by_cases he : y = x
      · have hq : (y == x) = true := by rw [beq_iff_eq]; exact he
        clear he
        go_wp2_with fail
        go_ret
        exact ⟨rfl, rfl⟩
      · have hq : (y == x) = false := by rw [beq_eq_false_iff_ne]; exact he
        have HE : Hid (∀ z ∈ xs.take (k + 1), z ≠ x) := fun z hz => by
          rw [take_snoc hy, List.mem_append, List.mem_singleton] at hz
          rcases hz with h | rfl
          · exact hno.out z h
          · exact he
        clear he
        go_wp2_with fail
        go_round
        case rel => exact ⟨k + 1, by omega, by go_num, HE⟩
        case measure => simp [Go.RowKit.intOf]; omega
    · exfalso
      have := hno.out x (by rw [List.take_of_length_le (by omega)]; exact h.out)
      exact this rfl


theorem lSame6 {xs ys : List Int} {b : Bool} (h : Hid (decide (xs = ys) = b)) {A B : Option Addr} {nn mm c d : Nat} {w : World} (hn : nn = xs.length) (hm : mm = ys.length) (hl : nn ≤ 1048576) (hl2 : mm ≤ 1048576) (hA : Nums .i64 w A xs) (hB : Nums .i64 w B ys) :
    Calls Try.prog 18 #[.slice A nn c, .slice B mm d] w fun e w' => e = .returned (.bool b) ∧ ∃ n, w' = w.drewN n :=
  (lSameInts A B nn mm c d xs ys w hn hm hl hl2 hA hB).mono fun _ _ ⟨he, hw⟩ => ⟨he.trans (ret_bool h.out), hw⟩
theorem asks_self {t : Int} {xs : List Int} (h : issueOkB t xs = true) : asksL t xs = tidyL (partsX t xs) := by
  have h70 := (issue_ne h).2
  obtain ⟨h1, h3⟩ := issue_things h
  exact asks_eq h1 h3 (issue_sets h) h70
set_option maxRecDepth 100000 in
set_option maxHeartbeats 4000000 in
theorem wIsPartition (A : Option Addr) (nn c : Nat) (zs : List Int) (w : World) (hn : nn = zs.length) (hc : nn ≤ c) (hm : c ≤ maxLen) (hr : ∀ z ∈ zs, 0 ≤ z ∧ z ≤ 255) (hA : Nums .u8 w A zs) :
    Calls Try.prog 3 #[.slice A nn c] w fun e w' => e = .returned (.bool true) ∧ Below w.heap.size w w' := by
  have HO := Lib.hid (drawIsPartition_any A nn c zs w hn hc hm hr hA)
  have hm' : nn ≤ 9223372036854775807 := by unfold maxLen at hm; omega
  clear hn hc hm hr hA
  by_cases hl : 1048576 < nn
  · have hd : decide ((1048576 : Int) < (nn : Int)) = true := decide_eq_true (by omega)
    go_enter Try.func3, Try.ntmps3
    go_wp2_with fail
    go_ret
    exact ⟨rfl, Below.refl _ _⟩
  have hd : decide ((1048576 : Int) < (nn : Int)) = false := decide_eq_false (by omega)
  clear hl
  go_enter Try.func3, Try.ntmps3
  go_wp2_with fail
  refine HO.out.mono ?_
  rintro e w1 ⟨t, v, xs, rfl, ht0, ht1, ho, hlen, hb⟩
  obtain ⟨A1, c1, rfl, _, _, _, _⟩ := ho.form
  have HR := Lib.hid (Owns.row ho (by omega))
  have HB := Lib.hid hb
  clear hb HO hd ho
  obtain ⟨b, HT⟩ : ∃ b, Hid (isPartB t xs = b) := ⟨_, rfl⟩
  have hbn : (b != b) = false := by cases b <;> rfl
  rcases hi : issueOkB t xs with _ | _
  · have HI := Lib.hid hi
    obtain rfl : b = false := by rw [← HT.out]; unfold isPartB; rw [hi]; rfl
    clear hi hbn
    go_wp2_with fail
    refine (iIsPart_is HT HR.out).mono ?_
    rintro e w2 ⟨rfl, n2, rfl⟩
    go_wp2_with fail
    refine (sIsPart_is HT (HR.out.drewN _)).mono ?_
    rintro e w2 ⟨rfl, n3, rfl⟩
    go_wp2_with fail
    refine (sIssueOk_is HI _ _ _ _ rfl (by omega) (by exact HR.out.hA)).mono ?_
    rintro e w2 ⟨rfl, n4, rfl⟩
    go_wp2_with fail
    refine (lAlive _).mono ?_
    rintro e w' ⟨rfl, rfl⟩
    go_wp2_with fail
    go_ret
    exact ⟨rfl, bel_drewN HB.out _⟩
  · have HI := Lib.hid hi
    have hla := asks_len t xs
    obtain ⟨l, HL⟩ : ∃ l, Hid (asksL t xs = l) := ⟨_, rfl⟩
    have HD : Hid (decide (l = xs) = b) := by unfold Hid; rw [← HL.out, asks_self hi, law_isPart hi, HT.out]
    rw [HL.out] at hla
    have hbe : (b == b) = true := by cases b <;> rfl
    clear hi
    go_wp2_with fail
    refine (iIsPart_is HT HR.out).mono ?_
    rintro e w2 ⟨rfl, n2, rfl⟩
    go_wp2_with fail
    refine (sIsPart_is HT (HR.out.drewN _)).mono ?_
    rintro e w2 ⟨rfl, n3, rfl⟩
    go_wp2_with fail
    refine (sIssueOk_is HI _ _ _ _ rfl (by omega) (by exact HR.out.hA)).mono ?_
    rintro e w2 ⟨rfl, n4, rfl⟩
    go_wp2_with fail
    refine (iAsksOf_is HL (HR.out.drewN _)).mono ?_
    rintro e w3 ⟨v, rfl, ho, hb⟩
    obtain ⟨A2, c2, rfl, _, _, hn2, _⟩ := ho.form
    have HN2 := Lib.hid hn2
    have HN1 := Lib.hid (HR.out.hA.below (Below.trans (bel_drewN (Below.refl w1.heap.size w1) _) hb))
    have HB2 := Lib.hid (bel_trans (bel_drewN HB.out _) hb)
    clear ho hb hn2
    go_wp2_with fail
    refine (lSame6 HD rfl rfl (by omega) (by omega) HN2.out HN1.out).mono ?_
    rintro e w' ⟨rfl, n5, rfl⟩
    go_wp2_with fail
    go_ret
    exact ⟨rfl, bel_drewN HB2.out _⟩

/-- What AnswerIn tells: a set with the world in it; every world of it has the same answer. -/
theorem answer_some {t u : Int} {xs : List Int} (h : 0 ≤ answerI t xs u) : isPartB t xs = true ∧ 0 ≤ u ∧ u < worldsOf t ∧ answerI t xs u ∈ xs ∧ hasW (answerI t xs u) u.toNat = true := by
  by_cases hc : (isPartB t xs && decide (0 ≤ u ∧ u < worldsOf t)) = true
  · have hp := hc
    rw [Bool.and_eq_true, decide_eq_true_eq] at hp
    obtain ⟨k, rfl⟩ : ∃ k : Nat, u = k := ⟨u.toNat, by omega⟩
    have hk : k < nWorlds t := by unfold nWorlds; omega
    obtain ⟨y, hy, hyw, _⟩ := part_unique hp.1 hk
    have e : answerI t xs (k : Int) = (xs.find? fun x => hasW x k).getD (-1) := by unfold answerI; rw [if_pos hc, Int.toNat_natCast]
    rcases hq : (xs.find? fun x => hasW x k) with _ | x
    · rw [List.find?_eq_none] at hq; exact absurd hyw (hq y hy)
    · rw [hq] at e
      have e2 : answerI t xs (k : Int) = x := e
      refine ⟨hp.1, hp.2.1, hp.2.2, ?_, ?_⟩
      · rw [e2]; exact List.mem_of_find?_eq_some hq
      · rw [e2, Int.toNat_natCast]; have := List.find?_some hq; simpa using this
  · unfold answerI at h
    rw [if_neg hc] at h; omega
theorem answer_neg {t u : Int} {xs : List Int} (h : answerI t xs u < 0) : answerI t xs u = -1 := by
  by_cases hc : (isPartB t xs && decide (0 ≤ u ∧ u < worldsOf t)) = true
  · have hp := hc
    rw [Bool.and_eq_true, decide_eq_true_eq] at hp
    have e : answerI t xs u = (xs.find? fun x => hasW x u.toNat).getD (-1) := by unfold answerI; rw [if_pos hc]
    rcases hq : (xs.find? fun x => hasW x u.toNat) with _ | x
    · rw [hq] at e; exact e
    · rw [hq] at e
      have hx := (setOkB_lt (part_sets hp.1 x (List.mem_of_find?_eq_some hq))).2.2.1
      have e2 : answerI t xs u = x := e
      omega
  · unfold answerI; rw [if_neg hc]
theorem answer_same {t u : Int} {xs : List Int} (h : 0 ≤ answerI t xs u) {k : Nat} (hk : (k : Int) < worldsOf t) (hw : hasW (answerI t xs u) k = true) : answerI t xs k = answerI t xs u := by
  obtain ⟨hp, _, _, hm, _⟩ := answer_some h
  have hkn : k < nWorlds t := by unfold nWorlds; omega
  obtain ⟨y, hy, hyw, hu⟩ := part_unique hp hkn
  have hx : (xs.find? fun x => hasW x k) = some (answerI t xs u) := by
    rcases hq : (xs.find? fun x => hasW x k) with _ | x
    · rw [List.find?_eq_none] at hq; exact absurd hyw (hq y hy)
    · have h1 := hu x (List.mem_of_find?_eq_some hq) (by have := List.find?_some hq; simpa using this)
      have h2 := hu _ hm hw
      rw [h1, h2]
  generalize answerI t xs u = r at hx
  unfold answerI
  rw [hp, decide_eq_true (by omega), Int.toNat_natCast, hx]; rfl
set_option maxRecDepth 100000 in
set_option maxHeartbeats 4000000 in
theorem wAnswerIn (A : Option Addr) (nn c : Nat) (zs : List Int) (w : World) (hn : nn = zs.length) (hc : nn ≤ c) (hm : c ≤ maxLen) (hr : ∀ z ∈ zs, 0 ≤ z ∧ z ≤ 255) (hA : Nums .u8 w A zs) :
    Calls Try.prog 5 #[.slice A nn c] w fun e w' => e = .returned (.bool true) ∧ Below w.heap.size w w' := by
  have HO := Lib.hid (drawAnswerIn_any A nn c zs w hn hc hm hr hA)
  have hm' : nn ≤ 9223372036854775807 := by unfold maxLen at hm; omega
  clear hn hc hm hr hA
  by_cases hl : 1048576 < nn
  · have hd : decide ((1048576 : Int) < (nn : Int)) = true := decide_eq_true (by omega)
    go_enter Try.func5, Try.ntmps5
    go_wp2_with fail
    go_ret
    exact ⟨rfl, Below.refl _ _⟩
  have hd : decide ((1048576 : Int) < (nn : Int)) = false := decide_eq_false (by omega)
  clear hl
  go_enter Try.func5, Try.ntmps5
  go_wp2_with fail
  refine HO.out.mono ?_
  rintro e w1 ⟨t, v, xs, u, rfl, ht0, ht1, ho, hlen, hu0, hu1, hb⟩
  obtain ⟨A1, c1, rfl, _, _, _, _⟩ := ho.form
  have HR := Lib.hid (Owns.row ho (by omega))
  have HB := Lib.hid hb
  clear hb HO hd ho
  by_cases hneg : answerI t xs u < 0
  · have HT : Hid (answerI t xs u = -1) := answer_neg hneg
    clear hneg
    go_wp2_with fail
    refine (iAnswerIn_is HT HR.out).mono ?_
    rintro e w2 ⟨rfl, hb⟩
    have HB2 := Lib.hid (bel_trans HB.out hb)
    have HR2 := Lib.hid (HR.out.below hb)
    clear hb
    go_wp2_with fail
    refine (sAnswerIn_is HT HR2.out).mono ?_
    rintro e w3 ⟨rfl, n3, rfl⟩
    go_wp2_with fail
    refine (lAlive _).mono ?_
    rintro e w' ⟨rfl, rfl⟩
    go_wp2_with fail
    go_ret
    exact ⟨rfl, bel_drewN HB2.out _⟩
  · have hpos : 0 ≤ answerI t xs u := by omega
    obtain ⟨hp, hu2, hu3, hm, hw⟩ := answer_some hpos
    have HSAME : Hid (∀ k : Nat, (k : Int) < worldsOf t → hasW (answerI t xs u) k = true → answerI t xs k = answerI t xs u) := fun k hk hw => answer_same hpos hk hw
    obtain ⟨r, HT⟩ : ∃ r, Hid (answerI t xs u = r) := ⟨_, rfl⟩
    rw [HT.out] at HSAME hm hw hpos
    have HM := Lib.hid hm
    obtain ⟨q, rfl⟩ : ∃ q : Nat, u = q := ⟨u.toNat, by omega⟩
    rw [Int.toNat_natCast] at hw
    obtain ⟨N, HN⟩ : ∃ n : Nat, Hid (worldsOf t = (n : Int)) := ⟨(worldsOf t).toNat, by show _ = _; omega⟩
    have hN8 : N ≤ 8 := by have := worlds_cases t; have := HN.out; omega
    rw [HN.out] at HSAME hu3
    have hq8 : q < 8 := by omega
    have hrr : (r != r) = false := by simp
    have hneg2 : decide (r < 0) = false := decide_eq_false (by omega)
    have hbit : ((r / (2 : Int) ^ q).tmod 2 == 1) = true := by rw [bit_val hpos, hw]; rfl
    have HBIT := Lib.hid hbit
    have HRR := Lib.hid hrr
    have HPOS := Lib.hid hpos
    clear hp hm hw hneg hu2 hbit
    go_wp2_with fail
    refine (iAnswerIn_is HT HR.out).mono ?_
    rintro e w2 ⟨rfl, hb⟩
    have HB2 := Lib.hid (bel_trans HB.out hb)
    have HR2 := Lib.hid (HR.out.below hb)
    clear hb
    go_wp2_with fail
    refine (sAnswerIn_is HT HR2.out).mono ?_
    rintro e w3 ⟨rfl, n3, rfl⟩
    go_wp2_with fail
    clear hneg2 hrr
    go_loopw [7] (fun i wr => ∃ k : Nat, k ≤ N ∧ i = .int .i64 k ∧ Below w2.heap.size w2 wr) (fun i _ => N - (Go.RowKit.intOf i).toNat)
    case atStart => exact ⟨0, Nat.zero_le _, rfl, bel_drewN (Below.refl _ _) _⟩
    case round =>
      obtain ⟨k, hk, rfl, hbel⟩ := hrel
      have HBL := Lib.hid hbel
      clear hbel
      go_wp2_with fail
      refine (sWorldsOf_is HN _).mono ?_
      rintro e w' ⟨rfl, rfl⟩
      by_cases hkt : k < N
      · have hlt : decide ((k : Int) < (N : Int)) = true := decide_eq_true (by omega)
        have hbv := bit_val (k := k) HPOS.out
        rcases hh : hasW r k with _ | _
        · have hb : ((r / (2 : Int) ^ k).tmod 2 == 1) = false := by rw [hbv, hh]; rfl
          clear hbv hh
          go_wp2_with fail
          go_roundw
          case rel => exact ⟨k + 1, by omega, by go_num, HBL.out⟩
          case measure => simp [Go.RowKit.intOf]; omega
        · have hb : ((r / (2 : Int) ^ k).tmod 2 == 1) = true := by rw [hbv, hh]; rfl
          have HTK := Lib.hid (HSAME.out k (by omega) hh)
          have hrr := HRR.out
          clear hbv hh
          go_wp2_with fail
          refine (iAnswerIn_is HTK (HR2.out.below HBL.out)).mono ?_
          rintro e w4 ⟨rfl, hb4⟩
          have HB4 := Lib.hid (bel_trans HBL.out hb4)
          clear hb4
          go_wp2_with fail
          go_roundw
          case rel => exact ⟨k + 1, by omega, by go_num, HB4.out⟩
          case measure => simp [Go.RowKit.intOf]; omega
      · obtain rfl : k = N := by omega
        have hlt : decide ((k : Int) < (k : Int)) = false := decide_eq_false (by omega)
        have hbit := HBIT.out
        go_wp2_with fail
        refine (lHasInt6 _ _ _ xs r _ HM (HR2.out.below HBL.out)).mono ?_
        rintro e w' ⟨rfl, rfl⟩
        go_wp2_with fail
        go_ret
        exact ⟨rfl, bel_trans HB2.out HBL.out⟩
end Go.Proofs.Ytkjjpleedobkdaa

namespace Go.Proofs.Ytkjjpleedobkdaa
open Go.RowKit

def wonTo (t : Int) (xs : List Int) (k : Nat) : List (List Int) := (xs.take k).map fun x => whetherL t [x]
theorem wonTo_next {t : Int} {xs : List Int} {k : Nat} {x : Int} (hx : Hid (xs[k]? = some x)) : wonTo t xs (k + 1) = wonTo t xs k ++ [whetherL t [x]] := by unfold wonTo; rw [take_snoc hx, List.map_append]; rfl
theorem wonTo_len (t : Int) (xs : List Int) (k : Nat) : (wonTo t xs k).length ≤ xs.length := by unfold wonTo; rw [List.length_map, List.length_take]; omega
def askTo (t : Int) (xs : List Int) (s : Int) (j : Nat) : Bool := (xs.take j).all fun x => settlesB t (whetherL t [x]) s
theorem askTo_next {t s : Int} {xs : List Int} {k : Nat} {x : Int} (hx : Hid (xs[k]? = some x)) : askTo t xs s (k + 1) = (askTo t xs s k && settlesB t (whetherL t [x]) s) := by unfold askTo; rw [take_snoc hx, List.all_append]; simp
theorem whether_len6 {t x : Int} (h : setOkB t x = true) : (whetherL t [x]).length ≤ 300 := by have := (issue_ne (whether_ok (issue_one h))).2; omega
theorem statement_one {t x : Int} (h : setOkB t x = true) : statementL t x = [x] := by unfold statementL; rw [h]; rfl
theorem lSameSelf {xs : List Int} {A B : Option Addr} {nn mm c d : Nat} {w : World} (hn : nn = xs.length) (hm : mm = xs.length) (hl : nn ≤ 1048576) (hl2 : mm ≤ 1048576) (hA : Nums .i64 w A xs) (hB : Nums .i64 w B xs) :
    Calls Try.prog 18 #[.slice A nn c, .slice B mm d] w fun e w' => e = .returned (.bool true) ∧ ∃ n, w' = w.drewN n := lSame6 (xs := xs) (ys := xs) (decide_eq_true rfl) hn hm hl hl2 hA hB
theorem iStatement_is {t s : Int} {l : List Int} (h : Hid (statementL t s = l)) (w : World) : Calls Try.prog 23 #[.int .i64 t, .int .i64 s] w (OwnL l w) := by
  have := iStatementOf t s w
  rw [h.out] at this; exact this
theorem iWhether_is {t : Int} {a l : List Int} (h : Hid (whetherL t a = l)) {A : Option Addr} {na ca : Nat} {w : World} (ha : Row w A na ca a) : Calls Try.prog 22 #[.int .i64 t, .slice A na ca] w (OwnL l w) := by
  have := iWhetherIssue t A na ca a w ha
  rw [h.out] at this; exact this
theorem settles_row {t : Int} {xs : List Int} {s : Int} {b : Bool} (h : Hid (settlesB t xs s = b)) {A : Option Addr} {nn c : Nat} {w : World} (ha : Row w A nn c xs) :
    Calls Try.prog 25 #[.int .i64 t, .slice A nn c, .int .i64 s] w fun e w' => e = .returned (.bool b) ∧ ∃ n, w' = w.drewN n := iSettles_is h A nn c w ha.hn ha.hl ha.hc ha.hm ha.hA
set_option maxRecDepth 100000 in
set_option maxHeartbeats 8000000 in
theorem wAsksOf (A : Option Addr) (nn c : Nat) (zs : List Int) (w : World) (hn : nn = zs.length) (hc : nn ≤ c) (hm : c ≤ maxLen) (hr : ∀ z ∈ zs, 0 ≤ z ∧ z ≤ 255) (hA : Nums .u8 w A zs) :
    Calls Try.prog 4 #[.slice A nn c] w fun e w' => e = .returned (.bool true) ∧ Below w.heap.size w w' := by
  have HO := Lib.hid (drawAsksOf_any A nn c zs w hn hc hm hr hA)
  have hm' : nn ≤ 9223372036854775807 := by unfold maxLen at hm; omega
  clear hn hc hm hr hA
  by_cases hl : 1048576 < nn
  · have hd : decide ((1048576 : Int) < (nn : Int)) = true := decide_eq_true (by omega)
    go_enter Try.func4, Try.ntmps4
    go_wp2_with fail
    go_ret
    exact ⟨rfl, Below.refl _ _⟩
  have hd : decide ((1048576 : Int) < (nn : Int)) = false := decide_eq_false (by omega)
  clear hl
  go_enter Try.func4, Try.ntmps4
  go_wp2_with fail
  refine HO.out.mono ?_
  rintro e w1 ⟨t, v, xs, rfl, ht0, ht1, ho, hlen, hb⟩
  obtain ⟨A1, c1, rfl, _, _, _, _⟩ := ho.form
  have HR := Lib.hid (Owns.row ho (by omega))
  have HB := Lib.hid hb
  clear hb HO hd ho
  have hla := asks_len t xs
  obtain ⟨l, HL⟩ : ∃ l, Hid (asksL t xs = l) := ⟨_, rfl⟩
  rw [HL.out] at hla
  rcases hs : stateB t xs with _ | _
  · have HE : Hid (l = []) := by unfold Hid; rw [← HL.out]; exact asks_no hs
    clear hs
    go_wp2_with fail
    refine (iAsksOf_is HL HR.out).mono ?_
    rintro e w2 ⟨v, rfl, ho, hb⟩
    obtain ⟨A2, c2, rfl, _, _, hn2, _⟩ := ho.form
    have HN2 := Lib.hid hn2
    have HR2 := Lib.hid (HR.out.below hb)
    have HB2 := Lib.hid (bel_trans HB.out hb)
    clear ho hb hn2
    go_wp2_with fail
    refine (sAsksOf_is HL HR2.out).mono ?_
    rintro e w3 ⟨v, rfl, ho, hb⟩
    obtain ⟨A3, c3, rfl, _, _, hn3, _⟩ := ho.form
    have HN3 := Lib.hid hn3
    have HN2b := Lib.hid (HN2.out.below hb)
    have HB3 := Lib.hid (bel_trans HB2.out hb)
    clear ho hb hn3
    go_wp2_with fail
    refine (lSameSelf rfl rfl (by omega) (by omega) HN2b.out HN3.out).mono ?_
    rintro e w' ⟨rfl, n4, rfl⟩
    have hz : l.length = 0 := by rw [HE.out]; rfl
    go_wp2_with fail
    refine (lAlive _).mono ?_
    rintro e w' ⟨rfl, rfl⟩
    go_wp2_with fail
    go_ret
    exact ⟨rfl, bel_drewN HB3.out _⟩
  · obtain ⟨h1, h3, hsets, h70⟩ := state_of hs
    have HSETS := Lib.hid hsets
    have hle : l = tidyL (partsX t xs) := by rw [← HL.out, asks_state, if_pos hs]
    have HPART : Hid (isPartB t l = true) := by unfold Hid; rw [hle]; exact parts_partition h1 h3
    have hpos := (issue_ne (part_issue HPART.out)).1
    have HSE : Hid (∀ s : Int, 0 ≤ s → s ≤ allOf t → settlesB t l s = askTo t xs s xs.length) := fun s h0 h1' => by rw [hle]; unfold askTo; rw [List.take_length]; exact law_asks h1 h3 hsets h0 h1'
    have hnz : ((l.length : Int) == 0) = false := by rw [beq_eq_false_iff_ne]; omega
    obtain ⟨al, HAL⟩ : ∃ n : Nat, Hid (allOf t = (n : Int)) := ⟨(allOf t).toNat, by have := allOf_lt t; show _ = _; omega⟩
    have hal : al < 256 := by have := (allOf_lt t).2; rw [HAL.out] at this; omega
    have HWL := Lib.hid (wonTo_len t xs)
    clear hs hsets hle
    go_wp2_with fail
    refine (iAsksOf_is HL HR.out).mono ?_
    rintro e w2 ⟨v, rfl, ho, hb⟩
    obtain ⟨A2, c2, rfl, _, _, _, _⟩ := ho.form
    have HRL := Lib.hid (Owns.row ho (by omega))
    have HR2 := Lib.hid (HR.out.below hb)
    have HB2 := Lib.hid (bel_trans HB.out hb)
    clear ho hb
    go_wp2_with fail
    refine (sAsksOf_is HL HR2.out).mono ?_
    rintro e w3 ⟨v, rfl, ho, hb⟩
    obtain ⟨A3, c3, rfl, _, _, hn3, _⟩ := ho.form
    have HN3 := Lib.hid hn3
    have HRL3 := Lib.hid (HRL.out.below hb)
    have HR3 := Lib.hid (HR2.out.below hb)
    have HB3 := Lib.hid (bel_trans HB2.out hb)
    clear ho hb hn3
    go_wp2_with fail
    refine (lSameSelf rfl rfl (by omega) (by omega) HRL3.out.hA HN3.out).mono ?_
    rintro e w' ⟨rfl, n4, rfl⟩
    go_wp2_with fail
    clear hnz
    obtain ⟨W3, HW3⟩ : ∃ W, Hid (W = w3.drewN n4) := ⟨_, rfl⟩
    go_loopw [6, 7] (fun v i wr => ∃ (k : Nat) (vs : List Value), k ≤ xs.length ∧ i = .int .i64 k ∧ OwnsR wr w3.heap.size v vs (wonTo t xs k) ∧ Below w3.heap.size w3 wr) (fun _ i _ => xs.length - (Go.RowKit.intOf i).toNat)
    case atStart => exact ⟨0, [], Nat.zero_le _, rfl, OwnsR.lit (w3.drewN n4) w3.heap.size (Nat.le_refl _), (bel_drewN (Below.refl _ _) _).alloc (Nat.le_refl _) _⟩
    case round =>
      obtain ⟨k, vs, hk, rfl, hown, hbel⟩ := hrel
      obtain ⟨W0, rfl⟩ : ∃ W, W = wr := ⟨_, rfl⟩
      have HO := Lib.hid hown
      have HBW := Lib.hid hbel
      have hsz := hbel.size
      have hwl := HWL.out k
      clear hown hbel
      by_cases hlt : k < xs.length
      · obtain ⟨b, off, x, rfl, hcell, hx, _⟩ := (HR3.out.hA.below HBW.out).elem hlt
        have hxo := HSETS.out x (elem_mem hx)
        have HST := Lib.hid (statement_one hxo)
        have hyl := whether_len6 hxo
        have hnx := wonTo_next (t := t) hx
        obtain ⟨y, HY⟩ : ∃ y, Hid (whetherL t [x] = y) := ⟨_, rfl⟩
        rw [HY.out] at hyl hnx
        have HNX := Lib.hid hnx
        clear hnx hxo
        go_wp2_with fail
        refine (iStatement_is HST _).mono ?_
        rintro e w5 ⟨v5, rfl, ho5, hb5⟩
        obtain ⟨A5, c5, rfl, _, _, _, _⟩ := ho5.form
        have HR5 := Lib.hid (Owns.row ho5 (by simp))
        have HO5 := Lib.hid (HO.out.below hb5)
        have HB5 := Lib.hid (bel_trans HBW.out hb5)
        have hsz5 : W0.heap.size ≤ w5.heap.size := hb5.size
        clear ho5 hb5 hcell
        go_wp2_with fail
        refine (iWhether_is HY HR5.out).mono ?_
        rintro e w6 ⟨v6, rfl, ho6, hb6⟩
        obtain ⟨A6, c6, rfl, _, _, _, _⟩ := ho6.form
        have HO6 := Lib.hid (HO5.out.below hb6)
        have HB6 := Lib.hid (bel_trans HB5.out hb6)
        have HNEW := Lib.hid (new_row HO5.out ho6)
        have HY6 := Lib.hid (ho6.base (show w3.heap.size ≤ w5.heap.size by omega))
        have hsz6 : w3.heap.size ≤ w6.heap.size := HB6.out.size
        clear ho6 hb6
        go_wp2_with (at_builtin; refine wp_appendR (W := w6) rfl _ _ rfl w3.heap.size u6 vs (wonTo t xs k) rfl HO6.out (.slice A6 y.length c6) y HY6.out hyl HNEW.out rfl (by omega) (by exact hsz6) ?_; intro v' w' hown' hgrow)
        have hb' := below_appendR HB6.out hsz6 HO6.out (Nat.le_refl _) hgrow
        go_roundw
        case rel => exact ⟨k + 1, _, by omega, by go_num, by rw [HNX.out]; exact hown', hb'⟩
        case measure => simp [Go.RowKit.intOf]; omega
      · obtain rfl : k = xs.length := by omega
        have HRW := Lib.hid (HRL3.out.below HBW.out)
        obtain ⟨A7, c7, rfl, _, _, _⟩ := HO.out.form
        have hwl2 : (wonTo t xs xs.length).length = xs.length := by unfold wonTo; rw [List.length_map, List.take_length]
        have HEL : Hid (∀ j, j < xs.length → ∃ g off Ai ci x, A7 = some ⟨g, off, none⟩ ∧ W0.cell? ⟨g, off + j, none⟩ = some (.slice Ai (whetherL t [x]).length ci) ∧ Hid (xs[j]? = some x) ∧ Hid (Row W0 Ai (whetherL t [x]).length ci (whetherL t [x]))) := fun j hj => by
          obtain ⟨g, off, Ai, ci, ys, hA, hc, hy, hr⟩ := HO.out.elem (i := j) (by omega)
          obtain ⟨x, hx⟩ : ∃ x, xs[j]? = some x := ⟨xs[j], List.getElem?_eq_getElem hj⟩
          have hyx : ys = whetherL t [x] := by
            have h := hy.out
            unfold wonTo at h
            rw [List.take_length, List.getElem?_map, hx] at h
            exact (Option.some.inj h).symm
          subst hyx
          exact ⟨g, off, Ai, ci, x, hA, hc, hx, hr⟩
        rw [hwl2]
        clear hwl hwl2
        go_wp2_with fail
        go_loopw [8] (fun i wr => ∃ n : Nat, n ≤ al + 1 ∧ i = .int .i64 n ∧ ∃ q, wr = W0.drewN q) (fun i _ => al + 1 - (Go.RowKit.intOf i).toNat)
        case atStart => exact ⟨0, Nat.zero_le _, rfl, 0, rfl⟩
        case round =>
          obtain ⟨n, hn, rfl, q, rfl⟩ := hrel
          go_wp2_with fail
          refine (lWhole_is HAL h1 h3 _).mono ?_
          rintro e w' ⟨rfl, rfl⟩
          by_cases hnt : n ≤ al
          · have hdn : decide ((n : Int) ≤ (al : Int)) = true := decide_eq_true (by omega)
            have HSN := Lib.hid (HSE.out n (by omega) (by rw [HAL.out]; omega))
            go_wp2_with fail
            clear hdn
            go_loopw [9, 10] (fun av i wr => ∃ j : Nat, j ≤ xs.length ∧ i = .int .i64 j ∧ av = .bool (askTo t xs n j) ∧ ∃ q, wr = W0.drewN q) (fun _ i _ => xs.length - (Go.RowKit.intOf i).toNat)
            case atStart => exact ⟨0, Nat.zero_le _, rfl, rfl, q, rfl⟩
            case round =>
              obtain ⟨j, hj, rfl, rfl, q2, rfl⟩ := hrel
              by_cases hjt : j < xs.length
              · obtain ⟨g, off, Ai, ci, x, rfl, hcell, hx, hr⟩ := HEL.out j hjt
                have hnx := askTo_next (t := t) (s := n) hx
                rcases hy : askTo t xs n j with _ | _
                · have HN : Hid (askTo t xs n (j + 1) = false) := by unfold Hid; rw [hnx, hy]; rfl
                  clear hnx hy hcell
                  go_wp2_with fail
                  go_roundw
                  case rel => exact ⟨j + 1, by omega, by go_num, by rw [HN.out], _, rfl⟩
                  case measure => simp [Go.RowKit.intOf]; omega
                · obtain ⟨z, HZ⟩ : ∃ z, Hid (settlesB t (whetherL t [x]) (n : Int) = z) := ⟨_, rfl⟩
                  have HN : Hid (askTo t xs n (j + 1) = z) := by unfold Hid; rw [hnx, hy, HZ.out]; rfl
                  clear hnx hy
                  go_wp2_with fail
                  refine (settles_row HZ (hr.out.drewN _)).mono ?_
                  rintro e w' ⟨rfl, q3, rfl⟩
                  go_wp2_with fail
                  go_roundw
                  case rel => exact ⟨j + 1, by omega, by go_num, by rw [HN.out], _, rfl⟩
                  case measure => simp [Go.RowKit.intOf]; omega
              · obtain rfl : j = xs.length := by omega
                obtain ⟨z, HZ⟩ : ∃ z, Hid (askTo t xs n xs.length = z) := ⟨_, rfl⟩
                rw [HZ.out] at HSN ⊢
                have hzz : (z != z) = false := by cases z <;> rfl
                go_wp2_with fail
                refine (settles_row HSN (HRW.out.drewN _)).mono ?_
                rintro e w' ⟨rfl, q3, rfl⟩
                go_wp2_with fail
                go_roundw
                case rel => exact ⟨n + 1, by omega, by go_num, _, rfl⟩
                case measure => simp [Go.RowKit.intOf]; omega
          · obtain rfl : n = al + 1 := by omega
            have hdn : decide (((al + 1 : Nat) : Int) ≤ (al : Int)) = false := decide_eq_false (by omega)
            go_wp2_with fail
            refine (iIsPart_is HPART (HRW.out.drewN _)).mono ?_
            rintro e w' ⟨rfl, q4, rfl⟩
            go_wp2_with fail
            go_ret
            exact ⟨rfl, bel_drewN (bel_trans HB3.out HBW.out) _⟩
end Go.Proofs.Ytkjjpleedobkdaa

namespace Go.Proofs.Ytkjjpleedobkdaa
open Go.RowKit

theorem coarser_none6 {t : Int} {a b : List Int} (h : (isPartB t a && isPartB t b) = false) : coarserL t a b = [] := by unfold coarserL; rw [h]; rfl
theorem iFollows_is6 {t : Int} {a b : List Int} {v : Bool} (h : Hid (followsB t a b = v)) {A B : Option Addr} {na ca nb cb : Nat} {w : World} (ha : Row w A na ca a) (hb : Row w B nb cb b) :
    Calls Try.prog 35 #[.int .i64 t, .slice A na ca, .slice B nb cb] w fun e w' => e = .returned (.bool v) ∧ ∃ n, w' = w.drewN n :=
  (iFollows t A B na ca nb cb a b w ha hb).mono fun _ _ ⟨he, hw⟩ => ⟨he.trans (ret_bool h.out), hw⟩
theorem parts_are {t : Int} {c : List Int} {k : Nat} (h : (partitionsL t)[k]? = some c) : isPartB t c = true := by
  have := List.mem_of_getElem? h
  unfold partitionsL at this
  exact (List.mem_filter.1 this).2
theorem parts_len (t : Int) : (partitionsL t).length ≤ 65536 := Nat.le_trans (List.length_filter_le _ _) (issuesOf_len t)
set_option maxRecDepth 100000 in
set_option maxHeartbeats 8000000 in
theorem wCoarserOf (A : Option Addr) (nn c : Nat) (zs : List Int) (w : World) (hn : nn = zs.length) (hc : nn ≤ c) (hm : c ≤ maxLen) (hr : ∀ z ∈ zs, 0 ≤ z ∧ z ≤ 255) (hA : Nums .u8 w A zs) :
    Calls Try.prog 6 #[.slice A nn c] w fun e w' => e = .returned (.bool true) ∧ Below w.heap.size w w' := by
  have HO := Lib.hid (drawCoarserOf_any A nn c zs w hn hc hm hr hA)
  have hm' : nn ≤ 9223372036854775807 := by unfold maxLen at hm; omega
  clear hn hc hm hr hA
  by_cases hl : 1048576 < nn
  · have hd : decide ((1048576 : Int) < (nn : Int)) = true := decide_eq_true (by omega)
    go_enter Try.func6, Try.ntmps6
    go_wp2_with fail
    go_ret
    exact ⟨rfl, Below.refl _ _⟩
  have hd : decide ((1048576 : Int) < (nn : Int)) = false := decide_eq_false (by omega)
  clear hl
  go_enter Try.func6, Try.ntmps6
  go_wp2_with fail
  refine HO.out.mono ?_
  rintro e w1 ⟨t, v1, a, v2, b, rfl, ht0, ht1, ho1, hl1, ho2, hl2, hb⟩
  obtain ⟨A1, c1, rfl, _, _, _, _⟩ := ho1.form
  obtain ⟨A2, c2, rfl, _, _, _, _⟩ := ho2.form
  have HRa := Lib.hid (Owns.row ho1 (by omega))
  have HRb := Lib.hid (Owns.row ho2 (by omega))
  have HB := Lib.hid hb
  clear hb ho1 ho2 HO hd
  obtain ⟨r, HIS⟩ : ∃ l, Hid (coarserL t a b = l) := ⟨_, rfl⟩
  have hrl : r.length ≤ 8 := by rw [← HIS.out]; exact coarser_len t a b
  go_wp2_with fail
  refine (iCoarserOf t _ _ _ _ _ _ a b _ HRa.out HRb.out).mono ?_
  rintro e w3 ⟨v, rfl, ho, hb⟩
  rw [HIS.out] at ho
  obtain ⟨A3, c3, rfl, _, _, _, _⟩ := ho.form
  replace HRa := Lib.hid (Row.below (by first | exact HRa.out | exact Row.drewN HRa.out _) hb)
  replace HRb := Lib.hid (Row.below (by first | exact HRb.out | exact Row.drewN HRb.out _) hb)
  replace HB := Lib.hid (bel_trans (by first | exact HB.out | exact bel_drewN HB.out _) hb)
  have HR3 := Lib.hid (Owns.row ho (by omega))
  clear ho hb
  go_wp2_with fail
  refine (sCoarserOf t _ _ _ _ _ _ a b _ (by first | exact HRa.out | exact Row.drewN HRa.out _) (by first | exact HRb.out | exact Row.drewN HRb.out _)).mono ?_
  rintro e w4 ⟨v, rfl, ho, hb⟩
  rw [HIS.out] at ho
  obtain ⟨A4, c4, rfl, _, _, _, _⟩ := ho.form
  replace HRa := Lib.hid (Row.below (by first | exact HRa.out | exact Row.drewN HRa.out _) hb)
  replace HRb := Lib.hid (Row.below (by first | exact HRb.out | exact Row.drewN HRb.out _) hb)
  replace HB := Lib.hid (bel_trans (by first | exact HB.out | exact bel_drewN HB.out _) hb)
  replace HR3 := Lib.hid (Row.below (by first | exact HR3.out | exact Row.drewN HR3.out _) hb)
  have HR4 := Lib.hid (Owns.row ho (by omega))
  clear ho hb
  go_wp2_with fail
  refine (lSameSelf rfl rfl (by omega) (by omega) HR3.out.hA HR4.out.hA).mono ?_
  rintro e w' ⟨rfl, m1, rfl⟩
  by_cases hp : (isPartB t a && isPartB t b) = false
  · have hz : r.length = 0 := by rw [← HIS.out, coarser_none6 hp]; rfl
    clear hp
    go_wp2_with fail
    refine (lAlive _).mono ?_
    rintro e w' ⟨rfl, rfl⟩
    go_wp2_with fail
    go_ret
    exact ⟨rfl, bel_drewN HB.out _⟩
  · rw [Bool.not_eq_false, Bool.and_eq_true] at hp
    obtain ⟨hpa, hpb⟩ := hp
    have HPA := Lib.hid hpa
    have HPB := Lib.hid hpb
    have HPART : Hid (isPartB t r = true) := by unfold Hid; rw [← HIS.out]; exact coarser_part hpa hpb
    have HFA : Hid (followsB t a r = true) := by unfold Hid; rw [← HIS.out]; exact (coarser_follows hpa hpb).1
    have HFB : Hid (followsB t b r = true) := by unfold Hid; rw [← HIS.out]; exact (coarser_follows hpa hpb).2
    have HBO : Hid (bothL t r a = a) := by unfold Hid; rw [← HIS.out]; exact coarser_both hpa hpb
    have HFIN : Hid (∀ k c, Hid ((partitionsL t)[k]? = some c) → followsB t a c = true → followsB t b c = true → Hid (followsB t r c = true)) := fun k c h h1 h2 => by
      unfold Hid; rw [← HIS.out]; exact coarser_finest hpa hpb (parts_are h.out) h1 h2
    have hpos := (issue_ne (part_issue HPART.out)).1
    have hnz : ((r.length : Int) == 0) = false := by rw [beq_eq_false_iff_ne]; omega
    have hpl := parts_len t
    obtain ⟨L, HL⟩ : ∃ L, Hid (partitionsL t = L) := ⟨_, rfl⟩
    have HPS : Hid (∀ w, Calls Try.prog 34 #[.int .i64 t] w (OwnR L w)) := fun w => by rw [← HL.out]; exact sPartitionsOf t w
    rw [HL.out] at HFIN hpl
    clear hpa hpb
    go_wp2_with fail
    refine (HPS.out _).mono ?_
    rintro e w5 ⟨v5, vs5, rfl, ho5, hb⟩
    have HO5 := Lib.hid ho5
    have HRa5 := Lib.hid ((HRa.out.drewN _).below hb)
    have HRb5 := Lib.hid ((HRb.out.drewN _).below hb)
    have HRr5 := Lib.hid ((HR3.out.drewN _).below hb)
    have HB5 := Lib.hid (bel_trans (bel_drewN HB.out _) hb)
    obtain ⟨A5, c5, rfl, _, _, _⟩ := ho5.form
    clear ho5 hb hnz
    go_wp2_with fail
    go_loopw [8] (fun i wr => ∃ k : Nat, k ≤ L.length ∧ i = .int .i64 k ∧ ∃ q, wr = w5.drewN q) (fun i _ => L.length - (Go.RowKit.intOf i).toNat)
    case atStart => exact ⟨0, Nat.zero_le _, rfl, 0, rfl⟩
    case round =>
      obtain ⟨k, hk, rfl, q, rfl⟩ := hrel
      by_cases hlt : k < L.length
      · obtain ⟨g, off, Ai, ci, x, rfl, hcell, hx, hrow⟩ := HO5.out.elem hlt
        obtain ⟨f1, H1⟩ : ∃ y, Hid (followsB t a x = y) := ⟨_, rfl⟩
        obtain ⟨f2, H2⟩ : ∃ y, Hid (followsB t b x = y) := ⟨_, rfl⟩
        cases f1
        · go_wp2_with fail
          refine (iFollows_is6 H1 (HRa5.out.drewN _) (hrow.out.drewN _)).mono ?_
          rintro e w' ⟨rfl, q1, rfl⟩
          go_wp2_with fail
          go_roundw
          case rel => exact ⟨k + 1, by omega, by go_num, _, by first | rfl | rw [World.drewN_drewN]⟩
          case measure => simp [Go.RowKit.intOf]; omega
        · cases f2
          · go_wp2_with fail
            refine (iFollows_is6 H1 (HRa5.out.drewN _) (hrow.out.drewN _)).mono ?_
            rintro e w' ⟨rfl, q1, rfl⟩
            go_wp2_with fail
            refine (iFollows_is6 H2 (HRb5.out.drewN _) (hrow.out.drewN _)).mono ?_
            rintro e w' ⟨rfl, q2, rfl⟩
            go_wp2_with fail
            go_roundw
            case rel => exact ⟨k + 1, by omega, by go_num, _, by first | rfl | rw [World.drewN_drewN] | rw [World.drewN_drewN, World.drewN_drewN]⟩
            case measure => simp [Go.RowKit.intOf]; omega
          · have H3 := HFIN.out k x hx H1.out H2.out
            go_wp2_with fail
            refine (iFollows_is6 H1 (HRa5.out.drewN _) (hrow.out.drewN _)).mono ?_
            rintro e w' ⟨rfl, q1, rfl⟩
            go_wp2_with fail
            refine (iFollows_is6 H2 (HRb5.out.drewN _) (hrow.out.drewN _)).mono ?_
            rintro e w' ⟨rfl, q2, rfl⟩
            go_wp2_with fail
            refine (iFollows_is6 H3 (HRr5.out.drewN _) (hrow.out.drewN _)).mono ?_
            rintro e w' ⟨rfl, q3, rfl⟩
            go_wp2_with fail
            go_roundw
            case rel => exact ⟨k + 1, by omega, by go_num, _, by first | rfl | rw [World.drewN_drewN] | rw [World.drewN_drewN, World.drewN_drewN] | rw [World.drewN_drewN, World.drewN_drewN, World.drewN_drewN]⟩
            case measure => simp [Go.RowKit.intOf]; omega
      · obtain rfl : k = L.length := by omega
        go_wp2_with fail
        refine (iIsPart_is HPART (HRr5.out.drewN _)).mono ?_
        rintro e w' ⟨rfl, q1, rfl⟩
        go_wp2_with fail
        refine (iFollows_is6 HFA (HRa5.out.drewN _) (HRr5.out.drewN _)).mono ?_
        rintro e w' ⟨rfl, q2, rfl⟩
        go_wp2_with fail
        refine (iFollows_is6 HFB (HRb5.out.drewN _) (HRr5.out.drewN _)).mono ?_
        rintro e w' ⟨rfl, q3, rfl⟩
        go_wp2_with fail
        refine (iBothIssues t _ _ _ _ _ _ r a _ (HRr5.out.drewN _) (HRa5.out.drewN _)).mono ?_
        rintro e w9 ⟨v9, rfl, ho9, hb9⟩
        rw [HBO.out] at ho9
        obtain ⟨A9, c9, rfl, _, _, hn9, _⟩ := ho9.form
        have HN9 := Lib.hid hn9
        have HRa9 := Lib.hid ((HRa5.out.drewN _).below hb9)
        have HB9 := Lib.hid (bel_trans (bel_drewN HB5.out _) hb9)
        clear ho9 hb9 hn9
        go_wp2_with fail
        refine (lSameSelf rfl rfl (by omega) (by omega) HN9.out HRa9.out.hA).mono ?_
        rintro e w' ⟨rfl, q5, rfl⟩
        go_wp2_with fail
        go_ret
        exact ⟨rfl, bel_drewN HB9.out _⟩
end Go.Proofs.Ytkjjpleedobkdaa
