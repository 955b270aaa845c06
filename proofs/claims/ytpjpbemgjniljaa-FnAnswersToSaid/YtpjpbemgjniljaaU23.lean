/-
  What the proofs of this seat's statements share (AskY, AskZ, AskW).
-/
import Derived.Laws.Strings
import Derived.Test.YtpjpbemgjniljaaU22
import Derived.Test.YtpjpbemgjniljaaU21
import Derived.Test.YtpjpbemgjniljaaU7
import Derived.Test.YtpjpbemgjniljaaU12
import Derived.Test.YtpjpbemgjniljaaU6

namespace Go.Proofs.Ytpjpbemgjniljaa
open Go.RowKit

set_option maxRecDepth 100000 in
set_option maxHeartbeats 4000000 in
theorem wPlanAsks (A : Option Addr) (nn c : Nat) (zs : List Int) (w : World) (hn : nn = zs.length) (hc : nn ≤ c) (hm : c ≤ maxLen) (hr : ∀ z ∈ zs, 0 ≤ z ∧ z ≤ 255) (hA : Nums .u8 w A zs) :
    Calls Try.prog 4 #[.slice A nn c] w fun e w' => e = .returned (.bool true) ∧ Below w.heap.size w w' := by
  have HO := Lib.hid (drawPlanAsks_any A nn c zs w hn hc hm hr hA)
  have hm' : nn ≤ 9223372036854775807 := by unfold maxLen at hm; omega
  clear hn hc hm hr hA
  by_cases hl : 1048576 < nn
  · have hd : decide ((1048576 : Int) < (nn : Int)) = true := decide_eq_true (by omega)
    go_enter Try.func4, Try.ntmps4
    go_wp2_with fail
    go_ret
    exact ⟨rfl, Below.refl _ _⟩
  have hd : decide ((1048576 : Int) < (nn : Int)) = false := decide_eq_false (by omega)
  clear hl
  go_enter Try.func4, Try.ntmps4
  go_wp2_with fail
  refine HO.out.mono ?_
  rintro e w1 ⟨t, v1, a, v2, b, u, s, rfl, ht0, ht1, ho1, hl1, ho2, hl2, hu0, hu1, hs, hb⟩
  obtain ⟨A1, c1, rfl, _, _, _, _⟩ := ho1.form
  obtain ⟨A2, c2, rfl, _, _, _, _⟩ := ho2.form
  have HRa := Lib.hid (Owns.row ho1 (by omega))
  have HRb := Lib.hid (Owns.row ho2 (by omega))
  have HB := Lib.hid hb
  clear hb ho1 ho2 HO hd
  have hs2 : s.size ≤ 1048576 := by omega
  rcases hp : settlingP t a b u s with _ | x
  · have HP : Hid (planAsksI t a b u s = -1) := by unfold Hid; rw [planAsks_eq, hp]
    clear hp
    go_wp2_with fail
    refine (iPlanAsks_is HP (by first | exact HRa.out | exact Row.drewN HRa.out _) (by first | exact HRb.out | exact Row.drewN HRb.out _) hs2).mono ?_
    rintro e w' ⟨rfl, hb⟩
    replace HRa := Lib.hid (Row.below (by first | exact HRa.out | exact Row.drewN HRa.out _) hb)
    replace HRb := Lib.hid (Row.below (by first | exact HRb.out | exact Row.drewN HRb.out _) hb)
    replace HB := Lib.hid (bel_trans (by first | exact HB.out | exact bel_drewN HB.out _) hb)
    clear hb
    go_wp2_with fail
    refine (sPlanAsks_is HP (by first | exact HRa.out | exact Row.drewN HRa.out _) (by first | exact HRb.out | exact Row.drewN HRb.out _) hs2).mono ?_
    rintro e w' ⟨rfl, m1, rfl⟩
    go_wp2_with fail
    refine (lAlive _).mono ?_
    rintro e w' ⟨rfl, rfl⟩
    go_wp2_with fail
    go_ret
    exact ⟨rfl, bel_drewN HB.out _⟩
  · obtain ⟨d, HD⟩ : ∃ d, Hid (depthP x = d) := ⟨_, rfl⟩
    have HP : Hid (planAsksI t a b u s = (d : Int)) := by unfold Hid; rw [planAsks_eq, hp]; show (depthP x : Int) = _; rw [HD.out]
    have HP2 : Hid (planAsksI t a b (andI u 90) s = (d : Int)) := by unfold Hid; rw [planAsks_eq, law_planLess hp 90]; show (depthP x : Int) = _; rw [HD.out]
    obtain ⟨n, HN⟩ : ∃ n, Hid (asksNeededI t a b u = n) := ⟨_, rfl⟩
    have hnd := law_planNeed hp
    rw [HN.out, HD.out] at hnd
    obtain ⟨hn0, hn1⟩ := hnd
    have hur := (ok7_parts (settling_is hp).1).2.2
    obtain ⟨hu00, hu11, _⟩ := hur
    obtain ⟨g, HG⟩ : ∃ g, Hid (andI u 90 = g) := ⟨_, rfl⟩
    rw [HG.out] at HP2
    have hdn : decide ((d : Int) < 0) = false := decide_eq_false (by omega)
    have hn0d : decide ((0 : Int) ≤ n) = true := decide_eq_true hn0
    have hn1d : decide (n ≤ (d : Int)) = true := decide_eq_true hn1
    clear hp
    go_wp2_with fail
    refine (iPlanAsks_is HP (by first | exact HRa.out | exact Row.drewN HRa.out _) (by first | exact HRb.out | exact Row.drewN HRb.out _) hs2).mono ?_
    rintro e w' ⟨rfl, hb⟩
    replace HRa := Lib.hid (Row.below (by first | exact HRa.out | exact Row.drewN HRa.out _) hb)
    replace HRb := Lib.hid (Row.below (by first | exact HRb.out | exact Row.drewN HRb.out _) hb)
    replace HB := Lib.hid (bel_trans (by first | exact HB.out | exact bel_drewN HB.out _) hb)
    clear hb
    go_wp2_with fail
    refine (sPlanAsks_is HP (by first | exact HRa.out | exact Row.drewN HRa.out _) (by first | exact HRb.out | exact Row.drewN HRb.out _) hs2).mono ?_
    rintro e w' ⟨rfl, m2, rfl⟩
    go_wp2_with fail
    refine (iAsksNeeded_is HN (by first | exact HRa.out | exact Row.drewN HRa.out _) (by first | exact HRb.out | exact Row.drewN HRb.out _)).mono ?_
    rintro e w' ⟨rfl, hb⟩
    replace HRa := Lib.hid (Row.below (by first | exact HRa.out | exact Row.drewN HRa.out _) hb)
    replace HRb := Lib.hid (Row.below (by first | exact HRb.out | exact Row.drewN HRb.out _) hb)
    replace HB := Lib.hid (bel_trans (by first | exact HB.out | exact bel_drewN HB.out _) hb)
    clear hb
    go_wp2_with fail
    refine (lBoth_is HG hu00 hu11 (by omega) _).mono ?_
    rintro e w' ⟨rfl, rfl⟩
    go_wp2_with fail
    refine (iPlanAsks_is HP2 (by first | exact HRa.out | exact Row.drewN HRa.out _) (by first | exact HRb.out | exact Row.drewN HRb.out _) hs2).mono ?_
    rintro e w' ⟨rfl, hb⟩
    replace HRa := Lib.hid (Row.below (by first | exact HRa.out | exact Row.drewN HRa.out _) hb)
    replace HRb := Lib.hid (Row.below (by first | exact HRb.out | exact Row.drewN HRb.out _) hb)
    replace HB := Lib.hid (bel_trans (by first | exact HB.out | exact bel_drewN HB.out _) hb)
    clear hb
    go_wp2_with fail
    go_ret
    exact ⟨rfl, HB.out⟩
end Go.Proofs.Ytpjpbemgjniljaa

namespace Go.Proofs.Ytpjpbemgjniljaa
open Go.RowKit

theorem sameAns_next (t : Int) (asks issue : List Int) (u : Int) (s b : ByteArray) (k : Nat) : sameAns t asks issue u s b (k + 1) = sameAns t asks issue u s b k + if decide (answersToB t asks issue u s k = some b) = true then 2 ^ k else 0 := rfl
theorem wrap_sum7 {a b : Nat} (ha : a < 256) (hb : b < 256) : wrap64 ((a : Int) + (b : Int)) = (a : Int) + (b : Int) := IntWalk.wrap64_in _ ⟨by omega, by omega⟩
theorem textV_some {o : Option ByteArray} {x : ByteArray} {y : Bool} (h : textV o = x ∧ o.isSome = y) : o = if y = true then some x else none := by
  obtain ⟨h1, h2⟩ := h
  cases o with
  | none => subst h2; rfl
  | some z => subst h1 h2; rfl
set_option maxRecDepth 100000 in
set_option maxHeartbeats 8000000 in
theorem wAnswersTo (A : Option Addr) (nn c : Nat) (zs : List Int) (w : World) (hn : nn = zs.length) (hc : nn ≤ c) (hm : c ≤ maxLen) (hr : ∀ z ∈ zs, 0 ≤ z ∧ z ≤ 255) (hA : Nums .u8 w A zs) :
    Calls Try.prog 5 #[.slice A nn c] w fun e w' => e = .returned (.bool true) ∧ Below w.heap.size w w' := by
  have HO := Lib.hid (drawAnswersTo_any A nn c zs w hn hc hm hr hA)
  have hm' : nn ≤ 9223372036854775807 := by unfold maxLen at hm; omega
  clear hn hc hm hr hA
  by_cases hl : 1048576 < nn
  · have hd : decide ((1048576 : Int) < (nn : Int)) = true := decide_eq_true (by omega)
    go_enter Try.func5, Try.ntmps5
    go_wp2_with fail
    go_ret
    exact ⟨rfl, Below.refl _ _⟩
  have hd : decide ((1048576 : Int) < (nn : Int)) = false := decide_eq_false (by omega)
  clear hl
  go_enter Try.func5, Try.ntmps5
  go_wp2_with fail
  refine HO.out.mono ?_
  rintro e w1 ⟨t, v1, a, v2, b, u, s, v, rfl, ht0, ht1, ho1, hl1, ho2, hl2, hu0, hu1, hs, hv0, hv1, hb⟩
  obtain ⟨A1, c1, rfl, _, _, _, _⟩ := ho1.form
  obtain ⟨A2, c2, rfl, _, _, _, _⟩ := ho2.form
  have HRa := Lib.hid (Owns.row ho1 (by omega))
  have HRb := Lib.hid (Owns.row ho2 (by omega))
  have HB := Lib.hid hb
  clear hb ho1 ho2 HO hd
  have hs2 : s.size ≤ 1048576 := by omega
  rcases hp : answersToB t a b u s v with _ | bb
  · have HP : Hid (textV (answersToB t a b u s v) = ⟨#[]⟩ ∧ (answersToB t a b u s v).isSome = false) := by unfold Hid; rw [hp]; exact ⟨rfl, rfl⟩
    clear hp
    go_wp2_with fail
    refine (iAnswersTo_is HP (by first | exact HRa.out | exact Row.drewN HRa.out _) (by first | exact HRb.out | exact Row.drewN HRb.out _) hs2).mono ?_
    rintro e w' ⟨rfl, hb⟩
    replace HRa := Lib.hid (Row.below (by first | exact HRa.out | exact Row.drewN HRa.out _) hb)
    replace HRb := Lib.hid (Row.below (by first | exact HRb.out | exact Row.drewN HRb.out _) hb)
    replace HB := Lib.hid (bel_trans (by first | exact HB.out | exact bel_drewN HB.out _) hb)
    clear hb
    go_wp2_with fail
    refine (sAnswersTo_is HP (by first | exact HRa.out | exact Row.drewN HRa.out _) (by first | exact HRb.out | exact Row.drewN HRb.out _) hs2).mono ?_
    rintro e w' ⟨rfl, m1, rfl⟩
    go_wp2_with fail
    refine (lAlive _).mono ?_
    rintro e w' ⟨rfl, rfl⟩
    go_wp2_with fail
    go_ret
    exact ⟨rfl, bel_drewN HB.out _⟩
  · have HP : Hid (textV (answersToB t a b u s v) = bb ∧ (answersToB t a b u s v).isSome = true) := by unfold Hid; rw [hp]; exact ⟨rfl, rfl⟩
    have hok : ok7 t a b u = true := by
      rcases hq : settlingP t a b u s with _ | x
      · rw [answersTo_none hq] at hp; cases hp
      · exact (settling_is hq).1
    obtain ⟨h1, h3⟩ := things7 hok
    obtain ⟨hset, hlen⟩ := law_same hp
    have HSET := Lib.hid hset
    obtain ⟨d, HD⟩ : ∃ d, Hid (planAsksI t a b u s = d) := ⟨_, rfl⟩
    rw [HD.out] at hlen
    obtain ⟨hnw, hn8⟩ := worlds_n h1 h3
    have HNW := Lib.hid hnw
    obtain ⟨N, HNN⟩ : ∃ n, Hid (nWorlds t = n) := ⟨_, rfl⟩
    rw [HNN.out] at HNW hn8 HSET
    have HS8 : Hid (∀ k, k ≤ 8 → sameAns t a b u s bb k < 256) := fun k hk => by
      have h1 := setOfW_lt (fun v : Nat => decide (answersToB t a b u s v = some bb)) k
      have h2 : 2 ^ k ≤ 2 ^ 8 := Nat.pow_le_pow_right (by omega) hk
      unfold sameAns
      omega
    have hln : decide ((bb.size : Int) ≤ d) = true := decide_eq_true hlen
    clear hp hok hset hnw
    go_wp2_with fail
    refine (iAnswersTo_is HP (by first | exact HRa.out | exact Row.drewN HRa.out _) (by first | exact HRb.out | exact Row.drewN HRb.out _) hs2).mono ?_
    rintro e w' ⟨rfl, hb⟩
    replace HRa := Lib.hid (Row.below (by first | exact HRa.out | exact Row.drewN HRa.out _) hb)
    replace HRb := Lib.hid (Row.below (by first | exact HRb.out | exact Row.drewN HRb.out _) hb)
    replace HB := Lib.hid (bel_trans (by first | exact HB.out | exact bel_drewN HB.out _) hb)
    clear hb
    go_wp2_with fail
    refine (sAnswersTo_is HP HRa.out HRb.out hs2).mono ?_
    rintro e w' ⟨rfl, mq, rfl⟩
    replace HRa := Lib.hid (HRa.out.drewN mq)
    replace HRb := Lib.hid (HRb.out.drewN mq)
    replace HB := Lib.hid (bel_drewN HB.out mq)
    go_wp2_with fail
    go_loopw [13, 14] (fun sm i wr => ∃ k : Nat, k ≤ N ∧ i = .int .i64 k ∧ sm = .int .i64 ((sameAns t a b u s bb k : Nat) : Int) ∧ Row wr A1 a.length c1 a ∧ Row wr A2 b.length c2 b ∧ Below w.heap.size w wr) (fun _ i _ => N - (Go.RowKit.intOf i).toNat)
    case atStart => exact ⟨0, Nat.zero_le _, rfl, rfl, HRa.out, HRb.out, HB.out⟩
    case round =>
      obtain ⟨k, hk, rfl, rfl, hra, hrb, hbl⟩ := hrel
      have HRA := Lib.hid hra
      have HRB := Lib.hid hrb
      have HBL := Lib.hid hbl
      have hsm := HS8.out k (by omega)
      have hnx := sameAns_next t a b u s bb k
      obtain ⟨sm, HSM⟩ : ∃ z, Hid (sameAns t a b u s bb k = z) := ⟨_, rfl⟩
      obtain ⟨sn, HSN⟩ : ∃ z, Hid (sameAns t a b u s bb (k + 1) = z) := ⟨_, rfl⟩
      rw [HSM.out, HSN.out] at hnx
      rw [HSM.out] at hsm ⊢
      clear hra hrb hbl
      by_cases hlt : k < N
      · have hlk : (k : Int) < (N : Int) := by omega
        obtain ⟨x, y, HXY⟩ : ∃ x y, Hid (textV (answersToB t a b u s k) = x ∧ (answersToB t a b u s k).isSome = y) := ⟨_, _, rfl, rfl⟩
        have hopt := textV_some HXY.out
        rw [hopt] at hnx
        have hwp := wrap_pow6p (k := k) (by omega)
        have hw8 : 2 ^ k < 256 := Nat.lt_of_le_of_lt (Nat.pow_le_pow_right (by omega) (show k ≤ 7 by omega)) (by decide)
        clear hopt
        cases y
        · have HN : Hid (sn = sm) := by unfold Hid; rw [hnx]; simp
          clear hnx
          go_wp2_with fail
          refine (sWorldsOf_is HNW _).mono ?_
          rintro e w' ⟨rfl, rfl⟩
          go_wp2_with fail
          refine (iAnswersTo_is HXY HRA.out HRB.out hs2).mono ?_
          rintro e w2 ⟨rfl, hb2⟩
          have HA2 := Lib.hid (HRA.out.below hb2)
          have HB2 := Lib.hid (HRB.out.below hb2)
          have HBL2 : Hid (Below w.heap.size w w2) := bel_trans HBL.out hb2
          clear hb2
          go_wp2_with fail
          go_roundw
          case rel => exact ⟨k + 1, by omega, by go_num, by rw [HSN.out, HN.out], HA2.out, HB2.out, HBL2.out⟩
          case measure => simp [Go.RowKit.intOf]; omega
        · by_cases hxb : x = bb
          · subst hxb
            have HN : Hid (sn = sm + 2 ^ k) := by unfold Hid; rw [hnx]; simp
            have H2K : Hid ((2 : Int) ^ k = ((2 ^ k : Nat) : Int)) := by unfold Hid; push_cast; rfl
            clear hnx
            go_wp2_with fail
            refine (sWorldsOf_is HNW _).mono ?_
            rintro e w' ⟨rfl, rfl⟩
            go_wp2_with fail
            refine (iAnswersTo_is HXY HRA.out HRB.out hs2).mono ?_
            rintro e w2 ⟨rfl, hb2⟩
            have HA2 := Lib.hid (HRA.out.below hb2)
            have HB2 := Lib.hid (HRB.out.below hb2)
            have HBL2 : Hid (Below w.heap.size w w2) := bel_trans HBL.out hb2
            clear hb2
            go_wp2_with fail
            go_roundw
            case rel => exact ⟨k + 1, by omega, by go_num, by rw [HSN.out, HN.out]; congr 1; push_cast; rw [H2K.out]; exact wrap_sum7 hsm hw8, HA2.out, HB2.out, HBL2.out⟩
            case measure => simp [Go.RowKit.intOf]; omega
          · have HN : Hid (sn = sm) := by
              unfold Hid
              rw [hnx, if_neg]
              · rfl
              · simp [hxb]
            have hne2 : (x.toList == bb.toList) = false := by
              rw [beq_eq_false_iff_ne]
              intro h
              apply hxb
              rw [ByteArray.toList_eq, ByteArray.toList_eq] at h
              exact ByteArray.ext (Array.toList_inj.mp h)
            clear hnx
            go_wp2_with fail
            refine (sWorldsOf_is HNW _).mono ?_
            rintro e w' ⟨rfl, rfl⟩
            go_wp2_with fail
            refine (iAnswersTo_is HXY HRA.out HRB.out hs2).mono ?_
            rintro e w2 ⟨rfl, hb2⟩
            have HA2 := Lib.hid (HRA.out.below hb2)
            have HB2 := Lib.hid (HRB.out.below hb2)
            have HBL2 : Hid (Below w.heap.size w w2) := bel_trans HBL.out hb2
            clear hb2
            go_wp2_with fail
            go_roundw
            case rel => exact ⟨k + 1, by omega, by go_num, by rw [HSN.out, HN.out], HA2.out, HB2.out, HBL2.out⟩
            case measure => simp [Go.RowKit.intOf]; omega
      · obtain rfl : k = N := by omega
        have HST : Hid (settlesB t b (sm : Int) = true) := by have := HSET.out; rw [HSM.out] at this; exact this
        clear hnx
        go_wp2_with fail
        refine (sWorldsOf_is HNW _).mono ?_
        rintro e w' ⟨rfl, rfl⟩
        go_wp2_with fail
        refine (rSettles HST HRB.out).mono ?_
        rintro e w2 ⟨rfl, m2, rfl⟩
        go_wp2_with fail
        refine (iPlanAsks_is HD (HRA.out.drewN _) (HRB.out.drewN _) hs2).mono ?_
        rintro e w3 ⟨rfl, hb3⟩
        have HBL3 : Hid (Below w.heap.size w w3) := bel_trans (bel_drewN HBL.out _) hb3
        clear hb3
        go_wp2_with fail
        go_ret
        exact ⟨rfl, HBL3.out⟩
end Go.Proofs.Ytpjpbemgjniljaa

namespace Go.Proofs.Ytpjpbemgjniljaa
open Go.RowKit

theorem run_append_nothing (ty : TypeId) (B c : Nat) (x : Option Addr) (w : World) :
    (Builtin.append_ #[23, 23] ty #[.slice (some ⟨B, 0, none⟩) 0 0, .slice x 0 c]).run Try.prog w = .ok (.slice (some ⟨B, 0, none⟩) 0 0) w := by
  obtain ⟨i0, hi0, hz0, hz1, hz2⟩ := info_parts int_info
  cases x <;> simp [Builtin.append_, run_underlying Try.underlying23, sizeOf, typeInfo, hi0, Builtin.lenOf, Builtin.firstCells, loadCells, storeCells, loadCellsFrom]
/-- Whatever a slice holds is put behind an empty one of the call's own. -/
theorem wp_appendE {W : World} {ops : Array Oper} {rest : List Oper} {o : Oper} {a : Act} {Q : Exit → Act → World → Prop} (hgd : o.guard = none) (s x : Operand)
    (ho : o.op = .call { callee := .builtin .append, args := #[s, x], argTypes := #[23, 23] }) (base B : Nat) (hs : a.eval s = .slice (some ⟨B, 0, none⟩) 0 0) (hown : Owns W base (.slice (some ⟨B, 0, none⟩) 0 0) [])
    (ys : List Int) (ad : Option Addr) (m c : Nat) (hx : a.eval x = .slice ad m c) (hm : m = ys.length) (hn : Nums .i64 W ad ys) (hl : m ≤ 1048576) (hb : base ≤ W.heap.size)
    (h : ∀ v' w', Owns w' base v' ys → W.grownBy w' (Value.slice (some ⟨B, 0, none⟩) 0 0).ownBlock → wpList Try.prog ops Q rest (a.put o.dst v') w') :
    wpList Try.prog ops Q (o :: rest) a W := by
  by_cases hz : m = 0
  · subst hz
    have hy : ys = [] := List.eq_nil_of_length_eq_zero hm.symm
    subst hy
    exact Lib.wpList_append_run W hgd s x _ _ ho _ _ hs hx _ _ (run_append_nothing _ B c ad W) (h _ _ hown (World.grownBy.refl _ _))
  · exact wp_appendL hgd s x ho base _ [] hs hown ys ad m c hx hm (by omega) hn (by simpa using hl) hb (fun v' w' h1 h2 => h v' w' (by rw [List.nil_append] at h1; exact h1) h2)
set_option maxRecDepth 100000 in
set_option maxHeartbeats 16000000 in
theorem wAsksNeeded (A B : Option Addr) (nn mm c d : Nat) (zs qs : List Int) (w : World) (hn : nn = zs.length) (hc : nn ≤ c) (hm : c ≤ maxLen) (hr : ∀ z ∈ zs, 0 ≤ z ∧ z ≤ 255) (hA : Nums .u8 w A zs)
    (hn2 : mm = qs.length) (hc2 : mm ≤ d) (hm2 : d ≤ maxLen) (_hr2 : ∀ z ∈ qs, 0 ≤ z ∧ z ≤ 255) (_hB : Nums .u8 w B qs) :
    Calls Try.prog 3 #[.slice A nn c, .slice B mm d] w fun e w' => e = .returned (.bool true) ∧ Below w.heap.size w w' := by
  have HO := Lib.hid (drawAsksNeeded_any A nn c zs w hn hc hm hr hA)
  have hm' : nn ≤ 9223372036854775807 := by unfold maxLen at hm; omega
  have hm2' : mm ≤ 9223372036854775807 := by unfold maxLen at hm2; omega
  clear hn hc hm hr hA hn2 hc2 hm2 _hr2 _hB
  by_cases hl : 1048576 < nn
  · have hd : decide ((1048576 : Int) < (nn : Int)) = true := decide_eq_true (by omega)
    go_enter Try.func3, Try.ntmps3
    go_wp2_with fail
    go_ret
    exact ⟨rfl, Below.refl _ _⟩
  by_cases hl2 : 1048576 < mm
  · have hd : decide ((1048576 : Int) < (nn : Int)) = false := decide_eq_false (by omega)
    have hd2 : decide ((1048576 : Int) < (mm : Int)) = true := decide_eq_true (by omega)
    go_enter Try.func3, Try.ntmps3
    go_wp2_with fail
    go_ret
    exact ⟨rfl, Below.refl _ _⟩
  have hd : decide ((1048576 : Int) < (nn : Int)) = false := decide_eq_false (by omega)
  have hd2 : decide ((1048576 : Int) < (mm : Int)) = false := decide_eq_false (by omega)
  have hmm : mm ≤ 1048576 := by omega
  clear hl hl2
  go_enter Try.func3, Try.ntmps3
  go_wp2_with fail
  refine HO.out.mono ?_
  rintro e w1 ⟨t, v1, a, v2, b, u, rfl, ht0, ht1, ho1, hl1, ho2, hl2, hu0, hu1, hb⟩
  obtain ⟨A1, c1, rfl, _, _, _, _⟩ := ho1.form
  obtain ⟨A2, c2, rfl, _, _, _, _⟩ := ho2.form
  have HRa := Lib.hid (Owns.row ho1 (by omega))
  have HRb := Lib.hid (Owns.row ho2 (by omega))
  have HB := Lib.hid hb
  clear hb ho1 ho2 HO hd hd2
  obtain ⟨n, HN⟩ : ∃ n, Hid (asksNeededI t a b u = n) := ⟨_, rfl⟩
  have hcase := asked_cases (t := t) (asks := a) (issue := b) (u := u)
  rw [HN.out] at hcase
  by_cases hn0 : n < 0
  · obtain rfl : n = -1 := by omega
    clear hcase hn0
    go_wp2_with fail
    refine (iAsksNeeded_is HN (by first | exact HRa.out | exact Row.drewN HRa.out _) (by first | exact HRb.out | exact Row.drewN HRb.out _)).mono ?_
    rintro e w' ⟨rfl, hb⟩
    replace HRa := Lib.hid (Row.below (by first | exact HRa.out | exact Row.drewN HRa.out _) hb)
    replace HRb := Lib.hid (Row.below (by first | exact HRb.out | exact Row.drewN HRb.out _) hb)
    replace HB := Lib.hid (bel_trans (by first | exact HB.out | exact bel_drewN HB.out _) hb)
    clear hb
    go_wp2_with fail
    refine (sAsksNeeded_is HN (by first | exact HRa.out | exact Row.drewN HRa.out _) (by first | exact HRb.out | exact Row.drewN HRb.out _)).mono ?_
    rintro e w' ⟨rfl, m1, rfl⟩
    go_wp2_with fail
    refine (lAlive _).mono ?_
    rintro e w' ⟨rfl, rfl⟩
    go_wp2_with fail
    go_ret
    exact ⟨rfl, bel_drewN HB.out _⟩
  · obtain ⟨hn00, hn5, hok⟩ : 0 ≤ n ∧ n ≤ 5 ∧ ok7 t a b u = true := by
      rcases hcase with h | h
      · omega
      · exact ⟨h.1, h.2.1, h.2.2.1⟩
    clear hcase
    obtain ⟨k, rfl⟩ : ∃ k : Nat, n = k := ⟨n.toNat, by omega⟩
    have hk5 : k ≤ 5 := by omega
    obtain ⟨_, hib, hu00, hu11, hla5, _⟩ := ok7_parts hok
    have HIB := Lib.hid hib
    obtain ⟨st, HSET⟩ : ∃ x, Hid (settlesB t b u = x) := ⟨_, rfl⟩
    have hz0 := law_zero (t := t) (asks := a) (issue := b) (u := u) (by rw [HN.out]; omega)
    rw [HN.out, HSET.out] at hz0
    have hzb : ((k : Int) == 0) = st := by rw [← hz0]; rfl
    have hkn : decide ((k : Int) < 0) = false := decide_eq_false (by omega)
    obtain ⟨cc, hcc⟩ : ∃ c, ((mm : Int) * 37).tmod 256 = c := ⟨_, rfl⟩
    have hccv : cc = ((mm : Int) * 37) % 256 := by rw [← hcc]; exact Int.tmod_eq_emod_of_nonneg (by omega)
    have hcc0 : 0 ≤ cc := by omega
    have hcc1 : cc < 256 := by omega
    obtain ⟨g, HG⟩ : ∃ g, Hid (andI u cc = g) := ⟨_, rfl⟩
    have hless := law_less (t := t) (asks := a) (issue := b) (u := u) (by rw [HN.out]; omega) cc
    rw [HG.out, HN.out] at hless
    obtain ⟨ln, HLESS⟩ : ∃ x, Hid (asksNeededI t a b g = x) := ⟨_, rfl⟩
    rw [HLESS.out] at hless
    obtain ⟨hle0, hle1⟩ := hless
    obtain ⟨lo, HLONG⟩ : ∃ x, Hid (asksNeededI t (a ++ [1]) b u = x) := ⟨asksNeededI t (a ++ [1]) b u, rfl⟩
    have hlong : a.length < 5 → 0 ≤ lo ∧ lo ≤ (k : Int) := fun h5 => by
      have := law_longer (t := t) (asks := a) (issue := b) (u := u) (by rw [HN.out]; omega) h5
      rw [HLONG.out, HN.out] at this
      exact this
    have HMANY : Hid (isPartB t b = true → manyTo b u b.length ≤ 2 ^ k) := fun hp => by
      have := law_many (t := t) (asks := a) (issue := b) (u := u) (by rw [HN.out]; omega) hp
      rw [HN.out, Int.toNat_natCast] at this
      exact this
    have hd0 : decide ((0 : Int) ≤ ln) = true := decide_eq_true hle0
    have hd1 : decide (ln ≤ (k : Int)) = true := decide_eq_true hle1
    clear hn0 hok hib hz0 hccv hle0 hle1
    have hbits : ((5 : Int) ≤ (a.length : Int)) ∨ (decide ((5 : Int) ≤ (a.length : Int)) = false ∧ decide ((0 : Int) ≤ lo) = true ∧ decide (lo ≤ (k : Int)) = true) := by
      by_cases h5 : a.length < 5
      · right
        exact ⟨decide_eq_false (by omega), decide_eq_true (hlong h5).1, decide_eq_true (hlong h5).2⟩
      · left; omega
    clear hlong
    rcases hp : isPartB t b with _ | _
    · have HP := Lib.hid hp
      clear hp
      rcases hbits with h5 | ⟨h5, h6, h7⟩
      · have h5d : decide ((5 : Int) ≤ (a.length : Int)) = true := decide_eq_true h5
        go_wp2_with fail
        refine (iAsksNeeded_is HN (by first | exact HRa.out | exact Row.drewN HRa.out _) (by first | exact HRb.out | exact Row.drewN HRb.out _)).mono ?_
        rintro e w' ⟨rfl, hb⟩
        replace HRa := Lib.hid (Row.below (by first | exact HRa.out | exact Row.drewN HRa.out _) hb)
        replace HRb := Lib.hid (Row.below (by first | exact HRb.out | exact Row.drewN HRb.out _) hb)
        replace HB := Lib.hid (bel_trans (by first | exact HB.out | exact bel_drewN HB.out _) hb)
        clear hb
        go_wp2_with fail
        refine (sAsksNeeded_is HN HRa.out HRb.out).mono ?_
        rintro e w' ⟨rfl, mq, rfl⟩
        replace HRa := Lib.hid (HRa.out.drewN mq)
        replace HRb := Lib.hid (HRb.out.drewN mq)
        replace HB := Lib.hid (bel_drewN HB.out mq)
        go_wp2_with fail
        refine (iIsPart_is HP HRb.out).mono ?_
        rintro e w' ⟨rfl, mp, rfl⟩
        have hqa := HRa.out.drewN mp
        have hqb := HRb.out.drewN mp
        have hqc := bel_drewN HB.out mp
        rw [World.drewN_drewN] at hqa hqb hqc
        replace HRa := Lib.hid hqa
        replace HRb := Lib.hid hqb
        replace HB := Lib.hid hqc
        clear hqa hqb hqc
        go_wp2_with fail
        refine (lBoth_is HG hu00 hu11 hcc0 _).mono ?_
        rintro e w' ⟨rfl, rfl⟩
        go_wp2_with fail
        refine (iAsksNeeded_is HLESS (by first | exact HRa.out | exact Row.drewN HRa.out _) (by first | exact HRb.out | exact Row.drewN HRb.out _)).mono ?_
        rintro e w5 ⟨rfl, hb⟩
        replace HRa := Lib.hid (Row.below (by first | exact HRa.out | exact Row.drewN HRa.out _) hb)
        replace HRb := Lib.hid (Row.below (by first | exact HRb.out | exact Row.drewN HRb.out _) hb)
        replace HB := Lib.hid (bel_trans (by first | exact HB.out | exact bel_drewN HB.out _) hb)
        clear hb
        have HO0 : Hid (Owns (w5.alloc (.cells #[] 3)) w5.heap.size (.slice (some ⟨w5.heap.size, 0, none⟩) 0 0) []) := Owns.lit w5 w5.heap.size [] (Nat.le_refl _) (by simp [maxLen])
        have HB0 : Hid (Below w5.heap.size w5 (w5.alloc (.cells #[] 3))) := (Below.refl _ _).alloc (Nat.le_refl _) _
        have HNA : Hid (Nums .i64 (w5.alloc (.cells #[] 3)) A1 a) := HRa.out.hA.below HB0.out
        go_wp2_with (at_builtin; first
          | (refine wp_appendE rfl _ _ rfl w5.heap.size w5.heap.size rfl HO0.out a A1 a.length c1 rfl rfl HNA.out (by omega) HB0.out.size ?_; intro v6 w6 hown6 hgrow6; have HO6 := Lib.hid hown6; have HB6 := Lib.hid (below_appendL HB0.out HB0.out.size HO0.out (Nat.le_refl _) hgrow6); have hsz6 : w5.heap.size ≤ w6.heap.size := HB6.out.size; clear hown6 hgrow6 HO0 HB0 HNA)
          | (refine wp_append1 (W := w6) rfl _ _ rfl w5.heap.size v6 a rfl HO6.out 1 rfl (by omega) hsz6 ?_; intro v7 w7 hown7 hgrow7; have HO7 := Lib.hid hown7; have HB7 := Lib.hid (below_append HB6.out hsz6 HO6.out (Nat.le_refl _) hgrow7); clear hown7 hgrow7))
        obtain ⟨A7, c7, rfl, _, _, _, _⟩ := HO7.out.form
        replace HRa := Lib.hid (HRa.out.below HB7.out)
        replace HRb := Lib.hid (HRb.out.below HB7.out)
        replace HB := Lib.hid (bel_trans HB.out HB7.out)
        have HR7 := Lib.hid (Owns.row HO7.out (by rw [List.length_append, List.length_singleton]; omega))
        go_wp2_with fail
        refine (iAsksNeeded_is HLONG HR7.out HRb.out).mono ?_
        rintro e w8 ⟨rfl, hb⟩
        replace HRb := Lib.hid (HRb.out.below hb)
        replace HB := Lib.hid (bel_trans HB.out hb)
        clear hb
        go_wp2_with fail
        refine (rSettles HSET HRb.out).mono ?_
        rintro e w9 ⟨rfl, m9, rfl⟩
        go_wp2_with fail
        go_ret
        exact ⟨rfl, bel_drewN HB.out _⟩
      · go_wp2_with fail
        refine (iAsksNeeded_is HN (by first | exact HRa.out | exact Row.drewN HRa.out _) (by first | exact HRb.out | exact Row.drewN HRb.out _)).mono ?_
        rintro e w' ⟨rfl, hb⟩
        replace HRa := Lib.hid (Row.below (by first | exact HRa.out | exact Row.drewN HRa.out _) hb)
        replace HRb := Lib.hid (Row.below (by first | exact HRb.out | exact Row.drewN HRb.out _) hb)
        replace HB := Lib.hid (bel_trans (by first | exact HB.out | exact bel_drewN HB.out _) hb)
        clear hb
        go_wp2_with fail
        refine (sAsksNeeded_is HN HRa.out HRb.out).mono ?_
        rintro e w' ⟨rfl, mq, rfl⟩
        replace HRa := Lib.hid (HRa.out.drewN mq)
        replace HRb := Lib.hid (HRb.out.drewN mq)
        replace HB := Lib.hid (bel_drewN HB.out mq)
        go_wp2_with fail
        refine (iIsPart_is HP HRb.out).mono ?_
        rintro e w' ⟨rfl, mp, rfl⟩
        have hqa := HRa.out.drewN mp
        have hqb := HRb.out.drewN mp
        have hqc := bel_drewN HB.out mp
        rw [World.drewN_drewN] at hqa hqb hqc
        replace HRa := Lib.hid hqa
        replace HRb := Lib.hid hqb
        replace HB := Lib.hid hqc
        clear hqa hqb hqc
        go_wp2_with fail
        refine (lBoth_is HG hu00 hu11 hcc0 _).mono ?_
        rintro e w' ⟨rfl, rfl⟩
        go_wp2_with fail
        refine (iAsksNeeded_is HLESS (by first | exact HRa.out | exact Row.drewN HRa.out _) (by first | exact HRb.out | exact Row.drewN HRb.out _)).mono ?_
        rintro e w5 ⟨rfl, hb⟩
        replace HRa := Lib.hid (Row.below (by first | exact HRa.out | exact Row.drewN HRa.out _) hb)
        replace HRb := Lib.hid (Row.below (by first | exact HRb.out | exact Row.drewN HRb.out _) hb)
        replace HB := Lib.hid (bel_trans (by first | exact HB.out | exact bel_drewN HB.out _) hb)
        clear hb
        have HO0 : Hid (Owns (w5.alloc (.cells #[] 3)) w5.heap.size (.slice (some ⟨w5.heap.size, 0, none⟩) 0 0) []) := Owns.lit w5 w5.heap.size [] (Nat.le_refl _) (by simp [maxLen])
        have HB0 : Hid (Below w5.heap.size w5 (w5.alloc (.cells #[] 3))) := (Below.refl _ _).alloc (Nat.le_refl _) _
        have HNA : Hid (Nums .i64 (w5.alloc (.cells #[] 3)) A1 a) := HRa.out.hA.below HB0.out
        go_wp2_with (at_builtin; first
          | (refine wp_appendE rfl _ _ rfl w5.heap.size w5.heap.size rfl HO0.out a A1 a.length c1 rfl rfl HNA.out (by omega) HB0.out.size ?_; intro v6 w6 hown6 hgrow6; have HO6 := Lib.hid hown6; have HB6 := Lib.hid (below_appendL HB0.out HB0.out.size HO0.out (Nat.le_refl _) hgrow6); have hsz6 : w5.heap.size ≤ w6.heap.size := HB6.out.size; clear hown6 hgrow6 HO0 HB0 HNA)
          | (refine wp_append1 (W := w6) rfl _ _ rfl w5.heap.size v6 a rfl HO6.out 1 rfl (by omega) hsz6 ?_; intro v7 w7 hown7 hgrow7; have HO7 := Lib.hid hown7; have HB7 := Lib.hid (below_append HB6.out hsz6 HO6.out (Nat.le_refl _) hgrow7); clear hown7 hgrow7))
        obtain ⟨A7, c7, rfl, _, _, _, _⟩ := HO7.out.form
        replace HRa := Lib.hid (HRa.out.below HB7.out)
        replace HRb := Lib.hid (HRb.out.below HB7.out)
        replace HB := Lib.hid (bel_trans HB.out HB7.out)
        have HR7 := Lib.hid (Owns.row HO7.out (by rw [List.length_append, List.length_singleton]; omega))
        go_wp2_with fail
        refine (iAsksNeeded_is HLONG HR7.out HRb.out).mono ?_
        rintro e w8 ⟨rfl, hb⟩
        replace HRb := Lib.hid (HRb.out.below hb)
        replace HB := Lib.hid (bel_trans HB.out hb)
        clear hb
        go_wp2_with fail
        refine (rSettles HSET HRb.out).mono ?_
        rintro e w9 ⟨rfl, m9, rfl⟩
        go_wp2_with fail
        go_ret
        exact ⟨rfl, bel_drewN HB.out _⟩
    · have HP := Lib.hid hp
      have hmany := HMANY.out hp
      have hwp := wrap_pow6p (k := k) (by omega)
      have h2k : 2 ^ k < 256 := Nat.lt_of_le_of_lt (Nat.pow_le_pow_right (by omega) (show k ≤ 7 by omega)) (by decide)
      have HMN := Lib.hid hmany
      clear hp hmany
      go_wp2_with fail
      refine (iAsksNeeded_is HN (by first | exact HRa.out | exact Row.drewN HRa.out _) (by first | exact HRb.out | exact Row.drewN HRb.out _)).mono ?_
      rintro e w' ⟨rfl, hb⟩
      replace HRa := Lib.hid (Row.below (by first | exact HRa.out | exact Row.drewN HRa.out _) hb)
      replace HRb := Lib.hid (Row.below (by first | exact HRb.out | exact Row.drewN HRb.out _) hb)
      replace HB := Lib.hid (bel_trans (by first | exact HB.out | exact bel_drewN HB.out _) hb)
      clear hb
      go_wp2_with fail
      refine (sAsksNeeded_is HN HRa.out HRb.out).mono ?_
      rintro e w' ⟨rfl, mq, rfl⟩
      replace HRa := Lib.hid (HRa.out.drewN mq)
      replace HRb := Lib.hid (HRb.out.drewN mq)
      replace HB := Lib.hid (bel_drewN HB.out mq)
      go_wp2_with fail
      refine (iIsPart_is HP HRb.out).mono ?_
      rintro e w' ⟨rfl, mp, rfl⟩
      have hqa := HRa.out.drewN mp
      have hqb := HRb.out.drewN mp
      have hqc := bel_drewN HB.out mp
      rw [World.drewN_drewN] at hqa hqb hqc
      replace HRa := Lib.hid hqa
      replace HRb := Lib.hid hqb
      replace HB := Lib.hid hqc
      clear hqa hqb hqc
      go_wp2_with fail
      go_loopw [10, 11] (fun mv i wr => ∃ j : Nat, j ≤ b.length ∧ i = .int .i64 j ∧ mv = .int .i64 ((manyTo b u j : Nat) : Int) ∧ Row wr A1 a.length c1 a ∧ Row wr A2 b.length c2 b ∧ Below w.heap.size w wr) (fun _ i _ => b.length - (Go.RowKit.intOf i).toNat)
      case atStart => exact ⟨0, Nat.zero_le _, rfl, rfl, HRa.out, HRb.out, HB.out⟩
      case round =>
        obtain ⟨j, hj, rfl, rfl, hra, hrb, hbl⟩ := hrel
        replace HRa := Lib.hid hra
        replace HRb := Lib.hid hrb
        replace HB := Lib.hid hbl
        have hmj : manyTo b u j ≤ j := by
          unfold manyTo
          refine Nat.le_trans (List.length_filter_le _ _) ?_
          rw [List.length_take]; omega
        obtain ⟨mj, HMJ⟩ : ∃ z, Hid (manyTo b u j = z) := ⟨_, rfl⟩
        rw [HMJ.out] at hmj ⊢
        clear hra hrb hbl
        by_cases hlt : j < b.length
        · obtain ⟨bk, off, x, rfl, hcell, hx, _⟩ := HRb.out.hA.elem hlt
          obtain ⟨hx0, hx1⟩ := HIB.out x (elem_mem hx)
          have HNX := Lib.hid (many_next (u := u) hx)
          obtain ⟨y, HY⟩ : ∃ y, Hid (andI x u = y) := ⟨_, rfl⟩
          obtain ⟨mn, HMN2⟩ : ∃ z, Hid (manyTo b u (j + 1) = z) := ⟨_, rfl⟩
          have hnx := HNX.out
          rw [HMN2.out, HMJ.out, HY.out] at hnx
          by_cases hy : y = 0
          · have HZ : Hid (mn = mj) := by unfold Hid; rw [hnx, if_neg (by omega)]; rfl
            have hy1 : (y != 0) = false := by rw [hy]; rfl
            clear hnx hy
            go_wp2_with fail
            refine (lBoth_is HY hx0 hx1 hu00 _).mono ?_
            rintro e w' ⟨rfl, rfl⟩
            go_wp2_with fail
            go_roundw
            case rel => exact ⟨j + 1, by omega, by go_num, by rw [HMN2.out, HZ.out], HRa.out, HRb.out, HB.out⟩
            case measure => simp [Go.RowKit.intOf]; omega
          · have HZ : Hid (mn = mj + 1) := by unfold Hid; rw [hnx, if_pos hy]
            have hy1 : (y != 0) = true := by rw [bne_iff_ne]; exact hy
            clear hnx hy
            go_wp2_with fail
            refine (lBoth_is HY hx0 hx1 hu00 _).mono ?_
            rintro e w' ⟨rfl, rfl⟩
            go_wp2_with fail
            go_roundw
            case rel => exact ⟨j + 1, by omega, by go_num, by (rw [HMN2.out, HZ.out]; congr 1), HRa.out, HRb.out, HB.out⟩
            case measure => simp [Go.RowKit.intOf]; omega
        · obtain rfl : j = b.length := by omega
          have hgt0 : ¬ 2 ^ k < mj := by have h := HMN.out; rw [HMJ.out] at h; exact Nat.not_lt.2 h
          have hgt : decide (2 ^ k < mj) = false := decide_eq_false hgt0
          have hgt2 : ¬ (2 : Int) ^ k < (mj : Int) := by
            rw [show (2 : Int) ^ k = ((2 ^ k : Nat) : Int) by push_cast; rfl]
            omega
          have hgt3 : decide ((2 : Int) ^ k < (mj : Int)) = false := decide_eq_false hgt2
          have hgt4 : decide (((2 ^ k : Nat) : Int) < (mj : Int)) = false := decide_eq_false (by omega)
          rcases hbits with h5 | ⟨h5, h6, h7⟩
          · have h5d : decide ((5 : Int) ≤ (a.length : Int)) = true := decide_eq_true h5
            go_wp2_with fail
            refine (lBoth_is HG hu00 hu11 hcc0 _).mono ?_
            rintro e w' ⟨rfl, rfl⟩
            go_wp2_with fail
            refine (iAsksNeeded_is HLESS (by first | exact HRa.out | exact Row.drewN HRa.out _) (by first | exact HRb.out | exact Row.drewN HRb.out _)).mono ?_
            rintro e w5 ⟨rfl, hb⟩
            replace HRa := Lib.hid (Row.below (by first | exact HRa.out | exact Row.drewN HRa.out _) hb)
            replace HRb := Lib.hid (Row.below (by first | exact HRb.out | exact Row.drewN HRb.out _) hb)
            replace HB := Lib.hid (bel_trans (by first | exact HB.out | exact bel_drewN HB.out _) hb)
            clear hb
            have HO0 : Hid (Owns (w5.alloc (.cells #[] 3)) w5.heap.size (.slice (some ⟨w5.heap.size, 0, none⟩) 0 0) []) := Owns.lit w5 w5.heap.size [] (Nat.le_refl _) (by simp [maxLen])
            have HB0 : Hid (Below w5.heap.size w5 (w5.alloc (.cells #[] 3))) := (Below.refl _ _).alloc (Nat.le_refl _) _
            have HNA : Hid (Nums .i64 (w5.alloc (.cells #[] 3)) A1 a) := HRa.out.hA.below HB0.out
            go_wp2_with (at_builtin; first
              | (refine wp_appendE rfl _ _ rfl w5.heap.size w5.heap.size rfl HO0.out a A1 a.length c1 rfl rfl HNA.out (by omega) HB0.out.size ?_; intro v6 w6 hown6 hgrow6; have HO6 := Lib.hid hown6; have HB6 := Lib.hid (below_appendL HB0.out HB0.out.size HO0.out (Nat.le_refl _) hgrow6); have hsz6 : w5.heap.size ≤ w6.heap.size := HB6.out.size; clear hown6 hgrow6 HO0 HB0 HNA)
              | (refine wp_append1 (W := w6) rfl _ _ rfl w5.heap.size v6 a rfl HO6.out 1 rfl (by omega) hsz6 ?_; intro v7 w7 hown7 hgrow7; have HO7 := Lib.hid hown7; have HB7 := Lib.hid (below_append HB6.out hsz6 HO6.out (Nat.le_refl _) hgrow7); clear hown7 hgrow7))
            obtain ⟨A7, c7, rfl, _, _, _, _⟩ := HO7.out.form
            replace HRa := Lib.hid (HRa.out.below HB7.out)
            replace HRb := Lib.hid (HRb.out.below HB7.out)
            replace HB := Lib.hid (bel_trans HB.out HB7.out)
            have HR7 := Lib.hid (Owns.row HO7.out (by rw [List.length_append, List.length_singleton]; omega))
            go_wp2_with fail
            refine (iAsksNeeded_is HLONG HR7.out HRb.out).mono ?_
            rintro e w8 ⟨rfl, hb⟩
            replace HRb := Lib.hid (HRb.out.below hb)
            replace HB := Lib.hid (bel_trans HB.out hb)
            clear hb
            go_wp2_with fail
            refine (rSettles HSET HRb.out).mono ?_
            rintro e w9 ⟨rfl, m9, rfl⟩
            go_wp2_with fail
            go_ret
            exact ⟨rfl, bel_drewN HB.out _⟩
          · have hdummy : True := trivial
            go_wp2_with fail
            refine (lBoth_is HG hu00 hu11 hcc0 _).mono ?_
            rintro e w' ⟨rfl, rfl⟩
            go_wp2_with fail
            refine (iAsksNeeded_is HLESS (by first | exact HRa.out | exact Row.drewN HRa.out _) (by first | exact HRb.out | exact Row.drewN HRb.out _)).mono ?_
            rintro e w5 ⟨rfl, hb⟩
            replace HRa := Lib.hid (Row.below (by first | exact HRa.out | exact Row.drewN HRa.out _) hb)
            replace HRb := Lib.hid (Row.below (by first | exact HRb.out | exact Row.drewN HRb.out _) hb)
            replace HB := Lib.hid (bel_trans (by first | exact HB.out | exact bel_drewN HB.out _) hb)
            clear hb
            have HO0 : Hid (Owns (w5.alloc (.cells #[] 3)) w5.heap.size (.slice (some ⟨w5.heap.size, 0, none⟩) 0 0) []) := Owns.lit w5 w5.heap.size [] (Nat.le_refl _) (by simp [maxLen])
            have HB0 : Hid (Below w5.heap.size w5 (w5.alloc (.cells #[] 3))) := (Below.refl _ _).alloc (Nat.le_refl _) _
            have HNA : Hid (Nums .i64 (w5.alloc (.cells #[] 3)) A1 a) := HRa.out.hA.below HB0.out
            go_wp2_with (at_builtin; first
              | (refine wp_appendE rfl _ _ rfl w5.heap.size w5.heap.size rfl HO0.out a A1 a.length c1 rfl rfl HNA.out (by omega) HB0.out.size ?_; intro v6 w6 hown6 hgrow6; have HO6 := Lib.hid hown6; have HB6 := Lib.hid (below_appendL HB0.out HB0.out.size HO0.out (Nat.le_refl _) hgrow6); have hsz6 : w5.heap.size ≤ w6.heap.size := HB6.out.size; clear hown6 hgrow6 HO0 HB0 HNA)
              | (refine wp_append1 (W := w6) rfl _ _ rfl w5.heap.size v6 a rfl HO6.out 1 rfl (by omega) hsz6 ?_; intro v7 w7 hown7 hgrow7; have HO7 := Lib.hid hown7; have HB7 := Lib.hid (below_append HB6.out hsz6 HO6.out (Nat.le_refl _) hgrow7); clear hown7 hgrow7))
            obtain ⟨A7, c7, rfl, _, _, _, _⟩ := HO7.out.form
            replace HRa := Lib.hid (HRa.out.below HB7.out)
            replace HRb := Lib.hid (HRb.out.below HB7.out)
            replace HB := Lib.hid (bel_trans HB.out HB7.out)
            have HR7 := Lib.hid (Owns.row HO7.out (by rw [List.length_append, List.length_singleton]; omega))
            go_wp2_with fail
            refine (iAsksNeeded_is HLONG HR7.out HRb.out).mono ?_
            rintro e w8 ⟨rfl, hb⟩
            replace HRb := Lib.hid (HRb.out.below hb)
            replace HB := Lib.hid (bel_trans HB.out hb)
            clear hb
            go_wp2_with fail
            refine (rSettles HSET HRb.out).mono ?_
            rintro e w9 ⟨rfl, m9, rfl⟩
            go_wp2_with fail
            go_ret
            exact ⟨rfl, bel_drewN HB.out _⟩
end Go.Proofs.Ytpjpbemgjniljaa
