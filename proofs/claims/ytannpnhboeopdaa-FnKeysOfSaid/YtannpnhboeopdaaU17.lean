/-
  What the proofs of this seat's statements share (BndY, BndZ, KeyL).
-/
import Derived.Test.YtannpnhboeopdaaU15
import Derived.Test.YtannpnhboeopdaaU16
import Derived.Test.YtannpnhboeopdaaU6

namespace Go.Proofs.Ytannpnhboeopdaa
open Go.RowKit

theorem bond_swap (t f g : Int) : bondOkB t g f = bondOkB t f g := by unfold bondOkB; rw [Bool.and_comm]
theorem bond_none (t : Int) : bondOkB t 0 0 = decide (0 < worldsOf t) := by
  rw [bond_zero]
  by_cases h : 1 ≤ t ∧ t ≤ 3
  · have ht : t = 1 ∨ t = 2 ∨ t = 3 := by omega
    rcases ht with rfl | rfl | rfl <;> rfl
  · rw [thingsOk_bad (by omega)]
    have : worldsOf t = -1 := worldsOf_bad (by omega)
    rw [this]; rfl
set_option maxRecDepth 100000 in
set_option maxHeartbeats 4000000 in
theorem wBondOk (A : Option Addr) (nn c : Nat) (zs : List Int) (w : World) (hn : nn = zs.length) (hc : nn ≤ c) (hm : c ≤ maxLen) (hr : ∀ z ∈ zs, 0 ≤ z ∧ z ≤ 255) (hA : Nums .u8 w A zs) :
    Calls Try.prog 3 #[.slice A nn c] w fun e w' => e = .returned (.bool true) ∧ Below w.heap.size w w' := by
  have HO := Lib.hid (drawBondOk_any A nn c zs w hn hc hm hr hA)
  have hm' : nn ≤ 9223372036854775807 := by unfold maxLen at hm; omega
  clear hn hc hm hr hA
  by_cases hl : 1048576 < nn
  · have hd : decide ((1048576 : Int) < (nn : Int)) = true := decide_eq_true (by omega)
    go_enter Try.func3, Try.ntmps3
    go_wp2_with fail
    go_ret
    exact ⟨rfl, Below.refl _ _⟩
  have hd : decide ((1048576 : Int) < (nn : Int)) = false := decide_eq_false (by omega)
  clear hl
  go_enter Try.func3, Try.ntmps3
  go_wp2_with fail
  refine HO.out.mono ?_
  rintro e w1 ⟨t, f, g, rfl, hb⟩
  have HX : Hid (BoxAt (w1.alloc (.cells #[.int .i64 f, .int .i64 g] 24)) w1.heap.size f g) := BoxAt.new w1 f g _
  have HB : Hid (Below w.heap.size w (w1.alloc (.cells #[.int .i64 f, .int .i64 g] 24))) := hb.alloc hb.size _
  obtain ⟨b, HT⟩ : ∃ b, Hid (bondOkB t f g = b) := ⟨_, rfl⟩
  have HT2 : Hid (bondOkB t g f = b) := (bond_swap t f g).trans HT.out
  have hz0 := bond_none t
  have hbe : (b == b) = true := by cases b <;> rfl
  have hbn : (b != b) = false := by cases b <;> rfl
  clear hb HO hd
  rcases hz : decide (0 < worldsOf t) with _ | _
  all_goals
    rw [hz] at hz0
    have HT0 := Lib.hid hz0
    clear hz0
    go_wp2_with fail
    refine (iBondOk_is HT _).mono ?_
    rintro e w2 ⟨rfl, hb⟩
    replace HB := Lib.hid (bel_trans HB.out hb)
    replace HX := Lib.hid (HX.out.below hb)
    obtain ⟨hc0, hc1, _⟩ := HX.out
    clear hb
    go_wp2_with fail
    refine (sBondOk_is HT _).mono ?_
    rintro e w3 ⟨rfl, hb⟩
    clear hc0 hc1
    replace HB := Lib.hid (bel_trans HB.out hb)
    replace HX := Lib.hid (HX.out.below hb)
    clear hb
    go_wp2_with fail
    refine (iBondOk_is HT0 _).mono ?_
    rintro e w4 ⟨rfl, hb⟩
    replace HB := Lib.hid (bel_trans HB.out hb)
    replace HX := Lib.hid (HX.out.below hb)
    obtain ⟨hc0, hc1, _⟩ := HX.out
    clear hb
    go_wp2_with fail
    refine (iWorldsOf _ _).mono ?_
    rintro e w' ⟨rfl, rfl⟩
    go_wp2_with fail
    refine (iBondOk_is HT2 _).mono ?_
    rintro e w5 ⟨rfl, hb⟩
    replace HB := Lib.hid (bel_trans HB.out hb)
    clear hb hc0 hc1
    go_wp2_with fail
    refine (lAlive _).mono ?_
    rintro e w' ⟨rfl, rfl⟩
    go_wp2_with fail
    go_ret
    exact ⟨rfl, HB.out⟩
theorem more_ok {t f : Int} (h : thingsOk t f = true) : thingsOk t (orI f 1) = true ∧ withinB f (orI f 1) = true := by
  obtain ⟨h1, h3, h0, h7, _⟩ := thingsOk_of h
  have ht : topT t = 1 ∨ topT t = 3 ∨ topT t = 7 := by
    have : t = 1 ∨ t = 2 ∨ t = 3 := by omega
    rcases this with rfl | rfl | rfl
    · exact .inl rfl
    · exact .inr (.inl rfl)
    · exact .inr (.inr rfl)
  refine ⟨?_, within_or_left f 1 h0⟩
  have hw : withinB (orI f 1) (topT t) = true := or_within h0 (by omega) ((within_top h1 h3 h0).2 h7) ((within_top h1 h3 (by omega)).2 (by omega))
  have := (within_top h1 h3 (orI_nonneg f 1)).1 hw
  unfold thingsOk
  exact decide_eq_true ⟨h1, h3, orI_nonneg f 1, this⟩
set_option maxRecDepth 100000 in
set_option maxHeartbeats 4000000 in
theorem wClosedBy (A : Option Addr) (nn c : Nat) (zs : List Int) (w : World) (hn : nn = zs.length) (hc : nn ≤ c) (hm : c ≤ maxLen) (hr : ∀ z ∈ zs, 0 ≤ z ∧ z ≤ 255) (hA : Nums .u8 w A zs) :
    Calls Try.prog 4 #[.slice A nn c] w fun e w' => e = .returned (.bool true) ∧ Below w.heap.size w w' := by
  have HO := Lib.hid (drawClosedBy_any A nn c zs w hn hc hm hr hA)
  have hm' : nn ≤ 9223372036854775807 := by unfold maxLen at hm; omega
  clear hn hc hm hr hA
  by_cases hl : 1048576 < nn
  · have hd : decide ((1048576 : Int) < (nn : Int)) = true := decide_eq_true (by omega)
    go_enter Try.func4, Try.ntmps4
    go_wp2_with fail
    go_ret
    exact ⟨rfl, Below.refl _ _⟩
  have hd : decide ((1048576 : Int) < (nn : Int)) = false := decide_eq_false (by omega)
  clear hl
  go_enter Try.func4, Try.ntmps4
  go_wp2_with fail
  refine HO.out.mono ?_
  rintro e w1 ⟨t, f, ds, v, rfl, ho, hlen, hb⟩
  have HB := Lib.hid hb
  obtain ⟨A1, c1, rfl, _, _, _, _⟩ := ho.form
  have HR := Lib.hid (OwnsP.row ho (by omega))
  clear hb HO hd ho
  by_cases h0 : 0 ≤ closedB t ds f
  · have htw := law_closed_twice h0
    have hin := law_closed_within h0
    obtain ⟨hth, hl8, hlo, heq⟩ := closed_ok h0
    obtain ⟨hm1, hm2⟩ := more_ok hth
    have hmo := law_closed_more h0 hm1 hm2
    have htop := (closed_of hth hl8 hlo).2.2
    rw [← heq] at htop
    have h2 := (closed_of hm1 hl8 hlo)
    have h20 : 0 ≤ closedB t ds (orI f 1) := by rw [h2.1]; exact h2.2.1
    have ht7 := (topT_range t).2
    obtain ⟨_, _, hf0, hf7, _⟩ := thingsOk_of hth
    obtain ⟨x, HT⟩ : ∃ b, Hid (closedB t ds f = b) := ⟨_, rfl⟩
    obtain ⟨y, HT2⟩ : ∃ b, Hid (closedB t ds (orI f 1) = b) := ⟨_, rfl⟩
    obtain ⟨m, HM⟩ : ∃ b, Hid (orI f 1 = b) := ⟨_, rfl⟩
    rw [HT.out] at htw hin hmo htop h0
    rw [HT2.out] at hmo h20
    rw [HM.out] at HT2
    have H1 := Lib.hid htw
    have H2 := Lib.hid hin
    have H3 := Lib.hid hmo
    have hneg : decide (x < 0) = false := decide_eq_false (by omega)
    clear htw hin hmo hth hl8 hlo heq hm1 hm2 h2
    go_wp2_with fail
    refine (iClosedBy_is HT HR.out).mono ?_
    rintro e w2 ⟨rfl, hb⟩
    replace HB := Lib.hid (bel_trans HB.out hb)
    replace HR := Lib.hid (HR.out.below hb)
    clear hb
    go_wp2_with fail
    refine (sClosedBy_is HT HR.out).mono ?_
    rintro e w3 ⟨rfl, hb⟩
    replace HB := Lib.hid (bel_trans HB.out hb)
    replace HR := Lib.hid (HR.out.below hb)
    clear hb
    go_wp2_with fail
    refine (lEither HM hf0 (by omega) (by omega) (by omega) _).mono ?_
    rintro e w' ⟨rfl, n4, rfl⟩
    go_wp2_with fail
    refine (lWithin_is H2 hf0 (by omega) h0 _).mono ?_
    rintro e w' ⟨rfl, rfl⟩
    go_wp2_with fail
    refine (iClosedBy_is H1 (HR.out.drewN _)).mono ?_
    rintro e w5 ⟨rfl, hb⟩
    replace HB := Lib.hid (bel_trans (bel_drewN HB.out _) hb)
    replace HR := Lib.hid ((HR.out.drewN _).below hb)
    clear hb
    go_wp2_with fail
    refine (iClosedBy_is HT2 HR.out).mono ?_
    rintro e w6 ⟨rfl, hb⟩
    replace HB := Lib.hid (bel_trans HB.out hb)
    clear hb
    go_wp2_with fail
    refine (lWithin_is H3 h0 (by omega) h20 _).mono ?_
    rintro e w' ⟨rfl, rfl⟩
    go_wp2_with fail
    go_ret
    exact ⟨rfl, HB.out⟩
  · have HT : Hid (closedB t ds f = -1) := by
      unfold Hid
      rw [closed_eq] at h0 ⊢
      split at h0
      · rename_i hh
        rw [Bool.and_eq_true] at hh
        have := (closed_of hh.2 (bonds_list hh.1).1 (bonds_list hh.1).2).2.1
        omega
      · rename_i hh
        rw [if_neg hh]
    clear h0
    go_wp2_with fail
    refine (iClosedBy_is HT HR.out).mono ?_
    rintro e w2 ⟨rfl, hb⟩
    replace HB := Lib.hid (bel_trans HB.out hb)
    replace HR := Lib.hid (HR.out.below hb)
    clear hb
    go_wp2_with fail
    refine (sClosedBy_is HT HR.out).mono ?_
    rintro e w3 ⟨rfl, hb⟩
    replace HB := Lib.hid (bel_trans HB.out hb)
    clear hb
    go_wp2_with fail
    refine (lAlive _).mono ?_
    rintro e w' ⟨rfl, rfl⟩
    go_wp2_with fail
    go_ret
    exact ⟨rfl, HB.out⟩
end Go.Proofs.Ytannpnhboeopdaa

namespace Go.Proofs.Ytannpnhboeopdaa
open Go.RowKit

theorem BRow.take {w : World} {A : Option Addr} {n c m : Nat} {ds : List (Int × Int)} (h : BRow w A n c ds) (hm : m = (ds.take 8).length) : BRow w A m c (ds.take 8) := by
  subst hm
  have hn := h.hn
  have hl := h.hl
  have hc := h.hc
  refine ⟨rfl, by rw [List.length_take]; omega, by rw [List.length_take]; omega, h.hm, fun hp => ?_⟩
  rw [List.length_take] at hp
  obtain ⟨b, off, rfl, hlt, hcell⟩ := h.hA (by omega)
  refine ⟨b, off, rfl, hlt, fun i d hd => hcell i d ?_⟩
  rw [List.getElem?_take] at hd
  split at hd
  · exact hd
  · cases hd
theorem found_next {q : List (Int × Int)} {j : Nat} {d x : Int × Int} (h : Hid (q[j]? = some x)) : decide (d ∈ q.take (j + 1)) = (decide (d ∈ q.take j) || decide (x = d)) := by
  rw [takeP_snoc h, Bool.eq_iff_iff]
  simp only [List.mem_append, List.mem_singleton, Bool.or_eq_true, decide_eq_true_eq]
  exact or_congr Iff.rfl eq_comm
set_option maxRecDepth 100000 in
set_option maxHeartbeats 4000000 in
theorem wBondsOf (A : Option Addr) (nn c : Nat) (zs : List Int) (w : World) (hn : nn = zs.length) (hc : nn ≤ c) (hm : c ≤ maxLen) (hr : ∀ z ∈ zs, 0 ≤ z ∧ z ≤ 255) (hA : Nums .u8 w A zs) :
    Calls Try.prog 7 #[.slice A nn c] w fun e w' => e = .returned (.bool true) ∧ Below w.heap.size w w' := by
  have HO := Lib.hid (drawBondsOf_any A nn c zs w hn hc hm hr hA)
  have hm' : nn ≤ 9223372036854775807 := by unfold maxLen at hm; omega
  clear hn hc hm hr hA
  by_cases hl : 1048576 < nn
  · have hd : decide ((1048576 : Int) < (nn : Int)) = true := decide_eq_true (by omega)
    go_enter Try.func7, Try.ntmps7
    go_wp2_with fail
    go_ret
    exact ⟨rfl, Below.refl _ _⟩
  have hd : decide ((1048576 : Int) < (nn : Int)) = false := decide_eq_false (by omega)
  clear hl
  go_enter Try.func7, Try.ntmps7
  go_wp2_with fail
  refine HO.out.mono ?_
  rintro e w1 ⟨t, s, rfl, hb⟩
  have HB := Lib.hid hb
  clear hb HO hd
  obtain ⟨r, HRL⟩ : ∃ l, Hid (bondsL t s = l) := ⟨_, rfl⟩
  have hrl : r.length ≤ 24 := by rw [← HRL.out]; exact bondsL_len
  rcases hset : setOkB t s with _ | _
  · have HS := Lib.hid hset
    have HE : Hid (r = []) := by unfold Hid; rw [← HRL.out]; unfold bondsL; rw [hset]; rfl
    have hz : r.length ≤ 0 := by rw [HE.out]; simp
    have hq : ((r.length : Int) == 0) = true := by rw [beq_iff_eq]; omega
    clear hz hset HE
    go_wp2_with fail
    refine (iBondsOf_is HRL _).mono ?_
    rintro e w3 ⟨v3, rfl, ho, hb⟩
    obtain ⟨A3, c3, rfl, _, _, _, _⟩ := ho.form
    have HR3 := Lib.hid (OwnsP.row ho (by omega))
    replace HB := Lib.hid (bel_trans HB.out hb)
    clear ho hb
    go_wp2_with fail
    refine (sBondsOf_is HRL _).mono ?_
    rintro e w4 ⟨v4, rfl, ho, hb⟩
    obtain ⟨A4, c4, rfl, _, _, _, _⟩ := ho.form
    have HR4 := Lib.hid (OwnsP.row ho (by omega))
    replace HB := Lib.hid (bel_trans HB.out hb)
    replace HR3 := Lib.hid (HR3.out.below hb)
    clear ho hb
    go_wp2_with fail
    refine (lSameBonds _ _ _ _ _ _ r _ HR3.out HR4.out).mono ?_
    rintro e w' ⟨rfl, n5, rfl⟩
    go_wp2_with fail
    refine (sSetOk_is HS _).mono ?_
    rintro e w' ⟨rfl, rfl⟩
    go_wp2_with fail
    refine (lAlive _).mono ?_
    rintro e w' ⟨rfl, rfl⟩
    go_wp2_with fail
    go_ret
    exact ⟨rfl, bel_drewN HB.out _⟩
  · have HS := Lib.hid hset
    obtain ⟨h1, h3, hs0, _, hs256⟩ := setOkB_lt hset
    obtain ⟨u, HU⟩ : ∃ u, Hid (andI s 165 = u) := ⟨_, rfl⟩
    obtain ⟨q, HQL⟩ : ∃ l, Hid (bondsL t u = l) := ⟨_, rfl⟩
    have hql : q.length ≤ 24 := by rw [← HQL.out]; exact bondsL_len
    have HLESS : Hid (∀ d ∈ r, d ∈ q) := fun d hd => by rw [← HQL.out, ← HU.out]; exact law_bonds_less 165 (by rw [HRL.out]; exact hd)
    have HHOLD : Hid (∀ d ∈ r, holdsInB t s d.1 d.2 = true) := fun d hd => bonds_hold (by rw [HRL.out]; exact hd)
    obtain ⟨x, HX⟩ : ∃ x, Hid (closedB t (r.take 8) 1 = x) := ⟨_, rfl⟩
    have HFOL : Hid (holdsInB t s 1 x = true) := by
      unfold Hid
      rw [← HX.out]
      exact law_bonds_follow hset (by rw [List.length_take]; omega) (fun d hd => HHOLD.out d (List.mem_of_mem_take hd))
    clear hset h1 h3
    go_wp2_with fail
    refine (iBondsOf_is HRL _).mono ?_
    rintro e w3 ⟨v3, rfl, ho, hb⟩
    obtain ⟨A3, c3, rfl, _, _, _, _⟩ := ho.form
    have HR3 := Lib.hid (OwnsP.row ho (by omega))
    replace HB := Lib.hid (bel_trans HB.out hb)
    clear ho hb
    go_wp2_with fail
    refine (sBondsOf_is HRL _).mono ?_
    rintro e w4 ⟨v4, rfl, ho, hb⟩
    obtain ⟨A4, c4, rfl, _, _, _, _⟩ := ho.form
    have HR4 := Lib.hid (OwnsP.row ho (by omega))
    replace HB := Lib.hid (bel_trans HB.out hb)
    replace HR3 := Lib.hid (HR3.out.below hb)
    clear ho hb
    go_wp2_with fail
    refine (lSameBonds _ _ _ _ _ _ r _ HR3.out HR4.out).mono ?_
    rintro e w' ⟨rfl, n5, rfl⟩
    replace HR3 := Lib.hid (HR3.out.drewN n5)
    replace HB := Lib.hid (bel_drewN HB.out n5)
    go_wp2_with fail
    refine (sSetOk_is HS _).mono ?_
    rintro e w' ⟨rfl, rfl⟩
    go_wp2_with fail
    refine (lBoth_is HU hs0 hs256 (by omega) _).mono ?_
    rintro e w' ⟨rfl, rfl⟩
    go_wp2_with fail
    refine (iBondsOf_is HQL _).mono ?_
    rintro e w6 ⟨v6, rfl, ho, hb⟩
    obtain ⟨A6, c6, rfl, _, _, _, _⟩ := ho.form
    have HR6 := Lib.hid (OwnsP.row ho (by omega))
    replace HB := Lib.hid (bel_trans HB.out hb)
    replace HR3 := Lib.hid (HR3.out.below hb)
    clear ho hb
    go_wp2_with fail
    go_loopw [7] (fun i wr => ∃ k : Nat, k ≤ r.length ∧ i = .int .i64 k ∧ Below w6.heap.size w6 wr) (fun i _ => r.length - (Go.RowKit.intOf i).toNat)
    case atStart => exact ⟨0, Nat.zero_le _, rfl, Below.refl _ _⟩
    case round =>
      obtain ⟨k, hk, rfl, hbel⟩ := hrel
      have HBW := Lib.hid hbel
      clear hbel
      by_cases hlt : k < r.length
      · obtain ⟨b, off, f, g, hA3, _, _, hx, _⟩ := HR3.out.hA.elem hlt
        subst hA3
        have hdk : decide ((k : Int) < (r.length : Int)) = true := decide_eq_true (by omega)
        have HH : Hid (holdsInB t s f g = true) := HHOLD.out (f, g) (List.mem_of_getElem? hx.out)
        have HIN : Hid ((f, g) ∈ q) := HLESS.out (f, g) (List.mem_of_getElem? hx.out)
        go_wp2_with fail
        clear hdk
        go_loopw [8, 9] (fun fv i wi => ∃ j : Nat, j ≤ q.length ∧ i = .int .i64 j ∧ fv = .bool (decide ((f, g) ∈ q.take j)) ∧ Below w6.heap.size w6 wi) (fun _ i _ => q.length - (Go.RowKit.intOf i).toNat)
        case atStart => exact ⟨0, Nat.zero_le _, rfl, by simp, HBW.out⟩
        case round =>
          obtain ⟨j, hj, rfl, rfl, hbel⟩ := hrel
          have HBI := Lib.hid hbel
          clear hbel
          by_cases hjt : j < q.length
          · obtain ⟨b1, off1, f1, g1, hA1, hc0, hc1, hx1, _⟩ := (HR3.out.hA.below HBI.out).elem hlt
            have e := hx.out.symm.trans hx1.out
            simp only [Option.some.injEq, Prod.mk.injEq] at e
            obtain ⟨rfl, rfl⟩ := e
            simp only [Option.some.injEq, Addr.mk.injEq, and_true] at hA1
            obtain ⟨rfl, rfl⟩ := hA1
            obtain ⟨b', off', f', g', rfl, hc0', hc1', hx', _⟩ := (HR6.out.hA.below HBI.out).elem hjt
            have hnx := found_next (d := (f, g)) hx'
            obtain ⟨y, HY⟩ : ∃ y, Hid (decide ((f, g) ∈ q.take j) = y) := ⟨_, rfl⟩
            rw [HY.out] at hnx ⊢
            cases y
            · by_cases he : f' = f ∧ g' = g
              · obtain ⟨rfl, rfl⟩ := he
                have HN : Hid (decide ((f', g') ∈ q.take (j + 1)) = true) := by unfold Hid; rw [hnx]; simp
                clear hnx
                go_wp2_with fail
                go_quiet (fail)
                go_wp2_with fail
                go_roundw
                case rel => exact ⟨j + 1, by omega, by go_num, by rw [HN.out], bel_drewN HBI.out _⟩
                case measure => simp [Go.RowKit.intOf]; omega
              · have HN : Hid (decide ((f, g) ∈ q.take (j + 1)) = false) := by
                  unfold Hid
                  rw [hnx, decide_eq_false (fun e => he (by cases e; exact ⟨rfl, rfl⟩))]; rfl
                clear hnx
                by_cases h1 : f' = f
                · subst h1
                  have hne : (g' == g) = false := by rw [beq_eq_false_iff_ne]; exact fun h => he ⟨rfl, h⟩
                  clear he
                  go_wp2_with fail
                  go_quiet (fail)
                  go_wp2_with fail
                  go_roundw
                  case rel => exact ⟨j + 1, by omega, by go_num, by rw [HN.out], bel_drewN HBI.out _⟩
                  case measure => simp [Go.RowKit.intOf]; omega
                · have hne : (f' == f) = false := by rw [beq_eq_false_iff_ne]; exact h1
                  clear he h1
                  go_wp2_with fail
                  go_quiet (fail)
                  go_wp2_with fail
                  go_roundw
                  case rel => exact ⟨j + 1, by omega, by go_num, by rw [HN.out], bel_drewN HBI.out _⟩
                  case measure => simp [Go.RowKit.intOf]; omega
            · have HN : Hid (decide ((f, g) ∈ q.take (j + 1)) = true) := by unfold Hid; rw [hnx]; rfl
              clear hnx
              go_wp2_with fail
              go_quiet (fail)
              go_wp2_with fail
              go_roundw
              case rel => exact ⟨j + 1, by omega, by go_num, by rw [HN.out], bel_drewN HBI.out _⟩
              case measure => simp [Go.RowKit.intOf]; omega
          · obtain rfl : j = q.length := by omega
            have HF : Hid (decide ((f, g) ∈ q.take q.length) = true) := by unfold Hid; rw [List.take_length]; exact decide_eq_true HIN.out
            rw [HF.out]
            obtain ⟨b1, off1, f1, g1, hA1, hc0, hc1, hx1, _⟩ := (HR3.out.hA.below HBI.out).elem hlt
            have e := hx.out.symm.trans hx1.out
            simp only [Option.some.injEq, Prod.mk.injEq] at e
            obtain ⟨rfl, rfl⟩ := e
            simp only [Option.some.injEq, Addr.mk.injEq, and_true] at hA1
            obtain ⟨rfl, rfl⟩ := hA1
            go_wp2_with fail
            refine (iHoldsIn_is HH _).mono ?_
            rintro e w7 ⟨rfl, hb⟩
            have HB7 := Lib.hid (bel_trans HBI.out hb)
            clear hb hc0 hc1
            go_wp2_with fail
            go_roundw
            case rel => exact ⟨k + 1, by omega, by go_num, HB7.out⟩
            case measure => simp [Go.RowKit.intOf]; omega
      · obtain rfl : k = r.length := by omega
        have hcc := HR3.out.hc
        have hcm := HR3.out.hm
        unfold maxLen at hcm
        by_cases h8 : r.length ≤ 8
        · have HRT := Lib.hid (BRow.take (HR3.out.below HBW.out) (m := r.length) (by rw [List.length_take]; omega))
          go_wp2_with fail
          refine (iClosedBy_is HX HRT.out).mono ?_
          rintro e w7 ⟨rfl, hb⟩
          have HB7 := Lib.hid (bel_trans HBW.out hb)
          clear hb
          go_wp2_with fail
          refine (iHoldsIn_is HFOL _).mono ?_
          rintro e w8 ⟨rfl, hb⟩
          have HB8 := Lib.hid (bel_trans HB7.out hb)
          clear hb
          go_wp2_with fail
          go_ret
          exact ⟨rfl, bel_trans HB.out HB8.out⟩
        · have HRT := Lib.hid (BRow.take (HR3.out.below HBW.out) (m := 8) (by rw [List.length_take]; omega))
          go_wp2_with fail
          refine (iClosedBy_is HX HRT.out).mono ?_
          rintro e w7 ⟨rfl, hb⟩
          have HB7 := Lib.hid (bel_trans HBW.out hb)
          clear hb
          go_wp2_with fail
          refine (iHoldsIn_is HFOL _).mono ?_
          rintro e w8 ⟨rfl, hb⟩
          have HB8 := Lib.hid (bel_trans HB7.out hb)
          clear hb
          go_wp2_with fail
          go_ret
          exact ⟨rfl, bel_trans HB.out HB8.out⟩
end Go.Proofs.Ytannpnhboeopdaa

namespace Go.Proofs.Ytannpnhboeopdaa
open Go.RowKit

theorem quiet_eq6 {P : Program} {f : FuncId} {args : Array Value} {w : World} {q n : Nat} {v : Value} (h : Calls P f args (w.drewN (q + n)) fun e w' => e = .returned v ∧ w.drewN (q + n) = w') :
    Calls P f args (w.drewN (q + n)) fun e w'' => e = .returned v ∧ ∃ m, w'' = w.drewN (q + m) := h.mono fun _ _ ⟨he, hm⟩ => ⟨he, n, hm.symm⟩
theorem keys_asc (t s : Int) : (keysL t s).Pairwise (· < ·) := by
  unfold keysL
  split
  · refine List.Pairwise.filter _ ?_
    rw [List.pairwise_map]
    exact List.pairwise_lt_range.imp fun h => by omega
  · exact List.Pairwise.nil
theorem keys_distinct {t s : Int} {k j : Nat} {x y : Int} (hk : (keysL t s)[k]? = some x) (hj : (keysL t s)[j]? = some y) (hne : j ≠ k) : x ≠ y := by
  have hp := keys_asc t s
  rw [List.pairwise_iff_getElem] at hp
  obtain ⟨h1, e1⟩ := List.getElem?_eq_some_iff.1 hk
  obtain ⟨h2, e2⟩ := List.getElem?_eq_some_iff.1 hj
  rcases Nat.lt_or_ge k j with h | h
  · have := hp k j h1 h2 h
    rw [e1, e2] at this; omega
  · have := hp j k h2 h1 (by omega)
    rw [e1, e2] at this; omega
theorem keys_apart {t s : Int} {k j : Nat} {x y : Int} (hk : (keysL t s)[k]? = some x) (hj : (keysL t s)[j]? = some y) (hne : j ≠ k) : withinB x y = false := by
  cases h : withinB x y
  · rfl
  · exact absurd (law_keys_apart (List.mem_of_getElem? hk) (List.mem_of_getElem? hj) h) (keys_distinct hk hj hne)
theorem keys_range {t s : Int} {x : Int} (h : x ∈ keysL t s) : 0 ≤ x ∧ x ≤ 7 := by
  have := thingsOk_of (key_of h).1
  omega
theorem keys_tell {t s : Int} {x : Int} (h : x ∈ keysL t s) {v u : Nat} (hu : u < v) : (hasW s v && hasW s u && agreeB x v u) = false := by
  cases hv : hasW s v <;> cases hw : hasW s u <;> cases ha : agreeB x v u <;> try rfl
  have := law_keys_tell h hv hw ha
  omega
set_option maxRecDepth 100000 in
set_option maxHeartbeats 4000000 in
theorem wKeysOf (A : Option Addr) (nn c : Nat) (zs : List Int) (w : World) (hn : nn = zs.length) (hc : nn ≤ c) (hm : c ≤ maxLen) (hr : ∀ z ∈ zs, 0 ≤ z ∧ z ≤ 255) (hA : Nums .u8 w A zs) :
    Calls Try.prog 6 #[.slice A nn c] w fun e w' => e = .returned (.bool true) ∧ Below w.heap.size w w' := by
  have HO := Lib.hid (drawKeysOf_any A nn c zs w hn hc hm hr hA)
  have hm' : nn ≤ 9223372036854775807 := by unfold maxLen at hm; omega
  clear hn hc hm hr hA
  by_cases hl : 1048576 < nn
  · have hd : decide ((1048576 : Int) < (nn : Int)) = true := decide_eq_true (by omega)
    go_enter Try.func6, Try.ntmps6
    go_wp2_with fail
    go_ret
    exact ⟨rfl, Below.refl _ _⟩
  have hd : decide ((1048576 : Int) < (nn : Int)) = false := decide_eq_false (by omega)
  clear hl
  go_enter Try.func6, Try.ntmps6
  go_wp2_with fail
  refine HO.out.mono ?_
  rintro e w1 ⟨t, s, rfl, hb⟩
  have HB := Lib.hid hb
  clear hb HO hd
  rcases hset : setOkB t s with _ | _
  · obtain ⟨r, HRL⟩ : ∃ l, Hid (keysL t s = l) := ⟨_, rfl⟩
    have hrl : r.length ≤ 256 := by rw [← HRL.out]; exact keys_len t s
    have HS := Lib.hid hset
    have HE : Hid (r = []) := by unfold Hid; rw [← HRL.out]; unfold keysL; rw [hset]; rfl
    have hz : r.length ≤ 0 := by rw [HE.out]; simp
    have hq : ((r.length : Int) == 0) = true := by rw [beq_iff_eq]; omega
    clear hz hset HE
    go_wp2_with fail
    refine (iKeysOf_is HRL _).mono ?_
    rintro e w3 ⟨v, rfl, ho, hb⟩
    obtain ⟨A3, c3, rfl, _, _, _, _⟩ := ho.form
    replace HB := Lib.hid (bel_trans (by first | exact HB.out | exact bel_drewN HB.out _) hb)
    have HR3 := Lib.hid (Owns.row ho (by omega))
    clear ho hb
    go_wp2_with fail
    refine (sKeysOf_is HRL _).mono ?_
    rintro e w4 ⟨v, rfl, ho, hb⟩
    obtain ⟨A4, c4, rfl, _, _, _, _⟩ := ho.form
    replace HB := Lib.hid (bel_trans (by first | exact HB.out | exact bel_drewN HB.out _) hb)
    replace HR3 := Lib.hid (Row.below (by first | exact HR3.out | exact Row.drewN HR3.out _) hb)
    have HR4 := Lib.hid (Owns.row ho (by omega))
    clear ho hb
    go_wp2_with fail
    refine (rSame (same_self r) HR3.out HR4.out).mono ?_
    rintro e w' ⟨rfl, m1, rfl⟩
    go_wp2_with fail
    refine (sSetOk_is HS _).mono ?_
    rintro e w' ⟨rfl, rfl⟩
    go_wp2_with fail
    refine (lAlive _).mono ?_
    rintro e w' ⟨rfl, rfl⟩
    go_wp2_with fail
    go_ret
    exact ⟨rfl, bel_drewN HB.out _⟩
  · have HS := Lib.hid hset
    obtain ⟨h1, h3, hs0, _, hs256⟩ := setOkB_lt hset
    obtain ⟨ms, rfl⟩ : ∃ m : Nat, s = m := ⟨s.toNat, by omega⟩
    obtain ⟨hw, hw8⟩ := worlds_n5 h1 h3
    obtain ⟨n, HNW⟩ : ∃ n, Hid (nWorlds t = n) := ⟨_, rfl⟩
    rw [HNW.out] at hw hw8
    have HW := Lib.hid hw
    have HAP : Hid (∀ k j x y, (keysL t ms)[k]? = some x → (keysL t ms)[j]? = some y → j ≠ k → withinB x y = false) := fun k j x y a b c => keys_apart a b c
    have HRG : Hid (∀ x ∈ keysL t ms, 0 ≤ x ∧ x ≤ 7) := fun x hx => keys_range hx
    have HTL : Hid (∀ x ∈ keysL t ms, ∀ v u : Nat, u < v → (hasW (ms : Int) v && hasW (ms : Int) u && agreeB x v u) = false) := fun x hx v u huv => keys_tell hx huv
    obtain ⟨g0, hg0⟩ := law_keys_some hset
    obtain ⟨r, HRL⟩ : ∃ l, Hid (keysL t (ms : Int) = l) := ⟨_, rfl⟩
    rw [HRL.out] at HAP HRG HTL hg0
    have hpos : 0 < r.length := List.length_pos_of_mem hg0
    have hrl : r.length ≤ 256 := by rw [← HRL.out]; exact keys_len t ms
    have hgt : decide ((0 : Int) < (r.length : Int)) = true := decide_eq_true (by omega)
    have HGT := Lib.hid hgt
    clear hset hw h1 h3 hg0 hgt
    go_wp2_with fail
    refine (iKeysOf_is HRL _).mono ?_
    rintro e w3 ⟨v, rfl, ho, hb⟩
    obtain ⟨A3, c3, rfl, _, _, _, _⟩ := ho.form
    replace HB := Lib.hid (bel_trans (by first | exact HB.out | exact bel_drewN HB.out _) hb)
    have HR3 := Lib.hid (Owns.row ho (by omega))
    clear ho hb
    go_wp2_with fail
    refine (sKeysOf_is HRL _).mono ?_
    rintro e w4 ⟨v, rfl, ho, hb⟩
    obtain ⟨A4, c4, rfl, _, _, _, _⟩ := ho.form
    replace HB := Lib.hid (bel_trans (by first | exact HB.out | exact bel_drewN HB.out _) hb)
    replace HR3 := Lib.hid (Row.below (by first | exact HR3.out | exact Row.drewN HR3.out _) hb)
    have HR4 := Lib.hid (Owns.row ho (by omega))
    clear ho hb
    go_wp2_with fail
    refine (rSame (same_self r) HR3.out HR4.out).mono ?_
    rintro e w' ⟨rfl, m2, rfl⟩
    replace HR3 := Lib.hid (HR3.out.drewN m2)
    replace HB := Lib.hid (bel_drewN HB.out m2)
    clear HR4
    go_wp2_with fail
    refine (sSetOk_is HS _).mono ?_
    rintro e w' ⟨rfl, rfl⟩
    obtain ⟨W5, hW5⟩ : ∃ W, w4.drewN m2 = W := ⟨_, rfl⟩
    rw [hW5] at HR3 HB ⊢
    clear hW5
    go_wp2_with fail
    go_loopw [6] (fun i wr => ∃ k : Nat, k ≤ r.length ∧ i = .int .i64 k ∧ ∃ q, wr = W5.drewN q) (fun i _ => r.length - (Go.RowKit.intOf i).toNat)
    case atStart => exact ⟨0, Nat.zero_le _, rfl, 0, rfl⟩
    case round =>
      obtain ⟨k, hk, rfl, q, rfl⟩ := hrel
      by_cases hlt : k < r.length
      · obtain ⟨b, off, x, rfl, hcell, hx, _⟩ := HR3.out.hA.elem hlt
        have hxm := elem_mem hx
        obtain ⟨hx0, hx7⟩ := HRG.out x hxm
        have HT := Lib.hid (HTL.out x hxm)
        have hdk : decide ((k : Int) < (r.length : Int)) = true := decide_eq_true (by omega)
        clear hxm
        go_wp2_with fail
        clear hdk
        go_loopw [7] (fun i wi => ∃ j : Nat, j ≤ r.length ∧ i = .int .i64 j ∧ ∃ q, wi = W5.drewN q) (fun i _ => r.length - (Go.RowKit.intOf i).toNat)
        case atStart => exact ⟨0, Nat.zero_le _, rfl, q, rfl⟩
        case round =>
          obtain ⟨j, hj, rfl, q2, rfl⟩ := hrel
          by_cases hjt : j < r.length
          · obtain ⟨b', off', y, hA', hcell', hy, _⟩ := HR3.out.hA.elem hjt
            simp only [Option.some.injEq, Addr.mk.injEq, and_true] at hA'
            obtain ⟨rfl, rfl⟩ := hA'
            obtain ⟨hy0, hy7⟩ := HRG.out y (elem_mem hy)
            by_cases he : j = k
            · subst he
              have hjk : ((j : Int) != (j : Int)) = false := by simp
              go_wp2_with fail
              go_quiet (fail)
              go_wp2_with fail
              go_roundw
              case rel => exact ⟨j + 1, by omega, by go_num, _, rfl⟩
              case measure => simp [Go.RowKit.intOf]; omega
            · have hjk : ((j : Int) != (k : Int)) = true := by rw [bne_iff_ne]; omega
              have HWN := Lib.hid (HAP.out k j x y hx.out hy.out he)
              clear he
              go_wp2_with fail
              go_quiet ((go_at_call 23; with_reducible exact quiet_eq6 (lWithin_is HWN (by omega) (by omega) (by omega) _)))
              go_wp2_with fail
              go_roundw
              case rel => exact ⟨j + 1, by omega, by go_num, _, rfl⟩
              case measure => simp [Go.RowKit.intOf]; omega
          · obtain rfl : j = r.length := by omega
            have hdj : decide ((r.length : Int) < (r.length : Int)) = false := decide_eq_false (by omega)
            go_wp2_with fail
            clear hdj
            go_loopw [8] (fun i wi => ∃ v : Nat, v ≤ n ∧ i = .int .i64 v ∧ ∃ q, wi = W5.drewN q) (fun i _ => n - (Go.RowKit.intOf i).toNat)
            case atStart => exact ⟨0, Nat.zero_le _, rfl, q2, rfl⟩
            case round =>
              obtain ⟨v, hv, rfl, q3, rfl⟩ := hrel
              go_wp2_with fail
              refine (sWorldsOf _ _).mono ?_
              rintro e w' ⟨rfl, rfl⟩
              rw [HW.out]
              by_cases hvt : v < n
              · have hdv : decide ((v : Int) < (n : Int)) = true := decide_eq_true (by omega)
                go_wp2_with fail
                clear hdv
                go_loopw [9] (fun i wi => ∃ u : Nat, u ≤ v ∧ i = .int .i64 u ∧ ∃ q, wi = W5.drewN q) (fun i _ => v - (Go.RowKit.intOf i).toNat)
                case atStart => exact ⟨0, Nat.zero_le _, rfl, q3, rfl⟩
                case round =>
                  obtain ⟨u, hu, rfl, q4, rfl⟩ := hrel
                  by_cases hut : u < v
                  · have hall := HT.out v u hut
                    obtain ⟨x1, H1⟩ : ∃ b, Hid (hasW (ms : Int) v = b) := ⟨_, rfl⟩
                    obtain ⟨x2, H2⟩ : ∃ b, Hid (hasW (ms : Int) u = b) := ⟨_, rfl⟩
                    obtain ⟨x3, H3⟩ : ∃ b, Hid (agreeB x v u = b) := ⟨_, rfl⟩
                    have hw1 := has_one H1.out
                    have hw2 := has_one H2.out
                    rw [H1.out, H2.out, H3.out] at hall
                    have hq3 : (andI (v : Int) x == andI (u : Int) x) = x3 := and_same.trans H3.out
                    obtain ⟨af, HAF⟩ : ∃ n, Hid (andI (v : Int) x = n) := ⟨_, rfl⟩
                    obtain ⟨bf, HBF⟩ : ∃ n, Hid (andI (u : Int) x = n) := ⟨_, rfl⟩
                    rw [HAF.out, HBF.out] at hq3
                    have hways : x1 = false ∨ (x1 = true ∧ x2 = false) ∨ (x1 = true ∧ x2 = true ∧ x3 = false) := by
                      revert hall; cases x1 <;> cases x2 <;> cases x3 <;> simp
                    clear hall
                    rcases hways with rfl | ⟨rfl, rfl⟩ | ⟨rfl, rfl, rfl⟩
                    all_goals
                      go_wp2_with fail
                      go_quiet (first
                        | (go_at_call 35; with_reducible exact quiet_eq6 (lBoth_is HAF (by omega) (by omega) (by omega) _))
                        | (go_at_call 35; with_reducible exact quiet_eq6 (lBoth_is HBF (by omega) (by omega) (by omega) _)))
                      go_wp2_with fail
                      go_roundw
                      case rel => exact ⟨u + 1, by omega, by go_num, _, rfl⟩
                      case measure => simp [Go.RowKit.intOf]; omega
                  · obtain rfl : u = v := by omega
                    go_wp2_with fail
                    go_roundw
                    case rel => exact ⟨u + 1, by omega, by go_num, _, rfl⟩
                    case measure => simp [Go.RowKit.intOf]; omega
              · obtain rfl : v = n := by omega
                go_wp2_with fail
                go_roundw
                case rel => exact ⟨k + 1, by omega, by go_num, _, rfl⟩
                case measure => simp [Go.RowKit.intOf]; omega
      · obtain rfl : k = r.length := by omega
        have hgt := HGT.out
        go_wp2_with fail
        go_ret
        exact ⟨rfl, bel_drewN HB.out _⟩
end Go.Proofs.Ytannpnhboeopdaa
