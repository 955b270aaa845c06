/-
  The walk of the law of Settles.
-/
import Derived.Test.YtjhkeclimplbmaaLaws6
namespace Go.Proofs.Ytjhkeclimplbmaa
open Go.RowKit

theorem settles_less {t : Int} {xs : List Int} {s k : Int} (h : issueOkB t xs = true) (hs : setOkB t s = true) (h1 : settlesB t xs s = true) : settlesB t xs (andI s k) = true := by
  have hsr := setOkB_lt hs
  have hok : setOkB t (andI s k) = true := setOk_of hsr.1 hsr.2.1 (andI_nonneg _ _) (Int.le_trans (andI_le s k hsr.2.2.1) hsr.2.2.2.1)
  unfold settlesB anyWithin at *
  rw [h, hok]
  simp only [Bool.and_eq_true, List.any_eq_true, Bool.true_and] at h1 ⊢
  obtain ⟨_, x, hx, hw⟩ := h1
  refine ⟨x, hx, within_trans (andI_nonneg _ _) hsr.2.2.1 ?_ hw⟩
  rw [within_iff (andI_nonneg _ _)]
  intro i hi
  change ((((s.toNat &&& k.toNat : Nat) : Int)).toNat).testBit i = true at hi
  rw [Int.toNat_natCast, Nat.testBit_and, Bool.and_eq_true] at hi
  exact hi.1
theorem settles_zero {t : Int} {xs : List Int} (h : issueOkB t xs = true) : settlesB t xs 0 = true := by
  obtain ⟨h1, h3⟩ := issue_things h
  have hne := issue_ne h
  unfold settlesB anyWithin
  rw [h, setOk_of h1 h3 (by omega) (allOf_lt t).1]
  match xs, hne with
  | x :: r, _ => simp [within_zero]
/-- What the loop over all sets has found behind the first k: are both settled by the same ones? -/
def SameTo (t : Int) (xs ys : List Int) (k : Int) (b : Bool) : Prop := b = true ↔ ∀ j, 0 ≤ j → j < k → settlesB t xs j = settlesB t ys j
theorem same_start (t : Int) (xs ys : List Int) : Hid (SameTo t xs ys 0 true) := ⟨fun _ j h1 h2 => by omega, fun _ => rfl⟩
theorem same_false {t : Int} {xs ys : List Int} {k : Int} (h : Hid (SameTo t xs ys k false)) : Hid (SameTo t xs ys (k + 1) false) :=
  ⟨(fun e => by cases e), fun h2 => h.out.2 fun j h3 h4 => h2 j h3 (by omega)⟩
theorem same_true {t : Int} {xs ys : List Int} {k : Int} {b1 b2 : Bool} (h : Hid (SameTo t xs ys k true)) (h1 : Hid (settlesB t xs k = b1)) (h2 : Hid (settlesB t ys k = b2)) (hk : 0 ≤ k) : Hid (SameTo t xs ys (k + 1) (b1 == b2)) := by
  refine ⟨fun e j h3 h4 => ?_, fun e => ?_⟩
  · by_cases hj : j = k
    · subst hj; rw [h1.out, h2.out]; simpa using e
    · exact h.out.1 rfl j h3 (by omega)
  · have := e k hk (by omega)
    rw [h1.out, h2.out] at this
    simp [this]
theorem same_end {t : Int} {xs ys : List Int} {b : Bool} (h : Hid (SameTo t xs ys (allOf t + 1) b)) (hx : issueOkB t xs = true) (hy : issueOkB t ys = true) : b = decide (xs = ys) := by
  by_cases e : xs = ys
  · rw [decide_eq_true e]
    exact h.out.2 fun j _ _ => by rw [e]
  · rw [decide_eq_false e]
    cases hb : b
    · rfl
    · exact absurd (settles_same hx hy fun k h1 h2 => h.out.1 hb k h1 (by omega)) e

set_option maxHeartbeats 4000000 in
theorem wSettles (A B : Option Addr) (nn mm c d : Nat) (zs qs : List Int) (w : World) (hn : nn = zs.length) (hc : nn ≤ c) (hm : c ≤ maxLen) (hr : ∀ z ∈ zs, 0 ≤ z ∧ z ≤ 255) (hA : Nums .u8 w A zs)
    (hn2 : mm = qs.length) (hc2 : mm ≤ d) (hm2 : d ≤ maxLen) (hr2 : ∀ z ∈ qs, 0 ≤ z ∧ z ≤ 255) (hB : Nums .u8 w B qs) :
    Calls Try.prog 7 #[.slice A nn c, .slice B mm d] w fun e w' => e = .returned (.bool true) ∧ Below w.heap.size w w' := by
  have HO := Lib.hid (drawSettles_any A nn c zs w hn hc hm hr hA)
  have HO2 : Hid (∀ W, Below w.heap.size w W → Calls Try.prog 33 #[.slice B mm d] W (DrawTLS W)) := fun W hb => drawSettles_any B mm d qs W hn2 hc2 hm2 hr2 (hB.below hb)
  have hm' : nn ≤ 9223372036854775807 := by unfold maxLen at hm; omega
  have hm2' : mm ≤ 9223372036854775807 := by unfold maxLen at hm2; omega
  clear hn hc hm hr hA hn2 hc2 hm2 hr2 hB
  by_cases hl : 1048576 < nn
  · have hd : decide ((1048576 : Int) < (nn : Int)) = true := decide_eq_true (by omega)
    go_enter Try.func7, Try.ntmps7
    go_wp2_with fail
    go_ret
    exact ⟨rfl, Below.refl _ _⟩
  by_cases hl2 : 1048576 < mm
  · have hd : decide ((1048576 : Int) < (nn : Int)) = false := decide_eq_false (by omega)
    have hd2 : decide ((1048576 : Int) < (mm : Int)) = true := decide_eq_true (by omega)
    go_enter Try.func7, Try.ntmps7
    go_wp2_with fail
    go_ret
    exact ⟨rfl, Below.refl _ _⟩
  have hd : decide ((1048576 : Int) < (nn : Int)) = false := decide_eq_false (by omega)
  have hd2 : decide ((1048576 : Int) < (mm : Int)) = false := decide_eq_false (by omega)
  have hmm : mm ≤ 1048576 := by omega
  clear hl hl2
  go_enter Try.func7, Try.ntmps7
  go_wp2_with fail
  refine HO.out.mono ?_
  rintro e w1 ⟨t, v, xs, s, rfl, ht0, ht1, ho, hlen, hrange, hs0, hs1, hb⟩
  obtain ⟨A1, c1, rfl, hc1, hm1, hn1, _⟩ := ho.form
  have HN := Lib.hid hn1
  have HM := Lib.hid hm1
  have HB := Lib.hid hb
  clear hb hn1 hm1 HO ho hrange hd hd2
  obtain ⟨ok, HS⟩ : ∃ b, Hid (settlesB t xs s = b) := ⟨_, rfl⟩
  rcases hi : issueOkB t xs with _ | _
  · have HI := Lib.hid hi
    obtain rfl : ok = false := by rw [← HS.out]; unfold settlesB; rw [hi]; rfl
    clear hi
    go_wp2_with fail
    refine (iSettles_is HS _ _ _ _ rfl (by omega) hc1 HM.out HN.out).mono ?_
    rintro e w2 ⟨rfl, n2, rfl⟩
    go_wp2_with fail
    refine (sSettles_is HS _ _ _ _ rfl (by omega) (by exact HN.out)).mono ?_
    rintro e w2 ⟨rfl, n3, rfl⟩
    go_wp2_with fail
    refine (sIssueOk_is HI _ _ _ _ rfl (by omega) (by exact HN.out)).mono ?_
    rintro e w2 ⟨rfl, n4, rfl⟩
    go_wp2_with fail
    refine (lAlive _).mono ?_
    rintro e w' ⟨rfl, rfl⟩
    go_wp2_with fail
    go_ret
    exact ⟨rfl, bel_drewN HB.out _⟩
  rcases hs : setOkB t s with _ | _
  · have HI := Lib.hid hi
    have HT := Lib.hid hs
    obtain rfl : ok = false := by rw [← HS.out]; unfold settlesB; rw [hs]; simp
    clear hi hs
    go_wp2_with fail
    refine (iSettles_is HS _ _ _ _ rfl (by omega) hc1 HM.out HN.out).mono ?_
    rintro e w2 ⟨rfl, n2, rfl⟩
    go_wp2_with fail
    refine (sSettles_is HS _ _ _ _ rfl (by omega) (by exact HN.out)).mono ?_
    rintro e w2 ⟨rfl, n3, rfl⟩
    go_wp2_with fail
    refine (sIssueOk_is HI _ _ _ _ rfl (by omega) (by exact HN.out)).mono ?_
    rintro e w2 ⟨rfl, n4, rfl⟩
    go_wp2_with fail
    refine (sSetOk_is HT _).mono ?_
    rintro e w' ⟨rfl, rfl⟩
    go_wp2_with fail
    refine (lAlive _).mono ?_
    rintro e w' ⟨rfl, rfl⟩
    go_wp2_with fail
    go_ret
    exact ⟨rfl, bel_drewN HB.out _⟩
  have HI := Lib.hid hi
  have HT := Lib.hid hs
  obtain ⟨hh1, hh3, hss0, _, hss1⟩ := setOkB_lt hs
  have HZ := Lib.hid (settles_zero hi)
  obtain ⟨q, hq⟩ : ∃ q : Int, q = (mm : Int) * 37 % 256 := ⟨_, rfl⟩
  have hq0 : 0 ≤ q := by omega
  have HLESS : Hid (ok = true → settlesB t xs (andI s q) = true) := fun h => settles_less hi hs (by rw [HS.out, h])
  have HQ := Lib.hid hq.symm
  obtain ⟨al, HAL⟩ : ∃ n, Hid (allOf t = n) := ⟨_, rfl⟩
  have hal1 : al < 256 := by rw [← HAL.out]; exact (allOf_lt t).2
  have hal0 : 0 ≤ al := by rw [← HAL.out]; exact (allOf_lt t).1
  clear hi hs hq
  go_wp2_with fail
  refine (iSettles_is HS _ _ _ _ rfl (by omega) hc1 HM.out HN.out).mono ?_
  rintro e w2 ⟨rfl, n2, rfl⟩
  go_wp2_with fail
  refine (sSettles_is HS _ _ _ _ rfl (by omega) (by exact HN.out)).mono ?_
  rintro e w2 ⟨rfl, n3, rfl⟩
  go_wp2_with fail
  refine (sIssueOk_is HI _ _ _ _ rfl (by omega) (by exact HN.out)).mono ?_
  rintro e w2 ⟨rfl, n4, rfl⟩
  go_wp2_with fail
  refine (sSetOk_is HT _).mono ?_
  rintro e w' ⟨rfl, rfl⟩
  go_wp2_with fail
  rw [HQ.out]
  refine (lBoth s q hss0 hss1 hq0 _).mono ?_
  rintro e w' ⟨rfl, rfl⟩
  obtain ⟨less, hless⟩ : ∃ l, l = andI s q := ⟨_, rfl⟩
  have HL2 : Hid (ok = true → settlesB t xs less = true) := by rw [hless]; exact HLESS.out
  rw [← hless]
  clear hless HLESS HQ
  go_wp2_with fail
  refine (HO2.out _ (by exact bel_drewN HB.out _)).mono ?_
  rintro e w5 ⟨t2, v2, ys, s2, rfl, _, _, ho, hlen2, _, _, _, hb⟩
  obtain ⟨A2, c2, rfl, hc2, hm2, hn2, _⟩ := ho.form
  have HN2 := Lib.hid hn2
  have HM2 := Lib.hid hm2
  have HN5 := Lib.hid (Nums.below (w := w1.drewN (n2 + n3 + n4)) HN.out hb)
  have HB5 := Lib.hid (bel_trans (bel_drewN HB.out _) hb)
  clear hb ho hn2 hm2 HO2
  by_cases ht : t2 = t
  · subst ht
    rcases hy : issueOkB t2 ys with _ | _
    · have HY := Lib.hid hy
      clear hy
      go_wp2_with fail
      refine (sIssueOk_is HY _ _ _ _ rfl (by omega) HN2.out).mono ?_
      rintro e w' ⟨rfl, m1, rfl⟩
      cases ok
      · go_wp2_with fail
        refine (iSettles_is HZ _ _ _ _ rfl (by omega) hc1 HM.out (by exact HN5.out)).mono ?_
        rintro e w' ⟨rfl, m2, rfl⟩
        go_wp2_with fail
        go_ret
        exact ⟨rfl, bel_drewN HB5.out _⟩
      · have HL3 := Lib.hid (HL2.out rfl)
        go_wp2_with fail
        refine (iSettles_is HL3 _ _ _ _ rfl (by omega) hc1 HM.out (by exact HN5.out)).mono ?_
        rintro e w' ⟨rfl, m2, rfl⟩
        go_wp2_with fail
        refine (iSettles_is HZ _ _ _ _ rfl (by omega) hc1 HM.out (by exact HN5.out)).mono ?_
        rintro e w' ⟨rfl, m3, rfl⟩
        go_wp2_with fail
        go_ret
        exact ⟨rfl, bel_drewN HB5.out _⟩
    · have HY := Lib.hid hy
      clear hy
      go_wp2_with fail
      refine (sIssueOk_is HY _ _ _ _ rfl (by omega) HN2.out).mono ?_
      rintro e w' ⟨rfl, m1, rfl⟩
      go_wp2_with fail
      go_loopw [13, 14] (fun b i wr => ∃ (k : Int) (sm : Bool), 0 ≤ k ∧ k ≤ al + 1 ∧ i = .int .i64 k ∧ b = .bool sm ∧ Hid (SameTo t2 xs ys k sm) ∧ ∃ n, wr = w5.drewN n) (fun _ i _ => (al + 1 - intOf i).toNat)
      case atStart => exact ⟨0, true, by omega, by omega, rfl, rfl, same_start _ _ _, _, rfl⟩
      case round =>
        obtain ⟨k, sm, hk0, hk, rfl, rfl, hsame, n, rfl⟩ := hrel
        by_cases hlt : k ≤ al
        · cases sm
          · go_wp2_with fail
            refine (lWhole_is HAL hh1 hh3 _).mono ?_
            rintro e w' ⟨rfl, rfl⟩
            go_wp2_with fail
            go_roundw
            case rel => exact ⟨k + 1, false, by omega, by omega, rfl, rfl, same_false hsame, _, rfl⟩
            case measure => simp [intOf]; omega
          · obtain ⟨b1, H1⟩ : ∃ b, Hid (settlesB t2 xs k = b) := ⟨_, rfl⟩
            obtain ⟨b2, H2⟩ : ∃ b, Hid (settlesB t2 ys k = b) := ⟨_, rfl⟩
            have HSM := same_true hsame H1 H2 hk0
            go_wp2_with fail
            refine (lWhole_is HAL hh1 hh3 _).mono ?_
            rintro e w' ⟨rfl, rfl⟩
            go_wp2_with fail
            refine (iSettles_is H1 _ _ _ _ rfl (by omega) hc1 HM.out (by exact HN5.out)).mono ?_
            rintro e w' ⟨rfl, m, rfl⟩
            go_wp2_with fail
            refine (iSettles_is H2 _ _ _ _ rfl (by omega) hc2 HM2.out (by exact HN2.out)).mono ?_
            rintro e w' ⟨rfl, m2, rfl⟩
            go_wp2_with fail
            go_roundw
            case rel => exact ⟨k + 1, (b1 == b2), by omega, by omega, rfl, rfl, HSM, _, rfl⟩
            case measure => simp [intOf]; omega
        · obtain rfl : k = al + 1 := by omega
          have HE : Hid (sm = decide (xs = ys)) := same_end (by rw [HAL.out]; exact hsame) HI.out HY.out
          clear hsame
          go_wp2_with fail
          refine (lWhole_is HAL hh1 hh3 _).mono ?_
          rintro e w' ⟨rfl, rfl⟩
          go_wp2_with fail
          refine (lSameInts _ _ _ _ _ _ xs ys _ rfl rfl (by omega) (by omega) (by exact HN5.out) (by exact HN2.out)).mono ?_
          rintro e w' ⟨rfl, m, rfl⟩
          rw [← HE.out]
          clear HE
          cases ok
          · go_wp2_with fail
            refine (iSettles_is HZ _ _ _ _ rfl (by omega) hc1 HM.out (by exact HN5.out)).mono ?_
            rintro e w' ⟨rfl, m2, rfl⟩
            go_wp2_with fail
            go_ret
            exact ⟨rfl, bel_drewN HB5.out _⟩
          · have HL3 := Lib.hid (HL2.out rfl)
            go_wp2_with fail
            refine (iSettles_is HL3 _ _ _ _ rfl (by omega) hc1 HM.out (by exact HN5.out)).mono ?_
            rintro e w' ⟨rfl, m2, rfl⟩
            go_wp2_with fail
            refine (iSettles_is HZ _ _ _ _ rfl (by omega) hc1 HM.out (by exact HN5.out)).mono ?_
            rintro e w' ⟨rfl, m3, rfl⟩
            go_wp2_with fail
            go_ret
            exact ⟨rfl, bel_drewN HB5.out _⟩
  · have ht' : (t2 == t) = false := by simp [ht]
    have HTT := Lib.hid ht
    clear ht
    cases ok
    · go_wp2_with fail
      refine (iSettles_is HZ _ _ _ _ rfl (by omega) hc1 HM.out (by exact HN5.out)).mono ?_
      rintro e w' ⟨rfl, m2, rfl⟩
      go_wp2_with fail
      go_ret
      exact ⟨rfl, bel_drewN HB5.out _⟩
    · have HL3 := Lib.hid (HL2.out rfl)
      go_wp2_with fail
      refine (iSettles_is HL3 _ _ _ _ rfl (by omega) hc1 HM.out (by exact HN5.out)).mono ?_
      rintro e w' ⟨rfl, m2, rfl⟩
      go_wp2_with fail
      refine (iSettles_is HZ _ _ _ _ rfl (by omega) hc1 HM.out (by exact HN5.out)).mono ?_
      rintro e w' ⟨rfl, m3, rfl⟩
      go_wp2_with fail
      go_ret
      exact ⟨rfl, bel_drewN HB5.out _⟩
end Go.Proofs.Ytjhkeclimplbmaa
