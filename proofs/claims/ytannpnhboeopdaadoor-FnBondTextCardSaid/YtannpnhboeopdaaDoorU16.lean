/-
  What the proofs of this seat's statements share (BndC, BndD, OwnP, TxtM).
-/
import Derived.Test.YtannpnhboeopdaaDoorU15
import Derived.Test.YtannpnhboeopdaaDoorU2
import Derived.Test.YtannpnhboeopdaaDoorU3
import Derived.Test.YtannpnhboeopdaaDoorU9

namespace Go.Proofs.YtannpnhboeopdaaDoor
open Go.RowKit

set_option maxRecDepth 100000 in
set_option maxHeartbeats 4000000 in
theorem iHoldsIn (t s f g : Int) (w : World) : Calls Tryd.prog 7 #[.int .i64 t, .int .i64 s, .agg #[.int .i64 f, .int .i64 g]] w (BPost (holdsInB t s f g) w) := by
  have HX1 : Hid (BoxAt (w.alloc (.cells #[.int .i64 f, .int .i64 g] 24)) w.heap.size f g) := BoxAt.new w f g _
  have HB1 : Hid (Below w.heap.size w (w.alloc (.cells #[.int .i64 f, .int .i64 g] 24))) := (Below.refl _ _).alloc (Nat.le_refl _) _
  rcases hx : bondOkB t f g with _ | _
  · have HX := Lib.hid hx
    rw [show holdsInB t s f g = false by rw [holdsIn_eq, hx, Bool.and_false]; rfl]
    clear hx
    go_enter Tryd.func7, Tryd.ntmps7
    go_wp2_with fail
    refine (iBondOk_is HX _).mono ?_
    rintro e w1 ⟨rfl, hb⟩
    have HB2 := Lib.hid (bel_trans HB1.out hb)
    clear hb
    go_wp2_with fail
    go_ret
    exact ⟨rfl, HB2.out⟩
  · have HX := Lib.hid hx
    have hfo := hx
    unfold bondOkB at hfo
    rw [Bool.and_eq_true] at hfo
    obtain ⟨h1, h3, hf0, _, hf7⟩ := thingsOk_of hfo.1
    obtain ⟨_, _, hg0, _, hg7⟩ := thingsOk_of hfo.2
    rcases hy : setOkB t s with _ | _
    · have HY := Lib.hid hy
      rw [show holdsInB t s f g = false by rw [holdsIn_eq, hy]; rfl]
      clear hx hy hfo
      go_enter Tryd.func7, Tryd.ntmps7
      go_wp2_with fail
      refine (iBondOk_is HX _).mono ?_
      rintro e w1 ⟨rfl, hb⟩
      have HB2 := Lib.hid (bel_trans HB1.out hb)
      clear hb
      go_wp2_with fail
      refine (iSetOk _ _ _).mono ?_
      rintro e w' ⟨rfl, rfl⟩
      rw [HY.out]
      go_wp2_with fail
      go_ret
      exact ⟨rfl, HB2.out⟩
    · have HY := Lib.hid hy
      rw [show holdsInB t s f g = pairsB t s f g by rw [holdsIn_eq, hx, hy]; rfl]
      obtain ⟨_, _, hs0, _, hs256⟩ := setOkB_lt hy
      obtain ⟨res, HRES⟩ : ∃ b, Hid (pairsB t s f g = b) := ⟨_, rfl⟩
      have HH : Hid (∀ W, Calls Tryd.prog 29 #[.int .i64 t, .int .i64 s, .agg #[.int .i64 f, .int .i64 g]] W (BPost res W)) := fun W => by
        have := iHolds t s f g W h1 h3 hs0 hs256 hf0 (by omega) hg0 (by omega)
        rw [HRES.out] at this; exact this
      rw [HRES.out]
      clear hx hy hfo
      go_enter Tryd.func7, Tryd.ntmps7
      go_wp2_with fail
      refine (iBondOk_is HX _).mono ?_
      rintro e w1 ⟨rfl, hb⟩
      have HB2 := Lib.hid (bel_trans HB1.out hb)
      obtain ⟨hc0, hc1, _⟩ := HX1.out.below hb
      clear hb
      go_wp2_with fail
      refine (iSetOk _ _ _).mono ?_
      rintro e w' ⟨rfl, rfl⟩
      rw [HY.out]
      go_wp2_with fail
      refine (HH.out _).mono ?_
      rintro e w2 ⟨rfl, hb⟩
      have HB3 := Lib.hid (bel_trans HB2.out hb)
      clear hb
      go_wp2_with fail
      go_ret
      exact ⟨rfl, HB3.out⟩
theorem iHoldsIn_is {t s f g : Int} {b : Bool} (h : Hid (holdsInB t s f g = b)) (w : World) : Calls Tryd.prog 7 #[.int .i64 t, .int .i64 s, .agg #[.int .i64 f, .int .i64 g]] w (BPost b w) := by
  have := iHoldsIn t s f g w
  rw [h.out] at this; exact this

theorem has_one {m k : Nat} {b : Bool} (h : hasW (m : Int) k = b) : (((m : Int) / 2 ^ k).tmod 2 == 1) = b := by
  have e : (2 : Int) ^ k = ((2 ^ k : Nat) : Int) := by push_cast; rfl
  have e2 : hasW (m : Int) k = decide (m / 2 ^ k % 2 = 1) := by unfold hasW; rw [Int.toNat_natCast, Nat.testBit_eq_decide_div_mod_eq]
  rw [← h, e2, e, show ((m : Int) / ((2 ^ k : Nat) : Int)).tmod 2 = ((m / 2 ^ k % 2 : Nat) : Int) by rw [← Int.natCast_ediv]; rfl]
  rcases Nat.mod_two_eq_zero_or_one (m / 2 ^ k) with h | h <;> rw [h] <;> rfl
theorem and_same {v u : Nat} {f : Int} : (andI (v : Int) f == andI (u : Int) f) = agreeB f v u := by
  unfold agreeB andI
  rw [Bool.eq_iff_iff, beq_iff_eq, decide_eq_true_eq, Int.toNat_natCast, Int.toNat_natCast]
  omega
theorem sBoth5 {a b g : Int} (h : Hid (andI a b = g)) (ha : 0 ≤ a) (ha2 : a < 256) (hb : 0 ≤ b) (hb2 : b < 256) (w : World) :
    Calls Tryd.prog 26 #[.int .i64 a, .int .i64 b] w fun e w' => e = .returned (.int .i64 g) ∧ ∃ n, w' = w.drewN n := by
  have := sBothS a b ha ha2 hb hb2 w
  rw [h.out] at this; exact this

set_option maxRecDepth 100000 in
set_option maxHeartbeats 8000000 in
theorem sHoldsIn (t s f g : Int) (w : World) : Calls Tryd.prog 8 #[.int .i64 t, .int .i64 s, .agg #[.int .i64 f, .int .i64 g]] w (BPost (holdsInB t s f g) w) := by
  have hnot : ∀ (x : Bool) (w : World), (Op.unary .not (.bool x)).run Tryd.prog w = .ok (.bool (!x)) w := fun _ _ => rfl
  have HX1 : Hid (BoxAt (w.alloc (.cells #[.int .i64 f, .int .i64 g] 24)) w.heap.size f g) := BoxAt.new w f g _
  have HB1 : Hid (Below w.heap.size w (w.alloc (.cells #[.int .i64 f, .int .i64 g] 24))) := (Below.refl _ _).alloc (Nat.le_refl _) _
  rcases hy : setOkB t s with _ | _
  · have HY := Lib.hid hy
    rw [show holdsInB t s f g = false by rw [holdsIn_eq, hy]; rfl]
    clear hy
    go_enter Tryd.func8, Tryd.ntmps8
    go_wp2_with fail
    refine (sSetOk_is HY _).mono ?_
    rintro e w' ⟨rfl, rfl⟩
    go_wp2_with fail
    go_ret
    exact ⟨rfl, HB1.out⟩
  · have HY := Lib.hid hy
    obtain ⟨h1, h3, hs0, _, hs256⟩ := setOkB_lt hy
    rcases hx : bondOkB t f g with _ | _
    · have HX := Lib.hid hx
      rw [show holdsInB t s f g = false by rw [holdsIn_eq, hx, Bool.and_false]; rfl]
      clear hy hx
      go_enter Tryd.func8, Tryd.ntmps8
      go_wp2_with fail
      refine (sSetOk_is HY _).mono ?_
      rintro e w' ⟨rfl, rfl⟩
      go_wp2_with fail
      refine (sBondOk_is HX _).mono ?_
      rintro e w1 ⟨rfl, hb⟩
      have HB2 := Lib.hid (bel_trans HB1.out hb)
      clear hb
      go_wp2_with fail
      go_ret
      exact ⟨rfl, HB2.out⟩
    · have HX := Lib.hid hx
      have hfo := hx
      unfold bondOkB at hfo
      rw [Bool.and_eq_true] at hfo
      obtain ⟨_, _, hf0, _, hf7⟩ := thingsOk_of hfo.1
      obtain ⟨_, _, hg0, _, hg7⟩ := thingsOk_of hfo.2
      rw [show holdsInB t s f g = pairsB t s f g by rw [holdsIn_eq, hx, hy]; rfl]
      obtain ⟨ms, rfl⟩ : ∃ m : Nat, s = m := ⟨s.toNat, by omega⟩
      have HEND : Hid (HoldsTo ms f g (nWorlds t) 0 → pairsB t ms f g = true) := pairs_end
      have HMISS : Hid (∀ v u, v < nWorlds t → u < v → (hasW (ms : Int) v && hasW (ms : Int) u && breaksB v u f g) = true → pairsB t ms f g = false) := fun v u a b c => pairs_miss a b c
      obtain ⟨res, HRES⟩ : ∃ b, Hid (pairsB t ms f g = b) := ⟨_, rfl⟩
      rw [HRES.out] at HEND HMISS ⊢
      have ht : t = 1 ∨ t = 2 ∨ t = 3 := by omega
      clear hy hx hfo h1 h3
      rcases ht with rfl | rfl | rfl
      · have HNW : Hid (nWorlds 1 = 2) := rfl
        rw [HNW.out] at HEND HMISS
        go_enter Tryd.func8, Tryd.ntmps8
        go_wp2_with fail
        refine (sSetOk_is HY _).mono ?_
        rintro e w' ⟨rfl, rfl⟩
        go_wp2_with fail
        refine (sBondOk_is HX _).mono ?_
        rintro e w1 ⟨rfl, hb⟩
        have HB2 := Lib.hid (bel_trans HB1.out hb)
        obtain ⟨hc0, hc1, _⟩ := HX1.out.below hb
        clear hb
        go_wp2_with fail
        go_loopw [7] (fun i wr => ∃ k : Nat, k ≤ 2 ∧ i = .int .i64 k ∧ Hid (HoldsTo ms f g k 0) ∧ ∃ q, wr = w1.drewN q) (fun i _ => 2 - (Go.RowKit.intOf i).toNat)
        case atStart => exact ⟨0, Nat.zero_le _, rfl, HoldsTo.start _ f g, 0, rfl⟩
        case round =>
          obtain ⟨k, hk, rfl, hso, q, rfl⟩ := hrel
          by_cases hlt : k < 2
          · go_wp2_with fail
            go_loopw [8] (fun i wi => ∃ j : Nat, j ≤ k ∧ i = .int .i64 j ∧ Hid (HoldsTo ms f g k j) ∧ ∃ q, wi = w1.drewN q) (fun i _ => k - (Go.RowKit.intOf i).toNat)
            case atStart => exact ⟨0, Nat.zero_le _, rfl, hso, q, rfl⟩
            case round =>
              obtain ⟨j, hj, rfl, hsoi, q2, rfl⟩ := hrel
              by_cases hjt : j < k
              · obtain ⟨x1, H1⟩ : ∃ b, Hid (hasW (ms : Int) k = b) := ⟨_, rfl⟩
                obtain ⟨x2, H2⟩ : ∃ b, Hid (hasW (ms : Int) j = b) := ⟨_, rfl⟩
                obtain ⟨x3, H3⟩ : ∃ b, Hid (agreeB f k j = b) := ⟨_, rfl⟩
                obtain ⟨x4, H4⟩ : ∃ b, Hid (agreeB g k j = b) := ⟨_, rfl⟩
                have hw1 := has_one H1.out
                have hw2 := has_one H2.out
                have HBR : Hid ((hasW (ms : Int) k && hasW (ms : Int) j && breaksB k j f g) = (x1 && x2 && (x3 && !x4))) := by unfold Hid breaksB; rw [H1.out, H2.out, H3.out, H4.out]
                have hq3 : (andI (k : Int) f == andI (j : Int) f) = x3 := and_same.trans H3.out
                have hq4 : (andI (k : Int) g != andI (j : Int) g) = !x4 := by rw [bne, and_same.trans H4.out]
                obtain ⟨af, HAF⟩ : ∃ n, Hid (andI (k : Int) f = n) := ⟨_, rfl⟩
                obtain ⟨bf, HBF⟩ : ∃ n, Hid (andI (j : Int) f = n) := ⟨_, rfl⟩
                obtain ⟨ag, HAG⟩ : ∃ n, Hid (andI (k : Int) g = n) := ⟨_, rfl⟩
                obtain ⟨bg, HBG⟩ : ∃ n, Hid (andI (j : Int) g = n) := ⟨_, rfl⟩
                rw [HAF.out, HBF.out] at hq3
                rw [HAG.out, HBG.out] at hq4
                by_cases hall : (x1 && x2 && (x3 && !x4)) = true
                · have HR : Hid (res = false) := HMISS.out k j hlt hjt (by rw [HBR.out]; exact hall)
                  have e1 : x1 = true := by revert hall; cases x1 <;> simp
                  have e2 : x2 = true := by revert hall; cases x1 <;> cases x2 <;> simp
                  have e3 : x3 = true := by revert hall; cases x1 <;> cases x2 <;> cases x3 <;> simp
                  have e4 : x4 = false := by revert hall; cases x1 <;> cases x2 <;> cases x3 <;> cases x4 <;> simp
                  subst e1 e2 e3 e4
                  clear hall
                  go_wp2_with fail
                  go_quiet (first
                    | (go_at_call 26; with_reducible exact quiet_more (sBoth5 HAF (by omega) (by omega) hf0 (by omega) _))
                    | (go_at_call 26; with_reducible exact quiet_more (sBoth5 HBF (by omega) (by omega) hf0 (by omega) _))
                    | (go_at_call 26; with_reducible exact quiet_more (sBoth5 HAG (by omega) (by omega) hg0 (by omega) _))
                    | (go_at_call 26; with_reducible exact quiet_more (sBoth5 HBG (by omega) (by omega) hg0 (by omega) _)))
                  go_wp2_with fail
                  go_ret
                  exact ⟨ret_bool HR.out.symm, by first | exact bel_drewN HB2.out _ | exact bel_drewN (bel_drewN HB2.out _) _⟩
                · have HN : Hid (HoldsTo ms f g k (j + 1)) := hsoi.out.more (by rw [HBR.out]; simpa using hall)
                  have hways : x1 = false ∨ (x1 = true ∧ x2 = false) ∨ (x1 = true ∧ x2 = true ∧ x3 = false) ∨ (x1 = true ∧ x2 = true ∧ x3 = true ∧ x4 = true) := by
                    revert hall; cases x1 <;> cases x2 <;> cases x3 <;> cases x4 <;> simp
                  clear hall
                  rcases hways with rfl | ⟨rfl, rfl⟩ | ⟨rfl, rfl, rfl⟩ | ⟨rfl, rfl, rfl, rfl⟩
                  all_goals
                    go_wp2_with fail
                    go_quiet (first
                      | (go_at_call 26; with_reducible exact quiet_more (sBoth5 HAF (by omega) (by omega) hf0 (by omega) _))
                      | (go_at_call 26; with_reducible exact quiet_more (sBoth5 HBF (by omega) (by omega) hf0 (by omega) _))
                      | (go_at_call 26; with_reducible exact quiet_more (sBoth5 HAG (by omega) (by omega) hg0 (by omega) _))
                      | (go_at_call 26; with_reducible exact quiet_more (sBoth5 HBG (by omega) (by omega) hg0 (by omega) _)))
                    go_wp2_with fail
                    go_roundw
                    case rel => exact ⟨j + 1, by omega, by go_num, HN, _, rfl⟩
                    case measure => simp [Go.RowKit.intOf]; omega
              · obtain rfl : j = k := by omega
                have HN : Hid (HoldsTo ms f g (j + 1) 0) := hsoi.out.next
                go_wp2_with fail
                go_roundw
                case rel => exact ⟨j + 1, by omega, by go_num, HN, _, rfl⟩
                case measure => simp [Go.RowKit.intOf]; omega
          · obtain rfl : k = 2 := by omega
            have HR : Hid (res = true) := HEND.out hso.out
            go_wp2_with fail
            go_ret
            exact ⟨ret_bool HR.out.symm, bel_drewN HB2.out _⟩
      · have HNW : Hid (nWorlds 2 = 4) := rfl
        rw [HNW.out] at HEND HMISS
        go_enter Tryd.func8, Tryd.ntmps8
        go_wp2_with fail
        refine (sSetOk_is HY _).mono ?_
        rintro e w' ⟨rfl, rfl⟩
        go_wp2_with fail
        refine (sBondOk_is HX _).mono ?_
        rintro e w1 ⟨rfl, hb⟩
        have HB2 := Lib.hid (bel_trans HB1.out hb)
        obtain ⟨hc0, hc1, _⟩ := HX1.out.below hb
        clear hb
        go_wp2_with fail
        go_loopw [7] (fun i wr => ∃ k : Nat, k ≤ 4 ∧ i = .int .i64 k ∧ Hid (HoldsTo ms f g k 0) ∧ ∃ q, wr = w1.drewN q) (fun i _ => 4 - (Go.RowKit.intOf i).toNat)
        case atStart => exact ⟨0, Nat.zero_le _, rfl, HoldsTo.start _ f g, 0, rfl⟩
        case round =>
          obtain ⟨k, hk, rfl, hso, q, rfl⟩ := hrel
          by_cases hlt : k < 4
          · go_wp2_with fail
            go_loopw [8] (fun i wi => ∃ j : Nat, j ≤ k ∧ i = .int .i64 j ∧ Hid (HoldsTo ms f g k j) ∧ ∃ q, wi = w1.drewN q) (fun i _ => k - (Go.RowKit.intOf i).toNat)
            case atStart => exact ⟨0, Nat.zero_le _, rfl, hso, q, rfl⟩
            case round =>
              obtain ⟨j, hj, rfl, hsoi, q2, rfl⟩ := hrel
              by_cases hjt : j < k
              · obtain ⟨x1, H1⟩ : ∃ b, Hid (hasW (ms : Int) k = b) := ⟨_, rfl⟩
                obtain ⟨x2, H2⟩ : ∃ b, Hid (hasW (ms : Int) j = b) := ⟨_, rfl⟩
                obtain ⟨x3, H3⟩ : ∃ b, Hid (agreeB f k j = b) := ⟨_, rfl⟩
                obtain ⟨x4, H4⟩ : ∃ b, Hid (agreeB g k j = b) := ⟨_, rfl⟩
                have hw1 := has_one H1.out
                have hw2 := has_one H2.out
                have HBR : Hid ((hasW (ms : Int) k && hasW (ms : Int) j && breaksB k j f g) = (x1 && x2 && (x3 && !x4))) := by unfold Hid breaksB; rw [H1.out, H2.out, H3.out, H4.out]
                have hq3 : (andI (k : Int) f == andI (j : Int) f) = x3 := and_same.trans H3.out
                have hq4 : (andI (k : Int) g != andI (j : Int) g) = !x4 := by rw [bne, and_same.trans H4.out]
                obtain ⟨af, HAF⟩ : ∃ n, Hid (andI (k : Int) f = n) := ⟨_, rfl⟩
                obtain ⟨bf, HBF⟩ : ∃ n, Hid (andI (j : Int) f = n) := ⟨_, rfl⟩
                obtain ⟨ag, HAG⟩ : ∃ n, Hid (andI (k : Int) g = n) := ⟨_, rfl⟩
                obtain ⟨bg, HBG⟩ : ∃ n, Hid (andI (j : Int) g = n) := ⟨_, rfl⟩
                rw [HAF.out, HBF.out] at hq3
                rw [HAG.out, HBG.out] at hq4
                by_cases hall : (x1 && x2 && (x3 && !x4)) = true
                · have HR : Hid (res = false) := HMISS.out k j hlt hjt (by rw [HBR.out]; exact hall)
                  have e1 : x1 = true := by revert hall; cases x1 <;> simp
                  have e2 : x2 = true := by revert hall; cases x1 <;> cases x2 <;> simp
                  have e3 : x3 = true := by revert hall; cases x1 <;> cases x2 <;> cases x3 <;> simp
                  have e4 : x4 = false := by revert hall; cases x1 <;> cases x2 <;> cases x3 <;> cases x4 <;> simp
                  subst e1 e2 e3 e4
                  clear hall
                  go_wp2_with fail
                  go_quiet (first
                    | (go_at_call 26; with_reducible exact quiet_more (sBoth5 HAF (by omega) (by omega) hf0 (by omega) _))
                    | (go_at_call 26; with_reducible exact quiet_more (sBoth5 HBF (by omega) (by omega) hf0 (by omega) _))
                    | (go_at_call 26; with_reducible exact quiet_more (sBoth5 HAG (by omega) (by omega) hg0 (by omega) _))
                    | (go_at_call 26; with_reducible exact quiet_more (sBoth5 HBG (by omega) (by omega) hg0 (by omega) _)))
                  go_wp2_with fail
                  go_ret
                  exact ⟨ret_bool HR.out.symm, by first | exact bel_drewN HB2.out _ | exact bel_drewN (bel_drewN HB2.out _) _⟩
                · have HN : Hid (HoldsTo ms f g k (j + 1)) := hsoi.out.more (by rw [HBR.out]; simpa using hall)
                  have hways : x1 = false ∨ (x1 = true ∧ x2 = false) ∨ (x1 = true ∧ x2 = true ∧ x3 = false) ∨ (x1 = true ∧ x2 = true ∧ x3 = true ∧ x4 = true) := by
                    revert hall; cases x1 <;> cases x2 <;> cases x3 <;> cases x4 <;> simp
                  clear hall
                  rcases hways with rfl | ⟨rfl, rfl⟩ | ⟨rfl, rfl, rfl⟩ | ⟨rfl, rfl, rfl, rfl⟩
                  all_goals
                    go_wp2_with fail
                    go_quiet (first
                      | (go_at_call 26; with_reducible exact quiet_more (sBoth5 HAF (by omega) (by omega) hf0 (by omega) _))
                      | (go_at_call 26; with_reducible exact quiet_more (sBoth5 HBF (by omega) (by omega) hf0 (by omega) _))
                      | (go_at_call 26; with_reducible exact quiet_more (sBoth5 HAG (by omega) (by omega) hg0 (by omega) _))
                      | (go_at_call 26; with_reducible exact quiet_more (sBoth5 HBG (by omega) (by omega) hg0 (by omega) _)))
                    go_wp2_with fail
                    go_roundw
                    case rel => exact ⟨j + 1, by omega, by go_num, HN, _, rfl⟩
                    case measure => simp [Go.RowKit.intOf]; omega
              · obtain rfl : j = k := by omega
                have HN : Hid (HoldsTo ms f g (j + 1) 0) := hsoi.out.next
                go_wp2_with fail
                go_roundw
                case rel => exact ⟨j + 1, by omega, by go_num, HN, _, rfl⟩
                case measure => simp [Go.RowKit.intOf]; omega
          · obtain rfl : k = 4 := by omega
            have HR : Hid (res = true) := HEND.out hso.out
            go_wp2_with fail
            go_ret
            exact ⟨ret_bool HR.out.symm, bel_drewN HB2.out _⟩
      · have HNW : Hid (nWorlds 3 = 8) := rfl
        rw [HNW.out] at HEND HMISS
        go_enter Tryd.func8, Tryd.ntmps8
        go_wp2_with fail
        refine (sSetOk_is HY _).mono ?_
        rintro e w' ⟨rfl, rfl⟩
        go_wp2_with fail
        refine (sBondOk_is HX _).mono ?_
        rintro e w1 ⟨rfl, hb⟩
        have HB2 := Lib.hid (bel_trans HB1.out hb)
        obtain ⟨hc0, hc1, _⟩ := HX1.out.below hb
        clear hb
        go_wp2_with fail
        go_loopw [7] (fun i wr => ∃ k : Nat, k ≤ 8 ∧ i = .int .i64 k ∧ Hid (HoldsTo ms f g k 0) ∧ ∃ q, wr = w1.drewN q) (fun i _ => 8 - (Go.RowKit.intOf i).toNat)
        case atStart => exact ⟨0, Nat.zero_le _, rfl, HoldsTo.start _ f g, 0, rfl⟩
        case round =>
          obtain ⟨k, hk, rfl, hso, q, rfl⟩ := hrel
          by_cases hlt : k < 8
          · go_wp2_with fail
            go_loopw [8] (fun i wi => ∃ j : Nat, j ≤ k ∧ i = .int .i64 j ∧ Hid (HoldsTo ms f g k j) ∧ ∃ q, wi = w1.drewN q) (fun i _ => k - (Go.RowKit.intOf i).toNat)
            case atStart => exact ⟨0, Nat.zero_le _, rfl, hso, q, rfl⟩
            case round =>
              obtain ⟨j, hj, rfl, hsoi, q2, rfl⟩ := hrel
              by_cases hjt : j < k
              · obtain ⟨x1, H1⟩ : ∃ b, Hid (hasW (ms : Int) k = b) := ⟨_, rfl⟩
                obtain ⟨x2, H2⟩ : ∃ b, Hid (hasW (ms : Int) j = b) := ⟨_, rfl⟩
                obtain ⟨x3, H3⟩ : ∃ b, Hid (agreeB f k j = b) := ⟨_, rfl⟩
                obtain ⟨x4, H4⟩ : ∃ b, Hid (agreeB g k j = b) := ⟨_, rfl⟩
                have hw1 := has_one H1.out
                have hw2 := has_one H2.out
                have HBR : Hid ((hasW (ms : Int) k && hasW (ms : Int) j && breaksB k j f g) = (x1 && x2 && (x3 && !x4))) := by unfold Hid breaksB; rw [H1.out, H2.out, H3.out, H4.out]
                have hq3 : (andI (k : Int) f == andI (j : Int) f) = x3 := and_same.trans H3.out
                have hq4 : (andI (k : Int) g != andI (j : Int) g) = !x4 := by rw [bne, and_same.trans H4.out]
                obtain ⟨af, HAF⟩ : ∃ n, Hid (andI (k : Int) f = n) := ⟨_, rfl⟩
                obtain ⟨bf, HBF⟩ : ∃ n, Hid (andI (j : Int) f = n) := ⟨_, rfl⟩
                obtain ⟨ag, HAG⟩ : ∃ n, Hid (andI (k : Int) g = n) := ⟨_, rfl⟩
                obtain ⟨bg, HBG⟩ : ∃ n, Hid (andI (j : Int) g = n) := ⟨_, rfl⟩
                rw [HAF.out, HBF.out] at hq3
                rw [HAG.out, HBG.out] at hq4
                by_cases hall : (x1 && x2 && (x3 && !x4)) = true
                · have HR : Hid (res = false) := HMISS.out k j hlt hjt (by rw [HBR.out]; exact hall)
                  have e1 : x1 = true := by revert hall; cases x1 <;> simp
                  have e2 : x2 = true := by revert hall; cases x1 <;> cases x2 <;> simp
                  have e3 : x3 = true := by revert hall; cases x1 <;> cases x2 <;> cases x3 <;> simp
                  have e4 : x4 = false := by revert hall; cases x1 <;> cases x2 <;> cases x3 <;> cases x4 <;> simp
                  subst e1 e2 e3 e4
                  clear hall
                  go_wp2_with fail
                  go_quiet (first
                    | (go_at_call 26; with_reducible exact quiet_more (sBoth5 HAF (by omega) (by omega) hf0 (by omega) _))
                    | (go_at_call 26; with_reducible exact quiet_more (sBoth5 HBF (by omega) (by omega) hf0 (by omega) _))
                    | (go_at_call 26; with_reducible exact quiet_more (sBoth5 HAG (by omega) (by omega) hg0 (by omega) _))
                    | (go_at_call 26; with_reducible exact quiet_more (sBoth5 HBG (by omega) (by omega) hg0 (by omega) _)))
                  go_wp2_with fail
                  go_ret
                  exact ⟨ret_bool HR.out.symm, by first | exact bel_drewN HB2.out _ | exact bel_drewN (bel_drewN HB2.out _) _⟩
                · have HN : Hid (HoldsTo ms f g k (j + 1)) := hsoi.out.more (by rw [HBR.out]; simpa using hall)
                  have hways : x1 = false ∨ (x1 = true ∧ x2 = false) ∨ (x1 = true ∧ x2 = true ∧ x3 = false) ∨ (x1 = true ∧ x2 = true ∧ x3 = true ∧ x4 = true) := by
                    revert hall; cases x1 <;> cases x2 <;> cases x3 <;> cases x4 <;> simp
                  clear hall
                  rcases hways with rfl | ⟨rfl, rfl⟩ | ⟨rfl, rfl, rfl⟩ | ⟨rfl, rfl, rfl, rfl⟩
                  all_goals
                    go_wp2_with fail
                    go_quiet (first
                      | (go_at_call 26; with_reducible exact quiet_more (sBoth5 HAF (by omega) (by omega) hf0 (by omega) _))
                      | (go_at_call 26; with_reducible exact quiet_more (sBoth5 HBF (by omega) (by omega) hf0 (by omega) _))
                      | (go_at_call 26; with_reducible exact quiet_more (sBoth5 HAG (by omega) (by omega) hg0 (by omega) _))
                      | (go_at_call 26; with_reducible exact quiet_more (sBoth5 HBG (by omega) (by omega) hg0 (by omega) _)))
                    go_wp2_with fail
                    go_roundw
                    case rel => exact ⟨j + 1, by omega, by go_num, HN, _, rfl⟩
                    case measure => simp [Go.RowKit.intOf]; omega
              · obtain rfl : j = k := by omega
                have HN : Hid (HoldsTo ms f g (j + 1) 0) := hsoi.out.next
                go_wp2_with fail
                go_roundw
                case rel => exact ⟨j + 1, by omega, by go_num, HN, _, rfl⟩
                case measure => simp [Go.RowKit.intOf]; omega
          · obtain rfl : k = 8 := by omega
            have HR : Hid (res = true) := HEND.out hso.out
            go_wp2_with fail
            go_ret
            exact ⟨ret_bool HR.out.symm, bel_drewN HB2.out _⟩
theorem sHoldsIn_is {t s f g : Int} {b : Bool} (h : Hid (holdsInB t s f g = b)) (w : World) : Calls Tryd.prog 8 #[.int .i64 t, .int .i64 s, .agg #[.int .i64 f, .int .i64 g]] w (BPost b w) := by
  have := sHoldsIn t s f g w
  rw [h.out] at this; exact this
end Go.Proofs.YtannpnhboeopdaaDoor

namespace Go.Proofs.YtannpnhboeopdaaDoor
open Go.RowKit

/-- The slice at A reads as the dependences ds. -/
def Bonds (w : World) (A : Option Addr) (ds : List (Int × Int)) : Prop :=
  0 < ds.length → ∃ b off, A = some ⟨b, off, none⟩ ∧ b < w.heap.size ∧ ∀ (i : Nat) (d : Int × Int), ds[i]? = some d → w.cell? ⟨b, off + i * 2, none⟩ = some (.int .i64 d.1) ∧ w.cell? ⟨b, off + i * 2 + 1, none⟩ = some (.int .i64 d.2)
theorem Bonds.below {w w' : World} {A : Option Addr} {ds : List (Int × Int)} (h : Bonds w A ds) (hb : Below w.heap.size w w') : Bonds w' A ds := by
  intro hn
  obtain ⟨b, off, rfl, hlt, hc⟩ := h hn
  have := hb.size
  refine ⟨b, off, rfl, by omega, fun i d hd => ?_⟩
  obtain ⟨h1, h2⟩ := hc i d hd
  exact ⟨(hb.cell (p := ⟨b, off + i * 2, none⟩) hlt).trans h1, (hb.cell (p := ⟨b, off + i * 2 + 1, none⟩) hlt).trans h2⟩
structure BRow (w : World) (A : Option Addr) (n c : Nat) (ds : List (Int × Int)) : Prop where
  hn : n = ds.length
  hl : n ≤ 1048576
  hc : n ≤ c
  hm : c ≤ maxLen
  hA : Bonds w A ds
theorem BRow.below {w w' : World} {A : Option Addr} {n c : Nat} {ds : List (Int × Int)} (h : BRow w A n c ds) (hb : Below w.heap.size w w') : BRow w' A n c ds := ⟨h.hn, h.hl, h.hc, h.hm, h.hA.below hb⟩
theorem BRow.drewN {w : World} {A : Option Addr} {n c : Nat} {ds : List (Int × Int)} (h : BRow w A n c ds) (m : Nat) : BRow (w.drewN m) A n c ds := ⟨h.hn, h.hl, h.hc, h.hm, h.hA⟩
theorem Bonds.elem {w : World} {A : Option Addr} {ds : List (Int × Int)} (h : Bonds w A ds) {i : Nat} (hi : i < ds.length) :
    ∃ b off f g, A = some ⟨b, off, none⟩ ∧ w.cell? ⟨b, off + i * 2, none⟩ = some (.int .i64 f) ∧ w.cell? ⟨b, off + i * 2 + 1, none⟩ = some (.int .i64 g) ∧ Hid (ds[i]? = some (f, g)) ∧ Hid (b < w.heap.size) := by
  obtain ⟨b, off, rfl, hlt, hc⟩ := h (by omega)
  obtain ⟨d, hd⟩ : ∃ d, ds[i]? = some d := ⟨_, List.getElem?_eq_getElem hi⟩
  obtain ⟨h1, h2⟩ := hc i d hd
  exact ⟨b, off, d.1, d.2, rfl, h1, h2, hd, hlt⟩
theorem takeP_snoc {ds : List (Int × Int)} {i : Nat} {d : Int × Int} (h : Hid (ds[i]? = some d)) : ds.take (i + 1) = ds.take i ++ [d] := by
  obtain ⟨hlt, he⟩ := List.getElem?_eq_some_iff.1 h.out
  rw [List.take_succ_eq_append_getElem hlt, he]
def bondsOkB (t : Int) (ds : List (Int × Int)) : Bool := decide (ds.length ≤ 8) && ds.all fun d => bondOkB t d.1 d.2
theorem allP_snoc {ds : List (Int × Int)} {i : Nat} {f g t : Int} (h : Hid (ds[i]? = some (f, g))) : ((ds.take (i + 1)).all fun d => bondOkB t d.1 d.2) = (((ds.take i).all fun d => bondOkB t d.1 d.2) && bondOkB t f g) := by
  rw [takeP_snoc h, List.all_append]; simp
theorem allP_miss {ds : List (Int × Int)} {i : Nat} {f g t : Int} (h : Hid (ds[i]? = some (f, g))) (hb : bondOkB t f g = false) : bondsOkB t ds = false := by
  unfold bondsOkB
  rw [Bool.and_eq_false_iff]
  right
  rw [List.all_eq_false]
  exact ⟨(f, g), List.mem_of_getElem? h.out, by simp [hb]⟩
theorem two_set (w : World) (T : TypeId) (a b c d : Value) (fr : Nat × Nat) : ((w.alloc (.cells #[a, b] T fr)).setCell ⟨w.heap.size, 0, none⟩ c).setCell ⟨w.heap.size, 1, none⟩ d = w.alloc (.cells #[c, d] T fr) := by
  simp only [World.setCell, World.alloc]
  congr 1
  apply Array.ext_getElem?
  intro i
  rw [Array.getElem?_modify, Array.getElem?_modify]
  by_cases h : w.heap.size = i
  · subst h; simp
  · have h' : ¬ i = w.heap.size := fun e => h e.symm
    simp [h, h', Array.getElem?_push]

end Go.Proofs.YtannpnhboeopdaaDoor

namespace Go.Proofs.YtannpnhboeopdaaDoor
open Go.RowKit

/-- The cells of a list of dependences, one behind the other. -/
def flatP (ds : List (Int × Int)) : List Value := ds.flatMap fun d => [.int .i64 d.1, .int .i64 d.2]
theorem flatP_cons (d : Int × Int) (ds : List (Int × Int)) : flatP (d :: ds) = .int .i64 d.1 :: .int .i64 d.2 :: flatP ds := rfl
theorem flatP_snoc (ds : List (Int × Int)) (d : Int × Int) : flatP (ds ++ [d]) = flatP ds ++ [.int .i64 d.1, .int .i64 d.2] := by
  unfold flatP; rw [List.flatMap_append]; rfl
theorem flatP_len : ∀ ds : List (Int × Int), (flatP ds).length = ds.length * 2
  | [] => rfl
  | d :: ds => by rw [flatP_cons, List.length_cons, List.length_cons, flatP_len ds, List.length_cons]; omega
theorem flatP_at : ∀ {ds : List (Int × Int)} {i : Nat} {d : Int × Int}, ds[i]? = some d → (flatP ds)[i * 2]? = some (.int .i64 d.1) ∧ (flatP ds)[i * 2 + 1]? = some (.int .i64 d.2)
  | [], i, d, h => by simp at h
  | x :: ds, 0, d, h => by
    rw [List.getElem?_cons_zero] at h
    cases h
    exact ⟨rfl, rfl⟩
  | x :: ds, i + 1, d, h => by
    rw [List.getElem?_cons_succ] at h
    obtain ⟨h1, h2⟩ := flatP_at h
    rw [flatP_cons, show (i + 1) * 2 = i * 2 + 1 + 1 by omega]
    simp only [List.getElem?_cons_succ]
    exact ⟨h1, h2⟩
theorem bond_info : (Tryd.prog.info? 24).map (fun i => (i.zero, i.size, i.bytes)) = some (some (.agg #[.int .i64 0, .int .i64 0]), 2, 16) := by kernel_rfl
/-- A slice of the call's own: the value v, from block 'base' on, holds the dependences ds. -/
def OwnsP (w : World) (base : Nat) (v : Value) (ds : List (Int × Int)) : Prop := w.ownsRow base 24 2 v ds.length (flatP ds)
theorem OwnsP.form {w : World} {base : Nat} {v : Value} {ds : List (Int × Int)} (h : OwnsP w base v ds) :
    ∃ A c, v = .slice A ds.length c ∧ ds.length ≤ c ∧ c ≤ maxLen ∧ Bonds w A ds ∧ (∀ ad, A = some ad → base ≤ ad.block ∧ ad.block < w.heap.size) := by
  have hcells := fun g => World.ownsRow.cells h (g := g)
  rcases h.2 with ⟨rfl, hl⟩ | ⟨g, cap, cur, rfl, hb, hg, hn, hm, _, _⟩
  · exact ⟨none, 0, by rw [hl], by omega, by simp [maxLen], fun hp => absurd hp (by omega), fun ad h => by cases h⟩
  · have hlt : g < w.heap.size := (Array.getElem?_eq_some_iff.1 hg).1
    refine ⟨some ⟨g, 0, none⟩, cap, rfl, hn, hm, fun hp => ⟨g, 0, rfl, hlt, fun i d hd => ?_⟩, fun ad h => by cases h; exact ⟨hb, hlt⟩⟩
    obtain ⟨h1, h2⟩ := flatP_at hd
    have e1 : (⟨g, 0, none⟩ : Addr).add (i * 2) = ⟨g, 0 + i * 2, none⟩ := by unfold Addr.add; split <;> simp_all
    have e2 : (⟨g, 0, none⟩ : Addr).add (i * 2 + 1) = ⟨g, 0 + i * 2 + 1, none⟩ := by unfold Addr.add; split <;> simp_all; try omega
    have h1 := hcells g rfl _ _ h1
    have h2 := hcells g rfl _ _ h2
    rw [e1] at h1
    rw [e2] at h2
    exact ⟨h1, h2⟩
theorem OwnsP.row {w : World} {base : Nat} {A : Option Addr} {n c : Nat} {ds : List (Int × Int)} (h : OwnsP w base (.slice A n c) ds) (hl : ds.length ≤ 1048576) : BRow w A n c ds := by
  obtain ⟨A', c', e, hc, hm, hn, _⟩ := h.form
  simp only [Value.slice.injEq] at e
  obtain ⟨rfl, rfl, rfl⟩ := e
  exact ⟨rfl, hl, hc, hm, hn⟩
theorem OwnsP.below {w w' : World} {base : Nat} {v : Value} {ds : List (Int × Int)} (h : OwnsP w base v ds) (hb : Below w.heap.size w w') : OwnsP w' base v ds :=
  World.ownsRow.kept (row := none) h ⟨hb.os, hb.tape, hb.output, hb.size, fun k hk _ => hb.block k hk⟩ (by cases v.ownBlock <;> simp)
theorem OwnsP.base {w : World} {base base' : Nat} {v : Value} {ds : List (Int × Int)} (h : OwnsP w base v ds) (hb : base' ≤ base) : OwnsP w base' v ds := by
  refine ⟨h.1, ?_⟩
  rcases h.2 with h | ⟨g, cap, cur, h1, h2, h3⟩
  · exact .inl h
  · exact .inr ⟨g, cap, cur, h1, by omega, h3⟩
theorem OwnsP.nil (w : World) (base : Nat) : OwnsP w base (.slice none 0 0) [] := World.ownsRow_nil w base _ 2
theorem OwnsP.lit0 (w : World) (base : Nat) (hb : base ≤ w.heap.size) : OwnsP (w.alloc (.cells #[] 24)) base (.slice (some ⟨w.heap.size, 0, none⟩) 0 0) [] := by
  have h := World.ownsRow_lit (base := base) (e := 24) (size := 2) w #[] 0 hb (by simp [maxLen]) (by simp)
  simpa [OwnsP, flatP] using h
theorem below_appendP {B : Nat} {a W w' : World} {base : Nat} {v : Value} {ds : List (Int × Int)} {o : Obj} (h : Below B a W) (hB : B ≤ W.heap.size) (hown : OwnsP W base v ds) (hbase : B ≤ base) (hg : (W.alloc o).grownBy w' v.ownBlock) : Below B a w' :=
  (h.alloc hB o).grown hg (by simp; omega) fun k e => by have := (World.ownsRow.lt hown k e).1; omega
end Go.Proofs.YtannpnhboeopdaaDoor

namespace Go.Proofs.YtannpnhboeopdaaDoor

def askTxt (f : Int) : ByteArray :=
  if f = 1 then ⟨#[63, 97]⟩ else if f = 2 then ⟨#[63, 98]⟩ else if f = 3 then ⟨#[40, 63, 97, 38, 63, 98, 41]⟩ else if f = 4 then ⟨#[63, 99]⟩
  else if f = 5 then ⟨#[40, 63, 97, 38, 63, 99, 41]⟩ else if f = 6 then ⟨#[40, 63, 98, 38, 63, 99, 41]⟩ else if f = 7 then ⟨#[40, 63, 97, 38, 40, 63, 98, 38, 63, 99, 41, 41]⟩ else ⟨#[49]⟩
def bondTxt (t f g : Int) : ByteArray := if bondOkB t f g = true then ⟨#[40]⟩ ++ askTxt f ++ ⟨#[62]⟩ ++ askTxt g ++ ⟨#[41]⟩ else ⟨#[]⟩
theorem askTxt_text : ∀ t : Fin 4, ∀ f : Fin 8, 1 ≤ t.val → (f.val : Int) ≤ topT (t.val : Int) → bytesN (askTxt (f.val : Int)) = textS (askSen (t.val : Int) (f.val : Int)) ∧ (askTxt (f.val : Int)).size ≤ 12 := by decide +kernel
theorem ask_text {t f : Int} (h : thingsOk t f = true) : bytesN (askTxt f) = textS (askSen t f) ∧ (askTxt f).size ≤ 12 := by
  obtain ⟨h1, h3, h0, h7, h8⟩ := thingsOk_of h
  have := askTxt_text ⟨t.toNat, by omega⟩ ⟨f.toNat, by omega⟩ (by show 1 ≤ t.toNat; omega)
  simp only [Int.toNat_of_nonneg (show 0 ≤ t by omega), Int.toNat_of_nonneg h0] at this
  exact this h7
theorem bondTxt_size (t f g : Int) : (bondTxt t f g).size ≤ 60 := by
  unfold bondTxt
  split
  · rename_i h
    unfold bondOkB at h
    rw [Bool.and_eq_true] at h
    have h1 := (ask_text h.1).2
    have h2 := (ask_text h.2).2
    simp only [ByteArray.size_append]
    show 1 + _ + 1 + _ + 1 ≤ 60
    omega
  · exact Nat.zero_le _
theorem bondTxt_sen {t f g : Int} (h : bondOkB t f g = true) : senT t (bondTxt t f g) = some (bondSen t f g) := by
  have hh := h
  unfold bondOkB at hh
  rw [Bool.and_eq_true] at hh
  obtain ⟨h1, h3, _⟩ := thingsOk_of hh.1
  refine senT_of h1 h3 (bondTxt_size _ _ _) (bondSen_ok h1) ?_
  unfold bondTxt
  rw [if_pos h]
  simp only [bytesN_append, (ask_text hh.1).1, (ask_text hh.2).1]
  show [40] ++ textS (askSen t f) ++ [62] ++ textS (askSen t g) ++ [41] = 40 :: (textS (askSen t f) ++ 62 :: (textS (askSen t g) ++ [41]))
  simp
theorem bondTxt_none {t f g : Int} (h : bondOkB t f g = false) : bondTxt t f g = ⟨#[]⟩ := by unfold bondTxt; rw [if_neg (by rw [h]; simp)]
theorem bondTxt_some {t f g : Int} (h : bondOkB t f g = true) : bondTxt t f g = ⟨#[40]⟩ ++ askTxt f ++ ⟨#[62]⟩ ++ askTxt g ++ ⟨#[41]⟩ := by unfold bondTxt; rw [if_pos h]
theorem bondTxt_empty {t f g : Int} : (bondTxt t f g = ⟨#[]⟩) ↔ bondOkB t f g = false := by
  constructor
  · intro e
    cases h : bondOkB t f g
    · rfl
    · have := congrArg ByteArray.size e
      rw [bondTxt_some h] at this
      simp only [ByteArray.size_append] at this
      exact absurd this (by show ¬ (1 + _ + 1 + _ + 1 = 0); omega)
  · exact bondTxt_none
/-- The law of HoldsIn: a dependence holds exactly where its sentence is supported. -/
theorem law_bond_supports {t s f g : Int} (hs : setOkB t s = true) (hb : bondOkB t f g = true) : supportsT t s (bondTxt t f g) = holdsInB t s f g := by
  unfold supportsT
  rw [bondTxt_sen hb]
  simp only [hs, Bool.true_and]
  exact law_holdsIn hs hb
/-- The law of BondText: the sentence grants everything. -/
theorem law_bondText {t f g : Int} (hb : bondOkB t f g = true) : isT t (bondTxt t f g) = true ∧ grantedI t (issueT t (bondTxt t f g)) = allOf t := by
  have h := bondTxt_sen hb
  obtain ⟨e1, e2⟩ := issueT_some h
  refine ⟨e2, ?_⟩
  have ho : issueOkB t (issueT t (bondTxt t f g)) = true := issueT_ok h
  unfold grantedI
  rw [if_pos ho, e1]
  exact law_bond_all hb
end Go.Proofs.YtannpnhboeopdaaDoor
