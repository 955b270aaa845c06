/-
  What the proofs of this seat's statements share (Spd, Drs).
-/
import Derived.Test.YtmdogidflaplkaaU16

namespace Go.Proofs.Ytmdogidflaplkaa
open Go.RowKit

theorem senT_bad {t : Int} {s : ByteArray} (h : t < 1 ∨ 3 < t ∨ 60 < s.size) : senT t s = none := by
  unfold senT senOf; rw [if_neg (by rw [bytesN_len]; omega)]
theorem senT_none {t : Int} {s : ByteArray} (h1 : 1 ≤ t) (h3 : t ≤ 3) (hl : s.size ≤ 60) (h : readS t s.size (bytesN s) = none) : senT t s = none :=
  senOf_none h1 h3 (by rw [bytesN_len]; exact hl) (by rw [bytesN_len]; exact h)
theorem senT_more {t : Int} {s : ByteArray} {x : Sen} {c : Nat} {r : List Nat} (h1 : 1 ≤ t) (h3 : t ≤ 3) (hl : s.size ≤ 60) (h : readS t s.size (bytesN s) = some (x, c :: r)) : senT t s = none :=
  senOf_more h1 h3 (by rw [bytesN_len]; exact hl) (by rw [bytesN_len]; exact h)
theorem senT_some {t : Int} {s : ByteArray} {x : Sen} (h1 : 1 ≤ t) (h3 : t ≤ 3) (hl : s.size ≤ 60) (h : readS t s.size (bytesN s) = some (x, [])) : senT t s = some x :=
  senOf_some h1 h3 (by rw [bytesN_len]; exact hl) (by rw [bytesN_len]; exact h)
theorem read_of_sen {t : Int} {s : ByteArray} {x : Sen} (h : senT t s = some x) : readS t s.size (bytesN s) = some (x, []) := by
  obtain ⟨h1, h3, hl, hok, ht⟩ := senT_ok h
  rcases hr : readS t s.size (bytesN s) with _ | ⟨y, _ | ⟨c, r⟩⟩
  · rw [senT_none h1 h3 hl hr] at h; cases h
  · rw [senT_some h1 h3 hl hr] at h; cases h; rfl
  · rw [senT_more h1 h3 hl hr] at h; cases h
theorem sRead_some {t : Int} {s : ByteArray} {x : Sen} (h : senT t s = some x) (w : World) : Calls Try.prog 59 #[.int .i64 t, .string s, .int .i64 0] w (SSome t s x [] w) := by
  obtain ⟨h1, h3, hl, hok, ht⟩ := senT_ok h
  have := sReads t s (by omega) h1 h3 s.size 0 w (by omega) (by omega)
  rw [List.drop_zero, read_of_sen h] at this
  exact this
theorem sHolds_some {t : Int} {s : ByteArray} {x : Sen} (h : senT t s = some x) (m : Nat) (hm : (m : Int) ≤ allOf t) (w : World) : Calls Try.prog 71 #[.int .i64 t, .string s, .int .i64 0, .int .i64 m] w (SHold t s x [] m w) := by
  obtain ⟨h1, h3, hl, hok, ht⟩ := senT_ok h
  exact sHolds t s (by omega) h1 h3 s.size 0 x [] (by rw [List.drop_zero]; exact read_of_sen h) m w hm

set_option maxRecDepth 100000 in
set_option maxHeartbeats 4000000 in
theorem sSentence (t : Int) (s : ByteArray) (w : World) (hs : s.size ≤ 9223372036854775807) :
    Calls Try.prog 44 #[.int .i64 t, .string s] w fun e w' => e = .returned (.bool (isT t s)) ∧ Below w.heap.size w w' := by
  have hnot : ∀ (x : Bool) (w : World), (Op.unary .not (.bool x)).run Try.prog w = .ok (.bool (!x)) w := fun _ _ => rfl
  by_cases ht : t < 1 ∨ 3 < t
  · rw [show isT t s = false by unfold isT; rw [senT_bad (by omega)]; rfl]
    go_enter Try.func44, Try.ntmps44
    go_wp2_with fail
    refine (sIn_no _ _ _ _ ht).mono ?_
    rintro e w' ⟨rfl, rfl⟩
    go_wp2_with fail
    go_ret
    exact ⟨rfl, Below.refl _ _⟩
  by_cases hl : 60 < s.size
  · rw [show isT t s = false by unfold isT; rw [senT_bad (by omega)]; rfl]
    have hd : decide ((60 : Int) < (s.size : Int)) = true := decide_eq_true (by omega)
    go_enter Try.func44, Try.ntmps44
    go_wp2_with fail
    refine (sIn_yes _ _ _ _ (by omega) (by omega)).mono ?_
    rintro e w' ⟨rfl, rfl⟩
    go_wp2_with fail
    go_ret
    exact ⟨rfl, Below.refl _ _⟩
  have h1 : 1 ≤ t := by omega
  have h3 : t ≤ 3 := by omega
  have hd : decide ((60 : Int) < (s.size : Int)) = false := decide_eq_false (by omega)
  have hr := sReads t s (by omega) h1 h3 s.size 0
  rcases hrd : readS t s.size (bytesN s) with _ | ⟨x, rest⟩
  · have HI : Hid (∀ W, Calls Try.prog 59 #[.int .i64 t, .string s, .int .i64 0] W (SNone W)) := fun W => by
      have := hr W (by omega) (by omega)
      rw [List.drop_zero, hrd] at this; exact this
    rw [show isT t s = false by unfold isT; rw [senT_none h1 h3 (by omega) hrd]; rfl]
    have he : ((-1 : Int) == (s.size : Int)) = false := by rw [beq_eq_false_iff_ne]; omega
    clear hr hrd ht hl
    go_enter Try.func44, Try.ntmps44
    go_wp2_with fail
    refine (sIn_yes _ _ _ _ (by omega) (by omega)).mono ?_
    rintro e w' ⟨rfl, rfl⟩
    go_wp2_with fail
    refine (HI.out _).mono ?_
    rintro e w1 ⟨A, n, c, rfl, hb⟩
    have HB := Lib.hid hb
    clear hb
    go_wp2_with fail
    go_ret
    exact ⟨rfl, HB.out⟩
  · have HI : Hid (∀ W, Calls Try.prog 59 #[.int .i64 t, .string s, .int .i64 0] W (SSome t s x rest W)) := fun W => by
      have := hr W (by omega) (by omega)
      rw [List.drop_zero, hrd] at this; exact this
    have hv : isT t s = decide (rest = []) := by
      rcases rest with _ | ⟨c, r⟩
      · unfold isT; rw [senT_some h1 h3 (by omega) hrd]; rfl
      · unfold isT; rw [senT_more h1 h3 (by omega) hrd]; rfl
    have HV := Lib.hid hv
    clear hr hrd ht hl hv
    go_enter Try.func44, Try.ntmps44
    go_wp2_with fail
    refine (sIn_yes _ _ _ _ (by omega) (by omega)).mono ?_
    rintro e w' ⟨rfl, rfl⟩
    go_wp2_with fail
    refine (HI.out _).mono ?_
    rintro e w1 ⟨v, a2, rfl, ha2, hd2, ho, hb⟩
    obtain ⟨A1, c1, rfl, _, _, _, _⟩ := ho.form
    have HB := Lib.hid hb
    have HE : Hid (((a2 : Int) == (s.size : Int)) = isT t s) := by
      unfold Hid
      rw [HV.out, Bool.eq_iff_iff, beq_iff_eq, decide_eq_true_eq]
      constructor
      · intro h
        rw [← hd2]
        exact List.drop_eq_nil_of_le (by rw [bytesN_len]; omega)
      · intro h
        rw [h] at hd2
        have := drop_end hd2 ha2
        omega
    clear hb ho hd2
    go_wp2_with fail
    go_ret
    exact ⟨ret_bool HE.out, HB.out⟩
theorem sSentence_is {t : Int} {s : ByteArray} {b : Bool} (h : Hid (isT t s = b)) (w : World) (hs : s.size ≤ 9223372036854775807) :
    Calls Try.prog 44 #[.int .i64 t, .string s] w fun e w' => e = .returned (.bool b) ∧ Below w.heap.size w w' :=
  (sSentence t s w hs).mono fun _ _ ⟨he, hw⟩ => ⟨he.trans (ret_bool h.out), hw⟩
theorem isT_none {t : Int} {s : ByteArray} (h : senT t s = none) : isT t s = false := (issueT_none h).2
theorem isT_some {t : Int} {s : ByteArray} {x : Sen} (h : senT t s = some x) : isT t s = true := (issueT_some h).2

set_option maxRecDepth 100000 in
set_option maxHeartbeats 4000000 in
theorem sSupportsT (t k : Int) (s : ByteArray) (w : World) (hs : s.size ≤ 9223372036854775807) :
    Calls Try.prog 61 #[.int .i64 t, .int .i64 k, .string s] w fun e w' => e = .returned (.bool (supportsT t k s)) ∧ Below w.heap.size w w' := by
  have hnot : ∀ (x : Bool) (w : World), (Op.unary .not (.bool x)).run Try.prog w = .ok (.bool (!x)) w := fun _ _ => rfl
  rcases hset : setOkB t k with _ | _
  · have HS := Lib.hid hset
    rw [show supportsT t k s = false by unfold supportsT; rw [hset]; cases senT t s <;> rfl]
    clear hset
    go_enter Try.func61, Try.ntmps61
    go_wp2_with fail
    refine (sSetOk _ _ _).mono ?_
    rintro e w' ⟨rfl, rfl⟩
    rw [HS.out]
    go_wp2_with fail
    go_ret
    exact ⟨rfl, Below.refl _ _⟩
  · have HS := Lib.hid hset
    obtain ⟨_, _, hk0, hka, _⟩ := setOkB_lt hset
    rcases hx : senT t s with _ | x
    · have HT := Lib.hid (isT_none hx)
      rw [show supportsT t k s = false by unfold supportsT; rw [hx]]
      clear hset hx
      go_enter Try.func61, Try.ntmps61
      go_wp2_with fail
      refine (sSetOk _ _ _).mono ?_
      rintro e w' ⟨rfl, rfl⟩
      rw [HS.out]
      go_wp2_with fail
      refine (sSentence_is HT _ hs).mono ?_
      rintro e w1 ⟨rfl, hb⟩
      have HB := Lib.hid hb
      clear hb
      go_wp2_with fail
      go_ret
      exact ⟨rfl, HB.out⟩
    · have HX := Lib.hid hx
      have HT := Lib.hid (isT_some hx)
      rw [show supportsT t k s = holdsS t x k by unfold supportsT; rw [hx, hset]; rfl]
      obtain ⟨m, rfl⟩ : ∃ m : Nat, k = m := ⟨k.toNat, by omega⟩
      clear hset hx
      go_enter Try.func61, Try.ntmps61
      go_wp2_with fail
      refine (sSetOk _ _ _).mono ?_
      rintro e w' ⟨rfl, rfl⟩
      rw [HS.out]
      go_wp2_with fail
      refine (sSentence_is HT _ hs).mono ?_
      rintro e w1 ⟨rfl, hb⟩
      have HB := Lib.hid hb
      clear hb
      go_wp2_with fail
      refine (sHolds_some HX.out m hka _).mono ?_
      rintro e w2 ⟨a2, rfl, _, _, q, rfl⟩
      go_wp2_with fail
      go_ret
      exact ⟨rfl, bel_drewN HB.out _⟩

theorem sSupports_is {t k : Int} {s : ByteArray} {b : Bool} (h : Hid (supportsT t k s = b)) (w : World) (hs : s.size ≤ 9223372036854775807) :
    Calls Try.prog 61 #[.int .i64 t, .int .i64 k, .string s] w fun e w' => e = .returned (.bool b) ∧ Below w.heap.size w w' :=
  (sSupportsT t k s w hs).mono fun _ _ ⟨he, hw⟩ => ⟨he.trans (ret_bool h.out), hw⟩
theorem supports_world {t : Int} {s : ByteArray} {x : Sen} {k : Nat} (h : senT t s = some x) (hk : k < nWorlds t) : supportsT t ((2 ^ k : Nat) : Int) s = holdsS t x (worldS k) := by
  obtain ⟨h1, h3, _⟩ := senT_ok h
  have := world_ok h1 h3 hk
  unfold supportsT
  rw [h]
  show (setOkB t (worldS k) && _) = _
  rw [setOk_of h1 h3 this.1 this.2]; rfl
theorem true_add {t : Int} {x : Sen} {k : Nat} (h : holdsS t x (worldS k) = true) : trueTo t x k + 2 ^ k = trueTo t x (k + 1) := by
  conv => rhs; unfold trueTo
  rw [if_pos h]

set_option maxRecDepth 100000 in
set_option maxHeartbeats 8000000 in
theorem sTrueIn (t : Int) (s : ByteArray) (w : World) (hs : s.size ≤ 9223372036854775807) :
    Calls Try.prog 53 #[.int .i64 t, .string s] w fun e w' => e = .returned (.int .i64 (trueT t s)) ∧ Below w.heap.size w w' := by
  have hnot : ∀ (x : Bool) (w : World), (Op.unary .not (.bool x)).run Try.prog w = .ok (.bool (!x)) w := fun _ _ => rfl
  rcases hx : senT t s with _ | x
  · have HT := Lib.hid (isT_none hx)
    rw [show trueT t s = -1 by unfold trueT; rw [hx]]
    clear hx
    go_enter Try.func53, Try.ntmps53
    go_wp2_with fail
    refine (sSentence_is HT _ hs).mono ?_
    rintro e w1 ⟨rfl, hb⟩
    have HB := Lib.hid hb
    clear hb
    go_wp2_with fail
    go_ret
    exact ⟨rfl, HB.out⟩
  · have HT := Lib.hid (isT_some hx)
    obtain ⟨h1, h3, _⟩ := senT_ok hx
    have HF : Hid (trueT t s = (trueTo t x (nWorlds t) : Int)) := by unfold Hid trueT; rw [hx]
    have HX := Lib.hid hx
    have h : t = 1 ∨ t = 2 ∨ t = 3 := by omega
    clear hx h1 h3
    rcases h with rfl | rfl | rfl
    · go_enter Try.func53, Try.ntmps53
      go_wp2_with fail
      refine (sSentence_is HT _ hs).mono ?_
      rintro e w1 ⟨rfl, hb⟩
      have HB := Lib.hid hb
      clear hb
      go_wp2_with fail
      go_loopw [5, 6] (fun v i wr => ∃ k : Nat, k ≤ 2 ∧ i = .int .i64 k ∧ v = .int .i64 (trueTo 1 x k) ∧ Below w1.heap.size w1 wr) (fun _ i _ => 2 - (Go.RowKit.intOf i).toNat)
      case atStart => exact ⟨0, Nat.zero_le _, rfl, rfl, Below.refl _ _⟩
      case round =>
        obtain ⟨k, hk, rfl, rfl, hbr⟩ := hrel
        have HBR := Lib.hid hbr
        clear hbr
        by_cases hlt : k < 2
        · have hsup := supports_world HX.out (k := k) hlt
          have htl := trueTo_lt 1 x k (by omega)
          have hp : 2 ^ k ≤ 2 ^ 7 := Nat.pow_le_pow_right (by omega) (by omega)
          have HWP := Lib.hid (wrap_pow (k := k) (by omega))
          obtain ⟨p, HP⟩ : ∃ p : Nat, Hid (2 ^ k = p) := ⟨_, rfl⟩
          obtain ⟨tv, HTV⟩ : ∃ tv : Nat, Hid (trueTo 1 x k = tv) := ⟨_, rfl⟩
          rw [HP.out] at hsup htl hp HWP
          rw [HTV.out] at htl ⊢
          rcases hh : holdsS 1 x (worldS k) with _ | _
          · rw [hh] at hsup
            have HS := Lib.hid (true_skip hh)
            have HSU := Lib.hid hsup
            clear hk hh hsup
            go_wp2_with fail
            rw [HWP.out]
            refine (sSupports_is HSU _ hs).mono ?_
            rintro e w2 ⟨rfl, hb⟩
            have HB2 := Lib.hid (bel_trans HBR.out hb)
            clear hb
            go_wp2_with fail
            refine ⟨⟨k + 1, by omega, by go_num, by rw [← HS.out, HTV.out], HB2.out⟩, ?_⟩
            simp [Go.RowKit.intOf]; omega
          · rw [hh] at hsup
            have HS := Lib.hid (true_add hh)
            have HSU := Lib.hid hsup
            clear hk hh hsup
            go_wp2_with fail
            rw [HWP.out]
            refine (sSupports_is HSU _ hs).mono ?_
            rintro e w2 ⟨rfl, hb⟩
            have HB2 := Lib.hid (bel_trans HBR.out hb)
            clear hb
            go_wp2_with fail
            try rw [HWP.out]
            refine ⟨⟨k + 1, by omega, by go_num, ?_, HB2.out⟩, ?_⟩
            · rw [← HS.out, HTV.out, HP.out]
              first | rw [IntWalk.wrap64_in _ ⟨by omega, by omega⟩]; rfl | rfl
            · simp [Go.RowKit.intOf]; omega
        · obtain rfl : k = 2 := by omega
          have HB2 := Lib.hid (bel_trans HB.out HBR.out)
          go_wp2_with fail
          go_ret
          exact ⟨ret_int (by rw [HF.out]; rfl), HB2.out⟩
    · go_enter Try.func53, Try.ntmps53
      go_wp2_with fail
      refine (sSentence_is HT _ hs).mono ?_
      rintro e w1 ⟨rfl, hb⟩
      have HB := Lib.hid hb
      clear hb
      go_wp2_with fail
      go_loopw [5, 6] (fun v i wr => ∃ k : Nat, k ≤ 4 ∧ i = .int .i64 k ∧ v = .int .i64 (trueTo 2 x k) ∧ Below w1.heap.size w1 wr) (fun _ i _ => 4 - (Go.RowKit.intOf i).toNat)
      case atStart => exact ⟨0, Nat.zero_le _, rfl, rfl, Below.refl _ _⟩
      case round =>
        obtain ⟨k, hk, rfl, rfl, hbr⟩ := hrel
        have HBR := Lib.hid hbr
        clear hbr
        by_cases hlt : k < 4
        · have hsup := supports_world HX.out (k := k) hlt
          have htl := trueTo_lt 2 x k (by omega)
          have hp : 2 ^ k ≤ 2 ^ 7 := Nat.pow_le_pow_right (by omega) (by omega)
          have HWP := Lib.hid (wrap_pow (k := k) (by omega))
          obtain ⟨p, HP⟩ : ∃ p : Nat, Hid (2 ^ k = p) := ⟨_, rfl⟩
          obtain ⟨tv, HTV⟩ : ∃ tv : Nat, Hid (trueTo 2 x k = tv) := ⟨_, rfl⟩
          rw [HP.out] at hsup htl hp HWP
          rw [HTV.out] at htl ⊢
          rcases hh : holdsS 2 x (worldS k) with _ | _
          · rw [hh] at hsup
            have HS := Lib.hid (true_skip hh)
            have HSU := Lib.hid hsup
            clear hk hh hsup
            go_wp2_with fail
            rw [HWP.out]
            refine (sSupports_is HSU _ hs).mono ?_
            rintro e w2 ⟨rfl, hb⟩
            have HB2 := Lib.hid (bel_trans HBR.out hb)
            clear hb
            go_wp2_with fail
            refine ⟨⟨k + 1, by omega, by go_num, by rw [← HS.out, HTV.out], HB2.out⟩, ?_⟩
            simp [Go.RowKit.intOf]; omega
          · rw [hh] at hsup
            have HS := Lib.hid (true_add hh)
            have HSU := Lib.hid hsup
            clear hk hh hsup
            go_wp2_with fail
            rw [HWP.out]
            refine (sSupports_is HSU _ hs).mono ?_
            rintro e w2 ⟨rfl, hb⟩
            have HB2 := Lib.hid (bel_trans HBR.out hb)
            clear hb
            go_wp2_with fail
            try rw [HWP.out]
            refine ⟨⟨k + 1, by omega, by go_num, ?_, HB2.out⟩, ?_⟩
            · rw [← HS.out, HTV.out, HP.out]
              first | rw [IntWalk.wrap64_in _ ⟨by omega, by omega⟩]; rfl | rfl
            · simp [Go.RowKit.intOf]; omega
        · obtain rfl : k = 4 := by omega
          have HB2 := Lib.hid (bel_trans HB.out HBR.out)
          go_wp2_with fail
          go_ret
          exact ⟨ret_int (by rw [HF.out]; rfl), HB2.out⟩
    · go_enter Try.func53, Try.ntmps53
      go_wp2_with fail
      refine (sSentence_is HT _ hs).mono ?_
      rintro e w1 ⟨rfl, hb⟩
      have HB := Lib.hid hb
      clear hb
      go_wp2_with fail
      go_loopw [5, 6] (fun v i wr => ∃ k : Nat, k ≤ 8 ∧ i = .int .i64 k ∧ v = .int .i64 (trueTo 3 x k) ∧ Below w1.heap.size w1 wr) (fun _ i _ => 8 - (Go.RowKit.intOf i).toNat)
      case atStart => exact ⟨0, Nat.zero_le _, rfl, rfl, Below.refl _ _⟩
      case round =>
        obtain ⟨k, hk, rfl, rfl, hbr⟩ := hrel
        have HBR := Lib.hid hbr
        clear hbr
        by_cases hlt : k < 8
        · have hsup := supports_world HX.out (k := k) hlt
          have htl := trueTo_lt 3 x k (by omega)
          have hp : 2 ^ k ≤ 2 ^ 7 := Nat.pow_le_pow_right (by omega) (by omega)
          have HWP := Lib.hid (wrap_pow (k := k) (by omega))
          obtain ⟨p, HP⟩ : ∃ p : Nat, Hid (2 ^ k = p) := ⟨_, rfl⟩
          obtain ⟨tv, HTV⟩ : ∃ tv : Nat, Hid (trueTo 3 x k = tv) := ⟨_, rfl⟩
          rw [HP.out] at hsup htl hp HWP
          rw [HTV.out] at htl ⊢
          rcases hh : holdsS 3 x (worldS k) with _ | _
          · rw [hh] at hsup
            have HS := Lib.hid (true_skip hh)
            have HSU := Lib.hid hsup
            clear hk hh hsup
            go_wp2_with fail
            rw [HWP.out]
            refine (sSupports_is HSU _ hs).mono ?_
            rintro e w2 ⟨rfl, hb⟩
            have HB2 := Lib.hid (bel_trans HBR.out hb)
            clear hb
            go_wp2_with fail
            refine ⟨⟨k + 1, by omega, by go_num, by rw [← HS.out, HTV.out], HB2.out⟩, ?_⟩
            simp [Go.RowKit.intOf]; omega
          · rw [hh] at hsup
            have HS := Lib.hid (true_add hh)
            have HSU := Lib.hid hsup
            clear hk hh hsup
            go_wp2_with fail
            rw [HWP.out]
            refine (sSupports_is HSU _ hs).mono ?_
            rintro e w2 ⟨rfl, hb⟩
            have HB2 := Lib.hid (bel_trans HBR.out hb)
            clear hb
            go_wp2_with fail
            try rw [HWP.out]
            refine ⟨⟨k + 1, by omega, by go_num, ?_, HB2.out⟩, ?_⟩
            · rw [← HS.out, HTV.out, HP.out]
              first | rw [IntWalk.wrap64_in _ ⟨by omega, by omega⟩]; rfl | rfl
            · simp [Go.RowKit.intOf]; omega
        · obtain rfl : k = 8 := by omega
          have HB2 := Lib.hid (bel_trans HB.out HBR.out)
          go_wp2_with fail
          go_ret
          exact ⟨ret_int (by rw [HF.out]; rfl), HB2.out⟩

end Go.Proofs.Ytmdogidflaplkaa

namespace Go.Proofs.Ytmdogidflaplkaa
open Go.RowKit

/-- A new row of strings is still there behind a draw. -/
theorem lit_str {w w' : World} {g : Nat} (xs : List ByteArray) {t : TypeId} (hg : (w.alloc (.cells (xs.map Value.string).toArray t)).grownBy w' (some g)) (hne : g < w.heap.size) {k : Int} (h0 : 0 ≤ k) (hk : k < xs.length) :
    ∃ x : ByteArray, x ∈ xs ∧ w'.cell? ⟨w.heap.size, k.toNat, none⟩ = some (.string x) := by
  have hb : w'.heap[w.heap.size]? = (w.alloc (.cells (xs.map Value.string).toArray t)).heap[w.heap.size]? := hg.block w.heap.size (by simp) (fun e => by injection e; omega)
  have hi : k.toNat < xs.length := by omega
  refine ⟨xs[k.toNat], List.getElem_mem hi, ?_⟩
  have h2 : (w.alloc (.cells (xs.map Value.string).toArray t)).heap[w.heap.size]? = some (.cells (xs.map Value.string).toArray t (0, 0)) := heap_alloc_new w _
  rw [h2] at hb
  rw [cell_of_row w' w.heap.size k.toNat _ t (0, 0) hb]
  simp [hi]
def StrPost (hi : Nat) (g u : Nat) (w : World) (e : Ending) (w' : World) : Prop := ∃ s : ByteArray, e = .returned (.string s) ∧ 1 ≤ s.size ∧ s.size ≤ hi ∧ Rd w' g u ∧ w.grownBy w' (some g)

def words6 : List ByteArray := [⟨#[97]⟩, ⟨#[98]⟩, ⟨#[99]⟩, ⟨#[97]⟩, ⟨#[48]⟩, ⟨#[49]⟩]
theorem words6_size {x : ByteArray} (h : x ∈ words6) : x.size = 1 := by
  simp only [words6, List.mem_cons, List.not_mem_nil, or_false] at h
  rcases h with rfl | rfl | rfl | rfl | rfl | rfl <;> rfl
def words5 : List ByteArray := [⟨#[]⟩, ⟨#[99]⟩, ⟨#[40]⟩, ⟨#[38]⟩, ⟨#[33]⟩]
theorem words5_size {x : ByteArray} (h : x ∈ words5) : x.size ≤ 1 := by
  simp only [words5, List.mem_cons, List.not_mem_nil, or_false] at h
  rcases h with rfl | rfl | rfl | rfl | rfl <;> decide

theorem one_size (b : UInt8) : (ByteArray.mk #[b]).size = 1 := rfl

/-- What the drawing of a word comes to, from the list of words on. -/
def Leaf (deep : Int) (g u : Nat) (t : Int) (w : World) : Prop := Calls Try.prog 55 #[.pointer (some ⟨g, 0, none⟩), .int .i64 t, .int .i64 deep] w (StrPost 1 g (u + 3) w)

set_option maxRecDepth 100000 in
set_option maxHeartbeats 4000000 in
theorem leaf_any (g u : Nat) (t : Int) (w : World) (hu : u ≤ 1000000) (hR : Rd w g u) : Leaf 0 g u t w := by
  have HR := Lib.hid hR
  have hlt := hR.lt
  obtain ⟨m, hm⟩ : ∃ m, max (min t 3) 1 = m := ⟨_, rfl⟩
  have hm1 : 1 ≤ m := by omega
  have hm3 : m ≤ 3 := by omega
  unfold Leaf
  clear hR
  go_enter Try.func55, Try.ntmps55
  go_wp2_with fail
  refine (pick_any g u _ _ (by omega) (by omega) (by omega) (HR.out.alloc _)).mono ?_
  rintro e w1 ⟨k, rfl, hk0, hk1, hr, hg⟩
  have hk8 := hk1 (by omega)
  have hsz : w.heap.size < w1.heap.size := by have := hg.size; simp at this; omega
  obtain ⟨q, hq⟩ : ∃ q, k / 7 = q := ⟨_, rfl⟩
  have hq0 : 0 ≤ q := by omega
  have hq1 : q ≤ 1 := by omega
  have HR1 := Lib.hid hr
  have HG1 := Lib.hid hg
  clear hr hg hk1
  go_wp2_with fail
  refine (pick_any g (u + 1) _ _ (by omega) (by omega) (by omega) HR1.out).mono ?_
  rintro e w2 ⟨k2, rfl, hk20, hk21, hr, hg⟩
  have hk26 := hk21 (by omega)
  obtain ⟨x, hx, hcell⟩ := lit_str words6 (HG1.out.trans hg) hlt hk20 (by simp [words6]; omega)
  have HS := Lib.hid (words6_size hx)
  have hk6 : k2 < 6 := by omega
  have HP : Hid (Rd w2 g (u + 3) ∧ w.grownBy w2 (some g)) := ⟨hr.more (by omega), (grown_alloc (World.grownBy.refl w _) _).trans (HG1.out.trans hg)⟩
  clear hr hg hx hk21
  go_wp2_with fail
  go_ret
  exact ⟨x, rfl, by rw [HS.out]; omega, by rw [HS.out]; omega, HP.out⟩
theorem str_more {hi hi' : Nat} {g u u' : Nat} {w : World} {e : Ending} {w' : World} (h : StrPost hi g u w e w') (h1 : hi ≤ hi') (h2 : u ≤ u') : StrPost hi' g u' w e w' := by
  obtain ⟨s, he, h3, h4, hr, hg⟩ := h
  exact ⟨s, he, h3, by omega, hr.more h2, hg⟩
/-- The drawing of a sentence of some depth: at most so many bytes, so many draws, from so many on. -/
def SentAny (d : Int) (hi us b : Nat) : Prop := ∀ (g u : Nat) (t : Int) (w : World), u ≤ b → Rd w g u → Calls Try.prog 55 #[.pointer (some ⟨g, 0, none⟩), .int .i64 t, .int .i64 d] w (StrPost hi g (u + us) w)
theorem sent0_any : SentAny 0 1 3 1000000 := fun g u t w hu hR => leaf_any g u t w (by omega) hR

set_option maxRecDepth 100000 in
set_option maxHeartbeats 8000000 in
theorem sent1_any : SentAny 1 5 11 950000 := by
  intro g u t w hu hR
  have HR := Lib.hid hR
  have hlt := hR.lt
  clear hR
  obtain ⟨m, hm⟩ : ∃ m, max (min t 3) 1 = m := ⟨_, rfl⟩
  have hm1 : 1 ≤ m := by omega
  have hm3 : m ≤ 3 := by omega
  go_enter Try.func55, Try.ntmps55
  go_wp2_with fail
  refine (pick_any g u _ _ (by omega) (by omega) (by omega) HR.out).mono ?_
  rintro e w0 ⟨k0, rfl, hk00, hk01, hr, hg⟩
  have hk04 := hk01 (by omega)
  have hlt0 : g < w0.heap.size := hr.lt
  have HR0 := Lib.hid hr
  have HG0 := Lib.hid hg
  clear hr hg hk01
  by_cases hz : k0 = 0
  · subst hz
    go_wp2_with fail
    refine (pick_any g (u + 1) _ _ (by omega) (by omega) (by omega) (HR0.out.alloc _)).mono ?_
    rintro e w1 ⟨k, rfl, hk0, hk1, hr, hg⟩
    have hk8 := hk1 (by omega)
    have hsz : w0.heap.size < w1.heap.size := by have := hg.size; simp at this; omega
    obtain ⟨q, hq⟩ : ∃ q, k / 7 = q := ⟨_, rfl⟩
    have hq0 : 0 ≤ q := by omega
    have hq1 : q ≤ 1 := by omega
    have HR1 := Lib.hid hr
    have HG1 := Lib.hid hg
    clear hr hg hk1
    go_wp2_with fail
    refine (pick_any g (u + 2) _ _ (by omega) (by omega) (by omega) HR1.out).mono ?_
    rintro e w2 ⟨k2, rfl, hk20, hk21, hr, hg⟩
    have hk26 := hk21 (by omega)
    obtain ⟨x, hx, hcell⟩ := lit_str words6 (HG1.out.trans hg) hlt0 hk20 (by simp [words6]; omega)
    have HS := Lib.hid (words6_size hx)
    have hk6 : k2 < 6 := by omega
    have HP : Hid (Rd w2 g (u + 11) ∧ w.grownBy w2 (some g)) := ⟨hr.more (by omega), (grown_alloc HG0.out _).trans (HG1.out.trans hg)⟩
    clear hr hg hx hk21
    go_wp2_with fail
    go_ret
    exact ⟨x, rfl, by rw [HS.out]; omega, by rw [HS.out]; omega, HP.out⟩
  · have hzb : (k0 == 0) = false := by rw [beq_eq_false_iff_ne]; exact hz
    clear hz
    go_wp2_with fail
    refine (pick_any g (u + 1) _ _ (by omega) (by omega) (by omega) HR0.out).mono ?_
    rintro e w1 ⟨k, rfl, hk0, hk1, hr, hg⟩
    have hk6 := hk1 (by omega)
    have HR1 := Lib.hid hr
    have HG1 := Lib.hid (HG0.out.trans hg)
    clear hr hg hk1
    have h6 : k = 0 ∨ k = 1 ∨ k = 2 ∨ k = 3 ∨ k = 4 ∨ k = 5 := by omega
    clear hk0 hk6
    rcases h6 with rfl | rfl | rfl | rfl | rfl | rfl
    · go_wp2_with fail
      refine (sent0_any g (u + 2) t _ (by omega) HR1.out).mono ?_
      rintro e w2 ⟨s1, rfl, hs1, hs2, hr, hg⟩
      have HP : Hid (Rd w2 g (u + 11) ∧ w.grownBy w2 (some g)) := ⟨hr.more (by omega), HG1.out.trans hg⟩
      clear hr hg
      go_wp2_with fail
      go_ret
      exact ⟨_, rfl, by simp only [ByteArray.size_append, one_size]; omega, by simp only [ByteArray.size_append, one_size]; omega, HP.out⟩
    · go_wp2_with fail
      refine (sent0_any g (u + 2) t _ (by omega) HR1.out).mono ?_
      rintro e w2 ⟨s1, rfl, hs1, hs2, hr, hg⟩
      have HP : Hid (Rd w2 g (u + 11) ∧ w.grownBy w2 (some g)) := ⟨hr.more (by omega), HG1.out.trans hg⟩
      clear hr hg
      go_wp2_with fail
      go_ret
      exact ⟨_, rfl, by simp only [ByteArray.size_append, one_size]; omega, by simp only [ByteArray.size_append, one_size]; omega, HP.out⟩
    · go_wp2_with fail
      refine (sent0_any g (u + 2) t _ (by omega) HR1.out).mono ?_
      rintro e w2 ⟨s1, rfl, hs1, hs2, hr, hg⟩
      have HR2 := Lib.hid hr
      have HG2 := Lib.hid (HG1.out.trans hg)
      clear hr hg
      go_wp2_with fail
      refine (sent0_any g (u + 2 + 3) t _ (by omega) HR2.out).mono ?_
      rintro e w3 ⟨s2, rfl, hs3, hs4, hr, hg⟩
      have HP : Hid (Rd w3 g (u + 11) ∧ w.grownBy w3 (some g)) := ⟨hr.more (by omega), HG2.out.trans hg⟩
      clear hr hg
      go_wp2_with fail
      go_ret
      exact ⟨_, rfl, by simp only [ByteArray.size_append, one_size]; omega, by simp only [ByteArray.size_append, one_size]; omega, HP.out⟩
    · go_wp2_with fail
      refine (sent0_any g (u + 2) t _ (by omega) HR1.out).mono ?_
      rintro e w2 ⟨s1, rfl, hs1, hs2, hr, hg⟩
      have HR2 := Lib.hid hr
      have HG2 := Lib.hid (HG1.out.trans hg)
      clear hr hg
      go_wp2_with fail
      refine (sent0_any g (u + 2 + 3) t _ (by omega) HR2.out).mono ?_
      rintro e w3 ⟨s2, rfl, hs3, hs4, hr, hg⟩
      have HP : Hid (Rd w3 g (u + 11) ∧ w.grownBy w3 (some g)) := ⟨hr.more (by omega), HG2.out.trans hg⟩
      clear hr hg
      go_wp2_with fail
      go_ret
      exact ⟨_, rfl, by simp only [ByteArray.size_append, one_size]; omega, by simp only [ByteArray.size_append, one_size]; omega, HP.out⟩
    · go_wp2_with fail
      refine (sent0_any g (u + 2) t _ (by omega) HR1.out).mono ?_
      rintro e w2 ⟨s1, rfl, hs1, hs2, hr, hg⟩
      have HR2 := Lib.hid hr
      have HG2 := Lib.hid (HG1.out.trans hg)
      clear hr hg
      go_wp2_with fail
      refine (sent0_any g (u + 2 + 3) t _ (by omega) HR2.out).mono ?_
      rintro e w3 ⟨s2, rfl, hs3, hs4, hr, hg⟩
      have HP : Hid (Rd w3 g (u + 11) ∧ w.grownBy w3 (some g)) := ⟨hr.more (by omega), HG2.out.trans hg⟩
      clear hr hg
      go_wp2_with fail
      go_ret
      exact ⟨_, rfl, by simp only [ByteArray.size_append, one_size]; omega, by simp only [ByteArray.size_append, one_size]; omega, HP.out⟩
    · go_wp2_with fail
      refine (sent0_any g (u + 2) t _ (by omega) HR1.out).mono ?_
      rintro e w2 ⟨s1, rfl, hs1, hs2, hr, hg⟩
      have HR2 := Lib.hid hr
      have HG2 := Lib.hid (HG1.out.trans hg)
      clear hr hg
      go_wp2_with fail
      refine (sent0_any g (u + 2 + 3) t _ (by omega) HR2.out).mono ?_
      rintro e w3 ⟨s2, rfl, hs3, hs4, hr, hg⟩
      have HP : Hid (Rd w3 g (u + 11) ∧ w.grownBy w3 (some g)) := ⟨hr.more (by omega), HG2.out.trans hg⟩
      clear hr hg
      go_wp2_with fail
      go_ret
      exact ⟨_, rfl, by simp only [ByteArray.size_append, one_size]; omega, by simp only [ByteArray.size_append, one_size]; omega, HP.out⟩
set_option maxRecDepth 100000 in
set_option maxHeartbeats 8000000 in
theorem sent2_any : SentAny 2 13 27 900000 := by
  intro g u t w hu hR
  have HR := Lib.hid hR
  have hlt := hR.lt
  clear hR
  obtain ⟨m, hm⟩ : ∃ m, max (min t 3) 1 = m := ⟨_, rfl⟩
  have hm1 : 1 ≤ m := by omega
  have hm3 : m ≤ 3 := by omega
  go_enter Try.func55, Try.ntmps55
  go_wp2_with fail
  refine (pick_any g u _ _ (by omega) (by omega) (by omega) HR.out).mono ?_
  rintro e w0 ⟨k0, rfl, hk00, hk01, hr, hg⟩
  have hk04 := hk01 (by omega)
  have hlt0 : g < w0.heap.size := hr.lt
  have HR0 := Lib.hid hr
  have HG0 := Lib.hid hg
  clear hr hg hk01
  by_cases hz : k0 = 0
  · subst hz
    go_wp2_with fail
    refine (pick_any g (u + 1) _ _ (by omega) (by omega) (by omega) (HR0.out.alloc _)).mono ?_
    rintro e w1 ⟨k, rfl, hk0, hk1, hr, hg⟩
    have hk8 := hk1 (by omega)
    have hsz : w0.heap.size < w1.heap.size := by have := hg.size; simp at this; omega
    obtain ⟨q, hq⟩ : ∃ q, k / 7 = q := ⟨_, rfl⟩
    have hq0 : 0 ≤ q := by omega
    have hq1 : q ≤ 1 := by omega
    have HR1 := Lib.hid hr
    have HG1 := Lib.hid hg
    clear hr hg hk1
    go_wp2_with fail
    refine (pick_any g (u + 2) _ _ (by omega) (by omega) (by omega) HR1.out).mono ?_
    rintro e w2 ⟨k2, rfl, hk20, hk21, hr, hg⟩
    have hk26 := hk21 (by omega)
    obtain ⟨x, hx, hcell⟩ := lit_str words6 (HG1.out.trans hg) hlt0 hk20 (by simp [words6]; omega)
    have HS := Lib.hid (words6_size hx)
    have hk6 : k2 < 6 := by omega
    have HP : Hid (Rd w2 g (u + 27) ∧ w.grownBy w2 (some g)) := ⟨hr.more (by omega), (grown_alloc HG0.out _).trans (HG1.out.trans hg)⟩
    clear hr hg hx hk21
    go_wp2_with fail
    go_ret
    exact ⟨x, rfl, by rw [HS.out]; omega, by rw [HS.out]; omega, HP.out⟩
  · have hzb : (k0 == 0) = false := by rw [beq_eq_false_iff_ne]; exact hz
    clear hz
    go_wp2_with fail
    refine (pick_any g (u + 1) _ _ (by omega) (by omega) (by omega) HR0.out).mono ?_
    rintro e w1 ⟨k, rfl, hk0, hk1, hr, hg⟩
    have hk6 := hk1 (by omega)
    have HR1 := Lib.hid hr
    have HG1 := Lib.hid (HG0.out.trans hg)
    clear hr hg hk1
    have h6 : k = 0 ∨ k = 1 ∨ k = 2 ∨ k = 3 ∨ k = 4 ∨ k = 5 := by omega
    clear hk0 hk6
    rcases h6 with rfl | rfl | rfl | rfl | rfl | rfl
    · go_wp2_with fail
      refine (sent1_any g (u + 2) t _ (by omega) HR1.out).mono ?_
      rintro e w2 ⟨s1, rfl, hs1, hs2, hr, hg⟩
      have HP : Hid (Rd w2 g (u + 27) ∧ w.grownBy w2 (some g)) := ⟨hr.more (by omega), HG1.out.trans hg⟩
      clear hr hg
      go_wp2_with fail
      go_ret
      exact ⟨_, rfl, by simp only [ByteArray.size_append, one_size]; omega, by simp only [ByteArray.size_append, one_size]; omega, HP.out⟩
    · go_wp2_with fail
      refine (sent1_any g (u + 2) t _ (by omega) HR1.out).mono ?_
      rintro e w2 ⟨s1, rfl, hs1, hs2, hr, hg⟩
      have HP : Hid (Rd w2 g (u + 27) ∧ w.grownBy w2 (some g)) := ⟨hr.more (by omega), HG1.out.trans hg⟩
      clear hr hg
      go_wp2_with fail
      go_ret
      exact ⟨_, rfl, by simp only [ByteArray.size_append, one_size]; omega, by simp only [ByteArray.size_append, one_size]; omega, HP.out⟩
    · go_wp2_with fail
      refine (sent1_any g (u + 2) t _ (by omega) HR1.out).mono ?_
      rintro e w2 ⟨s1, rfl, hs1, hs2, hr, hg⟩
      have HR2 := Lib.hid hr
      have HG2 := Lib.hid (HG1.out.trans hg)
      clear hr hg
      go_wp2_with fail
      refine (sent1_any g (u + 2 + 11) t _ (by omega) HR2.out).mono ?_
      rintro e w3 ⟨s2, rfl, hs3, hs4, hr, hg⟩
      have HP : Hid (Rd w3 g (u + 27) ∧ w.grownBy w3 (some g)) := ⟨hr.more (by omega), HG2.out.trans hg⟩
      clear hr hg
      go_wp2_with fail
      go_ret
      exact ⟨_, rfl, by simp only [ByteArray.size_append, one_size]; omega, by simp only [ByteArray.size_append, one_size]; omega, HP.out⟩
    · go_wp2_with fail
      refine (sent1_any g (u + 2) t _ (by omega) HR1.out).mono ?_
      rintro e w2 ⟨s1, rfl, hs1, hs2, hr, hg⟩
      have HR2 := Lib.hid hr
      have HG2 := Lib.hid (HG1.out.trans hg)
      clear hr hg
      go_wp2_with fail
      refine (sent1_any g (u + 2 + 11) t _ (by omega) HR2.out).mono ?_
      rintro e w3 ⟨s2, rfl, hs3, hs4, hr, hg⟩
      have HP : Hid (Rd w3 g (u + 27) ∧ w.grownBy w3 (some g)) := ⟨hr.more (by omega), HG2.out.trans hg⟩
      clear hr hg
      go_wp2_with fail
      go_ret
      exact ⟨_, rfl, by simp only [ByteArray.size_append, one_size]; omega, by simp only [ByteArray.size_append, one_size]; omega, HP.out⟩
    · go_wp2_with fail
      refine (sent1_any g (u + 2) t _ (by omega) HR1.out).mono ?_
      rintro e w2 ⟨s1, rfl, hs1, hs2, hr, hg⟩
      have HR2 := Lib.hid hr
      have HG2 := Lib.hid (HG1.out.trans hg)
      clear hr hg
      go_wp2_with fail
      refine (sent1_any g (u + 2 + 11) t _ (by omega) HR2.out).mono ?_
      rintro e w3 ⟨s2, rfl, hs3, hs4, hr, hg⟩
      have HP : Hid (Rd w3 g (u + 27) ∧ w.grownBy w3 (some g)) := ⟨hr.more (by omega), HG2.out.trans hg⟩
      clear hr hg
      go_wp2_with fail
      go_ret
      exact ⟨_, rfl, by simp only [ByteArray.size_append, one_size]; omega, by simp only [ByteArray.size_append, one_size]; omega, HP.out⟩
    · go_wp2_with fail
      refine (sent1_any g (u + 2) t _ (by omega) HR1.out).mono ?_
      rintro e w2 ⟨s1, rfl, hs1, hs2, hr, hg⟩
      have HR2 := Lib.hid hr
      have HG2 := Lib.hid (HG1.out.trans hg)
      clear hr hg
      go_wp2_with fail
      refine (sent1_any g (u + 2 + 11) t _ (by omega) HR2.out).mono ?_
      rintro e w3 ⟨s2, rfl, hs3, hs4, hr, hg⟩
      have HP : Hid (Rd w3 g (u + 27) ∧ w.grownBy w3 (some g)) := ⟨hr.more (by omega), HG2.out.trans hg⟩
      clear hr hg
      go_wp2_with fail
      go_ret
      exact ⟨_, rfl, by simp only [ByteArray.size_append, one_size]; omega, by simp only [ByteArray.size_append, one_size]; omega, HP.out⟩
end Go.Proofs.Ytmdogidflaplkaa
