/-
  What the proofs of this seat's statements share (Spd, Shl, MathJ).
-/
import Derived.Test.YtmdogidflaplkaaU16
import Derived.Test.YtmdogidflaplkaaU8
import Derived.Test.YtmdogidflaplkaaU11

namespace Go.Proofs.Ytmdogidflaplkaa
open Go.RowKit

theorem senT_bad {t : Int} {s : ByteArray} (h : t < 1 ∨ 3 < t ∨ 60 < s.size) : senT t s = none := by
  unfold senT senOf; rw [if_neg (by rw [bytesN_len]; omega)]
theorem senT_none {t : Int} {s : ByteArray} (h1 : 1 ≤ t) (h3 : t ≤ 3) (hl : s.size ≤ 60) (h : readS t s.size (bytesN s) = none) : senT t s = none :=
  senOf_none h1 h3 (by rw [bytesN_len]; exact hl) (by rw [bytesN_len]; exact h)
theorem senT_more {t : Int} {s : ByteArray} {x : Sen} {c : Nat} {r : List Nat} (h1 : 1 ≤ t) (h3 : t ≤ 3) (hl : s.size ≤ 60) (h : readS t s.size (bytesN s) = some (x, c :: r)) : senT t s = none :=
  senOf_more h1 h3 (by rw [bytesN_len]; exact hl) (by rw [bytesN_len]; exact h)
theorem senT_some {t : Int} {s : ByteArray} {x : Sen} (h1 : 1 ≤ t) (h3 : t ≤ 3) (hl : s.size ≤ 60) (h : readS t s.size (bytesN s) = some (x, [])) : senT t s = some x :=
  senOf_some h1 h3 (by rw [bytesN_len]; exact hl) (by rw [bytesN_len]; exact h)
theorem read_of_sen {t : Int} {s : ByteArray} {x : Sen} (h : senT t s = some x) : readS t s.size (bytesN s) = some (x, []) := by
  obtain ⟨h1, h3, hl, hok, ht⟩ := senT_ok h
  rcases hr : readS t s.size (bytesN s) with _ | ⟨y, _ | ⟨c, r⟩⟩
  · rw [senT_none h1 h3 hl hr] at h; cases h
  · rw [senT_some h1 h3 hl hr] at h; cases h; rfl
  · rw [senT_more h1 h3 hl hr] at h; cases h
theorem sRead_some {t : Int} {s : ByteArray} {x : Sen} (h : senT t s = some x) (w : World) : Calls Try.prog 59 #[.int .i64 t, .string s, .int .i64 0] w (SSome t s x [] w) := by
  obtain ⟨h1, h3, hl, hok, ht⟩ := senT_ok h
  have := sReads t s (by omega) h1 h3 s.size 0 w (by omega) (by omega)
  rw [List.drop_zero, read_of_sen h] at this
  exact this
theorem sHolds_some {t : Int} {s : ByteArray} {x : Sen} (h : senT t s = some x) (m : Nat) (hm : (m : Int) ≤ allOf t) (w : World) : Calls Try.prog 71 #[.int .i64 t, .string s, .int .i64 0, .int .i64 m] w (SHold t s x [] m w) := by
  obtain ⟨h1, h3, hl, hok, ht⟩ := senT_ok h
  exact sHolds t s (by omega) h1 h3 s.size 0 x [] (by rw [List.drop_zero]; exact read_of_sen h) m w hm

set_option maxRecDepth 100000 in
set_option maxHeartbeats 4000000 in
theorem sSentence (t : Int) (s : ByteArray) (w : World) (hs : s.size ≤ 9223372036854775807) :
    Calls Try.prog 44 #[.int .i64 t, .string s] w fun e w' => e = .returned (.bool (isT t s)) ∧ Below w.heap.size w w' := by
  have hnot : ∀ (x : Bool) (w : World), (Op.unary .not (.bool x)).run Try.prog w = .ok (.bool (!x)) w := fun _ _ => rfl
  by_cases ht : t < 1 ∨ 3 < t
  · rw [show isT t s = false by unfold isT; rw [senT_bad (by omega)]; rfl]
    go_enter Try.func44, Try.ntmps44
    go_wp2_with fail
    refine (sIn_no _ _ _ _ ht).mono ?_
    rintro e w' ⟨rfl, rfl⟩
    go_wp2_with fail
    go_ret
    exact ⟨rfl, Below.refl _ _⟩
  by_cases hl : 60 < s.size
  · rw [show isT t s = false by unfold isT; rw [senT_bad (by omega)]; rfl]
    have hd : decide ((60 : Int) < (s.size : Int)) = true := decide_eq_true (by omega)
    go_enter Try.func44, Try.ntmps44
    go_wp2_with fail
    refine (sIn_yes _ _ _ _ (by omega) (by omega)).mono ?_
    rintro e w' ⟨rfl, rfl⟩
    go_wp2_with fail
    go_ret
    exact ⟨rfl, Below.refl _ _⟩
  have h1 : 1 ≤ t := by omega
  have h3 : t ≤ 3 := by omega
  have hd : decide ((60 : Int) < (s.size : Int)) = false := decide_eq_false (by omega)
  have hr := sReads t s (by omega) h1 h3 s.size 0
  rcases hrd : readS t s.size (bytesN s) with _ | ⟨x, rest⟩
  · have HI : Hid (∀ W, Calls Try.prog 59 #[.int .i64 t, .string s, .int .i64 0] W (SNone W)) := fun W => by
      have := hr W (by omega) (by omega)
      rw [List.drop_zero, hrd] at this; exact this
    rw [show isT t s = false by unfold isT; rw [senT_none h1 h3 (by omega) hrd]; rfl]
    have he : ((-1 : Int) == (s.size : Int)) = false := by rw [beq_eq_false_iff_ne]; omega
    clear hr hrd ht hl
    go_enter Try.func44, Try.ntmps44
    go_wp2_with fail
    refine (sIn_yes _ _ _ _ (by omega) (by omega)).mono ?_
    rintro e w' ⟨rfl, rfl⟩
    go_wp2_with fail
    refine (HI.out _).mono ?_
    rintro e w1 ⟨A, n, c, rfl, hb⟩
    have HB := Lib.hid hb
    clear hb
    go_wp2_with fail
    go_ret
    exact ⟨rfl, HB.out⟩
  · have HI : Hid (∀ W, Calls Try.prog 59 #[.int .i64 t, .string s, .int .i64 0] W (SSome t s x rest W)) := fun W => by
      have := hr W (by omega) (by omega)
      rw [List.drop_zero, hrd] at this; exact this
    have hv : isT t s = decide (rest = []) := by
      rcases rest with _ | ⟨c, r⟩
      · unfold isT; rw [senT_some h1 h3 (by omega) hrd]; rfl
      · unfold isT; rw [senT_more h1 h3 (by omega) hrd]; rfl
    have HV := Lib.hid hv
    clear hr hrd ht hl hv
    go_enter Try.func44, Try.ntmps44
    go_wp2_with fail
    refine (sIn_yes _ _ _ _ (by omega) (by omega)).mono ?_
    rintro e w' ⟨rfl, rfl⟩
    go_wp2_with fail
    refine (HI.out _).mono ?_
    rintro e w1 ⟨v, a2, rfl, ha2, hd2, ho, hb⟩
    obtain ⟨A1, c1, rfl, _, _, _, _⟩ := ho.form
    have HB := Lib.hid hb
    have HE : Hid (((a2 : Int) == (s.size : Int)) = isT t s) := by
      unfold Hid
      rw [HV.out, Bool.eq_iff_iff, beq_iff_eq, decide_eq_true_eq]
      constructor
      · intro h
        rw [← hd2]
        exact List.drop_eq_nil_of_le (by rw [bytesN_len]; omega)
      · intro h
        rw [h] at hd2
        have := drop_end hd2 ha2
        omega
    clear hb ho hd2
    go_wp2_with fail
    go_ret
    exact ⟨ret_bool HE.out, HB.out⟩
theorem sSentence_is {t : Int} {s : ByteArray} {b : Bool} (h : Hid (isT t s = b)) (w : World) (hs : s.size ≤ 9223372036854775807) :
    Calls Try.prog 44 #[.int .i64 t, .string s] w fun e w' => e = .returned (.bool b) ∧ Below w.heap.size w w' :=
  (sSentence t s w hs).mono fun _ _ ⟨he, hw⟩ => ⟨he.trans (ret_bool h.out), hw⟩
theorem isT_none {t : Int} {s : ByteArray} (h : senT t s = none) : isT t s = false := (issueT_none h).2
theorem isT_some {t : Int} {s : ByteArray} {x : Sen} (h : senT t s = some x) : isT t s = true := (issueT_some h).2

set_option maxRecDepth 100000 in
set_option maxHeartbeats 4000000 in
theorem sSupportsT (t k : Int) (s : ByteArray) (w : World) (hs : s.size ≤ 9223372036854775807) :
    Calls Try.prog 61 #[.int .i64 t, .int .i64 k, .string s] w fun e w' => e = .returned (.bool (supportsT t k s)) ∧ Below w.heap.size w w' := by
  have hnot : ∀ (x : Bool) (w : World), (Op.unary .not (.bool x)).run Try.prog w = .ok (.bool (!x)) w := fun _ _ => rfl
  rcases hset : setOkB t k with _ | _
  · have HS := Lib.hid hset
    rw [show supportsT t k s = false by unfold supportsT; rw [hset]; cases senT t s <;> rfl]
    clear hset
    go_enter Try.func61, Try.ntmps61
    go_wp2_with fail
    refine (sSetOk _ _ _).mono ?_
    rintro e w' ⟨rfl, rfl⟩
    rw [HS.out]
    go_wp2_with fail
    go_ret
    exact ⟨rfl, Below.refl _ _⟩
  · have HS := Lib.hid hset
    obtain ⟨_, _, hk0, hka, _⟩ := setOkB_lt hset
    rcases hx : senT t s with _ | x
    · have HT := Lib.hid (isT_none hx)
      rw [show supportsT t k s = false by unfold supportsT; rw [hx]]
      clear hset hx
      go_enter Try.func61, Try.ntmps61
      go_wp2_with fail
      refine (sSetOk _ _ _).mono ?_
      rintro e w' ⟨rfl, rfl⟩
      rw [HS.out]
      go_wp2_with fail
      refine (sSentence_is HT _ hs).mono ?_
      rintro e w1 ⟨rfl, hb⟩
      have HB := Lib.hid hb
      clear hb
      go_wp2_with fail
      go_ret
      exact ⟨rfl, HB.out⟩
    · have HX := Lib.hid hx
      have HT := Lib.hid (isT_some hx)
      rw [show supportsT t k s = holdsS t x k by unfold supportsT; rw [hx, hset]; rfl]
      obtain ⟨m, rfl⟩ : ∃ m : Nat, k = m := ⟨k.toNat, by omega⟩
      clear hset hx
      go_enter Try.func61, Try.ntmps61
      go_wp2_with fail
      refine (sSetOk _ _ _).mono ?_
      rintro e w' ⟨rfl, rfl⟩
      rw [HS.out]
      go_wp2_with fail
      refine (sSentence_is HT _ hs).mono ?_
      rintro e w1 ⟨rfl, hb⟩
      have HB := Lib.hid hb
      clear hb
      go_wp2_with fail
      refine (sHolds_some HX.out m hka _).mono ?_
      rintro e w2 ⟨a2, rfl, _, _, q, rfl⟩
      go_wp2_with fail
      go_ret
      exact ⟨rfl, bel_drewN HB.out _⟩

theorem sSupports_is {t k : Int} {s : ByteArray} {b : Bool} (h : Hid (supportsT t k s = b)) (w : World) (hs : s.size ≤ 9223372036854775807) :
    Calls Try.prog 61 #[.int .i64 t, .int .i64 k, .string s] w fun e w' => e = .returned (.bool b) ∧ Below w.heap.size w w' :=
  (sSupportsT t k s w hs).mono fun _ _ ⟨he, hw⟩ => ⟨he.trans (ret_bool h.out), hw⟩
theorem supports_world {t : Int} {s : ByteArray} {x : Sen} {k : Nat} (h : senT t s = some x) (hk : k < nWorlds t) : supportsT t ((2 ^ k : Nat) : Int) s = holdsS t x (worldS k) := by
  obtain ⟨h1, h3, _⟩ := senT_ok h
  have := world_ok h1 h3 hk
  unfold supportsT
  rw [h]
  show (setOkB t (worldS k) && _) = _
  rw [setOk_of h1 h3 this.1 this.2]; rfl
theorem true_add {t : Int} {x : Sen} {k : Nat} (h : holdsS t x (worldS k) = true) : trueTo t x k + 2 ^ k = trueTo t x (k + 1) := by
  conv => rhs; unfold trueTo
  rw [if_pos h]

set_option maxRecDepth 100000 in
set_option maxHeartbeats 8000000 in
theorem sTrueIn (t : Int) (s : ByteArray) (w : World) (hs : s.size ≤ 9223372036854775807) :
    Calls Try.prog 53 #[.int .i64 t, .string s] w fun e w' => e = .returned (.int .i64 (trueT t s)) ∧ Below w.heap.size w w' := by
  have hnot : ∀ (x : Bool) (w : World), (Op.unary .not (.bool x)).run Try.prog w = .ok (.bool (!x)) w := fun _ _ => rfl
  rcases hx : senT t s with _ | x
  · have HT := Lib.hid (isT_none hx)
    rw [show trueT t s = -1 by unfold trueT; rw [hx]]
    clear hx
    go_enter Try.func53, Try.ntmps53
    go_wp2_with fail
    refine (sSentence_is HT _ hs).mono ?_
    rintro e w1 ⟨rfl, hb⟩
    have HB := Lib.hid hb
    clear hb
    go_wp2_with fail
    go_ret
    exact ⟨rfl, HB.out⟩
  · have HT := Lib.hid (isT_some hx)
    obtain ⟨h1, h3, _⟩ := senT_ok hx
    have HF : Hid (trueT t s = (trueTo t x (nWorlds t) : Int)) := by unfold Hid trueT; rw [hx]
    have HX := Lib.hid hx
    have h : t = 1 ∨ t = 2 ∨ t = 3 := by omega
    clear hx h1 h3
    rcases h with rfl | rfl | rfl
    · go_enter Try.func53, Try.ntmps53
      go_wp2_with fail
      refine (sSentence_is HT _ hs).mono ?_
      rintro e w1 ⟨rfl, hb⟩
      have HB := Lib.hid hb
      clear hb
      go_wp2_with fail
      go_loopw [5, 6] (fun v i wr => ∃ k : Nat, k ≤ 2 ∧ i = .int .i64 k ∧ v = .int .i64 (trueTo 1 x k) ∧ Below w1.heap.size w1 wr) (fun _ i _ => 2 - (Go.RowKit.intOf i).toNat)
      case atStart => exact ⟨0, Nat.zero_le _, rfl, rfl, Below.refl _ _⟩
      case round =>
        obtain ⟨k, hk, rfl, rfl, hbr⟩ := hrel
        have HBR := Lib.hid hbr
        clear hbr
        by_cases hlt : k < 2
        · have hsup := supports_world HX.out (k := k) hlt
          have htl := trueTo_lt 1 x k (by omega)
          have hp : 2 ^ k ≤ 2 ^ 7 := Nat.pow_le_pow_right (by omega) (by omega)
          have HWP := Lib.hid (wrap_pow (k := k) (by omega))
          obtain ⟨p, HP⟩ : ∃ p : Nat, Hid (2 ^ k = p) := ⟨_, rfl⟩
          obtain ⟨tv, HTV⟩ : ∃ tv : Nat, Hid (trueTo 1 x k = tv) := ⟨_, rfl⟩
          rw [HP.out] at hsup htl hp HWP
          rw [HTV.out] at htl ⊢
          rcases hh : holdsS 1 x (worldS k) with _ | _
          · rw [hh] at hsup
            have HS := Lib.hid (true_skip hh)
            have HSU := Lib.hid hsup
            clear hk hh hsup
            go_wp2_with fail
            rw [HWP.out]
            refine (sSupports_is HSU _ hs).mono ?_
            rintro e w2 ⟨rfl, hb⟩
            have HB2 := Lib.hid (bel_trans HBR.out hb)
            clear hb
            go_wp2_with fail
            refine ⟨⟨k + 1, by omega, by go_num, by rw [← HS.out, HTV.out], HB2.out⟩, ?_⟩
            simp [Go.RowKit.intOf]; omega
          · rw [hh] at hsup
            have HS := Lib.hid (true_add hh)
            have HSU := Lib.hid hsup
            clear hk hh hsup
            go_wp2_with fail
            rw [HWP.out]
            refine (sSupports_is HSU _ hs).mono ?_
            rintro e w2 ⟨rfl, hb⟩
            have HB2 := Lib.hid (bel_trans HBR.out hb)
            clear hb
            go_wp2_with fail
            try rw [HWP.out]
            refine ⟨⟨k + 1, by omega, by go_num, ?_, HB2.out⟩, ?_⟩
            · rw [← HS.out, HTV.out, HP.out]
              first | rw [IntWalk.wrap64_in _ ⟨by omega, by omega⟩]; rfl | rfl
            · simp [Go.RowKit.intOf]; omega
        · obtain rfl : k = 2 := by omega
          have HB2 := Lib.hid (bel_trans HB.out HBR.out)
          go_wp2_with fail
          go_ret
          exact ⟨ret_int (by rw [HF.out]; rfl), HB2.out⟩
    · go_enter Try.func53, Try.ntmps53
      go_wp2_with fail
      refine (sSentence_is HT _ hs).mono ?_
      rintro e w1 ⟨rfl, hb⟩
      have HB := Lib.hid hb
      clear hb
      go_wp2_with fail
      go_loopw [5, 6] (fun v i wr => ∃ k : Nat, k ≤ 4 ∧ i = .int .i64 k ∧ v = .int .i64 (trueTo 2 x k) ∧ Below w1.heap.size w1 wr) (fun _ i _ => 4 - (Go.RowKit.intOf i).toNat)
      case atStart => exact ⟨0, Nat.zero_le _, rfl, rfl, Below.refl _ _⟩
      case round =>
        obtain ⟨k, hk, rfl, rfl, hbr⟩ := hrel
        have HBR := Lib.hid hbr
        clear hbr
        by_cases hlt : k < 4
        · have hsup := supports_world HX.out (k := k) hlt
          have htl := trueTo_lt 2 x k (by omega)
          have hp : 2 ^ k ≤ 2 ^ 7 := Nat.pow_le_pow_right (by omega) (by omega)
          have HWP := Lib.hid (wrap_pow (k := k) (by omega))
          obtain ⟨p, HP⟩ : ∃ p : Nat, Hid (2 ^ k = p) := ⟨_, rfl⟩
          obtain ⟨tv, HTV⟩ : ∃ tv : Nat, Hid (trueTo 2 x k = tv) := ⟨_, rfl⟩
          rw [HP.out] at hsup htl hp HWP
          rw [HTV.out] at htl ⊢
          rcases hh : holdsS 2 x (worldS k) with _ | _
          · rw [hh] at hsup
            have HS := Lib.hid (true_skip hh)
            have HSU := Lib.hid hsup
            clear hk hh hsup
            go_wp2_with fail
            rw [HWP.out]
            refine (sSupports_is HSU _ hs).mono ?_
            rintro e w2 ⟨rfl, hb⟩
            have HB2 := Lib.hid (bel_trans HBR.out hb)
            clear hb
            go_wp2_with fail
            refine ⟨⟨k + 1, by omega, by go_num, by rw [← HS.out, HTV.out], HB2.out⟩, ?_⟩
            simp [Go.RowKit.intOf]; omega
          · rw [hh] at hsup
            have HS := Lib.hid (true_add hh)
            have HSU := Lib.hid hsup
            clear hk hh hsup
            go_wp2_with fail
            rw [HWP.out]
            refine (sSupports_is HSU _ hs).mono ?_
            rintro e w2 ⟨rfl, hb⟩
            have HB2 := Lib.hid (bel_trans HBR.out hb)
            clear hb
            go_wp2_with fail
            try rw [HWP.out]
            refine ⟨⟨k + 1, by omega, by go_num, ?_, HB2.out⟩, ?_⟩
            · rw [← HS.out, HTV.out, HP.out]
              first | rw [IntWalk.wrap64_in _ ⟨by omega, by omega⟩]; rfl | rfl
            · simp [Go.RowKit.intOf]; omega
        · obtain rfl : k = 4 := by omega
          have HB2 := Lib.hid (bel_trans HB.out HBR.out)
          go_wp2_with fail
          go_ret
          exact ⟨ret_int (by rw [HF.out]; rfl), HB2.out⟩
    · go_enter Try.func53, Try.ntmps53
      go_wp2_with fail
      refine (sSentence_is HT _ hs).mono ?_
      rintro e w1 ⟨rfl, hb⟩
      have HB := Lib.hid hb
      clear hb
      go_wp2_with fail
      go_loopw [5, 6] (fun v i wr => ∃ k : Nat, k ≤ 8 ∧ i = .int .i64 k ∧ v = .int .i64 (trueTo 3 x k) ∧ Below w1.heap.size w1 wr) (fun _ i _ => 8 - (Go.RowKit.intOf i).toNat)
      case atStart => exact ⟨0, Nat.zero_le _, rfl, rfl, Below.refl _ _⟩
      case round =>
        obtain ⟨k, hk, rfl, rfl, hbr⟩ := hrel
        have HBR := Lib.hid hbr
        clear hbr
        by_cases hlt : k < 8
        · have hsup := supports_world HX.out (k := k) hlt
          have htl := trueTo_lt 3 x k (by omega)
          have hp : 2 ^ k ≤ 2 ^ 7 := Nat.pow_le_pow_right (by omega) (by omega)
          have HWP := Lib.hid (wrap_pow (k := k) (by omega))
          obtain ⟨p, HP⟩ : ∃ p : Nat, Hid (2 ^ k = p) := ⟨_, rfl⟩
          obtain ⟨tv, HTV⟩ : ∃ tv : Nat, Hid (trueTo 3 x k = tv) := ⟨_, rfl⟩
          rw [HP.out] at hsup htl hp HWP
          rw [HTV.out] at htl ⊢
          rcases hh : holdsS 3 x (worldS k) with _ | _
          · rw [hh] at hsup
            have HS := Lib.hid (true_skip hh)
            have HSU := Lib.hid hsup
            clear hk hh hsup
            go_wp2_with fail
            rw [HWP.out]
            refine (sSupports_is HSU _ hs).mono ?_
            rintro e w2 ⟨rfl, hb⟩
            have HB2 := Lib.hid (bel_trans HBR.out hb)
            clear hb
            go_wp2_with fail
            refine ⟨⟨k + 1, by omega, by go_num, by rw [← HS.out, HTV.out], HB2.out⟩, ?_⟩
            simp [Go.RowKit.intOf]; omega
          · rw [hh] at hsup
            have HS := Lib.hid (true_add hh)
            have HSU := Lib.hid hsup
            clear hk hh hsup
            go_wp2_with fail
            rw [HWP.out]
            refine (sSupports_is HSU _ hs).mono ?_
            rintro e w2 ⟨rfl, hb⟩
            have HB2 := Lib.hid (bel_trans HBR.out hb)
            clear hb
            go_wp2_with fail
            try rw [HWP.out]
            refine ⟨⟨k + 1, by omega, by go_num, ?_, HB2.out⟩, ?_⟩
            · rw [← HS.out, HTV.out, HP.out]
              first | rw [IntWalk.wrap64_in _ ⟨by omega, by omega⟩]; rfl | rfl
            · simp [Go.RowKit.intOf]; omega
        · obtain rfl : k = 8 := by omega
          have HB2 := Lib.hid (bel_trans HB.out HBR.out)
          go_wp2_with fail
          go_ret
          exact ⟨ret_int (by rw [HF.out]; rfl), HB2.out⟩

end Go.Proofs.Ytmdogidflaplkaa

namespace Go.Proofs.Ytmdogidflaplkaa
open Go.RowKit

theorem bytesN_append (a b : ByteArray) : bytesN (a ++ b) = bytesN a ++ bytesN b := by
  unfold bytesN
  rw [ByteArray.data_append, Array.toList_append, List.map_append]
theorem bytesN_lit (l : List UInt8) : bytesN ⟨l.toArray⟩ = l.map UInt8.toNat := rfl
theorem senT_of {t : Int} {s : ByteArray} {x : Sen} (h1 : 1 ≤ t) (h3 : t ≤ 3) (hl : s.size ≤ 60) (hx : senOk t x = true) (hb : bytesN s = textS x) : senT t s = some x :=
  senOf_iff.2 ⟨h1, h3, by rw [bytesN_len]; exact hl, hx, hb⟩
theorem size1 (b : UInt8) : (ByteArray.mk #[b]).size = 1 := rfl
theorem size2 (b c : UInt8) : (ByteArray.mk #[b, c]).size = 2 := rfl
theorem senT_no {t : Int} {s : ByteArray} {x : Sen} (h : senT t s = some x) (hl : s.size < 60) : senT t (⟨#[33]⟩ ++ s) = some (.no x) := by
  obtain ⟨h1, h3, _, hx, hb⟩ := senT_ok h
  refine senT_of h1 h3 (by rw [ByteArray.size_append, size1]; omega) hx ?_
  rw [bytesN_append, hb]; rfl
theorem senT_nono {t : Int} {s : ByteArray} {x : Sen} (h : senT t s = some x) (hl : s.size < 59) : senT t (⟨#[33, 33]⟩ ++ s) = some (.no (.no x)) := by
  obtain ⟨h1, h3, _, hx, hb⟩ := senT_ok h
  refine senT_of h1 h3 (by rw [ByteArray.size_append, size2]; omega) hx ?_
  rw [bytesN_append, hb]; rfl
theorem senT_ask {t : Int} {s : ByteArray} {x : Sen} (h : senT t s = some x) (hl : s.size < 60) : senT t (⟨#[63]⟩ ++ s) = some (.ask x) := by
  obtain ⟨h1, h3, _, hx, hb⟩ := senT_ok h
  refine senT_of h1 h3 (by rw [ByteArray.size_append, size1]; omega) hx ?_
  rw [bytesN_append, hb]; rfl
theorem senT_if {t : Int} {s u : ByteArray} {x y : Sen} (h : senT t s = some x) (hu : senT t u = some y) (hl : s.size + u.size < 58) : senT t (⟨#[40]⟩ ++ s ++ ⟨#[62]⟩ ++ u ++ ⟨#[41]⟩) = some (.if_ x y) := by
  obtain ⟨h1, h3, _, hx, hb⟩ := senT_ok h
  obtain ⟨_, _, _, hy, hc⟩ := senT_ok hu
  refine senT_of h1 h3 (by simp only [ByteArray.size_append, size1]; omega) (by unfold senOk; rw [hx, hy]; rfl) ?_
  simp only [bytesN_append, hb, hc, textS, List.append_assoc]; rfl

theorem issueT_ok {t : Int} {s : ByteArray} {x : Sen} (h : senT t s = some x) : issueOkB t (issueT t s) = true := by
  obtain ⟨h1, h3, _, _, _⟩ := senT_ok h
  rw [(issueT_some h).1]; exact sen_issue h1 h3 x
theorem issueT_len (t : Int) (s : ByteArray) : (issueT t s).length ≤ 70 := by
  rcases h : senT t s with _ | x
  · rw [(issueT_none h).1]; simp
  · exact (issue_ne (issueT_ok h)).2
theorem issueT_nono {t : Int} {s : ByteArray} {x : Sen} (h : senT t s = some x) (hl : s.size < 59) : issueT t (⟨#[33, 33]⟩ ++ s) = [unionI (issueT t s)] := by
  rw [(issueT_some (senT_nono h hl)).1, (issueT_some h).1]
  obtain ⟨h1, h3, _, _, _⟩ := senT_ok h
  exact law_notnot (sen_issue h1 h3 x)
theorem issueT_ask {t : Int} {s : ByteArray} {x : Sen} (h : senT t s = some x) (hl : s.size < 60) : grantedI t (issueT t (⟨#[63]⟩ ++ s)) = allOf t := by
  rw [granted_ok (issueT_ok (senT_ask h hl)), (issueT_some (senT_ask h hl)).1]
  obtain ⟨h1, h3, _, _, _⟩ := senT_ok h
  exact law_whether_all (sen_issue h1 h3 x)
theorem statement_union {t : Int} {xs : List Int} (h : issueOkB t xs = true) : statementL t (unionI xs) = [unionI xs] := by
  unfold statementL; rw [union_ok h]; rfl
theorem supports_settles {t k : Int} {s : ByteArray} {x : Sen} (h : senT t s = some x) (hk : setOkB t k = true) : settlesB t (issueT t s) k = supportsT t k s := by
  obtain ⟨h1, h3, _, _, _⟩ := senT_ok h
  obtain ⟨_, _, h0, ha, _⟩ := setOkB_lt hk
  rw [settles_any (issueT_ok h) h0 ha, (issueT_some h).1, ← support_settle h1 h3 x k h0 ha]
  unfold supportsT
  rw [h]; simp only [hk, Bool.true_and]
theorem supports_down {t k : Int} {s : ByteArray} (h : supportsT t k s = true) (b : Int) : supportsT t (andI k b) s = true := by
  rcases hx : senT t s with _ | x
  · unfold supportsT at h; rw [hx] at h; cases h
  obtain ⟨h1, h3, _, _, _⟩ := senT_ok hx
  have hk : setOkB t k = true := by unfold supportsT at h; rw [hx] at h; simp only [Bool.and_eq_true] at h; exact h.1
  obtain ⟨_, _, h0, ha, _⟩ := setOkB_lt hk
  have hk2 : setOkB t (andI k b) = true := andI_ok hk
  obtain ⟨_, _, g0, ga, _⟩ := setOkB_lt hk2
  rw [← supports_settles hx hk, settles_any (issueT_ok hx) h0 ha] at h
  rw [← supports_settles hx hk2, settles_any (issueT_ok hx) g0 ga]
  exact any_down g0 h0 (within_andI_left k b) h
theorem plain_some {t : Int} {s : ByteArray} (h : plainT t s = true) : ∃ x, senT t s = some x ∧ plainS x = true := by
  unfold plainT at h
  rcases hx : senT t s with _ | x
  · rw [hx] at h; cases h
  · rw [hx] at h; exact ⟨x, rfl, h⟩
theorem trueT_some {t : Int} {s : ByteArray} {x : Sen} (h : senT t s = some x) : trueT t s = unionI (issueT t s) := by
  obtain ⟨h1, h3, _, _, _⟩ := senT_ok h
  unfold trueT; rw [h, (issueT_some h).1]; exact true_granted h1 h3 x
theorem trueT_none {t : Int} {s : ByteArray} (h : senT t s = none) : trueT t s = -1 := by unfold trueT; rw [h]
theorem plain_law {t : Int} {s : ByteArray} (h : plainT t s = true) : statementL t (trueT t s) = issueT t s := by
  obtain ⟨x, hx, hp⟩ := plain_some h
  obtain ⟨h1, h3, _, _, _⟩ := senT_ok hx
  rw [trueT_some hx, statement_union (issueT_ok hx), (issueT_some hx).1]
  exact (plain_granted h1 h3 hp).symm
theorem true_no {t : Int} {s : ByteArray} {x : Sen} (h : senT t s = some x) (hl : s.size < 60) : trueT t (⟨#[33]⟩ ++ s) = allOf t - trueT t s := by
  obtain ⟨h1, h3, _, _, _⟩ := senT_ok h
  have hi := sen_issue h1 h3 x
  rw [trueT_some h, trueT_some (senT_no h hl), (issueT_some (senT_no h hl)).1, (issueT_some h).1]
  show unionI (notL t (issueS t x)) = _
  have := union_all hi
  rw [law_not hi, union_one (by omega)]
theorem true_range {t : Int} {s : ByteArray} {x : Sen} (h : senT t s = some x) : 0 ≤ trueT t s ∧ trueT t s ≤ allOf t := by
  rw [trueT_some h]; exact union_all (issueT_ok h)
theorem entails_some {t : Int} {s u : ByteArray} {x y : Sen} (h : senT t s = some x) (hu : senT t u = some y) : entailsT t s u = followsB t (issueT t s) (issueT t u) := by
  unfold entailsT; rw [h, hu, (issueT_some h).1, (issueT_some hu).1]
theorem entails_within {t : Int} {s u : ByteArray} (h : entailsT t s u = true) : withinB (trueT t s) (trueT t u) = true := by
  rcases hx : senT t s with _ | x
  · unfold entailsT at h; rw [hx] at h; cases h
  rcases hy : senT t u with _ | y
  · unfold entailsT at h; rw [hx, hy] at h; cases h
  rw [entails_some hx hy] at h
  rw [trueT_some hx, trueT_some hy]
  exact follows_union (issueT_ok hx) (issueT_ok hy) h
theorem entails_supports {t : Int} {s u : ByteArray} {x y : Sen} (h : senT t s = some x) (hu : senT t u = some y) (hl : s.size + u.size < 58) :
    supportsT t (allOf t) (⟨#[40]⟩ ++ s ++ ⟨#[62]⟩ ++ u ++ ⟨#[41]⟩) = entailsT t s u := by
  obtain ⟨h1, h3, _, _, _⟩ := senT_ok h
  unfold supportsT
  rw [senT_if h hu hl]
  show (setOkB t (allOf t) && holdsS t (.if_ x y) (allOf t)) = _
  rw [setOk_of h1 h3 (allOf_lt t).1 (Int.le_refl _), Bool.true_and, entails_if h1 h3, entails_some h hu, (issueT_some h).1, (issueT_some hu).1]
theorem entails_no {t : Int} {s u : ByteArray} (h : senT t s = none ∨ senT t u = none) : entailsT t s u = false := by
  unfold entailsT
  rcases h with h | h
  · rw [h]
  · rw [h]; cases senT t s <;> rfl

theorem iIssueOf_is {t : Int} {s : ByteArray} {r : List Int} {b : Bool} (h : Hid (issueT t s = r)) (h2 : Hid (isT t s = b)) (w : World) (hs : s.size ≤ 9223372036854775807) :
    Calls Try.prog 56 #[.int .i64 t, .string s] w (IssueOfPost r b w) := by
  have := iIssueOf t s w hs
  rw [h.out, h2.out] at this; exact this
theorem sSupportsT_is {t k : Int} {s : ByteArray} {b : Bool} (h : Hid (supportsT t k s = b)) (w : World) (hs : s.size ≤ 9223372036854775807) :
    Calls Try.prog 61 #[.int .i64 t, .int .i64 k, .string s] w fun e w' => e = .returned (.bool b) ∧ Below w.heap.size w w' := by
  have := sSupportsT t k s w hs
  rw [h.out] at this; exact this
theorem sTrueIn_is {t : Int} {s : ByteArray} {b : Int} (h : Hid (trueT t s = b)) (w : World) (hs : s.size ≤ 9223372036854775807) :
    Calls Try.prog 53 #[.int .i64 t, .string s] w fun e w' => e = .returned (.int .i64 b) ∧ Below w.heap.size w w' := by
  have := sTrueIn t s w hs
  rw [h.out] at this; exact this
end Go.Proofs.Ytmdogidflaplkaa

namespace Go.Proofs.Ytmdogidflaplkaa
open Go.RowKit

abbrev WS := Nat → Bool
def yesF (s q : WS) : WS := fun w => s w && q w
def noF (s q : WS) : WS := fun w => s w && !q w
def subF (s t : WS) : Prop := ∀ w, s w = true → t w = true
theorem yes_sub {s t : WS} (h : subF s t) (q : WS) : subF (yesF s q) (yesF t q) := fun w hw => by
  unfold yesF at *
  rw [Bool.and_eq_true] at hw ⊢
  exact ⟨h w hw.1, hw.2⟩
theorem no_sub {s t : WS} (h : subF s t) (q : WS) : subF (noF s q) (noF t q) := fun w hw => by
  unfold noF at *
  rw [Bool.and_eq_true] at hw ⊢
  exact ⟨h w hw.1, hw.2⟩
theorem yes_less (s q : WS) : subF (yesF s q) s := fun w hw => by unfold yesF at hw; rw [Bool.and_eq_true] at hw; exact hw.1
theorem no_less (s q : WS) : subF (noF s q) s := fun w hw => by unfold noF at hw; rw [Bool.and_eq_true] at hw; exact hw.1
theorem yes_yes (s q : WS) : yesF (yesF s q) q = yesF s q := by funext w; simp only [yesF]; cases s w <;> cases q w <;> rfl
theorem no_no (s q : WS) : noF (noF s q) q = noF s q := by funext w; simp only [noF]; cases s w <;> cases q w <;> rfl
theorem yes_swap (s p q : WS) : yesF (yesF s p) q = yesF (yesF s q) p := by funext w; simp only [yesF]; cases s w <;> cases p w <;> cases q w <;> rfl
theorem no_swap (s p q : WS) : noF (noF s p) q = noF (noF s q) p := by funext w; simp only [noF]; cases s w <;> cases p w <;> cases q w <;> rfl
theorem yes_no (s p q : WS) : noF (yesF s p) q = yesF (noF s q) p := by funext w; simp only [yesF, noF]; cases s w <;> cases p w <;> cases q w <;> rfl

section
variable (St : WS → Prop) (asks : List WS)
/-- So many questions settle it, whatever the answers are. -/
def canF : Nat → WS → Prop
  | 0, s => St s
  | d + 1, s => St s ∨ ∃ q ∈ asks, canF d (yesF s q) ∧ canF d (noF s q)
/-- All questions of a list, one behind the other, settle it. -/
def allF : List WS → WS → Prop
  | [], s => St s
  | q :: qs, s => allF qs (yesF s q) ∧ allF qs (noF s q)
end
section
variable {St : WS → Prop} {asks : List WS}
theorem can_step : ∀ {d : Nat} {s : WS}, canF St asks d s → canF St asks (d + 1) s
  | 0, _, h => .inl h
  | d + 1, s, h => by
    rcases h with h | ⟨q, hq, h1, h2⟩
    · exact .inl h
    · exact .inr ⟨q, hq, can_step h1, can_step h2⟩
theorem can_le {d e : Nat} (hde : d ≤ e) {s : WS} (h : canF St asks d s) : canF St asks e s := by
  induction hde with
  | refl => exact h
  | step _ ih => exact can_step ih
theorem can_sub (hdown : ∀ s t, subF s t → St t → St s) : ∀ {d : Nat} {s t : WS}, subF s t → canF St asks d t → canF St asks d s
  | 0, s, t, hs, h => hdown s t hs h
  | d + 1, s, t, hs, h => by
    rcases h with h | ⟨q, hq, h1, h2⟩
    · exact .inl (hdown s t hs h)
    · exact .inr ⟨q, hq, can_sub hdown (yes_sub hs q) h1, can_sub hdown (no_sub hs q) h2⟩
theorem can_more {asks' : List WS} (ha : ∀ q ∈ asks, q ∈ asks') : ∀ {d : Nat} {s : WS}, canF St asks d s → canF St asks' d s
  | 0, _, h => h
  | d + 1, s, h => by
    rcases h with h | ⟨q, hq, h1, h2⟩
    · exact .inl h
    · exact .inr ⟨q, ha q hq, can_more ha h1, can_more ha h2⟩
theorem all_of_settled (hdown : ∀ s t, subF s t → St t → St s) : ∀ (qs : List WS) {s : WS}, St s → allF St qs s
  | [], _, h => h
  | q :: qs, s, h => ⟨all_of_settled hdown qs (hdown _ s (yes_less s q) h), all_of_settled hdown qs (hdown _ s (no_less s q) h)⟩
theorem all_join : ∀ (qs : List WS) {s q : WS}, q ∈ qs → allF St qs (yesF s q) → allF St qs (noF s q) → allF St qs s
  | [], _, _, hq, _, _ => by cases hq
  | p :: ps, s, q, hq, h1, h2 => by
    obtain ⟨a1, a2⟩ := h1
    obtain ⟨b1, b2⟩ := h2
    by_cases hp : q ∈ ps
    · exact ⟨all_join ps hp (by rw [yes_swap]; exact a1) (by rw [yes_no]; exact b1), all_join ps hp (by rw [← yes_no]; exact a2) (by rw [no_swap]; exact b2)⟩
    · obtain rfl : q = p := by
        rcases List.mem_cons.1 hq with h | h
        · exact h
        · exact absurd h hp
      rw [yes_yes] at a1
      rw [no_no] at b2
      exact ⟨a1, b2⟩
theorem all_of_can (hdown : ∀ s t, subF s t → St t → St s) : ∀ {d : Nat} {s : WS}, canF St asks d s → allF St asks s
  | 0, _, h => all_of_settled hdown asks h
  | d + 1, s, h => by
    rcases h with h | ⟨q, hq, h1, h2⟩
    · exact all_of_settled hdown asks h
    · exact all_join asks hq (all_of_can hdown h1) (all_of_can hdown h2)
theorem can_of_all : ∀ (qs : List WS), (∀ q ∈ qs, q ∈ asks) → ∀ {s : WS}, allF St qs s → canF St asks qs.length s
  | [], _, _, h => h
  | q :: qs, ha, _, h => .inr ⟨q, ha q List.mem_cons_self, can_of_all qs (fun p hp => ha p (List.mem_cons_of_mem _ hp)) h.1, can_of_all qs (fun p hp => ha p (List.mem_cons_of_mem _ hp)) h.2⟩
/-- More questions than there are never help. -/
theorem can_bound (hdown : ∀ s t, subF s t → St t → St s) {d : Nat} {s : WS} (h : canF St asks d s) : canF St asks asks.length s :=
  can_of_all asks (fun _ h => h) (all_of_can hdown h)
end

/-- The least one of what is told of a list's elements, where it is told. -/
def leastOf (v : Int → Int) (b q : Int) : Int := if 0 ≤ v q ∧ (b < 0 ∨ v q < b) then v q else b
theorem least_fold (v : Int → Int) : ∀ (qs : List Int) (b : Int), (qs.foldl (leastOf v) b = b ∨ ∃ q ∈ qs, qs.foldl (leastOf v) b = v q ∧ 0 ≤ v q) ∧ (∀ q ∈ qs, 0 ≤ v q → 0 ≤ qs.foldl (leastOf v) b ∧ qs.foldl (leastOf v) b ≤ v q) ∧
    (0 ≤ b → 0 ≤ qs.foldl (leastOf v) b ∧ qs.foldl (leastOf v) b ≤ b)
  | [], b => ⟨.inl rfl, (fun q h => absurd h List.not_mem_nil), fun h => ⟨h, Int.le_refl _⟩⟩
  | q :: qs, b => by
    obtain ⟨h1, h2, h3⟩ := least_fold v qs (leastOf v b q)
    rw [List.foldl_cons]
    generalize hr : qs.foldl (leastOf v) (leastOf v b q) = r at *
    unfold leastOf at h1 h3
    refine ⟨?_, ?_, ?_⟩
    · rcases h1 with h1 | ⟨p, hp, hpv, hp0⟩
      · by_cases hc : 0 ≤ v q ∧ (b < 0 ∨ v q < b)
        · rw [if_pos hc] at h1; exact .inr ⟨q, List.mem_cons_self, h1, hc.1⟩
        · rw [if_neg hc] at h1; exact .inl h1
      · exact .inr ⟨p, List.mem_cons_of_mem _ hp, hpv, hp0⟩
    · intro p hp hp0
      rcases List.mem_cons.1 hp with rfl | hp
      · by_cases hc : 0 ≤ v p ∧ (b < 0 ∨ v p < b)
        · rw [if_pos hc] at h3; exact h3 hc.1
        · rw [if_neg hc] at h3
          have hb : 0 ≤ b ∧ b ≤ v p := by
            constructor <;> (apply Classical.byContradiction; intro hn; apply hc; omega)
          have := h3 hb.1; omega
      · exact h2 p hp hp0
    · intro hb
      by_cases hc : 0 ≤ v q ∧ (b < 0 ∨ v q < b)
      · rw [if_pos hc] at h3; have := h3 hc.1; omega
      · rw [if_neg hc] at h3; exact h3 hb
theorem sub_bit : ∀ (i n m : Nat), (n - (n &&& m)).testBit i = (n.testBit i && !m.testBit i)
  | 0, n, m => by
    have h := @Nat.and_mod_two_eq_one n m
    have hle : n &&& m ≤ n := Nat.and_le_left
    rw [Nat.testBit_zero, Nat.testBit_zero, Nat.testBit_zero]
    generalize n &&& m = k at *
    rw [Bool.eq_iff_iff]
    simp only [decide_eq_true_eq, Bool.and_eq_true, Bool.not_eq_true', decide_eq_false_iff_not]
    omega
  | i + 1, n, m => by
    have h := @Nat.and_mod_two_eq_one n m
    have hle : n &&& m ≤ n := Nat.and_le_left
    have hd : (n &&& m) / 2 = n / 2 &&& m / 2 := Nat.and_div_two
    have e : (n - (n &&& m)) / 2 = n / 2 - (n / 2 &&& m / 2) := by
      rw [← hd]
      generalize n &&& m = k at *
      omega
    rw [Nat.testBit_succ, Nat.testBit_succ, Nat.testBit_succ, e]
    exact sub_bit i (n / 2) (m / 2)
theorem has_sub {s q : Int} (w : Nat) (hs : 0 ≤ s) : hasW (s - andI s q) w = (hasW s w && !hasW q w) := by
  unfold hasW andI
  have hle : s.toNat &&& q.toNat ≤ s.toNat := Nat.and_le_left
  rw [show (s - ((s.toNat &&& q.toNat : Nat) : Int)).toNat = s.toNat - (s.toNat &&& q.toNat) by omega]
  exact sub_bit w s.toNat q.toNat
theorem sub_pos {s q : Int} (hs : 0 ≤ s) : 0 ≤ s - andI s q := by
  unfold andI
  have hle : s.toNat &&& q.toNat ≤ s.toNat := Nat.and_le_left
  omega
end Go.Proofs.Ytmdogidflaplkaa
