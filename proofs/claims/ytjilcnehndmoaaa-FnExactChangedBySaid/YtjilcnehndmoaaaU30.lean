/-
  What the proofs of this seat's statements share (LdsL, LdsT, LdsU).
-/
import Derived.Test.YtjilcnehndmoaaaU22
import Derived.Test.YtjilcnehndmoaaaU24
import Derived.Test.YtjilcnehndmoaaaU25
import Derived.Test.YtjilcnehndmoaaaU26
import Derived.Test.YtjilcnehndmoaaaU27
import Derived.Test.YtjilcnehndmoaaaU28
import Derived.Test.YtjilcnehndmoaaaU29
import Derived.Test.YtjilcnehndmoaaaU21

namespace Go.Proofs.Ytjilcnehndmoaaa
open Go.RowKit

theorem sBoth8 {a b g : Int} (h : Hid (andI a b = g)) (ha : 0 ≤ a) (ha2 : a < 256) (hb : 0 ≤ b) (hb2 : b < 256) (w : World) :
    Calls Try.prog 43 #[.int .i64 a, .int .i64 b] w fun e w' => e = .returned (.int .i64 g) ∧ ∃ n, w' = w.drewN n := by
  have := sBothS a b ha ha2 hb hb2 w
  rw [h.out] at this; exact this
set_option maxRecDepth 100000 in
set_option maxHeartbeats 8000000 in
theorem sLd_letter (t : Int) (s : ByteArray) (at_ : Nat) (v : Int) (w : World) (hs : s.size ≤ 1048576) (hv : VR t v) (hat : at_ < s.size) (i : Nat) (hc : s[at_].toNat = 97 + i) (h1 : 1 ≤ t) (h3 : t ≤ 3) (hi : (i : Int) < t) :
    Calls Try.prog 39 #[.int .i64 t, .int .i64 v, .string s, .int .i64 at_] w (DSome t s (.thing i) ((bytesN s).drop (at_ + 1)) v w) := by
  have hd : (at_ : Int) < (s.size : Int) := by omega
  have hd0 : (0 : Int) ≤ (at_ : Int) := by omega
  have HH := Lib.hid hv
  have hv2 := hv.lt
  have HV := Lib.hid (val_thing (t := t) (v := v) (i := i))
  rw [← word_thing h1 h3 hi] at HV
  clear hv
  have h : (t = 1 ∧ i = 0) ∨ (t = 2 ∧ i = 0) ∨ (t = 2 ∧ i = 1) ∨ (t = 3 ∧ i = 0) ∨ (t = 3 ∧ i = 1) ∨ (t = 3 ∧ i = 2) := by omega
  clear h1 h3 hi
  rcases h with ⟨rfl, rfl⟩ | ⟨rfl, rfl⟩ | ⟨rfl, rfl⟩ | ⟨rfl, rfl⟩ | ⟨rfl, rfl⟩ | ⟨rfl, rfl⟩
  · have hc : s[at_].toNat = 97 := hc
    have hb : Hid (∀ k : Nat, k < 2 → k = 0 ∨ k = 1 ∨ k = 2 ∨ k = 3 ∨ k = 4 ∨ k = 5 ∨ k = 6 ∨ k = 7) := fun k hk => by omega
    have HV : Hid (valV 1 (.thing (97 - 97)) v = if v < 0 then -1 else andI v (wordTo 97 2 : Int)) := HV
    go_enter Try.func39, Try.ntmps39
    go_wp2_with fail
    go_loop [10, 11] (fun v i => ∃ k : Nat, k ≤ 2 ∧ i = .int .i64 k ∧ v = .int .i64 (wordTo 97 k)) (fun _ i => 2 - (Go.RowKit.intOf i).toNat)
    case atStart => exact ⟨0, Nat.zero_le _, rfl, rfl⟩
    case round =>
      obtain ⟨k, hk, rfl, rfl⟩ := hrel
      by_cases hlt : k < 2
      · have h8 := hb.out k hlt
        clear hk
        rcases h8 with rfl | rfl | rfl | rfl | rfl | rfl | rfl | rfl
        all_goals first
          | (exfalso; revert hlt; decide)
          | (clear hlt
             go_wp2_with fail
             exact ⟨⟨_, by decide, rfl, by first | rfl | (rw [IntWalk.wrap64_in _ ⟨by decide, by decide⟩]; rfl)⟩, by decide⟩)
      · obtain rfl : k = 2 := by omega
        by_cases hneg : v < 0
        · have HV2 := Lib.hid HV.out
          rw [if_pos hneg] at HV2
          clear HV
          go_wp2_with fail
          go_ret2
          exact DSome.one HH.out HV2.out hat ⟨0, rfl⟩ (by omega)
        · have HV2 := Lib.hid HV.out
          rw [if_neg hneg] at HV2
          have hneg2 : decide (v < 0) = false := decide_eq_false hneg
          have hge : 0 ≤ v := by omega
          obtain ⟨r, HRR⟩ : ∃ r, Hid (andI v (wordTo 97 2 : Int) = r) := ⟨_, rfl⟩
          rw [HRR.out] at HV2
          clear HV
          go_wp2_with fail
          refine (sBoth8 HRR hge (by omega) (by decide) (by decide) _).mono ?_
          rintro e w1 ⟨rfl, q, rfl⟩
          go_wp2_with fail
          go_ret2
          exact DSome.one HH.out HV2.out hat ⟨_, rfl⟩ (by omega)
  · have hc : s[at_].toNat = 97 := hc
    have hb : Hid (∀ k : Nat, k < 4 → k = 0 ∨ k = 1 ∨ k = 2 ∨ k = 3 ∨ k = 4 ∨ k = 5 ∨ k = 6 ∨ k = 7) := fun k hk => by omega
    have HV : Hid (valV 2 (.thing (97 - 97)) v = if v < 0 then -1 else andI v (wordTo 97 4 : Int)) := HV
    go_enter Try.func39, Try.ntmps39
    go_wp2_with fail
    go_loop [10, 11] (fun v i => ∃ k : Nat, k ≤ 4 ∧ i = .int .i64 k ∧ v = .int .i64 (wordTo 97 k)) (fun _ i => 4 - (Go.RowKit.intOf i).toNat)
    case atStart => exact ⟨0, Nat.zero_le _, rfl, rfl⟩
    case round =>
      obtain ⟨k, hk, rfl, rfl⟩ := hrel
      by_cases hlt : k < 4
      · have h8 := hb.out k hlt
        clear hk
        rcases h8 with rfl | rfl | rfl | rfl | rfl | rfl | rfl | rfl
        all_goals first
          | (exfalso; revert hlt; decide)
          | (clear hlt
             go_wp2_with fail
             exact ⟨⟨_, by decide, rfl, by first | rfl | (rw [IntWalk.wrap64_in _ ⟨by decide, by decide⟩]; rfl)⟩, by decide⟩)
      · obtain rfl : k = 4 := by omega
        by_cases hneg : v < 0
        · have HV2 := Lib.hid HV.out
          rw [if_pos hneg] at HV2
          clear HV
          go_wp2_with fail
          go_ret2
          exact DSome.one HH.out HV2.out hat ⟨0, rfl⟩ (by omega)
        · have HV2 := Lib.hid HV.out
          rw [if_neg hneg] at HV2
          have hneg2 : decide (v < 0) = false := decide_eq_false hneg
          have hge : 0 ≤ v := by omega
          obtain ⟨r, HRR⟩ : ∃ r, Hid (andI v (wordTo 97 4 : Int) = r) := ⟨_, rfl⟩
          rw [HRR.out] at HV2
          clear HV
          go_wp2_with fail
          refine (sBoth8 HRR hge (by omega) (by decide) (by decide) _).mono ?_
          rintro e w1 ⟨rfl, q, rfl⟩
          go_wp2_with fail
          go_ret2
          exact DSome.one HH.out HV2.out hat ⟨_, rfl⟩ (by omega)
  · have hc : s[at_].toNat = 98 := hc
    have hb : Hid (∀ k : Nat, k < 4 → k = 0 ∨ k = 1 ∨ k = 2 ∨ k = 3 ∨ k = 4 ∨ k = 5 ∨ k = 6 ∨ k = 7) := fun k hk => by omega
    have HV : Hid (valV 2 (.thing (98 - 97)) v = if v < 0 then -1 else andI v (wordTo 98 4 : Int)) := HV
    go_enter Try.func39, Try.ntmps39
    go_wp2_with fail
    go_loop [10, 11] (fun v i => ∃ k : Nat, k ≤ 4 ∧ i = .int .i64 k ∧ v = .int .i64 (wordTo 98 k)) (fun _ i => 4 - (Go.RowKit.intOf i).toNat)
    case atStart => exact ⟨0, Nat.zero_le _, rfl, rfl⟩
    case round =>
      obtain ⟨k, hk, rfl, rfl⟩ := hrel
      by_cases hlt : k < 4
      · have h8 := hb.out k hlt
        clear hk
        rcases h8 with rfl | rfl | rfl | rfl | rfl | rfl | rfl | rfl
        all_goals first
          | (exfalso; revert hlt; decide)
          | (clear hlt
             go_wp2_with fail
             exact ⟨⟨_, by decide, rfl, by first | rfl | (rw [IntWalk.wrap64_in _ ⟨by decide, by decide⟩]; rfl)⟩, by decide⟩)
      · obtain rfl : k = 4 := by omega
        by_cases hneg : v < 0
        · have HV2 := Lib.hid HV.out
          rw [if_pos hneg] at HV2
          clear HV
          go_wp2_with fail
          go_ret2
          exact DSome.one HH.out HV2.out hat ⟨0, rfl⟩ (by omega)
        · have HV2 := Lib.hid HV.out
          rw [if_neg hneg] at HV2
          have hneg2 : decide (v < 0) = false := decide_eq_false hneg
          have hge : 0 ≤ v := by omega
          obtain ⟨r, HRR⟩ : ∃ r, Hid (andI v (wordTo 98 4 : Int) = r) := ⟨_, rfl⟩
          rw [HRR.out] at HV2
          clear HV
          go_wp2_with fail
          refine (sBoth8 HRR hge (by omega) (by decide) (by decide) _).mono ?_
          rintro e w1 ⟨rfl, q, rfl⟩
          go_wp2_with fail
          go_ret2
          exact DSome.one HH.out HV2.out hat ⟨_, rfl⟩ (by omega)
  · have hc : s[at_].toNat = 97 := hc
    have hb : Hid (∀ k : Nat, k < 8 → k = 0 ∨ k = 1 ∨ k = 2 ∨ k = 3 ∨ k = 4 ∨ k = 5 ∨ k = 6 ∨ k = 7) := fun k hk => by omega
    have HV : Hid (valV 3 (.thing (97 - 97)) v = if v < 0 then -1 else andI v (wordTo 97 8 : Int)) := HV
    go_enter Try.func39, Try.ntmps39
    go_wp2_with fail
    go_loop [10, 11] (fun v i => ∃ k : Nat, k ≤ 8 ∧ i = .int .i64 k ∧ v = .int .i64 (wordTo 97 k)) (fun _ i => 8 - (Go.RowKit.intOf i).toNat)
    case atStart => exact ⟨0, Nat.zero_le _, rfl, rfl⟩
    case round =>
      obtain ⟨k, hk, rfl, rfl⟩ := hrel
      by_cases hlt : k < 8
      · have h8 := hb.out k hlt
        clear hk
        rcases h8 with rfl | rfl | rfl | rfl | rfl | rfl | rfl | rfl
        all_goals first
          | (exfalso; revert hlt; decide)
          | (clear hlt
             go_wp2_with fail
             exact ⟨⟨_, by decide, rfl, by first | rfl | (rw [IntWalk.wrap64_in _ ⟨by decide, by decide⟩]; rfl)⟩, by decide⟩)
      · obtain rfl : k = 8 := by omega
        by_cases hneg : v < 0
        · have HV2 := Lib.hid HV.out
          rw [if_pos hneg] at HV2
          clear HV
          go_wp2_with fail
          go_ret2
          exact DSome.one HH.out HV2.out hat ⟨0, rfl⟩ (by omega)
        · have HV2 := Lib.hid HV.out
          rw [if_neg hneg] at HV2
          have hneg2 : decide (v < 0) = false := decide_eq_false hneg
          have hge : 0 ≤ v := by omega
          obtain ⟨r, HRR⟩ : ∃ r, Hid (andI v (wordTo 97 8 : Int) = r) := ⟨_, rfl⟩
          rw [HRR.out] at HV2
          clear HV
          go_wp2_with fail
          refine (sBoth8 HRR hge (by omega) (by decide) (by decide) _).mono ?_
          rintro e w1 ⟨rfl, q, rfl⟩
          go_wp2_with fail
          go_ret2
          exact DSome.one HH.out HV2.out hat ⟨_, rfl⟩ (by omega)
  · have hc : s[at_].toNat = 98 := hc
    have hb : Hid (∀ k : Nat, k < 8 → k = 0 ∨ k = 1 ∨ k = 2 ∨ k = 3 ∨ k = 4 ∨ k = 5 ∨ k = 6 ∨ k = 7) := fun k hk => by omega
    have HV : Hid (valV 3 (.thing (98 - 97)) v = if v < 0 then -1 else andI v (wordTo 98 8 : Int)) := HV
    go_enter Try.func39, Try.ntmps39
    go_wp2_with fail
    go_loop [10, 11] (fun v i => ∃ k : Nat, k ≤ 8 ∧ i = .int .i64 k ∧ v = .int .i64 (wordTo 98 k)) (fun _ i => 8 - (Go.RowKit.intOf i).toNat)
    case atStart => exact ⟨0, Nat.zero_le _, rfl, rfl⟩
    case round =>
      obtain ⟨k, hk, rfl, rfl⟩ := hrel
      by_cases hlt : k < 8
      · have h8 := hb.out k hlt
        clear hk
        rcases h8 with rfl | rfl | rfl | rfl | rfl | rfl | rfl | rfl
        all_goals first
          | (exfalso; revert hlt; decide)
          | (clear hlt
             go_wp2_with fail
             exact ⟨⟨_, by decide, rfl, by first | rfl | (rw [IntWalk.wrap64_in _ ⟨by decide, by decide⟩]; rfl)⟩, by decide⟩)
      · obtain rfl : k = 8 := by omega
        by_cases hneg : v < 0
        · have HV2 := Lib.hid HV.out
          rw [if_pos hneg] at HV2
          clear HV
          go_wp2_with fail
          go_ret2
          exact DSome.one HH.out HV2.out hat ⟨0, rfl⟩ (by omega)
        · have HV2 := Lib.hid HV.out
          rw [if_neg hneg] at HV2
          have hneg2 : decide (v < 0) = false := decide_eq_false hneg
          have hge : 0 ≤ v := by omega
          obtain ⟨r, HRR⟩ : ∃ r, Hid (andI v (wordTo 98 8 : Int) = r) := ⟨_, rfl⟩
          rw [HRR.out] at HV2
          clear HV
          go_wp2_with fail
          refine (sBoth8 HRR hge (by omega) (by decide) (by decide) _).mono ?_
          rintro e w1 ⟨rfl, q, rfl⟩
          go_wp2_with fail
          go_ret2
          exact DSome.one HH.out HV2.out hat ⟨_, rfl⟩ (by omega)
  · have hc : s[at_].toNat = 99 := hc
    have hb : Hid (∀ k : Nat, k < 8 → k = 0 ∨ k = 1 ∨ k = 2 ∨ k = 3 ∨ k = 4 ∨ k = 5 ∨ k = 6 ∨ k = 7) := fun k hk => by omega
    have HV : Hid (valV 3 (.thing (99 - 97)) v = if v < 0 then -1 else andI v (wordTo 99 8 : Int)) := HV
    go_enter Try.func39, Try.ntmps39
    go_wp2_with fail
    go_loop [10, 11] (fun v i => ∃ k : Nat, k ≤ 8 ∧ i = .int .i64 k ∧ v = .int .i64 (wordTo 99 k)) (fun _ i => 8 - (Go.RowKit.intOf i).toNat)
    case atStart => exact ⟨0, Nat.zero_le _, rfl, rfl⟩
    case round =>
      obtain ⟨k, hk, rfl, rfl⟩ := hrel
      by_cases hlt : k < 8
      · have h8 := hb.out k hlt
        clear hk
        rcases h8 with rfl | rfl | rfl | rfl | rfl | rfl | rfl | rfl
        all_goals first
          | (exfalso; revert hlt; decide)
          | (clear hlt
             go_wp2_with fail
             exact ⟨⟨_, by decide, rfl, by first | rfl | (rw [IntWalk.wrap64_in _ ⟨by decide, by decide⟩]; rfl)⟩, by decide⟩)
      · obtain rfl : k = 8 := by omega
        by_cases hneg : v < 0
        · have HV2 := Lib.hid HV.out
          rw [if_pos hneg] at HV2
          clear HV
          go_wp2_with fail
          go_ret2
          exact DSome.one HH.out HV2.out hat ⟨0, rfl⟩ (by omega)
        · have HV2 := Lib.hid HV.out
          rw [if_neg hneg] at HV2
          have hneg2 : decide (v < 0) = false := decide_eq_false hneg
          have hge : 0 ≤ v := by omega
          obtain ⟨r, HRR⟩ : ∃ r, Hid (andI v (wordTo 99 8 : Int) = r) := ⟨_, rfl⟩
          rw [HRR.out] at HV2
          clear HV
          go_wp2_with fail
          refine (sBoth8 HRR hge (by omega) (by decide) (by decide) _).mono ?_
          rintro e w1 ⟨rfl, q, rfl⟩
          go_wp2_with fail
          go_ret2
          exact DSome.one HH.out HV2.out hat ⟨_, rfl⟩ (by omega)
end Go.Proofs.Ytjilcnehndmoaaa

namespace Go.Proofs.Ytjilcnehndmoaaa
open Go.RowKit

def DReads (t : Int) (k : Nat) (s : ByteArray) : Prop := ∀ (at_ : Nat) (v : Int) (w : World), VR t v → at_ ≤ s.size → s.size - at_ ≤ k →
  Calls Try.prog 39 #[.int .i64 t, .int .i64 v, .string s, .int .i64 at_] w (DRead t s (readD t k ((bytesN s).drop at_)) v w)
theorem dreads_none {t : Int} {k : Nat} {s : ByteArray} (ih : DReads t k s) {at_ : Nat} {v : Int} (hv : VR t v) (w : World) (hle : at_ ≤ s.size) (hk : s.size - at_ ≤ k) (h : readD t k ((bytesN s).drop at_) = none) :
    Calls Try.prog 39 #[.int .i64 t, .int .i64 v, .string s, .int .i64 at_] w (DNone w) := by
  have := ih at_ v w hv hle hk
  rw [h] at this; exact this
theorem dreads_some {t : Int} {k : Nat} {s : ByteArray} (ih : DReads t k s) {at_ : Nat} {v : Int} (hv : VR t v) (w : World) (hle : at_ ≤ s.size) (hk : s.size - at_ ≤ k) {x : Ld} {rest : List Nat} (h : readD t k ((bytesN s).drop at_) = some (x, rest)) :
    Calls Try.prog 39 #[.int .i64 t, .int .i64 v, .string s, .int .i64 at_] w (DSome t s x rest v w) := by
  have := ih at_ v w hv hle hk
  rw [h] at this; exact this
theorem left_after {t : Int} {k at_ a2 m : Nat} {s : ByteArray} {x : Ld} {l : List Nat} (h : readD t k ((bytesN s).drop (at_ + 1)) = some (x, m :: l)) (e : (bytesN s).drop a2 = l) (hk : s.size - at_ ≤ k + 1) : s.size - a2 ≤ k := by
  have := readD_less t k _ _ _ h
  rw [← e, List.length_cons, List.length_drop, List.length_drop, bytesN_len] at this
  omega
theorem preD_none {t : Int} {k : Nat} {l : List Nat} (h : readD t k l = none) : preD t k l = none := by unfold preD; rw [h]
theorem pairD_none {t : Int} {k : Nat} {l : List Nat} (h : readD t k l = none) : pairD t k l = none := by unfold pairD; rw [h]
theorem preD_end {t : Int} {k : Nat} {l : List Nat} {x : Ld} (h : readD t k l = some (x, [])) : preD t k l = none := by unfold preD; rw [h]
theorem pairD_end {t : Int} {k : Nat} {l : List Nat} {x : Ld} (h : readD t k l = some (x, [])) : pairD t k l = none := by unfold pairD; rw [h]

theorem sLoaded (t : Int) (s : ByteArray) (hs : s.size ≤ 1048576) (h1 : 1 ≤ t) (h3 : t ≤ 3) : ∀ k, DReads t k s := by
  intro k
  induction k with
  | zero =>
    intro at_ v w hv hle hk
    exact sLd_end t s at_ v w hs (by omega)
  | succ k ih =>
    intro at_ v w hv hle hk
    by_cases hlt : at_ < s.size
    · have hd := bytesN_drop hlt
      rw [hd]
      obtain ⟨c, hc⟩ : ∃ c, s[at_].toNat = c := ⟨_, rfl⟩
      rw [hc]
      rcases hb : startD t c with _ | _
      · rw [readD_no t k c _ hb]
        exact sLd_bad t s at_ v w hs hv hlt (by rw [hc]; exact hb)
      · by_cases e33 : c = 33
        · subst e33
          rw [readD_no33]
          rcases g1 : readD t k ((bytesN s).drop (at_ + 1)) with _ | ⟨x, rest⟩
          · exact sLd_no_none t s at_ v w hs hv hlt hc fun W => dreads_none ih hv W (by omega) (by omega) g1
          · exact sLd_no t s at_ v w hs hv hlt hc x rest fun W => dreads_some ih hv W (by omega) (by omega) g1
        by_cases e91 : c = 91
        · subst e91
          rw [readD_pre91]
          rcases g1 : readD t k ((bytesN s).drop (at_ + 1)) with _ | ⟨x, _ | ⟨m, l⟩⟩
          · rw [preD_none g1]
            exact sLd_pre_none t s at_ v w hs hv hlt hc fun W => dreads_none ih hv W (by omega) (by omega) g1
          · rw [preD_end g1]
            exact sLd_pre_end t s at_ v w hs hv hlt hc x fun W => dreads_some ih hv W (by omega) (by omega) g1
          · by_cases hm : m = 93
            · subst hm
              rcases g2 : readD t k l with _ | ⟨y, r⟩
              · rw [show preD t k ((bytesN s).drop (at_ + 1)) = none by unfold preD; rw [g1]; simp only [if_true]; rw [g2]; rfl]
                exact sLd_pre_no t s at_ v w hs hv hlt hc x l (fun W => dreads_some ih hv W (by omega) (by omega) g1) fun a2 u W hu ha e => dreads_none ih hu W ha (left_after g1 e hk) (by rw [e]; exact g2)
              · rw [show preD t k ((bytesN s).drop (at_ + 1)) = some (.pre x y, r) by unfold preD; rw [g1]; simp only [if_true]; rw [g2]; rfl]
                exact sLd_pre t s at_ v w hs hv hlt hc x y l r (fun W => dreads_some ih hv W (by omega) (by omega) g1) fun a2 u W hu ha e => dreads_some ih hu W ha (left_after g1 e hk) (by rw [e]; exact g2)
            · rw [show preD t k ((bytesN s).drop (at_ + 1)) = none by unfold preD; rw [g1]; simp only; rw [if_neg hm]]
              exact sLd_pre_open t s at_ v w hs hv hlt hc x m l (fun W => dreads_some ih hv W (by omega) (by omega) g1) hm
        by_cases e40 : c = 40
        · subst e40
          rw [readD_pair40]
          rcases g1 : readD t k ((bytesN s).drop (at_ + 1)) with _ | ⟨x, _ | ⟨m, l⟩⟩
          · rw [pairD_none g1]
            exact sLd_pair_none t s at_ v w hs hv hlt hc fun W => dreads_none ih hv W (by omega) (by omega) g1
          · rw [pairD_end g1]
            exact sLd_pair_end t s at_ v w hs hv hlt hc x fun W => dreads_some ih hv W (by omega) (by omega) g1
          · have hi := fun W => dreads_some ih hv W (by omega) (by omega) g1
            rcases hm : (decide (m = 38) || decide (m = 124) || decide (m = 62)) with _ | _
            · have hno : pairD t k ((bytesN s).drop (at_ + 1)) = none := by
                unfold pairD
                rw [g1]
                simp only
                split
                · split
                  · rw [twoD_none hm]; rfl
                  · rfl
                · rfl
              rw [hno]
              exact sLd_pair_sign t s at_ v w hs hv hlt hc x m l hi hm
            · have hm3 : m = 38 ∨ m = 124 ∨ m = 62 := by simpa [or_assoc] using hm
              rcases g2 : readD t k l with _ | ⟨y, _ | ⟨e0, r⟩⟩
              · rw [show pairD t k ((bytesN s).drop (at_ + 1)) = none by unfold pairD; rw [g1]; simp only; rw [g2]]
                have hi2 := fun (a2 : Nat) (u : Int) (W : World) (hu : VR t u) (ha : a2 ≤ s.size) (e : (bytesN s).drop a2 = l) => dreads_none ih hu W ha (left_after g1 e hk) (by rw [e]; exact g2)
                rcases hm3 with rfl | rfl | rfl
                · exact sLd_and__no t s at_ v w hs hv hlt hc x l hi hi2
                · exact sLd_or__no t s at_ v w hs hv hlt hc x l hi hi2
                · exact sLd_if__no t s at_ v w hs hv hlt hc x l hi hi2
              · rw [show pairD t k ((bytesN s).drop (at_ + 1)) = none by unfold pairD; rw [g1]; simp only; rw [g2]]
                have hi2 := fun (a2 : Nat) (u : Int) (W : World) (hu : VR t u) (ha : a2 ≤ s.size) (e : (bytesN s).drop a2 = l) => dreads_some ih hu W ha (left_after g1 e hk) (by rw [e]; exact g2)
                rcases hm3 with rfl | rfl | rfl
                · exact sLd_and__end t s at_ v w hs hv hlt hc x y l hi hi2
                · exact sLd_or__end t s at_ v w hs hv hlt hc x y l hi hi2
                · exact sLd_if__end t s at_ v w hs hv hlt hc x y l hi hi2
              · have hi2 := fun (a2 : Nat) (u : Int) (W : World) (hu : VR t u) (ha : a2 ≤ s.size) (e : (bytesN s).drop a2 = l) => dreads_some ih hu W ha (left_after g1 e hk) (by rw [e]; exact g2)
                by_cases he : e0 = 41
                · subst he
                  rcases hm3 with rfl | rfl | rfl
                  · rw [show pairD t k ((bytesN s).drop (at_ + 1)) = some (.and_ x y, r) by unfold pairD; rw [g1]; simp only; rw [g2]; rfl]
                    exact sLd_and_ t s at_ v w hs hv hlt hc x y l r hi hi2
                  · rw [show pairD t k ((bytesN s).drop (at_ + 1)) = some (.or_ x y, r) by unfold pairD; rw [g1]; simp only; rw [g2]; rfl]
                    exact sLd_or_ t s at_ v w hs hv hlt hc x y l r hi hi2
                  · rw [show pairD t k ((bytesN s).drop (at_ + 1)) = some (.if_ x y, r) by unfold pairD; rw [g1]; simp only; rw [g2]; rfl]
                    exact sLd_if_ t s at_ v w hs hv hlt hc x y l r hi hi2
                · rw [show pairD t k ((bytesN s).drop (at_ + 1)) = none by unfold pairD; rw [g1]; simp only; rw [g2]; simp only; rw [if_neg he]]
                  rcases hm3 with rfl | rfl | rfl
                  · exact sLd_and__open t s at_ v w hs hv hlt hc x y l e0 r hi hi2 he
                  · exact sLd_or__open t s at_ v w hs hv hlt hc x y l e0 r hi hi2 he
                  · exact sLd_if__open t s at_ v w hs hv hlt hc x y l e0 r hi hi2 he
        · have hb2 := hb
          unfold startD at hb2
          simp only [Bool.or_eq_true, decide_eq_true_eq] at hb2
          by_cases e49 : c = 49
          · subst e49
            exact sLd_one t s at_ v w hs hv hlt hc
          by_cases e48 : c = 48
          · subst e48
            exact sLd_zero t s at_ v w hs hv hlt hc
          · have h4 : 97 ≤ c ∧ (c : Int) - 97 < t := by omega
            obtain ⟨i, rfl⟩ : ∃ i, c = 97 + i := ⟨c - 97, by omega⟩
            rw [show readD t (k + 1) ((97 + i) :: (bytesN s).drop (at_ + 1)) = some (.thing i, (bytesN s).drop (at_ + 1)) by
              unfold readD
              rw [if_neg e49, if_neg e48, if_pos h4]
              congr 3; omega]
            exact sLd_letter t s at_ v w hs hv hlt i hc h1 h3 (by omega)
    · rw [List.drop_eq_nil_of_le (by rw [bytesN_len]; omega), readD_empty]
      exact sLd_end t s at_ v w hs (by omega)
end Go.Proofs.Ytjilcnehndmoaaa

namespace Go.Proofs.Ytjilcnehndmoaaa
open Go.RowKit

theorem ldT_none_of {t : Int} {s : ByteArray} (h : t < 1 ∨ 3 < t ∨ 60 < s.size) : ldT t s = none := by
  unfold ldT ldOf
  rw [if_neg (by rw [bytesN_len]; omega)]
theorem ldT_read {t : Int} {s : ByteArray} (h1 : 1 ≤ t) (h3 : t ≤ 3) (hs : s.size ≤ 60) : ldT t s = match readD t s.size (bytesN s) with | some (x, []) => some x | _ => none := by
  unfold ldT ldOf
  rw [if_pos (by rw [bytesN_len]; omega), bytesN_len]
  rcases readD t s.size (bytesN s) with _ | ⟨x, _ | ⟨c, r⟩⟩ <;> rfl
theorem ldT_read_some {t : Int} {s : ByteArray} {x : Ld} (h : ldT t s = some x) : 1 ≤ t ∧ t ≤ 3 ∧ s.size ≤ 60 ∧ readD t s.size (bytesN s) = some (x, []) := by
  obtain ⟨h1, h3, hs, _⟩ := ldT_ok h
  rw [ldT_read h1 h3 hs] at h
  refine ⟨h1, h3, hs, ?_⟩
  split at h
  · cases h; assumption
  · cases h
theorem VR.zero (t : Int) : VR t 0 := ⟨by omega, (allOf_lt t).1⟩
theorem VR.set {t k : Int} (h : setOkB t k = true) : VR t k := by
  obtain ⟨_, _, h0, ha, _⟩ := setOkB_lt h
  exact ⟨by omega, ha⟩
def SLdPost (b : Bool) (w : World) (e : Ending) (w' : World) : Prop := e = .returned (.bool b) ∧ ∃ n, w' = w.drewN n

set_option maxRecDepth 100000 in
set_option maxHeartbeats 4000000 in
theorem sLoadedOk (t : Int) (s : ByteArray) (w : World) (hs : s.size ≤ 9223372036854775807) :
    Calls Try.prog 15 #[.int .i64 t, .string s] w (SLdPost (loadedT t s) w) := by
  have hnot : ∀ (x : Bool) (w : World), (Op.unary .not (.bool x)).run Try.prog w = .ok (.bool (!x)) w := fun _ _ => rfl
  by_cases h1 : t < 1 ∨ 3 < t
  · rw [show loadedT t s = false by unfold loadedT; rw [ldT_none_of (by omega)]; rfl]
    have H := Lib.hid h1
    clear h1
    go_enter Try.func15, Try.ntmps15
    go_wp2_with (go_at_call 38; refine (sIn_no _ _ _ _ H.out).mono ?_; rintro e w' ⟨rfl, rfl⟩)
    go_ret
    exact ⟨rfl, 0, rfl⟩
  · have ht1 : 1 ≤ t := by omega
    have ht3 : t ≤ 3 := by omega
    have HIN := Lib.hid (⟨ht1, ht3⟩ : 1 ≤ t ∧ t ≤ 3)
    by_cases h60 : 60 < s.size
    · rw [show loadedT t s = false by unfold loadedT; rw [ldT_none_of (by omega)]; rfl]
      have hd : decide ((60 : Int) < (s.size : Int)) = true := decide_eq_true (by omega)
      clear h1 h60
      go_enter Try.func15, Try.ntmps15
      go_wp2_with (go_at_call 38; refine (sIn_yes _ _ _ _ HIN.out.1 HIN.out.2).mono ?_; rintro e w' ⟨rfl, rfl⟩)
      go_ret
      exact ⟨rfl, 0, rfl⟩
    · have hd : decide ((60 : Int) < (s.size : Int)) = false := decide_eq_false (by omega)
      have hsz : s.size ≤ 60 := by omega
      have hrd := ldT_read (s := s) ht1 ht3 hsz
      have hread := sLoaded t s (by omega) ht1 ht3 s.size 0 0 w (VR.zero t) (by omega) (by omega)
      rw [List.drop_zero] at hread
      rcases hr : readD t s.size (bytesN s) with _ | ⟨x, _ | ⟨c, r⟩⟩
      · rw [hr] at hrd hread
        rw [show loadedT t s = false by unfold loadedT; rw [hrd]; rfl]
        have HI : Hid (Calls Try.prog 39 #[.int .i64 t, .int .i64 0, .string s, .int .i64 0] w (DNone w)) := hread
        have hne : ((-1 : Int) == (s.size : Int)) = false := by rw [beq_eq_false_iff_ne]; omega
        clear hread hrd hr h60 h1
        go_enter Try.func15, Try.ntmps15
        go_wp2_with (first
          | (go_at_call 38; refine (sIn_yes _ _ _ _ HIN.out.1 HIN.out.2).mono ?_; rintro e w' ⟨rfl, rfl⟩)
          | (go_at_call 39; refine HI.out.mono ?_; clear HI; rintro e w' ⟨rfl, q, rfl⟩))
        go_ret
        exact ⟨rfl, _, rfl⟩
      · rw [hr] at hrd hread
        rw [show loadedT t s = true by unfold loadedT; rw [hrd]; rfl]
        have HI : Hid (Calls Try.prog 39 #[.int .i64 t, .int .i64 0, .string s, .int .i64 0] w (DSome t s x [] 0 w)) := hread
        clear hread hrd hr h60 h1
        have hee : ((s.size : Int) == (s.size : Int)) = true := by simp
        go_enter Try.func15, Try.ntmps15
        go_wp2_with (first
          | (go_at_call 38; refine (sIn_yes _ _ _ _ HIN.out.1 HIN.out.2).mono ?_; rintro e w' ⟨rfl, rfl⟩)
          | (go_at_call 39; refine HI.out.mono ?_; clear HI; rintro e w' ⟨u, a2, rfl, _, _, _, ha2, hdr, q, rfl⟩; obtain rfl := drop_end hdr ha2; clear hdr))
        go_ret
        exact ⟨rfl, _, rfl⟩
      · rw [hr] at hrd hread
        rw [show loadedT t s = false by unfold loadedT; rw [hrd]; rfl]
        have HI : Hid (Calls Try.prog 39 #[.int .i64 t, .int .i64 0, .string s, .int .i64 0] w (DSome t s x (c :: r) 0 w)) := hread
        clear hread hrd hr h60 h1
        go_enter Try.func15, Try.ntmps15
        go_wp2_with (first
          | (go_at_call 38; refine (sIn_yes _ _ _ _ HIN.out.1 HIN.out.2).mono ?_; rintro e w' ⟨rfl, rfl⟩)
          | (go_at_call 39; refine HI.out.mono ?_; clear HI; rintro e w' ⟨u, a2, rfl, _, _, _, ha2, hdr, q, rfl⟩; obtain ⟨hlt, _, _⟩ := drop_lt hdr; have hne : ((a2 : Int) == (s.size : Int)) = false := (by rw [beq_eq_false_iff_ne]; omega); clear hdr))
        go_ret
        exact ⟨rfl, _, rfl⟩
theorem sLoadedOk_is {t : Int} {s : ByteArray} {b : Bool} (h : Hid (loadedT t s = b)) (w : World) (hs : s.size ≤ 9223372036854775807) :
    Calls Try.prog 15 #[.int .i64 t, .string s] w fun e w' => e = .returned (.bool b) ∧ ∃ n, w' = w.drewN n :=
  (sLoadedOk t s w hs).mono fun _ _ ⟨he, hw⟩ => ⟨he.trans (ret_bool h.out), hw⟩

def SChgPost (o : Option Int) (w : World) (e : Ending) (w' : World) : Prop := e = .returned (.tuple #[.int .i64 (o.getD (-1)), .bool o.isSome]) ∧ ∃ n, w' = w.drewN n
theorem SChgPost.no {o : Option Int} (h : o = none) {w w' : World} (hb : ∃ n, w' = w.drewN n) : SChgPost o w (.returned (.tuple #[.int .i64 (-1), .bool false])) w' := by subst h; exact ⟨rfl, hb⟩
theorem SChgPost.yes {o : Option Int} {u : Int} (h : o = some u) {w w' : World} (hb : ∃ n, w' = w.drewN n) : SChgPost o w (.returned (.tuple #[.int .i64 u, .bool true])) w' := by subst h; exact ⟨rfl, hb⟩
theorem val_neg {t : Int} {x : Ld} {v u : Int} (h0 : 0 ≤ v) (h8 : v < 256) (h : valV t x v = u) (hu : u < 0) : chgI t x v = none := by
  cases hc : chgI t x v with
  | none => rfl
  | some z =>
    have := chg_range h0 h8 hc
    rw [val_some h0 hc] at h
    omega
theorem val_pos {t : Int} {x : Ld} {v u : Int} (h0 : 0 ≤ v) (h : valV t x v = u) (hu : 0 ≤ u) : chgI t x v = some u := by
  cases hc : chgI t x v with
  | none => rw [val_none hc] at h; omega
  | some z => rw [val_some h0 hc] at h; rw [h]

set_option maxRecDepth 100000 in
set_option maxHeartbeats 4000000 in
theorem sChangedBy (t k : Int) (s : ByteArray) (w : World) (hs : s.size ≤ 9223372036854775807) :
    Calls Try.prog 19 #[.int .i64 t, .int .i64 k, .string s] w (SChgPost (changedT t k s) w) := by
  have hnot : ∀ (x : Bool) (w : World), (Op.unary .not (.bool x)).run Try.prog w = .ok (.bool (!x)) w := fun _ _ => rfl
  rcases hset : setOkB t k with _ | _
  · have HS := Lib.hid hset
    have HC : Hid (changedT t k s = none) := by
      unfold Hid changedT
      split
      · rw [hset]; rfl
      · rfl
    clear hset
    go_enter Try.func19, Try.ntmps19
    go_wp2_with (go_at_call 21; refine (sSetOk_is HS _).mono ?_; rintro e w' ⟨rfl, rfl⟩)
    go_ret2
    exact SChgPost.no HC.out ⟨0, rfl⟩
  · have HS := Lib.hid hset
    rcases hx : ldT t s with _ | x
    · have HL : Hid (loadedT t s = false) := by unfold Hid loadedT; rw [hx]; rfl
      have HC : Hid (changedT t k s = none) := by unfold Hid changedT; rw [hx]
      clear hset hx
      go_enter Try.func19, Try.ntmps19
      go_wp2_with (first
        | (go_at_call 21; refine (sSetOk_is HS _).mono ?_; rintro e w' ⟨rfl, rfl⟩)
        | (go_at_call 15; refine (sLoadedOk_is HL _ hs).mono ?_; rintro e w' ⟨rfl, q, rfl⟩))
      go_ret2
      exact SChgPost.no HC.out ⟨_, rfl⟩
    · have HL : Hid (loadedT t s = true) := by unfold Hid loadedT; rw [hx]; rfl
      have HC : Hid (changedT t k s = chgI t x k) := by unfold Hid changedT; rw [hx]; simp only; rw [hset]; rfl
      obtain ⟨_, _, hk0, hka, hk8⟩ := setOkB_lt hset
      obtain ⟨h1, h3, hs60, hr⟩ := ldT_read_some hx
      have HI : Hid (∀ W, Calls Try.prog 39 #[.int .i64 t, .int .i64 k, .string s, .int .i64 0] W (DSome t s x [] k W)) := fun W => by
        have hread := sLoaded t s (by omega) h1 h3 s.size 0 k W (VR.set hset) (by omega) (by omega)
        rw [List.drop_zero, hr] at hread
        exact hread
      clear hset hx hr
      go_enter Try.func19, Try.ntmps19
      go_wp2_with (first
        | (go_at_call 21; refine (sSetOk_is HS _).mono ?_; rintro e w' ⟨rfl, rfl⟩)
        | (go_at_call 15; refine (sLoadedOk_is HL _ hs).mono ?_; rintro e w' ⟨rfl, q, rfl⟩))
      refine (HI.out _).mono ?_
      rintro e w' ⟨u, a2, rfl, HU, hu, hu2, ha2, hdr, q2, rfl⟩
      have hu3 := hu.1
      clear hdr hu hu2
      by_cases hneg : u < 0
      · have HN := Lib.hid (HC.out.trans (val_neg hk0 hk8 HU.out hneg))
        go_wp2_with fail
        go_ret2
        exact SChgPost.no HN.out ⟨_, by first | rfl | rw [World.drewN_drewN]⟩
      · have HN := Lib.hid (HC.out.trans (val_pos hk0 HU.out (by omega)))
        have hd : decide (u < 0) = false := decide_eq_false hneg
        go_wp2_with fail
        go_ret2
        exact SChgPost.yes HN.out ⟨_, by first | rfl | rw [World.drewN_drewN]⟩
end Go.Proofs.Ytjilcnehndmoaaa
