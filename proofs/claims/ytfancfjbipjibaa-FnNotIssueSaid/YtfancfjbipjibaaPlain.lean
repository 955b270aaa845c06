/-
  Contracts of the functions that only compute: numbers of worlds, sets.
-/
import Derived.Test.YtfancfjbipjibaaRows
import Derived.Test.YtfancfjbipjibaaMath
import Derived.WalkKit
import Derived.WalkSpells
import Derived.WalkLawsBesides
import Derived.Lib.Hide
import Derived.BigQuiet
import Derived.Deep.QuietTactic
import Derived.LoopTactic
import Derived.IntWalk
namespace Go.Proofs.Ytfancfjbipjibaa
open Go.RowKit

theorem ret_int {k : IntKind} {a b : Int} (h : a = b) : Ending.returned (.int k a) = .returned (.int k b) := by rw [h]
theorem ret_bool {a b : Bool} (h : a = b) : Ending.returned (.bool a) = .returned (.bool b) := by rw [h]

set_option maxHeartbeats 400000 in
theorem iWorldsOf (t : Int) (w : World) : Calls Try.prog 61 #[.int .i64 t] w fun e w' => e = .returned (.int .i64 (worldsOf t)) ∧ w = w' := by
  by_cases h1 : t < 1
  · go_enter Try.func61, Try.ntmps61
    go_wp2
    go_ret
    exact ⟨ret_int (by rw [worldsOf_bad (by omega)]), rfl⟩
  · by_cases h3 : 3 < t
    · go_enter Try.func61, Try.ntmps61
      go_wp2
      go_ret
      exact ⟨ret_int (by rw [worldsOf_bad (by omega)]), rfl⟩
    · have h : t = 1 ∨ t = 2 ∨ t = 3 := by omega
      clear h1 h3
      rcases h with rfl | rfl | rfl
      all_goals
        go_enter Try.func61, Try.ntmps61
        go_wp2
        go_ret
        exact ⟨rfl, rfl⟩

def inB (n a b : Int) : Bool := decide (a ≤ n ∧ n ≤ b)
set_option maxHeartbeats 400000 in
theorem sIn (n a b : Int) (w : World) : Calls Try.prog 72 #[.int .i64 n, .int .i64 a, .int .i64 b] w fun e w' => e = .returned (.bool (inB n a b)) ∧ w = w' := by
  by_cases h1 : a ≤ n
  · go_enter Try.func72, Try.ntmps72
    go_wp2
    go_ret
    exact ⟨ret_bool (by simp [inB, h1]), rfl⟩
  · go_enter Try.func72, Try.ntmps72
    go_wp2
    go_ret
    exact ⟨ret_bool (by simp [inB]; omega), rfl⟩
theorem sIn_yes (n a b : Int) (w : World) (h1 : a ≤ n) (h2 : n ≤ b) : Calls Try.prog 72 #[.int .i64 n, .int .i64 a, .int .i64 b] w fun e w' => e = .returned (.bool true) ∧ w = w' :=
  (sIn n a b w).mono fun _ _ ⟨he, hw⟩ => ⟨he.trans (ret_bool (by simp [inB, h1, h2])), hw⟩
theorem sIn_no (n a b : Int) (w : World) (h : n < a ∨ b < n) : Calls Try.prog 72 #[.int .i64 n, .int .i64 a, .int .i64 b] w fun e w' => e = .returned (.bool false) ∧ w = w' :=
  (sIn n a b w).mono fun _ _ ⟨he, hw⟩ => ⟨he.trans (ret_bool (by simp [inB]; omega)), hw⟩

set_option maxHeartbeats 400000 in
theorem sAll (t : Int) (w : World) (h1 : 1 ≤ t) (h3 : t ≤ 3) : Calls Try.prog 68 #[.int .i64 t] w fun e w' => e = .returned (.int .i64 (allOf t)) ∧ w = w' := by
  have h : t = 1 ∨ t = 2 ∨ t = 3 := by omega
  clear h1 h3
  rcases h with rfl | rfl | rfl
  all_goals
    go_enter Try.func68, Try.ntmps68
    go_wp2
    go_ret
    exact ⟨rfl, rfl⟩

set_option maxHeartbeats 400000 in
theorem lWhole (t : Int) (w : World) (h1 : 1 ≤ t) (h3 : t ≤ 3) : Calls Try.prog 22 #[.int .i64 t] w fun e w' => e = .returned (.int .i64 (allOf t)) ∧ w = w' := by
  have h : t = 1 ∨ t = 2 ∨ t = 3 := by omega
  clear h1 h3
  rcases h with rfl | rfl | rfl
  all_goals
    go_enter Try.func22, Try.ntmps22
    go_wp2
    go_ret
    exact ⟨rfl, rfl⟩

set_option maxHeartbeats 400000 in
theorem lAlive (w : World) : Calls Try.prog 21 #[] w fun e w' => e = .returned (.bool true) ∧ w = w' := by
  go_enter Try.func21, Try.ntmps21
  go_wp2_with fail
  refine (iWorldsOf _ _).mono ?_
  rintro e w' ⟨rfl, rfl⟩
  simp only [worldsOf]
  go_wp2_with fail
  refine (iWorldsOf _ _).mono ?_
  rintro e w' ⟨rfl, rfl⟩
  simp only [worldsOf]
  go_wp2_with fail
  go_ret
  exact ⟨rfl, rfl⟩

theorem setOkB_bad {t s : Int} (h : t < 1 ∨ 3 < t) : setOkB t s = false := by unfold setOkB; simp; omega

set_option maxHeartbeats 400000 in
theorem iSetOk (t s : Int) (w : World) : Calls Try.prog 62 #[.int .i64 t, .int .i64 s] w fun e w' => e = .returned (.bool (setOkB t s)) ∧ w = w' := by
  by_cases h1 : t < 1 ∨ 3 < t
  · have hW := Lib.hid (worldsOf_bad h1)
    go_enter Try.func62, Try.ntmps62
    go_wp2_with fail
    refine (iWorldsOf _ _).mono ?_
    rintro e w' ⟨rfl, rfl⟩
    rw [hW.out]
    go_wp2_with fail
    go_ret
    exact ⟨ret_bool (by rw [setOkB_bad h1]), rfl⟩
  · have h : t = 1 ∨ t = 2 ∨ t = 3 := by omega
    clear h1
    by_cases hs : 0 ≤ s
    · rcases h with rfl | rfl | rfl
      all_goals
        go_enter Try.func62, Try.ntmps62
        go_wp2_with fail
        refine (iWorldsOf _ _).mono ?_
        rintro e w' ⟨rfl, rfl⟩
        simp only [worldsOf]
        go_wp2_with fail
        go_ret
        exact ⟨ret_bool (by unfold setOkB allOf; rw [Bool.eq_iff_iff]; simp; omega), rfl⟩
    · rcases h with rfl | rfl | rfl
      all_goals
        go_enter Try.func62, Try.ntmps62
        go_wp2_with fail
        refine (iWorldsOf _ _).mono ?_
        rintro e w' ⟨rfl, rfl⟩
        simp only [worldsOf]
        go_wp2_with fail
        go_ret
        exact ⟨ret_bool (by unfold setOkB allOf; rw [Bool.eq_iff_iff]; simp; omega), rfl⟩

set_option maxHeartbeats 400000 in
theorem sSetOk (t s : Int) (w : World) : Calls Try.prog 70 #[.int .i64 t, .int .i64 s] w fun e w' => e = .returned (.bool (setOkB t s)) ∧ w = w' := by
  by_cases h1 : t < 1 ∨ 3 < t
  · go_enter Try.func70, Try.ntmps70
    go_wp2_with (go_at_call 72; refine (sIn_no _ _ _ _ h1).mono ?_; rintro e w' ⟨rfl, rfl⟩)
    go_ret
    exact ⟨ret_bool (by rw [setOkB_bad h1]), rfl⟩
  · go_enter Try.func70, Try.ntmps70
    go_wp2_with fail
    refine (sIn_yes _ _ _ _ (by omega) (by omega)).mono ?_
    rintro e w' ⟨rfl, rfl⟩
    go_wp2_with fail
    refine (sAll _ _ (by omega) (by omega)).mono ?_
    rintro e w' ⟨rfl, rfl⟩
    go_wp2_with fail
    refine (sIn _ _ _ _).mono ?_
    rintro e w' ⟨rfl, rfl⟩
    go_wp2_with fail
    go_ret
    exact ⟨ret_bool (by unfold setOkB inB; rw [Bool.eq_iff_iff]; simp; omega), rfl⟩

theorem wrap_step (m p q : Nat) (hm : m < p) (hp : p ≤ 128) (hq : q ≤ 1) : wrap64 (↑m + wrap64 (wrap64 ↑q * ↑p)) = ((m + q * p : Nat) : Int) := by
  have h : q = 0 ∨ q = 1 := by omega
  rcases h with rfl | rfl
  · rw [IntWalk.wrap64_in ((0 : Nat) : Int) ⟨by omega, by omega⟩, IntWalk.wrap64_in (((0 : Nat) : Int) * (p : Int)) ⟨by omega, by omega⟩, IntWalk.wrap64_in _ ⟨by omega, by omega⟩]; omega
  · rw [IntWalk.wrap64_in ((1 : Nat) : Int) ⟨by omega, by omega⟩, IntWalk.wrap64_in (((1 : Nat) : Int) * (p : Int)) ⟨by omega, by omega⟩, IntWalk.wrap64_in _ ⟨by omega, by omega⟩]; omega
theorem tmod2_nat (a p : Nat) : ((a : Int) / (p : Int)).tmod 2 = ((a / p % 2 : Nat) : Int) := by
  have e : (a : Int) / (p : Int) = ((a / p : Nat) : Int) := (Int.natCast_ediv a p).symm
  rw [e, Int.tmod_eq_emod_of_nonneg (Int.natCast_nonneg _)]; omega
theorem both_round (a b k : Nat) (hk : k < 8) :
    wrap64 (↑(a &&& b) % 2 ^ k + wrap64 (wrap64 (((a : Int) / 2 ^ k).tmod 2 * ((b : Int) / 2 ^ k).tmod 2) * 2 ^ k)) = (((a &&& b) % 2 ^ (k + 1) : Nat) : Int) := by
  have hp : 2 ^ k ≤ 128 := by
    have : 2 ^ k ≤ 2 ^ 7 := Nat.pow_le_pow_right (by omega) (by omega)
    omega
  have hm : (a &&& b) % 2 ^ k < 2 ^ k := Nat.mod_lt _ (Nat.two_pow_pos k)
  have e4 : (2 : Int) ^ k = ((2 ^ k : Nat) : Int) := by push_cast; rfl
  have hx : a / 2 ^ k % 2 < 2 := Nat.mod_lt _ (by omega)
  have hy : b / 2 ^ k % 2 < 2 := Nat.mod_lt _ (by omega)
  have hq : (a / 2 ^ k % 2) * (b / 2 ^ k % 2) ≤ 1 := by
    have := Nat.mul_le_mul (show a / 2 ^ k % 2 ≤ 1 by omega) (show b / 2 ^ k % 2 ≤ 1 by omega)
    simpa using this
  rw [bit_step a b k, e4, tmod2_nat, tmod2_nat, ← Int.natCast_emod, ← Int.natCast_mul]
  exact wrap_step _ _ _ hm hp hq

set_option maxHeartbeats 400000 in
theorem sBothN (a b : Nat) (_ : a < 1024) (_ : b < 1024) (w : World) : Calls Try.prog 59 #[.int .i64 a, .int .i64 b] w fun e w' => e = .returned (.int .i64 ((a &&& b) % 256 : Nat)) ∧ ∃ n, w' = w.drewN n := by
  go_enter Try.func59, Try.ntmps59
  go_wp2
  go_loopw [5, 6] (fun t i wr => ∃ k : Nat, k ≤ 8 ∧ i = .int .i64 k ∧ t = .int .i64 ((a &&& b) % 2 ^ k : Nat) ∧ ∃ n, wr = w.drewN n) (fun _ i _ => 8 - (intOf i).toNat)
  case atStart => exact ⟨0, by omega, rfl, by simp [Nat.mod_one], 0, rfl⟩
  case round =>
    obtain ⟨k, hk, rfl, rfl, n, rfl⟩ := hrel
    by_cases hlt : k < 8
    · go_wp2
      go_quiet (fail)
      go_wp2
      go_roundw
      case rel => exact ⟨k + 1, by omega, by go_num, by rw [both_round a b k hlt], _, rfl⟩
      case measure => simp [intOf]; omega
    · obtain rfl : k = 8 := by omega
      go_wp2
      go_ret
      exact ⟨rfl, _, rfl⟩

theorem sBoth (a b : Int) (ha : 0 ≤ a) (ha2 : a < 1024) (hb : 0 ≤ b) (hb2 : b < 1024) (w : World) :
    Calls Try.prog 59 #[.int .i64 a, .int .i64 b] w fun e w' => e = .returned (.int .i64 (andI a b % 256)) ∧ ∃ n, w' = w.drewN n := by
  obtain ⟨a, rfl⟩ := Int.eq_ofNat_of_zero_le ha
  obtain ⟨b, rfl⟩ := Int.eq_ofNat_of_zero_le hb
  exact (sBothN a b (by omega) (by omega) w).mono fun e w' ⟨he, hw⟩ => ⟨he.trans (ret_int (by rw [andI_nat]; omega)), hw⟩

theorem sBothS (a b : Int) (ha : 0 ≤ a) (ha2 : a < 256) (hb : 0 ≤ b) (hb2 : b < 256) (w : World) :
    Calls Try.prog 59 #[.int .i64 a, .int .i64 b] w fun e w' => e = .returned (.int .i64 (andI a b)) ∧ ∃ n, w' = w.drewN n :=
  (sBoth a b ha (by omega) hb (by omega) w).mono fun _ _ ⟨he, hw⟩ => ⟨he.trans (ret_int (andI_mod a b ha ha2)), hw⟩

set_option maxHeartbeats 400000 in
theorem iWithin (a b : Int) (ha : 0 ≤ a) (ha2 : a < 1024) (hb : 0 ≤ b) (hb2 : b < 1024) (w : World) :
    Calls Try.prog 81 #[.int .i64 a, .int .i64 b] w fun e w' => e = .returned (.bool (withinB a b)) ∧ w = w' := by
  obtain ⟨a, rfl⟩ := Int.eq_ofNat_of_zero_le ha
  obtain ⟨b, rfl⟩ := Int.eq_ofNat_of_zero_le hb
  have h := Lib.hid (andNot_eq a b (by omega) (by omega))
  go_enter Try.func81, Try.ntmps81
  go_wp2
  go_ret
  exact ⟨ret_bool h.out, rfl⟩

set_option maxHeartbeats 400000 in
theorem sEither (a b : Int) (ha : 0 ≤ a) (ha2 : a < 256) (hb : 0 ≤ b) (hb2 : b < 256) (w : World) :
    Calls Try.prog 104 #[.int .i64 a, .int .i64 b] w fun e w' => e = .returned (.int .i64 (orI a b)) ∧ ∃ n, w' = w.drewN n := by
  have h := Lib.hid (orI_eq a b ha ha2 hb hb2)
  have h1 := andI_nonneg a b
  have h2 := andI_le a b ha
  go_enter Try.func104, Try.ntmps104
  go_wp2_with fail
  refine (sBothS a b ha ha2 hb hb2 _).mono ?_
  rintro e w' ⟨rfl, n, rfl⟩
  go_wp2_with fail
  go_ret
  exact ⟨ret_int h.out, _, rfl⟩

set_option maxHeartbeats 400000 in
theorem sWithin (a b : Int) (ha : 0 ≤ a) (ha2 : a < 256) (hb : 0 ≤ b) (hb2 : b < 256) (w : World) :
    Calls Try.prog 71 #[.int .i64 a, .int .i64 b] w fun e w' => e = .returned (.bool (withinB a b)) ∧ ∃ n, w' = w.drewN n := by
  go_enter Try.func71, Try.ntmps71
  go_wp2_with fail
  refine (sBothS a b ha ha2 hb hb2 _).mono ?_
  rintro e w' ⟨rfl, n, rfl⟩
  go_wp2_with fail
  go_ret
  exact ⟨ret_bool (by unfold withinB; rw [Bool.eq_iff_iff]; simp), _, rfl⟩

end Go.Proofs.Ytfancfjbipjibaa
