/-
  What the proofs of this seat's statements share (Math, Plain).
-/
import Derived.WalkKit
import Derived.Test.YtmdogidflaplkaaGreatRows
import Derived.WalkSpells
import Derived.WalkLawsBesides
import Derived.Lib.Hide
import Derived.BigQuiet
import Derived.Deep.QuietTactic
import Derived.LoopTactic
import Derived.IntWalk

namespace Go.Proofs.YtmdogidflaplkaaGreat

def andI (a b : Int) : Int := ((a.toNat &&& b.toNat : Nat) : Int)
def orI (a b : Int) : Int := ((a.toNat ||| b.toNat : Nat) : Int)
def withinB (a b : Int) : Bool := decide (andI a b = a)

theorem andI_nat (a b : Nat) : andI (a : Int) (b : Int) = ((a &&& b : Nat) : Int) := rfl
theorem orI_nat (a b : Nat) : orI (a : Int) (b : Int) = ((a ||| b : Nat) : Int) := rfl
theorem andI_nonneg (a b : Int) : 0 ≤ andI a b := Int.natCast_nonneg _
theorem andI_le (a b : Int) (ha : 0 ≤ a) : andI a b ≤ a := by
  have : a.toNat &&& b.toNat ≤ a.toNat := Nat.and_le_left
  unfold andI; omega
theorem andI_le' (a b : Int) (hb : 0 ≤ b) : andI a b ≤ b := by
  have : a.toNat &&& b.toNat ≤ b.toNat := Nat.and_le_right
  unfold andI; omega

/-- One bit more of what is in both. -/
theorem bit_step (a b k : Nat) : (a &&& b) % 2 ^ (k + 1) = (a &&& b) % 2 ^ k + (a / 2 ^ k % 2) * (b / 2 ^ k % 2) * 2 ^ k := by
  have h : (a &&& b) / 2 ^ k % 2 = (a / 2 ^ k % 2) * (b / 2 ^ k % 2) := by
    have := Nat.testBit_and a b k
    simp only [Nat.testBit_eq_decide_div_mod_eq] at this
    rcases Nat.mod_two_eq_zero_or_one (a / 2 ^ k) with h1 | h1 <;> rcases Nat.mod_two_eq_zero_or_one (b / 2 ^ k) with h2 | h2 <;>
      rcases Nat.mod_two_eq_zero_or_one ((a &&& b) / 2 ^ k) with h3 | h3 <;> simp_all
  rw [Nat.mod_pow_succ, h, Nat.mul_comm (2 ^ k)]

theorem orI_lt (a b : Int) (ha2 : a < 256) (hb2 : b < 256) : orI a b < 256 := by
  have : a.toNat ||| b.toNat < 2 ^ 8 := Nat.or_lt_two_pow (by omega) (by omega)
  unfold orI; omega
theorem orI_nonneg (a b : Int) : 0 ≤ orI a b := Int.natCast_nonneg _
theorem andI_mod (a b : Int) (ha : 0 ≤ a) (ha2 : a < 256) : andI a b % 256 = andI a b := by
  have := andI_le a b ha; have := andI_nonneg a b; omega

def allOf (t : Int) : Int := if t = 1 then 3 else if t = 2 then 15 else if t = 3 then 255 else 0
theorem allOf_lt (t : Int) : 0 ≤ allOf t ∧ allOf t < 256 := by
  unfold allOf; split <;> (try split) <;> (try split) <;> omega
def worldsOf (t : Int) : Int := if t = 1 then 2 else if t = 2 then 4 else if t = 3 then 8 else -1
theorem worldsOf_bad {t : Int} (h : t < 1 ∨ 3 < t) : worldsOf t = -1 := by
  unfold worldsOf; rw [if_neg (by omega), if_neg (by omega), if_neg (by omega)]
def setOkB (t s : Int) : Bool := decide (1 ≤ t ∧ t ≤ 3 ∧ 0 ≤ s ∧ s ≤ allOf t)
theorem setOkB_lt {t s : Int} (h : setOkB t s = true) : 1 ≤ t ∧ t ≤ 3 ∧ 0 ≤ s ∧ s ≤ allOf t ∧ s < 256 := by
  have := allOf_lt t
  have h := of_decide_eq_true h
  omega

/-- What is in a and not in b is nothing exactly if a is within b. -/
theorem andNot_eq (a b : Nat) (ha : a < 1024) (hb : b < 1024) : (bits .andNot .i64 (a : Int) (b : Int) == 0) = withinB a b := by
  have e : bits .andNot .i64 (a : Int) (b : Int) = ((a &&& (2 ^ 64 - (b + 1)) : Nat) : Int) := by
    have hx : a &&& (2 ^ 64 - (b + 1)) ≤ a := Nat.and_le_left
    show IntKind.i64.wrap ((BitVec.ofInt 64 (a : Int) &&& ~~~BitVec.ofInt 64 (b : Int)).toNat : Int) = _
    rw [BitVec.toNat_and, BitVec.toNat_not, BitVec.ofInt_natCast, BitVec.ofInt_natCast, BitVec.toNat_ofNat, BitVec.toNat_ofNat, Nat.mod_eq_of_lt (by omega), Nat.mod_eq_of_lt (by omega), IntKind.wrap_i64,
      show 2 ^ 64 - 1 - b = 2 ^ 64 - (b + 1) by omega]
    omega
  rw [e]
  unfold withinB andI
  rw [Bool.eq_iff_iff]
  simp only [beq_iff_eq, decide_eq_true_eq, Int.toNat_natCast]
  have hb64 : b < 2 ^ 64 := by omega
  have ha64 : a < 2 ^ 64 := by omega
  constructor
  · intro h
    have h : a &&& (2 ^ 64 - (b + 1)) = 0 := by omega
    congr 1
    apply Nat.eq_of_testBit_eq
    intro i
    have hi := congrArg (fun x => x.testBit i) h
    simp only [Nat.testBit_and, Nat.testBit_two_pow_sub_succ hb64, Nat.zero_testBit] at hi ⊢
    by_cases h64 : i < 64
    · cases h1 : a.testBit i <;> cases h2 : b.testBit i <;> simp_all
    · rw [Nat.testBit_lt_two_pow (Nat.lt_of_lt_of_le ha64 (Nat.pow_le_pow_right (by omega) (by omega)))]; rfl
  · intro h
    have h : a &&& b = a := by omega
    have h0 : a &&& (2 ^ 64 - (b + 1)) = 0 := by
      apply Nat.eq_of_testBit_eq
      intro i
      have hi := congrArg (fun x => x.testBit i) h
      simp only [Nat.testBit_and, Nat.testBit_two_pow_sub_succ hb64, Nat.zero_testBit] at hi ⊢
      cases h1 : a.testBit i <;> cases h2 : b.testBit i <;> simp_all
    omega

end Go.Proofs.YtmdogidflaplkaaGreat

namespace Go.Proofs.YtmdogidflaplkaaGreat
open Go.RowKit

theorem ret_int {k : IntKind} {a b : Int} (h : a = b) : Ending.returned (.int k a) = .returned (.int k b) := by rw [h]
theorem ret_bool {a b : Bool} (h : a = b) : Ending.returned (.bool a) = .returned (.bool b) := by rw [h]

set_option maxHeartbeats 400000 in
theorem iWorldsOf (t : Int) (w : World) : Calls Tryz.prog 50 #[.int .i64 t] w fun e w' => e = .returned (.int .i64 (worldsOf t)) ∧ w = w' := by
  by_cases h1 : t < 1
  · go_enter Tryz.func50, Tryz.ntmps50
    go_wp2
    go_ret
    exact ⟨ret_int (by rw [worldsOf_bad (by omega)]), rfl⟩
  · by_cases h3 : 3 < t
    · go_enter Tryz.func50, Tryz.ntmps50
      go_wp2
      go_ret
      exact ⟨ret_int (by rw [worldsOf_bad (by omega)]), rfl⟩
    · have h : t = 1 ∨ t = 2 ∨ t = 3 := by omega
      clear h1 h3
      rcases h with rfl | rfl | rfl
      all_goals
        go_enter Tryz.func50, Tryz.ntmps50
        go_wp2
        go_ret
        exact ⟨rfl, rfl⟩

def inB (n a b : Int) : Bool := decide (a ≤ n ∧ n ≤ b)
set_option maxHeartbeats 400000 in
theorem sIn (n a b : Int) (w : World) : Calls Tryz.prog 39 #[.int .i64 n, .int .i64 a, .int .i64 b] w fun e w' => e = .returned (.bool (inB n a b)) ∧ w = w' := by
  by_cases h1 : a ≤ n
  · go_enter Tryz.func39, Tryz.ntmps39
    go_wp2
    go_ret
    exact ⟨ret_bool (by simp [inB, h1]), rfl⟩
  · go_enter Tryz.func39, Tryz.ntmps39
    go_wp2
    go_ret
    exact ⟨ret_bool (by simp [inB]; omega), rfl⟩
theorem sIn_yes (n a b : Int) (w : World) (h1 : a ≤ n) (h2 : n ≤ b) : Calls Tryz.prog 39 #[.int .i64 n, .int .i64 a, .int .i64 b] w fun e w' => e = .returned (.bool true) ∧ w = w' :=
  (sIn n a b w).mono fun _ _ ⟨he, hw⟩ => ⟨he.trans (ret_bool (by simp [inB, h1, h2])), hw⟩
theorem sIn_no (n a b : Int) (w : World) (h : n < a ∨ b < n) : Calls Tryz.prog 39 #[.int .i64 n, .int .i64 a, .int .i64 b] w fun e w' => e = .returned (.bool false) ∧ w = w' :=
  (sIn n a b w).mono fun _ _ ⟨he, hw⟩ => ⟨he.trans (ret_bool (by simp [inB]; omega)), hw⟩

set_option maxHeartbeats 400000 in
theorem sAll (t : Int) (w : World) (h1 : 1 ≤ t) (h3 : t ≤ 3) : Calls Tryz.prog 93 #[.int .i64 t] w fun e w' => e = .returned (.int .i64 (allOf t)) ∧ w = w' := by
  have h : t = 1 ∨ t = 2 ∨ t = 3 := by omega
  clear h1 h3
  rcases h with rfl | rfl | rfl
  all_goals
    go_enter Tryz.func93, Tryz.ntmps93
    go_wp2
    go_ret
    exact ⟨rfl, rfl⟩

set_option maxHeartbeats 400000 in
theorem lAlive (w : World) : Calls Tryz.prog 12 #[] w fun e w' => e = .returned (.bool true) ∧ w = w' := by
  go_enter Tryz.func12, Tryz.ntmps12
  go_wp2_with fail
  refine (iWorldsOf _ _).mono ?_
  rintro e w' ⟨rfl, rfl⟩
  simp only [worldsOf]
  go_wp2_with fail
  refine (iWorldsOf _ _).mono ?_
  rintro e w' ⟨rfl, rfl⟩
  simp only [worldsOf]
  go_wp2_with fail
  go_ret
  exact ⟨rfl, rfl⟩

theorem setOkB_bad {t s : Int} (h : t < 1 ∨ 3 < t) : setOkB t s = false := by unfold setOkB; simp; omega

set_option maxHeartbeats 400000 in
theorem iSetOk (t s : Int) (w : World) : Calls Tryz.prog 52 #[.int .i64 t, .int .i64 s] w fun e w' => e = .returned (.bool (setOkB t s)) ∧ w = w' := by
  by_cases h1 : t < 1 ∨ 3 < t
  · have hW := Lib.hid (worldsOf_bad h1)
    go_enter Tryz.func52, Tryz.ntmps52
    go_wp2_with fail
    refine (iWorldsOf _ _).mono ?_
    rintro e w' ⟨rfl, rfl⟩
    rw [hW.out]
    go_wp2_with fail
    go_ret
    exact ⟨ret_bool (by rw [setOkB_bad h1]), rfl⟩
  · have h : t = 1 ∨ t = 2 ∨ t = 3 := by omega
    clear h1
    by_cases hs : 0 ≤ s
    · rcases h with rfl | rfl | rfl
      all_goals
        go_enter Tryz.func52, Tryz.ntmps52
        go_wp2_with fail
        refine (iWorldsOf _ _).mono ?_
        rintro e w' ⟨rfl, rfl⟩
        simp only [worldsOf]
        go_wp2_with fail
        go_ret
        exact ⟨ret_bool (by unfold setOkB allOf; rw [Bool.eq_iff_iff]; simp; omega), rfl⟩
    · rcases h with rfl | rfl | rfl
      all_goals
        go_enter Tryz.func52, Tryz.ntmps52
        go_wp2_with fail
        refine (iWorldsOf _ _).mono ?_
        rintro e w' ⟨rfl, rfl⟩
        simp only [worldsOf]
        go_wp2_with fail
        go_ret
        exact ⟨ret_bool (by unfold setOkB allOf; rw [Bool.eq_iff_iff]; simp; omega), rfl⟩

set_option maxHeartbeats 400000 in
theorem sSetOk (t s : Int) (w : World) : Calls Tryz.prog 79 #[.int .i64 t, .int .i64 s] w fun e w' => e = .returned (.bool (setOkB t s)) ∧ w = w' := by
  by_cases h1 : t < 1 ∨ 3 < t
  · go_enter Tryz.func79, Tryz.ntmps79
    go_wp2_with (go_at_call 39; refine (sIn_no _ _ _ _ h1).mono ?_; rintro e w' ⟨rfl, rfl⟩)
    go_ret
    exact ⟨ret_bool (by rw [setOkB_bad h1]), rfl⟩
  · go_enter Tryz.func79, Tryz.ntmps79
    go_wp2_with fail
    refine (sIn_yes _ _ _ _ (by omega) (by omega)).mono ?_
    rintro e w' ⟨rfl, rfl⟩
    go_wp2_with fail
    refine (sAll _ _ (by omega) (by omega)).mono ?_
    rintro e w' ⟨rfl, rfl⟩
    go_wp2_with fail
    refine (sIn _ _ _ _).mono ?_
    rintro e w' ⟨rfl, rfl⟩
    go_wp2_with fail
    go_ret
    exact ⟨ret_bool (by unfold setOkB inB; rw [Bool.eq_iff_iff]; simp; omega), rfl⟩

theorem wrap_step (m p q : Nat) (hm : m < p) (hp : p ≤ 128) (hq : q ≤ 1) : wrap64 (↑m + wrap64 (wrap64 ↑q * ↑p)) = ((m + q * p : Nat) : Int) := by
  have h : q = 0 ∨ q = 1 := by omega
  rcases h with rfl | rfl
  · rw [IntWalk.wrap64_in ((0 : Nat) : Int) ⟨by omega, by omega⟩, IntWalk.wrap64_in (((0 : Nat) : Int) * (p : Int)) ⟨by omega, by omega⟩, IntWalk.wrap64_in _ ⟨by omega, by omega⟩]; omega
  · rw [IntWalk.wrap64_in ((1 : Nat) : Int) ⟨by omega, by omega⟩, IntWalk.wrap64_in (((1 : Nat) : Int) * (p : Int)) ⟨by omega, by omega⟩, IntWalk.wrap64_in _ ⟨by omega, by omega⟩]; omega
theorem tmod2_nat (a p : Nat) : ((a : Int) / (p : Int)).tmod 2 = ((a / p % 2 : Nat) : Int) := by
  have e : (a : Int) / (p : Int) = ((a / p : Nat) : Int) := (Int.natCast_ediv a p).symm
  rw [e, Int.tmod_eq_emod_of_nonneg (Int.natCast_nonneg _)]; omega
theorem both_round (a b k : Nat) (hk : k < 8) :
    wrap64 (↑(a &&& b) % 2 ^ k + wrap64 (wrap64 (((a : Int) / 2 ^ k).tmod 2 * ((b : Int) / 2 ^ k).tmod 2) * 2 ^ k)) = (((a &&& b) % 2 ^ (k + 1) : Nat) : Int) := by
  have hp : 2 ^ k ≤ 128 := by
    have : 2 ^ k ≤ 2 ^ 7 := Nat.pow_le_pow_right (by omega) (by omega)
    omega
  have hm : (a &&& b) % 2 ^ k < 2 ^ k := Nat.mod_lt _ (Nat.two_pow_pos k)
  have e4 : (2 : Int) ^ k = ((2 ^ k : Nat) : Int) := by push_cast; rfl
  have hx : a / 2 ^ k % 2 < 2 := Nat.mod_lt _ (by omega)
  have hy : b / 2 ^ k % 2 < 2 := Nat.mod_lt _ (by omega)
  have hq : (a / 2 ^ k % 2) * (b / 2 ^ k % 2) ≤ 1 := by
    have := Nat.mul_le_mul (show a / 2 ^ k % 2 ≤ 1 by omega) (show b / 2 ^ k % 2 ≤ 1 by omega)
    simpa using this
  rw [bit_step a b k, e4, tmod2_nat, tmod2_nat, ← Int.natCast_emod, ← Int.natCast_mul]
  exact wrap_step _ _ _ hm hp hq

set_option maxHeartbeats 400000 in
theorem sBothN (a b : Nat) (_ : a < 1024) (_ : b < 1024) (w : World) : Calls Tryz.prog 41 #[.int .i64 a, .int .i64 b] w fun e w' => e = .returned (.int .i64 ((a &&& b) % 256 : Nat)) ∧ ∃ n, w' = w.drewN n := by
  go_enter Tryz.func41, Tryz.ntmps41
  go_wp2
  go_loopw [5, 6] (fun t i wr => ∃ k : Nat, k ≤ 8 ∧ i = .int .i64 k ∧ t = .int .i64 ((a &&& b) % 2 ^ k : Nat) ∧ ∃ n, wr = w.drewN n) (fun _ i _ => 8 - (Go.RowKit.intOf i).toNat)
  case atStart => exact ⟨0, by omega, rfl, by simp [Nat.mod_one], 0, rfl⟩
  case round =>
    obtain ⟨k, hk, rfl, rfl, n, rfl⟩ := hrel
    by_cases hlt : k < 8
    · go_wp2
      go_quiet (fail)
      go_wp2
      go_roundw
      case rel => exact ⟨k + 1, by omega, by go_num, by rw [both_round a b k hlt], _, rfl⟩
      case measure => simp [Go.RowKit.intOf]; omega
    · obtain rfl : k = 8 := by omega
      go_wp2
      go_ret
      exact ⟨rfl, _, rfl⟩

theorem sBoth (a b : Int) (ha : 0 ≤ a) (ha2 : a < 1024) (hb : 0 ≤ b) (hb2 : b < 1024) (w : World) :
    Calls Tryz.prog 41 #[.int .i64 a, .int .i64 b] w fun e w' => e = .returned (.int .i64 (andI a b % 256)) ∧ ∃ n, w' = w.drewN n := by
  obtain ⟨a, rfl⟩ := Int.eq_ofNat_of_zero_le ha
  obtain ⟨b, rfl⟩ := Int.eq_ofNat_of_zero_le hb
  exact (sBothN a b (by omega) (by omega) w).mono fun e w' ⟨he, hw⟩ => ⟨he.trans (ret_int (by rw [andI_nat]; omega)), hw⟩

theorem sBothS (a b : Int) (ha : 0 ≤ a) (ha2 : a < 256) (hb : 0 ≤ b) (hb2 : b < 256) (w : World) :
    Calls Tryz.prog 41 #[.int .i64 a, .int .i64 b] w fun e w' => e = .returned (.int .i64 (andI a b)) ∧ ∃ n, w' = w.drewN n :=
  (sBoth a b ha (by omega) hb (by omega) w).mono fun _ _ ⟨he, hw⟩ => ⟨he.trans (ret_int (andI_mod a b ha ha2)), hw⟩

set_option maxHeartbeats 400000 in
theorem iWithin (a b : Int) (ha : 0 ≤ a) (ha2 : a < 1024) (hb : 0 ≤ b) (hb2 : b < 1024) (w : World) :
    Calls Tryz.prog 97 #[.int .i64 a, .int .i64 b] w fun e w' => e = .returned (.bool (withinB a b)) ∧ w = w' := by
  obtain ⟨a, rfl⟩ := Int.eq_ofNat_of_zero_le ha
  obtain ⟨b, rfl⟩ := Int.eq_ofNat_of_zero_le hb
  have h := Lib.hid (andNot_eq a b (by omega) (by omega))
  go_enter Tryz.func97, Tryz.ntmps97
  go_wp2
  go_ret
  exact ⟨ret_bool h.out, rfl⟩

set_option maxHeartbeats 400000 in
theorem sWithin (a b : Int) (ha : 0 ≤ a) (ha2 : a < 256) (hb : 0 ≤ b) (hb2 : b < 256) (w : World) :
    Calls Tryz.prog 44 #[.int .i64 a, .int .i64 b] w fun e w' => e = .returned (.bool (withinB a b)) ∧ ∃ n, w' = w.drewN n := by
  go_enter Tryz.func44, Tryz.ntmps44
  go_wp2_with fail
  refine (sBothS a b ha ha2 hb hb2 _).mono ?_
  rintro e w' ⟨rfl, n, rfl⟩
  go_wp2_with fail
  go_ret
  exact ⟨ret_bool (by unfold withinB; rw [Bool.eq_iff_iff]; simp), _, rfl⟩

end Go.Proofs.YtmdogidflaplkaaGreat
