/-
  Plain mathematics of sets of worlds, told as numbers. Nothing of the program.
-/
import Derived.WalkKit
namespace Go.Proofs.Ytfancfjbipjibaa

def andI (a b : Int) : Int := ((a.toNat &&& b.toNat : Nat) : Int)
def orI (a b : Int) : Int := ((a.toNat ||| b.toNat : Nat) : Int)
def withinB (a b : Int) : Bool := decide (andI a b = a)

theorem andI_nat (a b : Nat) : andI (a : Int) (b : Int) = ((a &&& b : Nat) : Int) := rfl
theorem orI_nat (a b : Nat) : orI (a : Int) (b : Int) = ((a ||| b : Nat) : Int) := rfl
theorem andI_nonneg (a b : Int) : 0 ≤ andI a b := Int.natCast_nonneg _
theorem andI_le (a b : Int) (ha : 0 ≤ a) : andI a b ≤ a := by
  have : a.toNat &&& b.toNat ≤ a.toNat := Nat.and_le_left
  unfold andI; omega
theorem andI_le' (a b : Int) (hb : 0 ≤ b) : andI a b ≤ b := by
  have : a.toNat &&& b.toNat ≤ b.toNat := Nat.and_le_right
  unfold andI; omega

/-- One bit more of what is in both. -/
theorem bit_step (a b k : Nat) : (a &&& b) % 2 ^ (k + 1) = (a &&& b) % 2 ^ k + (a / 2 ^ k % 2) * (b / 2 ^ k % 2) * 2 ^ k := by
  have h : (a &&& b) / 2 ^ k % 2 = (a / 2 ^ k % 2) * (b / 2 ^ k % 2) := by
    have := Nat.testBit_and a b k
    simp only [Nat.testBit_eq_decide_div_mod_eq] at this
    rcases Nat.mod_two_eq_zero_or_one (a / 2 ^ k) with h1 | h1 <;> rcases Nat.mod_two_eq_zero_or_one (b / 2 ^ k) with h2 | h2 <;>
      rcases Nat.mod_two_eq_zero_or_one ((a &&& b) / 2 ^ k) with h3 | h3 <;> simp_all
  rw [Nat.mod_pow_succ, h, Nat.mul_comm (2 ^ k)]

theorem or_add_and (a : Nat) : ∀ b : Nat, (a ||| b) + (a &&& b) = a + b := by
  induction a using Nat.strongRecOn with
  | _ a ih =>
    intro b
    rcases Nat.eq_zero_or_pos a with rfl | h
    · simp
    · have h2 := ih (a / 2) (by omega) (b / 2)
      have e1 : (a ||| b) / 2 = a / 2 ||| b / 2 := Nat.or_div_two
      have e2 : (a &&& b) / 2 = a / 2 &&& b / 2 := Nat.and_div_two
      rw [← e1, ← e2] at h2
      have m1 : (a ||| b) % 2 = a % 2 ||| b % 2 := by simpa using Nat.or_mod_two_pow (a := a) (b := b) (n := 1)
      have m2 : (a &&& b) % 2 = a % 2 &&& b % 2 := by simpa using Nat.and_mod_two_pow (a := a) (b := b) (n := 1)
      rcases Nat.mod_two_eq_zero_or_one a with x | x <;> rcases Nat.mod_two_eq_zero_or_one b with y | y <;> rw [x, y] at m1 m2 <;> (first | (have m1 : (a ||| b) % 2 = 0 := m1; have m2 : (a &&& b) % 2 = 0 := m2; omega) | (have m1 : (a ||| b) % 2 = 1 := m1; have m2 : (a &&& b) % 2 = 0 := m2; omega) | (have m1 : (a ||| b) % 2 = 1 := m1; have m2 : (a &&& b) % 2 = 1 := m2; omega))
theorem orI_eq (a b : Int) (ha : 0 ≤ a) (ha2 : a < 256) (hb : 0 ≤ b) (hb2 : b < 256) : a + b - andI a b = orI a b := by
  have h := or_add_and a.toNat b.toNat
  unfold andI orI; omega
theorem orI_lt (a b : Int) (ha2 : a < 256) (hb2 : b < 256) : orI a b < 256 := by
  have : a.toNat ||| b.toNat < 2 ^ 8 := Nat.or_lt_two_pow (by omega) (by omega)
  unfold orI; omega
theorem orI_nonneg (a b : Int) : 0 ≤ orI a b := Int.natCast_nonneg _
theorem andI_mod (a b : Int) (ha : 0 ≤ a) (ha2 : a < 256) : andI a b % 256 = andI a b := by
  have := andI_le a b ha; have := andI_nonneg a b; omega

def allOf (t : Int) : Int := if t = 1 then 3 else if t = 2 then 15 else if t = 3 then 255 else 0
theorem allOf_lt (t : Int) : 0 ≤ allOf t ∧ allOf t < 256 := by
  unfold allOf; split <;> (try split) <;> (try split) <;> omega
def worldsOf (t : Int) : Int := if t = 1 then 2 else if t = 2 then 4 else if t = 3 then 8 else -1
theorem worldsOf_bad {t : Int} (h : t < 1 ∨ 3 < t) : worldsOf t = -1 := by
  unfold worldsOf; rw [if_neg (by omega), if_neg (by omega), if_neg (by omega)]
def setOkB (t s : Int) : Bool := decide (1 ≤ t ∧ t ≤ 3 ∧ 0 ≤ s ∧ s ≤ allOf t)
theorem setOkB_lt {t s : Int} (h : setOkB t s = true) : 1 ≤ t ∧ t ≤ 3 ∧ 0 ≤ s ∧ s ≤ allOf t ∧ s < 256 := by
  have := allOf_lt t
  have h := of_decide_eq_true h
  omega

/-- What is in a and not in b is nothing exactly if a is within b. -/
theorem andNot_eq (a b : Nat) (ha : a < 1024) (hb : b < 1024) : (bits .andNot .i64 (a : Int) (b : Int) == 0) = withinB a b := by
  have e : bits .andNot .i64 (a : Int) (b : Int) = ((a &&& (2 ^ 64 - (b + 1)) : Nat) : Int) := by
    have hx : a &&& (2 ^ 64 - (b + 1)) ≤ a := Nat.and_le_left
    show IntKind.i64.wrap ((BitVec.ofInt 64 (a : Int) &&& ~~~BitVec.ofInt 64 (b : Int)).toNat : Int) = _
    rw [BitVec.toNat_and, BitVec.toNat_not, BitVec.ofInt_natCast, BitVec.ofInt_natCast, BitVec.toNat_ofNat, BitVec.toNat_ofNat, Nat.mod_eq_of_lt (by omega), Nat.mod_eq_of_lt (by omega), IntKind.wrap_i64,
      show 2 ^ 64 - 1 - b = 2 ^ 64 - (b + 1) by omega]
    omega
  rw [e]
  unfold withinB andI
  rw [Bool.eq_iff_iff]
  simp only [beq_iff_eq, decide_eq_true_eq, Int.toNat_natCast]
  have hb64 : b < 2 ^ 64 := by omega
  have ha64 : a < 2 ^ 64 := by omega
  constructor
  · intro h
    have h : a &&& (2 ^ 64 - (b + 1)) = 0 := by omega
    congr 1
    apply Nat.eq_of_testBit_eq
    intro i
    have hi := congrArg (fun x => x.testBit i) h
    simp only [Nat.testBit_and, Nat.testBit_two_pow_sub_succ hb64, Nat.zero_testBit] at hi ⊢
    by_cases h64 : i < 64
    · cases h1 : a.testBit i <;> cases h2 : b.testBit i <;> simp_all
    · rw [Nat.testBit_lt_two_pow (Nat.lt_of_lt_of_le ha64 (Nat.pow_le_pow_right (by omega) (by omega)))]; rfl
  · intro h
    have h : a &&& b = a := by omega
    have h0 : a &&& (2 ^ 64 - (b + 1)) = 0 := by
      apply Nat.eq_of_testBit_eq
      intro i
      have hi := congrArg (fun x => x.testBit i) h
      simp only [Nat.testBit_and, Nat.testBit_two_pow_sub_succ hb64, Nat.zero_testBit] at hi ⊢
      cases h1 : a.testBit i <;> cases h2 : b.testBit i <;> simp_all
    omega

end Go.Proofs.Ytfancfjbipjibaa
