/-
  The laws' own words on sets: both, within, sameInts.
-/
import Derived.Test.YtfancfjbipjibaaCopies
namespace Go.Proofs.Ytfancfjbipjibaa
open Go.RowKit

set_option maxHeartbeats 400000 in
theorem lSameInts (A B : Option Addr) (nn mm c d : Nat) (xs ys : List Int) (w : World) (hn : nn = xs.length) (hm : mm = ys.length) (hl : nn ≤ 1048576) (hl2 : mm ≤ 1048576) (hA : Nums .i64 w A xs) (hB : Nums .i64 w B ys) :
    Calls Try.prog 19 #[.slice A nn c, .slice B mm d] w fun e w' => e = .returned (.bool (decide (xs = ys))) ∧ ∃ n, w' = w.drewN n := by
  subst hn hm
  have HA := Lib.hid hA
  have HB := Lib.hid hB
  clear hA hB
  by_cases hlen : xs.length = ys.length
  · have hd : ((xs.length : Int) != (ys.length : Int)) = false := by simp; omega
    have HL := Lib.hid hlen
    have hle1 : xs.length ≤ ys.length := by omega
    have hle2 : ys.length ≤ xs.length := by omega
    clear hlen
    go_enter Try.func19, Try.ntmps19
    go_wp2
    go_loopw [5] (fun i wr => ∃ k : Nat, k ≤ xs.length ∧ i = .int .i64 k ∧ Hid (xs.take k = ys.take k) ∧ ∃ n, wr = w.drewN n) (fun i _ => xs.length - (intOf i).toNat)
    case atStart => exact ⟨0, Nat.zero_le _, rfl, rfl, 0, rfl⟩
    case round =>
      obtain ⟨k, hk, rfl, hsofar, n, rfl⟩ := hrel
      by_cases hlt : k < xs.length
      · have hlt2 : k < ys.length := by omega
        obtain ⟨b, off, x, rfl, hcell, hx, _⟩ := HA.out.elem hlt
        obtain ⟨b', off', y, rfl, hcell', hy, _⟩ := HB.out.elem hlt2
        by_cases hxy : x = y
        · have hxy' : (x != y) = false := by simp [hxy]
          have HXY := Lib.hid hxy
          clear hxy
          go_wp2
          go_quiet (fail)
          go_wp2
          go_roundw
          case rel => exact ⟨k + 1, by omega, by go_num, by unfold Hid; rw [take_snoc hx, take_snoc hy, hsofar.out, HXY.out], _, rfl⟩
          case measure => simp [intOf]; omega
        · have hxy' : (x != y) = true := by simp [hxy]
          have HXY := Lib.hid hxy
          clear hxy
          go_wp2
          go_quiet (fail)
          go_wp2
          go_ret
          exact ⟨ret_bool (by symm; apply decide_eq_false; intro e; subst e; have := hx.out.symm.trans hy.out; cases this; exact HXY.out rfl), _, World.drewN_drewN _ _ _⟩
      · obtain rfl : k = xs.length := by omega
        have HE : Hid (xs = ys) := by
          have := hsofar.out
          rw [List.take_length, HL.out, List.take_length] at this
          exact this
        clear hsofar
        go_wp2
        go_ret
        exact ⟨ret_bool (by rw [decide_eq_true HE.out]), _, rfl⟩
  · have hd : ((xs.length : Int) != (ys.length : Int)) = true := by simp; omega
    have HL := Lib.hid hlen
    clear hlen
    go_enter Try.func19, Try.ntmps19
    go_wp2
    go_ret
    exact ⟨ret_bool (by symm; apply decide_eq_false; intro e; exact HL.out (by rw [e])), 0, rfl⟩


theorem bit_zero (a b k : Nat) (h : a / 2 ^ k % 2 = 0 ∨ b / 2 ^ k % 2 = 0) : (a &&& b) % 2 ^ (k + 1) = (a &&& b) % 2 ^ k := by
  rw [bit_step a b k]
  rcases h with h | h <;> rw [h] <;> simp
theorem bit_one (a b k : Nat) (h1 : a / 2 ^ k % 2 = 1) (h2 : b / 2 ^ k % 2 = 1) (hk : k < 8) :
    wrap64 (↑(a &&& b) % 2 ^ k + wrap64 (2 ^ k)) = (((a &&& b) % 2 ^ (k + 1) : Nat) : Int) := by
  have hp : 2 ^ k ≤ 128 := by
    have : 2 ^ k ≤ 2 ^ 7 := Nat.pow_le_pow_right (by omega) (by omega)
    omega
  have hm : (a &&& b) % 2 ^ k < 2 ^ k := Nat.mod_lt _ (Nat.two_pow_pos k)
  have e4 : (2 : Int) ^ k = ((2 ^ k : Nat) : Int) := by push_cast; rfl
  rw [bit_step a b k, h1, h2, e4, ← Int.natCast_emod, IntWalk.wrap64_in ((2 ^ k : Nat) : Int) ⟨by omega, by omega⟩, IntWalk.wrap64_in _ ⟨by omega, by omega⟩]
  omega

set_option maxHeartbeats 1000000 in
theorem lBothN (a b : Nat) (w : World) : Calls Try.prog 26 #[.int .i64 a, .int .i64 b] w fun e w' => e = .returned (.int .i64 ((a &&& b) % 256 : Nat)) ∧ w = w' := by
  go_enter Try.func26, Try.ntmps26
  go_wp2
  go_loop [5, 6] (fun t i => ∃ k : Nat, k ≤ 8 ∧ i = .int .i64 k ∧ t = .int .i64 ((a &&& b) % 2 ^ k : Nat)) (fun _ i => 8 - (intOf i).toNat)
  case atStart => exact ⟨0, by omega, rfl, by simp [Nat.mod_one]⟩
  case round =>
    obtain ⟨k, hk, rfl, rfl⟩ := hrel
    by_cases hlt : k < 8
    · have e4 : (2 : Int) ^ k = ((2 ^ k : Nat) : Int) := by push_cast; rfl
      have ea : ((a : Int) / 2 ^ k).tmod 2 = ((a / 2 ^ k % 2 : Nat) : Int) := by rw [e4]; exact tmod2_nat _ _
      have eb : ((b : Int) / 2 ^ k).tmod 2 = ((b / 2 ^ k % 2 : Nat) : Int) := by rw [e4]; exact tmod2_nat _ _
      rcases Nat.mod_two_eq_zero_or_one (a / 2 ^ k) with h1 | h1
      · have HB := Lib.hid (bit_zero a b k (.inl h1))
        have ha : (((a : Int) / 2 ^ k).tmod 2 == 1) = false := by rw [ea, h1]; rfl
        clear e4 ea eb h1
        go_wp2
        go_round
        case rel => exact ⟨k + 1, by omega, by go_num, by rw [HB.out]⟩
        case measure => simp [intOf]; omega
      · have ha : (((a : Int) / 2 ^ k).tmod 2 == 1) = true := by rw [ea, h1]; rfl
        rcases Nat.mod_two_eq_zero_or_one (b / 2 ^ k) with h2 | h2
        · have HB := Lib.hid (bit_zero a b k (.inr h2))
          have hb : (((b : Int) / 2 ^ k).tmod 2 == 1) = false := by rw [eb, h2]; rfl
          clear e4 ea eb h1 h2
          go_wp2
          go_round
          case rel => exact ⟨k + 1, by omega, by go_num, by rw [HB.out]⟩
          case measure => simp [intOf]; omega
        · have HB := Lib.hid (bit_one a b k h1 h2 hlt)
          have hb : (((b : Int) / 2 ^ k).tmod 2 == 1) = true := by rw [eb, h2]; rfl
          clear e4 ea eb h1 h2
          go_wp2
          go_round
          case rel => exact ⟨k + 1, by omega, by go_num, by first | rw [← HB.out] | (rw [← HB.out]; rfl)⟩
          case measure => simp [intOf]; omega
    · obtain rfl : k = 8 := by omega
      go_wp2
      go_ret
      exact ⟨rfl, rfl⟩

theorem lBoth (a b : Int) (ha : 0 ≤ a) (ha2 : a < 256) (hb : 0 ≤ b) (w : World) :
    Calls Try.prog 26 #[.int .i64 a, .int .i64 b] w fun e w' => e = .returned (.int .i64 (andI a b)) ∧ w = w' := by
  have hm := andI_mod a b ha ha2
  obtain ⟨a, rfl⟩ := Int.eq_ofNat_of_zero_le ha
  obtain ⟨b, rfl⟩ := Int.eq_ofNat_of_zero_le hb
  exact (lBothN a b w).mono fun e w' ⟨he, hw⟩ => ⟨he.trans (ret_int (by rw [← hm, andI_nat]; omega)), hw⟩

end Go.Proofs.Ytfancfjbipjibaa
