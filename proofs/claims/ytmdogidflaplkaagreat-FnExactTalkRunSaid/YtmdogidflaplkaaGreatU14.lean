/-
  What the proofs of this seat's statements share (Sho, Shp).
-/
import Derived.Test.YtmdogidflaplkaaGreatU12

namespace Go.Proofs.YtmdogidflaplkaaGreat
open Go.RowKit

def SHold (t : Int) (s : ByteArray) (x : Sen) (rest : List Nat) (m : Nat) (w : World) (e : Ending) (w' : World) : Prop :=
  ∃ a2 : Nat, e = .returned (.tuple #[.bool (holdsS t x m), .int .i64 a2]) ∧ a2 ≤ s.size ∧ (bytesN s).drop a2 = rest ∧ ∃ q, w' = w.drewN q
def allTo (f : Nat → Bool) (k : Nat) : Bool := (List.range k).all f
theorem allTo_succ (f : Nat → Bool) (k : Nat) : allTo f (k + 1) = (allTo f k && f k) := by
  unfold allTo; rw [List.range_succ, List.all_append]; simp
theorem hasW_div (m k : Nat) : hasW (m : Int) k = decide (m / 2 ^ k % 2 = 1) := by
  unfold hasW; rw [Int.toNat_natCast, Nat.testBit_eq_decide_div_mod_eq]
theorem has_walk {m k : Nat} {b : Bool} (h : hasW (m : Int) k = b) : (((m : Int) / 2 ^ k).tmod 2 == 0) = !b := by
  have e4 : (2 : Int) ^ k = ((2 ^ k : Nat) : Int) := by push_cast; rfl
  rw [e4, tmod2_nat]
  rw [hasW_div] at h
  subst h
  rcases Nat.mod_two_eq_zero_or_one (m / 2 ^ k) with h | h <;> rw [h] <;> rfl
theorem bit_walk (i k : Nat) (d : Int) (hd : d = ((2 ^ i : Nat) : Int)) : ((k : Int) / d % 2 == 1) = bitOf (97 + i) k := by
  subst hd
  rw [show (k : Int) / ((2 ^ i : Nat) : Int) % 2 = ((k / 2 ^ i % 2 : Nat) : Int) by push_cast; rfl]
  unfold bitOf
  rw [decide_eq_false (by omega : ¬ 97 + i = 49), decide_eq_false (by omega : ¬ 97 + i = 48), show 97 + i - 97 = i by omega]
  rcases Nat.mod_two_eq_zero_or_one (k / 2 ^ i) with h | h <;> rw [h] <;> rfl
theorem wordTo_bit (c : Nat) : ∀ n w, (wordTo c n).testBit w = (decide (w < n) && bitOf c w)
  | 0, w => by simp [wordTo]
  | n + 1, w => by
    have ih := wordTo_bit c n w
    unfold wordTo
    rw [Nat.testBit_or, ih]
    by_cases e : w = n
    · subst e
      cases h : bitOf c w
      · simp
      · simp
    · have h2 : (if bitOf c n = true then 2 ^ n else 0).testBit w = false := by
        split
        · rw [Nat.testBit_two_pow]; simp; omega
        · simp
      rw [h2]
      cases bitOf c w
      · simp
      · simp; omega
theorem thing_all {t : Int} {i m : Nat} (h1 : 1 ≤ t) (h3 : t ≤ 3) (hi : (i : Int) < t) (hm : (m : Int) ≤ allOf t) : holdsS t (.thing i) m = allTo (fun w => !hasW (m : Int) w || bitOf (97 + i) w) (nWorlds t) := by
  show withinB (m : Int) (letterSet t i) = _
  rw [← word_thing h1 h3 hi, Bool.eq_iff_iff, within_iff (by omega)]
  unfold allTo
  rw [List.all_eq_true]
  constructor
  · intro h w hw
    have := h w
    rw [Int.toNat_natCast, Int.toNat_natCast, wordTo_bit] at this
    unfold hasW
    rw [Int.toNat_natCast]
    cases hb : m.testBit w
    · rfl
    · have := this hb
      rw [Bool.and_eq_true] at this
      rw [this.2]; rfl
  · intro h w hb
    have hlt := has_lt h1 h3 (s := (m : Int)) (by omega) hm (w := w) hb
    have := h w (List.mem_range.2 hlt)
    unfold hasW at this
    rw [hb] at this
    rw [Int.toNat_natCast, wordTo_bit, decide_eq_true hlt]
    simpa using this


set_option maxRecDepth 100000 in
set_option maxHeartbeats 4000000 in
theorem sHo_one (t : Int) (s : ByteArray) (at_ m : Nat) (w : World) (hs : s.size ≤ 1048576) (hat : at_ < s.size) (hc : s[at_].toNat = 49) : Calls Tryz.prog 105 #[.int .i64 t, .string s, .int .i64 at_, .int .i64 m] w (SHold t s .one ((bytesN s).drop (at_ + 1)) m w) := by
  have hd : (at_ : Int) < (s.size : Int) := by omega
  have hd0 : (0 : Int) ≤ (at_ : Int) := by omega
  go_enter Tryz.func105, Tryz.ntmps105
  go_wp2_with fail
  go_ret2
  exact ⟨at_ + 1, rfl, hat, rfl, 0, rfl⟩
set_option maxRecDepth 100000 in
set_option maxHeartbeats 4000000 in
theorem sHo_zero (t : Int) (s : ByteArray) (at_ m : Nat) (w : World) (hs : s.size ≤ 1048576) (hat : at_ < s.size) (hc : s[at_].toNat = 48) : Calls Tryz.prog 105 #[.int .i64 t, .string s, .int .i64 at_, .int .i64 m] w (SHold t s .zero ((bytesN s).drop (at_ + 1)) m w) := by
  have hd : (at_ : Int) < (s.size : Int) := by omega
  have hd0 : (0 : Int) ≤ (at_ : Int) := by omega
  have he : ((m : Int) == 0) = holdsS t .zero m := rfl
  obtain ⟨b, HB⟩ : ∃ b, Hid (holdsS t .zero m = b) := ⟨_, rfl⟩
  rw [HB.out] at he
  go_enter Tryz.func105, Tryz.ntmps105
  go_wp2_with fail
  go_ret2
  exact ⟨at_ + 1, by rw [HB.out]; rfl, hat, rfl, 0, rfl⟩

set_option maxRecDepth 100000 in
set_option maxHeartbeats 8000000 in
theorem sHo_thing (t : Int) (s : ByteArray) (at_ m : Nat) (w : World) (hs : s.size ≤ 1048576) (i : Nat) (hat : at_ < s.size) (hc : s[at_].toNat = 97 + i) (h1 : 1 ≤ t) (h3 : t ≤ 3) (hi : (i : Int) < t) (hm : (m : Int) ≤ allOf t) :
    Calls Tryz.prog 105 #[.int .i64 t, .string s, .int .i64 at_, .int .i64 m] w (SHold t s (.thing i) ((bytesN s).drop (at_ + 1)) m w) := by
  have hd : (at_ : Int) < (s.size : Int) := by omega
  have hd0 : (0 : Int) ≤ (at_ : Int) := by omega
  have HF := Lib.hid (thing_all h1 h3 hi hm)
  have h : (t = 1 ∧ i = 0) ∨ (t = 2 ∧ i = 0) ∨ (t = 2 ∧ i = 1) ∨ (t = 3 ∧ i = 0) ∨ (t = 3 ∧ i = 1) ∨ (t = 3 ∧ i = 2) := by omega
  have hm256 : m < 256 := by have := (allOf_lt t).2; omega
  clear h1 h3 hi hm
  rcases h with ⟨rfl, rfl⟩ | ⟨rfl, rfl⟩ | ⟨rfl, rfl⟩ | ⟨rfl, rfl⟩ | ⟨rfl, rfl⟩ | ⟨rfl, rfl⟩
  · have hc : s[at_].toNat = 97 := hc
    have HF : Hid (holdsS 1 (.thing 0) m = allTo (fun w => !hasW (m : Int) w || bitOf 97 w) 2) := HF.out
    obtain ⟨F, HFF⟩ : ∃ F : Nat → Bool, Hid ((fun w => !hasW (m : Int) w || bitOf 97 w) = F) := ⟨_, rfl⟩
    rw [HFF.out] at HF
    have HS := Lib.hid (allTo_succ F)
    go_enter Tryz.func105, Tryz.ntmps105
    go_wp2_with fail
    go_loop [10, 11] (fun v i => ∃ k : Nat, k ≤ 2 ∧ i = .int .i64 k ∧ v = .bool (allTo F k)) (fun _ i => 2 - (Go.RowKit.intOf i).toNat)
    case atStart => exact ⟨0, Nat.zero_le _, rfl, rfl⟩
    case round =>
      obtain ⟨k, hk, rfl, rfl⟩ := hrel
      by_cases hlt : k < 2
      · have HK := Lib.hid (HS.out k)
        have HW := Lib.hid (congrFun HFF.out k)
        obtain ⟨y, HY⟩ : ∃ y, Hid (allTo F k = y) := ⟨_, rfl⟩
        obtain ⟨hb, HHB⟩ : ∃ y, Hid (hasW (m : Int) k = y) := ⟨_, rfl⟩
        have hwk := has_walk HHB.out
        have h8 : k = 0 ∨ k = 1 ∨ k = 2 ∨ k = 3 ∨ k = 4 ∨ k = 5 ∨ k = 6 ∨ k = 7 := by omega
        rw [HY.out]
        clear hk
        cases y
        · clear hwk h8
          go_wp2_with fail
          refine ⟨⟨k + 1, by omega, by go_num, by rw [HK.out, HY.out]; rfl⟩, ?_⟩
          simp [Go.RowKit.intOf]; omega
        · cases hb
          · have hwk : (((m : Int) / 2 ^ k).tmod 2 == 0) = true := hwk
            clear h8
            go_wp2_with fail
            refine ⟨⟨k + 1, by omega, by go_num, by rw [HK.out, HY.out, ← HW.out, HHB.out]; rfl⟩, ?_⟩
            simp [Go.RowKit.intOf]; omega
          · have hwk : (((m : Int) / 2 ^ k).tmod 2 == 0) = false := hwk
            obtain ⟨v, HV⟩ : ∃ v, Hid (bitOf 97 k = v) := ⟨_, rfl⟩
            have hb1 : ((k : Int) / 1 % 2 == 1) = v := by rw [← HV.out]; exact bit_walk 0 k 1 rfl
            try rw [Int.ediv_one] at hb1
            clear h8
            go_wp2_with fail
            refine ⟨⟨k + 1, by omega, by go_num, by rw [HK.out, HY.out, ← HW.out, HHB.out, HV.out]; rfl⟩, ?_⟩
            simp [Go.RowKit.intOf]; omega
      · obtain rfl : k = 2 := by omega
        go_wp2_with fail
        go_ret2
        exact ⟨at_ + 1, by rw [HF.out]; rfl, hat, rfl, 0, rfl⟩
  · have hc : s[at_].toNat = 97 := hc
    have HF : Hid (holdsS 2 (.thing 0) m = allTo (fun w => !hasW (m : Int) w || bitOf 97 w) 4) := HF.out
    obtain ⟨F, HFF⟩ : ∃ F : Nat → Bool, Hid ((fun w => !hasW (m : Int) w || bitOf 97 w) = F) := ⟨_, rfl⟩
    rw [HFF.out] at HF
    have HS := Lib.hid (allTo_succ F)
    go_enter Tryz.func105, Tryz.ntmps105
    go_wp2_with fail
    go_loop [10, 11] (fun v i => ∃ k : Nat, k ≤ 4 ∧ i = .int .i64 k ∧ v = .bool (allTo F k)) (fun _ i => 4 - (Go.RowKit.intOf i).toNat)
    case atStart => exact ⟨0, Nat.zero_le _, rfl, rfl⟩
    case round =>
      obtain ⟨k, hk, rfl, rfl⟩ := hrel
      by_cases hlt : k < 4
      · have HK := Lib.hid (HS.out k)
        have HW := Lib.hid (congrFun HFF.out k)
        obtain ⟨y, HY⟩ : ∃ y, Hid (allTo F k = y) := ⟨_, rfl⟩
        obtain ⟨hb, HHB⟩ : ∃ y, Hid (hasW (m : Int) k = y) := ⟨_, rfl⟩
        have hwk := has_walk HHB.out
        have h8 : k = 0 ∨ k = 1 ∨ k = 2 ∨ k = 3 ∨ k = 4 ∨ k = 5 ∨ k = 6 ∨ k = 7 := by omega
        rw [HY.out]
        clear hk
        cases y
        · clear hwk h8
          go_wp2_with fail
          refine ⟨⟨k + 1, by omega, by go_num, by rw [HK.out, HY.out]; rfl⟩, ?_⟩
          simp [Go.RowKit.intOf]; omega
        · cases hb
          · have hwk : (((m : Int) / 2 ^ k).tmod 2 == 0) = true := hwk
            clear h8
            go_wp2_with fail
            refine ⟨⟨k + 1, by omega, by go_num, by rw [HK.out, HY.out, ← HW.out, HHB.out]; rfl⟩, ?_⟩
            simp [Go.RowKit.intOf]; omega
          · have hwk : (((m : Int) / 2 ^ k).tmod 2 == 0) = false := hwk
            obtain ⟨v, HV⟩ : ∃ v, Hid (bitOf 97 k = v) := ⟨_, rfl⟩
            have hb1 : ((k : Int) / 1 % 2 == 1) = v := by rw [← HV.out]; exact bit_walk 0 k 1 rfl
            try rw [Int.ediv_one] at hb1
            clear h8
            go_wp2_with fail
            refine ⟨⟨k + 1, by omega, by go_num, by rw [HK.out, HY.out, ← HW.out, HHB.out, HV.out]; rfl⟩, ?_⟩
            simp [Go.RowKit.intOf]; omega
      · obtain rfl : k = 4 := by omega
        go_wp2_with fail
        go_ret2
        exact ⟨at_ + 1, by rw [HF.out]; rfl, hat, rfl, 0, rfl⟩
  · have hc : s[at_].toNat = 98 := hc
    have HF : Hid (holdsS 2 (.thing 1) m = allTo (fun w => !hasW (m : Int) w || bitOf 98 w) 4) := HF.out
    obtain ⟨F, HFF⟩ : ∃ F : Nat → Bool, Hid ((fun w => !hasW (m : Int) w || bitOf 98 w) = F) := ⟨_, rfl⟩
    rw [HFF.out] at HF
    have HS := Lib.hid (allTo_succ F)
    go_enter Tryz.func105, Tryz.ntmps105
    go_wp2_with fail
    go_loop [10, 11] (fun v i => ∃ k : Nat, k ≤ 4 ∧ i = .int .i64 k ∧ v = .bool (allTo F k)) (fun _ i => 4 - (Go.RowKit.intOf i).toNat)
    case atStart => exact ⟨0, Nat.zero_le _, rfl, rfl⟩
    case round =>
      obtain ⟨k, hk, rfl, rfl⟩ := hrel
      by_cases hlt : k < 4
      · have HK := Lib.hid (HS.out k)
        have HW := Lib.hid (congrFun HFF.out k)
        obtain ⟨y, HY⟩ : ∃ y, Hid (allTo F k = y) := ⟨_, rfl⟩
        obtain ⟨hb, HHB⟩ : ∃ y, Hid (hasW (m : Int) k = y) := ⟨_, rfl⟩
        have hwk := has_walk HHB.out
        have h8 : k = 0 ∨ k = 1 ∨ k = 2 ∨ k = 3 ∨ k = 4 ∨ k = 5 ∨ k = 6 ∨ k = 7 := by omega
        rw [HY.out]
        clear hk
        cases y
        · clear hwk h8
          go_wp2_with fail
          refine ⟨⟨k + 1, by omega, by go_num, by rw [HK.out, HY.out]; rfl⟩, ?_⟩
          simp [Go.RowKit.intOf]; omega
        · cases hb
          · have hwk : (((m : Int) / 2 ^ k).tmod 2 == 0) = true := hwk
            clear h8
            go_wp2_with fail
            refine ⟨⟨k + 1, by omega, by go_num, by rw [HK.out, HY.out, ← HW.out, HHB.out]; rfl⟩, ?_⟩
            simp [Go.RowKit.intOf]; omega
          · have hwk : (((m : Int) / 2 ^ k).tmod 2 == 0) = false := hwk
            obtain ⟨v, HV⟩ : ∃ v, Hid (bitOf 98 k = v) := ⟨_, rfl⟩
            have hb1 : ((k : Int) / 2 % 2 == 1) = v := by rw [← HV.out]; exact bit_walk 1 k 2 rfl
            try rw [Int.ediv_one] at hb1
            clear h8
            go_wp2_with fail
            refine ⟨⟨k + 1, by omega, by go_num, by rw [HK.out, HY.out, ← HW.out, HHB.out, HV.out]; rfl⟩, ?_⟩
            simp [Go.RowKit.intOf]; omega
      · obtain rfl : k = 4 := by omega
        go_wp2_with fail
        go_ret2
        exact ⟨at_ + 1, by rw [HF.out]; rfl, hat, rfl, 0, rfl⟩
  · have hc : s[at_].toNat = 97 := hc
    have HF : Hid (holdsS 3 (.thing 0) m = allTo (fun w => !hasW (m : Int) w || bitOf 97 w) 8) := HF.out
    obtain ⟨F, HFF⟩ : ∃ F : Nat → Bool, Hid ((fun w => !hasW (m : Int) w || bitOf 97 w) = F) := ⟨_, rfl⟩
    rw [HFF.out] at HF
    have HS := Lib.hid (allTo_succ F)
    go_enter Tryz.func105, Tryz.ntmps105
    go_wp2_with fail
    go_loop [10, 11] (fun v i => ∃ k : Nat, k ≤ 8 ∧ i = .int .i64 k ∧ v = .bool (allTo F k)) (fun _ i => 8 - (Go.RowKit.intOf i).toNat)
    case atStart => exact ⟨0, Nat.zero_le _, rfl, rfl⟩
    case round =>
      obtain ⟨k, hk, rfl, rfl⟩ := hrel
      by_cases hlt : k < 8
      · have HK := Lib.hid (HS.out k)
        have HW := Lib.hid (congrFun HFF.out k)
        obtain ⟨y, HY⟩ : ∃ y, Hid (allTo F k = y) := ⟨_, rfl⟩
        obtain ⟨hb, HHB⟩ : ∃ y, Hid (hasW (m : Int) k = y) := ⟨_, rfl⟩
        have hwk := has_walk HHB.out
        have h8 : k = 0 ∨ k = 1 ∨ k = 2 ∨ k = 3 ∨ k = 4 ∨ k = 5 ∨ k = 6 ∨ k = 7 := by omega
        rw [HY.out]
        clear hk
        cases y
        · clear hwk h8
          go_wp2_with fail
          refine ⟨⟨k + 1, by omega, by go_num, by rw [HK.out, HY.out]; rfl⟩, ?_⟩
          simp [Go.RowKit.intOf]; omega
        · cases hb
          · have hwk : (((m : Int) / 2 ^ k).tmod 2 == 0) = true := hwk
            clear h8
            go_wp2_with fail
            refine ⟨⟨k + 1, by omega, by go_num, by rw [HK.out, HY.out, ← HW.out, HHB.out]; rfl⟩, ?_⟩
            simp [Go.RowKit.intOf]; omega
          · have hwk : (((m : Int) / 2 ^ k).tmod 2 == 0) = false := hwk
            obtain ⟨v, HV⟩ : ∃ v, Hid (bitOf 97 k = v) := ⟨_, rfl⟩
            have hb1 : ((k : Int) / 1 % 2 == 1) = v := by rw [← HV.out]; exact bit_walk 0 k 1 rfl
            try rw [Int.ediv_one] at hb1
            clear h8
            go_wp2_with fail
            refine ⟨⟨k + 1, by omega, by go_num, by rw [HK.out, HY.out, ← HW.out, HHB.out, HV.out]; rfl⟩, ?_⟩
            simp [Go.RowKit.intOf]; omega
      · obtain rfl : k = 8 := by omega
        go_wp2_with fail
        go_ret2
        exact ⟨at_ + 1, by rw [HF.out]; rfl, hat, rfl, 0, rfl⟩
  · have hc : s[at_].toNat = 98 := hc
    have HF : Hid (holdsS 3 (.thing 1) m = allTo (fun w => !hasW (m : Int) w || bitOf 98 w) 8) := HF.out
    obtain ⟨F, HFF⟩ : ∃ F : Nat → Bool, Hid ((fun w => !hasW (m : Int) w || bitOf 98 w) = F) := ⟨_, rfl⟩
    rw [HFF.out] at HF
    have HS := Lib.hid (allTo_succ F)
    go_enter Tryz.func105, Tryz.ntmps105
    go_wp2_with fail
    go_loop [10, 11] (fun v i => ∃ k : Nat, k ≤ 8 ∧ i = .int .i64 k ∧ v = .bool (allTo F k)) (fun _ i => 8 - (Go.RowKit.intOf i).toNat)
    case atStart => exact ⟨0, Nat.zero_le _, rfl, rfl⟩
    case round =>
      obtain ⟨k, hk, rfl, rfl⟩ := hrel
      by_cases hlt : k < 8
      · have HK := Lib.hid (HS.out k)
        have HW := Lib.hid (congrFun HFF.out k)
        obtain ⟨y, HY⟩ : ∃ y, Hid (allTo F k = y) := ⟨_, rfl⟩
        obtain ⟨hb, HHB⟩ : ∃ y, Hid (hasW (m : Int) k = y) := ⟨_, rfl⟩
        have hwk := has_walk HHB.out
        have h8 : k = 0 ∨ k = 1 ∨ k = 2 ∨ k = 3 ∨ k = 4 ∨ k = 5 ∨ k = 6 ∨ k = 7 := by omega
        rw [HY.out]
        clear hk
        cases y
        · clear hwk h8
          go_wp2_with fail
          refine ⟨⟨k + 1, by omega, by go_num, by rw [HK.out, HY.out]; rfl⟩, ?_⟩
          simp [Go.RowKit.intOf]; omega
        · cases hb
          · have hwk : (((m : Int) / 2 ^ k).tmod 2 == 0) = true := hwk
            clear h8
            go_wp2_with fail
            refine ⟨⟨k + 1, by omega, by go_num, by rw [HK.out, HY.out, ← HW.out, HHB.out]; rfl⟩, ?_⟩
            simp [Go.RowKit.intOf]; omega
          · have hwk : (((m : Int) / 2 ^ k).tmod 2 == 0) = false := hwk
            obtain ⟨v, HV⟩ : ∃ v, Hid (bitOf 98 k = v) := ⟨_, rfl⟩
            have hb1 : ((k : Int) / 2 % 2 == 1) = v := by rw [← HV.out]; exact bit_walk 1 k 2 rfl
            try rw [Int.ediv_one] at hb1
            clear h8
            go_wp2_with fail
            refine ⟨⟨k + 1, by omega, by go_num, by rw [HK.out, HY.out, ← HW.out, HHB.out, HV.out]; rfl⟩, ?_⟩
            simp [Go.RowKit.intOf]; omega
      · obtain rfl : k = 8 := by omega
        go_wp2_with fail
        go_ret2
        exact ⟨at_ + 1, by rw [HF.out]; rfl, hat, rfl, 0, rfl⟩
  · have hc : s[at_].toNat = 99 := hc
    have HF : Hid (holdsS 3 (.thing 2) m = allTo (fun w => !hasW (m : Int) w || bitOf 99 w) 8) := HF.out
    obtain ⟨F, HFF⟩ : ∃ F : Nat → Bool, Hid ((fun w => !hasW (m : Int) w || bitOf 99 w) = F) := ⟨_, rfl⟩
    rw [HFF.out] at HF
    have HS := Lib.hid (allTo_succ F)
    go_enter Tryz.func105, Tryz.ntmps105
    go_wp2_with fail
    go_loop [10, 11] (fun v i => ∃ k : Nat, k ≤ 8 ∧ i = .int .i64 k ∧ v = .bool (allTo F k)) (fun _ i => 8 - (Go.RowKit.intOf i).toNat)
    case atStart => exact ⟨0, Nat.zero_le _, rfl, rfl⟩
    case round =>
      obtain ⟨k, hk, rfl, rfl⟩ := hrel
      by_cases hlt : k < 8
      · have HK := Lib.hid (HS.out k)
        have HW := Lib.hid (congrFun HFF.out k)
        obtain ⟨y, HY⟩ : ∃ y, Hid (allTo F k = y) := ⟨_, rfl⟩
        obtain ⟨hb, HHB⟩ : ∃ y, Hid (hasW (m : Int) k = y) := ⟨_, rfl⟩
        have hwk := has_walk HHB.out
        have h8 : k = 0 ∨ k = 1 ∨ k = 2 ∨ k = 3 ∨ k = 4 ∨ k = 5 ∨ k = 6 ∨ k = 7 := by omega
        rw [HY.out]
        clear hk
        cases y
        · clear hwk h8
          go_wp2_with fail
          refine ⟨⟨k + 1, by omega, by go_num, by rw [HK.out, HY.out]; rfl⟩, ?_⟩
          simp [Go.RowKit.intOf]; omega
        · cases hb
          · have hwk : (((m : Int) / 2 ^ k).tmod 2 == 0) = true := hwk
            clear h8
            go_wp2_with fail
            refine ⟨⟨k + 1, by omega, by go_num, by rw [HK.out, HY.out, ← HW.out, HHB.out]; rfl⟩, ?_⟩
            simp [Go.RowKit.intOf]; omega
          · have hwk : (((m : Int) / 2 ^ k).tmod 2 == 0) = false := hwk
            obtain ⟨v, HV⟩ : ∃ v, Hid (bitOf 99 k = v) := ⟨_, rfl⟩
            have hb1 : ((k : Int) / 4 % 2 == 1) = v := by rw [← HV.out]; exact bit_walk 2 k 4 rfl
            try rw [Int.ediv_one] at hb1
            clear h8
            go_wp2_with fail
            refine ⟨⟨k + 1, by omega, by go_num, by rw [HK.out, HY.out, ← HW.out, HHB.out, HV.out]; rfl⟩, ?_⟩
            simp [Go.RowKit.intOf]; omega
      · obtain rfl : k = 8 := by omega
        go_wp2_with fail
        go_ret2
        exact ⟨at_ + 1, by rw [HF.out]; rfl, hat, rfl, 0, rfl⟩
end Go.Proofs.YtmdogidflaplkaaGreat

namespace Go.Proofs.YtmdogidflaplkaaGreat
open Go.RowKit

def HoldsAt (t : Int) (s : ByteArray) (at_ : Nat) (x : Sen) (rest : List Nat) : Prop := ∀ (m : Nat) W, (m : Int) ≤ allOf t → Calls Tryz.prog 105 #[.int .i64 t, .string s, .int .i64 at_, .int .i64 m] W (SHold t s x rest m W)
theorem two_pow_cast (k : Nat) : (2 : Int) ^ k = ((2 ^ k : Nat) : Int) := by push_cast; rfl
theorem wrap_pow {k : Nat} (h : k < 8) : wrap64 ((2 : Int) ^ k) = ((2 ^ k : Nat) : Int) := by
  have : 2 ^ k ≤ 2 ^ 7 := Nat.pow_le_pow_right (by omega) (by omega)
  rw [two_pow_cast]
  obtain ⟨p, hp⟩ : ∃ p, 2 ^ k = p := ⟨_, rfl⟩
  rw [hp] at this ⊢
  exact IntWalk.wrap64_in _ ⟨by omega, by omega⟩
def NoneF (t : Int) (x : Sen) (m : Nat) (w : Nat) : Bool := !hasW (m : Int) w || !holdsS t x (worldS w)
theorem no_all (t : Int) (x : Sen) (m : Nat) : holdsS t (.no x) m = allTo (NoneF t x m) (nWorlds t) := rfl
theorem ask_all (t : Int) (x : Sen) (m : Nat) : holdsS t (.ask x) m = (holdsS t x m || allTo (NoneF t x m) (nWorlds t)) := rfl


set_option maxRecDepth 100000 in
set_option maxHeartbeats 8000000 in
theorem sHo_no (t : Int) (s : ByteArray) (at_ m : Nat) (w : World) (hs : s.size ≤ 1048576) (hat : at_ < s.size) (hc : s[at_].toNat = 33) (h1 : 1 ≤ t) (h3 : t ≤ 3) (hm : (m : Int) ≤ allOf t) (x : Sen) (rest : List Nat) (hi : HoldsAt t s (at_ + 1) x rest) :
    Calls Tryz.prog 105 #[.int .i64 t, .string s, .int .i64 at_, .int .i64 m] w (SHold t s (.no x) rest m w) := by
  have hd : (at_ : Int) < (s.size : Int) := by omega
  have hd0 : (0 : Int) ≤ (at_ : Int) := by omega
  have HF := Lib.hid (no_all t x m)
  have HI := Lib.hid hi
  have HM := Lib.hid hm
  have hm256 : m < 256 := by have := (allOf_lt t).2; omega
  obtain ⟨F, HFF⟩ : ∃ F : Nat → Bool, Hid (NoneF t x m = F) := ⟨_, rfl⟩
  rw [HFF.out] at HF
  have HS := Lib.hid (allTo_succ F)
  obtain ⟨hx, HX⟩ : ∃ b, Hid (holdsS t x m = b) := ⟨_, rfl⟩
  have h : t = 1 ∨ t = 2 ∨ t = 3 := by omega
  clear h1 h3 hm hi
  rcases h with rfl | rfl | rfl
  · go_enter Tryz.func105, Tryz.ntmps105
    go_wp2_with fail
    refine (HI.out m _ HM.out).mono ?_
    rintro e w1 ⟨a2, rfl, ha2, hd2, q, rfl⟩
    rw [HX.out]
    have HD2 := Lib.hid hd2
    clear hd2
    go_wp2_with fail
    go_loopw [14, 15] (fun v i wr => ∃ k : Nat, k ≤ 2 ∧ i = .int .i64 k ∧ v = .bool (allTo F k) ∧ ∃ q, wr = w.drewN q) (fun _ i _ => 2 - (Go.RowKit.intOf i).toNat)
    case atStart => exact ⟨0, Nat.zero_le _, rfl, rfl, q, rfl⟩
    case round =>
      obtain ⟨k, hk, rfl, rfl, q', rfl⟩ := hrel
      by_cases hlt : k < 2
      · have HK := Lib.hid (HS.out k)
        have HW := Lib.hid (congrFun HFF.out k)
        obtain ⟨y, HY⟩ : ∃ y, Hid (allTo F k = y) := ⟨_, rfl⟩
        obtain ⟨hb, HHB⟩ : ∃ y, Hid (hasW (m : Int) k = y) := ⟨_, rfl⟩
        obtain ⟨hy, HHY⟩ : ∃ y, Hid (holdsS 1 x (worldS k) = y) := ⟨_, rfl⟩
        have hwk := has_walk HHB.out
        have HC : Hid (∀ W, Calls Tryz.prog 105 #[.int .i64 1, .string s, .int .i64 ((at_ + 1 : Nat) : Int), .int .i64 (wrap64 ((2 : Int) ^ k))] W (SHold 1 s x rest (2 ^ k) W)) := fun W => by
          rw [wrap_pow (by omega)]; exact HI.out (2 ^ k) W (world_ok (t := 1) (by omega) (by omega) (w := k) hlt).2
        have HHZ : Hid (holdsS 1 x ((2 ^ k : Nat) : Int) = hy) := HHY.out
        rw [HY.out]
        clear hk
        cases y
        · clear hwk
          go_wp2_with fail
          refine (HC.out _).mono ?_
          rintro e w2 ⟨a3, rfl, _, _, q3, rfl⟩
          rw [HHZ.out]
          go_wp2_with fail
          refine ⟨⟨k + 1, by omega, by go_num, by rw [HK.out, HY.out]; rfl, _, rfl⟩, ?_⟩
          simp [Go.RowKit.intOf]; omega
        · cases hb
          · have hwk : (((m : Int) / 2 ^ k).tmod 2 == 0) = true := hwk
            go_wp2_with fail
            refine (HC.out _).mono ?_
            rintro e w2 ⟨a3, rfl, _, _, q3, rfl⟩
            rw [HHZ.out]
            go_wp2_with fail
            refine ⟨⟨k + 1, by omega, by go_num, by rw [HK.out, HY.out, ← HW.out, NoneF, HHB.out]; rfl, _, rfl⟩, ?_⟩
            simp [Go.RowKit.intOf]; omega
          · have hwk : (((m : Int) / 2 ^ k).tmod 2 == 0) = false := hwk
            have hnot : ∀ (x : Bool) (w : World), (Op.unary .not (.bool x)).run Tryz.prog w = .ok (.bool (!x)) w := fun _ _ => rfl
            go_wp2_with fail
            refine (HC.out _).mono ?_
            rintro e w2 ⟨a3, rfl, _, _, q3, rfl⟩
            rw [HHZ.out]
            go_wp2_with fail
            refine ⟨⟨k + 1, by omega, by go_num, by rw [HK.out, HY.out, ← HW.out, NoneF, HHB.out, HHY.out]; rfl, _, rfl⟩, ?_⟩
            simp [Go.RowKit.intOf]; omega
      · obtain rfl : k = 2 := by omega
        have HFM : Hid (allTo F (nWorlds 1) = allTo F 2) := rfl
        obtain ⟨y, HY⟩ : ∃ y, Hid (allTo F 2 = y) := ⟨_, rfl⟩
        rw [HY.out] at HFM ⊢
        cases hx
        all_goals
          go_wp2_with fail
          go_ret2
          exact ⟨a2, by rw [HF.out, HFM.out]; first | rfl | (rw [HX.out]; rfl), ha2, HD2.out, _, rfl⟩
  · go_enter Tryz.func105, Tryz.ntmps105
    go_wp2_with fail
    refine (HI.out m _ HM.out).mono ?_
    rintro e w1 ⟨a2, rfl, ha2, hd2, q, rfl⟩
    rw [HX.out]
    have HD2 := Lib.hid hd2
    clear hd2
    go_wp2_with fail
    go_loopw [14, 15] (fun v i wr => ∃ k : Nat, k ≤ 4 ∧ i = .int .i64 k ∧ v = .bool (allTo F k) ∧ ∃ q, wr = w.drewN q) (fun _ i _ => 4 - (Go.RowKit.intOf i).toNat)
    case atStart => exact ⟨0, Nat.zero_le _, rfl, rfl, q, rfl⟩
    case round =>
      obtain ⟨k, hk, rfl, rfl, q', rfl⟩ := hrel
      by_cases hlt : k < 4
      · have HK := Lib.hid (HS.out k)
        have HW := Lib.hid (congrFun HFF.out k)
        obtain ⟨y, HY⟩ : ∃ y, Hid (allTo F k = y) := ⟨_, rfl⟩
        obtain ⟨hb, HHB⟩ : ∃ y, Hid (hasW (m : Int) k = y) := ⟨_, rfl⟩
        obtain ⟨hy, HHY⟩ : ∃ y, Hid (holdsS 2 x (worldS k) = y) := ⟨_, rfl⟩
        have hwk := has_walk HHB.out
        have HC : Hid (∀ W, Calls Tryz.prog 105 #[.int .i64 2, .string s, .int .i64 ((at_ + 1 : Nat) : Int), .int .i64 (wrap64 ((2 : Int) ^ k))] W (SHold 2 s x rest (2 ^ k) W)) := fun W => by
          rw [wrap_pow (by omega)]; exact HI.out (2 ^ k) W (world_ok (t := 2) (by omega) (by omega) (w := k) hlt).2
        have HHZ : Hid (holdsS 2 x ((2 ^ k : Nat) : Int) = hy) := HHY.out
        rw [HY.out]
        clear hk
        cases y
        · clear hwk
          go_wp2_with fail
          refine (HC.out _).mono ?_
          rintro e w2 ⟨a3, rfl, _, _, q3, rfl⟩
          rw [HHZ.out]
          go_wp2_with fail
          refine ⟨⟨k + 1, by omega, by go_num, by rw [HK.out, HY.out]; rfl, _, rfl⟩, ?_⟩
          simp [Go.RowKit.intOf]; omega
        · cases hb
          · have hwk : (((m : Int) / 2 ^ k).tmod 2 == 0) = true := hwk
            go_wp2_with fail
            refine (HC.out _).mono ?_
            rintro e w2 ⟨a3, rfl, _, _, q3, rfl⟩
            rw [HHZ.out]
            go_wp2_with fail
            refine ⟨⟨k + 1, by omega, by go_num, by rw [HK.out, HY.out, ← HW.out, NoneF, HHB.out]; rfl, _, rfl⟩, ?_⟩
            simp [Go.RowKit.intOf]; omega
          · have hwk : (((m : Int) / 2 ^ k).tmod 2 == 0) = false := hwk
            have hnot : ∀ (x : Bool) (w : World), (Op.unary .not (.bool x)).run Tryz.prog w = .ok (.bool (!x)) w := fun _ _ => rfl
            go_wp2_with fail
            refine (HC.out _).mono ?_
            rintro e w2 ⟨a3, rfl, _, _, q3, rfl⟩
            rw [HHZ.out]
            go_wp2_with fail
            refine ⟨⟨k + 1, by omega, by go_num, by rw [HK.out, HY.out, ← HW.out, NoneF, HHB.out, HHY.out]; rfl, _, rfl⟩, ?_⟩
            simp [Go.RowKit.intOf]; omega
      · obtain rfl : k = 4 := by omega
        have HFM : Hid (allTo F (nWorlds 2) = allTo F 4) := rfl
        obtain ⟨y, HY⟩ : ∃ y, Hid (allTo F 4 = y) := ⟨_, rfl⟩
        rw [HY.out] at HFM ⊢
        cases hx
        all_goals
          go_wp2_with fail
          go_ret2
          exact ⟨a2, by rw [HF.out, HFM.out]; first | rfl | (rw [HX.out]; rfl), ha2, HD2.out, _, rfl⟩
  · go_enter Tryz.func105, Tryz.ntmps105
    go_wp2_with fail
    refine (HI.out m _ HM.out).mono ?_
    rintro e w1 ⟨a2, rfl, ha2, hd2, q, rfl⟩
    rw [HX.out]
    have HD2 := Lib.hid hd2
    clear hd2
    go_wp2_with fail
    go_loopw [14, 15] (fun v i wr => ∃ k : Nat, k ≤ 8 ∧ i = .int .i64 k ∧ v = .bool (allTo F k) ∧ ∃ q, wr = w.drewN q) (fun _ i _ => 8 - (Go.RowKit.intOf i).toNat)
    case atStart => exact ⟨0, Nat.zero_le _, rfl, rfl, q, rfl⟩
    case round =>
      obtain ⟨k, hk, rfl, rfl, q', rfl⟩ := hrel
      by_cases hlt : k < 8
      · have HK := Lib.hid (HS.out k)
        have HW := Lib.hid (congrFun HFF.out k)
        obtain ⟨y, HY⟩ : ∃ y, Hid (allTo F k = y) := ⟨_, rfl⟩
        obtain ⟨hb, HHB⟩ : ∃ y, Hid (hasW (m : Int) k = y) := ⟨_, rfl⟩
        obtain ⟨hy, HHY⟩ : ∃ y, Hid (holdsS 3 x (worldS k) = y) := ⟨_, rfl⟩
        have hwk := has_walk HHB.out
        have HC : Hid (∀ W, Calls Tryz.prog 105 #[.int .i64 3, .string s, .int .i64 ((at_ + 1 : Nat) : Int), .int .i64 (wrap64 ((2 : Int) ^ k))] W (SHold 3 s x rest (2 ^ k) W)) := fun W => by
          rw [wrap_pow (by omega)]; exact HI.out (2 ^ k) W (world_ok (t := 3) (by omega) (by omega) (w := k) hlt).2
        have HHZ : Hid (holdsS 3 x ((2 ^ k : Nat) : Int) = hy) := HHY.out
        rw [HY.out]
        clear hk
        cases y
        · clear hwk
          go_wp2_with fail
          refine (HC.out _).mono ?_
          rintro e w2 ⟨a3, rfl, _, _, q3, rfl⟩
          rw [HHZ.out]
          go_wp2_with fail
          refine ⟨⟨k + 1, by omega, by go_num, by rw [HK.out, HY.out]; rfl, _, rfl⟩, ?_⟩
          simp [Go.RowKit.intOf]; omega
        · cases hb
          · have hwk : (((m : Int) / 2 ^ k).tmod 2 == 0) = true := hwk
            go_wp2_with fail
            refine (HC.out _).mono ?_
            rintro e w2 ⟨a3, rfl, _, _, q3, rfl⟩
            rw [HHZ.out]
            go_wp2_with fail
            refine ⟨⟨k + 1, by omega, by go_num, by rw [HK.out, HY.out, ← HW.out, NoneF, HHB.out]; rfl, _, rfl⟩, ?_⟩
            simp [Go.RowKit.intOf]; omega
          · have hwk : (((m : Int) / 2 ^ k).tmod 2 == 0) = false := hwk
            have hnot : ∀ (x : Bool) (w : World), (Op.unary .not (.bool x)).run Tryz.prog w = .ok (.bool (!x)) w := fun _ _ => rfl
            go_wp2_with fail
            refine (HC.out _).mono ?_
            rintro e w2 ⟨a3, rfl, _, _, q3, rfl⟩
            rw [HHZ.out]
            go_wp2_with fail
            refine ⟨⟨k + 1, by omega, by go_num, by rw [HK.out, HY.out, ← HW.out, NoneF, HHB.out, HHY.out]; rfl, _, rfl⟩, ?_⟩
            simp [Go.RowKit.intOf]; omega
      · obtain rfl : k = 8 := by omega
        have HFM : Hid (allTo F (nWorlds 3) = allTo F 8) := rfl
        obtain ⟨y, HY⟩ : ∃ y, Hid (allTo F 8 = y) := ⟨_, rfl⟩
        rw [HY.out] at HFM ⊢
        cases hx
        all_goals
          go_wp2_with fail
          go_ret2
          exact ⟨a2, by rw [HF.out, HFM.out]; first | rfl | (rw [HX.out]; rfl), ha2, HD2.out, _, rfl⟩
set_option maxRecDepth 100000 in
set_option maxHeartbeats 8000000 in
theorem sHo_ask (t : Int) (s : ByteArray) (at_ m : Nat) (w : World) (hs : s.size ≤ 1048576) (hat : at_ < s.size) (hc : s[at_].toNat = 63) (h1 : 1 ≤ t) (h3 : t ≤ 3) (hm : (m : Int) ≤ allOf t) (x : Sen) (rest : List Nat) (hi : HoldsAt t s (at_ + 1) x rest) :
    Calls Tryz.prog 105 #[.int .i64 t, .string s, .int .i64 at_, .int .i64 m] w (SHold t s (.ask x) rest m w) := by
  have hd : (at_ : Int) < (s.size : Int) := by omega
  have hd0 : (0 : Int) ≤ (at_ : Int) := by omega
  have HF := Lib.hid (ask_all t x m)
  have HI := Lib.hid hi
  have HM := Lib.hid hm
  have hm256 : m < 256 := by have := (allOf_lt t).2; omega
  obtain ⟨F, HFF⟩ : ∃ F : Nat → Bool, Hid (NoneF t x m = F) := ⟨_, rfl⟩
  rw [HFF.out] at HF
  have HS := Lib.hid (allTo_succ F)
  obtain ⟨hx, HX⟩ : ∃ b, Hid (holdsS t x m = b) := ⟨_, rfl⟩
  have h : t = 1 ∨ t = 2 ∨ t = 3 := by omega
  clear h1 h3 hm hi
  rcases h with rfl | rfl | rfl
  · go_enter Tryz.func105, Tryz.ntmps105
    go_wp2_with fail
    refine (HI.out m _ HM.out).mono ?_
    rintro e w1 ⟨a2, rfl, ha2, hd2, q, rfl⟩
    rw [HX.out]
    have HD2 := Lib.hid hd2
    clear hd2
    go_wp2_with fail
    go_loopw [14, 15] (fun v i wr => ∃ k : Nat, k ≤ 2 ∧ i = .int .i64 k ∧ v = .bool (allTo F k) ∧ ∃ q, wr = w.drewN q) (fun _ i _ => 2 - (Go.RowKit.intOf i).toNat)
    case atStart => exact ⟨0, Nat.zero_le _, rfl, rfl, q, rfl⟩
    case round =>
      obtain ⟨k, hk, rfl, rfl, q', rfl⟩ := hrel
      by_cases hlt : k < 2
      · have HK := Lib.hid (HS.out k)
        have HW := Lib.hid (congrFun HFF.out k)
        obtain ⟨y, HY⟩ : ∃ y, Hid (allTo F k = y) := ⟨_, rfl⟩
        obtain ⟨hb, HHB⟩ : ∃ y, Hid (hasW (m : Int) k = y) := ⟨_, rfl⟩
        obtain ⟨hy, HHY⟩ : ∃ y, Hid (holdsS 1 x (worldS k) = y) := ⟨_, rfl⟩
        have hwk := has_walk HHB.out
        have HC : Hid (∀ W, Calls Tryz.prog 105 #[.int .i64 1, .string s, .int .i64 ((at_ + 1 : Nat) : Int), .int .i64 (wrap64 ((2 : Int) ^ k))] W (SHold 1 s x rest (2 ^ k) W)) := fun W => by
          rw [wrap_pow (by omega)]; exact HI.out (2 ^ k) W (world_ok (t := 1) (by omega) (by omega) (w := k) hlt).2
        have HHZ : Hid (holdsS 1 x ((2 ^ k : Nat) : Int) = hy) := HHY.out
        rw [HY.out]
        clear hk
        cases y
        · clear hwk
          go_wp2_with fail
          refine (HC.out _).mono ?_
          rintro e w2 ⟨a3, rfl, _, _, q3, rfl⟩
          rw [HHZ.out]
          go_wp2_with fail
          refine ⟨⟨k + 1, by omega, by go_num, by rw [HK.out, HY.out]; rfl, _, rfl⟩, ?_⟩
          simp [Go.RowKit.intOf]; omega
        · cases hb
          · have hwk : (((m : Int) / 2 ^ k).tmod 2 == 0) = true := hwk
            go_wp2_with fail
            refine (HC.out _).mono ?_
            rintro e w2 ⟨a3, rfl, _, _, q3, rfl⟩
            rw [HHZ.out]
            go_wp2_with fail
            refine ⟨⟨k + 1, by omega, by go_num, by rw [HK.out, HY.out, ← HW.out, NoneF, HHB.out]; rfl, _, rfl⟩, ?_⟩
            simp [Go.RowKit.intOf]; omega
          · have hwk : (((m : Int) / 2 ^ k).tmod 2 == 0) = false := hwk
            have hnot : ∀ (x : Bool) (w : World), (Op.unary .not (.bool x)).run Tryz.prog w = .ok (.bool (!x)) w := fun _ _ => rfl
            go_wp2_with fail
            refine (HC.out _).mono ?_
            rintro e w2 ⟨a3, rfl, _, _, q3, rfl⟩
            rw [HHZ.out]
            go_wp2_with fail
            refine ⟨⟨k + 1, by omega, by go_num, by rw [HK.out, HY.out, ← HW.out, NoneF, HHB.out, HHY.out]; rfl, _, rfl⟩, ?_⟩
            simp [Go.RowKit.intOf]; omega
      · obtain rfl : k = 2 := by omega
        have HFM : Hid (allTo F (nWorlds 1) = allTo F 2) := rfl
        obtain ⟨y, HY⟩ : ∃ y, Hid (allTo F 2 = y) := ⟨_, rfl⟩
        rw [HY.out] at HFM ⊢
        cases hx
        all_goals
          go_wp2_with fail
          go_ret2
          exact ⟨a2, by rw [HF.out, HFM.out]; first | rfl | (rw [HX.out]; rfl), ha2, HD2.out, _, rfl⟩
  · go_enter Tryz.func105, Tryz.ntmps105
    go_wp2_with fail
    refine (HI.out m _ HM.out).mono ?_
    rintro e w1 ⟨a2, rfl, ha2, hd2, q, rfl⟩
    rw [HX.out]
    have HD2 := Lib.hid hd2
    clear hd2
    go_wp2_with fail
    go_loopw [14, 15] (fun v i wr => ∃ k : Nat, k ≤ 4 ∧ i = .int .i64 k ∧ v = .bool (allTo F k) ∧ ∃ q, wr = w.drewN q) (fun _ i _ => 4 - (Go.RowKit.intOf i).toNat)
    case atStart => exact ⟨0, Nat.zero_le _, rfl, rfl, q, rfl⟩
    case round =>
      obtain ⟨k, hk, rfl, rfl, q', rfl⟩ := hrel
      by_cases hlt : k < 4
      · have HK := Lib.hid (HS.out k)
        have HW := Lib.hid (congrFun HFF.out k)
        obtain ⟨y, HY⟩ : ∃ y, Hid (allTo F k = y) := ⟨_, rfl⟩
        obtain ⟨hb, HHB⟩ : ∃ y, Hid (hasW (m : Int) k = y) := ⟨_, rfl⟩
        obtain ⟨hy, HHY⟩ : ∃ y, Hid (holdsS 2 x (worldS k) = y) := ⟨_, rfl⟩
        have hwk := has_walk HHB.out
        have HC : Hid (∀ W, Calls Tryz.prog 105 #[.int .i64 2, .string s, .int .i64 ((at_ + 1 : Nat) : Int), .int .i64 (wrap64 ((2 : Int) ^ k))] W (SHold 2 s x rest (2 ^ k) W)) := fun W => by
          rw [wrap_pow (by omega)]; exact HI.out (2 ^ k) W (world_ok (t := 2) (by omega) (by omega) (w := k) hlt).2
        have HHZ : Hid (holdsS 2 x ((2 ^ k : Nat) : Int) = hy) := HHY.out
        rw [HY.out]
        clear hk
        cases y
        · clear hwk
          go_wp2_with fail
          refine (HC.out _).mono ?_
          rintro e w2 ⟨a3, rfl, _, _, q3, rfl⟩
          rw [HHZ.out]
          go_wp2_with fail
          refine ⟨⟨k + 1, by omega, by go_num, by rw [HK.out, HY.out]; rfl, _, rfl⟩, ?_⟩
          simp [Go.RowKit.intOf]; omega
        · cases hb
          · have hwk : (((m : Int) / 2 ^ k).tmod 2 == 0) = true := hwk
            go_wp2_with fail
            refine (HC.out _).mono ?_
            rintro e w2 ⟨a3, rfl, _, _, q3, rfl⟩
            rw [HHZ.out]
            go_wp2_with fail
            refine ⟨⟨k + 1, by omega, by go_num, by rw [HK.out, HY.out, ← HW.out, NoneF, HHB.out]; rfl, _, rfl⟩, ?_⟩
            simp [Go.RowKit.intOf]; omega
          · have hwk : (((m : Int) / 2 ^ k).tmod 2 == 0) = false := hwk
            have hnot : ∀ (x : Bool) (w : World), (Op.unary .not (.bool x)).run Tryz.prog w = .ok (.bool (!x)) w := fun _ _ => rfl
            go_wp2_with fail
            refine (HC.out _).mono ?_
            rintro e w2 ⟨a3, rfl, _, _, q3, rfl⟩
            rw [HHZ.out]
            go_wp2_with fail
            refine ⟨⟨k + 1, by omega, by go_num, by rw [HK.out, HY.out, ← HW.out, NoneF, HHB.out, HHY.out]; rfl, _, rfl⟩, ?_⟩
            simp [Go.RowKit.intOf]; omega
      · obtain rfl : k = 4 := by omega
        have HFM : Hid (allTo F (nWorlds 2) = allTo F 4) := rfl
        obtain ⟨y, HY⟩ : ∃ y, Hid (allTo F 4 = y) := ⟨_, rfl⟩
        rw [HY.out] at HFM ⊢
        cases hx
        all_goals
          go_wp2_with fail
          go_ret2
          exact ⟨a2, by rw [HF.out, HFM.out]; first | rfl | (rw [HX.out]; rfl), ha2, HD2.out, _, rfl⟩
  · go_enter Tryz.func105, Tryz.ntmps105
    go_wp2_with fail
    refine (HI.out m _ HM.out).mono ?_
    rintro e w1 ⟨a2, rfl, ha2, hd2, q, rfl⟩
    rw [HX.out]
    have HD2 := Lib.hid hd2
    clear hd2
    go_wp2_with fail
    go_loopw [14, 15] (fun v i wr => ∃ k : Nat, k ≤ 8 ∧ i = .int .i64 k ∧ v = .bool (allTo F k) ∧ ∃ q, wr = w.drewN q) (fun _ i _ => 8 - (Go.RowKit.intOf i).toNat)
    case atStart => exact ⟨0, Nat.zero_le _, rfl, rfl, q, rfl⟩
    case round =>
      obtain ⟨k, hk, rfl, rfl, q', rfl⟩ := hrel
      by_cases hlt : k < 8
      · have HK := Lib.hid (HS.out k)
        have HW := Lib.hid (congrFun HFF.out k)
        obtain ⟨y, HY⟩ : ∃ y, Hid (allTo F k = y) := ⟨_, rfl⟩
        obtain ⟨hb, HHB⟩ : ∃ y, Hid (hasW (m : Int) k = y) := ⟨_, rfl⟩
        obtain ⟨hy, HHY⟩ : ∃ y, Hid (holdsS 3 x (worldS k) = y) := ⟨_, rfl⟩
        have hwk := has_walk HHB.out
        have HC : Hid (∀ W, Calls Tryz.prog 105 #[.int .i64 3, .string s, .int .i64 ((at_ + 1 : Nat) : Int), .int .i64 (wrap64 ((2 : Int) ^ k))] W (SHold 3 s x rest (2 ^ k) W)) := fun W => by
          rw [wrap_pow (by omega)]; exact HI.out (2 ^ k) W (world_ok (t := 3) (by omega) (by omega) (w := k) hlt).2
        have HHZ : Hid (holdsS 3 x ((2 ^ k : Nat) : Int) = hy) := HHY.out
        rw [HY.out]
        clear hk
        cases y
        · clear hwk
          go_wp2_with fail
          refine (HC.out _).mono ?_
          rintro e w2 ⟨a3, rfl, _, _, q3, rfl⟩
          rw [HHZ.out]
          go_wp2_with fail
          refine ⟨⟨k + 1, by omega, by go_num, by rw [HK.out, HY.out]; rfl, _, rfl⟩, ?_⟩
          simp [Go.RowKit.intOf]; omega
        · cases hb
          · have hwk : (((m : Int) / 2 ^ k).tmod 2 == 0) = true := hwk
            go_wp2_with fail
            refine (HC.out _).mono ?_
            rintro e w2 ⟨a3, rfl, _, _, q3, rfl⟩
            rw [HHZ.out]
            go_wp2_with fail
            refine ⟨⟨k + 1, by omega, by go_num, by rw [HK.out, HY.out, ← HW.out, NoneF, HHB.out]; rfl, _, rfl⟩, ?_⟩
            simp [Go.RowKit.intOf]; omega
          · have hwk : (((m : Int) / 2 ^ k).tmod 2 == 0) = false := hwk
            have hnot : ∀ (x : Bool) (w : World), (Op.unary .not (.bool x)).run Tryz.prog w = .ok (.bool (!x)) w := fun _ _ => rfl
            go_wp2_with fail
            refine (HC.out _).mono ?_
            rintro e w2 ⟨a3, rfl, _, _, q3, rfl⟩
            rw [HHZ.out]
            go_wp2_with fail
            refine ⟨⟨k + 1, by omega, by go_num, by rw [HK.out, HY.out, ← HW.out, NoneF, HHB.out, HHY.out]; rfl, _, rfl⟩, ?_⟩
            simp [Go.RowKit.intOf]; omega
      · obtain rfl : k = 8 := by omega
        have HFM : Hid (allTo F (nWorlds 3) = allTo F 8) := rfl
        obtain ⟨y, HY⟩ : ∃ y, Hid (allTo F 8 = y) := ⟨_, rfl⟩
        rw [HY.out] at HFM ⊢
        cases hx
        all_goals
          go_wp2_with fail
          go_ret2
          exact ⟨a2, by rw [HF.out, HFM.out]; first | rfl | (rw [HX.out]; rfl), ha2, HD2.out, _, rfl⟩
end Go.Proofs.YtmdogidflaplkaaGreat
