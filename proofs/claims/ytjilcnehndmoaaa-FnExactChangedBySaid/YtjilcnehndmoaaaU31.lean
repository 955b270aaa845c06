/-
  What the proofs of this seat's statements share (LdsV).
-/
import Derived.Test.YtjilcnehndmoaaaU30

namespace Go.Proofs.Ytjilcnehndmoaaa
open Go.RowKit

set_option maxRecDepth 100000 in
set_option maxHeartbeats 8000000 in
theorem sNeededBy (t : Int) (s : ByteArray) (w : World) (hs : s.size ≤ 9223372036854775807) :
    Calls Try.prog 26 #[.int .i64 t, .string s] w fun e w' => e = .returned (.int .i64 (neededT t s)) ∧ ∃ n, w' = w.drewN n := by
  have hnot : ∀ (x : Bool) (w : World), (Op.unary .not (.bool x)).run Try.prog w = .ok (.bool (!x)) w := fun _ _ => rfl
  rcases hx : ldT t s with _ | x
  · have HL : Hid (loadedT t s = false) := by unfold Hid loadedT; rw [hx]; rfl
    rw [show neededT t s = -1 by unfold neededT; rw [hx]]
    clear hx
    go_enter Try.func26, Try.ntmps26
    go_wp2_with (go_at_call 15; refine (sLoadedOk_is HL _ hs).mono ?_; rintro e w' ⟨rfl, q, rfl⟩)
    go_ret
    exact ⟨rfl, _, rfl⟩
  · have HL : Hid (loadedT t s = true) := by unfold Hid loadedT; rw [hx]; rfl
    obtain ⟨h1, h3, _, hok, _⟩ := ldT_ok hx
    have HC : Hid ((setOfW (needW t x) (nWorlds t) : Int) = neededT t s) := by unfold Hid neededT; rw [hx]; rfl
    have HCH : Hid (∀ k, k < nWorlds t → changedT t ((2 ^ k : Nat) : Int) s = if needW t x k = true then some (if leftW t x k = true then ((2 ^ k : Nat) : Int) else 0) else none) := fun k hk => by
      unfold changedT
      rw [hx]
      simp only
      have hb := world_ok h1 h3 hk
      rw [if_pos (show setOkB t ((2 ^ k : Nat) : Int) = true from decide_eq_true ⟨h1, h3, hb.1, hb.2⟩)]
      exact chg_world h1 h3 x hk
    have ht : t = 1 ∨ t = 2 ∨ t = 3 := by omega
    clear hx h1 h3 hok
    rcases ht with rfl | rfl | rfl
    · have HC : Hid ((setOfW (needW 1 x) 2 : Int) = _) := HC
      have HCH : Hid (∀ k, k < 2 → _) := HCH
      go_enter Try.func26, Try.ntmps26
      go_wp2_with (go_at_call 15; refine (sLoadedOk_is HL _ hs).mono ?_; rintro e w' ⟨rfl, q, rfl⟩)
      go_loopw [5, 6] (fun v i wr => ∃ k q : Nat, k ≤ 2 ∧ i = .int .i64 k ∧ v = .int .i64 (setOfW (needW 1 x) k) ∧ wr = w.drewN q) (fun _ i _ => 2 - (Go.RowKit.intOf i).toNat)
      case atStart => exact ⟨0, _, Nat.zero_le _, rfl, rfl, rfl⟩
      case round =>
        obtain ⟨k, q2, hk, rfl, rfl, rfl⟩ := hrel
        by_cases hlt : k < 2
        · have hlti : (k : Int) < 2 := by omega
          have hk8 : k < 8 := by omega
          have hkc := HCH.out k hlt
          have HLT := Lib.hid hlt
          have hkp : 2 ^ k ≤ 2 ^ 7 := Nat.pow_le_pow_right (by omega) (by omega)
          have hs1 := setOfW_lt (needW 1 x) k
          obtain ⟨a, ha⟩ : ∃ a, setOfW (needW 1 x) k = a := ⟨_, rfl⟩
          rw [ha] at hs1 ⊢
          have ha8 : a < 256 := by omega
          obtain ⟨p, HPP⟩ : ∃ p : Int, Hid (((2 ^ k : Nat) : Int) = p) := ⟨_, rfl⟩
          have hp0 : 0 ≤ p := by have := HPP.out; omega
          have hp1 : p ≤ 128 := by have := HPP.out; omega
          have hwp : wrap64 ((2 : Int) ^ k) = p := (wrap_pow8 hk8).trans HPP.out
          rw [HPP.out] at hkc
          have HCC : Hid (∀ W, Calls Try.prog 19 #[.int .i64 1, .int .i64 p, .string s] W (SChgPost (if needW 1 x k = true then some (if leftW 1 x k = true then p else 0) else none) W)) := fun W => by
            have := sChangedBy 1 p s W hs
            rw [hkc] at this; exact this
          rcases hN : needW 1 x k with _ | _
          · have HS : Hid (setOfW (needW 1 x) (k + 1) = a) := by unfold Hid; rw [← ha]; exact (set_skip8 (p := needW 1 x) (by simp [hN])).symm
            rw [hN] at HCC
            have HCC : Hid (∀ W, Calls Try.prog 19 #[.int .i64 1, .int .i64 p, .string s] W fun e w' => e = .returned (.tuple #[.int .i64 (-1), .bool false]) ∧ ∃ n, w' = W.drewN n) := HCC.out
            clear hN hkc hlt hk hkp hs1 ha
            go_wp2_with fail
            refine (HCC.out _).mono ?_
            rintro e w' ⟨rfl, q3, rfl⟩
            go_wp2_with fail
            go_roundw
            case rel => exact ⟨k + 1, _, HLT.out, by go_num, by rw [HS.out], by first | rfl | rw [World.drewN_drewN]⟩
            case measure => have := HLT.out; simp [Go.RowKit.intOf]; omega
          · rw [hN] at HCC
            rcases hL : leftW 1 x k with _ | _
            · have HS : Hid ((setOfW (needW 1 x) (k + 1) : Int) = (a : Int) + p) := by unfold Hid; unfold setOfW; rw [if_pos (by simp [hN]), ha, ← HPP.out]; simp
              rw [hL] at HCC
              have HCC : Hid (∀ W, Calls Try.prog 19 #[.int .i64 1, .int .i64 p, .string s] W fun e w' => e = .returned (.tuple #[.int .i64 0, .bool true]) ∧ ∃ n, w' = W.drewN n) := HCC.out
              clear hN hL hkc hlt hk hkp hs1 ha
              go_wp2_with fail
              refine (HCC.out _).mono ?_
              rintro e w' ⟨rfl, q3, rfl⟩
              go_wp2_with fail
              go_roundw
              case rel => exact ⟨k + 1, _, HLT.out, by go_num, by rw [HS.out], by first | rfl | rw [World.drewN_drewN]⟩
              case measure => have := HLT.out; simp [Go.RowKit.intOf]; omega
            · have HS : Hid ((setOfW (needW 1 x) (k + 1) : Int) = (a : Int) + p) := by unfold Hid; unfold setOfW; rw [if_pos (by simp [hN]), ha, ← HPP.out]; simp
              rw [hL] at HCC
              have HCC : Hid (∀ W, Calls Try.prog 19 #[.int .i64 1, .int .i64 p, .string s] W fun e w' => e = .returned (.tuple #[.int .i64 p, .bool true]) ∧ ∃ n, w' = W.drewN n) := HCC.out
              clear hN hL hkc hlt hk hkp hs1 ha
              go_wp2_with fail
              refine (HCC.out _).mono ?_
              rintro e w' ⟨rfl, q3, rfl⟩
              go_wp2_with fail
              go_roundw
              case rel => exact ⟨k + 1, _, HLT.out, by go_num, by rw [HS.out], by first | rfl | rw [World.drewN_drewN]⟩
              case measure => have := HLT.out; simp [Go.RowKit.intOf]; omega
        · obtain rfl : k = 2 := by omega
          go_wp2_with fail
          go_ret
          exact ⟨ret_int HC.out, _, rfl⟩
    · have HC : Hid ((setOfW (needW 2 x) 4 : Int) = _) := HC
      have HCH : Hid (∀ k, k < 4 → _) := HCH
      go_enter Try.func26, Try.ntmps26
      go_wp2_with (go_at_call 15; refine (sLoadedOk_is HL _ hs).mono ?_; rintro e w' ⟨rfl, q, rfl⟩)
      go_loopw [5, 6] (fun v i wr => ∃ k q : Nat, k ≤ 4 ∧ i = .int .i64 k ∧ v = .int .i64 (setOfW (needW 2 x) k) ∧ wr = w.drewN q) (fun _ i _ => 4 - (Go.RowKit.intOf i).toNat)
      case atStart => exact ⟨0, _, Nat.zero_le _, rfl, rfl, rfl⟩
      case round =>
        obtain ⟨k, q2, hk, rfl, rfl, rfl⟩ := hrel
        by_cases hlt : k < 4
        · have hlti : (k : Int) < 4 := by omega
          have hk8 : k < 8 := by omega
          have hkc := HCH.out k hlt
          have HLT := Lib.hid hlt
          have hkp : 2 ^ k ≤ 2 ^ 7 := Nat.pow_le_pow_right (by omega) (by omega)
          have hs1 := setOfW_lt (needW 2 x) k
          obtain ⟨a, ha⟩ : ∃ a, setOfW (needW 2 x) k = a := ⟨_, rfl⟩
          rw [ha] at hs1 ⊢
          have ha8 : a < 256 := by omega
          obtain ⟨p, HPP⟩ : ∃ p : Int, Hid (((2 ^ k : Nat) : Int) = p) := ⟨_, rfl⟩
          have hp0 : 0 ≤ p := by have := HPP.out; omega
          have hp1 : p ≤ 128 := by have := HPP.out; omega
          have hwp : wrap64 ((2 : Int) ^ k) = p := (wrap_pow8 hk8).trans HPP.out
          rw [HPP.out] at hkc
          have HCC : Hid (∀ W, Calls Try.prog 19 #[.int .i64 2, .int .i64 p, .string s] W (SChgPost (if needW 2 x k = true then some (if leftW 2 x k = true then p else 0) else none) W)) := fun W => by
            have := sChangedBy 2 p s W hs
            rw [hkc] at this; exact this
          rcases hN : needW 2 x k with _ | _
          · have HS : Hid (setOfW (needW 2 x) (k + 1) = a) := by unfold Hid; rw [← ha]; exact (set_skip8 (p := needW 2 x) (by simp [hN])).symm
            rw [hN] at HCC
            have HCC : Hid (∀ W, Calls Try.prog 19 #[.int .i64 2, .int .i64 p, .string s] W fun e w' => e = .returned (.tuple #[.int .i64 (-1), .bool false]) ∧ ∃ n, w' = W.drewN n) := HCC.out
            clear hN hkc hlt hk hkp hs1 ha
            go_wp2_with fail
            refine (HCC.out _).mono ?_
            rintro e w' ⟨rfl, q3, rfl⟩
            go_wp2_with fail
            go_roundw
            case rel => exact ⟨k + 1, _, HLT.out, by go_num, by rw [HS.out], by first | rfl | rw [World.drewN_drewN]⟩
            case measure => have := HLT.out; simp [Go.RowKit.intOf]; omega
          · rw [hN] at HCC
            rcases hL : leftW 2 x k with _ | _
            · have HS : Hid ((setOfW (needW 2 x) (k + 1) : Int) = (a : Int) + p) := by unfold Hid; unfold setOfW; rw [if_pos (by simp [hN]), ha, ← HPP.out]; simp
              rw [hL] at HCC
              have HCC : Hid (∀ W, Calls Try.prog 19 #[.int .i64 2, .int .i64 p, .string s] W fun e w' => e = .returned (.tuple #[.int .i64 0, .bool true]) ∧ ∃ n, w' = W.drewN n) := HCC.out
              clear hN hL hkc hlt hk hkp hs1 ha
              go_wp2_with fail
              refine (HCC.out _).mono ?_
              rintro e w' ⟨rfl, q3, rfl⟩
              go_wp2_with fail
              go_roundw
              case rel => exact ⟨k + 1, _, HLT.out, by go_num, by rw [HS.out], by first | rfl | rw [World.drewN_drewN]⟩
              case measure => have := HLT.out; simp [Go.RowKit.intOf]; omega
            · have HS : Hid ((setOfW (needW 2 x) (k + 1) : Int) = (a : Int) + p) := by unfold Hid; unfold setOfW; rw [if_pos (by simp [hN]), ha, ← HPP.out]; simp
              rw [hL] at HCC
              have HCC : Hid (∀ W, Calls Try.prog 19 #[.int .i64 2, .int .i64 p, .string s] W fun e w' => e = .returned (.tuple #[.int .i64 p, .bool true]) ∧ ∃ n, w' = W.drewN n) := HCC.out
              clear hN hL hkc hlt hk hkp hs1 ha
              go_wp2_with fail
              refine (HCC.out _).mono ?_
              rintro e w' ⟨rfl, q3, rfl⟩
              go_wp2_with fail
              go_roundw
              case rel => exact ⟨k + 1, _, HLT.out, by go_num, by rw [HS.out], by first | rfl | rw [World.drewN_drewN]⟩
              case measure => have := HLT.out; simp [Go.RowKit.intOf]; omega
        · obtain rfl : k = 4 := by omega
          go_wp2_with fail
          go_ret
          exact ⟨ret_int HC.out, _, rfl⟩
    · have HC : Hid ((setOfW (needW 3 x) 8 : Int) = _) := HC
      have HCH : Hid (∀ k, k < 8 → _) := HCH
      go_enter Try.func26, Try.ntmps26
      go_wp2_with (go_at_call 15; refine (sLoadedOk_is HL _ hs).mono ?_; rintro e w' ⟨rfl, q, rfl⟩)
      go_loopw [5, 6] (fun v i wr => ∃ k q : Nat, k ≤ 8 ∧ i = .int .i64 k ∧ v = .int .i64 (setOfW (needW 3 x) k) ∧ wr = w.drewN q) (fun _ i _ => 8 - (Go.RowKit.intOf i).toNat)
      case atStart => exact ⟨0, _, Nat.zero_le _, rfl, rfl, rfl⟩
      case round =>
        obtain ⟨k, q2, hk, rfl, rfl, rfl⟩ := hrel
        by_cases hlt : k < 8
        · have hlti : (k : Int) < 8 := by omega
          have hk8 : k < 8 := by omega
          have hkc := HCH.out k hlt
          have HLT := Lib.hid hlt
          have hkp : 2 ^ k ≤ 2 ^ 7 := Nat.pow_le_pow_right (by omega) (by omega)
          have hs1 := setOfW_lt (needW 3 x) k
          obtain ⟨a, ha⟩ : ∃ a, setOfW (needW 3 x) k = a := ⟨_, rfl⟩
          rw [ha] at hs1 ⊢
          have ha8 : a < 256 := by omega
          obtain ⟨p, HPP⟩ : ∃ p : Int, Hid (((2 ^ k : Nat) : Int) = p) := ⟨_, rfl⟩
          have hp0 : 0 ≤ p := by have := HPP.out; omega
          have hp1 : p ≤ 128 := by have := HPP.out; omega
          have hwp : wrap64 ((2 : Int) ^ k) = p := (wrap_pow8 hk8).trans HPP.out
          rw [HPP.out] at hkc
          have HCC : Hid (∀ W, Calls Try.prog 19 #[.int .i64 3, .int .i64 p, .string s] W (SChgPost (if needW 3 x k = true then some (if leftW 3 x k = true then p else 0) else none) W)) := fun W => by
            have := sChangedBy 3 p s W hs
            rw [hkc] at this; exact this
          rcases hN : needW 3 x k with _ | _
          · have HS : Hid (setOfW (needW 3 x) (k + 1) = a) := by unfold Hid; rw [← ha]; exact (set_skip8 (p := needW 3 x) (by simp [hN])).symm
            rw [hN] at HCC
            have HCC : Hid (∀ W, Calls Try.prog 19 #[.int .i64 3, .int .i64 p, .string s] W fun e w' => e = .returned (.tuple #[.int .i64 (-1), .bool false]) ∧ ∃ n, w' = W.drewN n) := HCC.out
            clear hN hkc hlt hk hkp hs1 ha
            go_wp2_with fail
            refine (HCC.out _).mono ?_
            rintro e w' ⟨rfl, q3, rfl⟩
            go_wp2_with fail
            go_roundw
            case rel => exact ⟨k + 1, _, HLT.out, by go_num, by rw [HS.out], by first | rfl | rw [World.drewN_drewN]⟩
            case measure => have := HLT.out; simp [Go.RowKit.intOf]; omega
          · rw [hN] at HCC
            rcases hL : leftW 3 x k with _ | _
            · have HS : Hid ((setOfW (needW 3 x) (k + 1) : Int) = (a : Int) + p) := by unfold Hid; unfold setOfW; rw [if_pos (by simp [hN]), ha, ← HPP.out]; simp
              rw [hL] at HCC
              have HCC : Hid (∀ W, Calls Try.prog 19 #[.int .i64 3, .int .i64 p, .string s] W fun e w' => e = .returned (.tuple #[.int .i64 0, .bool true]) ∧ ∃ n, w' = W.drewN n) := HCC.out
              clear hN hL hkc hlt hk hkp hs1 ha
              go_wp2_with fail
              refine (HCC.out _).mono ?_
              rintro e w' ⟨rfl, q3, rfl⟩
              go_wp2_with fail
              go_roundw
              case rel => exact ⟨k + 1, _, HLT.out, by go_num, by rw [HS.out], by first | rfl | rw [World.drewN_drewN]⟩
              case measure => have := HLT.out; simp [Go.RowKit.intOf]; omega
            · have HS : Hid ((setOfW (needW 3 x) (k + 1) : Int) = (a : Int) + p) := by unfold Hid; unfold setOfW; rw [if_pos (by simp [hN]), ha, ← HPP.out]; simp
              rw [hL] at HCC
              have HCC : Hid (∀ W, Calls Try.prog 19 #[.int .i64 3, .int .i64 p, .string s] W fun e w' => e = .returned (.tuple #[.int .i64 p, .bool true]) ∧ ∃ n, w' = W.drewN n) := HCC.out
              clear hN hL hkc hlt hk hkp hs1 ha
              go_wp2_with fail
              refine (HCC.out _).mono ?_
              rintro e w' ⟨rfl, q3, rfl⟩
              go_wp2_with fail
              go_roundw
              case rel => exact ⟨k + 1, _, HLT.out, by go_num, by rw [HS.out], by first | rfl | rw [World.drewN_drewN]⟩
              case measure => have := HLT.out; simp [Go.RowKit.intOf]; omega
        · obtain rfl : k = 8 := by omega
          go_wp2_with fail
          go_ret
          exact ⟨ret_int HC.out, _, rfl⟩

set_option maxRecDepth 100000 in
set_option maxHeartbeats 8000000 in
theorem sLeftBy (t : Int) (s : ByteArray) (w : World) (hs : s.size ≤ 9223372036854775807) :
    Calls Try.prog 30 #[.int .i64 t, .string s] w fun e w' => e = .returned (.int .i64 (leftT t s)) ∧ ∃ n, w' = w.drewN n := by
  have hnot : ∀ (x : Bool) (w : World), (Op.unary .not (.bool x)).run Try.prog w = .ok (.bool (!x)) w := fun _ _ => rfl
  rcases hx : ldT t s with _ | x
  · have HL : Hid (loadedT t s = false) := by unfold Hid loadedT; rw [hx]; rfl
    rw [show leftT t s = -1 by unfold leftT; rw [hx]]
    clear hx
    go_enter Try.func30, Try.ntmps30
    go_wp2_with (go_at_call 15; refine (sLoadedOk_is HL _ hs).mono ?_; rintro e w' ⟨rfl, q, rfl⟩)
    go_ret
    exact ⟨rfl, _, rfl⟩
  · have HL : Hid (loadedT t s = true) := by unfold Hid loadedT; rw [hx]; rfl
    obtain ⟨h1, h3, _, hok, _⟩ := ldT_ok hx
    have HC : Hid ((setOfW (fun w => needW t x w && leftW t x w) (nWorlds t) : Int) = leftT t s) := by unfold Hid leftT; rw [hx]; rfl
    have HCH : Hid (∀ k, k < nWorlds t → changedT t ((2 ^ k : Nat) : Int) s = if needW t x k = true then some (if leftW t x k = true then ((2 ^ k : Nat) : Int) else 0) else none) := fun k hk => by
      unfold changedT
      rw [hx]
      simp only
      have hb := world_ok h1 h3 hk
      rw [if_pos (show setOkB t ((2 ^ k : Nat) : Int) = true from decide_eq_true ⟨h1, h3, hb.1, hb.2⟩)]
      exact chg_world h1 h3 x hk
    have ht : t = 1 ∨ t = 2 ∨ t = 3 := by omega
    clear hx h1 h3 hok
    rcases ht with rfl | rfl | rfl
    · have HC : Hid ((setOfW (fun w => needW 1 x w && leftW 1 x w) 2 : Int) = _) := HC
      have HCH : Hid (∀ k, k < 2 → _) := HCH
      go_enter Try.func30, Try.ntmps30
      go_wp2_with (go_at_call 15; refine (sLoadedOk_is HL _ hs).mono ?_; rintro e w' ⟨rfl, q, rfl⟩)
      go_loopw [5, 6] (fun v i wr => ∃ k q : Nat, k ≤ 2 ∧ i = .int .i64 k ∧ v = .int .i64 (setOfW (fun w => needW 1 x w && leftW 1 x w) k) ∧ wr = w.drewN q) (fun _ i _ => 2 - (Go.RowKit.intOf i).toNat)
      case atStart => exact ⟨0, _, Nat.zero_le _, rfl, rfl, rfl⟩
      case round =>
        obtain ⟨k, q2, hk, rfl, rfl, rfl⟩ := hrel
        by_cases hlt : k < 2
        · have hlti : (k : Int) < 2 := by omega
          have hk8 : k < 8 := by omega
          have hkc := HCH.out k hlt
          have HLT := Lib.hid hlt
          have hkp : 2 ^ k ≤ 2 ^ 7 := Nat.pow_le_pow_right (by omega) (by omega)
          have hs1 := setOfW_lt (fun w => needW 1 x w && leftW 1 x w) k
          obtain ⟨a, ha⟩ : ∃ a, setOfW (fun w => needW 1 x w && leftW 1 x w) k = a := ⟨_, rfl⟩
          rw [ha] at hs1 ⊢
          have ha8 : a < 256 := by omega
          obtain ⟨p, HPP⟩ : ∃ p : Int, Hid (((2 ^ k : Nat) : Int) = p) := ⟨_, rfl⟩
          have hp0 : 0 ≤ p := by have := HPP.out; omega
          have hp1 : p ≤ 128 := by have := HPP.out; omega
          have hwp : wrap64 ((2 : Int) ^ k) = p := (wrap_pow8 hk8).trans HPP.out
          rw [HPP.out] at hkc
          have HCC : Hid (∀ W, Calls Try.prog 19 #[.int .i64 1, .int .i64 p, .string s] W (SChgPost (if needW 1 x k = true then some (if leftW 1 x k = true then p else 0) else none) W)) := fun W => by
            have := sChangedBy 1 p s W hs
            rw [hkc] at this; exact this
          rcases hN : needW 1 x k with _ | _
          · have HS : Hid (setOfW (fun w => needW 1 x w && leftW 1 x w) (k + 1) = a) := by unfold Hid; rw [← ha]; exact (set_skip8 (p := fun w => needW 1 x w && leftW 1 x w) (by simp [hN])).symm
            rw [hN] at HCC
            have HCC : Hid (∀ W, Calls Try.prog 19 #[.int .i64 1, .int .i64 p, .string s] W fun e w' => e = .returned (.tuple #[.int .i64 (-1), .bool false]) ∧ ∃ n, w' = W.drewN n) := HCC.out
            clear hN hkc hlt hk hkp hs1 ha
            go_wp2_with fail
            refine (HCC.out _).mono ?_
            rintro e w' ⟨rfl, q3, rfl⟩
            go_wp2_with fail
            go_roundw
            case rel => exact ⟨k + 1, _, HLT.out, by go_num, by rw [HS.out], by first | rfl | rw [World.drewN_drewN]⟩
            case measure => have := HLT.out; simp [Go.RowKit.intOf]; omega
          · rw [hN] at HCC
            rcases hL : leftW 1 x k with _ | _
            · have HS : Hid ((setOfW (fun w => needW 1 x w && leftW 1 x w) (k + 1) : Int) = (a : Int)) := by unfold Hid; rw [← ha]; exact congrArg _ (set_skip8 (p := fun w => needW 1 x w && leftW 1 x w) (by simp [hN, hL])).symm
              rw [hL] at HCC
              have HCC : Hid (∀ W, Calls Try.prog 19 #[.int .i64 1, .int .i64 p, .string s] W fun e w' => e = .returned (.tuple #[.int .i64 0, .bool true]) ∧ ∃ n, w' = W.drewN n) := HCC.out
              clear hN hL hkc hlt hk hkp hs1 ha
              go_wp2_with fail
              refine (HCC.out _).mono ?_
              rintro e w' ⟨rfl, q3, rfl⟩
              go_wp2_with fail
              go_roundw
              case rel => exact ⟨k + 1, _, HLT.out, by go_num, by rw [HS.out], by first | rfl | rw [World.drewN_drewN]⟩
              case measure => have := HLT.out; simp [Go.RowKit.intOf]; omega
            · have HS : Hid ((setOfW (fun w => needW 1 x w && leftW 1 x w) (k + 1) : Int) = (a : Int) + p) := by unfold Hid; unfold setOfW; rw [if_pos (by simp [hN, hL]), ha, ← HPP.out]; simp
              rw [hL] at HCC
              have HCC : Hid (∀ W, Calls Try.prog 19 #[.int .i64 1, .int .i64 p, .string s] W fun e w' => e = .returned (.tuple #[.int .i64 p, .bool true]) ∧ ∃ n, w' = W.drewN n) := HCC.out
              clear hN hL hkc hlt hk hkp hs1 ha
              go_wp2_with fail
              refine (HCC.out _).mono ?_
              rintro e w' ⟨rfl, q3, rfl⟩
              go_wp2_with fail
              go_roundw
              case rel => exact ⟨k + 1, _, HLT.out, by go_num, by rw [HS.out], by first | rfl | rw [World.drewN_drewN]⟩
              case measure => have := HLT.out; simp [Go.RowKit.intOf]; omega
        · obtain rfl : k = 2 := by omega
          go_wp2_with fail
          go_ret
          exact ⟨ret_int HC.out, _, rfl⟩
    · have HC : Hid ((setOfW (fun w => needW 2 x w && leftW 2 x w) 4 : Int) = _) := HC
      have HCH : Hid (∀ k, k < 4 → _) := HCH
      go_enter Try.func30, Try.ntmps30
      go_wp2_with (go_at_call 15; refine (sLoadedOk_is HL _ hs).mono ?_; rintro e w' ⟨rfl, q, rfl⟩)
      go_loopw [5, 6] (fun v i wr => ∃ k q : Nat, k ≤ 4 ∧ i = .int .i64 k ∧ v = .int .i64 (setOfW (fun w => needW 2 x w && leftW 2 x w) k) ∧ wr = w.drewN q) (fun _ i _ => 4 - (Go.RowKit.intOf i).toNat)
      case atStart => exact ⟨0, _, Nat.zero_le _, rfl, rfl, rfl⟩
      case round =>
        obtain ⟨k, q2, hk, rfl, rfl, rfl⟩ := hrel
        by_cases hlt : k < 4
        · have hlti : (k : Int) < 4 := by omega
          have hk8 : k < 8 := by omega
          have hkc := HCH.out k hlt
          have HLT := Lib.hid hlt
          have hkp : 2 ^ k ≤ 2 ^ 7 := Nat.pow_le_pow_right (by omega) (by omega)
          have hs1 := setOfW_lt (fun w => needW 2 x w && leftW 2 x w) k
          obtain ⟨a, ha⟩ : ∃ a, setOfW (fun w => needW 2 x w && leftW 2 x w) k = a := ⟨_, rfl⟩
          rw [ha] at hs1 ⊢
          have ha8 : a < 256 := by omega
          obtain ⟨p, HPP⟩ : ∃ p : Int, Hid (((2 ^ k : Nat) : Int) = p) := ⟨_, rfl⟩
          have hp0 : 0 ≤ p := by have := HPP.out; omega
          have hp1 : p ≤ 128 := by have := HPP.out; omega
          have hwp : wrap64 ((2 : Int) ^ k) = p := (wrap_pow8 hk8).trans HPP.out
          rw [HPP.out] at hkc
          have HCC : Hid (∀ W, Calls Try.prog 19 #[.int .i64 2, .int .i64 p, .string s] W (SChgPost (if needW 2 x k = true then some (if leftW 2 x k = true then p else 0) else none) W)) := fun W => by
            have := sChangedBy 2 p s W hs
            rw [hkc] at this; exact this
          rcases hN : needW 2 x k with _ | _
          · have HS : Hid (setOfW (fun w => needW 2 x w && leftW 2 x w) (k + 1) = a) := by unfold Hid; rw [← ha]; exact (set_skip8 (p := fun w => needW 2 x w && leftW 2 x w) (by simp [hN])).symm
            rw [hN] at HCC
            have HCC : Hid (∀ W, Calls Try.prog 19 #[.int .i64 2, .int .i64 p, .string s] W fun e w' => e = .returned (.tuple #[.int .i64 (-1), .bool false]) ∧ ∃ n, w' = W.drewN n) := HCC.out
            clear hN hkc hlt hk hkp hs1 ha
            go_wp2_with fail
            refine (HCC.out _).mono ?_
            rintro e w' ⟨rfl, q3, rfl⟩
            go_wp2_with fail
            go_roundw
            case rel => exact ⟨k + 1, _, HLT.out, by go_num, by rw [HS.out], by first | rfl | rw [World.drewN_drewN]⟩
            case measure => have := HLT.out; simp [Go.RowKit.intOf]; omega
          · rw [hN] at HCC
            rcases hL : leftW 2 x k with _ | _
            · have HS : Hid ((setOfW (fun w => needW 2 x w && leftW 2 x w) (k + 1) : Int) = (a : Int)) := by unfold Hid; rw [← ha]; exact congrArg _ (set_skip8 (p := fun w => needW 2 x w && leftW 2 x w) (by simp [hN, hL])).symm
              rw [hL] at HCC
              have HCC : Hid (∀ W, Calls Try.prog 19 #[.int .i64 2, .int .i64 p, .string s] W fun e w' => e = .returned (.tuple #[.int .i64 0, .bool true]) ∧ ∃ n, w' = W.drewN n) := HCC.out
              clear hN hL hkc hlt hk hkp hs1 ha
              go_wp2_with fail
              refine (HCC.out _).mono ?_
              rintro e w' ⟨rfl, q3, rfl⟩
              go_wp2_with fail
              go_roundw
              case rel => exact ⟨k + 1, _, HLT.out, by go_num, by rw [HS.out], by first | rfl | rw [World.drewN_drewN]⟩
              case measure => have := HLT.out; simp [Go.RowKit.intOf]; omega
            · have HS : Hid ((setOfW (fun w => needW 2 x w && leftW 2 x w) (k + 1) : Int) = (a : Int) + p) := by unfold Hid; unfold setOfW; rw [if_pos (by simp [hN, hL]), ha, ← HPP.out]; simp
              rw [hL] at HCC
              have HCC : Hid (∀ W, Calls Try.prog 19 #[.int .i64 2, .int .i64 p, .string s] W fun e w' => e = .returned (.tuple #[.int .i64 p, .bool true]) ∧ ∃ n, w' = W.drewN n) := HCC.out
              clear hN hL hkc hlt hk hkp hs1 ha
              go_wp2_with fail
              refine (HCC.out _).mono ?_
              rintro e w' ⟨rfl, q3, rfl⟩
              go_wp2_with fail
              go_roundw
              case rel => exact ⟨k + 1, _, HLT.out, by go_num, by rw [HS.out], by first | rfl | rw [World.drewN_drewN]⟩
              case measure => have := HLT.out; simp [Go.RowKit.intOf]; omega
        · obtain rfl : k = 4 := by omega
          go_wp2_with fail
          go_ret
          exact ⟨ret_int HC.out, _, rfl⟩
    · have HC : Hid ((setOfW (fun w => needW 3 x w && leftW 3 x w) 8 : Int) = _) := HC
      have HCH : Hid (∀ k, k < 8 → _) := HCH
      go_enter Try.func30, Try.ntmps30
      go_wp2_with (go_at_call 15; refine (sLoadedOk_is HL _ hs).mono ?_; rintro e w' ⟨rfl, q, rfl⟩)
      go_loopw [5, 6] (fun v i wr => ∃ k q : Nat, k ≤ 8 ∧ i = .int .i64 k ∧ v = .int .i64 (setOfW (fun w => needW 3 x w && leftW 3 x w) k) ∧ wr = w.drewN q) (fun _ i _ => 8 - (Go.RowKit.intOf i).toNat)
      case atStart => exact ⟨0, _, Nat.zero_le _, rfl, rfl, rfl⟩
      case round =>
        obtain ⟨k, q2, hk, rfl, rfl, rfl⟩ := hrel
        by_cases hlt : k < 8
        · have hlti : (k : Int) < 8 := by omega
          have hk8 : k < 8 := by omega
          have hkc := HCH.out k hlt
          have HLT := Lib.hid hlt
          have hkp : 2 ^ k ≤ 2 ^ 7 := Nat.pow_le_pow_right (by omega) (by omega)
          have hs1 := setOfW_lt (fun w => needW 3 x w && leftW 3 x w) k
          obtain ⟨a, ha⟩ : ∃ a, setOfW (fun w => needW 3 x w && leftW 3 x w) k = a := ⟨_, rfl⟩
          rw [ha] at hs1 ⊢
          have ha8 : a < 256 := by omega
          obtain ⟨p, HPP⟩ : ∃ p : Int, Hid (((2 ^ k : Nat) : Int) = p) := ⟨_, rfl⟩
          have hp0 : 0 ≤ p := by have := HPP.out; omega
          have hp1 : p ≤ 128 := by have := HPP.out; omega
          have hwp : wrap64 ((2 : Int) ^ k) = p := (wrap_pow8 hk8).trans HPP.out
          rw [HPP.out] at hkc
          have HCC : Hid (∀ W, Calls Try.prog 19 #[.int .i64 3, .int .i64 p, .string s] W (SChgPost (if needW 3 x k = true then some (if leftW 3 x k = true then p else 0) else none) W)) := fun W => by
            have := sChangedBy 3 p s W hs
            rw [hkc] at this; exact this
          rcases hN : needW 3 x k with _ | _
          · have HS : Hid (setOfW (fun w => needW 3 x w && leftW 3 x w) (k + 1) = a) := by unfold Hid; rw [← ha]; exact (set_skip8 (p := fun w => needW 3 x w && leftW 3 x w) (by simp [hN])).symm
            rw [hN] at HCC
            have HCC : Hid (∀ W, Calls Try.prog 19 #[.int .i64 3, .int .i64 p, .string s] W fun e w' => e = .returned (.tuple #[.int .i64 (-1), .bool false]) ∧ ∃ n, w' = W.drewN n) := HCC.out
            clear hN hkc hlt hk hkp hs1 ha
            go_wp2_with fail
            refine (HCC.out _).mono ?_
            rintro e w' ⟨rfl, q3, rfl⟩
            go_wp2_with fail
            go_roundw
            case rel => exact ⟨k + 1, _, HLT.out, by go_num, by rw [HS.out], by first | rfl | rw [World.drewN_drewN]⟩
            case measure => have := HLT.out; simp [Go.RowKit.intOf]; omega
          · rw [hN] at HCC
            rcases hL : leftW 3 x k with _ | _
            · have HS : Hid ((setOfW (fun w => needW 3 x w && leftW 3 x w) (k + 1) : Int) = (a : Int)) := by unfold Hid; rw [← ha]; exact congrArg _ (set_skip8 (p := fun w => needW 3 x w && leftW 3 x w) (by simp [hN, hL])).symm
              rw [hL] at HCC
              have HCC : Hid (∀ W, Calls Try.prog 19 #[.int .i64 3, .int .i64 p, .string s] W fun e w' => e = .returned (.tuple #[.int .i64 0, .bool true]) ∧ ∃ n, w' = W.drewN n) := HCC.out
              clear hN hL hkc hlt hk hkp hs1 ha
              go_wp2_with fail
              refine (HCC.out _).mono ?_
              rintro e w' ⟨rfl, q3, rfl⟩
              go_wp2_with fail
              go_roundw
              case rel => exact ⟨k + 1, _, HLT.out, by go_num, by rw [HS.out], by first | rfl | rw [World.drewN_drewN]⟩
              case measure => have := HLT.out; simp [Go.RowKit.intOf]; omega
            · have HS : Hid ((setOfW (fun w => needW 3 x w && leftW 3 x w) (k + 1) : Int) = (a : Int) + p) := by unfold Hid; unfold setOfW; rw [if_pos (by simp [hN, hL]), ha, ← HPP.out]; simp
              rw [hL] at HCC
              have HCC : Hid (∀ W, Calls Try.prog 19 #[.int .i64 3, .int .i64 p, .string s] W fun e w' => e = .returned (.tuple #[.int .i64 p, .bool true]) ∧ ∃ n, w' = W.drewN n) := HCC.out
              clear hN hL hkc hlt hk hkp hs1 ha
              go_wp2_with fail
              refine (HCC.out _).mono ?_
              rintro e w' ⟨rfl, q3, rfl⟩
              go_wp2_with fail
              go_roundw
              case rel => exact ⟨k + 1, _, HLT.out, by go_num, by rw [HS.out], by first | rfl | rw [World.drewN_drewN]⟩
              case measure => have := HLT.out; simp [Go.RowKit.intOf]; omega
        · obtain rfl : k = 8 := by omega
          go_wp2_with fail
          go_ret
          exact ⟨ret_int HC.out, _, rfl⟩

theorem sNeededBy_is {t : Int} {s : ByteArray} {a : Int} (h : Hid (neededT t s = a)) (w : World) (hs : s.size ≤ 9223372036854775807) :
    Calls Try.prog 26 #[.int .i64 t, .string s] w fun e w' => e = .returned (.int .i64 a) ∧ ∃ n, w' = w.drewN n :=
  (sNeededBy t s w hs).mono fun _ _ ⟨he, hw⟩ => ⟨he.trans (ret_int h.out), hw⟩
set_option maxRecDepth 100000 in
set_option maxHeartbeats 4000000 in
theorem sNeutral (t : Int) (s : ByteArray) (w : World) (hs : s.size ≤ 9223372036854775807) :
    Calls Try.prog 34 #[.int .i64 t, .string s] w (SLdPost (neutralT t s) w) := by
  rcases hx : ldT t s with _ | x
  · have HL : Hid (loadedT t s = false) := by unfold Hid loadedT; rw [hx]; rfl
    rw [show neutralT t s = false by unfold neutralT; rw [hx]]
    clear hx
    go_enter Try.func34, Try.ntmps34
    go_wp2_with (go_at_call 15; refine (sLoadedOk_is HL _ hs).mono ?_; rintro e w' ⟨rfl, q, rfl⟩)
    go_ret
    exact ⟨rfl, _, rfl⟩
  · have HL : Hid (loadedT t s = true) := by unfold Hid loadedT; rw [hx]; rfl
    obtain ⟨h1, h3, _, hok, _⟩ := ldT_ok hx
    have HN := Lib.hid (neutral_is t s)
    rw [show allW t = allOf t by unfold allW; rw [if_neg (by omega)]] at HN
    obtain ⟨a, HA⟩ : ∃ a, Hid (neededT t s = a) := ⟨_, rfl⟩
    obtain ⟨b, HB⟩ : ∃ b, Hid (allOf t = b) := ⟨_, rfl⟩
    obtain ⟨c, HCC⟩ : ∃ c, Hid (neutralT t s = c) := ⟨_, rfl⟩
    rw [HA.out, HB.out, HCC.out] at HN
    rw [HCC.out]
    clear hx
    go_enter Try.func34, Try.ntmps34
    go_wp2_with (first
      | (go_at_call 15; refine (sLoadedOk_is HL _ hs).mono ?_; rintro e w' ⟨rfl, q, rfl⟩)
      | (go_at_call 26; refine (sNeededBy_is HA _ hs).mono ?_; rintro e w' ⟨rfl, q2, rfl⟩)
      | (go_at_call 46; refine (sAll _ _ h1 h3).mono ?_; rintro e w' ⟨rfl, rfl⟩; rw [HB.out]))
    go_ret
    exact ⟨ret_bool HN.out, _, by first | rfl | rw [World.drewN_drewN]⟩
end Go.Proofs.Ytjilcnehndmoaaa
