/-
  What the proofs of this seat's statements share (Shp, Shq, Spc, Spd, Drs, Drt, Dru).
-/
import Derived.Deep.RegionWith
import Derived.IntWalk
import Derived.Test.YtmdpolllmipppaaU6
import Derived.Test.YtmdpolllmipppaaU4

namespace Go.Proofs.Ytmdpolllmipppaa
open Go.RowKit

def HoldsAt (t : Int) (s : ByteArray) (at_ : Nat) (x : Sen) (rest : List Nat) : Prop := ∀ (m : Nat) W, (m : Int) ≤ allOf t → Calls Try.prog 63 #[.int .i64 t, .string s, .int .i64 at_, .int .i64 m] W (SHold t s x rest m W)
theorem two_pow_cast (k : Nat) : (2 : Int) ^ k = ((2 ^ k : Nat) : Int) := by push_cast; rfl
theorem wrap_pow {k : Nat} (h : k < 8) : wrap64 ((2 : Int) ^ k) = ((2 ^ k : Nat) : Int) := by
  have : 2 ^ k ≤ 2 ^ 7 := Nat.pow_le_pow_right (by omega) (by omega)
  rw [two_pow_cast]
  obtain ⟨p, hp⟩ : ∃ p, 2 ^ k = p := ⟨_, rfl⟩
  rw [hp] at this ⊢
  exact IntWalk.wrap64_in _ ⟨by omega, by omega⟩
def NoneF (t : Int) (x : Sen) (m : Nat) (w : Nat) : Bool := !hasW (m : Int) w || !holdsS t x (worldS w)
theorem no_all (t : Int) (x : Sen) (m : Nat) : holdsS t (.no x) m = allTo (NoneF t x m) (nWorlds t) := rfl
theorem ask_all (t : Int) (x : Sen) (m : Nat) : holdsS t (.ask x) m = (holdsS t x m || allTo (NoneF t x m) (nWorlds t)) := rfl


set_option maxRecDepth 100000 in
set_option maxHeartbeats 8000000 in
theorem sHo_no (t : Int) (s : ByteArray) (at_ m : Nat) (w : World) (hs : s.size ≤ 1048576) (hat : at_ < s.size) (hc : s[at_].toNat = 33) (h1 : 1 ≤ t) (h3 : t ≤ 3) (hm : (m : Int) ≤ allOf t) (x : Sen) (rest : List Nat) (hi : HoldsAt t s (at_ + 1) x rest) :
    Calls Try.prog 63 #[.int .i64 t, .string s, .int .i64 at_, .int .i64 m] w (SHold t s (.no x) rest m w) := by
  have hd : (at_ : Int) < (s.size : Int) := by omega
  have hd0 : (0 : Int) ≤ (at_ : Int) := by omega
  have HF := Lib.hid (no_all t x m)
  have HI := Lib.hid hi
  have HM := Lib.hid hm
  have hm256 : m < 256 := by have := (allOf_lt t).2; omega
  obtain ⟨F, HFF⟩ : ∃ F : Nat → Bool, Hid (NoneF t x m = F) := ⟨_, rfl⟩
  rw [HFF.out] at HF
  have HS := Lib.hid (allTo_succ F)
  obtain ⟨hx, HX⟩ : ∃ b, Hid (holdsS t x m = b) := ⟨_, rfl⟩
  have h : t = 1 ∨ t = 2 ∨ t = 3 := by omega
  clear h1 h3 hm hi
  rcases h with rfl | rfl | rfl
  · go_enter Try.func63, Try.ntmps63
    go_wp2_with fail
    refine (HI.out m _ HM.out).mono ?_
    rintro e w1 ⟨a2, rfl, ha2, hd2, q, rfl⟩
    rw [HX.out]
    have HD2 := Lib.hid hd2
    clear hd2
    go_wp2_with fail
    go_loopw [14, 15] (fun v i wr => ∃ k : Nat, k ≤ 2 ∧ i = .int .i64 k ∧ v = .bool (allTo F k) ∧ ∃ q, wr = w.drewN q) (fun _ i _ => 2 - (Go.RowKit.intOf i).toNat)
    case atStart => exact ⟨0, Nat.zero_le _, rfl, rfl, q, rfl⟩
    case round =>
      obtain ⟨k, hk, rfl, rfl, q', rfl⟩ := hrel
      by_cases hlt : k < 2
      · have HK := Lib.hid (HS.out k)
        have HW := Lib.hid (congrFun HFF.out k)
        obtain ⟨y, HY⟩ : ∃ y, Hid (allTo F k = y) := ⟨_, rfl⟩
        obtain ⟨hb, HHB⟩ : ∃ y, Hid (hasW (m : Int) k = y) := ⟨_, rfl⟩
        obtain ⟨hy, HHY⟩ : ∃ y, Hid (holdsS 1 x (worldS k) = y) := ⟨_, rfl⟩
        have hwk := has_walk HHB.out
        have HC : Hid (∀ W, Calls Try.prog 63 #[.int .i64 1, .string s, .int .i64 ((at_ + 1 : Nat) : Int), .int .i64 (wrap64 ((2 : Int) ^ k))] W (SHold 1 s x rest (2 ^ k) W)) := fun W => by
          rw [wrap_pow (by omega)]; exact HI.out (2 ^ k) W (world_ok (t := 1) (by omega) (by omega) (w := k) hlt).2
        have HHZ : Hid (holdsS 1 x ((2 ^ k : Nat) : Int) = hy) := HHY.out
        rw [HY.out]
        clear hk
        cases y
        · clear hwk
          go_wp2_with fail
          refine (HC.out _).mono ?_
          rintro e w2 ⟨a3, rfl, _, _, q3, rfl⟩
          rw [HHZ.out]
          go_wp2_with fail
          refine ⟨⟨k + 1, by omega, by go_num, by rw [HK.out, HY.out]; rfl, _, rfl⟩, ?_⟩
          simp [Go.RowKit.intOf]; omega
        · cases hb
          · have hwk : (((m : Int) / 2 ^ k).tmod 2 == 0) = true := hwk
            go_wp2_with fail
            refine (HC.out _).mono ?_
            rintro e w2 ⟨a3, rfl, _, _, q3, rfl⟩
            rw [HHZ.out]
            go_wp2_with fail
            refine ⟨⟨k + 1, by omega, by go_num, by rw [HK.out, HY.out, ← HW.out, NoneF, HHB.out]; rfl, _, rfl⟩, ?_⟩
            simp [Go.RowKit.intOf]; omega
          · have hwk : (((m : Int) / 2 ^ k).tmod 2 == 0) = false := hwk
            have hnot : ∀ (x : Bool) (w : World), (Op.unary .not (.bool x)).run Try.prog w = .ok (.bool (!x)) w := fun _ _ => rfl
            go_wp2_with fail
            refine (HC.out _).mono ?_
            rintro e w2 ⟨a3, rfl, _, _, q3, rfl⟩
            rw [HHZ.out]
            go_wp2_with fail
            refine ⟨⟨k + 1, by omega, by go_num, by rw [HK.out, HY.out, ← HW.out, NoneF, HHB.out, HHY.out]; rfl, _, rfl⟩, ?_⟩
            simp [Go.RowKit.intOf]; omega
      · obtain rfl : k = 2 := by omega
        have HFM : Hid (allTo F (nWorlds 1) = allTo F 2) := rfl
        obtain ⟨y, HY⟩ : ∃ y, Hid (allTo F 2 = y) := ⟨_, rfl⟩
        rw [HY.out] at HFM ⊢
        cases hx
        all_goals
          go_wp2_with fail
          go_ret2
          exact ⟨a2, by rw [HF.out, HFM.out]; first | rfl | (rw [HX.out]; rfl), ha2, HD2.out, _, rfl⟩
  · go_enter Try.func63, Try.ntmps63
    go_wp2_with fail
    refine (HI.out m _ HM.out).mono ?_
    rintro e w1 ⟨a2, rfl, ha2, hd2, q, rfl⟩
    rw [HX.out]
    have HD2 := Lib.hid hd2
    clear hd2
    go_wp2_with fail
    go_loopw [14, 15] (fun v i wr => ∃ k : Nat, k ≤ 4 ∧ i = .int .i64 k ∧ v = .bool (allTo F k) ∧ ∃ q, wr = w.drewN q) (fun _ i _ => 4 - (Go.RowKit.intOf i).toNat)
    case atStart => exact ⟨0, Nat.zero_le _, rfl, rfl, q, rfl⟩
    case round =>
      obtain ⟨k, hk, rfl, rfl, q', rfl⟩ := hrel
      by_cases hlt : k < 4
      · have HK := Lib.hid (HS.out k)
        have HW := Lib.hid (congrFun HFF.out k)
        obtain ⟨y, HY⟩ : ∃ y, Hid (allTo F k = y) := ⟨_, rfl⟩
        obtain ⟨hb, HHB⟩ : ∃ y, Hid (hasW (m : Int) k = y) := ⟨_, rfl⟩
        obtain ⟨hy, HHY⟩ : ∃ y, Hid (holdsS 2 x (worldS k) = y) := ⟨_, rfl⟩
        have hwk := has_walk HHB.out
        have HC : Hid (∀ W, Calls Try.prog 63 #[.int .i64 2, .string s, .int .i64 ((at_ + 1 : Nat) : Int), .int .i64 (wrap64 ((2 : Int) ^ k))] W (SHold 2 s x rest (2 ^ k) W)) := fun W => by
          rw [wrap_pow (by omega)]; exact HI.out (2 ^ k) W (world_ok (t := 2) (by omega) (by omega) (w := k) hlt).2
        have HHZ : Hid (holdsS 2 x ((2 ^ k : Nat) : Int) = hy) := HHY.out
        rw [HY.out]
        clear hk
        cases y
        · clear hwk
          go_wp2_with fail
          refine (HC.out _).mono ?_
          rintro e w2 ⟨a3, rfl, _, _, q3, rfl⟩
          rw [HHZ.out]
          go_wp2_with fail
          refine ⟨⟨k + 1, by omega, by go_num, by rw [HK.out, HY.out]; rfl, _, rfl⟩, ?_⟩
          simp [Go.RowKit.intOf]; omega
        · cases hb
          · have hwk : (((m : Int) / 2 ^ k).tmod 2 == 0) = true := hwk
            go_wp2_with fail
            refine (HC.out _).mono ?_
            rintro e w2 ⟨a3, rfl, _, _, q3, rfl⟩
            rw [HHZ.out]
            go_wp2_with fail
            refine ⟨⟨k + 1, by omega, by go_num, by rw [HK.out, HY.out, ← HW.out, NoneF, HHB.out]; rfl, _, rfl⟩, ?_⟩
            simp [Go.RowKit.intOf]; omega
          · have hwk : (((m : Int) / 2 ^ k).tmod 2 == 0) = false := hwk
            have hnot : ∀ (x : Bool) (w : World), (Op.unary .not (.bool x)).run Try.prog w = .ok (.bool (!x)) w := fun _ _ => rfl
            go_wp2_with fail
            refine (HC.out _).mono ?_
            rintro e w2 ⟨a3, rfl, _, _, q3, rfl⟩
            rw [HHZ.out]
            go_wp2_with fail
            refine ⟨⟨k + 1, by omega, by go_num, by rw [HK.out, HY.out, ← HW.out, NoneF, HHB.out, HHY.out]; rfl, _, rfl⟩, ?_⟩
            simp [Go.RowKit.intOf]; omega
      · obtain rfl : k = 4 := by omega
        have HFM : Hid (allTo F (nWorlds 2) = allTo F 4) := rfl
        obtain ⟨y, HY⟩ : ∃ y, Hid (allTo F 4 = y) := ⟨_, rfl⟩
        rw [HY.out] at HFM ⊢
        cases hx
        all_goals
          go_wp2_with fail
          go_ret2
          exact ⟨a2, by rw [HF.out, HFM.out]; first | rfl | (rw [HX.out]; rfl), ha2, HD2.out, _, rfl⟩
  · go_enter Try.func63, Try.ntmps63
    go_wp2_with fail
    refine (HI.out m _ HM.out).mono ?_
    rintro e w1 ⟨a2, rfl, ha2, hd2, q, rfl⟩
    rw [HX.out]
    have HD2 := Lib.hid hd2
    clear hd2
    go_wp2_with fail
    go_loopw [14, 15] (fun v i wr => ∃ k : Nat, k ≤ 8 ∧ i = .int .i64 k ∧ v = .bool (allTo F k) ∧ ∃ q, wr = w.drewN q) (fun _ i _ => 8 - (Go.RowKit.intOf i).toNat)
    case atStart => exact ⟨0, Nat.zero_le _, rfl, rfl, q, rfl⟩
    case round =>
      obtain ⟨k, hk, rfl, rfl, q', rfl⟩ := hrel
      by_cases hlt : k < 8
      · have HK := Lib.hid (HS.out k)
        have HW := Lib.hid (congrFun HFF.out k)
        obtain ⟨y, HY⟩ : ∃ y, Hid (allTo F k = y) := ⟨_, rfl⟩
        obtain ⟨hb, HHB⟩ : ∃ y, Hid (hasW (m : Int) k = y) := ⟨_, rfl⟩
        obtain ⟨hy, HHY⟩ : ∃ y, Hid (holdsS 3 x (worldS k) = y) := ⟨_, rfl⟩
        have hwk := has_walk HHB.out
        have HC : Hid (∀ W, Calls Try.prog 63 #[.int .i64 3, .string s, .int .i64 ((at_ + 1 : Nat) : Int), .int .i64 (wrap64 ((2 : Int) ^ k))] W (SHold 3 s x rest (2 ^ k) W)) := fun W => by
          rw [wrap_pow (by omega)]; exact HI.out (2 ^ k) W (world_ok (t := 3) (by omega) (by omega) (w := k) hlt).2
        have HHZ : Hid (holdsS 3 x ((2 ^ k : Nat) : Int) = hy) := HHY.out
        rw [HY.out]
        clear hk
        cases y
        · clear hwk
          go_wp2_with fail
          refine (HC.out _).mono ?_
          rintro e w2 ⟨a3, rfl, _, _, q3, rfl⟩
          rw [HHZ.out]
          go_wp2_with fail
          refine ⟨⟨k + 1, by omega, by go_num, by rw [HK.out, HY.out]; rfl, _, rfl⟩, ?_⟩
          simp [Go.RowKit.intOf]; omega
        · cases hb
          · have hwk : (((m : Int) / 2 ^ k).tmod 2 == 0) = true := hwk
            go_wp2_with fail
            refine (HC.out _).mono ?_
            rintro e w2 ⟨a3, rfl, _, _, q3, rfl⟩
            rw [HHZ.out]
            go_wp2_with fail
            refine ⟨⟨k + 1, by omega, by go_num, by rw [HK.out, HY.out, ← HW.out, NoneF, HHB.out]; rfl, _, rfl⟩, ?_⟩
            simp [Go.RowKit.intOf]; omega
          · have hwk : (((m : Int) / 2 ^ k).tmod 2 == 0) = false := hwk
            have hnot : ∀ (x : Bool) (w : World), (Op.unary .not (.bool x)).run Try.prog w = .ok (.bool (!x)) w := fun _ _ => rfl
            go_wp2_with fail
            refine (HC.out _).mono ?_
            rintro e w2 ⟨a3, rfl, _, _, q3, rfl⟩
            rw [HHZ.out]
            go_wp2_with fail
            refine ⟨⟨k + 1, by omega, by go_num, by rw [HK.out, HY.out, ← HW.out, NoneF, HHB.out, HHY.out]; rfl, _, rfl⟩, ?_⟩
            simp [Go.RowKit.intOf]; omega
      · obtain rfl : k = 8 := by omega
        have HFM : Hid (allTo F (nWorlds 3) = allTo F 8) := rfl
        obtain ⟨y, HY⟩ : ∃ y, Hid (allTo F 8 = y) := ⟨_, rfl⟩
        rw [HY.out] at HFM ⊢
        cases hx
        all_goals
          go_wp2_with fail
          go_ret2
          exact ⟨a2, by rw [HF.out, HFM.out]; first | rfl | (rw [HX.out]; rfl), ha2, HD2.out, _, rfl⟩
set_option maxRecDepth 100000 in
set_option maxHeartbeats 8000000 in
theorem sHo_ask (t : Int) (s : ByteArray) (at_ m : Nat) (w : World) (hs : s.size ≤ 1048576) (hat : at_ < s.size) (hc : s[at_].toNat = 63) (h1 : 1 ≤ t) (h3 : t ≤ 3) (hm : (m : Int) ≤ allOf t) (x : Sen) (rest : List Nat) (hi : HoldsAt t s (at_ + 1) x rest) :
    Calls Try.prog 63 #[.int .i64 t, .string s, .int .i64 at_, .int .i64 m] w (SHold t s (.ask x) rest m w) := by
  have hd : (at_ : Int) < (s.size : Int) := by omega
  have hd0 : (0 : Int) ≤ (at_ : Int) := by omega
  have HF := Lib.hid (ask_all t x m)
  have HI := Lib.hid hi
  have HM := Lib.hid hm
  have hm256 : m < 256 := by have := (allOf_lt t).2; omega
  obtain ⟨F, HFF⟩ : ∃ F : Nat → Bool, Hid (NoneF t x m = F) := ⟨_, rfl⟩
  rw [HFF.out] at HF
  have HS := Lib.hid (allTo_succ F)
  obtain ⟨hx, HX⟩ : ∃ b, Hid (holdsS t x m = b) := ⟨_, rfl⟩
  have h : t = 1 ∨ t = 2 ∨ t = 3 := by omega
  clear h1 h3 hm hi
  rcases h with rfl | rfl | rfl
  · go_enter Try.func63, Try.ntmps63
    go_wp2_with fail
    refine (HI.out m _ HM.out).mono ?_
    rintro e w1 ⟨a2, rfl, ha2, hd2, q, rfl⟩
    rw [HX.out]
    have HD2 := Lib.hid hd2
    clear hd2
    go_wp2_with fail
    go_loopw [14, 15] (fun v i wr => ∃ k : Nat, k ≤ 2 ∧ i = .int .i64 k ∧ v = .bool (allTo F k) ∧ ∃ q, wr = w.drewN q) (fun _ i _ => 2 - (Go.RowKit.intOf i).toNat)
    case atStart => exact ⟨0, Nat.zero_le _, rfl, rfl, q, rfl⟩
    case round =>
      obtain ⟨k, hk, rfl, rfl, q', rfl⟩ := hrel
      by_cases hlt : k < 2
      · have HK := Lib.hid (HS.out k)
        have HW := Lib.hid (congrFun HFF.out k)
        obtain ⟨y, HY⟩ : ∃ y, Hid (allTo F k = y) := ⟨_, rfl⟩
        obtain ⟨hb, HHB⟩ : ∃ y, Hid (hasW (m : Int) k = y) := ⟨_, rfl⟩
        obtain ⟨hy, HHY⟩ : ∃ y, Hid (holdsS 1 x (worldS k) = y) := ⟨_, rfl⟩
        have hwk := has_walk HHB.out
        have HC : Hid (∀ W, Calls Try.prog 63 #[.int .i64 1, .string s, .int .i64 ((at_ + 1 : Nat) : Int), .int .i64 (wrap64 ((2 : Int) ^ k))] W (SHold 1 s x rest (2 ^ k) W)) := fun W => by
          rw [wrap_pow (by omega)]; exact HI.out (2 ^ k) W (world_ok (t := 1) (by omega) (by omega) (w := k) hlt).2
        have HHZ : Hid (holdsS 1 x ((2 ^ k : Nat) : Int) = hy) := HHY.out
        rw [HY.out]
        clear hk
        cases y
        · clear hwk
          go_wp2_with fail
          refine (HC.out _).mono ?_
          rintro e w2 ⟨a3, rfl, _, _, q3, rfl⟩
          rw [HHZ.out]
          go_wp2_with fail
          refine ⟨⟨k + 1, by omega, by go_num, by rw [HK.out, HY.out]; rfl, _, rfl⟩, ?_⟩
          simp [Go.RowKit.intOf]; omega
        · cases hb
          · have hwk : (((m : Int) / 2 ^ k).tmod 2 == 0) = true := hwk
            go_wp2_with fail
            refine (HC.out _).mono ?_
            rintro e w2 ⟨a3, rfl, _, _, q3, rfl⟩
            rw [HHZ.out]
            go_wp2_with fail
            refine ⟨⟨k + 1, by omega, by go_num, by rw [HK.out, HY.out, ← HW.out, NoneF, HHB.out]; rfl, _, rfl⟩, ?_⟩
            simp [Go.RowKit.intOf]; omega
          · have hwk : (((m : Int) / 2 ^ k).tmod 2 == 0) = false := hwk
            have hnot : ∀ (x : Bool) (w : World), (Op.unary .not (.bool x)).run Try.prog w = .ok (.bool (!x)) w := fun _ _ => rfl
            go_wp2_with fail
            refine (HC.out _).mono ?_
            rintro e w2 ⟨a3, rfl, _, _, q3, rfl⟩
            rw [HHZ.out]
            go_wp2_with fail
            refine ⟨⟨k + 1, by omega, by go_num, by rw [HK.out, HY.out, ← HW.out, NoneF, HHB.out, HHY.out]; rfl, _, rfl⟩, ?_⟩
            simp [Go.RowKit.intOf]; omega
      · obtain rfl : k = 2 := by omega
        have HFM : Hid (allTo F (nWorlds 1) = allTo F 2) := rfl
        obtain ⟨y, HY⟩ : ∃ y, Hid (allTo F 2 = y) := ⟨_, rfl⟩
        rw [HY.out] at HFM ⊢
        cases hx
        all_goals
          go_wp2_with fail
          go_ret2
          exact ⟨a2, by rw [HF.out, HFM.out]; first | rfl | (rw [HX.out]; rfl), ha2, HD2.out, _, rfl⟩
  · go_enter Try.func63, Try.ntmps63
    go_wp2_with fail
    refine (HI.out m _ HM.out).mono ?_
    rintro e w1 ⟨a2, rfl, ha2, hd2, q, rfl⟩
    rw [HX.out]
    have HD2 := Lib.hid hd2
    clear hd2
    go_wp2_with fail
    go_loopw [14, 15] (fun v i wr => ∃ k : Nat, k ≤ 4 ∧ i = .int .i64 k ∧ v = .bool (allTo F k) ∧ ∃ q, wr = w.drewN q) (fun _ i _ => 4 - (Go.RowKit.intOf i).toNat)
    case atStart => exact ⟨0, Nat.zero_le _, rfl, rfl, q, rfl⟩
    case round =>
      obtain ⟨k, hk, rfl, rfl, q', rfl⟩ := hrel
      by_cases hlt : k < 4
      · have HK := Lib.hid (HS.out k)
        have HW := Lib.hid (congrFun HFF.out k)
        obtain ⟨y, HY⟩ : ∃ y, Hid (allTo F k = y) := ⟨_, rfl⟩
        obtain ⟨hb, HHB⟩ : ∃ y, Hid (hasW (m : Int) k = y) := ⟨_, rfl⟩
        obtain ⟨hy, HHY⟩ : ∃ y, Hid (holdsS 2 x (worldS k) = y) := ⟨_, rfl⟩
        have hwk := has_walk HHB.out
        have HC : Hid (∀ W, Calls Try.prog 63 #[.int .i64 2, .string s, .int .i64 ((at_ + 1 : Nat) : Int), .int .i64 (wrap64 ((2 : Int) ^ k))] W (SHold 2 s x rest (2 ^ k) W)) := fun W => by
          rw [wrap_pow (by omega)]; exact HI.out (2 ^ k) W (world_ok (t := 2) (by omega) (by omega) (w := k) hlt).2
        have HHZ : Hid (holdsS 2 x ((2 ^ k : Nat) : Int) = hy) := HHY.out
        rw [HY.out]
        clear hk
        cases y
        · clear hwk
          go_wp2_with fail
          refine (HC.out _).mono ?_
          rintro e w2 ⟨a3, rfl, _, _, q3, rfl⟩
          rw [HHZ.out]
          go_wp2_with fail
          refine ⟨⟨k + 1, by omega, by go_num, by rw [HK.out, HY.out]; rfl, _, rfl⟩, ?_⟩
          simp [Go.RowKit.intOf]; omega
        · cases hb
          · have hwk : (((m : Int) / 2 ^ k).tmod 2 == 0) = true := hwk
            go_wp2_with fail
            refine (HC.out _).mono ?_
            rintro e w2 ⟨a3, rfl, _, _, q3, rfl⟩
            rw [HHZ.out]
            go_wp2_with fail
            refine ⟨⟨k + 1, by omega, by go_num, by rw [HK.out, HY.out, ← HW.out, NoneF, HHB.out]; rfl, _, rfl⟩, ?_⟩
            simp [Go.RowKit.intOf]; omega
          · have hwk : (((m : Int) / 2 ^ k).tmod 2 == 0) = false := hwk
            have hnot : ∀ (x : Bool) (w : World), (Op.unary .not (.bool x)).run Try.prog w = .ok (.bool (!x)) w := fun _ _ => rfl
            go_wp2_with fail
            refine (HC.out _).mono ?_
            rintro e w2 ⟨a3, rfl, _, _, q3, rfl⟩
            rw [HHZ.out]
            go_wp2_with fail
            refine ⟨⟨k + 1, by omega, by go_num, by rw [HK.out, HY.out, ← HW.out, NoneF, HHB.out, HHY.out]; rfl, _, rfl⟩, ?_⟩
            simp [Go.RowKit.intOf]; omega
      · obtain rfl : k = 4 := by omega
        have HFM : Hid (allTo F (nWorlds 2) = allTo F 4) := rfl
        obtain ⟨y, HY⟩ : ∃ y, Hid (allTo F 4 = y) := ⟨_, rfl⟩
        rw [HY.out] at HFM ⊢
        cases hx
        all_goals
          go_wp2_with fail
          go_ret2
          exact ⟨a2, by rw [HF.out, HFM.out]; first | rfl | (rw [HX.out]; rfl), ha2, HD2.out, _, rfl⟩
  · go_enter Try.func63, Try.ntmps63
    go_wp2_with fail
    refine (HI.out m _ HM.out).mono ?_
    rintro e w1 ⟨a2, rfl, ha2, hd2, q, rfl⟩
    rw [HX.out]
    have HD2 := Lib.hid hd2
    clear hd2
    go_wp2_with fail
    go_loopw [14, 15] (fun v i wr => ∃ k : Nat, k ≤ 8 ∧ i = .int .i64 k ∧ v = .bool (allTo F k) ∧ ∃ q, wr = w.drewN q) (fun _ i _ => 8 - (Go.RowKit.intOf i).toNat)
    case atStart => exact ⟨0, Nat.zero_le _, rfl, rfl, q, rfl⟩
    case round =>
      obtain ⟨k, hk, rfl, rfl, q', rfl⟩ := hrel
      by_cases hlt : k < 8
      · have HK := Lib.hid (HS.out k)
        have HW := Lib.hid (congrFun HFF.out k)
        obtain ⟨y, HY⟩ : ∃ y, Hid (allTo F k = y) := ⟨_, rfl⟩
        obtain ⟨hb, HHB⟩ : ∃ y, Hid (hasW (m : Int) k = y) := ⟨_, rfl⟩
        obtain ⟨hy, HHY⟩ : ∃ y, Hid (holdsS 3 x (worldS k) = y) := ⟨_, rfl⟩
        have hwk := has_walk HHB.out
        have HC : Hid (∀ W, Calls Try.prog 63 #[.int .i64 3, .string s, .int .i64 ((at_ + 1 : Nat) : Int), .int .i64 (wrap64 ((2 : Int) ^ k))] W (SHold 3 s x rest (2 ^ k) W)) := fun W => by
          rw [wrap_pow (by omega)]; exact HI.out (2 ^ k) W (world_ok (t := 3) (by omega) (by omega) (w := k) hlt).2
        have HHZ : Hid (holdsS 3 x ((2 ^ k : Nat) : Int) = hy) := HHY.out
        rw [HY.out]
        clear hk
        cases y
        · clear hwk
          go_wp2_with fail
          refine (HC.out _).mono ?_
          rintro e w2 ⟨a3, rfl, _, _, q3, rfl⟩
          rw [HHZ.out]
          go_wp2_with fail
          refine ⟨⟨k + 1, by omega, by go_num, by rw [HK.out, HY.out]; rfl, _, rfl⟩, ?_⟩
          simp [Go.RowKit.intOf]; omega
        · cases hb
          · have hwk : (((m : Int) / 2 ^ k).tmod 2 == 0) = true := hwk
            go_wp2_with fail
            refine (HC.out _).mono ?_
            rintro e w2 ⟨a3, rfl, _, _, q3, rfl⟩
            rw [HHZ.out]
            go_wp2_with fail
            refine ⟨⟨k + 1, by omega, by go_num, by rw [HK.out, HY.out, ← HW.out, NoneF, HHB.out]; rfl, _, rfl⟩, ?_⟩
            simp [Go.RowKit.intOf]; omega
          · have hwk : (((m : Int) / 2 ^ k).tmod 2 == 0) = false := hwk
            have hnot : ∀ (x : Bool) (w : World), (Op.unary .not (.bool x)).run Try.prog w = .ok (.bool (!x)) w := fun _ _ => rfl
            go_wp2_with fail
            refine (HC.out _).mono ?_
            rintro e w2 ⟨a3, rfl, _, _, q3, rfl⟩
            rw [HHZ.out]
            go_wp2_with fail
            refine ⟨⟨k + 1, by omega, by go_num, by rw [HK.out, HY.out, ← HW.out, NoneF, HHB.out, HHY.out]; rfl, _, rfl⟩, ?_⟩
            simp [Go.RowKit.intOf]; omega
      · obtain rfl : k = 8 := by omega
        have HFM : Hid (allTo F (nWorlds 3) = allTo F 8) := rfl
        obtain ⟨y, HY⟩ : ∃ y, Hid (allTo F 8 = y) := ⟨_, rfl⟩
        rw [HY.out] at HFM ⊢
        cases hx
        all_goals
          go_wp2_with fail
          go_ret2
          exact ⟨a2, by rw [HF.out, HFM.out]; first | rfl | (rw [HX.out]; rfl), ha2, HD2.out, _, rfl⟩
end Go.Proofs.Ytmdpolllmipppaa

namespace Go.Proofs.Ytmdpolllmipppaa
open Go.RowKit

def IfF (t : Int) (x y : Sen) (m : Nat) (u : Nat) : Bool := !withinB (u : Int) (m : Int) || !holdsS t x (u : Int) || holdsS t y (u : Int)
theorem if_all (t : Int) (x y : Sen) (m : Nat) : holdsS t (.if_ x y) m = allTo (IfF t x y m) (m + 1) := by
  show (List.range ((m : Int).toNat + 1)).all _ = _
  rw [Int.toNat_natCast]; rfl

set_option maxRecDepth 100000 in
set_option maxHeartbeats 8000000 in
theorem sHo_and_ (t : Int) (s : ByteArray) (at_ m : Nat) (w : World) (hs : s.size ≤ 1048576) (hat : at_ < s.size) (hc : s[at_].toNat = 40) (hm : (m : Int) ≤ allOf t) (x : Sen) (l : List Nat) (hi : HoldsAt t s (at_ + 1) x (38 :: l)) (y : Sen) (e0 : Nat) (r : List Nat)
    (hi2 : ∀ a2 : Nat, a2 ≤ s.size → (bytesN s).drop a2 = l → HoldsAt t s a2 y (e0 :: r)) :
    Calls Try.prog 63 #[.int .i64 t, .string s, .int .i64 at_, .int .i64 m] w (SHold t s (.and_ x y) r m w) := by
  have hd : (at_ : Int) < (s.size : Int) := by omega
  have hd0 : (0 : Int) ≤ (at_ : Int) := by omega
  have HI := Lib.hid hi
  have HI2 := Lib.hid hi2
  have HM := Lib.hid hm
  obtain ⟨hx, HX⟩ : ∃ b, Hid (holdsS t x m = b) := ⟨_, rfl⟩
  obtain ⟨hy, HY⟩ : ∃ b, Hid (holdsS t y m = b) := ⟨_, rfl⟩
  clear hi hi2 hm
  cases hx
  all_goals
    go_enter Try.func63, Try.ntmps63
    go_wp2_with fail
    refine (HI.out m _ HM.out).mono ?_
    rintro e w1 ⟨a2, rfl, ha2, hd2, q, rfl⟩
    rw [HX.out]
    obtain ⟨hlt, hm2, hl⟩ := drop_lt hd2
    have HC := Lib.hid (HI2.out (a2 + 1) hlt hl)
    have hd3 : (a2 : Int) < (s.size : Int) := by omega
    have hd4 : (0 : Int) ≤ (a2 : Int) := by omega
    clear hd2 hl
    go_wp2_with fail
    refine (HC.out m _ HM.out).mono ?_
    rintro e w2 ⟨a3, rfl, ha3, hd5, q2, rfl⟩
    rw [HY.out]
    obtain ⟨hlt3, _, hl3⟩ := drop_lt hd5
    have HL := Lib.hid hl3
    clear hd5 hl3
    go_wp2_with fail
    go_ret2
    exact ⟨a3 + 1, by unfold holdsS; rw [HX.out, HY.out]; rfl, hlt3, HL.out, _, rfl⟩
set_option maxRecDepth 100000 in
set_option maxHeartbeats 8000000 in
theorem sHo_or_ (t : Int) (s : ByteArray) (at_ m : Nat) (w : World) (hs : s.size ≤ 1048576) (hat : at_ < s.size) (hc : s[at_].toNat = 40) (hm : (m : Int) ≤ allOf t) (x : Sen) (l : List Nat) (hi : HoldsAt t s (at_ + 1) x (124 :: l)) (y : Sen) (e0 : Nat) (r : List Nat)
    (hi2 : ∀ a2 : Nat, a2 ≤ s.size → (bytesN s).drop a2 = l → HoldsAt t s a2 y (e0 :: r)) :
    Calls Try.prog 63 #[.int .i64 t, .string s, .int .i64 at_, .int .i64 m] w (SHold t s (.or_ x y) r m w) := by
  have hd : (at_ : Int) < (s.size : Int) := by omega
  have hd0 : (0 : Int) ≤ (at_ : Int) := by omega
  have HI := Lib.hid hi
  have HI2 := Lib.hid hi2
  have HM := Lib.hid hm
  obtain ⟨hx, HX⟩ : ∃ b, Hid (holdsS t x m = b) := ⟨_, rfl⟩
  obtain ⟨hy, HY⟩ : ∃ b, Hid (holdsS t y m = b) := ⟨_, rfl⟩
  clear hi hi2 hm
  cases hx
  all_goals
    go_enter Try.func63, Try.ntmps63
    go_wp2_with fail
    refine (HI.out m _ HM.out).mono ?_
    rintro e w1 ⟨a2, rfl, ha2, hd2, q, rfl⟩
    rw [HX.out]
    obtain ⟨hlt, hm2, hl⟩ := drop_lt hd2
    have HC := Lib.hid (HI2.out (a2 + 1) hlt hl)
    have hd3 : (a2 : Int) < (s.size : Int) := by omega
    have hd4 : (0 : Int) ≤ (a2 : Int) := by omega
    clear hd2 hl
    go_wp2_with fail
    refine (HC.out m _ HM.out).mono ?_
    rintro e w2 ⟨a3, rfl, ha3, hd5, q2, rfl⟩
    rw [HY.out]
    obtain ⟨hlt3, _, hl3⟩ := drop_lt hd5
    have HL := Lib.hid hl3
    clear hd5 hl3
    go_wp2_with fail
    go_ret2
    exact ⟨a3 + 1, by unfold holdsS; rw [HX.out, HY.out]; rfl, hlt3, HL.out, _, rfl⟩

set_option maxRecDepth 100000 in
set_option maxHeartbeats 8000000 in
theorem sHo_if_ (t : Int) (s : ByteArray) (at_ m : Nat) (w : World) (hs : s.size ≤ 1048576) (hat : at_ < s.size) (hc : s[at_].toNat = 40) (hm : (m : Int) ≤ allOf t) (x : Sen) (l : List Nat) (hi : HoldsAt t s (at_ + 1) x (62 :: l)) (y : Sen) (e0 : Nat) (r : List Nat)
    (hi2 : ∀ a2 : Nat, a2 ≤ s.size → (bytesN s).drop a2 = l → HoldsAt t s a2 y (e0 :: r)) :
    Calls Try.prog 63 #[.int .i64 t, .string s, .int .i64 at_, .int .i64 m] w (SHold t s (.if_ x y) r m w) := by
  have hd : (at_ : Int) < (s.size : Int) := by omega
  have hd0 : (0 : Int) ≤ (at_ : Int) := by omega
  have HF := Lib.hid (if_all t x y m)
  have HI := Lib.hid hi
  have HI2 := Lib.hid hi2
  have HM := Lib.hid hm
  have hm256 : m < 256 := by have := (allOf_lt t).2; omega
  obtain ⟨F, HFF⟩ : ∃ F : Nat → Bool, Hid (IfF t x y m = F) := ⟨_, rfl⟩
  rw [HFF.out] at HF
  have HS := Lib.hid (allTo_succ F)
  clear hi hi2 hm
  go_enter Try.func63, Try.ntmps63
  go_wp2_with fail
  refine (HI.out m _ HM.out).mono ?_
  rintro e w1 ⟨a2, rfl, ha2, hd2, q, rfl⟩
  obtain ⟨bx, HBX⟩ : ∃ b, Hid (holdsS t x m = b) := ⟨_, rfl⟩
  rw [HBX.out]
  obtain ⟨hlt, hm2, hl⟩ := drop_lt hd2
  have HC := Lib.hid (HI2.out (a2 + 1) hlt hl)
  have hd3 : (a2 : Int) < (s.size : Int) := by omega
  have hd4 : (0 : Int) ≤ (a2 : Int) := by omega
  clear hd2 hl
  go_wp2_with fail
  refine (HC.out m _ HM.out).mono ?_
  rintro e w2 ⟨a3, rfl, ha3, hd5, q2, rfl⟩
  obtain ⟨bz, HBZ⟩ : ∃ b, Hid (holdsS t y m = b) := ⟨_, rfl⟩
  rw [HBZ.out]
  obtain ⟨hlt3, _, hl3⟩ := drop_lt hd5
  have HL := Lib.hid hl3
  clear hd5 hl3
  go_wp2_with fail
  go_loopw [22, 23] (fun v i wr => ∃ k : Nat, k ≤ m + 1 ∧ i = .int .i64 k ∧ v = .bool (allTo F k) ∧ ∃ q, wr = w.drewN q) (fun _ i _ => m + 1 - (Go.RowKit.intOf i).toNat)
  case atStart => exact ⟨0, Nat.zero_le _, rfl, rfl, _, rfl⟩
  case round =>
    obtain ⟨k, hk, rfl, rfl, q', rfl⟩ := hrel
    by_cases hle : k ≤ m
    · have HK := Lib.hid (HS.out k)
      have HW := Lib.hid (congrFun HFF.out k)
      have hki : (k : Int) ≤ (m : Int) := by omega
      have hka : (k : Int) ≤ allOf t := by have := HM.out; omega
      obtain ⟨y0, HY⟩ : ∃ y, Hid (allTo F k = y) := ⟨_, rfl⟩
      have HKA := Lib.hid hka
      rw [HY.out]
      clear hk hka
      rcases hw : withinB (k : Int) (m : Int) with _ | _
      · have HWI := Lib.hid hw
        clear hw
        have hnot : ∀ (x : Bool) (w : World), (Op.unary .not (.bool x)).run Try.prog w = .ok (.bool (!x)) w := fun _ _ => rfl
        go_wp2_with fail
        refine (sWithin_is HWI (by omega) (by omega) (by omega) (by omega) _).mono ?_
        rintro e w3 ⟨rfl, q3, rfl⟩
        go_wp2_with fail
        refine ⟨⟨k + 1, by omega, by go_num, by rw [HK.out, HY.out, ← HW.out, IfF, HWI.out]; cases y0 <;> rfl, _, rfl⟩, ?_⟩
        simp [Go.RowKit.intOf]; omega
      · have HWI := Lib.hid hw
        clear hw
        rcases hx : holdsS t x (k : Int) with _ | _
        · have HX := Lib.hid hx
          clear hx
          have hnot : ∀ (x : Bool) (w : World), (Op.unary .not (.bool x)).run Try.prog w = .ok (.bool (!x)) w := fun _ _ => rfl
          go_wp2_with fail
          refine (sWithin_is HWI (by omega) (by omega) (by omega) (by omega) _).mono ?_
          rintro e w3 ⟨rfl, q3, rfl⟩
          go_wp2_with fail
          refine (HI.out k _ HKA.out).mono ?_
          rintro e w4 ⟨a4, rfl, _, _, q4, rfl⟩
          rw [HX.out]
          go_wp2_with fail
          refine ⟨⟨k + 1, by omega, by go_num, by rw [HK.out, HY.out, ← HW.out, IfF, HWI.out, HX.out]; cases y0 <;> rfl, _, rfl⟩, ?_⟩
          simp [Go.RowKit.intOf]; omega
        · have HX := Lib.hid hx
          clear hx
          obtain ⟨by_, HBY⟩ : ∃ b, Hid (holdsS t y (k : Int) = b) := ⟨_, rfl⟩
          have hnot : ∀ (x : Bool) (w : World), (Op.unary .not (.bool x)).run Try.prog w = .ok (.bool (!x)) w := fun _ _ => rfl
          cases y0
          all_goals
            go_wp2_with fail
            refine (sWithin_is HWI (by omega) (by omega) (by omega) (by omega) _).mono ?_
            rintro e w3 ⟨rfl, q3, rfl⟩
            go_wp2_with fail
            refine (HI.out k _ HKA.out).mono ?_
            rintro e w4 ⟨a4, rfl, _, _, q4, rfl⟩
            rw [HX.out]
            go_wp2_with fail
            refine (HC.out k _ HKA.out).mono ?_
            rintro e w5 ⟨a5, rfl, _, _, q5, rfl⟩
            rw [HBY.out]
            go_wp2_with fail
            refine ⟨⟨k + 1, by omega, by go_num, by rw [HK.out, HY.out, ← HW.out, IfF, HWI.out, HX.out, HBY.out]; rfl, _, rfl⟩, ?_⟩
            simp [Go.RowKit.intOf]; omega
    · obtain rfl : k = m + 1 := by omega
      go_wp2_with fail
      go_ret2
      exact ⟨a3 + 1, by rw [HF.out]; rfl, hlt3, HL.out, _, rfl⟩
end Go.Proofs.Ytmdpolllmipppaa

namespace Go.Proofs.Ytmdpolllmipppaa
open Go.RowKit

theorem start_thing {t : Int} {c : Nat} (h : startB t c = true) (e1 : c ≠ 49) (e2 : c ≠ 48) (e3 : c ≠ 33) (e4 : c ≠ 63) (e5 : c ≠ 40) : ∃ i : Nat, c = 97 + i ∧ (i : Int) < t := by
  unfold startB at h
  simp only [Bool.or_eq_true, decide_eq_true_eq] at h
  exact ⟨c - 97, by omega, by omega⟩
theorem read_thing {t : Int} {i k : Nat} {l : List Nat} (hi : (i : Int) < t) : readS t (k + 1) ((97 + i) :: l) = some (.thing i, l) := by
  unfold readS
  rw [if_neg (by omega), if_neg (by omega), if_pos ⟨by omega, by omega⟩]
  congr 3; omega

theorem sReads (t : Int) (s : ByteArray) (hs : s.size ≤ 1048576) (h1 : 1 ≤ t) (h3 : t ≤ 3) : ∀ k, SReads t k s := by
  intro k
  induction k with
  | zero =>
    intro at_ w hle hk
    exact sRd_end t s at_ w hs (by omega)
  | succ k ih =>
    intro at_ w hle hk
    by_cases hlt : at_ < s.size
    · rw [bytesN_drop hlt]
      rcases hb : startB t s[at_].toNat with _ | _
      · rw [read_no t k _ _ hb]
        exact sRd_bad t s at_ w hs h1 h3 hlt hb
      by_cases e49 : s[at_].toNat = 49
      · rw [e49]; exact sRd_one t s at_ w hs h1 h3 hlt e49
      by_cases e48 : s[at_].toNat = 48
      · rw [e48]; exact sRd_zero t s at_ w hs hlt e48
      have hn : ∀ {x : Sen}, (issueS t x).length ≤ 70 := fun {x} => (issue_ne (sen_issue h1 h3 x)).2
      by_cases e33 : s[at_].toNat = 33
      · rw [e33, read_no33]
        rcases h : readS t k ((bytesN s).drop (at_ + 1)) with _ | ⟨x, rest⟩
        · exact sRd_no_none t s at_ w hs hlt e33 (fun W => sreads_none ih W (by omega) (by omega) h)
        · exact sRd_no t s at_ w hs hlt e33 x hn rest (fun W => sreads_some ih W (by omega) (by omega) h)
      by_cases e63 : s[at_].toNat = 63
      · rw [e63, read_ask63]
        rcases h : readS t k ((bytesN s).drop (at_ + 1)) with _ | ⟨x, rest⟩
        · exact sRd_ask_none t s at_ w hs hlt e63 (fun W => sreads_none ih W (by omega) (by omega) h)
        · exact sRd_ask t s at_ w hs hlt e63 x hn rest (fun W => sreads_some ih W (by omega) (by omega) h)
      by_cases e40 : s[at_].toNat = 40
      · rw [e40, read_pair40]
        rcases h : readS t k ((bytesN s).drop (at_ + 1)) with _ | ⟨x, _ | ⟨m, l⟩⟩
        · rw [show pairS t k ((bytesN s).drop (at_ + 1)) = none by unfold pairS; rw [h]]
          exact sRd_pair_none t s at_ w hs hlt e40 (fun W => sreads_none ih W (by omega) (by omega) h)
        · rw [show pairS t k ((bytesN s).drop (at_ + 1)) = none by unfold pairS; rw [h]]
          exact sRd_pair_mid t s at_ w hs hlt e40 x (fun W => sreads_some ih W (by omega) (by omega) h)
        · have hi : ∀ W, Calls Try.prog 55 #[.int .i64 t, .string s, .int .i64 ((at_ + 1 : Nat) : Int)] W (SSome t s x (m :: l) W) := fun W => sreads_some ih W (by omega) (by omega) h
          have hlen : ∀ a2 : Nat, a2 ≤ s.size → (bytesN s).drop a2 = l → s.size - a2 ≤ k := fun a2 ha hd => by
            have := readS_less t k _ _ _ h
            rw [List.length_drop, bytesN_len] at this
            have h2 : l.length = s.size - a2 := by rw [← hd, List.length_drop, bytesN_len]
            simp only [List.length_cons] at this
            omega
          rcases h2 : readS t k l with _ | ⟨y, _ | ⟨e0, r⟩⟩
          · rw [show pairS t k ((bytesN s).drop (at_ + 1)) = none by unfold pairS; rw [h]; simp only; rw [h2]]
            exact sRd_pair_snd t s at_ w hs hlt e40 x m l hi (fun a2 W ha hd => sreads_none ih W ha (hlen a2 ha hd) (by rw [hd]; exact h2))
          · rw [show pairS t k ((bytesN s).drop (at_ + 1)) = none by unfold pairS; rw [h]; simp only; rw [h2]]
            exact sRd_pair_end t s at_ w hs hlt e40 x m l hi y (fun a2 W ha hd => sreads_some ih W ha (hlen a2 ha hd) (by rw [hd]; exact h2))
          · have hi2 : ∀ (a2 : Nat) W, a2 ≤ s.size → (bytesN s).drop a2 = l → Calls Try.prog 55 #[.int .i64 t, .string s, .int .i64 a2] W (SSome t s y (e0 :: r) W) := fun a2 W ha hd => sreads_some ih W ha (hlen a2 ha hd) (by rw [hd]; exact h2)
            by_cases he : e0 = 41
            · subst he
              rcases hm : (decide (m = 38) || decide (m = 124) || decide (m = 62)) with _ | _
              · rw [show pairS t k ((bytesN s).drop (at_ + 1)) = none by unfold pairS; rw [h]; simp only; rw [h2]; simp only [if_true]; rw [twoS_none hm]; rfl]
                exact sRd_pair_sign t s at_ w hs hlt e40 x m l hi y r hm hi2
              · have hm3 : m = 38 ∨ m = 124 ∨ m = 62 := by simpa [or_assoc] using hm
                rcases hm3 with rfl | rfl | rfl
                · rw [show pairS t k ((bytesN s).drop (at_ + 1)) = some (.and_ x y, r) by unfold pairS; rw [h]; simp only; rw [h2]; rfl]
                  exact sRd_pair_and_ t s at_ w hs hlt e40 x l hi y r hn hn hi2
                · rw [show pairS t k ((bytesN s).drop (at_ + 1)) = some (.or_ x y, r) by unfold pairS; rw [h]; simp only; rw [h2]; rfl]
                  exact sRd_pair_or_ t s at_ w hs hlt e40 x l hi y r hn hn hi2
                · rw [show pairS t k ((bytesN s).drop (at_ + 1)) = some (.if_ x y, r) by unfold pairS; rw [h]; simp only; rw [h2]; rfl]
                  exact sRd_pair_if_ t s at_ w hs hlt e40 x l hi y r hn hn hi2
            · rw [show pairS t k ((bytesN s).drop (at_ + 1)) = none by unfold pairS; rw [h]; simp only; rw [h2]; simp only; rw [if_neg he]]
              exact sRd_pair_open t s at_ w hs hlt e40 x m l hi y e0 r he hi2
      · obtain ⟨i, hi, hit⟩ := start_thing hb e49 e48 e33 e63 e40
        rw [hi, read_thing hit]
        refine (sRd_letter t s at_ w hs hlt i hi h1 h3 hit).mono ?_
        rintro e w' ⟨v, rfl, ho, hb2⟩
        rw [word_thing h1 h3 hit] at ho
        exact ⟨v, at_ + 1, rfl, hlt, rfl, ho, hb2⟩
    · rw [List.drop_eq_nil_of_le (by rw [bytesN_len]; omega), read_empty]
      exact sRd_end t s at_ w hs (by omega)

theorem sHolds (t : Int) (s : ByteArray) (hs : s.size ≤ 1048576) (h1 : 1 ≤ t) (h3 : t ≤ 3) : ∀ (k at_ : Nat) (x : Sen) (rest : List Nat), readS t k ((bytesN s).drop at_) = some (x, rest) → HoldsAt t s at_ x rest := by
  intro k
  induction k with
  | zero => intro at_ x rest h; cases h
  | succ k ih =>
    intro at_ x rest h m W hm
    by_cases hlt : at_ < s.size
    · rw [bytesN_drop hlt] at h
      rcases hb : startB t s[at_].toNat with _ | _
      · rw [read_no t k _ _ hb] at h; cases h
      by_cases e49 : s[at_].toNat = 49
      · rw [e49] at h; cases h
        exact sHo_one t s at_ m W hs hlt e49
      by_cases e48 : s[at_].toNat = 48
      · rw [e48] at h; cases h
        exact sHo_zero t s at_ m W hs hlt e48
      by_cases e33 : s[at_].toNat = 33
      · rw [e33, read_no33] at h
        obtain ⟨⟨y, r⟩, hy, e⟩ := Option.map_eq_some_iff.1 h
        cases e
        exact sHo_no t s at_ m W hs hlt e33 h1 h3 hm y r (ih _ _ _ hy)
      by_cases e63 : s[at_].toNat = 63
      · rw [e63, read_ask63] at h
        obtain ⟨⟨y, r⟩, hy, e⟩ := Option.map_eq_some_iff.1 h
        cases e
        exact sHo_ask t s at_ m W hs hlt e63 h1 h3 hm y r (ih _ _ _ hy)
      by_cases e40 : s[at_].toNat = 40
      · rw [e40, read_pair40] at h
        unfold pairS at h
        split at h
        · rename_i x1 m1 l2 hx1
          split at h
          · rename_i y1 e0 r1 hy1
            split at h
            · obtain ⟨z, hz, e⟩ := Option.map_eq_some_iff.1 h
              cases e
              have hi2 : ∀ a2 : Nat, a2 ≤ s.size → (bytesN s).drop a2 = l2 → HoldsAt t s a2 y1 (e0 :: rest) := fun a2 _ hd => ih a2 _ _ (by rw [hd]; exact hy1)
              unfold twoS at hz
              split at hz
              · cases hz; rename_i hm1; subst hm1
                exact sHo_and_ t s at_ m W hs hlt e40 hm x1 l2 (ih _ _ _ hx1) y1 e0 rest hi2
              split at hz
              · cases hz; rename_i hm1; subst hm1
                exact sHo_or_ t s at_ m W hs hlt e40 hm x1 l2 (ih _ _ _ hx1) y1 e0 rest hi2
              split at hz
              · cases hz; rename_i hm1; subst hm1
                exact sHo_if_ t s at_ m W hs hlt e40 hm x1 l2 (ih _ _ _ hx1) y1 e0 rest hi2
              · cases hz
            · cases h
          · cases h
        · cases h
      · obtain ⟨i, hi, hit⟩ := start_thing hb e49 e48 e33 e63 e40
        rw [hi, read_thing hit] at h
        cases h
        exact sHo_thing t s at_ m W hs i hlt hi h1 h3 hit hm
    · rw [List.drop_eq_nil_of_le (by rw [bytesN_len]; omega), read_empty] at h
      cases h
end Go.Proofs.Ytmdpolllmipppaa

namespace Go.Proofs.Ytmdpolllmipppaa
open Go.RowKit

theorem senT_bad {t : Int} {s : ByteArray} (h : t < 1 ∨ 3 < t ∨ 60 < s.size) : senT t s = none := by
  unfold senT senOf; rw [if_neg (by rw [bytesN_len]; omega)]
theorem senT_none {t : Int} {s : ByteArray} (h1 : 1 ≤ t) (h3 : t ≤ 3) (hl : s.size ≤ 60) (h : readS t s.size (bytesN s) = none) : senT t s = none :=
  senOf_none h1 h3 (by rw [bytesN_len]; exact hl) (by rw [bytesN_len]; exact h)
theorem senT_more {t : Int} {s : ByteArray} {x : Sen} {c : Nat} {r : List Nat} (h1 : 1 ≤ t) (h3 : t ≤ 3) (hl : s.size ≤ 60) (h : readS t s.size (bytesN s) = some (x, c :: r)) : senT t s = none :=
  senOf_more h1 h3 (by rw [bytesN_len]; exact hl) (by rw [bytesN_len]; exact h)
theorem senT_some {t : Int} {s : ByteArray} {x : Sen} (h1 : 1 ≤ t) (h3 : t ≤ 3) (hl : s.size ≤ 60) (h : readS t s.size (bytesN s) = some (x, [])) : senT t s = some x :=
  senOf_some h1 h3 (by rw [bytesN_len]; exact hl) (by rw [bytesN_len]; exact h)
theorem read_of_sen {t : Int} {s : ByteArray} {x : Sen} (h : senT t s = some x) : readS t s.size (bytesN s) = some (x, []) := by
  obtain ⟨h1, h3, hl, hok, ht⟩ := senT_ok h
  rcases hr : readS t s.size (bytesN s) with _ | ⟨y, _ | ⟨c, r⟩⟩
  · rw [senT_none h1 h3 hl hr] at h; cases h
  · rw [senT_some h1 h3 hl hr] at h; cases h; rfl
  · rw [senT_more h1 h3 hl hr] at h; cases h
theorem sRead_some {t : Int} {s : ByteArray} {x : Sen} (h : senT t s = some x) (w : World) : Calls Try.prog 55 #[.int .i64 t, .string s, .int .i64 0] w (SSome t s x [] w) := by
  obtain ⟨h1, h3, hl, hok, ht⟩ := senT_ok h
  have := sReads t s (by omega) h1 h3 s.size 0 w (by omega) (by omega)
  rw [List.drop_zero, read_of_sen h] at this
  exact this
theorem sHolds_some {t : Int} {s : ByteArray} {x : Sen} (h : senT t s = some x) (m : Nat) (hm : (m : Int) ≤ allOf t) (w : World) : Calls Try.prog 63 #[.int .i64 t, .string s, .int .i64 0, .int .i64 m] w (SHold t s x [] m w) := by
  obtain ⟨h1, h3, hl, hok, ht⟩ := senT_ok h
  exact sHolds t s (by omega) h1 h3 s.size 0 x [] (by rw [List.drop_zero]; exact read_of_sen h) m w hm

set_option maxRecDepth 100000 in
set_option maxHeartbeats 4000000 in
theorem sSentence (t : Int) (s : ByteArray) (w : World) (hs : s.size ≤ 9223372036854775807) :
    Calls Try.prog 54 #[.int .i64 t, .string s] w fun e w' => e = .returned (.bool (isT t s)) ∧ Below w.heap.size w w' := by
  have hnot : ∀ (x : Bool) (w : World), (Op.unary .not (.bool x)).run Try.prog w = .ok (.bool (!x)) w := fun _ _ => rfl
  by_cases ht : t < 1 ∨ 3 < t
  · rw [show isT t s = false by unfold isT; rw [senT_bad (by omega)]; rfl]
    go_enter Try.func54, Try.ntmps54
    go_wp2_with fail
    refine (sIn_no _ _ _ _ ht).mono ?_
    rintro e w' ⟨rfl, rfl⟩
    go_wp2_with fail
    go_ret
    exact ⟨rfl, Below.refl _ _⟩
  by_cases hl : 60 < s.size
  · rw [show isT t s = false by unfold isT; rw [senT_bad (by omega)]; rfl]
    have hd : decide ((60 : Int) < (s.size : Int)) = true := decide_eq_true (by omega)
    go_enter Try.func54, Try.ntmps54
    go_wp2_with fail
    refine (sIn_yes _ _ _ _ (by omega) (by omega)).mono ?_
    rintro e w' ⟨rfl, rfl⟩
    go_wp2_with fail
    go_ret
    exact ⟨rfl, Below.refl _ _⟩
  have h1 : 1 ≤ t := by omega
  have h3 : t ≤ 3 := by omega
  have hd : decide ((60 : Int) < (s.size : Int)) = false := decide_eq_false (by omega)
  have hr := sReads t s (by omega) h1 h3 s.size 0
  rcases hrd : readS t s.size (bytesN s) with _ | ⟨x, rest⟩
  · have HI : Hid (∀ W, Calls Try.prog 55 #[.int .i64 t, .string s, .int .i64 0] W (SNone W)) := fun W => by
      have := hr W (by omega) (by omega)
      rw [List.drop_zero, hrd] at this; exact this
    rw [show isT t s = false by unfold isT; rw [senT_none h1 h3 (by omega) hrd]; rfl]
    have he : ((-1 : Int) == (s.size : Int)) = false := by rw [beq_eq_false_iff_ne]; omega
    clear hr hrd ht hl
    go_enter Try.func54, Try.ntmps54
    go_wp2_with fail
    refine (sIn_yes _ _ _ _ (by omega) (by omega)).mono ?_
    rintro e w' ⟨rfl, rfl⟩
    go_wp2_with fail
    refine (HI.out _).mono ?_
    rintro e w1 ⟨A, n, c, rfl, hb⟩
    have HB := Lib.hid hb
    clear hb
    go_wp2_with fail
    go_ret
    exact ⟨rfl, HB.out⟩
  · have HI : Hid (∀ W, Calls Try.prog 55 #[.int .i64 t, .string s, .int .i64 0] W (SSome t s x rest W)) := fun W => by
      have := hr W (by omega) (by omega)
      rw [List.drop_zero, hrd] at this; exact this
    have hv : isT t s = decide (rest = []) := by
      rcases rest with _ | ⟨c, r⟩
      · unfold isT; rw [senT_some h1 h3 (by omega) hrd]; rfl
      · unfold isT; rw [senT_more h1 h3 (by omega) hrd]; rfl
    have HV := Lib.hid hv
    clear hr hrd ht hl hv
    go_enter Try.func54, Try.ntmps54
    go_wp2_with fail
    refine (sIn_yes _ _ _ _ (by omega) (by omega)).mono ?_
    rintro e w' ⟨rfl, rfl⟩
    go_wp2_with fail
    refine (HI.out _).mono ?_
    rintro e w1 ⟨v, a2, rfl, ha2, hd2, ho, hb⟩
    obtain ⟨A1, c1, rfl, _, _, _, _⟩ := ho.form
    have HB := Lib.hid hb
    have HE : Hid (((a2 : Int) == (s.size : Int)) = isT t s) := by
      unfold Hid
      rw [HV.out, Bool.eq_iff_iff, beq_iff_eq, decide_eq_true_eq]
      constructor
      · intro h
        rw [← hd2]
        exact List.drop_eq_nil_of_le (by rw [bytesN_len]; omega)
      · intro h
        rw [h] at hd2
        have := drop_end hd2 ha2
        omega
    clear hb ho hd2
    go_wp2_with fail
    go_ret
    exact ⟨ret_bool HE.out, HB.out⟩
theorem sSentence_is {t : Int} {s : ByteArray} {b : Bool} (h : Hid (isT t s = b)) (w : World) (hs : s.size ≤ 9223372036854775807) :
    Calls Try.prog 54 #[.int .i64 t, .string s] w fun e w' => e = .returned (.bool b) ∧ Below w.heap.size w w' :=
  (sSentence t s w hs).mono fun _ _ ⟨he, hw⟩ => ⟨he.trans (ret_bool h.out), hw⟩
theorem isT_none {t : Int} {s : ByteArray} (h : senT t s = none) : isT t s = false := (issueT_none h).2
theorem isT_some {t : Int} {s : ByteArray} {x : Sen} (h : senT t s = some x) : isT t s = true := (issueT_some h).2

set_option maxRecDepth 100000 in
set_option maxHeartbeats 4000000 in
theorem sIssueOf (t : Int) (s : ByteArray) (w : World) (hs : s.size ≤ 9223372036854775807) :
    Calls Try.prog 17 #[.int .i64 t, .string s] w (IssueOfPost (issueT t s) (isT t s) w) := by
  have hnot : ∀ (x : Bool) (w : World), (Op.unary .not (.bool x)).run Try.prog w = .ok (.bool (!x)) w := fun _ _ => rfl
  rcases hx : senT t s with _ | x
  · have HT := Lib.hid (isT_none hx)
    obtain ⟨e1, e2⟩ := issueT_none hx
    rw [e1, e2]
    clear hx e1 e2
    go_enter Try.func17, Try.ntmps17
    go_wp2_with fail
    refine (sSentence_is HT _ hs).mono ?_
    rintro e w1 ⟨rfl, hb⟩
    have HB := Lib.hid hb
    clear hb
    go_wp2_with fail
    go_ret2
    exact ⟨_, rfl, Owns.lit _ _ [] HB.out.size (by simp [maxLen]), HB.out.alloc HB.out.size _⟩
  · have HX := Lib.hid hx
    have HT := Lib.hid (isT_some hx)
    obtain ⟨e1, e2⟩ := issueT_some hx
    rw [e1, e2]
    clear hx e1 e2
    go_enter Try.func17, Try.ntmps17
    go_wp2_with fail
    refine (sSentence_is HT _ hs).mono ?_
    rintro e w1 ⟨rfl, hb⟩
    have HB := Lib.hid hb
    clear hb
    go_wp2_with fail
    refine (sRead_some HX.out _).mono ?_
    rintro e w2 ⟨v, a2, rfl, ha2, _, ho, hb⟩
    have HO := Lib.hid (ho.base HB.out.size)
    have HB2 := Lib.hid (bel_trans HB.out hb)
    clear ho hb
    go_wp2_with fail
    go_ret2
    exact ⟨_, rfl, HO.out, HB2.out⟩

set_option maxRecDepth 100000 in
set_option maxHeartbeats 4000000 in
theorem sSupportsT (t k : Int) (s : ByteArray) (w : World) (hs : s.size ≤ 9223372036854775807) :
    Calls Try.prog 29 #[.int .i64 t, .int .i64 k, .string s] w fun e w' => e = .returned (.bool (supportsT t k s)) ∧ Below w.heap.size w w' := by
  have hnot : ∀ (x : Bool) (w : World), (Op.unary .not (.bool x)).run Try.prog w = .ok (.bool (!x)) w := fun _ _ => rfl
  rcases hset : setOkB t k with _ | _
  · have HS := Lib.hid hset
    rw [show supportsT t k s = false by unfold supportsT; rw [hset]; cases senT t s <;> rfl]
    clear hset
    go_enter Try.func29, Try.ntmps29
    go_wp2_with fail
    refine (sSetOk _ _ _).mono ?_
    rintro e w' ⟨rfl, rfl⟩
    rw [HS.out]
    go_wp2_with fail
    go_ret
    exact ⟨rfl, Below.refl _ _⟩
  · have HS := Lib.hid hset
    obtain ⟨_, _, hk0, hka, _⟩ := setOkB_lt hset
    rcases hx : senT t s with _ | x
    · have HT := Lib.hid (isT_none hx)
      rw [show supportsT t k s = false by unfold supportsT; rw [hx]]
      clear hset hx
      go_enter Try.func29, Try.ntmps29
      go_wp2_with fail
      refine (sSetOk _ _ _).mono ?_
      rintro e w' ⟨rfl, rfl⟩
      rw [HS.out]
      go_wp2_with fail
      refine (sSentence_is HT _ hs).mono ?_
      rintro e w1 ⟨rfl, hb⟩
      have HB := Lib.hid hb
      clear hb
      go_wp2_with fail
      go_ret
      exact ⟨rfl, HB.out⟩
    · have HX := Lib.hid hx
      have HT := Lib.hid (isT_some hx)
      rw [show supportsT t k s = holdsS t x k by unfold supportsT; rw [hx, hset]; rfl]
      obtain ⟨m, rfl⟩ : ∃ m : Nat, k = m := ⟨k.toNat, by omega⟩
      clear hset hx
      go_enter Try.func29, Try.ntmps29
      go_wp2_with fail
      refine (sSetOk _ _ _).mono ?_
      rintro e w' ⟨rfl, rfl⟩
      rw [HS.out]
      go_wp2_with fail
      refine (sSentence_is HT _ hs).mono ?_
      rintro e w1 ⟨rfl, hb⟩
      have HB := Lib.hid hb
      clear hb
      go_wp2_with fail
      refine (sHolds_some HX.out m hka _).mono ?_
      rintro e w2 ⟨a2, rfl, _, _, q, rfl⟩
      go_wp2_with fail
      go_ret
      exact ⟨rfl, bel_drewN HB.out _⟩

set_option maxRecDepth 100000 in
set_option maxHeartbeats 4000000 in
theorem sPlainOk (t : Int) (s : ByteArray) (w : World) (hs : s.size ≤ 9223372036854775807) :
    Calls Try.prog 35 #[.int .i64 t, .string s] w fun e w' => e = .returned (.bool (plainT t s)) ∧ Below w.heap.size w w' := by
  have hnot : ∀ (x : Bool) (w : World), (Op.unary .not (.bool x)).run Try.prog w = .ok (.bool (!x)) w := fun _ _ => rfl
  rcases hx : senT t s with _ | x
  · have HT := Lib.hid (isT_none hx)
    rw [show plainT t s = false by unfold plainT; rw [hx]]
    clear hx
    go_enter Try.func35, Try.ntmps35
    go_wp2_with fail
    refine (sSentence_is HT _ hs).mono ?_
    rintro e w1 ⟨rfl, hb⟩
    have HB := Lib.hid hb
    clear hb
    go_wp2_with fail
    go_ret
    exact ⟨rfl, HB.out⟩
  · have HX := Lib.hid hx
    have HT := Lib.hid (isT_some hx)
    rw [show plainT t s = plainS x by unfold plainT; rw [hx]]
    clear hx
    go_enter Try.func35, Try.ntmps35
    go_wp2_with fail
    refine (sSentence_is HT _ hs).mono ?_
    rintro e w1 ⟨rfl, hb⟩
    have HB := Lib.hid hb
    clear hb
    go_wp2_with fail
    refine (sRead_some HX.out _).mono ?_
    rintro e w2 ⟨v, a2, rfl, ha2, _, ho, hb⟩
    have HB2 := Lib.hid (bel_trans HB.out hb)
    clear ho hb
    go_wp2_with fail
    go_ret
    exact ⟨rfl, HB2.out⟩

theorem sSupports_is {t k : Int} {s : ByteArray} {b : Bool} (h : Hid (supportsT t k s = b)) (w : World) (hs : s.size ≤ 9223372036854775807) :
    Calls Try.prog 29 #[.int .i64 t, .int .i64 k, .string s] w fun e w' => e = .returned (.bool b) ∧ Below w.heap.size w w' :=
  (sSupportsT t k s w hs).mono fun _ _ ⟨he, hw⟩ => ⟨he.trans (ret_bool h.out), hw⟩
theorem supports_world {t : Int} {s : ByteArray} {x : Sen} {k : Nat} (h : senT t s = some x) (hk : k < nWorlds t) : supportsT t ((2 ^ k : Nat) : Int) s = holdsS t x (worldS k) := by
  obtain ⟨h1, h3, _⟩ := senT_ok h
  have := world_ok h1 h3 hk
  unfold supportsT
  rw [h]
  show (setOkB t (worldS k) && _) = _
  rw [setOk_of h1 h3 this.1 this.2]; rfl
theorem true_add {t : Int} {x : Sen} {k : Nat} (h : holdsS t x (worldS k) = true) : trueTo t x k + 2 ^ k = trueTo t x (k + 1) := by
  conv => rhs; unfold trueTo
  rw [if_pos h]

set_option maxRecDepth 100000 in
set_option maxHeartbeats 8000000 in
theorem sTrueIn (t : Int) (s : ByteArray) (w : World) (hs : s.size ≤ 9223372036854775807) :
    Calls Try.prog 38 #[.int .i64 t, .string s] w fun e w' => e = .returned (.int .i64 (trueT t s)) ∧ Below w.heap.size w w' := by
  have hnot : ∀ (x : Bool) (w : World), (Op.unary .not (.bool x)).run Try.prog w = .ok (.bool (!x)) w := fun _ _ => rfl
  rcases hx : senT t s with _ | x
  · have HT := Lib.hid (isT_none hx)
    rw [show trueT t s = -1 by unfold trueT; rw [hx]]
    clear hx
    go_enter Try.func38, Try.ntmps38
    go_wp2_with fail
    refine (sSentence_is HT _ hs).mono ?_
    rintro e w1 ⟨rfl, hb⟩
    have HB := Lib.hid hb
    clear hb
    go_wp2_with fail
    go_ret
    exact ⟨rfl, HB.out⟩
  · have HT := Lib.hid (isT_some hx)
    obtain ⟨h1, h3, _⟩ := senT_ok hx
    have HF : Hid (trueT t s = (trueTo t x (nWorlds t) : Int)) := by unfold Hid trueT; rw [hx]
    have HX := Lib.hid hx
    have h : t = 1 ∨ t = 2 ∨ t = 3 := by omega
    clear hx h1 h3
    rcases h with rfl | rfl | rfl
    · go_enter Try.func38, Try.ntmps38
      go_wp2_with fail
      refine (sSentence_is HT _ hs).mono ?_
      rintro e w1 ⟨rfl, hb⟩
      have HB := Lib.hid hb
      clear hb
      go_wp2_with fail
      go_loopw [5, 6] (fun v i wr => ∃ k : Nat, k ≤ 2 ∧ i = .int .i64 k ∧ v = .int .i64 (trueTo 1 x k) ∧ Below w1.heap.size w1 wr) (fun _ i _ => 2 - (Go.RowKit.intOf i).toNat)
      case atStart => exact ⟨0, Nat.zero_le _, rfl, rfl, Below.refl _ _⟩
      case round =>
        obtain ⟨k, hk, rfl, rfl, hbr⟩ := hrel
        have HBR := Lib.hid hbr
        clear hbr
        by_cases hlt : k < 2
        · have hsup := supports_world HX.out (k := k) hlt
          have htl := trueTo_lt 1 x k (by omega)
          have hp : 2 ^ k ≤ 2 ^ 7 := Nat.pow_le_pow_right (by omega) (by omega)
          have HWP := Lib.hid (wrap_pow (k := k) (by omega))
          obtain ⟨p, HP⟩ : ∃ p : Nat, Hid (2 ^ k = p) := ⟨_, rfl⟩
          obtain ⟨tv, HTV⟩ : ∃ tv : Nat, Hid (trueTo 1 x k = tv) := ⟨_, rfl⟩
          rw [HP.out] at hsup htl hp HWP
          rw [HTV.out] at htl ⊢
          rcases hh : holdsS 1 x (worldS k) with _ | _
          · rw [hh] at hsup
            have HS := Lib.hid (true_skip hh)
            have HSU := Lib.hid hsup
            clear hk hh hsup
            go_wp2_with fail
            rw [HWP.out]
            refine (sSupports_is HSU _ hs).mono ?_
            rintro e w2 ⟨rfl, hb⟩
            have HB2 := Lib.hid (bel_trans HBR.out hb)
            clear hb
            go_wp2_with fail
            refine ⟨⟨k + 1, by omega, by go_num, by rw [← HS.out, HTV.out], HB2.out⟩, ?_⟩
            simp [Go.RowKit.intOf]; omega
          · rw [hh] at hsup
            have HS := Lib.hid (true_add hh)
            have HSU := Lib.hid hsup
            clear hk hh hsup
            go_wp2_with fail
            rw [HWP.out]
            refine (sSupports_is HSU _ hs).mono ?_
            rintro e w2 ⟨rfl, hb⟩
            have HB2 := Lib.hid (bel_trans HBR.out hb)
            clear hb
            go_wp2_with fail
            try rw [HWP.out]
            refine ⟨⟨k + 1, by omega, by go_num, ?_, HB2.out⟩, ?_⟩
            · rw [← HS.out, HTV.out, HP.out]
              first | rw [IntWalk.wrap64_in _ ⟨by omega, by omega⟩]; rfl | rfl
            · simp [Go.RowKit.intOf]; omega
        · obtain rfl : k = 2 := by omega
          have HB2 := Lib.hid (bel_trans HB.out HBR.out)
          go_wp2_with fail
          go_ret
          exact ⟨ret_int (by rw [HF.out]; rfl), HB2.out⟩
    · go_enter Try.func38, Try.ntmps38
      go_wp2_with fail
      refine (sSentence_is HT _ hs).mono ?_
      rintro e w1 ⟨rfl, hb⟩
      have HB := Lib.hid hb
      clear hb
      go_wp2_with fail
      go_loopw [5, 6] (fun v i wr => ∃ k : Nat, k ≤ 4 ∧ i = .int .i64 k ∧ v = .int .i64 (trueTo 2 x k) ∧ Below w1.heap.size w1 wr) (fun _ i _ => 4 - (Go.RowKit.intOf i).toNat)
      case atStart => exact ⟨0, Nat.zero_le _, rfl, rfl, Below.refl _ _⟩
      case round =>
        obtain ⟨k, hk, rfl, rfl, hbr⟩ := hrel
        have HBR := Lib.hid hbr
        clear hbr
        by_cases hlt : k < 4
        · have hsup := supports_world HX.out (k := k) hlt
          have htl := trueTo_lt 2 x k (by omega)
          have hp : 2 ^ k ≤ 2 ^ 7 := Nat.pow_le_pow_right (by omega) (by omega)
          have HWP := Lib.hid (wrap_pow (k := k) (by omega))
          obtain ⟨p, HP⟩ : ∃ p : Nat, Hid (2 ^ k = p) := ⟨_, rfl⟩
          obtain ⟨tv, HTV⟩ : ∃ tv : Nat, Hid (trueTo 2 x k = tv) := ⟨_, rfl⟩
          rw [HP.out] at hsup htl hp HWP
          rw [HTV.out] at htl ⊢
          rcases hh : holdsS 2 x (worldS k) with _ | _
          · rw [hh] at hsup
            have HS := Lib.hid (true_skip hh)
            have HSU := Lib.hid hsup
            clear hk hh hsup
            go_wp2_with fail
            rw [HWP.out]
            refine (sSupports_is HSU _ hs).mono ?_
            rintro e w2 ⟨rfl, hb⟩
            have HB2 := Lib.hid (bel_trans HBR.out hb)
            clear hb
            go_wp2_with fail
            refine ⟨⟨k + 1, by omega, by go_num, by rw [← HS.out, HTV.out], HB2.out⟩, ?_⟩
            simp [Go.RowKit.intOf]; omega
          · rw [hh] at hsup
            have HS := Lib.hid (true_add hh)
            have HSU := Lib.hid hsup
            clear hk hh hsup
            go_wp2_with fail
            rw [HWP.out]
            refine (sSupports_is HSU _ hs).mono ?_
            rintro e w2 ⟨rfl, hb⟩
            have HB2 := Lib.hid (bel_trans HBR.out hb)
            clear hb
            go_wp2_with fail
            try rw [HWP.out]
            refine ⟨⟨k + 1, by omega, by go_num, ?_, HB2.out⟩, ?_⟩
            · rw [← HS.out, HTV.out, HP.out]
              first | rw [IntWalk.wrap64_in _ ⟨by omega, by omega⟩]; rfl | rfl
            · simp [Go.RowKit.intOf]; omega
        · obtain rfl : k = 4 := by omega
          have HB2 := Lib.hid (bel_trans HB.out HBR.out)
          go_wp2_with fail
          go_ret
          exact ⟨ret_int (by rw [HF.out]; rfl), HB2.out⟩
    · go_enter Try.func38, Try.ntmps38
      go_wp2_with fail
      refine (sSentence_is HT _ hs).mono ?_
      rintro e w1 ⟨rfl, hb⟩
      have HB := Lib.hid hb
      clear hb
      go_wp2_with fail
      go_loopw [5, 6] (fun v i wr => ∃ k : Nat, k ≤ 8 ∧ i = .int .i64 k ∧ v = .int .i64 (trueTo 3 x k) ∧ Below w1.heap.size w1 wr) (fun _ i _ => 8 - (Go.RowKit.intOf i).toNat)
      case atStart => exact ⟨0, Nat.zero_le _, rfl, rfl, Below.refl _ _⟩
      case round =>
        obtain ⟨k, hk, rfl, rfl, hbr⟩ := hrel
        have HBR := Lib.hid hbr
        clear hbr
        by_cases hlt : k < 8
        · have hsup := supports_world HX.out (k := k) hlt
          have htl := trueTo_lt 3 x k (by omega)
          have hp : 2 ^ k ≤ 2 ^ 7 := Nat.pow_le_pow_right (by omega) (by omega)
          have HWP := Lib.hid (wrap_pow (k := k) (by omega))
          obtain ⟨p, HP⟩ : ∃ p : Nat, Hid (2 ^ k = p) := ⟨_, rfl⟩
          obtain ⟨tv, HTV⟩ : ∃ tv : Nat, Hid (trueTo 3 x k = tv) := ⟨_, rfl⟩
          rw [HP.out] at hsup htl hp HWP
          rw [HTV.out] at htl ⊢
          rcases hh : holdsS 3 x (worldS k) with _ | _
          · rw [hh] at hsup
            have HS := Lib.hid (true_skip hh)
            have HSU := Lib.hid hsup
            clear hk hh hsup
            go_wp2_with fail
            rw [HWP.out]
            refine (sSupports_is HSU _ hs).mono ?_
            rintro e w2 ⟨rfl, hb⟩
            have HB2 := Lib.hid (bel_trans HBR.out hb)
            clear hb
            go_wp2_with fail
            refine ⟨⟨k + 1, by omega, by go_num, by rw [← HS.out, HTV.out], HB2.out⟩, ?_⟩
            simp [Go.RowKit.intOf]; omega
          · rw [hh] at hsup
            have HS := Lib.hid (true_add hh)
            have HSU := Lib.hid hsup
            clear hk hh hsup
            go_wp2_with fail
            rw [HWP.out]
            refine (sSupports_is HSU _ hs).mono ?_
            rintro e w2 ⟨rfl, hb⟩
            have HB2 := Lib.hid (bel_trans HBR.out hb)
            clear hb
            go_wp2_with fail
            try rw [HWP.out]
            refine ⟨⟨k + 1, by omega, by go_num, ?_, HB2.out⟩, ?_⟩
            · rw [← HS.out, HTV.out, HP.out]
              first | rw [IntWalk.wrap64_in _ ⟨by omega, by omega⟩]; rfl | rfl
            · simp [Go.RowKit.intOf]; omega
        · obtain rfl : k = 8 := by omega
          have HB2 := Lib.hid (bel_trans HB.out HBR.out)
          go_wp2_with fail
          go_ret
          exact ⟨ret_int (by rw [HF.out]; rfl), HB2.out⟩

set_option maxRecDepth 100000 in
set_option maxHeartbeats 4000000 in
theorem sEntailsOf (t : Int) (s u : ByteArray) (w : World) (hs : s.size ≤ 9223372036854775807) (hu : u.size ≤ 9223372036854775807) :
    Calls Try.prog 41 #[.int .i64 t, .string s, .string u] w fun e w' => e = .returned (.bool (entailsT t s u)) ∧ Below w.heap.size w w' := by
  rcases hx : senT t s with _ | x
  · have HX := Lib.hid (issueT_none hx)
    rw [show entailsT t s u = false by unfold entailsT; rw [hx]]
    clear hx
    go_enter Try.func41, Try.ntmps41
    go_wp2_with fail
    refine (sIssueOf t s _ hs).mono ?_
    rintro e w1 ⟨v, rfl, ho, hb⟩
    rw [HX.out.2]
    have HB := Lib.hid hb
    obtain ⟨A1, c1, rfl, _, _, _, _⟩ := ho.form
    clear hb ho
    go_wp2_with fail
    refine (sIssueOf t u _ hu).mono ?_
    rintro e w2 ⟨v, rfl, ho, hb⟩
    have HB2 := Lib.hid (bel_trans HB.out hb)
    obtain ⟨A2, c2, rfl, _, _, _, _⟩ := ho.form
    clear hb ho
    go_wp2_with fail
    go_ret
    exact ⟨rfl, HB2.out⟩
  · rcases hy : senT t u with _ | y
    · have HX := Lib.hid (issueT_some hx)
      have HY := Lib.hid (issueT_none hy)
      rw [show entailsT t s u = false by unfold entailsT; rw [hx, hy]]
      clear hx hy
      go_enter Try.func41, Try.ntmps41
      go_wp2_with fail
      refine (sIssueOf t s _ hs).mono ?_
      rintro e w1 ⟨v, rfl, ho, hb⟩
      rw [HX.out.2]
      have HB := Lib.hid hb
      obtain ⟨A1, c1, rfl, _, _, _, _⟩ := ho.form
      clear hb ho
      go_wp2_with fail
      refine (sIssueOf t u _ hu).mono ?_
      rintro e w2 ⟨v, rfl, ho, hb⟩
      rw [HY.out.2]
      have HB2 := Lib.hid (bel_trans HB.out hb)
      obtain ⟨A2, c2, rfl, _, _, _, _⟩ := ho.form
      clear hb ho
      go_wp2_with fail
      go_ret
      exact ⟨rfl, HB2.out⟩
    · have HX := Lib.hid (issueT_some hx)
      have HY := Lib.hid (issueT_some hy)
      obtain ⟨h1, h3, _⟩ := senT_ok hx
      have hlx := (issue_ne (sen_issue h1 h3 x)).2
      have hly := (issue_ne (sen_issue h1 h3 y)).2
      rw [show entailsT t s u = followsB t (issueS t x) (issueS t y) by unfold entailsT; rw [hx, hy]]
      obtain ⟨lx, HLX⟩ : ∃ l, Hid (issueS t x = l) := ⟨_, rfl⟩
      obtain ⟨ly, HLY⟩ : ∃ l, Hid (issueS t y = l) := ⟨_, rfl⟩
      rw [HLX.out] at hlx HX ⊢
      rw [HLY.out] at hly HY ⊢
      clear hx hy
      go_enter Try.func41, Try.ntmps41
      go_wp2_with fail
      refine (sIssueOf t s _ hs).mono ?_
      rintro e w1 ⟨v, rfl, ho, hb⟩
      rw [HX.out.2]
      rw [HX.out.1] at ho
      have HB := Lib.hid hb
      obtain ⟨A1, c1, rfl, _, _, _, _⟩ := ho.form
      have HR1 := Lib.hid (Owns.row ho (by omega))
      clear hb ho
      go_wp2_with fail
      refine (sIssueOf t u _ hu).mono ?_
      rintro e w2 ⟨v, rfl, ho, hb⟩
      rw [HY.out.2]
      rw [HY.out.1] at ho
      have HB2 := Lib.hid (bel_trans HB.out hb)
      obtain ⟨A2, c2, rfl, _, _, _, _⟩ := ho.form
      have HR2 := Lib.hid (Owns.row ho (by omega))
      replace HR1 := Lib.hid (HR1.out.below hb)
      clear hb ho
      go_wp2_with fail
      refine (sFollows t _ _ _ _ _ _ lx ly _ HR1.out HR2.out).mono ?_
      rintro e w3 ⟨rfl, q, rfl⟩
      go_wp2_with fail
      go_ret
      exact ⟨rfl, bel_drewN HB2.out _⟩
end Go.Proofs.Ytmdpolllmipppaa

namespace Go.Proofs.Ytmdpolllmipppaa
open Go.RowKit

/-- A new row of strings is still there behind a draw. -/
theorem lit_str {w w' : World} {g : Nat} (xs : List ByteArray) {t : TypeId} (hg : (w.alloc (.cells (xs.map Value.string).toArray t)).grownBy w' (some g)) (hne : g < w.heap.size) {k : Int} (h0 : 0 ≤ k) (hk : k < xs.length) :
    ∃ x : ByteArray, x ∈ xs ∧ w'.cell? ⟨w.heap.size, k.toNat, none⟩ = some (.string x) := by
  have hb : w'.heap[w.heap.size]? = (w.alloc (.cells (xs.map Value.string).toArray t)).heap[w.heap.size]? := hg.block w.heap.size (by simp) (fun e => by injection e; omega)
  have hi : k.toNat < xs.length := by omega
  refine ⟨xs[k.toNat], List.getElem_mem hi, ?_⟩
  have h2 : (w.alloc (.cells (xs.map Value.string).toArray t)).heap[w.heap.size]? = some (.cells (xs.map Value.string).toArray t (0, 0)) := heap_alloc_new w _
  rw [h2] at hb
  rw [cell_of_row w' w.heap.size k.toNat _ t (0, 0) hb]
  simp [hi]
def StrPost (hi : Nat) (g u : Nat) (w : World) (e : Ending) (w' : World) : Prop := ∃ s : ByteArray, e = .returned (.string s) ∧ 1 ≤ s.size ∧ s.size ≤ hi ∧ Rd w' g u ∧ w.grownBy w' (some g)

def words6 : List ByteArray := [⟨#[97]⟩, ⟨#[98]⟩, ⟨#[99]⟩, ⟨#[97]⟩, ⟨#[48]⟩, ⟨#[49]⟩]
theorem words6_size {x : ByteArray} (h : x ∈ words6) : x.size = 1 := by
  simp only [words6, List.mem_cons, List.not_mem_nil, or_false] at h
  rcases h with rfl | rfl | rfl | rfl | rfl | rfl <;> rfl
def words5 : List ByteArray := [⟨#[]⟩, ⟨#[99]⟩, ⟨#[40]⟩, ⟨#[38]⟩, ⟨#[33]⟩]
theorem words5_size {x : ByteArray} (h : x ∈ words5) : x.size ≤ 1 := by
  simp only [words5, List.mem_cons, List.not_mem_nil, or_false] at h
  rcases h with rfl | rfl | rfl | rfl | rfl <;> decide

theorem one_size (b : UInt8) : (ByteArray.mk #[b]).size = 1 := rfl

/-- What the drawing of a word comes to, from the list of words on. -/
def Leaf (deep : Int) (g u : Nat) (t : Int) (w : World) : Prop := Calls Try.prog 68 #[.pointer (some ⟨g, 0, none⟩), .int .i64 t, .int .i64 deep] w (StrPost 1 g (u + 3) w)

set_option maxRecDepth 100000 in
set_option maxHeartbeats 4000000 in
theorem leaf_any (g u : Nat) (t : Int) (w : World) (hu : u ≤ 1000000) (hR : Rd w g u) : Leaf 0 g u t w := by
  have HR := Lib.hid hR
  have hlt := hR.lt
  obtain ⟨m, hm⟩ : ∃ m, max (min t 3) 1 = m := ⟨_, rfl⟩
  have hm1 : 1 ≤ m := by omega
  have hm3 : m ≤ 3 := by omega
  unfold Leaf
  clear hR
  go_enter Try.func68, Try.ntmps68
  go_wp2_with fail
  refine (pick_any g u _ _ (by omega) (by omega) (by omega) (HR.out.alloc _)).mono ?_
  rintro e w1 ⟨k, rfl, hk0, hk1, hr, hg⟩
  have hk8 := hk1 (by omega)
  have hsz : w.heap.size < w1.heap.size := by have := hg.size; simp at this; omega
  obtain ⟨q, hq⟩ : ∃ q, k / 7 = q := ⟨_, rfl⟩
  have hq0 : 0 ≤ q := by omega
  have hq1 : q ≤ 1 := by omega
  have HR1 := Lib.hid hr
  have HG1 := Lib.hid hg
  clear hr hg hk1
  go_wp2_with fail
  refine (pick_any g (u + 1) _ _ (by omega) (by omega) (by omega) HR1.out).mono ?_
  rintro e w2 ⟨k2, rfl, hk20, hk21, hr, hg⟩
  have hk26 := hk21 (by omega)
  obtain ⟨x, hx, hcell⟩ := lit_str words6 (HG1.out.trans hg) hlt hk20 (by simp [words6]; omega)
  have HS := Lib.hid (words6_size hx)
  have hk6 : k2 < 6 := by omega
  have HP : Hid (Rd w2 g (u + 3) ∧ w.grownBy w2 (some g)) := ⟨hr.more (by omega), (grown_alloc (World.grownBy.refl w _) _).trans (HG1.out.trans hg)⟩
  clear hr hg hx hk21
  go_wp2_with fail
  go_ret
  exact ⟨x, rfl, by rw [HS.out]; omega, by rw [HS.out]; omega, HP.out⟩
theorem str_more {hi hi' : Nat} {g u u' : Nat} {w : World} {e : Ending} {w' : World} (h : StrPost hi g u w e w') (h1 : hi ≤ hi') (h2 : u ≤ u') : StrPost hi' g u' w e w' := by
  obtain ⟨s, he, h3, h4, hr, hg⟩ := h
  exact ⟨s, he, h3, by omega, hr.more h2, hg⟩
/-- The drawing of a sentence of some depth: at most so many bytes, so many draws, from so many on. -/
def SentAny (d : Int) (hi us b : Nat) : Prop := ∀ (g u : Nat) (t : Int) (w : World), u ≤ b → Rd w g u → Calls Try.prog 68 #[.pointer (some ⟨g, 0, none⟩), .int .i64 t, .int .i64 d] w (StrPost hi g (u + us) w)
theorem sent0_any : SentAny 0 1 3 1000000 := fun g u t w hu hR => leaf_any g u t w (by omega) hR

set_option maxRecDepth 100000 in
set_option maxHeartbeats 8000000 in
theorem sent1_any : SentAny 1 5 11 950000 := by
  intro g u t w hu hR
  have HR := Lib.hid hR
  have hlt := hR.lt
  clear hR
  obtain ⟨m, hm⟩ : ∃ m, max (min t 3) 1 = m := ⟨_, rfl⟩
  have hm1 : 1 ≤ m := by omega
  have hm3 : m ≤ 3 := by omega
  go_enter Try.func68, Try.ntmps68
  go_wp2_with fail
  refine (pick_any g u _ _ (by omega) (by omega) (by omega) HR.out).mono ?_
  rintro e w0 ⟨k0, rfl, hk00, hk01, hr, hg⟩
  have hk04 := hk01 (by omega)
  have hlt0 : g < w0.heap.size := hr.lt
  have HR0 := Lib.hid hr
  have HG0 := Lib.hid hg
  clear hr hg hk01
  by_cases hz : k0 = 0
  · subst hz
    go_wp2_with fail
    refine (pick_any g (u + 1) _ _ (by omega) (by omega) (by omega) (HR0.out.alloc _)).mono ?_
    rintro e w1 ⟨k, rfl, hk0, hk1, hr, hg⟩
    have hk8 := hk1 (by omega)
    have hsz : w0.heap.size < w1.heap.size := by have := hg.size; simp at this; omega
    obtain ⟨q, hq⟩ : ∃ q, k / 7 = q := ⟨_, rfl⟩
    have hq0 : 0 ≤ q := by omega
    have hq1 : q ≤ 1 := by omega
    have HR1 := Lib.hid hr
    have HG1 := Lib.hid hg
    clear hr hg hk1
    go_wp2_with fail
    refine (pick_any g (u + 2) _ _ (by omega) (by omega) (by omega) HR1.out).mono ?_
    rintro e w2 ⟨k2, rfl, hk20, hk21, hr, hg⟩
    have hk26 := hk21 (by omega)
    obtain ⟨x, hx, hcell⟩ := lit_str words6 (HG1.out.trans hg) hlt0 hk20 (by simp [words6]; omega)
    have HS := Lib.hid (words6_size hx)
    have hk6 : k2 < 6 := by omega
    have HP : Hid (Rd w2 g (u + 11) ∧ w.grownBy w2 (some g)) := ⟨hr.more (by omega), (grown_alloc HG0.out _).trans (HG1.out.trans hg)⟩
    clear hr hg hx hk21
    go_wp2_with fail
    go_ret
    exact ⟨x, rfl, by rw [HS.out]; omega, by rw [HS.out]; omega, HP.out⟩
  · have hzb : (k0 == 0) = false := by rw [beq_eq_false_iff_ne]; exact hz
    clear hz
    go_wp2_with fail
    refine (pick_any g (u + 1) _ _ (by omega) (by omega) (by omega) HR0.out).mono ?_
    rintro e w1 ⟨k, rfl, hk0, hk1, hr, hg⟩
    have hk6 := hk1 (by omega)
    have HR1 := Lib.hid hr
    have HG1 := Lib.hid (HG0.out.trans hg)
    clear hr hg hk1
    have h6 : k = 0 ∨ k = 1 ∨ k = 2 ∨ k = 3 ∨ k = 4 ∨ k = 5 := by omega
    clear hk0 hk6
    rcases h6 with rfl | rfl | rfl | rfl | rfl | rfl
    · go_wp2_with fail
      refine (sent0_any g (u + 2) t _ (by omega) HR1.out).mono ?_
      rintro e w2 ⟨s1, rfl, hs1, hs2, hr, hg⟩
      have HP : Hid (Rd w2 g (u + 11) ∧ w.grownBy w2 (some g)) := ⟨hr.more (by omega), HG1.out.trans hg⟩
      clear hr hg
      go_wp2_with fail
      go_ret
      exact ⟨_, rfl, by simp only [ByteArray.size_append, one_size]; omega, by simp only [ByteArray.size_append, one_size]; omega, HP.out⟩
    · go_wp2_with fail
      refine (sent0_any g (u + 2) t _ (by omega) HR1.out).mono ?_
      rintro e w2 ⟨s1, rfl, hs1, hs2, hr, hg⟩
      have HP : Hid (Rd w2 g (u + 11) ∧ w.grownBy w2 (some g)) := ⟨hr.more (by omega), HG1.out.trans hg⟩
      clear hr hg
      go_wp2_with fail
      go_ret
      exact ⟨_, rfl, by simp only [ByteArray.size_append, one_size]; omega, by simp only [ByteArray.size_append, one_size]; omega, HP.out⟩
    · go_wp2_with fail
      refine (sent0_any g (u + 2) t _ (by omega) HR1.out).mono ?_
      rintro e w2 ⟨s1, rfl, hs1, hs2, hr, hg⟩
      have HR2 := Lib.hid hr
      have HG2 := Lib.hid (HG1.out.trans hg)
      clear hr hg
      go_wp2_with fail
      refine (sent0_any g (u + 2 + 3) t _ (by omega) HR2.out).mono ?_
      rintro e w3 ⟨s2, rfl, hs3, hs4, hr, hg⟩
      have HP : Hid (Rd w3 g (u + 11) ∧ w.grownBy w3 (some g)) := ⟨hr.more (by omega), HG2.out.trans hg⟩
      clear hr hg
      go_wp2_with fail
      go_ret
      exact ⟨_, rfl, by simp only [ByteArray.size_append, one_size]; omega, by simp only [ByteArray.size_append, one_size]; omega, HP.out⟩
    · go_wp2_with fail
      refine (sent0_any g (u + 2) t _ (by omega) HR1.out).mono ?_
      rintro e w2 ⟨s1, rfl, hs1, hs2, hr, hg⟩
      have HR2 := Lib.hid hr
      have HG2 := Lib.hid (HG1.out.trans hg)
      clear hr hg
      go_wp2_with fail
      refine (sent0_any g (u + 2 + 3) t _ (by omega) HR2.out).mono ?_
      rintro e w3 ⟨s2, rfl, hs3, hs4, hr, hg⟩
      have HP : Hid (Rd w3 g (u + 11) ∧ w.grownBy w3 (some g)) := ⟨hr.more (by omega), HG2.out.trans hg⟩
      clear hr hg
      go_wp2_with fail
      go_ret
      exact ⟨_, rfl, by simp only [ByteArray.size_append, one_size]; omega, by simp only [ByteArray.size_append, one_size]; omega, HP.out⟩
    · go_wp2_with fail
      refine (sent0_any g (u + 2) t _ (by omega) HR1.out).mono ?_
      rintro e w2 ⟨s1, rfl, hs1, hs2, hr, hg⟩
      have HR2 := Lib.hid hr
      have HG2 := Lib.hid (HG1.out.trans hg)
      clear hr hg
      go_wp2_with fail
      refine (sent0_any g (u + 2 + 3) t _ (by omega) HR2.out).mono ?_
      rintro e w3 ⟨s2, rfl, hs3, hs4, hr, hg⟩
      have HP : Hid (Rd w3 g (u + 11) ∧ w.grownBy w3 (some g)) := ⟨hr.more (by omega), HG2.out.trans hg⟩
      clear hr hg
      go_wp2_with fail
      go_ret
      exact ⟨_, rfl, by simp only [ByteArray.size_append, one_size]; omega, by simp only [ByteArray.size_append, one_size]; omega, HP.out⟩
    · go_wp2_with fail
      refine (sent0_any g (u + 2) t _ (by omega) HR1.out).mono ?_
      rintro e w2 ⟨s1, rfl, hs1, hs2, hr, hg⟩
      have HR2 := Lib.hid hr
      have HG2 := Lib.hid (HG1.out.trans hg)
      clear hr hg
      go_wp2_with fail
      refine (sent0_any g (u + 2 + 3) t _ (by omega) HR2.out).mono ?_
      rintro e w3 ⟨s2, rfl, hs3, hs4, hr, hg⟩
      have HP : Hid (Rd w3 g (u + 11) ∧ w.grownBy w3 (some g)) := ⟨hr.more (by omega), HG2.out.trans hg⟩
      clear hr hg
      go_wp2_with fail
      go_ret
      exact ⟨_, rfl, by simp only [ByteArray.size_append, one_size]; omega, by simp only [ByteArray.size_append, one_size]; omega, HP.out⟩
set_option maxRecDepth 100000 in
set_option maxHeartbeats 8000000 in
theorem sent2_any : SentAny 2 13 27 900000 := by
  intro g u t w hu hR
  have HR := Lib.hid hR
  have hlt := hR.lt
  clear hR
  obtain ⟨m, hm⟩ : ∃ m, max (min t 3) 1 = m := ⟨_, rfl⟩
  have hm1 : 1 ≤ m := by omega
  have hm3 : m ≤ 3 := by omega
  go_enter Try.func68, Try.ntmps68
  go_wp2_with fail
  refine (pick_any g u _ _ (by omega) (by omega) (by omega) HR.out).mono ?_
  rintro e w0 ⟨k0, rfl, hk00, hk01, hr, hg⟩
  have hk04 := hk01 (by omega)
  have hlt0 : g < w0.heap.size := hr.lt
  have HR0 := Lib.hid hr
  have HG0 := Lib.hid hg
  clear hr hg hk01
  by_cases hz : k0 = 0
  · subst hz
    go_wp2_with fail
    refine (pick_any g (u + 1) _ _ (by omega) (by omega) (by omega) (HR0.out.alloc _)).mono ?_
    rintro e w1 ⟨k, rfl, hk0, hk1, hr, hg⟩
    have hk8 := hk1 (by omega)
    have hsz : w0.heap.size < w1.heap.size := by have := hg.size; simp at this; omega
    obtain ⟨q, hq⟩ : ∃ q, k / 7 = q := ⟨_, rfl⟩
    have hq0 : 0 ≤ q := by omega
    have hq1 : q ≤ 1 := by omega
    have HR1 := Lib.hid hr
    have HG1 := Lib.hid hg
    clear hr hg hk1
    go_wp2_with fail
    refine (pick_any g (u + 2) _ _ (by omega) (by omega) (by omega) HR1.out).mono ?_
    rintro e w2 ⟨k2, rfl, hk20, hk21, hr, hg⟩
    have hk26 := hk21 (by omega)
    obtain ⟨x, hx, hcell⟩ := lit_str words6 (HG1.out.trans hg) hlt0 hk20 (by simp [words6]; omega)
    have HS := Lib.hid (words6_size hx)
    have hk6 : k2 < 6 := by omega
    have HP : Hid (Rd w2 g (u + 27) ∧ w.grownBy w2 (some g)) := ⟨hr.more (by omega), (grown_alloc HG0.out _).trans (HG1.out.trans hg)⟩
    clear hr hg hx hk21
    go_wp2_with fail
    go_ret
    exact ⟨x, rfl, by rw [HS.out]; omega, by rw [HS.out]; omega, HP.out⟩
  · have hzb : (k0 == 0) = false := by rw [beq_eq_false_iff_ne]; exact hz
    clear hz
    go_wp2_with fail
    refine (pick_any g (u + 1) _ _ (by omega) (by omega) (by omega) HR0.out).mono ?_
    rintro e w1 ⟨k, rfl, hk0, hk1, hr, hg⟩
    have hk6 := hk1 (by omega)
    have HR1 := Lib.hid hr
    have HG1 := Lib.hid (HG0.out.trans hg)
    clear hr hg hk1
    have h6 : k = 0 ∨ k = 1 ∨ k = 2 ∨ k = 3 ∨ k = 4 ∨ k = 5 := by omega
    clear hk0 hk6
    rcases h6 with rfl | rfl | rfl | rfl | rfl | rfl
    · go_wp2_with fail
      refine (sent1_any g (u + 2) t _ (by omega) HR1.out).mono ?_
      rintro e w2 ⟨s1, rfl, hs1, hs2, hr, hg⟩
      have HP : Hid (Rd w2 g (u + 27) ∧ w.grownBy w2 (some g)) := ⟨hr.more (by omega), HG1.out.trans hg⟩
      clear hr hg
      go_wp2_with fail
      go_ret
      exact ⟨_, rfl, by simp only [ByteArray.size_append, one_size]; omega, by simp only [ByteArray.size_append, one_size]; omega, HP.out⟩
    · go_wp2_with fail
      refine (sent1_any g (u + 2) t _ (by omega) HR1.out).mono ?_
      rintro e w2 ⟨s1, rfl, hs1, hs2, hr, hg⟩
      have HP : Hid (Rd w2 g (u + 27) ∧ w.grownBy w2 (some g)) := ⟨hr.more (by omega), HG1.out.trans hg⟩
      clear hr hg
      go_wp2_with fail
      go_ret
      exact ⟨_, rfl, by simp only [ByteArray.size_append, one_size]; omega, by simp only [ByteArray.size_append, one_size]; omega, HP.out⟩
    · go_wp2_with fail
      refine (sent1_any g (u + 2) t _ (by omega) HR1.out).mono ?_
      rintro e w2 ⟨s1, rfl, hs1, hs2, hr, hg⟩
      have HR2 := Lib.hid hr
      have HG2 := Lib.hid (HG1.out.trans hg)
      clear hr hg
      go_wp2_with fail
      refine (sent1_any g (u + 2 + 11) t _ (by omega) HR2.out).mono ?_
      rintro e w3 ⟨s2, rfl, hs3, hs4, hr, hg⟩
      have HP : Hid (Rd w3 g (u + 27) ∧ w.grownBy w3 (some g)) := ⟨hr.more (by omega), HG2.out.trans hg⟩
      clear hr hg
      go_wp2_with fail
      go_ret
      exact ⟨_, rfl, by simp only [ByteArray.size_append, one_size]; omega, by simp only [ByteArray.size_append, one_size]; omega, HP.out⟩
    · go_wp2_with fail
      refine (sent1_any g (u + 2) t _ (by omega) HR1.out).mono ?_
      rintro e w2 ⟨s1, rfl, hs1, hs2, hr, hg⟩
      have HR2 := Lib.hid hr
      have HG2 := Lib.hid (HG1.out.trans hg)
      clear hr hg
      go_wp2_with fail
      refine (sent1_any g (u + 2 + 11) t _ (by omega) HR2.out).mono ?_
      rintro e w3 ⟨s2, rfl, hs3, hs4, hr, hg⟩
      have HP : Hid (Rd w3 g (u + 27) ∧ w.grownBy w3 (some g)) := ⟨hr.more (by omega), HG2.out.trans hg⟩
      clear hr hg
      go_wp2_with fail
      go_ret
      exact ⟨_, rfl, by simp only [ByteArray.size_append, one_size]; omega, by simp only [ByteArray.size_append, one_size]; omega, HP.out⟩
    · go_wp2_with fail
      refine (sent1_any g (u + 2) t _ (by omega) HR1.out).mono ?_
      rintro e w2 ⟨s1, rfl, hs1, hs2, hr, hg⟩
      have HR2 := Lib.hid hr
      have HG2 := Lib.hid (HG1.out.trans hg)
      clear hr hg
      go_wp2_with fail
      refine (sent1_any g (u + 2 + 11) t _ (by omega) HR2.out).mono ?_
      rintro e w3 ⟨s2, rfl, hs3, hs4, hr, hg⟩
      have HP : Hid (Rd w3 g (u + 27) ∧ w.grownBy w3 (some g)) := ⟨hr.more (by omega), HG2.out.trans hg⟩
      clear hr hg
      go_wp2_with fail
      go_ret
      exact ⟨_, rfl, by simp only [ByteArray.size_append, one_size]; omega, by simp only [ByteArray.size_append, one_size]; omega, HP.out⟩
    · go_wp2_with fail
      refine (sent1_any g (u + 2) t _ (by omega) HR1.out).mono ?_
      rintro e w2 ⟨s1, rfl, hs1, hs2, hr, hg⟩
      have HR2 := Lib.hid hr
      have HG2 := Lib.hid (HG1.out.trans hg)
      clear hr hg
      go_wp2_with fail
      refine (sent1_any g (u + 2 + 11) t _ (by omega) HR2.out).mono ?_
      rintro e w3 ⟨s2, rfl, hs3, hs4, hr, hg⟩
      have HP : Hid (Rd w3 g (u + 27) ∧ w.grownBy w3 (some g)) := ⟨hr.more (by omega), HG2.out.trans hg⟩
      clear hr hg
      go_wp2_with fail
      go_ret
      exact ⟨_, rfl, by simp only [ByteArray.size_append, one_size]; omega, by simp only [ByteArray.size_append, one_size]; omega, HP.out⟩
end Go.Proofs.Ytmdpolllmipppaa

namespace Go.Proofs.Ytmdpolllmipppaa
open Go.RowKit

def TextPost (g u : Nat) (w : World) (e : Ending) (w' : World) : Prop := ∃ (t : Int) (s : ByteArray), e = .returned (.tuple #[.int .i64 t, .string s]) ∧ -1 ≤ t ∧ t ≤ 4 ∧ s.size ≤ 20 ∧ Rd w' g (u + 40) ∧ w.grownBy w' (some g)
theorem lit_here {k : Int} (h0 : 0 ≤ k) (hk : k < 5) : ∃ x : ByteArray, x ∈ words5 ∧ ∀ h, [Value.string ⟨#[]⟩, .string ⟨#[99]⟩, .string ⟨#[40]⟩, .string ⟨#[38]⟩, .string ⟨#[33]⟩][k.toNat]'h = .string x := by
  have h5 : k = 0 ∨ k = 1 ∨ k = 2 ∨ k = 3 ∨ k = 4 := by omega
  rcases h5 with rfl | rfl | rfl | rfl | rfl
  · exact ⟨_, List.mem_cons_self, fun _ => rfl⟩
  · exact ⟨_, List.mem_cons_of_mem _ List.mem_cons_self, fun _ => rfl⟩
  · exact ⟨_, List.mem_cons_of_mem _ (List.mem_cons_of_mem _ List.mem_cons_self), fun _ => rfl⟩
  · exact ⟨_, List.mem_cons_of_mem _ (List.mem_cons_of_mem _ (List.mem_cons_of_mem _ List.mem_cons_self)), fun _ => rfl⟩
  · exact ⟨_, List.mem_cons_of_mem _ (List.mem_cons_of_mem _ (List.mem_cons_of_mem _ (List.mem_cons_of_mem _ List.mem_cons_self))), fun _ => rfl⟩
theorem lit_drew {w w' : World} {g : Nat} (xs : List ByteArray) {t : TypeId} (hg : (w.alloc (.cells (xs.map Value.string).toArray t)).drew.grownBy w' (some g)) (hne : g < w.heap.size) {k : Int} (h0 : 0 ≤ k) (hk : k < xs.length) :
    ∃ x : ByteArray, x ∈ xs ∧ w'.cell? ⟨w.heap.size, k.toNat, none⟩ = some (.string x) := by
  have hg' : (w.alloc (.cells (xs.map Value.string).toArray t)).grownBy w' (some g) := (grown_drewN (World.grownBy.refl _ _) 1).trans hg
  exact lit_str xs hg' hne h0 hk
theorem text_last {w w4 w' : World} {g u u' : Nat} {o : Obj} (h : w.grownBy w4 (some g)) (hr : Rd w' g u) (hg : (w4.alloc o).drew.grownBy w' (some g)) (hu : u ≤ u') : Rd w' g u' ∧ w.grownBy w' (some g) :=
  ⟨hr.more hu, (grown_drewN (grown_alloc h _) 1).trans hg⟩
theorem text_last2 {w w4 w' : World} {g u u' : Nat} (h : w.grownBy w4 (some g)) (hr : Rd w' g u) (hg : w4.drew.grownBy w' (some g)) (hu : u ≤ u') (o : Obj) : Rd (w'.alloc o) g u' ∧ w.grownBy (w'.alloc o) (some g) :=
  ⟨(hr.more hu).alloc o, grown_alloc ((grown_drewN h 1).trans hg) o⟩

set_option maxRecDepth 100000 in
set_option maxHeartbeats 4000000 in
theorem text_any (g u : Nat) (n : Int) (w : World) (hn : n ≤ 1048576) (hn0 : 0 ≤ n) (hu : u ≤ 800000) (hR : Rd w g u) :
    Calls Try.prog 50 #[.pointer (some ⟨g, 0, none⟩), .int .i64 n] w (TextPost g u w) := by
  have HR := Lib.hid hR
  have hlt := hR.lt
  clear hR
  go_enter Try.func50, Try.ntmps50
  go_wp2_with fail
  refine (things_any g u _ _ (by omega) (by omega) (by omega) HR.out).mono ?_
  rintro e w1 ⟨t, rfl, ht0, ht1, hr, hg⟩
  have hlt1 : g < w1.heap.size := hr.lt
  have HR1 := Lib.hid hr
  have HG1 := Lib.hid hg
  clear hr hg
  by_cases h3 : t = 3
  · subst h3
    go_wp2_with fail
    refine (pick_any g _ _ _ (by omega) (by omega) (by omega) HR1.out).mono ?_
    rintro e w0 ⟨k0, rfl, hk00, hk01, hr, hg⟩
    have hlt0 : g < w0.heap.size := hr.lt
    have HR0 := Lib.hid hr
    have HG0 := Lib.hid (HG1.out.trans hg)
    clear hr hg hk01
    by_cases hz : k0 = 0
    · subst hz
      go_wp2_with fail
      refine (sent2_any g _ 2 _ (by omega) HR0.out).mono ?_
      rintro e w2 ⟨s, rfl, hs1, hs2, hr, hg⟩
      have hlt2 : g < w2.heap.size := hr.lt
      have HR2 := Lib.hid hr
      have HG2 := Lib.hid (HG0.out.trans hg)
      clear hr hg
      go_wp2_with fail
      refine (odd_any g _ _ _ (by omega) (by omega) (by omega) HR2.out).mono ?_
      rintro e w3 ⟨b, rfl, hr, hg⟩
      have hlt3 : g < w3.heap.size := hr.lt
      have HR3 := Lib.hid hr
      have HG3 := Lib.hid (HG2.out.trans hg)
      clear hr hg
      cases b
      · have HP : Hid (Rd w3 g (u + 40) ∧ w.grownBy w3 (some g)) := ⟨HR3.out.more (by omega), HG3.out⟩
        go_wp2_with fail
        go_ret2
        exact ⟨2, s, rfl, by omega, by omega, by omega, HP.out⟩
      · go_wp2_with fail
        refine (pick_any g _ _ _ (by omega) (by omega) (by omega) HR3.out).mono ?_
        rintro e w4 ⟨k, rfl, hk0, hk1, hr, hg⟩
        have hkk := hk1 (by omega)
        have hlt4 : g < w4.heap.size := hr.lt
        have HR4 := Lib.hid hr
        have HG4 := Lib.hid (HG3.out.trans hg)
        clear hr hg hk1
        obtain ⟨l, hl⟩ : ∃ l, k + 1 = l := ⟨_, rfl⟩
        obtain ⟨p1, hp1⟩ : ∃ p, s.extract 0 k.toNat = p := ⟨_, rfl⟩
        obtain ⟨p2, hp2⟩ : ∃ p, s.extract l.toNat s.size = p := ⟨_, rfl⟩
        have hE1 : p1.size ≤ 13 := by rw [← hp1, ByteArray.size_extract]; omega
        have hE2 : p2.size ≤ 13 := by rw [← hp2, ByteArray.size_extract]; omega
        have HE : Hid (p1.size + p2.size ≤ 13) := by unfold Hid; rw [← hp1, ← hp2, ByteArray.size_extract, ByteArray.size_extract]; omega
        have hks : k ≤ (s.size : Int) := by omega
        have hl1 : l ≤ (s.size : Int) := by omega
        have hl0 : 0 ≤ l := by omega
        have HRd := Lib.hid (pick_any g _ 5 w4.drew (by omega) (by omega) (by omega) (HR4.out.drewN 1))
        have HRa := Lib.hid (pick_any g _ 5 (w4.alloc (.cells #[.string ⟨#[]⟩, .string ⟨#[99]⟩, .string ⟨#[40]⟩, .string ⟨#[38]⟩, .string ⟨#[33]⟩] 9)).drew (by omega) (by omega) (by omega) ((HR4.out.alloc _).drewN 1))
        have hw : IntKind.i64.wrap (k + 1) = l := (IntWalk.i64_in _ (by omega)).trans hl
        clear hl
        go_upto_region 7 with fail
        go_region_with (first
          | (go_at_call 67; (with_reducible refine HRa.out.mono ?_); rintro e w5 ⟨k5, rfl, hk50, hk51, hr, hg⟩; have hk52 := hk51 (by omega); obtain ⟨x, HX, hcell⟩ := lit_drew words5 hg hlt4 hk50 (by simp [words5]; omega); have hx1 := words5_size HX; have HP := Lib.hid (text_last (u' := u + 40) HG4.out hr hg (by omega)); clear hr hg hk51 HX)
          | (go_at_call 67; (with_reducible refine HRd.out.mono ?_); rintro e w5 ⟨k5, rfl, hk50, hk51, hr, hg⟩; have hk52 := hk51 (by omega); obtain ⟨x, HX, hcell⟩ := lit_here hk50 hk52; have hx1 := words5_size HX; have HP := Lib.hid (text_last2 (u' := u + 40) HG4.out hr hg (by omega)); clear hr hg hk51 HX))
        all_goals
          clear HRd HRa hp1 hp2 hks hl1 hl0 hw
          go_wp2_with fail
          go_ret2
          refine ⟨2, _, rfl, by omega, by omega, ?_, by first | exact HP.out | exact HP.out _⟩
          have := HE.out
          rw [ByteArray.size_append, ByteArray.size_append]
          omega
    · have hzb : (k0 == 0) = false := by rw [beq_eq_false_iff_ne]; exact hz
      clear hz
      go_wp2_with fail
      refine (sent2_any g _ 3 _ (by omega) HR0.out).mono ?_
      rintro e w2 ⟨s, rfl, hs1, hs2, hr, hg⟩
      have hlt2 : g < w2.heap.size := hr.lt
      have HR2 := Lib.hid hr
      have HG2 := Lib.hid (HG0.out.trans hg)
      clear hr hg
      go_wp2_with fail
      refine (odd_any g _ _ _ (by omega) (by omega) (by omega) HR2.out).mono ?_
      rintro e w3 ⟨b, rfl, hr, hg⟩
      have hlt3 : g < w3.heap.size := hr.lt
      have HR3 := Lib.hid hr
      have HG3 := Lib.hid (HG2.out.trans hg)
      clear hr hg
      cases b
      · have HP : Hid (Rd w3 g (u + 40) ∧ w.grownBy w3 (some g)) := ⟨HR3.out.more (by omega), HG3.out⟩
        go_wp2_with fail
        go_ret2
        exact ⟨3, s, rfl, by omega, by omega, by omega, HP.out⟩
      · go_wp2_with fail
        refine (pick_any g _ _ _ (by omega) (by omega) (by omega) HR3.out).mono ?_
        rintro e w4 ⟨k, rfl, hk0, hk1, hr, hg⟩
        have hkk := hk1 (by omega)
        have hlt4 : g < w4.heap.size := hr.lt
        have HR4 := Lib.hid hr
        have HG4 := Lib.hid (HG3.out.trans hg)
        clear hr hg hk1
        obtain ⟨l, hl⟩ : ∃ l, k + 1 = l := ⟨_, rfl⟩
        obtain ⟨p1, hp1⟩ : ∃ p, s.extract 0 k.toNat = p := ⟨_, rfl⟩
        obtain ⟨p2, hp2⟩ : ∃ p, s.extract l.toNat s.size = p := ⟨_, rfl⟩
        have hE1 : p1.size ≤ 13 := by rw [← hp1, ByteArray.size_extract]; omega
        have hE2 : p2.size ≤ 13 := by rw [← hp2, ByteArray.size_extract]; omega
        have HE : Hid (p1.size + p2.size ≤ 13) := by unfold Hid; rw [← hp1, ← hp2, ByteArray.size_extract, ByteArray.size_extract]; omega
        have hks : k ≤ (s.size : Int) := by omega
        have hl1 : l ≤ (s.size : Int) := by omega
        have hl0 : 0 ≤ l := by omega
        have HRd := Lib.hid (pick_any g _ 5 w4.drew (by omega) (by omega) (by omega) (HR4.out.drewN 1))
        have HRa := Lib.hid (pick_any g _ 5 (w4.alloc (.cells #[.string ⟨#[]⟩, .string ⟨#[99]⟩, .string ⟨#[40]⟩, .string ⟨#[38]⟩, .string ⟨#[33]⟩] 9)).drew (by omega) (by omega) (by omega) ((HR4.out.alloc _).drewN 1))
        have hw : IntKind.i64.wrap (k + 1) = l := (IntWalk.i64_in _ (by omega)).trans hl
        clear hl
        go_upto_region 7 with fail
        go_region_with (first
          | (go_at_call 67; (with_reducible refine HRa.out.mono ?_); rintro e w5 ⟨k5, rfl, hk50, hk51, hr, hg⟩; have hk52 := hk51 (by omega); obtain ⟨x, HX, hcell⟩ := lit_drew words5 hg hlt4 hk50 (by simp [words5]; omega); have hx1 := words5_size HX; have HP := Lib.hid (text_last (u' := u + 40) HG4.out hr hg (by omega)); clear hr hg hk51 HX)
          | (go_at_call 67; (with_reducible refine HRd.out.mono ?_); rintro e w5 ⟨k5, rfl, hk50, hk51, hr, hg⟩; have hk52 := hk51 (by omega); obtain ⟨x, HX, hcell⟩ := lit_here hk50 hk52; have hx1 := words5_size HX; have HP := Lib.hid (text_last2 (u' := u + 40) HG4.out hr hg (by omega)); clear hr hg hk51 HX))
        all_goals
          clear HRd HRa hp1 hp2 hks hl1 hl0 hw
          go_wp2_with fail
          go_ret2
          refine ⟨3, _, rfl, by omega, by omega, ?_, by first | exact HP.out | exact HP.out _⟩
          have := HE.out
          rw [ByteArray.size_append, ByteArray.size_append]
          omega
  · have h3b : (t == 3) = false := by rw [beq_eq_false_iff_ne]; exact h3
    go_wp2_with fail
    refine (sent2_any g _ t _ (by omega) HR1.out).mono ?_
    rintro e w2 ⟨s, rfl, hs1, hs2, hr, hg⟩
    have hlt2 : g < w2.heap.size := hr.lt
    have HR2 := Lib.hid hr
    have HG2 := Lib.hid (HG1.out.trans hg)
    clear hr hg
    go_wp2_with fail
    refine (odd_any g _ _ _ (by omega) (by omega) (by omega) HR2.out).mono ?_
    rintro e w3 ⟨b, rfl, hr, hg⟩
    have hlt3 : g < w3.heap.size := hr.lt
    have HR3 := Lib.hid hr
    have HG3 := Lib.hid (HG2.out.trans hg)
    clear hr hg
    cases b
    · have HP : Hid (Rd w3 g (u + 40) ∧ w.grownBy w3 (some g)) := ⟨HR3.out.more (by omega), HG3.out⟩
      go_wp2_with fail
      go_ret2
      exact ⟨t, s, rfl, by omega, by omega, by omega, HP.out⟩
    · go_wp2_with fail
      refine (pick_any g _ _ _ (by omega) (by omega) (by omega) HR3.out).mono ?_
      rintro e w4 ⟨k, rfl, hk0, hk1, hr, hg⟩
      have hkk := hk1 (by omega)
      have hlt4 : g < w4.heap.size := hr.lt
      have HR4 := Lib.hid hr
      have HG4 := Lib.hid (HG3.out.trans hg)
      clear hr hg hk1
      obtain ⟨l, hl⟩ : ∃ l, k + 1 = l := ⟨_, rfl⟩
      obtain ⟨p1, hp1⟩ : ∃ p, s.extract 0 k.toNat = p := ⟨_, rfl⟩
      obtain ⟨p2, hp2⟩ : ∃ p, s.extract l.toNat s.size = p := ⟨_, rfl⟩
      have hE1 : p1.size ≤ 13 := by rw [← hp1, ByteArray.size_extract]; omega
      have hE2 : p2.size ≤ 13 := by rw [← hp2, ByteArray.size_extract]; omega
      have HE : Hid (p1.size + p2.size ≤ 13) := by unfold Hid; rw [← hp1, ← hp2, ByteArray.size_extract, ByteArray.size_extract]; omega
      have hks : k ≤ (s.size : Int) := by omega
      have hl1 : l ≤ (s.size : Int) := by omega
      have hl0 : 0 ≤ l := by omega
      have HRd := Lib.hid (pick_any g _ 5 w4.drew (by omega) (by omega) (by omega) (HR4.out.drewN 1))
      have HRa := Lib.hid (pick_any g _ 5 (w4.alloc (.cells #[.string ⟨#[]⟩, .string ⟨#[99]⟩, .string ⟨#[40]⟩, .string ⟨#[38]⟩, .string ⟨#[33]⟩] 9)).drew (by omega) (by omega) (by omega) ((HR4.out.alloc _).drewN 1))
      have hw : IntKind.i64.wrap (k + 1) = l := (IntWalk.i64_in _ (by omega)).trans hl
      clear hl
      go_upto_region 7 with fail
      go_region_with (first
        | (go_at_call 67; (with_reducible refine HRa.out.mono ?_); rintro e w5 ⟨k5, rfl, hk50, hk51, hr, hg⟩; have hk52 := hk51 (by omega); obtain ⟨x, HX, hcell⟩ := lit_drew words5 hg hlt4 hk50 (by simp [words5]; omega); have hx1 := words5_size HX; have HP := Lib.hid (text_last (u' := u + 40) HG4.out hr hg (by omega)); clear hr hg hk51 HX)
        | (go_at_call 67; (with_reducible refine HRd.out.mono ?_); rintro e w5 ⟨k5, rfl, hk50, hk51, hr, hg⟩; have hk52 := hk51 (by omega); obtain ⟨x, HX, hcell⟩ := lit_here hk50 hk52; have hx1 := words5_size HX; have HP := Lib.hid (text_last2 (u' := u + 40) HG4.out hr hg (by omega)); clear hr hg hk51 HX))
      all_goals
        clear HRd HRa hp1 hp2 hks hl1 hl0 hw
        go_wp2_with fail
        go_ret2
        refine ⟨t, _, rfl, by omega, by omega, ?_, by first | exact HP.out | exact HP.out _⟩
        have := HE.out
        rw [ByteArray.size_append, ByteArray.size_append]
        omega
end Go.Proofs.Ytmdpolllmipppaa

namespace Go.Proofs.Ytmdpolllmipppaa
open Go.RowKit

def DrawT (w : World) (e : Ending) (w' : World) : Prop := ∃ (t : Int) (s : ByteArray), e = .returned (.tuple #[.int .i64 t, .string s]) ∧ -1 ≤ t ∧ t ≤ 4 ∧ s.size ≤ 20 ∧ Below w.heap.size w w'
def DrawTKS (w : World) (e : Ending) (w' : World) : Prop := ∃ (t k : Int) (s : ByteArray), e = .returned (.tuple #[.int .i64 t, .int .i64 k, .string s]) ∧ -1 ≤ t ∧ t ≤ 4 ∧ -1 ≤ k ∧ k ≤ 256 ∧ s.size ≤ 20 ∧ Below w.heap.size w w'
def DrawTSS (w : World) (e : Ending) (w' : World) : Prop := ∃ (t : Int) (s u : ByteArray), e = .returned (.tuple #[.int .i64 t, .string s, .string u]) ∧ -1 ≤ t ∧ t ≤ 4 ∧ s.size ≤ 28 ∧ u.size ≤ 28 ∧ Below w.heap.size w w'

set_option maxHeartbeats 1000000 in
theorem drawIssueOf_any (A : Option Addr) (nn c : Nat) (zs : List Int) (w : World) (hn : nn = zs.length) (hc : nn ≤ c) (hm : c ≤ maxLen) (hr : ∀ z ∈ zs, 0 ≤ z ∧ z ≤ 255) (hA : Nums .u8 w A zs) :
    Calls Try.prog 15 #[.slice A nn c] w (DrawT w) := by
  have HO := Lib.hid (open_any A nn c zs w hn hc hm hr hA)
  clear hn hc hm hr hA
  go_enter Try.func15, Try.ntmps15
  go_wp2_with fail
  refine HO.out.mono ?_
  rintro e w1 ⟨rfl, hrd, hb⟩
  have HR := Lib.hid hrd
  have HB := Lib.hid hb
  clear hrd hb
  go_wp2_with fail
  refine (text_any _ 0 _ _ (by omega) (by omega) (by omega) HR.out).mono ?_
  rintro e w2 ⟨t, s, rfl, ht0, ht1, hs, _, hg⟩
  have HB2 := Lib.hid (below_grown HB.out hg HB.out.size (Nat.le_refl _))
  clear hg
  go_wp2_with fail
  go_ret2
  exact ⟨t, s, rfl, ht0, ht1, hs, HB2.out⟩

set_option maxHeartbeats 1000000 in
theorem drawPlainOk_any (A : Option Addr) (nn c : Nat) (zs : List Int) (w : World) (hn : nn = zs.length) (hc : nn ≤ c) (hm : c ≤ maxLen) (hr : ∀ z ∈ zs, 0 ≤ z ∧ z ≤ 255) (hA : Nums .u8 w A zs) :
    Calls Try.prog 33 #[.slice A nn c] w (DrawT w) := by
  have HO := Lib.hid (open_any A nn c zs w hn hc hm hr hA)
  clear hn hc hm hr hA
  go_enter Try.func33, Try.ntmps33
  go_wp2_with fail
  refine HO.out.mono ?_
  rintro e w1 ⟨rfl, hrd, hb⟩
  have HR := Lib.hid hrd
  have HB := Lib.hid hb
  clear hrd hb
  go_wp2_with fail
  refine (text_any _ 0 _ _ (by omega) (by omega) (by omega) HR.out).mono ?_
  rintro e w2 ⟨t, s, rfl, ht0, ht1, hs, _, hg⟩
  have HB2 := Lib.hid (below_grown HB.out hg HB.out.size (Nat.le_refl _))
  clear hg
  go_wp2_with fail
  go_ret2
  exact ⟨t, s, rfl, ht0, ht1, hs, HB2.out⟩

set_option maxHeartbeats 1000000 in
theorem drawTrueIn_any (A : Option Addr) (nn c : Nat) (zs : List Int) (w : World) (hn : nn = zs.length) (hc : nn ≤ c) (hm : c ≤ maxLen) (hr : ∀ z ∈ zs, 0 ≤ z ∧ z ≤ 255) (hA : Nums .u8 w A zs) :
    Calls Try.prog 37 #[.slice A nn c] w (DrawT w) := by
  have HO := Lib.hid (open_any A nn c zs w hn hc hm hr hA)
  clear hn hc hm hr hA
  go_enter Try.func37, Try.ntmps37
  go_wp2_with fail
  refine HO.out.mono ?_
  rintro e w1 ⟨rfl, hrd, hb⟩
  have HR := Lib.hid hrd
  have HB := Lib.hid hb
  clear hrd hb
  go_wp2_with fail
  refine (text_any _ 0 _ _ (by omega) (by omega) (by omega) HR.out).mono ?_
  rintro e w2 ⟨t, s, rfl, ht0, ht1, hs, _, hg⟩
  have HB2 := Lib.hid (below_grown HB.out hg HB.out.size (Nat.le_refl _))
  clear hg
  go_wp2_with fail
  go_ret2
  exact ⟨t, s, rfl, ht0, ht1, hs, HB2.out⟩

set_option maxHeartbeats 1000000 in
theorem drawSupports_any (A : Option Addr) (nn c : Nat) (zs : List Int) (w : World) (hn : nn = zs.length) (hc : nn ≤ c) (hm : c ≤ maxLen) (hr : ∀ z ∈ zs, 0 ≤ z ∧ z ≤ 255) (hA : Nums .u8 w A zs) :
    Calls Try.prog 27 #[.slice A nn c] w (DrawTKS w) := by
  have HO := Lib.hid (open_any A nn c zs w hn hc hm hr hA)
  clear hn hc hm hr hA
  go_enter Try.func27, Try.ntmps27
  go_wp2_with fail
  refine HO.out.mono ?_
  rintro e w1 ⟨rfl, hrd, hb⟩
  have HR := Lib.hid hrd
  have HB := Lib.hid hb
  clear hrd hb
  go_wp2_with fail
  refine (text_any _ 0 _ _ (by omega) (by omega) (by omega) HR.out).mono ?_
  rintro e w2 ⟨t, s, rfl, ht0, ht1, hs, hr, hg⟩
  have HR2 := Lib.hid hr
  have HB2 := Lib.hid (below_grown HB.out hg HB.out.size (Nat.le_refl _))
  clear hg hr
  go_wp2_with fail
  refine (set_any _ _ _ _ _ (by omega) (by omega) (by omega) HR2.out).mono ?_
  rintro e w3 ⟨k, rfl, hs0, hs1, _, hg⟩
  have HB3 := Lib.hid (below_grown HB2.out hg HB2.out.size (Nat.le_refl _))
  clear hg
  go_wp2_with fail
  go_ret3
  exact ⟨t, k, s, rfl, ht0, ht1, hs0, hs1, hs, HB3.out⟩

set_option maxHeartbeats 2000000 in
theorem drawEntailsOf_any (A : Option Addr) (nn c : Nat) (zs : List Int) (w : World) (hn : nn = zs.length) (hc : nn ≤ c) (hm : c ≤ maxLen) (hr : ∀ z ∈ zs, 0 ≤ z ∧ z ≤ 255) (hA : Nums .u8 w A zs) :
    Calls Try.prog 39 #[.slice A nn c] w (DrawTSS w) := by
  have HO := Lib.hid (open_any A nn c zs w hn hc hm hr hA)
  clear hn hc hm hr hA
  go_enter Try.func39, Try.ntmps39
  go_wp2_with fail
  refine HO.out.mono ?_
  rintro e w1 ⟨rfl, hrd, hb⟩
  have HR := Lib.hid hrd
  have HB := Lib.hid hb
  clear hrd hb
  go_wp2_with fail
  refine (text_any _ 0 _ _ (by omega) (by omega) (by omega) HR.out).mono ?_
  rintro e w2 ⟨t, s, rfl, ht0, ht1, hs, hr, hg⟩
  have HR2 := Lib.hid hr
  have HB2 := Lib.hid (below_grown HB.out hg HB.out.size (Nat.le_refl _))
  clear hg hr
  go_wp2_with fail
  refine (pick_any _ _ _ _ (by omega) (by omega) (by omega) HR2.out).mono ?_
  rintro e w3 ⟨k, rfl, hk0, hk1, hr, hg⟩
  have HR3 := Lib.hid hr
  have HB3 := Lib.hid (below_grown HB2.out hg HB2.out.size (Nat.le_refl _))
  clear hg hr hk1
  by_cases hz : k = 0
  · subst hz
    go_wp2_with fail
    refine (sent1_any _ _ _ _ (by omega) HR3.out).mono ?_
    rintro e w4 ⟨u, rfl, hu1, hu2, _, hg⟩
    have HB4 := Lib.hid (below_grown HB3.out hg HB3.out.size (Nat.le_refl _))
    clear hg
    go_wp2_with fail
    go_ret3
    exact ⟨t, _, s, rfl, ht0, ht1, by simp only [ByteArray.size_append, one_size]; omega, by omega, HB4.out⟩
  · have hzb : (k == 0) = false := by rw [beq_eq_false_iff_ne]; exact hz
    clear hz
    go_wp2_with fail
    refine (sent2_any _ _ _ _ (by omega) HR3.out).mono ?_
    rintro e w4 ⟨u, rfl, hu1, hu2, _, hg⟩
    have HB4 := Lib.hid (below_grown HB3.out hg HB3.out.size (Nat.le_refl _))
    clear hg
    go_wp2_with fail
    go_ret3
    exact ⟨t, s, u, rfl, ht0, ht1, by omega, by omega, HB4.out⟩
end Go.Proofs.Ytmdpolllmipppaa
