/-
  What the proofs of this seat's statements share (Shp, Shq, Spc).
-/
import Derived.Test.YtmdogidflaplkaaU15
import Derived.Test.YtmdogidflaplkaaU14

namespace Go.Proofs.Ytmdogidflaplkaa
open Go.RowKit

def HoldsAt (t : Int) (s : ByteArray) (at_ : Nat) (x : Sen) (rest : List Nat) : Prop := ∀ (m : Nat) W, (m : Int) ≤ allOf t → Calls Try.prog 71 #[.int .i64 t, .string s, .int .i64 at_, .int .i64 m] W (SHold t s x rest m W)
theorem two_pow_cast (k : Nat) : (2 : Int) ^ k = ((2 ^ k : Nat) : Int) := by push_cast; rfl
theorem wrap_pow {k : Nat} (h : k < 8) : wrap64 ((2 : Int) ^ k) = ((2 ^ k : Nat) : Int) := by
  have : 2 ^ k ≤ 2 ^ 7 := Nat.pow_le_pow_right (by omega) (by omega)
  rw [two_pow_cast]
  obtain ⟨p, hp⟩ : ∃ p, 2 ^ k = p := ⟨_, rfl⟩
  rw [hp] at this ⊢
  exact IntWalk.wrap64_in _ ⟨by omega, by omega⟩
def NoneF (t : Int) (x : Sen) (m : Nat) (w : Nat) : Bool := !hasW (m : Int) w || !holdsS t x (worldS w)
theorem no_all (t : Int) (x : Sen) (m : Nat) : holdsS t (.no x) m = allTo (NoneF t x m) (nWorlds t) := rfl
theorem ask_all (t : Int) (x : Sen) (m : Nat) : holdsS t (.ask x) m = (holdsS t x m || allTo (NoneF t x m) (nWorlds t)) := rfl


set_option maxRecDepth 100000 in
set_option maxHeartbeats 8000000 in
theorem sHo_no (t : Int) (s : ByteArray) (at_ m : Nat) (w : World) (hs : s.size ≤ 1048576) (hat : at_ < s.size) (hc : s[at_].toNat = 33) (h1 : 1 ≤ t) (h3 : t ≤ 3) (hm : (m : Int) ≤ allOf t) (x : Sen) (rest : List Nat) (hi : HoldsAt t s (at_ + 1) x rest) :
    Calls Try.prog 71 #[.int .i64 t, .string s, .int .i64 at_, .int .i64 m] w (SHold t s (.no x) rest m w) := by
  have hd : (at_ : Int) < (s.size : Int) := by omega
  have hd0 : (0 : Int) ≤ (at_ : Int) := by omega
  have HF := Lib.hid (no_all t x m)
  have HI := Lib.hid hi
  have HM := Lib.hid hm
  have hm256 : m < 256 := by have := (allOf_lt t).2; omega
  obtain ⟨F, HFF⟩ : ∃ F : Nat → Bool, Hid (NoneF t x m = F) := ⟨_, rfl⟩
  rw [HFF.out] at HF
  have HS := Lib.hid (allTo_succ F)
  obtain ⟨hx, HX⟩ : ∃ b, Hid (holdsS t x m = b) := ⟨_, rfl⟩
  have h : t = 1 ∨ t = 2 ∨ t = 3 := by omega
  clear h1 h3 hm hi
  rcases h with rfl | rfl | rfl
  · go_enter Try.func71, Try.ntmps71
    go_wp2_with fail
    refine (HI.out m _ HM.out).mono ?_
    rintro e w1 ⟨a2, rfl, ha2, hd2, q, rfl⟩
    rw [HX.out]
    have HD2 := Lib.hid hd2
    clear hd2
    go_wp2_with fail
    go_loopw [14, 15] (fun v i wr => ∃ k : Nat, k ≤ 2 ∧ i = .int .i64 k ∧ v = .bool (allTo F k) ∧ ∃ q, wr = w.drewN q) (fun _ i _ => 2 - (Go.RowKit.intOf i).toNat)
    case atStart => exact ⟨0, Nat.zero_le _, rfl, rfl, q, rfl⟩
    case round =>
      obtain ⟨k, hk, rfl, rfl, q', rfl⟩ := hrel
      by_cases hlt : k < 2
      · have HK := Lib.hid (HS.out k)
        have HW := Lib.hid (congrFun HFF.out k)
        obtain ⟨y, HY⟩ : ∃ y, Hid (allTo F k = y) := ⟨_, rfl⟩
        obtain ⟨hb, HHB⟩ : ∃ y, Hid (hasW (m : Int) k = y) := ⟨_, rfl⟩
        obtain ⟨hy, HHY⟩ : ∃ y, Hid (holdsS 1 x (worldS k) = y) := ⟨_, rfl⟩
        have hwk := has_walk HHB.out
        have HC : Hid (∀ W, Calls Try.prog 71 #[.int .i64 1, .string s, .int .i64 ((at_ + 1 : Nat) : Int), .int .i64 (wrap64 ((2 : Int) ^ k))] W (SHold 1 s x rest (2 ^ k) W)) := fun W => by
          rw [wrap_pow (by omega)]; exact HI.out (2 ^ k) W (world_ok (t := 1) (by omega) (by omega) (w := k) hlt).2
        have HHZ : Hid (holdsS 1 x ((2 ^ k : Nat) : Int) = hy) := HHY.out
        rw [HY.out]
        clear hk
        cases y
        · clear hwk
          go_wp2_with fail
          refine (HC.out _).mono ?_
          rintro e w2 ⟨a3, rfl, _, _, q3, rfl⟩
          rw [HHZ.out]
          go_wp2_with fail
          refine ⟨⟨k + 1, by omega, by go_num, by rw [HK.out, HY.out]; rfl, _, rfl⟩, ?_⟩
          simp [Go.RowKit.intOf]; omega
        · cases hb
          · have hwk : (((m : Int) / 2 ^ k).tmod 2 == 0) = true := hwk
            go_wp2_with fail
            refine (HC.out _).mono ?_
            rintro e w2 ⟨a3, rfl, _, _, q3, rfl⟩
            rw [HHZ.out]
            go_wp2_with fail
            refine ⟨⟨k + 1, by omega, by go_num, by rw [HK.out, HY.out, ← HW.out, NoneF, HHB.out]; rfl, _, rfl⟩, ?_⟩
            simp [Go.RowKit.intOf]; omega
          · have hwk : (((m : Int) / 2 ^ k).tmod 2 == 0) = false := hwk
            have hnot : ∀ (x : Bool) (w : World), (Op.unary .not (.bool x)).run Try.prog w = .ok (.bool (!x)) w := fun _ _ => rfl
            go_wp2_with fail
            refine (HC.out _).mono ?_
            rintro e w2 ⟨a3, rfl, _, _, q3, rfl⟩
            rw [HHZ.out]
            go_wp2_with fail
            refine ⟨⟨k + 1, by omega, by go_num, by rw [HK.out, HY.out, ← HW.out, NoneF, HHB.out, HHY.out]; rfl, _, rfl⟩, ?_⟩
            simp [Go.RowKit.intOf]; omega
      · obtain rfl : k = 2 := by omega
        have HFM : Hid (allTo F (nWorlds 1) = allTo F 2) := rfl
        obtain ⟨y, HY⟩ : ∃ y, Hid (allTo F 2 = y) := ⟨_, rfl⟩
        rw [HY.out] at HFM ⊢
        cases hx
        all_goals
          go_wp2_with fail
          go_ret2
          exact ⟨a2, by rw [HF.out, HFM.out]; first | rfl | (rw [HX.out]; rfl), ha2, HD2.out, _, rfl⟩
  · go_enter Try.func71, Try.ntmps71
    go_wp2_with fail
    refine (HI.out m _ HM.out).mono ?_
    rintro e w1 ⟨a2, rfl, ha2, hd2, q, rfl⟩
    rw [HX.out]
    have HD2 := Lib.hid hd2
    clear hd2
    go_wp2_with fail
    go_loopw [14, 15] (fun v i wr => ∃ k : Nat, k ≤ 4 ∧ i = .int .i64 k ∧ v = .bool (allTo F k) ∧ ∃ q, wr = w.drewN q) (fun _ i _ => 4 - (Go.RowKit.intOf i).toNat)
    case atStart => exact ⟨0, Nat.zero_le _, rfl, rfl, q, rfl⟩
    case round =>
      obtain ⟨k, hk, rfl, rfl, q', rfl⟩ := hrel
      by_cases hlt : k < 4
      · have HK := Lib.hid (HS.out k)
        have HW := Lib.hid (congrFun HFF.out k)
        obtain ⟨y, HY⟩ : ∃ y, Hid (allTo F k = y) := ⟨_, rfl⟩
        obtain ⟨hb, HHB⟩ : ∃ y, Hid (hasW (m : Int) k = y) := ⟨_, rfl⟩
        obtain ⟨hy, HHY⟩ : ∃ y, Hid (holdsS 2 x (worldS k) = y) := ⟨_, rfl⟩
        have hwk := has_walk HHB.out
        have HC : Hid (∀ W, Calls Try.prog 71 #[.int .i64 2, .string s, .int .i64 ((at_ + 1 : Nat) : Int), .int .i64 (wrap64 ((2 : Int) ^ k))] W (SHold 2 s x rest (2 ^ k) W)) := fun W => by
          rw [wrap_pow (by omega)]; exact HI.out (2 ^ k) W (world_ok (t := 2) (by omega) (by omega) (w := k) hlt).2
        have HHZ : Hid (holdsS 2 x ((2 ^ k : Nat) : Int) = hy) := HHY.out
        rw [HY.out]
        clear hk
        cases y
        · clear hwk
          go_wp2_with fail
          refine (HC.out _).mono ?_
          rintro e w2 ⟨a3, rfl, _, _, q3, rfl⟩
          rw [HHZ.out]
          go_wp2_with fail
          refine ⟨⟨k + 1, by omega, by go_num, by rw [HK.out, HY.out]; rfl, _, rfl⟩, ?_⟩
          simp [Go.RowKit.intOf]; omega
        · cases hb
          · have hwk : (((m : Int) / 2 ^ k).tmod 2 == 0) = true := hwk
            go_wp2_with fail
            refine (HC.out _).mono ?_
            rintro e w2 ⟨a3, rfl, _, _, q3, rfl⟩
            rw [HHZ.out]
            go_wp2_with fail
            refine ⟨⟨k + 1, by omega, by go_num, by rw [HK.out, HY.out, ← HW.out, NoneF, HHB.out]; rfl, _, rfl⟩, ?_⟩
            simp [Go.RowKit.intOf]; omega
          · have hwk : (((m : Int) / 2 ^ k).tmod 2 == 0) = false := hwk
            have hnot : ∀ (x : Bool) (w : World), (Op.unary .not (.bool x)).run Try.prog w = .ok (.bool (!x)) w := fun _ _ => rfl
            go_wp2_with fail
            refine (HC.out _).mono ?_
            rintro e w2 ⟨a3, rfl, _, _, q3, rfl⟩
            rw [HHZ.out]
            go_wp2_with fail
            refine ⟨⟨k + 1, by omega, by go_num, by rw [HK.out, HY.out, ← HW.out, NoneF, HHB.out, HHY.out]; rfl, _, rfl⟩, ?_⟩
            simp [Go.RowKit.intOf]; omega
      · obtain rfl : k = 4 := by omega
        have HFM : Hid (allTo F (nWorlds 2) = allTo F 4) := rfl
        obtain ⟨y, HY⟩ : ∃ y, Hid (allTo F 4 = y) := ⟨_, rfl⟩
        rw [HY.out] at HFM ⊢
        cases hx
        all_goals
          go_wp2_with fail
          go_ret2
          exact ⟨a2, by rw [HF.out, HFM.out]; first | rfl | (rw [HX.out]; rfl), ha2, HD2.out, _, rfl⟩
  · go_enter Try.func71, Try.ntmps71
    go_wp2_with fail
    refine (HI.out m _ HM.out).mono ?_
    rintro e w1 ⟨a2, rfl, ha2, hd2, q, rfl⟩
    rw [HX.out]
    have HD2 := Lib.hid hd2
    clear hd2
    go_wp2_with fail
    go_loopw [14, 15] (fun v i wr => ∃ k : Nat, k ≤ 8 ∧ i = .int .i64 k ∧ v = .bool (allTo F k) ∧ ∃ q, wr = w.drewN q) (fun _ i _ => 8 - (Go.RowKit.intOf i).toNat)
    case atStart => exact ⟨0, Nat.zero_le _, rfl, rfl, q, rfl⟩
    case round =>
      obtain ⟨k, hk, rfl, rfl, q', rfl⟩ := hrel
      by_cases hlt : k < 8
      · have HK := Lib.hid (HS.out k)
        have HW := Lib.hid (congrFun HFF.out k)
        obtain ⟨y, HY⟩ : ∃ y, Hid (allTo F k = y) := ⟨_, rfl⟩
        obtain ⟨hb, HHB⟩ : ∃ y, Hid (hasW (m : Int) k = y) := ⟨_, rfl⟩
        obtain ⟨hy, HHY⟩ : ∃ y, Hid (holdsS 3 x (worldS k) = y) := ⟨_, rfl⟩
        have hwk := has_walk HHB.out
        have HC : Hid (∀ W, Calls Try.prog 71 #[.int .i64 3, .string s, .int .i64 ((at_ + 1 : Nat) : Int), .int .i64 (wrap64 ((2 : Int) ^ k))] W (SHold 3 s x rest (2 ^ k) W)) := fun W => by
          rw [wrap_pow (by omega)]; exact HI.out (2 ^ k) W (world_ok (t := 3) (by omega) (by omega) (w := k) hlt).2
        have HHZ : Hid (holdsS 3 x ((2 ^ k : Nat) : Int) = hy) := HHY.out
        rw [HY.out]
        clear hk
        cases y
        · clear hwk
          go_wp2_with fail
          refine (HC.out _).mono ?_
          rintro e w2 ⟨a3, rfl, _, _, q3, rfl⟩
          rw [HHZ.out]
          go_wp2_with fail
          refine ⟨⟨k + 1, by omega, by go_num, by rw [HK.out, HY.out]; rfl, _, rfl⟩, ?_⟩
          simp [Go.RowKit.intOf]; omega
        · cases hb
          · have hwk : (((m : Int) / 2 ^ k).tmod 2 == 0) = true := hwk
            go_wp2_with fail
            refine (HC.out _).mono ?_
            rintro e w2 ⟨a3, rfl, _, _, q3, rfl⟩
            rw [HHZ.out]
            go_wp2_with fail
            refine ⟨⟨k + 1, by omega, by go_num, by rw [HK.out, HY.out, ← HW.out, NoneF, HHB.out]; rfl, _, rfl⟩, ?_⟩
            simp [Go.RowKit.intOf]; omega
          · have hwk : (((m : Int) / 2 ^ k).tmod 2 == 0) = false := hwk
            have hnot : ∀ (x : Bool) (w : World), (Op.unary .not (.bool x)).run Try.prog w = .ok (.bool (!x)) w := fun _ _ => rfl
            go_wp2_with fail
            refine (HC.out _).mono ?_
            rintro e w2 ⟨a3, rfl, _, _, q3, rfl⟩
            rw [HHZ.out]
            go_wp2_with fail
            refine ⟨⟨k + 1, by omega, by go_num, by rw [HK.out, HY.out, ← HW.out, NoneF, HHB.out, HHY.out]; rfl, _, rfl⟩, ?_⟩
            simp [Go.RowKit.intOf]; omega
      · obtain rfl : k = 8 := by omega
        have HFM : Hid (allTo F (nWorlds 3) = allTo F 8) := rfl
        obtain ⟨y, HY⟩ : ∃ y, Hid (allTo F 8 = y) := ⟨_, rfl⟩
        rw [HY.out] at HFM ⊢
        cases hx
        all_goals
          go_wp2_with fail
          go_ret2
          exact ⟨a2, by rw [HF.out, HFM.out]; first | rfl | (rw [HX.out]; rfl), ha2, HD2.out, _, rfl⟩
set_option maxRecDepth 100000 in
set_option maxHeartbeats 8000000 in
theorem sHo_ask (t : Int) (s : ByteArray) (at_ m : Nat) (w : World) (hs : s.size ≤ 1048576) (hat : at_ < s.size) (hc : s[at_].toNat = 63) (h1 : 1 ≤ t) (h3 : t ≤ 3) (hm : (m : Int) ≤ allOf t) (x : Sen) (rest : List Nat) (hi : HoldsAt t s (at_ + 1) x rest) :
    Calls Try.prog 71 #[.int .i64 t, .string s, .int .i64 at_, .int .i64 m] w (SHold t s (.ask x) rest m w) := by
  have hd : (at_ : Int) < (s.size : Int) := by omega
  have hd0 : (0 : Int) ≤ (at_ : Int) := by omega
  have HF := Lib.hid (ask_all t x m)
  have HI := Lib.hid hi
  have HM := Lib.hid hm
  have hm256 : m < 256 := by have := (allOf_lt t).2; omega
  obtain ⟨F, HFF⟩ : ∃ F : Nat → Bool, Hid (NoneF t x m = F) := ⟨_, rfl⟩
  rw [HFF.out] at HF
  have HS := Lib.hid (allTo_succ F)
  obtain ⟨hx, HX⟩ : ∃ b, Hid (holdsS t x m = b) := ⟨_, rfl⟩
  have h : t = 1 ∨ t = 2 ∨ t = 3 := by omega
  clear h1 h3 hm hi
  rcases h with rfl | rfl | rfl
  · go_enter Try.func71, Try.ntmps71
    go_wp2_with fail
    refine (HI.out m _ HM.out).mono ?_
    rintro e w1 ⟨a2, rfl, ha2, hd2, q, rfl⟩
    rw [HX.out]
    have HD2 := Lib.hid hd2
    clear hd2
    go_wp2_with fail
    go_loopw [14, 15] (fun v i wr => ∃ k : Nat, k ≤ 2 ∧ i = .int .i64 k ∧ v = .bool (allTo F k) ∧ ∃ q, wr = w.drewN q) (fun _ i _ => 2 - (Go.RowKit.intOf i).toNat)
    case atStart => exact ⟨0, Nat.zero_le _, rfl, rfl, q, rfl⟩
    case round =>
      obtain ⟨k, hk, rfl, rfl, q', rfl⟩ := hrel
      by_cases hlt : k < 2
      · have HK := Lib.hid (HS.out k)
        have HW := Lib.hid (congrFun HFF.out k)
        obtain ⟨y, HY⟩ : ∃ y, Hid (allTo F k = y) := ⟨_, rfl⟩
        obtain ⟨hb, HHB⟩ : ∃ y, Hid (hasW (m : Int) k = y) := ⟨_, rfl⟩
        obtain ⟨hy, HHY⟩ : ∃ y, Hid (holdsS 1 x (worldS k) = y) := ⟨_, rfl⟩
        have hwk := has_walk HHB.out
        have HC : Hid (∀ W, Calls Try.prog 71 #[.int .i64 1, .string s, .int .i64 ((at_ + 1 : Nat) : Int), .int .i64 (wrap64 ((2 : Int) ^ k))] W (SHold 1 s x rest (2 ^ k) W)) := fun W => by
          rw [wrap_pow (by omega)]; exact HI.out (2 ^ k) W (world_ok (t := 1) (by omega) (by omega) (w := k) hlt).2
        have HHZ : Hid (holdsS 1 x ((2 ^ k : Nat) : Int) = hy) := HHY.out
        rw [HY.out]
        clear hk
        cases y
        · clear hwk
          go_wp2_with fail
          refine (HC.out _).mono ?_
          rintro e w2 ⟨a3, rfl, _, _, q3, rfl⟩
          rw [HHZ.out]
          go_wp2_with fail
          refine ⟨⟨k + 1, by omega, by go_num, by rw [HK.out, HY.out]; rfl, _, rfl⟩, ?_⟩
          simp [Go.RowKit.intOf]; omega
        · cases hb
          · have hwk : (((m : Int) / 2 ^ k).tmod 2 == 0) = true := hwk
            go_wp2_with fail
            refine (HC.out _).mono ?_
            rintro e w2 ⟨a3, rfl, _, _, q3, rfl⟩
            rw [HHZ.out]
            go_wp2_with fail
            refine ⟨⟨k + 1, by omega, by go_num, by rw [HK.out, HY.out, ← HW.out, NoneF, HHB.out]; rfl, _, rfl⟩, ?_⟩
            simp [Go.RowKit.intOf]; omega
          · have hwk : (((m : Int) / 2 ^ k).tmod 2 == 0) = false := hwk
            have hnot : ∀ (x : Bool) (w : World), (Op.unary .not (.bool x)).run Try.prog w = .ok (.bool (!x)) w := fun _ _ => rfl
            go_wp2_with fail
            refine (HC.out _).mono ?_
            rintro e w2 ⟨a3, rfl, _, _, q3, rfl⟩
            rw [HHZ.out]
            go_wp2_with fail
            refine ⟨⟨k + 1, by omega, by go_num, by rw [HK.out, HY.out, ← HW.out, NoneF, HHB.out, HHY.out]; rfl, _, rfl⟩, ?_⟩
            simp [Go.RowKit.intOf]; omega
      · obtain rfl : k = 2 := by omega
        have HFM : Hid (allTo F (nWorlds 1) = allTo F 2) := rfl
        obtain ⟨y, HY⟩ : ∃ y, Hid (allTo F 2 = y) := ⟨_, rfl⟩
        rw [HY.out] at HFM ⊢
        cases hx
        all_goals
          go_wp2_with fail
          go_ret2
          exact ⟨a2, by rw [HF.out, HFM.out]; first | rfl | (rw [HX.out]; rfl), ha2, HD2.out, _, rfl⟩
  · go_enter Try.func71, Try.ntmps71
    go_wp2_with fail
    refine (HI.out m _ HM.out).mono ?_
    rintro e w1 ⟨a2, rfl, ha2, hd2, q, rfl⟩
    rw [HX.out]
    have HD2 := Lib.hid hd2
    clear hd2
    go_wp2_with fail
    go_loopw [14, 15] (fun v i wr => ∃ k : Nat, k ≤ 4 ∧ i = .int .i64 k ∧ v = .bool (allTo F k) ∧ ∃ q, wr = w.drewN q) (fun _ i _ => 4 - (Go.RowKit.intOf i).toNat)
    case atStart => exact ⟨0, Nat.zero_le _, rfl, rfl, q, rfl⟩
    case round =>
      obtain ⟨k, hk, rfl, rfl, q', rfl⟩ := hrel
      by_cases hlt : k < 4
      · have HK := Lib.hid (HS.out k)
        have HW := Lib.hid (congrFun HFF.out k)
        obtain ⟨y, HY⟩ : ∃ y, Hid (allTo F k = y) := ⟨_, rfl⟩
        obtain ⟨hb, HHB⟩ : ∃ y, Hid (hasW (m : Int) k = y) := ⟨_, rfl⟩
        obtain ⟨hy, HHY⟩ : ∃ y, Hid (holdsS 2 x (worldS k) = y) := ⟨_, rfl⟩
        have hwk := has_walk HHB.out
        have HC : Hid (∀ W, Calls Try.prog 71 #[.int .i64 2, .string s, .int .i64 ((at_ + 1 : Nat) : Int), .int .i64 (wrap64 ((2 : Int) ^ k))] W (SHold 2 s x rest (2 ^ k) W)) := fun W => by
          rw [wrap_pow (by omega)]; exact HI.out (2 ^ k) W (world_ok (t := 2) (by omega) (by omega) (w := k) hlt).2
        have HHZ : Hid (holdsS 2 x ((2 ^ k : Nat) : Int) = hy) := HHY.out
        rw [HY.out]
        clear hk
        cases y
        · clear hwk
          go_wp2_with fail
          refine (HC.out _).mono ?_
          rintro e w2 ⟨a3, rfl, _, _, q3, rfl⟩
          rw [HHZ.out]
          go_wp2_with fail
          refine ⟨⟨k + 1, by omega, by go_num, by rw [HK.out, HY.out]; rfl, _, rfl⟩, ?_⟩
          simp [Go.RowKit.intOf]; omega
        · cases hb
          · have hwk : (((m : Int) / 2 ^ k).tmod 2 == 0) = true := hwk
            go_wp2_with fail
            refine (HC.out _).mono ?_
            rintro e w2 ⟨a3, rfl, _, _, q3, rfl⟩
            rw [HHZ.out]
            go_wp2_with fail
            refine ⟨⟨k + 1, by omega, by go_num, by rw [HK.out, HY.out, ← HW.out, NoneF, HHB.out]; rfl, _, rfl⟩, ?_⟩
            simp [Go.RowKit.intOf]; omega
          · have hwk : (((m : Int) / 2 ^ k).tmod 2 == 0) = false := hwk
            have hnot : ∀ (x : Bool) (w : World), (Op.unary .not (.bool x)).run Try.prog w = .ok (.bool (!x)) w := fun _ _ => rfl
            go_wp2_with fail
            refine (HC.out _).mono ?_
            rintro e w2 ⟨a3, rfl, _, _, q3, rfl⟩
            rw [HHZ.out]
            go_wp2_with fail
            refine ⟨⟨k + 1, by omega, by go_num, by rw [HK.out, HY.out, ← HW.out, NoneF, HHB.out, HHY.out]; rfl, _, rfl⟩, ?_⟩
            simp [Go.RowKit.intOf]; omega
      · obtain rfl : k = 4 := by omega
        have HFM : Hid (allTo F (nWorlds 2) = allTo F 4) := rfl
        obtain ⟨y, HY⟩ : ∃ y, Hid (allTo F 4 = y) := ⟨_, rfl⟩
        rw [HY.out] at HFM ⊢
        cases hx
        all_goals
          go_wp2_with fail
          go_ret2
          exact ⟨a2, by rw [HF.out, HFM.out]; first | rfl | (rw [HX.out]; rfl), ha2, HD2.out, _, rfl⟩
  · go_enter Try.func71, Try.ntmps71
    go_wp2_with fail
    refine (HI.out m _ HM.out).mono ?_
    rintro e w1 ⟨a2, rfl, ha2, hd2, q, rfl⟩
    rw [HX.out]
    have HD2 := Lib.hid hd2
    clear hd2
    go_wp2_with fail
    go_loopw [14, 15] (fun v i wr => ∃ k : Nat, k ≤ 8 ∧ i = .int .i64 k ∧ v = .bool (allTo F k) ∧ ∃ q, wr = w.drewN q) (fun _ i _ => 8 - (Go.RowKit.intOf i).toNat)
    case atStart => exact ⟨0, Nat.zero_le _, rfl, rfl, q, rfl⟩
    case round =>
      obtain ⟨k, hk, rfl, rfl, q', rfl⟩ := hrel
      by_cases hlt : k < 8
      · have HK := Lib.hid (HS.out k)
        have HW := Lib.hid (congrFun HFF.out k)
        obtain ⟨y, HY⟩ : ∃ y, Hid (allTo F k = y) := ⟨_, rfl⟩
        obtain ⟨hb, HHB⟩ : ∃ y, Hid (hasW (m : Int) k = y) := ⟨_, rfl⟩
        obtain ⟨hy, HHY⟩ : ∃ y, Hid (holdsS 3 x (worldS k) = y) := ⟨_, rfl⟩
        have hwk := has_walk HHB.out
        have HC : Hid (∀ W, Calls Try.prog 71 #[.int .i64 3, .string s, .int .i64 ((at_ + 1 : Nat) : Int), .int .i64 (wrap64 ((2 : Int) ^ k))] W (SHold 3 s x rest (2 ^ k) W)) := fun W => by
          rw [wrap_pow (by omega)]; exact HI.out (2 ^ k) W (world_ok (t := 3) (by omega) (by omega) (w := k) hlt).2
        have HHZ : Hid (holdsS 3 x ((2 ^ k : Nat) : Int) = hy) := HHY.out
        rw [HY.out]
        clear hk
        cases y
        · clear hwk
          go_wp2_with fail
          refine (HC.out _).mono ?_
          rintro e w2 ⟨a3, rfl, _, _, q3, rfl⟩
          rw [HHZ.out]
          go_wp2_with fail
          refine ⟨⟨k + 1, by omega, by go_num, by rw [HK.out, HY.out]; rfl, _, rfl⟩, ?_⟩
          simp [Go.RowKit.intOf]; omega
        · cases hb
          · have hwk : (((m : Int) / 2 ^ k).tmod 2 == 0) = true := hwk
            go_wp2_with fail
            refine (HC.out _).mono ?_
            rintro e w2 ⟨a3, rfl, _, _, q3, rfl⟩
            rw [HHZ.out]
            go_wp2_with fail
            refine ⟨⟨k + 1, by omega, by go_num, by rw [HK.out, HY.out, ← HW.out, NoneF, HHB.out]; rfl, _, rfl⟩, ?_⟩
            simp [Go.RowKit.intOf]; omega
          · have hwk : (((m : Int) / 2 ^ k).tmod 2 == 0) = false := hwk
            have hnot : ∀ (x : Bool) (w : World), (Op.unary .not (.bool x)).run Try.prog w = .ok (.bool (!x)) w := fun _ _ => rfl
            go_wp2_with fail
            refine (HC.out _).mono ?_
            rintro e w2 ⟨a3, rfl, _, _, q3, rfl⟩
            rw [HHZ.out]
            go_wp2_with fail
            refine ⟨⟨k + 1, by omega, by go_num, by rw [HK.out, HY.out, ← HW.out, NoneF, HHB.out, HHY.out]; rfl, _, rfl⟩, ?_⟩
            simp [Go.RowKit.intOf]; omega
      · obtain rfl : k = 8 := by omega
        have HFM : Hid (allTo F (nWorlds 3) = allTo F 8) := rfl
        obtain ⟨y, HY⟩ : ∃ y, Hid (allTo F 8 = y) := ⟨_, rfl⟩
        rw [HY.out] at HFM ⊢
        cases hx
        all_goals
          go_wp2_with fail
          go_ret2
          exact ⟨a2, by rw [HF.out, HFM.out]; first | rfl | (rw [HX.out]; rfl), ha2, HD2.out, _, rfl⟩
end Go.Proofs.Ytmdogidflaplkaa

namespace Go.Proofs.Ytmdogidflaplkaa
open Go.RowKit

def IfF (t : Int) (x y : Sen) (m : Nat) (u : Nat) : Bool := !withinB (u : Int) (m : Int) || !holdsS t x (u : Int) || holdsS t y (u : Int)
theorem if_all (t : Int) (x y : Sen) (m : Nat) : holdsS t (.if_ x y) m = allTo (IfF t x y m) (m + 1) := by
  show (List.range ((m : Int).toNat + 1)).all _ = _
  rw [Int.toNat_natCast]; rfl

set_option maxRecDepth 100000 in
set_option maxHeartbeats 8000000 in
theorem sHo_and_ (t : Int) (s : ByteArray) (at_ m : Nat) (w : World) (hs : s.size ≤ 1048576) (hat : at_ < s.size) (hc : s[at_].toNat = 40) (hm : (m : Int) ≤ allOf t) (x : Sen) (l : List Nat) (hi : HoldsAt t s (at_ + 1) x (38 :: l)) (y : Sen) (e0 : Nat) (r : List Nat)
    (hi2 : ∀ a2 : Nat, a2 ≤ s.size → (bytesN s).drop a2 = l → HoldsAt t s a2 y (e0 :: r)) :
    Calls Try.prog 71 #[.int .i64 t, .string s, .int .i64 at_, .int .i64 m] w (SHold t s (.and_ x y) r m w) := by
  have hd : (at_ : Int) < (s.size : Int) := by omega
  have hd0 : (0 : Int) ≤ (at_ : Int) := by omega
  have HI := Lib.hid hi
  have HI2 := Lib.hid hi2
  have HM := Lib.hid hm
  obtain ⟨hx, HX⟩ : ∃ b, Hid (holdsS t x m = b) := ⟨_, rfl⟩
  obtain ⟨hy, HY⟩ : ∃ b, Hid (holdsS t y m = b) := ⟨_, rfl⟩
  clear hi hi2 hm
  cases hx
  all_goals
    go_enter Try.func71, Try.ntmps71
    go_wp2_with fail
    refine (HI.out m _ HM.out).mono ?_
    rintro e w1 ⟨a2, rfl, ha2, hd2, q, rfl⟩
    rw [HX.out]
    obtain ⟨hlt, hm2, hl⟩ := drop_lt hd2
    have HC := Lib.hid (HI2.out (a2 + 1) hlt hl)
    have hd3 : (a2 : Int) < (s.size : Int) := by omega
    have hd4 : (0 : Int) ≤ (a2 : Int) := by omega
    clear hd2 hl
    go_wp2_with fail
    refine (HC.out m _ HM.out).mono ?_
    rintro e w2 ⟨a3, rfl, ha3, hd5, q2, rfl⟩
    rw [HY.out]
    obtain ⟨hlt3, _, hl3⟩ := drop_lt hd5
    have HL := Lib.hid hl3
    clear hd5 hl3
    go_wp2_with fail
    go_ret2
    exact ⟨a3 + 1, by unfold holdsS; rw [HX.out, HY.out]; rfl, hlt3, HL.out, _, rfl⟩
set_option maxRecDepth 100000 in
set_option maxHeartbeats 8000000 in
theorem sHo_or_ (t : Int) (s : ByteArray) (at_ m : Nat) (w : World) (hs : s.size ≤ 1048576) (hat : at_ < s.size) (hc : s[at_].toNat = 40) (hm : (m : Int) ≤ allOf t) (x : Sen) (l : List Nat) (hi : HoldsAt t s (at_ + 1) x (124 :: l)) (y : Sen) (e0 : Nat) (r : List Nat)
    (hi2 : ∀ a2 : Nat, a2 ≤ s.size → (bytesN s).drop a2 = l → HoldsAt t s a2 y (e0 :: r)) :
    Calls Try.prog 71 #[.int .i64 t, .string s, .int .i64 at_, .int .i64 m] w (SHold t s (.or_ x y) r m w) := by
  have hd : (at_ : Int) < (s.size : Int) := by omega
  have hd0 : (0 : Int) ≤ (at_ : Int) := by omega
  have HI := Lib.hid hi
  have HI2 := Lib.hid hi2
  have HM := Lib.hid hm
  obtain ⟨hx, HX⟩ : ∃ b, Hid (holdsS t x m = b) := ⟨_, rfl⟩
  obtain ⟨hy, HY⟩ : ∃ b, Hid (holdsS t y m = b) := ⟨_, rfl⟩
  clear hi hi2 hm
  cases hx
  all_goals
    go_enter Try.func71, Try.ntmps71
    go_wp2_with fail
    refine (HI.out m _ HM.out).mono ?_
    rintro e w1 ⟨a2, rfl, ha2, hd2, q, rfl⟩
    rw [HX.out]
    obtain ⟨hlt, hm2, hl⟩ := drop_lt hd2
    have HC := Lib.hid (HI2.out (a2 + 1) hlt hl)
    have hd3 : (a2 : Int) < (s.size : Int) := by omega
    have hd4 : (0 : Int) ≤ (a2 : Int) := by omega
    clear hd2 hl
    go_wp2_with fail
    refine (HC.out m _ HM.out).mono ?_
    rintro e w2 ⟨a3, rfl, ha3, hd5, q2, rfl⟩
    rw [HY.out]
    obtain ⟨hlt3, _, hl3⟩ := drop_lt hd5
    have HL := Lib.hid hl3
    clear hd5 hl3
    go_wp2_with fail
    go_ret2
    exact ⟨a3 + 1, by unfold holdsS; rw [HX.out, HY.out]; rfl, hlt3, HL.out, _, rfl⟩

set_option maxRecDepth 100000 in
set_option maxHeartbeats 8000000 in
theorem sHo_if_ (t : Int) (s : ByteArray) (at_ m : Nat) (w : World) (hs : s.size ≤ 1048576) (hat : at_ < s.size) (hc : s[at_].toNat = 40) (hm : (m : Int) ≤ allOf t) (x : Sen) (l : List Nat) (hi : HoldsAt t s (at_ + 1) x (62 :: l)) (y : Sen) (e0 : Nat) (r : List Nat)
    (hi2 : ∀ a2 : Nat, a2 ≤ s.size → (bytesN s).drop a2 = l → HoldsAt t s a2 y (e0 :: r)) :
    Calls Try.prog 71 #[.int .i64 t, .string s, .int .i64 at_, .int .i64 m] w (SHold t s (.if_ x y) r m w) := by
  have hd : (at_ : Int) < (s.size : Int) := by omega
  have hd0 : (0 : Int) ≤ (at_ : Int) := by omega
  have HF := Lib.hid (if_all t x y m)
  have HI := Lib.hid hi
  have HI2 := Lib.hid hi2
  have HM := Lib.hid hm
  have hm256 : m < 256 := by have := (allOf_lt t).2; omega
  obtain ⟨F, HFF⟩ : ∃ F : Nat → Bool, Hid (IfF t x y m = F) := ⟨_, rfl⟩
  rw [HFF.out] at HF
  have HS := Lib.hid (allTo_succ F)
  clear hi hi2 hm
  go_enter Try.func71, Try.ntmps71
  go_wp2_with fail
  refine (HI.out m _ HM.out).mono ?_
  rintro e w1 ⟨a2, rfl, ha2, hd2, q, rfl⟩
  obtain ⟨bx, HBX⟩ : ∃ b, Hid (holdsS t x m = b) := ⟨_, rfl⟩
  rw [HBX.out]
  obtain ⟨hlt, hm2, hl⟩ := drop_lt hd2
  have HC := Lib.hid (HI2.out (a2 + 1) hlt hl)
  have hd3 : (a2 : Int) < (s.size : Int) := by omega
  have hd4 : (0 : Int) ≤ (a2 : Int) := by omega
  clear hd2 hl
  go_wp2_with fail
  refine (HC.out m _ HM.out).mono ?_
  rintro e w2 ⟨a3, rfl, ha3, hd5, q2, rfl⟩
  obtain ⟨bz, HBZ⟩ : ∃ b, Hid (holdsS t y m = b) := ⟨_, rfl⟩
  rw [HBZ.out]
  obtain ⟨hlt3, _, hl3⟩ := drop_lt hd5
  have HL := Lib.hid hl3
  clear hd5 hl3
  go_wp2_with fail
  go_loopw [22, 23] (fun v i wr => ∃ k : Nat, k ≤ m + 1 ∧ i = .int .i64 k ∧ v = .bool (allTo F k) ∧ ∃ q, wr = w.drewN q) (fun _ i _ => m + 1 - (Go.RowKit.intOf i).toNat)
  case atStart => exact ⟨0, Nat.zero_le _, rfl, rfl, _, rfl⟩
  case round =>
    obtain ⟨k, hk, rfl, rfl, q', rfl⟩ := hrel
    by_cases hle : k ≤ m
    · have HK := Lib.hid (HS.out k)
      have HW := Lib.hid (congrFun HFF.out k)
      have hki : (k : Int) ≤ (m : Int) := by omega
      have hka : (k : Int) ≤ allOf t := by have := HM.out; omega
      obtain ⟨y0, HY⟩ : ∃ y, Hid (allTo F k = y) := ⟨_, rfl⟩
      have HKA := Lib.hid hka
      rw [HY.out]
      clear hk hka
      rcases hw : withinB (k : Int) (m : Int) with _ | _
      · have HWI := Lib.hid hw
        clear hw
        have hnot : ∀ (x : Bool) (w : World), (Op.unary .not (.bool x)).run Try.prog w = .ok (.bool (!x)) w := fun _ _ => rfl
        go_wp2_with fail
        refine (sWithin_is HWI (by omega) (by omega) (by omega) (by omega) _).mono ?_
        rintro e w3 ⟨rfl, q3, rfl⟩
        go_wp2_with fail
        refine ⟨⟨k + 1, by omega, by go_num, by rw [HK.out, HY.out, ← HW.out, IfF, HWI.out]; cases y0 <;> rfl, _, rfl⟩, ?_⟩
        simp [Go.RowKit.intOf]; omega
      · have HWI := Lib.hid hw
        clear hw
        rcases hx : holdsS t x (k : Int) with _ | _
        · have HX := Lib.hid hx
          clear hx
          have hnot : ∀ (x : Bool) (w : World), (Op.unary .not (.bool x)).run Try.prog w = .ok (.bool (!x)) w := fun _ _ => rfl
          go_wp2_with fail
          refine (sWithin_is HWI (by omega) (by omega) (by omega) (by omega) _).mono ?_
          rintro e w3 ⟨rfl, q3, rfl⟩
          go_wp2_with fail
          refine (HI.out k _ HKA.out).mono ?_
          rintro e w4 ⟨a4, rfl, _, _, q4, rfl⟩
          rw [HX.out]
          go_wp2_with fail
          refine ⟨⟨k + 1, by omega, by go_num, by rw [HK.out, HY.out, ← HW.out, IfF, HWI.out, HX.out]; cases y0 <;> rfl, _, rfl⟩, ?_⟩
          simp [Go.RowKit.intOf]; omega
        · have HX := Lib.hid hx
          clear hx
          obtain ⟨by_, HBY⟩ : ∃ b, Hid (holdsS t y (k : Int) = b) := ⟨_, rfl⟩
          have hnot : ∀ (x : Bool) (w : World), (Op.unary .not (.bool x)).run Try.prog w = .ok (.bool (!x)) w := fun _ _ => rfl
          cases y0
          all_goals
            go_wp2_with fail
            refine (sWithin_is HWI (by omega) (by omega) (by omega) (by omega) _).mono ?_
            rintro e w3 ⟨rfl, q3, rfl⟩
            go_wp2_with fail
            refine (HI.out k _ HKA.out).mono ?_
            rintro e w4 ⟨a4, rfl, _, _, q4, rfl⟩
            rw [HX.out]
            go_wp2_with fail
            refine (HC.out k _ HKA.out).mono ?_
            rintro e w5 ⟨a5, rfl, _, _, q5, rfl⟩
            rw [HBY.out]
            go_wp2_with fail
            refine ⟨⟨k + 1, by omega, by go_num, by rw [HK.out, HY.out, ← HW.out, IfF, HWI.out, HX.out, HBY.out]; rfl, _, rfl⟩, ?_⟩
            simp [Go.RowKit.intOf]; omega
    · obtain rfl : k = m + 1 := by omega
      go_wp2_with fail
      go_ret2
      exact ⟨a3 + 1, by rw [HF.out]; rfl, hlt3, HL.out, _, rfl⟩
end Go.Proofs.Ytmdogidflaplkaa

namespace Go.Proofs.Ytmdogidflaplkaa
open Go.RowKit

theorem start_thing {t : Int} {c : Nat} (h : startB t c = true) (e1 : c ≠ 49) (e2 : c ≠ 48) (e3 : c ≠ 33) (e4 : c ≠ 63) (e5 : c ≠ 40) : ∃ i : Nat, c = 97 + i ∧ (i : Int) < t := by
  unfold startB at h
  simp only [Bool.or_eq_true, decide_eq_true_eq] at h
  exact ⟨c - 97, by omega, by omega⟩
theorem read_thing {t : Int} {i k : Nat} {l : List Nat} (hi : (i : Int) < t) : readS t (k + 1) ((97 + i) :: l) = some (.thing i, l) := by
  unfold readS
  rw [if_neg (by omega), if_neg (by omega), if_pos ⟨by omega, by omega⟩]
  congr 3; omega

theorem sReads (t : Int) (s : ByteArray) (hs : s.size ≤ 1048576) (h1 : 1 ≤ t) (h3 : t ≤ 3) : ∀ k, SReads t k s := by
  intro k
  induction k with
  | zero =>
    intro at_ w hle hk
    exact sRd_end t s at_ w hs (by omega)
  | succ k ih =>
    intro at_ w hle hk
    by_cases hlt : at_ < s.size
    · rw [bytesN_drop hlt]
      rcases hb : startB t s[at_].toNat with _ | _
      · rw [read_no t k _ _ hb]
        exact sRd_bad t s at_ w hs h1 h3 hlt hb
      by_cases e49 : s[at_].toNat = 49
      · rw [e49]; exact sRd_one t s at_ w hs h1 h3 hlt e49
      by_cases e48 : s[at_].toNat = 48
      · rw [e48]; exact sRd_zero t s at_ w hs hlt e48
      have hn : ∀ {x : Sen}, (issueS t x).length ≤ 70 := fun {x} => (issue_ne (sen_issue h1 h3 x)).2
      by_cases e33 : s[at_].toNat = 33
      · rw [e33, read_no33]
        rcases h : readS t k ((bytesN s).drop (at_ + 1)) with _ | ⟨x, rest⟩
        · exact sRd_no_none t s at_ w hs hlt e33 (fun W => sreads_none ih W (by omega) (by omega) h)
        · exact sRd_no t s at_ w hs hlt e33 x hn rest (fun W => sreads_some ih W (by omega) (by omega) h)
      by_cases e63 : s[at_].toNat = 63
      · rw [e63, read_ask63]
        rcases h : readS t k ((bytesN s).drop (at_ + 1)) with _ | ⟨x, rest⟩
        · exact sRd_ask_none t s at_ w hs hlt e63 (fun W => sreads_none ih W (by omega) (by omega) h)
        · exact sRd_ask t s at_ w hs hlt e63 x hn rest (fun W => sreads_some ih W (by omega) (by omega) h)
      by_cases e40 : s[at_].toNat = 40
      · rw [e40, read_pair40]
        rcases h : readS t k ((bytesN s).drop (at_ + 1)) with _ | ⟨x, _ | ⟨m, l⟩⟩
        · rw [show pairS t k ((bytesN s).drop (at_ + 1)) = none by unfold pairS; rw [h]]
          exact sRd_pair_none t s at_ w hs hlt e40 (fun W => sreads_none ih W (by omega) (by omega) h)
        · rw [show pairS t k ((bytesN s).drop (at_ + 1)) = none by unfold pairS; rw [h]]
          exact sRd_pair_mid t s at_ w hs hlt e40 x (fun W => sreads_some ih W (by omega) (by omega) h)
        · have hi : ∀ W, Calls Try.prog 59 #[.int .i64 t, .string s, .int .i64 ((at_ + 1 : Nat) : Int)] W (SSome t s x (m :: l) W) := fun W => sreads_some ih W (by omega) (by omega) h
          have hlen : ∀ a2 : Nat, a2 ≤ s.size → (bytesN s).drop a2 = l → s.size - a2 ≤ k := fun a2 ha hd => by
            have := readS_less t k _ _ _ h
            rw [List.length_drop, bytesN_len] at this
            have h2 : l.length = s.size - a2 := by rw [← hd, List.length_drop, bytesN_len]
            simp only [List.length_cons] at this
            omega
          rcases h2 : readS t k l with _ | ⟨y, _ | ⟨e0, r⟩⟩
          · rw [show pairS t k ((bytesN s).drop (at_ + 1)) = none by unfold pairS; rw [h]; simp only; rw [h2]]
            exact sRd_pair_snd t s at_ w hs hlt e40 x m l hi (fun a2 W ha hd => sreads_none ih W ha (hlen a2 ha hd) (by rw [hd]; exact h2))
          · rw [show pairS t k ((bytesN s).drop (at_ + 1)) = none by unfold pairS; rw [h]; simp only; rw [h2]]
            exact sRd_pair_end t s at_ w hs hlt e40 x m l hi y (fun a2 W ha hd => sreads_some ih W ha (hlen a2 ha hd) (by rw [hd]; exact h2))
          · have hi2 : ∀ (a2 : Nat) W, a2 ≤ s.size → (bytesN s).drop a2 = l → Calls Try.prog 59 #[.int .i64 t, .string s, .int .i64 a2] W (SSome t s y (e0 :: r) W) := fun a2 W ha hd => sreads_some ih W ha (hlen a2 ha hd) (by rw [hd]; exact h2)
            by_cases he : e0 = 41
            · subst he
              rcases hm : (decide (m = 38) || decide (m = 124) || decide (m = 62)) with _ | _
              · rw [show pairS t k ((bytesN s).drop (at_ + 1)) = none by unfold pairS; rw [h]; simp only; rw [h2]; simp only [if_true]; rw [twoS_none hm]; rfl]
                exact sRd_pair_sign t s at_ w hs hlt e40 x m l hi y r hm hi2
              · have hm3 : m = 38 ∨ m = 124 ∨ m = 62 := by simpa [or_assoc] using hm
                rcases hm3 with rfl | rfl | rfl
                · rw [show pairS t k ((bytesN s).drop (at_ + 1)) = some (.and_ x y, r) by unfold pairS; rw [h]; simp only; rw [h2]; rfl]
                  exact sRd_pair_and_ t s at_ w hs hlt e40 x l hi y r hn hn hi2
                · rw [show pairS t k ((bytesN s).drop (at_ + 1)) = some (.or_ x y, r) by unfold pairS; rw [h]; simp only; rw [h2]; rfl]
                  exact sRd_pair_or_ t s at_ w hs hlt e40 x l hi y r hn hn hi2
                · rw [show pairS t k ((bytesN s).drop (at_ + 1)) = some (.if_ x y, r) by unfold pairS; rw [h]; simp only; rw [h2]; rfl]
                  exact sRd_pair_if_ t s at_ w hs hlt e40 x l hi y r hn hn hi2
            · rw [show pairS t k ((bytesN s).drop (at_ + 1)) = none by unfold pairS; rw [h]; simp only; rw [h2]; simp only; rw [if_neg he]]
              exact sRd_pair_open t s at_ w hs hlt e40 x m l hi y e0 r he hi2
      · obtain ⟨i, hi, hit⟩ := start_thing hb e49 e48 e33 e63 e40
        rw [hi, read_thing hit]
        refine (sRd_letter t s at_ w hs hlt i hi h1 h3 hit).mono ?_
        rintro e w' ⟨v, rfl, ho, hb2⟩
        rw [word_thing h1 h3 hit] at ho
        exact ⟨v, at_ + 1, rfl, hlt, rfl, ho, hb2⟩
    · rw [List.drop_eq_nil_of_le (by rw [bytesN_len]; omega), read_empty]
      exact sRd_end t s at_ w hs (by omega)

theorem sHolds (t : Int) (s : ByteArray) (hs : s.size ≤ 1048576) (h1 : 1 ≤ t) (h3 : t ≤ 3) : ∀ (k at_ : Nat) (x : Sen) (rest : List Nat), readS t k ((bytesN s).drop at_) = some (x, rest) → HoldsAt t s at_ x rest := by
  intro k
  induction k with
  | zero => intro at_ x rest h; cases h
  | succ k ih =>
    intro at_ x rest h m W hm
    by_cases hlt : at_ < s.size
    · rw [bytesN_drop hlt] at h
      rcases hb : startB t s[at_].toNat with _ | _
      · rw [read_no t k _ _ hb] at h; cases h
      by_cases e49 : s[at_].toNat = 49
      · rw [e49] at h; cases h
        exact sHo_one t s at_ m W hs hlt e49
      by_cases e48 : s[at_].toNat = 48
      · rw [e48] at h; cases h
        exact sHo_zero t s at_ m W hs hlt e48
      by_cases e33 : s[at_].toNat = 33
      · rw [e33, read_no33] at h
        obtain ⟨⟨y, r⟩, hy, e⟩ := Option.map_eq_some_iff.1 h
        cases e
        exact sHo_no t s at_ m W hs hlt e33 h1 h3 hm y r (ih _ _ _ hy)
      by_cases e63 : s[at_].toNat = 63
      · rw [e63, read_ask63] at h
        obtain ⟨⟨y, r⟩, hy, e⟩ := Option.map_eq_some_iff.1 h
        cases e
        exact sHo_ask t s at_ m W hs hlt e63 h1 h3 hm y r (ih _ _ _ hy)
      by_cases e40 : s[at_].toNat = 40
      · rw [e40, read_pair40] at h
        unfold pairS at h
        split at h
        · rename_i x1 m1 l2 hx1
          split at h
          · rename_i y1 e0 r1 hy1
            split at h
            · obtain ⟨z, hz, e⟩ := Option.map_eq_some_iff.1 h
              cases e
              have hi2 : ∀ a2 : Nat, a2 ≤ s.size → (bytesN s).drop a2 = l2 → HoldsAt t s a2 y1 (e0 :: rest) := fun a2 _ hd => ih a2 _ _ (by rw [hd]; exact hy1)
              unfold twoS at hz
              split at hz
              · cases hz; rename_i hm1; subst hm1
                exact sHo_and_ t s at_ m W hs hlt e40 hm x1 l2 (ih _ _ _ hx1) y1 e0 rest hi2
              split at hz
              · cases hz; rename_i hm1; subst hm1
                exact sHo_or_ t s at_ m W hs hlt e40 hm x1 l2 (ih _ _ _ hx1) y1 e0 rest hi2
              split at hz
              · cases hz; rename_i hm1; subst hm1
                exact sHo_if_ t s at_ m W hs hlt e40 hm x1 l2 (ih _ _ _ hx1) y1 e0 rest hi2
              · cases hz
            · cases h
          · cases h
        · cases h
      · obtain ⟨i, hi, hit⟩ := start_thing hb e49 e48 e33 e63 e40
        rw [hi, read_thing hit] at h
        cases h
        exact sHo_thing t s at_ m W hs i hlt hi h1 h3 hit hm
    · rw [List.drop_eq_nil_of_le (by rw [bytesN_len]; omega), read_empty] at h
      cases h
end Go.Proofs.Ytmdogidflaplkaa
