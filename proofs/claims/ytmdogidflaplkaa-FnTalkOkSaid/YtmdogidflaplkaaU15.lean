/-
  What the proofs of this seat's statements share (Srf, Srg, Sho).
-/
import Derived.Test.YtmdogidflaplkaaU14

namespace Go.Proofs.Ytmdogidflaplkaa
open Go.RowKit


set_option maxRecDepth 100000 in
set_option maxHeartbeats 4000000 in
theorem sRd_pair_and_ (t : Int) (s : ByteArray) (at_ : Nat) (w : World) (hs : s.size ≤ 1048576) (hat : at_ < s.size) (hc : s[at_].toNat = 40) (x : Sen) (l : List Nat) (hi : ∀ W, Calls Try.prog 59 #[.int .i64 t, .string s, .int .i64 ((at_ + 1 : Nat) : Int)] W (SSome t s x (38 :: l) W)) (y : Sen) (r : List Nat) (hlx : (issueS t x).length ≤ 70) (hly : (issueS t y).length ≤ 70)
    (hi2 : ∀ (a2 : Nat) W, a2 ≤ s.size → (bytesN s).drop a2 = l → Calls Try.prog 59 #[.int .i64 t, .string s, .int .i64 a2] W (SSome t s y (41 :: r) W)) :
    Calls Try.prog 59 #[.int .i64 t, .string s, .int .i64 at_] w (SSome t s (.and_ x y) r w) := by
  have hd : (at_ : Int) < (s.size : Int) := by omega
  have hd0 : (0 : Int) ≤ (at_ : Int) := by omega
  have HI := Lib.hid hi
  have HI2 := Lib.hid hi2
  obtain ⟨px, HPX⟩ : ∃ b, Hid (plainS x = b) := ⟨_, rfl⟩
  obtain ⟨py, HPY⟩ : ∃ b, Hid (plainS y = b) := ⟨_, rfl⟩
  clear hi hi2
  cases px
  all_goals
    go_enter Try.func59, Try.ntmps59
    go_wp2_with fail
    refine (HI.out _).mono ?_
    rintro e w1 ⟨v, a2, rfl, ha2, hd2, ho, hb⟩
    rw [HPX.out]
    obtain ⟨A1, c1, rfl, _, _, _, _⟩ := ho.form
    obtain ⟨hlt, hm, hl⟩ := drop_lt hd2
    have HC2 := Lib.hid (fun W => HI2.out (a2 + 1) W hlt hl)
    have HR1 := Lib.hid (Owns.row ho (by omega))
    have HB := Lib.hid hb
    have hd3 : (a2 : Int) < (s.size : Int) := by omega
    have hd4 : (0 : Int) ≤ (a2 : Int) := by omega
    clear hb ho hd2 hl
    go_wp2_with fail
    refine (HC2.out _).mono ?_
    rintro e w2 ⟨v, a3, rfl, ha3, hd5, ho, hb⟩
    rw [HPY.out]
    obtain ⟨A2, c2, rfl, _, _, _, _⟩ := ho.form
    obtain ⟨hlt3, hm3, hl3⟩ := drop_lt hd5
    have HB2 := Lib.hid (bel_trans HB.out hb)
    have HR2 := Lib.hid (Owns.row ho (by omega))
    replace HR1 := Lib.hid (HR1.out.below hb)
    have HL3 := Lib.hid hl3
    have hd6 : (a3 : Int) < (s.size : Int) := by omega
    have hd7 : (0 : Int) ≤ (a3 : Int) := by omega
    clear hb ho hd5 hl3
    go_wp2_with fail
    refine (sBothIssues t _ _ _ _ _ _ _ _ _ HR1.out HR2.out).mono ?_
    rintro e w3 ⟨v, rfl, ho, hb⟩
    have HO := Lib.hid (ho.base HB2.out.size)
    have HB3 := Lib.hid (bel_trans HB2.out hb)
    clear ho hb
    go_wp2_with fail
    go_ret3
    exact ⟨_, a3 + 1, by unfold plainS; first | (rw [HPX.out, HPY.out]; rfl) | (rw [HPX.out]; rfl) | rfl, hlt3, HL3.out, HO.out, HB3.out⟩
set_option maxRecDepth 100000 in
set_option maxHeartbeats 4000000 in
theorem sRd_pair_or_ (t : Int) (s : ByteArray) (at_ : Nat) (w : World) (hs : s.size ≤ 1048576) (hat : at_ < s.size) (hc : s[at_].toNat = 40) (x : Sen) (l : List Nat) (hi : ∀ W, Calls Try.prog 59 #[.int .i64 t, .string s, .int .i64 ((at_ + 1 : Nat) : Int)] W (SSome t s x (124 :: l) W)) (y : Sen) (r : List Nat) (hlx : (issueS t x).length ≤ 70) (hly : (issueS t y).length ≤ 70)
    (hi2 : ∀ (a2 : Nat) W, a2 ≤ s.size → (bytesN s).drop a2 = l → Calls Try.prog 59 #[.int .i64 t, .string s, .int .i64 a2] W (SSome t s y (41 :: r) W)) :
    Calls Try.prog 59 #[.int .i64 t, .string s, .int .i64 at_] w (SSome t s (.or_ x y) r w) := by
  have hd : (at_ : Int) < (s.size : Int) := by omega
  have hd0 : (0 : Int) ≤ (at_ : Int) := by omega
  have HI := Lib.hid hi
  have HI2 := Lib.hid hi2
  obtain ⟨px, HPX⟩ : ∃ b, Hid (plainS x = b) := ⟨_, rfl⟩
  obtain ⟨py, HPY⟩ : ∃ b, Hid (plainS y = b) := ⟨_, rfl⟩
  clear hi hi2
  cases px
  all_goals
    go_enter Try.func59, Try.ntmps59
    go_wp2_with fail
    refine (HI.out _).mono ?_
    rintro e w1 ⟨v, a2, rfl, ha2, hd2, ho, hb⟩
    rw [HPX.out]
    obtain ⟨A1, c1, rfl, _, _, _, _⟩ := ho.form
    obtain ⟨hlt, hm, hl⟩ := drop_lt hd2
    have HC2 := Lib.hid (fun W => HI2.out (a2 + 1) W hlt hl)
    have HR1 := Lib.hid (Owns.row ho (by omega))
    have HB := Lib.hid hb
    have hd3 : (a2 : Int) < (s.size : Int) := by omega
    have hd4 : (0 : Int) ≤ (a2 : Int) := by omega
    clear hb ho hd2 hl
    go_wp2_with fail
    refine (HC2.out _).mono ?_
    rintro e w2 ⟨v, a3, rfl, ha3, hd5, ho, hb⟩
    rw [HPY.out]
    obtain ⟨A2, c2, rfl, _, _, _, _⟩ := ho.form
    obtain ⟨hlt3, hm3, hl3⟩ := drop_lt hd5
    have HB2 := Lib.hid (bel_trans HB.out hb)
    have HR2 := Lib.hid (Owns.row ho (by omega))
    replace HR1 := Lib.hid (HR1.out.below hb)
    have HL3 := Lib.hid hl3
    have hd6 : (a3 : Int) < (s.size : Int) := by omega
    have hd7 : (0 : Int) ≤ (a3 : Int) := by omega
    clear hb ho hd5 hl3
    go_wp2_with fail
    refine (sEitherIssue t _ _ _ _ _ _ _ _ _ HR1.out HR2.out).mono ?_
    rintro e w3 ⟨v, rfl, ho, hb⟩
    have HO := Lib.hid (ho.base HB2.out.size)
    have HB3 := Lib.hid (bel_trans HB2.out hb)
    clear ho hb
    go_wp2_with fail
    go_ret3
    exact ⟨_, a3 + 1, by unfold plainS; first | (rw [HPX.out, HPY.out]; rfl) | (rw [HPX.out]; rfl) | rfl, hlt3, HL3.out, HO.out, HB3.out⟩
set_option maxRecDepth 100000 in
set_option maxHeartbeats 4000000 in
theorem sRd_pair_if_ (t : Int) (s : ByteArray) (at_ : Nat) (w : World) (hs : s.size ≤ 1048576) (hat : at_ < s.size) (hc : s[at_].toNat = 40) (x : Sen) (l : List Nat) (hi : ∀ W, Calls Try.prog 59 #[.int .i64 t, .string s, .int .i64 ((at_ + 1 : Nat) : Int)] W (SSome t s x (62 :: l) W)) (y : Sen) (r : List Nat) (hlx : (issueS t x).length ≤ 70) (hly : (issueS t y).length ≤ 70)
    (hi2 : ∀ (a2 : Nat) W, a2 ≤ s.size → (bytesN s).drop a2 = l → Calls Try.prog 59 #[.int .i64 t, .string s, .int .i64 a2] W (SSome t s y (41 :: r) W)) :
    Calls Try.prog 59 #[.int .i64 t, .string s, .int .i64 at_] w (SSome t s (.if_ x y) r w) := by
  have hd : (at_ : Int) < (s.size : Int) := by omega
  have hd0 : (0 : Int) ≤ (at_ : Int) := by omega
  have HI := Lib.hid hi
  have HI2 := Lib.hid hi2
  obtain ⟨px, HPX⟩ : ∃ b, Hid (plainS x = b) := ⟨_, rfl⟩
  obtain ⟨py, HPY⟩ : ∃ b, Hid (plainS y = b) := ⟨_, rfl⟩
  clear hi hi2
  cases px
  all_goals
    go_enter Try.func59, Try.ntmps59
    go_wp2_with fail
    refine (HI.out _).mono ?_
    rintro e w1 ⟨v, a2, rfl, ha2, hd2, ho, hb⟩
    rw [HPX.out]
    obtain ⟨A1, c1, rfl, _, _, _, _⟩ := ho.form
    obtain ⟨hlt, hm, hl⟩ := drop_lt hd2
    have HC2 := Lib.hid (fun W => HI2.out (a2 + 1) W hlt hl)
    have HR1 := Lib.hid (Owns.row ho (by omega))
    have HB := Lib.hid hb
    have hd3 : (a2 : Int) < (s.size : Int) := by omega
    have hd4 : (0 : Int) ≤ (a2 : Int) := by omega
    clear hb ho hd2 hl
    go_wp2_with fail
    refine (HC2.out _).mono ?_
    rintro e w2 ⟨v, a3, rfl, ha3, hd5, ho, hb⟩
    rw [HPY.out]
    obtain ⟨A2, c2, rfl, _, _, _, _⟩ := ho.form
    obtain ⟨hlt3, hm3, hl3⟩ := drop_lt hd5
    have HB2 := Lib.hid (bel_trans HB.out hb)
    have HR2 := Lib.hid (Owns.row ho (by omega))
    replace HR1 := Lib.hid (HR1.out.below hb)
    have HL3 := Lib.hid hl3
    have hd6 : (a3 : Int) < (s.size : Int) := by omega
    have hd7 : (0 : Int) ≤ (a3 : Int) := by omega
    clear hb ho hd5 hl3
    go_wp2_with fail
    refine (sIfIssue t _ _ _ _ _ _ _ _ _ HR1.out HR2.out).mono ?_
    rintro e w3 ⟨v, rfl, ho, hb⟩
    have HO := Lib.hid (ho.base HB2.out.size)
    have HB3 := Lib.hid (bel_trans HB2.out hb)
    clear ho hb
    go_wp2_with fail
    go_ret3
    exact ⟨_, a3 + 1, by unfold plainS; first | (rw [HPX.out, HPY.out]; rfl) | (rw [HPX.out]; rfl) | rfl, hlt3, HL3.out, HO.out, HB3.out⟩
end Go.Proofs.Ytmdogidflaplkaa

namespace Go.Proofs.Ytmdogidflaplkaa
open Go.RowKit

set_option maxRecDepth 100000 in
set_option maxHeartbeats 8000000 in
theorem sRd_letter (t : Int) (s : ByteArray) (at_ : Nat) (w : World) (hs : s.size ≤ 1048576) (hat : at_ < s.size) (i : Nat) (hc : s[at_].toNat = 97 + i) (h1 : 1 ≤ t) (h3 : t ≤ 3) (hi : (i : Int) < t) :
    Calls Try.prog 59 #[.int .i64 t, .string s, .int .i64 at_] w (OwnPost3 (wordTo (97 + i) (nWorlds t)) at_ w) := by
  have hd : (at_ : Int) < (s.size : Int) := by omega
  have hd0 : (0 : Int) ≤ (at_ : Int) := by omega
  have h : (t = 1 ∧ i = 0) ∨ (t = 2 ∧ i = 0) ∨ (t = 2 ∧ i = 1) ∨ (t = 3 ∧ i = 0) ∨ (t = 3 ∧ i = 1) ∨ (t = 3 ∧ i = 2) := by omega
  clear h1 h3 hi
  rcases h with ⟨rfl, rfl⟩ | ⟨rfl, rfl⟩ | ⟨rfl, rfl⟩ | ⟨rfl, rfl⟩ | ⟨rfl, rfl⟩ | ⟨rfl, rfl⟩
  · have hc : s[at_].toNat = 97 := hc
    have hb : Hid (∀ k : Nat, k < 2 → k = 0 ∨ k = 1 ∨ k = 2 ∨ k = 3 ∨ k = 4 ∨ k = 5 ∨ k = 6 ∨ k = 7) := fun k hk => by omega
    go_enter Try.func59, Try.ntmps59
    go_wp2_with fail
    go_loop [9, 10] (fun v i => ∃ k : Nat, k ≤ 2 ∧ i = .int .i64 k ∧ v = .int .i64 (wordTo 97 k)) (fun _ i => 2 - (Go.RowKit.intOf i).toNat)
    case atStart => exact ⟨0, Nat.zero_le _, rfl, rfl⟩
    case round =>
      obtain ⟨k, hk, rfl, rfl⟩ := hrel
      by_cases hlt : k < 2
      · have h8 := hb.out k hlt
        clear hk
        rcases h8 with rfl | rfl | rfl | rfl | rfl | rfl | rfl | rfl
        all_goals first
          | (exfalso; revert hlt; decide)
          | (clear hlt
             go_wp2_with fail
             exact ⟨⟨_, by decide, rfl, by first | rfl | (rw [IntWalk.wrap64_in _ ⟨by decide, by decide⟩]; rfl)⟩, by decide⟩)
      · obtain rfl : k = 2 := by omega
        go_wp2_with fail
        go_ret3
        exact ⟨_, rfl, Owns.lit _ _ [((wordTo 97 2 : Nat) : Int)] (Nat.le_refl _) (by simp [maxLen]), (Below.refl _ _).alloc (Nat.le_refl _) _⟩
  · have hc : s[at_].toNat = 97 := hc
    have hb : Hid (∀ k : Nat, k < 4 → k = 0 ∨ k = 1 ∨ k = 2 ∨ k = 3 ∨ k = 4 ∨ k = 5 ∨ k = 6 ∨ k = 7) := fun k hk => by omega
    go_enter Try.func59, Try.ntmps59
    go_wp2_with fail
    go_loop [9, 10] (fun v i => ∃ k : Nat, k ≤ 4 ∧ i = .int .i64 k ∧ v = .int .i64 (wordTo 97 k)) (fun _ i => 4 - (Go.RowKit.intOf i).toNat)
    case atStart => exact ⟨0, Nat.zero_le _, rfl, rfl⟩
    case round =>
      obtain ⟨k, hk, rfl, rfl⟩ := hrel
      by_cases hlt : k < 4
      · have h8 := hb.out k hlt
        clear hk
        rcases h8 with rfl | rfl | rfl | rfl | rfl | rfl | rfl | rfl
        all_goals first
          | (exfalso; revert hlt; decide)
          | (clear hlt
             go_wp2_with fail
             exact ⟨⟨_, by decide, rfl, by first | rfl | (rw [IntWalk.wrap64_in _ ⟨by decide, by decide⟩]; rfl)⟩, by decide⟩)
      · obtain rfl : k = 4 := by omega
        go_wp2_with fail
        go_ret3
        exact ⟨_, rfl, Owns.lit _ _ [((wordTo 97 4 : Nat) : Int)] (Nat.le_refl _) (by simp [maxLen]), (Below.refl _ _).alloc (Nat.le_refl _) _⟩
  · have hc : s[at_].toNat = 98 := hc
    have hb : Hid (∀ k : Nat, k < 4 → k = 0 ∨ k = 1 ∨ k = 2 ∨ k = 3 ∨ k = 4 ∨ k = 5 ∨ k = 6 ∨ k = 7) := fun k hk => by omega
    go_enter Try.func59, Try.ntmps59
    go_wp2_with fail
    go_loop [9, 10] (fun v i => ∃ k : Nat, k ≤ 4 ∧ i = .int .i64 k ∧ v = .int .i64 (wordTo 98 k)) (fun _ i => 4 - (Go.RowKit.intOf i).toNat)
    case atStart => exact ⟨0, Nat.zero_le _, rfl, rfl⟩
    case round =>
      obtain ⟨k, hk, rfl, rfl⟩ := hrel
      by_cases hlt : k < 4
      · have h8 := hb.out k hlt
        clear hk
        rcases h8 with rfl | rfl | rfl | rfl | rfl | rfl | rfl | rfl
        all_goals first
          | (exfalso; revert hlt; decide)
          | (clear hlt
             go_wp2_with fail
             exact ⟨⟨_, by decide, rfl, by first | rfl | (rw [IntWalk.wrap64_in _ ⟨by decide, by decide⟩]; rfl)⟩, by decide⟩)
      · obtain rfl : k = 4 := by omega
        go_wp2_with fail
        go_ret3
        exact ⟨_, rfl, Owns.lit _ _ [((wordTo 98 4 : Nat) : Int)] (Nat.le_refl _) (by simp [maxLen]), (Below.refl _ _).alloc (Nat.le_refl _) _⟩
  · have hc : s[at_].toNat = 97 := hc
    have hb : Hid (∀ k : Nat, k < 8 → k = 0 ∨ k = 1 ∨ k = 2 ∨ k = 3 ∨ k = 4 ∨ k = 5 ∨ k = 6 ∨ k = 7) := fun k hk => by omega
    go_enter Try.func59, Try.ntmps59
    go_wp2_with fail
    go_loop [9, 10] (fun v i => ∃ k : Nat, k ≤ 8 ∧ i = .int .i64 k ∧ v = .int .i64 (wordTo 97 k)) (fun _ i => 8 - (Go.RowKit.intOf i).toNat)
    case atStart => exact ⟨0, Nat.zero_le _, rfl, rfl⟩
    case round =>
      obtain ⟨k, hk, rfl, rfl⟩ := hrel
      by_cases hlt : k < 8
      · have h8 := hb.out k hlt
        clear hk
        rcases h8 with rfl | rfl | rfl | rfl | rfl | rfl | rfl | rfl
        all_goals first
          | (exfalso; revert hlt; decide)
          | (clear hlt
             go_wp2_with fail
             exact ⟨⟨_, by decide, rfl, by first | rfl | (rw [IntWalk.wrap64_in _ ⟨by decide, by decide⟩]; rfl)⟩, by decide⟩)
      · obtain rfl : k = 8 := by omega
        go_wp2_with fail
        go_ret3
        exact ⟨_, rfl, Owns.lit _ _ [((wordTo 97 8 : Nat) : Int)] (Nat.le_refl _) (by simp [maxLen]), (Below.refl _ _).alloc (Nat.le_refl _) _⟩
  · have hc : s[at_].toNat = 98 := hc
    have hb : Hid (∀ k : Nat, k < 8 → k = 0 ∨ k = 1 ∨ k = 2 ∨ k = 3 ∨ k = 4 ∨ k = 5 ∨ k = 6 ∨ k = 7) := fun k hk => by omega
    go_enter Try.func59, Try.ntmps59
    go_wp2_with fail
    go_loop [9, 10] (fun v i => ∃ k : Nat, k ≤ 8 ∧ i = .int .i64 k ∧ v = .int .i64 (wordTo 98 k)) (fun _ i => 8 - (Go.RowKit.intOf i).toNat)
    case atStart => exact ⟨0, Nat.zero_le _, rfl, rfl⟩
    case round =>
      obtain ⟨k, hk, rfl, rfl⟩ := hrel
      by_cases hlt : k < 8
      · have h8 := hb.out k hlt
        clear hk
        rcases h8 with rfl | rfl | rfl | rfl | rfl | rfl | rfl | rfl
        all_goals first
          | (exfalso; revert hlt; decide)
          | (clear hlt
             go_wp2_with fail
             exact ⟨⟨_, by decide, rfl, by first | rfl | (rw [IntWalk.wrap64_in _ ⟨by decide, by decide⟩]; rfl)⟩, by decide⟩)
      · obtain rfl : k = 8 := by omega
        go_wp2_with fail
        go_ret3
        exact ⟨_, rfl, Owns.lit _ _ [((wordTo 98 8 : Nat) : Int)] (Nat.le_refl _) (by simp [maxLen]), (Below.refl _ _).alloc (Nat.le_refl _) _⟩
  · have hc : s[at_].toNat = 99 := hc
    have hb : Hid (∀ k : Nat, k < 8 → k = 0 ∨ k = 1 ∨ k = 2 ∨ k = 3 ∨ k = 4 ∨ k = 5 ∨ k = 6 ∨ k = 7) := fun k hk => by omega
    go_enter Try.func59, Try.ntmps59
    go_wp2_with fail
    go_loop [9, 10] (fun v i => ∃ k : Nat, k ≤ 8 ∧ i = .int .i64 k ∧ v = .int .i64 (wordTo 99 k)) (fun _ i => 8 - (Go.RowKit.intOf i).toNat)
    case atStart => exact ⟨0, Nat.zero_le _, rfl, rfl⟩
    case round =>
      obtain ⟨k, hk, rfl, rfl⟩ := hrel
      by_cases hlt : k < 8
      · have h8 := hb.out k hlt
        clear hk
        rcases h8 with rfl | rfl | rfl | rfl | rfl | rfl | rfl | rfl
        all_goals first
          | (exfalso; revert hlt; decide)
          | (clear hlt
             go_wp2_with fail
             exact ⟨⟨_, by decide, rfl, by first | rfl | (rw [IntWalk.wrap64_in _ ⟨by decide, by decide⟩]; rfl)⟩, by decide⟩)
      · obtain rfl : k = 8 := by omega
        go_wp2_with fail
        go_ret3
        exact ⟨_, rfl, Owns.lit _ _ [((wordTo 99 8 : Nat) : Int)] (Nat.le_refl _) (by simp [maxLen]), (Below.refl _ _).alloc (Nat.le_refl _) _⟩
end Go.Proofs.Ytmdogidflaplkaa

namespace Go.Proofs.Ytmdogidflaplkaa
open Go.RowKit

def SHold (t : Int) (s : ByteArray) (x : Sen) (rest : List Nat) (m : Nat) (w : World) (e : Ending) (w' : World) : Prop :=
  ∃ a2 : Nat, e = .returned (.tuple #[.bool (holdsS t x m), .int .i64 a2]) ∧ a2 ≤ s.size ∧ (bytesN s).drop a2 = rest ∧ ∃ q, w' = w.drewN q
def allTo (f : Nat → Bool) (k : Nat) : Bool := (List.range k).all f
theorem allTo_succ (f : Nat → Bool) (k : Nat) : allTo f (k + 1) = (allTo f k && f k) := by
  unfold allTo; rw [List.range_succ, List.all_append]; simp
theorem allTo_zero (f : Nat → Bool) : allTo f 0 = true := rfl
theorem hasW_div (m k : Nat) : hasW (m : Int) k = decide (m / 2 ^ k % 2 = 1) := by
  unfold hasW; rw [Int.toNat_natCast, Nat.testBit_eq_decide_div_mod_eq]
theorem has_walk {m k : Nat} {b : Bool} (h : hasW (m : Int) k = b) : (((m : Int) / 2 ^ k).tmod 2 == 0) = !b := by
  have e4 : (2 : Int) ^ k = ((2 ^ k : Nat) : Int) := by push_cast; rfl
  rw [e4, tmod2_nat]
  rw [hasW_div] at h
  subst h
  rcases Nat.mod_two_eq_zero_or_one (m / 2 ^ k) with h | h <;> rw [h] <;> rfl
theorem bit_walk (i k : Nat) (d : Int) (hd : d = ((2 ^ i : Nat) : Int)) : ((k : Int) / d % 2 == 1) = bitOf (97 + i) k := by
  subst hd
  rw [show (k : Int) / ((2 ^ i : Nat) : Int) % 2 = ((k / 2 ^ i % 2 : Nat) : Int) by push_cast; rfl]
  unfold bitOf
  rw [decide_eq_false (by omega : ¬ 97 + i = 49), decide_eq_false (by omega : ¬ 97 + i = 48), show 97 + i - 97 = i by omega]
  rcases Nat.mod_two_eq_zero_or_one (k / 2 ^ i) with h | h <;> rw [h] <;> rfl
theorem wordTo_bit (c : Nat) : ∀ n w, (wordTo c n).testBit w = (decide (w < n) && bitOf c w)
  | 0, w => by simp [wordTo]
  | n + 1, w => by
    have ih := wordTo_bit c n w
    unfold wordTo
    rw [Nat.testBit_or, ih]
    by_cases e : w = n
    · subst e
      cases h : bitOf c w
      · simp
      · simp
    · have h2 : (if bitOf c n = true then 2 ^ n else 0).testBit w = false := by
        split
        · rw [Nat.testBit_two_pow]; simp; omega
        · simp
      rw [h2]
      cases bitOf c w
      · simp
      · simp; omega
theorem thing_all {t : Int} {i m : Nat} (h1 : 1 ≤ t) (h3 : t ≤ 3) (hi : (i : Int) < t) (hm : (m : Int) ≤ allOf t) : holdsS t (.thing i) m = allTo (fun w => !hasW (m : Int) w || bitOf (97 + i) w) (nWorlds t) := by
  show withinB (m : Int) (letterSet t i) = _
  rw [← word_thing h1 h3 hi, Bool.eq_iff_iff, within_iff (by omega)]
  unfold allTo
  rw [List.all_eq_true]
  constructor
  · intro h w hw
    have := h w
    rw [Int.toNat_natCast, Int.toNat_natCast, wordTo_bit] at this
    unfold hasW
    rw [Int.toNat_natCast]
    cases hb : m.testBit w
    · rfl
    · have := this hb
      rw [Bool.and_eq_true] at this
      rw [this.2]; rfl
  · intro h w hb
    have hlt := has_lt h1 h3 (s := (m : Int)) (by omega) hm (w := w) hb
    have := h w (List.mem_range.2 hlt)
    unfold hasW at this
    rw [hb] at this
    rw [Int.toNat_natCast, wordTo_bit, decide_eq_true hlt]
    simpa using this


set_option maxRecDepth 100000 in
set_option maxHeartbeats 4000000 in
theorem sHo_one (t : Int) (s : ByteArray) (at_ m : Nat) (w : World) (hs : s.size ≤ 1048576) (hat : at_ < s.size) (hc : s[at_].toNat = 49) : Calls Try.prog 71 #[.int .i64 t, .string s, .int .i64 at_, .int .i64 m] w (SHold t s .one ((bytesN s).drop (at_ + 1)) m w) := by
  have hd : (at_ : Int) < (s.size : Int) := by omega
  have hd0 : (0 : Int) ≤ (at_ : Int) := by omega
  go_enter Try.func71, Try.ntmps71
  go_wp2_with fail
  go_ret2
  exact ⟨at_ + 1, rfl, hat, rfl, 0, rfl⟩
set_option maxRecDepth 100000 in
set_option maxHeartbeats 4000000 in
theorem sHo_zero (t : Int) (s : ByteArray) (at_ m : Nat) (w : World) (hs : s.size ≤ 1048576) (hat : at_ < s.size) (hc : s[at_].toNat = 48) : Calls Try.prog 71 #[.int .i64 t, .string s, .int .i64 at_, .int .i64 m] w (SHold t s .zero ((bytesN s).drop (at_ + 1)) m w) := by
  have hd : (at_ : Int) < (s.size : Int) := by omega
  have hd0 : (0 : Int) ≤ (at_ : Int) := by omega
  have he : ((m : Int) == 0) = holdsS t .zero m := rfl
  obtain ⟨b, HB⟩ : ∃ b, Hid (holdsS t .zero m = b) := ⟨_, rfl⟩
  rw [HB.out] at he
  go_enter Try.func71, Try.ntmps71
  go_wp2_with fail
  go_ret2
  exact ⟨at_ + 1, by rw [HB.out]; rfl, hat, rfl, 0, rfl⟩

set_option maxRecDepth 100000 in
set_option maxHeartbeats 8000000 in
theorem sHo_thing (t : Int) (s : ByteArray) (at_ m : Nat) (w : World) (hs : s.size ≤ 1048576) (i : Nat) (hat : at_ < s.size) (hc : s[at_].toNat = 97 + i) (h1 : 1 ≤ t) (h3 : t ≤ 3) (hi : (i : Int) < t) (hm : (m : Int) ≤ allOf t) :
    Calls Try.prog 71 #[.int .i64 t, .string s, .int .i64 at_, .int .i64 m] w (SHold t s (.thing i) ((bytesN s).drop (at_ + 1)) m w) := by
  have hd : (at_ : Int) < (s.size : Int) := by omega
  have hd0 : (0 : Int) ≤ (at_ : Int) := by omega
  have HF := Lib.hid (thing_all h1 h3 hi hm)
  have h : (t = 1 ∧ i = 0) ∨ (t = 2 ∧ i = 0) ∨ (t = 2 ∧ i = 1) ∨ (t = 3 ∧ i = 0) ∨ (t = 3 ∧ i = 1) ∨ (t = 3 ∧ i = 2) := by omega
  have hm256 : m < 256 := by have := (allOf_lt t).2; omega
  clear h1 h3 hi hm
  rcases h with ⟨rfl, rfl⟩ | ⟨rfl, rfl⟩ | ⟨rfl, rfl⟩ | ⟨rfl, rfl⟩ | ⟨rfl, rfl⟩ | ⟨rfl, rfl⟩
  · have hc : s[at_].toNat = 97 := hc
    have HF : Hid (holdsS 1 (.thing 0) m = allTo (fun w => !hasW (m : Int) w || bitOf 97 w) 2) := HF.out
    obtain ⟨F, HFF⟩ : ∃ F : Nat → Bool, Hid ((fun w => !hasW (m : Int) w || bitOf 97 w) = F) := ⟨_, rfl⟩
    rw [HFF.out] at HF
    have HS := Lib.hid (allTo_succ F)
    go_enter Try.func71, Try.ntmps71
    go_wp2_with fail
    go_loop [10, 11] (fun v i => ∃ k : Nat, k ≤ 2 ∧ i = .int .i64 k ∧ v = .bool (allTo F k)) (fun _ i => 2 - (Go.RowKit.intOf i).toNat)
    case atStart => exact ⟨0, Nat.zero_le _, rfl, rfl⟩
    case round =>
      obtain ⟨k, hk, rfl, rfl⟩ := hrel
      by_cases hlt : k < 2
      · have HK := Lib.hid (HS.out k)
        have HW := Lib.hid (congrFun HFF.out k)
        obtain ⟨y, HY⟩ : ∃ y, Hid (allTo F k = y) := ⟨_, rfl⟩
        obtain ⟨hb, HHB⟩ : ∃ y, Hid (hasW (m : Int) k = y) := ⟨_, rfl⟩
        have hwk := has_walk HHB.out
        have h8 : k = 0 ∨ k = 1 ∨ k = 2 ∨ k = 3 ∨ k = 4 ∨ k = 5 ∨ k = 6 ∨ k = 7 := by omega
        rw [HY.out]
        clear hk
        cases y
        · clear hwk h8
          go_wp2_with fail
          refine ⟨⟨k + 1, by omega, by go_num, by rw [HK.out, HY.out]; rfl⟩, ?_⟩
          simp [Go.RowKit.intOf]; omega
        · cases hb
          · have hwk : (((m : Int) / 2 ^ k).tmod 2 == 0) = true := hwk
            clear h8
            go_wp2_with fail
            refine ⟨⟨k + 1, by omega, by go_num, by rw [HK.out, HY.out, ← HW.out, HHB.out]; rfl⟩, ?_⟩
            simp [Go.RowKit.intOf]; omega
          · have hwk : (((m : Int) / 2 ^ k).tmod 2 == 0) = false := hwk
            obtain ⟨v, HV⟩ : ∃ v, Hid (bitOf 97 k = v) := ⟨_, rfl⟩
            have hb1 : ((k : Int) / 1 % 2 == 1) = v := by rw [← HV.out]; exact bit_walk 0 k 1 rfl
            try rw [Int.ediv_one] at hb1
            clear h8
            go_wp2_with fail
            refine ⟨⟨k + 1, by omega, by go_num, by rw [HK.out, HY.out, ← HW.out, HHB.out, HV.out]; rfl⟩, ?_⟩
            simp [Go.RowKit.intOf]; omega
      · obtain rfl : k = 2 := by omega
        go_wp2_with fail
        go_ret2
        exact ⟨at_ + 1, by rw [HF.out]; rfl, hat, rfl, 0, rfl⟩
  · have hc : s[at_].toNat = 97 := hc
    have HF : Hid (holdsS 2 (.thing 0) m = allTo (fun w => !hasW (m : Int) w || bitOf 97 w) 4) := HF.out
    obtain ⟨F, HFF⟩ : ∃ F : Nat → Bool, Hid ((fun w => !hasW (m : Int) w || bitOf 97 w) = F) := ⟨_, rfl⟩
    rw [HFF.out] at HF
    have HS := Lib.hid (allTo_succ F)
    go_enter Try.func71, Try.ntmps71
    go_wp2_with fail
    go_loop [10, 11] (fun v i => ∃ k : Nat, k ≤ 4 ∧ i = .int .i64 k ∧ v = .bool (allTo F k)) (fun _ i => 4 - (Go.RowKit.intOf i).toNat)
    case atStart => exact ⟨0, Nat.zero_le _, rfl, rfl⟩
    case round =>
      obtain ⟨k, hk, rfl, rfl⟩ := hrel
      by_cases hlt : k < 4
      · have HK := Lib.hid (HS.out k)
        have HW := Lib.hid (congrFun HFF.out k)
        obtain ⟨y, HY⟩ : ∃ y, Hid (allTo F k = y) := ⟨_, rfl⟩
        obtain ⟨hb, HHB⟩ : ∃ y, Hid (hasW (m : Int) k = y) := ⟨_, rfl⟩
        have hwk := has_walk HHB.out
        have h8 : k = 0 ∨ k = 1 ∨ k = 2 ∨ k = 3 ∨ k = 4 ∨ k = 5 ∨ k = 6 ∨ k = 7 := by omega
        rw [HY.out]
        clear hk
        cases y
        · clear hwk h8
          go_wp2_with fail
          refine ⟨⟨k + 1, by omega, by go_num, by rw [HK.out, HY.out]; rfl⟩, ?_⟩
          simp [Go.RowKit.intOf]; omega
        · cases hb
          · have hwk : (((m : Int) / 2 ^ k).tmod 2 == 0) = true := hwk
            clear h8
            go_wp2_with fail
            refine ⟨⟨k + 1, by omega, by go_num, by rw [HK.out, HY.out, ← HW.out, HHB.out]; rfl⟩, ?_⟩
            simp [Go.RowKit.intOf]; omega
          · have hwk : (((m : Int) / 2 ^ k).tmod 2 == 0) = false := hwk
            obtain ⟨v, HV⟩ : ∃ v, Hid (bitOf 97 k = v) := ⟨_, rfl⟩
            have hb1 : ((k : Int) / 1 % 2 == 1) = v := by rw [← HV.out]; exact bit_walk 0 k 1 rfl
            try rw [Int.ediv_one] at hb1
            clear h8
            go_wp2_with fail
            refine ⟨⟨k + 1, by omega, by go_num, by rw [HK.out, HY.out, ← HW.out, HHB.out, HV.out]; rfl⟩, ?_⟩
            simp [Go.RowKit.intOf]; omega
      · obtain rfl : k = 4 := by omega
        go_wp2_with fail
        go_ret2
        exact ⟨at_ + 1, by rw [HF.out]; rfl, hat, rfl, 0, rfl⟩
  · have hc : s[at_].toNat = 98 := hc
    have HF : Hid (holdsS 2 (.thing 1) m = allTo (fun w => !hasW (m : Int) w || bitOf 98 w) 4) := HF.out
    obtain ⟨F, HFF⟩ : ∃ F : Nat → Bool, Hid ((fun w => !hasW (m : Int) w || bitOf 98 w) = F) := ⟨_, rfl⟩
    rw [HFF.out] at HF
    have HS := Lib.hid (allTo_succ F)
    go_enter Try.func71, Try.ntmps71
    go_wp2_with fail
    go_loop [10, 11] (fun v i => ∃ k : Nat, k ≤ 4 ∧ i = .int .i64 k ∧ v = .bool (allTo F k)) (fun _ i => 4 - (Go.RowKit.intOf i).toNat)
    case atStart => exact ⟨0, Nat.zero_le _, rfl, rfl⟩
    case round =>
      obtain ⟨k, hk, rfl, rfl⟩ := hrel
      by_cases hlt : k < 4
      · have HK := Lib.hid (HS.out k)
        have HW := Lib.hid (congrFun HFF.out k)
        obtain ⟨y, HY⟩ : ∃ y, Hid (allTo F k = y) := ⟨_, rfl⟩
        obtain ⟨hb, HHB⟩ : ∃ y, Hid (hasW (m : Int) k = y) := ⟨_, rfl⟩
        have hwk := has_walk HHB.out
        have h8 : k = 0 ∨ k = 1 ∨ k = 2 ∨ k = 3 ∨ k = 4 ∨ k = 5 ∨ k = 6 ∨ k = 7 := by omega
        rw [HY.out]
        clear hk
        cases y
        · clear hwk h8
          go_wp2_with fail
          refine ⟨⟨k + 1, by omega, by go_num, by rw [HK.out, HY.out]; rfl⟩, ?_⟩
          simp [Go.RowKit.intOf]; omega
        · cases hb
          · have hwk : (((m : Int) / 2 ^ k).tmod 2 == 0) = true := hwk
            clear h8
            go_wp2_with fail
            refine ⟨⟨k + 1, by omega, by go_num, by rw [HK.out, HY.out, ← HW.out, HHB.out]; rfl⟩, ?_⟩
            simp [Go.RowKit.intOf]; omega
          · have hwk : (((m : Int) / 2 ^ k).tmod 2 == 0) = false := hwk
            obtain ⟨v, HV⟩ : ∃ v, Hid (bitOf 98 k = v) := ⟨_, rfl⟩
            have hb1 : ((k : Int) / 2 % 2 == 1) = v := by rw [← HV.out]; exact bit_walk 1 k 2 rfl
            try rw [Int.ediv_one] at hb1
            clear h8
            go_wp2_with fail
            refine ⟨⟨k + 1, by omega, by go_num, by rw [HK.out, HY.out, ← HW.out, HHB.out, HV.out]; rfl⟩, ?_⟩
            simp [Go.RowKit.intOf]; omega
      · obtain rfl : k = 4 := by omega
        go_wp2_with fail
        go_ret2
        exact ⟨at_ + 1, by rw [HF.out]; rfl, hat, rfl, 0, rfl⟩
  · have hc : s[at_].toNat = 97 := hc
    have HF : Hid (holdsS 3 (.thing 0) m = allTo (fun w => !hasW (m : Int) w || bitOf 97 w) 8) := HF.out
    obtain ⟨F, HFF⟩ : ∃ F : Nat → Bool, Hid ((fun w => !hasW (m : Int) w || bitOf 97 w) = F) := ⟨_, rfl⟩
    rw [HFF.out] at HF
    have HS := Lib.hid (allTo_succ F)
    go_enter Try.func71, Try.ntmps71
    go_wp2_with fail
    go_loop [10, 11] (fun v i => ∃ k : Nat, k ≤ 8 ∧ i = .int .i64 k ∧ v = .bool (allTo F k)) (fun _ i => 8 - (Go.RowKit.intOf i).toNat)
    case atStart => exact ⟨0, Nat.zero_le _, rfl, rfl⟩
    case round =>
      obtain ⟨k, hk, rfl, rfl⟩ := hrel
      by_cases hlt : k < 8
      · have HK := Lib.hid (HS.out k)
        have HW := Lib.hid (congrFun HFF.out k)
        obtain ⟨y, HY⟩ : ∃ y, Hid (allTo F k = y) := ⟨_, rfl⟩
        obtain ⟨hb, HHB⟩ : ∃ y, Hid (hasW (m : Int) k = y) := ⟨_, rfl⟩
        have hwk := has_walk HHB.out
        have h8 : k = 0 ∨ k = 1 ∨ k = 2 ∨ k = 3 ∨ k = 4 ∨ k = 5 ∨ k = 6 ∨ k = 7 := by omega
        rw [HY.out]
        clear hk
        cases y
        · clear hwk h8
          go_wp2_with fail
          refine ⟨⟨k + 1, by omega, by go_num, by rw [HK.out, HY.out]; rfl⟩, ?_⟩
          simp [Go.RowKit.intOf]; omega
        · cases hb
          · have hwk : (((m : Int) / 2 ^ k).tmod 2 == 0) = true := hwk
            clear h8
            go_wp2_with fail
            refine ⟨⟨k + 1, by omega, by go_num, by rw [HK.out, HY.out, ← HW.out, HHB.out]; rfl⟩, ?_⟩
            simp [Go.RowKit.intOf]; omega
          · have hwk : (((m : Int) / 2 ^ k).tmod 2 == 0) = false := hwk
            obtain ⟨v, HV⟩ : ∃ v, Hid (bitOf 97 k = v) := ⟨_, rfl⟩
            have hb1 : ((k : Int) / 1 % 2 == 1) = v := by rw [← HV.out]; exact bit_walk 0 k 1 rfl
            try rw [Int.ediv_one] at hb1
            clear h8
            go_wp2_with fail
            refine ⟨⟨k + 1, by omega, by go_num, by rw [HK.out, HY.out, ← HW.out, HHB.out, HV.out]; rfl⟩, ?_⟩
            simp [Go.RowKit.intOf]; omega
      · obtain rfl : k = 8 := by omega
        go_wp2_with fail
        go_ret2
        exact ⟨at_ + 1, by rw [HF.out]; rfl, hat, rfl, 0, rfl⟩
  · have hc : s[at_].toNat = 98 := hc
    have HF : Hid (holdsS 3 (.thing 1) m = allTo (fun w => !hasW (m : Int) w || bitOf 98 w) 8) := HF.out
    obtain ⟨F, HFF⟩ : ∃ F : Nat → Bool, Hid ((fun w => !hasW (m : Int) w || bitOf 98 w) = F) := ⟨_, rfl⟩
    rw [HFF.out] at HF
    have HS := Lib.hid (allTo_succ F)
    go_enter Try.func71, Try.ntmps71
    go_wp2_with fail
    go_loop [10, 11] (fun v i => ∃ k : Nat, k ≤ 8 ∧ i = .int .i64 k ∧ v = .bool (allTo F k)) (fun _ i => 8 - (Go.RowKit.intOf i).toNat)
    case atStart => exact ⟨0, Nat.zero_le _, rfl, rfl⟩
    case round =>
      obtain ⟨k, hk, rfl, rfl⟩ := hrel
      by_cases hlt : k < 8
      · have HK := Lib.hid (HS.out k)
        have HW := Lib.hid (congrFun HFF.out k)
        obtain ⟨y, HY⟩ : ∃ y, Hid (allTo F k = y) := ⟨_, rfl⟩
        obtain ⟨hb, HHB⟩ : ∃ y, Hid (hasW (m : Int) k = y) := ⟨_, rfl⟩
        have hwk := has_walk HHB.out
        have h8 : k = 0 ∨ k = 1 ∨ k = 2 ∨ k = 3 ∨ k = 4 ∨ k = 5 ∨ k = 6 ∨ k = 7 := by omega
        rw [HY.out]
        clear hk
        cases y
        · clear hwk h8
          go_wp2_with fail
          refine ⟨⟨k + 1, by omega, by go_num, by rw [HK.out, HY.out]; rfl⟩, ?_⟩
          simp [Go.RowKit.intOf]; omega
        · cases hb
          · have hwk : (((m : Int) / 2 ^ k).tmod 2 == 0) = true := hwk
            clear h8
            go_wp2_with fail
            refine ⟨⟨k + 1, by omega, by go_num, by rw [HK.out, HY.out, ← HW.out, HHB.out]; rfl⟩, ?_⟩
            simp [Go.RowKit.intOf]; omega
          · have hwk : (((m : Int) / 2 ^ k).tmod 2 == 0) = false := hwk
            obtain ⟨v, HV⟩ : ∃ v, Hid (bitOf 98 k = v) := ⟨_, rfl⟩
            have hb1 : ((k : Int) / 2 % 2 == 1) = v := by rw [← HV.out]; exact bit_walk 1 k 2 rfl
            try rw [Int.ediv_one] at hb1
            clear h8
            go_wp2_with fail
            refine ⟨⟨k + 1, by omega, by go_num, by rw [HK.out, HY.out, ← HW.out, HHB.out, HV.out]; rfl⟩, ?_⟩
            simp [Go.RowKit.intOf]; omega
      · obtain rfl : k = 8 := by omega
        go_wp2_with fail
        go_ret2
        exact ⟨at_ + 1, by rw [HF.out]; rfl, hat, rfl, 0, rfl⟩
  · have hc : s[at_].toNat = 99 := hc
    have HF : Hid (holdsS 3 (.thing 2) m = allTo (fun w => !hasW (m : Int) w || bitOf 99 w) 8) := HF.out
    obtain ⟨F, HFF⟩ : ∃ F : Nat → Bool, Hid ((fun w => !hasW (m : Int) w || bitOf 99 w) = F) := ⟨_, rfl⟩
    rw [HFF.out] at HF
    have HS := Lib.hid (allTo_succ F)
    go_enter Try.func71, Try.ntmps71
    go_wp2_with fail
    go_loop [10, 11] (fun v i => ∃ k : Nat, k ≤ 8 ∧ i = .int .i64 k ∧ v = .bool (allTo F k)) (fun _ i => 8 - (Go.RowKit.intOf i).toNat)
    case atStart => exact ⟨0, Nat.zero_le _, rfl, rfl⟩
    case round =>
      obtain ⟨k, hk, rfl, rfl⟩ := hrel
      by_cases hlt : k < 8
      · have HK := Lib.hid (HS.out k)
        have HW := Lib.hid (congrFun HFF.out k)
        obtain ⟨y, HY⟩ : ∃ y, Hid (allTo F k = y) := ⟨_, rfl⟩
        obtain ⟨hb, HHB⟩ : ∃ y, Hid (hasW (m : Int) k = y) := ⟨_, rfl⟩
        have hwk := has_walk HHB.out
        have h8 : k = 0 ∨ k = 1 ∨ k = 2 ∨ k = 3 ∨ k = 4 ∨ k = 5 ∨ k = 6 ∨ k = 7 := by omega
        rw [HY.out]
        clear hk
        cases y
        · clear hwk h8
          go_wp2_with fail
          refine ⟨⟨k + 1, by omega, by go_num, by rw [HK.out, HY.out]; rfl⟩, ?_⟩
          simp [Go.RowKit.intOf]; omega
        · cases hb
          · have hwk : (((m : Int) / 2 ^ k).tmod 2 == 0) = true := hwk
            clear h8
            go_wp2_with fail
            refine ⟨⟨k + 1, by omega, by go_num, by rw [HK.out, HY.out, ← HW.out, HHB.out]; rfl⟩, ?_⟩
            simp [Go.RowKit.intOf]; omega
          · have hwk : (((m : Int) / 2 ^ k).tmod 2 == 0) = false := hwk
            obtain ⟨v, HV⟩ : ∃ v, Hid (bitOf 99 k = v) := ⟨_, rfl⟩
            have hb1 : ((k : Int) / 4 % 2 == 1) = v := by rw [← HV.out]; exact bit_walk 2 k 4 rfl
            try rw [Int.ediv_one] at hb1
            clear h8
            go_wp2_with fail
            refine ⟨⟨k + 1, by omega, by go_num, by rw [HK.out, HY.out, ← HW.out, HHB.out, HV.out]; rfl⟩, ?_⟩
            simp [Go.RowKit.intOf]; omega
      · obtain rfl : k = 8 := by omega
        go_wp2_with fail
        go_ret2
        exact ⟨at_ + 1, by rw [HF.out]; rfl, hat, rfl, 0, rfl⟩
end Go.Proofs.Ytmdogidflaplkaa
