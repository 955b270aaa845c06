/-
  What the proofs of this seat's statements share (Srg, Sho, Shp, Shq, Spc, Spd, Drs).
-/
import Derived.Test.YtbiifcdlfmeahaaU15

namespace Go.Proofs.Ytbiifcdlfmeahaa
open Go.RowKit

set_option maxRecDepth 100000 in
set_option maxHeartbeats 8000000 in
theorem sRd_letter (t : Int) (s : ByteArray) (at_ : Nat) (w : World) (hs : s.size ≤ 1048576) (hat : at_ < s.size) (i : Nat) (hc : s[at_].toNat = 97 + i) (h1 : 1 ≤ t) (h3 : t ≤ 3) (hi : (i : Int) < t) :
    Calls Try.prog 72 #[.int .i64 t, .string s, .int .i64 at_] w (OwnPost3 (wordTo (97 + i) (nWorlds t)) at_ w) := by
  have hd : (at_ : Int) < (s.size : Int) := by omega
  have hd0 : (0 : Int) ≤ (at_ : Int) := by omega
  have h : (t = 1 ∧ i = 0) ∨ (t = 2 ∧ i = 0) ∨ (t = 2 ∧ i = 1) ∨ (t = 3 ∧ i = 0) ∨ (t = 3 ∧ i = 1) ∨ (t = 3 ∧ i = 2) := by omega
  clear h1 h3 hi
  rcases h with ⟨rfl, rfl⟩ | ⟨rfl, rfl⟩ | ⟨rfl, rfl⟩ | ⟨rfl, rfl⟩ | ⟨rfl, rfl⟩ | ⟨rfl, rfl⟩
  · have hc : s[at_].toNat = 97 := hc
    have hb : Hid (∀ k : Nat, k < 2 → k = 0 ∨ k = 1 ∨ k = 2 ∨ k = 3 ∨ k = 4 ∨ k = 5 ∨ k = 6 ∨ k = 7) := fun k hk => by omega
    go_enter Try.func72, Try.ntmps72
    go_wp2_with fail
    go_loop [9, 10] (fun v i => ∃ k : Nat, k ≤ 2 ∧ i = .int .i64 k ∧ v = .int .i64 (wordTo 97 k)) (fun _ i => 2 - (Go.RowKit.intOf i).toNat)
    case atStart => exact ⟨0, Nat.zero_le _, rfl, rfl⟩
    case round =>
      obtain ⟨k, hk, rfl, rfl⟩ := hrel
      by_cases hlt : k < 2
      · have h8 := hb.out k hlt
        clear hk
        rcases h8 with rfl | rfl | rfl | rfl | rfl | rfl | rfl | rfl
        all_goals first
          | (exfalso; revert hlt; decide)
          | (clear hlt
             go_wp2_with fail
             exact ⟨⟨_, by decide, rfl, by first | rfl | (rw [IntWalk.wrap64_in _ ⟨by decide, by decide⟩]; rfl)⟩, by decide⟩)
      · obtain rfl : k = 2 := by omega
        go_wp2_with fail
        go_ret3
        exact ⟨_, rfl, Owns.lit _ _ [((wordTo 97 2 : Nat) : Int)] (Nat.le_refl _) (by simp [maxLen]), (Below.refl _ _).alloc (Nat.le_refl _) _⟩
  · have hc : s[at_].toNat = 97 := hc
    have hb : Hid (∀ k : Nat, k < 4 → k = 0 ∨ k = 1 ∨ k = 2 ∨ k = 3 ∨ k = 4 ∨ k = 5 ∨ k = 6 ∨ k = 7) := fun k hk => by omega
    go_enter Try.func72, Try.ntmps72
    go_wp2_with fail
    go_loop [9, 10] (fun v i => ∃ k : Nat, k ≤ 4 ∧ i = .int .i64 k ∧ v = .int .i64 (wordTo 97 k)) (fun _ i => 4 - (Go.RowKit.intOf i).toNat)
    case atStart => exact ⟨0, Nat.zero_le _, rfl, rfl⟩
    case round =>
      obtain ⟨k, hk, rfl, rfl⟩ := hrel
      by_cases hlt : k < 4
      · have h8 := hb.out k hlt
        clear hk
        rcases h8 with rfl | rfl | rfl | rfl | rfl | rfl | rfl | rfl
        all_goals first
          | (exfalso; revert hlt; decide)
          | (clear hlt
             go_wp2_with fail
             exact ⟨⟨_, by decide, rfl, by first | rfl | (rw [IntWalk.wrap64_in _ ⟨by decide, by decide⟩]; rfl)⟩, by decide⟩)
      · obtain rfl : k = 4 := by omega
        go_wp2_with fail
        go_ret3
        exact ⟨_, rfl, Owns.lit _ _ [((wordTo 97 4 : Nat) : Int)] (Nat.le_refl _) (by simp [maxLen]), (Below.refl _ _).alloc (Nat.le_refl _) _⟩
  · have hc : s[at_].toNat = 98 := hc
    have hb : Hid (∀ k : Nat, k < 4 → k = 0 ∨ k = 1 ∨ k = 2 ∨ k = 3 ∨ k = 4 ∨ k = 5 ∨ k = 6 ∨ k = 7) := fun k hk => by omega
    go_enter Try.func72, Try.ntmps72
    go_wp2_with fail
    go_loop [9, 10] (fun v i => ∃ k : Nat, k ≤ 4 ∧ i = .int .i64 k ∧ v = .int .i64 (wordTo 98 k)) (fun _ i => 4 - (Go.RowKit.intOf i).toNat)
    case atStart => exact ⟨0, Nat.zero_le _, rfl, rfl⟩
    case round =>
      obtain ⟨k, hk, rfl, rfl⟩ := hrel
      by_cases hlt : k < 4
      · have h8 := hb.out k hlt
        clear hk
        rcases h8 with rfl | rfl | rfl | rfl | rfl | rfl | rfl | rfl
        all_goals first
          | (exfalso; revert hlt; decide)
          | (clear hlt
             go_wp2_with fail
             exact ⟨⟨_, by decide, rfl, by first | rfl | (rw [IntWalk.wrap64_in _ ⟨by decide, by decide⟩]; rfl)⟩, by decide⟩)
      · obtain rfl : k = 4 := by omega
        go_wp2_with fail
        go_ret3
        exact ⟨_, rfl, Owns.lit _ _ [((wordTo 98 4 : Nat) : Int)] (Nat.le_refl _) (by simp [maxLen]), (Below.refl _ _).alloc (Nat.le_refl _) _⟩
  · have hc : s[at_].toNat = 97 := hc
    have hb : Hid (∀ k : Nat, k < 8 → k = 0 ∨ k = 1 ∨ k = 2 ∨ k = 3 ∨ k = 4 ∨ k = 5 ∨ k = 6 ∨ k = 7) := fun k hk => by omega
    go_enter Try.func72, Try.ntmps72
    go_wp2_with fail
    go_loop [9, 10] (fun v i => ∃ k : Nat, k ≤ 8 ∧ i = .int .i64 k ∧ v = .int .i64 (wordTo 97 k)) (fun _ i => 8 - (Go.RowKit.intOf i).toNat)
    case atStart => exact ⟨0, Nat.zero_le _, rfl, rfl⟩
    case round =>
      obtain ⟨k, hk, rfl, rfl⟩ := hrel
      by_cases hlt : k < 8
      · have h8 := hb.out k hlt
        clear hk
        rcases h8 with rfl | rfl | rfl | rfl | rfl | rfl | rfl | rfl
        all_goals first
          | (exfalso; revert hlt; decide)
          | (clear hlt
             go_wp2_with fail
             exact ⟨⟨_, by decide, rfl, by first | rfl | (rw [IntWalk.wrap64_in _ ⟨by decide, by decide⟩]; rfl)⟩, by decide⟩)
      · obtain rfl : k = 8 := by omega
        go_wp2_with fail
        go_ret3
        exact ⟨_, rfl, Owns.lit _ _ [((wordTo 97 8 : Nat) : Int)] (Nat.le_refl _) (by simp [maxLen]), (Below.refl _ _).alloc (Nat.le_refl _) _⟩
  · have hc : s[at_].toNat = 98 := hc
    have hb : Hid (∀ k : Nat, k < 8 → k = 0 ∨ k = 1 ∨ k = 2 ∨ k = 3 ∨ k = 4 ∨ k = 5 ∨ k = 6 ∨ k = 7) := fun k hk => by omega
    go_enter Try.func72, Try.ntmps72
    go_wp2_with fail
    go_loop [9, 10] (fun v i => ∃ k : Nat, k ≤ 8 ∧ i = .int .i64 k ∧ v = .int .i64 (wordTo 98 k)) (fun _ i => 8 - (Go.RowKit.intOf i).toNat)
    case atStart => exact ⟨0, Nat.zero_le _, rfl, rfl⟩
    case round =>
      obtain ⟨k, hk, rfl, rfl⟩ := hrel
      by_cases hlt : k < 8
      · have h8 := hb.out k hlt
        clear hk
        rcases h8 with rfl | rfl | rfl | rfl | rfl | rfl | rfl | rfl
        all_goals first
          | (exfalso; revert hlt; decide)
          | (clear hlt
             go_wp2_with fail
             exact ⟨⟨_, by decide, rfl, by first | rfl | (rw [IntWalk.wrap64_in _ ⟨by decide, by decide⟩]; rfl)⟩, by decide⟩)
      · obtain rfl : k = 8 := by omega
        go_wp2_with fail
        go_ret3
        exact ⟨_, rfl, Owns.lit _ _ [((wordTo 98 8 : Nat) : Int)] (Nat.le_refl _) (by simp [maxLen]), (Below.refl _ _).alloc (Nat.le_refl _) _⟩
  · have hc : s[at_].toNat = 99 := hc
    have hb : Hid (∀ k : Nat, k < 8 → k = 0 ∨ k = 1 ∨ k = 2 ∨ k = 3 ∨ k = 4 ∨ k = 5 ∨ k = 6 ∨ k = 7) := fun k hk => by omega
    go_enter Try.func72, Try.ntmps72
    go_wp2_with fail
    go_loop [9, 10] (fun v i => ∃ k : Nat, k ≤ 8 ∧ i = .int .i64 k ∧ v = .int .i64 (wordTo 99 k)) (fun _ i => 8 - (Go.RowKit.intOf i).toNat)
    case atStart => exact ⟨0, Nat.zero_le _, rfl, rfl⟩
    case round =>
      obtain ⟨k, hk, rfl, rfl⟩ := hrel
      by_cases hlt : k < 8
      · have h8 := hb.out k hlt
        clear hk
        rcases h8 with rfl | rfl | rfl | rfl | rfl | rfl | rfl | rfl
        all_goals first
          | (exfalso; revert hlt; decide)
          | (clear hlt
             go_wp2_with fail
             exact ⟨⟨_, by decide, rfl, by first | rfl | (rw [IntWalk.wrap64_in _ ⟨by decide, by decide⟩]; rfl)⟩, by decide⟩)
      · obtain rfl : k = 8 := by omega
        go_wp2_with fail
        go_ret3
        exact ⟨_, rfl, Owns.lit _ _ [((wordTo 99 8 : Nat) : Int)] (Nat.le_refl _) (by simp [maxLen]), (Below.refl _ _).alloc (Nat.le_refl _) _⟩
end Go.Proofs.Ytbiifcdlfmeahaa

namespace Go.Proofs.Ytbiifcdlfmeahaa
open Go.RowKit

def SHold (t : Int) (s : ByteArray) (x : Sen) (rest : List Nat) (m : Nat) (w : World) (e : Ending) (w' : World) : Prop :=
  ∃ a2 : Nat, e = .returned (.tuple #[.bool (holdsS t x m), .int .i64 a2]) ∧ a2 ≤ s.size ∧ (bytesN s).drop a2 = rest ∧ ∃ q, w' = w.drewN q
def allTo (f : Nat → Bool) (k : Nat) : Bool := (List.range k).all f
theorem allTo_succ (f : Nat → Bool) (k : Nat) : allTo f (k + 1) = (allTo f k && f k) := by
  unfold allTo; rw [List.range_succ, List.all_append]; simp
theorem allTo_zero (f : Nat → Bool) : allTo f 0 = true := rfl
theorem hasW_div (m k : Nat) : hasW (m : Int) k = decide (m / 2 ^ k % 2 = 1) := by
  unfold hasW; rw [Int.toNat_natCast, Nat.testBit_eq_decide_div_mod_eq]
theorem has_walk {m k : Nat} {b : Bool} (h : hasW (m : Int) k = b) : (((m : Int) / 2 ^ k).tmod 2 == 0) = !b := by
  have e4 : (2 : Int) ^ k = ((2 ^ k : Nat) : Int) := by push_cast; rfl
  rw [e4, tmod2_nat]
  rw [hasW_div] at h
  subst h
  rcases Nat.mod_two_eq_zero_or_one (m / 2 ^ k) with h | h <;> rw [h] <;> rfl
theorem bit_walk (i k : Nat) (d : Int) (hd : d = ((2 ^ i : Nat) : Int)) : ((k : Int) / d % 2 == 1) = bitOf (97 + i) k := by
  subst hd
  rw [show (k : Int) / ((2 ^ i : Nat) : Int) % 2 = ((k / 2 ^ i % 2 : Nat) : Int) by push_cast; rfl]
  unfold bitOf
  rw [decide_eq_false (by omega : ¬ 97 + i = 49), decide_eq_false (by omega : ¬ 97 + i = 48), show 97 + i - 97 = i by omega]
  rcases Nat.mod_two_eq_zero_or_one (k / 2 ^ i) with h | h <;> rw [h] <;> rfl
theorem wordTo_bit (c : Nat) : ∀ n w, (wordTo c n).testBit w = (decide (w < n) && bitOf c w)
  | 0, w => by simp [wordTo]
  | n + 1, w => by
    have ih := wordTo_bit c n w
    unfold wordTo
    rw [Nat.testBit_or, ih]
    by_cases e : w = n
    · subst e
      cases h : bitOf c w
      · simp
      · simp
    · have h2 : (if bitOf c n = true then 2 ^ n else 0).testBit w = false := by
        split
        · rw [Nat.testBit_two_pow]; simp; omega
        · simp
      rw [h2]
      cases bitOf c w
      · simp
      · simp; omega
theorem thing_all {t : Int} {i m : Nat} (h1 : 1 ≤ t) (h3 : t ≤ 3) (hi : (i : Int) < t) (hm : (m : Int) ≤ allOf t) : holdsS t (.thing i) m = allTo (fun w => !hasW (m : Int) w || bitOf (97 + i) w) (nWorlds t) := by
  show withinB (m : Int) (letterSet t i) = _
  rw [← word_thing h1 h3 hi, Bool.eq_iff_iff, within_iff (by omega)]
  unfold allTo
  rw [List.all_eq_true]
  constructor
  · intro h w hw
    have := h w
    rw [Int.toNat_natCast, Int.toNat_natCast, wordTo_bit] at this
    unfold hasW
    rw [Int.toNat_natCast]
    cases hb : m.testBit w
    · rfl
    · have := this hb
      rw [Bool.and_eq_true] at this
      rw [this.2]; rfl
  · intro h w hb
    have hlt := has_lt h1 h3 (s := (m : Int)) (by omega) hm (w := w) hb
    have := h w (List.mem_range.2 hlt)
    unfold hasW at this
    rw [hb] at this
    rw [Int.toNat_natCast, wordTo_bit, decide_eq_true hlt]
    simpa using this


end Go.Proofs.Ytbiifcdlfmeahaa

namespace Go.Proofs.Ytbiifcdlfmeahaa
open Go.RowKit

theorem two_pow_cast (k : Nat) : (2 : Int) ^ k = ((2 ^ k : Nat) : Int) := by push_cast; rfl
theorem wrap_pow {k : Nat} (h : k < 8) : wrap64 ((2 : Int) ^ k) = ((2 ^ k : Nat) : Int) := by
  have : 2 ^ k ≤ 2 ^ 7 := Nat.pow_le_pow_right (by omega) (by omega)
  rw [two_pow_cast]
  obtain ⟨p, hp⟩ : ∃ p, 2 ^ k = p := ⟨_, rfl⟩
  rw [hp] at this ⊢
  exact IntWalk.wrap64_in _ ⟨by omega, by omega⟩
def NoneF (t : Int) (x : Sen) (m : Nat) (w : Nat) : Bool := !hasW (m : Int) w || !holdsS t x (worldS w)
theorem no_all (t : Int) (x : Sen) (m : Nat) : holdsS t (.no x) m = allTo (NoneF t x m) (nWorlds t) := rfl
theorem ask_all (t : Int) (x : Sen) (m : Nat) : holdsS t (.ask x) m = (holdsS t x m || allTo (NoneF t x m) (nWorlds t)) := rfl


end Go.Proofs.Ytbiifcdlfmeahaa

namespace Go.Proofs.Ytbiifcdlfmeahaa
open Go.RowKit

def IfF (t : Int) (x y : Sen) (m : Nat) (u : Nat) : Bool := !withinB (u : Int) (m : Int) || !holdsS t x (u : Int) || holdsS t y (u : Int)
theorem if_all (t : Int) (x y : Sen) (m : Nat) : holdsS t (.if_ x y) m = allTo (IfF t x y m) (m + 1) := by
  show (List.range ((m : Int).toNat + 1)).all _ = _
  rw [Int.toNat_natCast]; rfl

end Go.Proofs.Ytbiifcdlfmeahaa

namespace Go.Proofs.Ytbiifcdlfmeahaa
open Go.RowKit

theorem start_thing {t : Int} {c : Nat} (h : startB t c = true) (e1 : c ≠ 49) (e2 : c ≠ 48) (e3 : c ≠ 33) (e4 : c ≠ 63) (e5 : c ≠ 40) : ∃ i : Nat, c = 97 + i ∧ (i : Int) < t := by
  unfold startB at h
  simp only [Bool.or_eq_true, decide_eq_true_eq] at h
  exact ⟨c - 97, by omega, by omega⟩
theorem read_thing {t : Int} {i k : Nat} {l : List Nat} (hi : (i : Int) < t) : readS t (k + 1) ((97 + i) :: l) = some (.thing i, l) := by
  unfold readS
  rw [if_neg (by omega), if_neg (by omega), if_pos ⟨by omega, by omega⟩]
  congr 3; omega

theorem sReads (t : Int) (s : ByteArray) (hs : s.size ≤ 1048576) (h1 : 1 ≤ t) (h3 : t ≤ 3) : ∀ k, SReads t k s := by
  intro k
  induction k with
  | zero =>
    intro at_ w hle hk
    exact sRd_end t s at_ w hs (by omega)
  | succ k ih =>
    intro at_ w hle hk
    by_cases hlt : at_ < s.size
    · rw [bytesN_drop hlt]
      rcases hb : startB t s[at_].toNat with _ | _
      · rw [read_no t k _ _ hb]
        exact sRd_bad t s at_ w hs h1 h3 hlt hb
      by_cases e49 : s[at_].toNat = 49
      · rw [e49]; exact sRd_one t s at_ w hs h1 h3 hlt e49
      by_cases e48 : s[at_].toNat = 48
      · rw [e48]; exact sRd_zero t s at_ w hs hlt e48
      have hn : ∀ {x : Sen}, (issueS t x).length ≤ 70 := fun {x} => (issue_ne (sen_issue h1 h3 x)).2
      by_cases e33 : s[at_].toNat = 33
      · rw [e33, read_no33]
        rcases h : readS t k ((bytesN s).drop (at_ + 1)) with _ | ⟨x, rest⟩
        · exact sRd_no_none t s at_ w hs hlt e33 (fun W => sreads_none ih W (by omega) (by omega) h)
        · exact sRd_no t s at_ w hs hlt e33 x hn rest (fun W => sreads_some ih W (by omega) (by omega) h)
      by_cases e63 : s[at_].toNat = 63
      · rw [e63, read_ask63]
        rcases h : readS t k ((bytesN s).drop (at_ + 1)) with _ | ⟨x, rest⟩
        · exact sRd_ask_none t s at_ w hs hlt e63 (fun W => sreads_none ih W (by omega) (by omega) h)
        · exact sRd_ask t s at_ w hs hlt e63 x hn rest (fun W => sreads_some ih W (by omega) (by omega) h)
      by_cases e40 : s[at_].toNat = 40
      · rw [e40, read_pair40]
        rcases h : readS t k ((bytesN s).drop (at_ + 1)) with _ | ⟨x, _ | ⟨m, l⟩⟩
        · rw [show pairS t k ((bytesN s).drop (at_ + 1)) = none by unfold pairS; rw [h]]
          exact sRd_pair_none t s at_ w hs hlt e40 (fun W => sreads_none ih W (by omega) (by omega) h)
        · rw [show pairS t k ((bytesN s).drop (at_ + 1)) = none by unfold pairS; rw [h]]
          exact sRd_pair_mid t s at_ w hs hlt e40 x (fun W => sreads_some ih W (by omega) (by omega) h)
        · have hi : ∀ W, Calls Try.prog 72 #[.int .i64 t, .string s, .int .i64 ((at_ + 1 : Nat) : Int)] W (SSome t s x (m :: l) W) := fun W => sreads_some ih W (by omega) (by omega) h
          have hlen : ∀ a2 : Nat, a2 ≤ s.size → (bytesN s).drop a2 = l → s.size - a2 ≤ k := fun a2 ha hd => by
            have := readS_less t k _ _ _ h
            rw [List.length_drop, bytesN_len] at this
            have h2 : l.length = s.size - a2 := by rw [← hd, List.length_drop, bytesN_len]
            simp only [List.length_cons] at this
            omega
          rcases h2 : readS t k l with _ | ⟨y, _ | ⟨e0, r⟩⟩
          · rw [show pairS t k ((bytesN s).drop (at_ + 1)) = none by unfold pairS; rw [h]; simp only; rw [h2]]
            exact sRd_pair_snd t s at_ w hs hlt e40 x m l hi (fun a2 W ha hd => sreads_none ih W ha (hlen a2 ha hd) (by rw [hd]; exact h2))
          · rw [show pairS t k ((bytesN s).drop (at_ + 1)) = none by unfold pairS; rw [h]; simp only; rw [h2]]
            exact sRd_pair_end t s at_ w hs hlt e40 x m l hi y (fun a2 W ha hd => sreads_some ih W ha (hlen a2 ha hd) (by rw [hd]; exact h2))
          · have hi2 : ∀ (a2 : Nat) W, a2 ≤ s.size → (bytesN s).drop a2 = l → Calls Try.prog 72 #[.int .i64 t, .string s, .int .i64 a2] W (SSome t s y (e0 :: r) W) := fun a2 W ha hd => sreads_some ih W ha (hlen a2 ha hd) (by rw [hd]; exact h2)
            by_cases he : e0 = 41
            · subst he
              rcases hm : (decide (m = 38) || decide (m = 124) || decide (m = 62)) with _ | _
              · rw [show pairS t k ((bytesN s).drop (at_ + 1)) = none by unfold pairS; rw [h]; simp only; rw [h2]; simp only [if_true]; rw [twoS_none hm]; rfl]
                exact sRd_pair_sign t s at_ w hs hlt e40 x m l hi y r hm hi2
              · have hm3 : m = 38 ∨ m = 124 ∨ m = 62 := by simpa [or_assoc] using hm
                rcases hm3 with rfl | rfl | rfl
                · rw [show pairS t k ((bytesN s).drop (at_ + 1)) = some (.and_ x y, r) by unfold pairS; rw [h]; simp only; rw [h2]; rfl]
                  exact sRd_pair_and_ t s at_ w hs hlt e40 x l hi y r hn hn hi2
                · rw [show pairS t k ((bytesN s).drop (at_ + 1)) = some (.or_ x y, r) by unfold pairS; rw [h]; simp only; rw [h2]; rfl]
                  exact sRd_pair_or_ t s at_ w hs hlt e40 x l hi y r hn hn hi2
                · rw [show pairS t k ((bytesN s).drop (at_ + 1)) = some (.if_ x y, r) by unfold pairS; rw [h]; simp only; rw [h2]; rfl]
                  exact sRd_pair_if_ t s at_ w hs hlt e40 x l hi y r hn hn hi2
            · rw [show pairS t k ((bytesN s).drop (at_ + 1)) = none by unfold pairS; rw [h]; simp only; rw [h2]; simp only; rw [if_neg he]]
              exact sRd_pair_open t s at_ w hs hlt e40 x m l hi y e0 r he hi2
      · obtain ⟨i, hi, hit⟩ := start_thing hb e49 e48 e33 e63 e40
        rw [hi, read_thing hit]
        refine (sRd_letter t s at_ w hs hlt i hi h1 h3 hit).mono ?_
        rintro e w' ⟨v, rfl, ho, hb2⟩
        rw [word_thing h1 h3 hit] at ho
        exact ⟨v, at_ + 1, rfl, hlt, rfl, ho, hb2⟩
    · rw [List.drop_eq_nil_of_le (by rw [bytesN_len]; omega), read_empty]
      exact sRd_end t s at_ w hs (by omega)

end Go.Proofs.Ytbiifcdlfmeahaa

namespace Go.Proofs.Ytbiifcdlfmeahaa
open Go.RowKit

theorem senT_bad {t : Int} {s : ByteArray} (h : t < 1 ∨ 3 < t ∨ 60 < s.size) : senT t s = none := by
  unfold senT senOf; rw [if_neg (by rw [bytesN_len]; omega)]
theorem senT_none {t : Int} {s : ByteArray} (h1 : 1 ≤ t) (h3 : t ≤ 3) (hl : s.size ≤ 60) (h : readS t s.size (bytesN s) = none) : senT t s = none :=
  senOf_none h1 h3 (by rw [bytesN_len]; exact hl) (by rw [bytesN_len]; exact h)
theorem senT_more {t : Int} {s : ByteArray} {x : Sen} {c : Nat} {r : List Nat} (h1 : 1 ≤ t) (h3 : t ≤ 3) (hl : s.size ≤ 60) (h : readS t s.size (bytesN s) = some (x, c :: r)) : senT t s = none :=
  senOf_more h1 h3 (by rw [bytesN_len]; exact hl) (by rw [bytesN_len]; exact h)
theorem senT_some {t : Int} {s : ByteArray} {x : Sen} (h1 : 1 ≤ t) (h3 : t ≤ 3) (hl : s.size ≤ 60) (h : readS t s.size (bytesN s) = some (x, [])) : senT t s = some x :=
  senOf_some h1 h3 (by rw [bytesN_len]; exact hl) (by rw [bytesN_len]; exact h)
theorem read_of_sen {t : Int} {s : ByteArray} {x : Sen} (h : senT t s = some x) : readS t s.size (bytesN s) = some (x, []) := by
  obtain ⟨h1, h3, hl, hok, ht⟩ := senT_ok h
  rcases hr : readS t s.size (bytesN s) with _ | ⟨y, _ | ⟨c, r⟩⟩
  · rw [senT_none h1 h3 hl hr] at h; cases h
  · rw [senT_some h1 h3 hl hr] at h; cases h; rfl
  · rw [senT_more h1 h3 hl hr] at h; cases h
theorem sRead_some {t : Int} {s : ByteArray} {x : Sen} (h : senT t s = some x) (w : World) : Calls Try.prog 72 #[.int .i64 t, .string s, .int .i64 0] w (SSome t s x [] w) := by
  obtain ⟨h1, h3, hl, hok, ht⟩ := senT_ok h
  have := sReads t s (by omega) h1 h3 s.size 0 w (by omega) (by omega)
  rw [List.drop_zero, read_of_sen h] at this
  exact this
set_option maxRecDepth 100000 in
set_option maxHeartbeats 4000000 in
theorem sSentence (t : Int) (s : ByteArray) (w : World) (hs : s.size ≤ 9223372036854775807) :
    Calls Try.prog 40 #[.int .i64 t, .string s] w fun e w' => e = .returned (.bool (isT t s)) ∧ Below w.heap.size w w' := by
  have hnot : ∀ (x : Bool) (w : World), (Op.unary .not (.bool x)).run Try.prog w = .ok (.bool (!x)) w := fun _ _ => rfl
  by_cases ht : t < 1 ∨ 3 < t
  · rw [show isT t s = false by unfold isT; rw [senT_bad (by omega)]; rfl]
    go_enter Try.func40, Try.ntmps40
    go_wp2_with fail
    refine (sIn_no _ _ _ _ ht).mono ?_
    rintro e w' ⟨rfl, rfl⟩
    go_wp2_with fail
    go_ret
    exact ⟨rfl, Below.refl _ _⟩
  by_cases hl : 60 < s.size
  · rw [show isT t s = false by unfold isT; rw [senT_bad (by omega)]; rfl]
    have hd : decide ((60 : Int) < (s.size : Int)) = true := decide_eq_true (by omega)
    go_enter Try.func40, Try.ntmps40
    go_wp2_with fail
    refine (sIn_yes _ _ _ _ (by omega) (by omega)).mono ?_
    rintro e w' ⟨rfl, rfl⟩
    go_wp2_with fail
    go_ret
    exact ⟨rfl, Below.refl _ _⟩
  have h1 : 1 ≤ t := by omega
  have h3 : t ≤ 3 := by omega
  have hd : decide ((60 : Int) < (s.size : Int)) = false := decide_eq_false (by omega)
  have hr := sReads t s (by omega) h1 h3 s.size 0
  rcases hrd : readS t s.size (bytesN s) with _ | ⟨x, rest⟩
  · have HI : Hid (∀ W, Calls Try.prog 72 #[.int .i64 t, .string s, .int .i64 0] W (SNone W)) := fun W => by
      have := hr W (by omega) (by omega)
      rw [List.drop_zero, hrd] at this; exact this
    rw [show isT t s = false by unfold isT; rw [senT_none h1 h3 (by omega) hrd]; rfl]
    have he : ((-1 : Int) == (s.size : Int)) = false := by rw [beq_eq_false_iff_ne]; omega
    clear hr hrd ht hl
    go_enter Try.func40, Try.ntmps40
    go_wp2_with fail
    refine (sIn_yes _ _ _ _ (by omega) (by omega)).mono ?_
    rintro e w' ⟨rfl, rfl⟩
    go_wp2_with fail
    refine (HI.out _).mono ?_
    rintro e w1 ⟨A, n, c, rfl, hb⟩
    have HB := Lib.hid hb
    clear hb
    go_wp2_with fail
    go_ret
    exact ⟨rfl, HB.out⟩
  · have HI : Hid (∀ W, Calls Try.prog 72 #[.int .i64 t, .string s, .int .i64 0] W (SSome t s x rest W)) := fun W => by
      have := hr W (by omega) (by omega)
      rw [List.drop_zero, hrd] at this; exact this
    have hv : isT t s = decide (rest = []) := by
      rcases rest with _ | ⟨c, r⟩
      · unfold isT; rw [senT_some h1 h3 (by omega) hrd]; rfl
      · unfold isT; rw [senT_more h1 h3 (by omega) hrd]; rfl
    have HV := Lib.hid hv
    clear hr hrd ht hl hv
    go_enter Try.func40, Try.ntmps40
    go_wp2_with fail
    refine (sIn_yes _ _ _ _ (by omega) (by omega)).mono ?_
    rintro e w' ⟨rfl, rfl⟩
    go_wp2_with fail
    refine (HI.out _).mono ?_
    rintro e w1 ⟨v, a2, rfl, ha2, hd2, ho, hb⟩
    obtain ⟨A1, c1, rfl, _, _, _, _⟩ := ho.form
    have HB := Lib.hid hb
    have HE : Hid (((a2 : Int) == (s.size : Int)) = isT t s) := by
      unfold Hid
      rw [HV.out, Bool.eq_iff_iff, beq_iff_eq, decide_eq_true_eq]
      constructor
      · intro h
        rw [← hd2]
        exact List.drop_eq_nil_of_le (by rw [bytesN_len]; omega)
      · intro h
        rw [h] at hd2
        have := drop_end hd2 ha2
        omega
    clear hb ho hd2
    go_wp2_with fail
    go_ret
    exact ⟨ret_bool HE.out, HB.out⟩
theorem sSentence_is {t : Int} {s : ByteArray} {b : Bool} (h : Hid (isT t s = b)) (w : World) (hs : s.size ≤ 9223372036854775807) :
    Calls Try.prog 40 #[.int .i64 t, .string s] w fun e w' => e = .returned (.bool b) ∧ Below w.heap.size w w' :=
  (sSentence t s w hs).mono fun _ _ ⟨he, hw⟩ => ⟨he.trans (ret_bool h.out), hw⟩
theorem isT_none {t : Int} {s : ByteArray} (h : senT t s = none) : isT t s = false := (issueT_none h).2
theorem isT_some {t : Int} {s : ByteArray} {x : Sen} (h : senT t s = some x) : isT t s = true := (issueT_some h).2

theorem supports_world {t : Int} {s : ByteArray} {x : Sen} {k : Nat} (h : senT t s = some x) (hk : k < nWorlds t) : supportsT t ((2 ^ k : Nat) : Int) s = holdsS t x (worldS k) := by
  obtain ⟨h1, h3, _⟩ := senT_ok h
  have := world_ok h1 h3 hk
  unfold supportsT
  rw [h]
  show (setOkB t (worldS k) && _) = _
  rw [setOk_of h1 h3 this.1 this.2]; rfl
theorem true_add {t : Int} {x : Sen} {k : Nat} (h : holdsS t x (worldS k) = true) : trueTo t x k + 2 ^ k = trueTo t x (k + 1) := by
  conv => rhs; unfold trueTo
  rw [if_pos h]

end Go.Proofs.Ytbiifcdlfmeahaa

namespace Go.Proofs.Ytbiifcdlfmeahaa
open Go.RowKit

/-- A new row of strings is still there behind a draw. -/
theorem lit_str {w w' : World} {g : Nat} (xs : List ByteArray) {t : TypeId} (hg : (w.alloc (.cells (xs.map Value.string).toArray t)).grownBy w' (some g)) (hne : g < w.heap.size) {k : Int} (h0 : 0 ≤ k) (hk : k < xs.length) :
    ∃ x : ByteArray, x ∈ xs ∧ w'.cell? ⟨w.heap.size, k.toNat, none⟩ = some (.string x) := by
  have hb : w'.heap[w.heap.size]? = (w.alloc (.cells (xs.map Value.string).toArray t)).heap[w.heap.size]? := hg.block w.heap.size (by simp) (fun e => by injection e; omega)
  have hi : k.toNat < xs.length := by omega
  refine ⟨xs[k.toNat], List.getElem_mem hi, ?_⟩
  have h2 : (w.alloc (.cells (xs.map Value.string).toArray t)).heap[w.heap.size]? = some (.cells (xs.map Value.string).toArray t (0, 0)) := heap_alloc_new w _
  rw [h2] at hb
  rw [cell_of_row w' w.heap.size k.toNat _ t (0, 0) hb]
  simp [hi]
def StrPost (hi : Nat) (g u : Nat) (w : World) (e : Ending) (w' : World) : Prop := ∃ s : ByteArray, e = .returned (.string s) ∧ 1 ≤ s.size ∧ s.size ≤ hi ∧ Rd w' g u ∧ w.grownBy w' (some g)

def words6 : List ByteArray := [⟨#[97]⟩, ⟨#[98]⟩, ⟨#[99]⟩, ⟨#[97]⟩, ⟨#[48]⟩, ⟨#[49]⟩]
theorem words6_size {x : ByteArray} (h : x ∈ words6) : x.size = 1 := by
  simp only [words6, List.mem_cons, List.not_mem_nil, or_false] at h
  rcases h with rfl | rfl | rfl | rfl | rfl | rfl <;> rfl
def words5 : List ByteArray := [⟨#[]⟩, ⟨#[99]⟩, ⟨#[40]⟩, ⟨#[38]⟩, ⟨#[33]⟩]
theorem words5_size {x : ByteArray} (h : x ∈ words5) : x.size ≤ 1 := by
  simp only [words5, List.mem_cons, List.not_mem_nil, or_false] at h
  rcases h with rfl | rfl | rfl | rfl | rfl <;> decide

theorem one_size (b : UInt8) : (ByteArray.mk #[b]).size = 1 := rfl

/-- What the drawing of a word comes to, from the list of words on. -/
def Leaf (deep : Int) (g u : Nat) (t : Int) (w : World) : Prop := Calls Try.prog 60 #[.pointer (some ⟨g, 0, none⟩), .int .i64 t, .int .i64 deep] w (StrPost 1 g (u + 3) w)

set_option maxRecDepth 100000 in
set_option maxHeartbeats 4000000 in
theorem leaf_any (g u : Nat) (t : Int) (w : World) (hu : u ≤ 1000000) (hR : Rd w g u) : Leaf 0 g u t w := by
  have HR := Lib.hid hR
  have hlt := hR.lt
  obtain ⟨m, hm⟩ : ∃ m, max (min t 3) 1 = m := ⟨_, rfl⟩
  have hm1 : 1 ≤ m := by omega
  have hm3 : m ≤ 3 := by omega
  unfold Leaf
  clear hR
  go_enter Try.func60, Try.ntmps60
  go_wp2_with fail
  refine (pick_any g u _ _ (by omega) (by omega) (by omega) (HR.out.alloc _)).mono ?_
  rintro e w1 ⟨k, rfl, hk0, hk1, hr, hg⟩
  have hk8 := hk1 (by omega)
  have hsz : w.heap.size < w1.heap.size := by have := hg.size; simp at this; omega
  obtain ⟨q, hq⟩ : ∃ q, k / 7 = q := ⟨_, rfl⟩
  have hq0 : 0 ≤ q := by omega
  have hq1 : q ≤ 1 := by omega
  have HR1 := Lib.hid hr
  have HG1 := Lib.hid hg
  clear hr hg hk1
  go_wp2_with fail
  refine (pick_any g (u + 1) _ _ (by omega) (by omega) (by omega) HR1.out).mono ?_
  rintro e w2 ⟨k2, rfl, hk20, hk21, hr, hg⟩
  have hk26 := hk21 (by omega)
  obtain ⟨x, hx, hcell⟩ := lit_str words6 (HG1.out.trans hg) hlt hk20 (by simp [words6]; omega)
  have HS := Lib.hid (words6_size hx)
  have hk6 : k2 < 6 := by omega
  have HP : Hid (Rd w2 g (u + 3) ∧ w.grownBy w2 (some g)) := ⟨hr.more (by omega), (grown_alloc (World.grownBy.refl w _) _).trans (HG1.out.trans hg)⟩
  clear hr hg hx hk21
  go_wp2_with fail
  go_ret
  exact ⟨x, rfl, by rw [HS.out]; omega, by rw [HS.out]; omega, HP.out⟩
theorem str_more {hi hi' : Nat} {g u u' : Nat} {w : World} {e : Ending} {w' : World} (h : StrPost hi g u w e w') (h1 : hi ≤ hi') (h2 : u ≤ u') : StrPost hi' g u' w e w' := by
  obtain ⟨s, he, h3, h4, hr, hg⟩ := h
  exact ⟨s, he, h3, by omega, hr.more h2, hg⟩
/-- The drawing of a sentence of some depth: at most so many bytes, so many draws, from so many on. -/
def SentAny (d : Int) (hi us b : Nat) : Prop := ∀ (g u : Nat) (t : Int) (w : World), u ≤ b → Rd w g u → Calls Try.prog 60 #[.pointer (some ⟨g, 0, none⟩), .int .i64 t, .int .i64 d] w (StrPost hi g (u + us) w)
theorem sent0_any : SentAny 0 1 3 1000000 := fun g u t w hu hR => leaf_any g u t w (by omega) hR

set_option maxRecDepth 100000 in
set_option maxHeartbeats 8000000 in
theorem sent1_any : SentAny 1 5 11 950000 := by
  intro g u t w hu hR
  have HR := Lib.hid hR
  have hlt := hR.lt
  clear hR
  obtain ⟨m, hm⟩ : ∃ m, max (min t 3) 1 = m := ⟨_, rfl⟩
  have hm1 : 1 ≤ m := by omega
  have hm3 : m ≤ 3 := by omega
  go_enter Try.func60, Try.ntmps60
  go_wp2_with fail
  refine (pick_any g u _ _ (by omega) (by omega) (by omega) HR.out).mono ?_
  rintro e w0 ⟨k0, rfl, hk00, hk01, hr, hg⟩
  have hk04 := hk01 (by omega)
  have hlt0 : g < w0.heap.size := hr.lt
  have HR0 := Lib.hid hr
  have HG0 := Lib.hid hg
  clear hr hg hk01
  by_cases hz : k0 = 0
  · subst hz
    go_wp2_with fail
    refine (pick_any g (u + 1) _ _ (by omega) (by omega) (by omega) (HR0.out.alloc _)).mono ?_
    rintro e w1 ⟨k, rfl, hk0, hk1, hr, hg⟩
    have hk8 := hk1 (by omega)
    have hsz : w0.heap.size < w1.heap.size := by have := hg.size; simp at this; omega
    obtain ⟨q, hq⟩ : ∃ q, k / 7 = q := ⟨_, rfl⟩
    have hq0 : 0 ≤ q := by omega
    have hq1 : q ≤ 1 := by omega
    have HR1 := Lib.hid hr
    have HG1 := Lib.hid hg
    clear hr hg hk1
    go_wp2_with fail
    refine (pick_any g (u + 2) _ _ (by omega) (by omega) (by omega) HR1.out).mono ?_
    rintro e w2 ⟨k2, rfl, hk20, hk21, hr, hg⟩
    have hk26 := hk21 (by omega)
    obtain ⟨x, hx, hcell⟩ := lit_str words6 (HG1.out.trans hg) hlt0 hk20 (by simp [words6]; omega)
    have HS := Lib.hid (words6_size hx)
    have hk6 : k2 < 6 := by omega
    have HP : Hid (Rd w2 g (u + 11) ∧ w.grownBy w2 (some g)) := ⟨hr.more (by omega), (grown_alloc HG0.out _).trans (HG1.out.trans hg)⟩
    clear hr hg hx hk21
    go_wp2_with fail
    go_ret
    exact ⟨x, rfl, by rw [HS.out]; omega, by rw [HS.out]; omega, HP.out⟩
  · have hzb : (k0 == 0) = false := by rw [beq_eq_false_iff_ne]; exact hz
    clear hz
    go_wp2_with fail
    refine (pick_any g (u + 1) _ _ (by omega) (by omega) (by omega) HR0.out).mono ?_
    rintro e w1 ⟨k, rfl, hk0, hk1, hr, hg⟩
    have hk6 := hk1 (by omega)
    have HR1 := Lib.hid hr
    have HG1 := Lib.hid (HG0.out.trans hg)
    clear hr hg hk1
    have h6 : k = 0 ∨ k = 1 ∨ k = 2 ∨ k = 3 ∨ k = 4 ∨ k = 5 := by omega
    clear hk0 hk6
    rcases h6 with rfl | rfl | rfl | rfl | rfl | rfl
    · go_wp2_with fail
      refine (sent0_any g (u + 2) t _ (by omega) HR1.out).mono ?_
      rintro e w2 ⟨s1, rfl, hs1, hs2, hr, hg⟩
      have HP : Hid (Rd w2 g (u + 11) ∧ w.grownBy w2 (some g)) := ⟨hr.more (by omega), HG1.out.trans hg⟩
      clear hr hg
      go_wp2_with fail
      go_ret
      exact ⟨_, rfl, by simp only [ByteArray.size_append, one_size]; omega, by simp only [ByteArray.size_append, one_size]; omega, HP.out⟩
    · go_wp2_with fail
      refine (sent0_any g (u + 2) t _ (by omega) HR1.out).mono ?_
      rintro e w2 ⟨s1, rfl, hs1, hs2, hr, hg⟩
      have HP : Hid (Rd w2 g (u + 11) ∧ w.grownBy w2 (some g)) := ⟨hr.more (by omega), HG1.out.trans hg⟩
      clear hr hg
      go_wp2_with fail
      go_ret
      exact ⟨_, rfl, by simp only [ByteArray.size_append, one_size]; omega, by simp only [ByteArray.size_append, one_size]; omega, HP.out⟩
    · go_wp2_with fail
      refine (sent0_any g (u + 2) t _ (by omega) HR1.out).mono ?_
      rintro e w2 ⟨s1, rfl, hs1, hs2, hr, hg⟩
      have HR2 := Lib.hid hr
      have HG2 := Lib.hid (HG1.out.trans hg)
      clear hr hg
      go_wp2_with fail
      refine (sent0_any g (u + 2 + 3) t _ (by omega) HR2.out).mono ?_
      rintro e w3 ⟨s2, rfl, hs3, hs4, hr, hg⟩
      have HP : Hid (Rd w3 g (u + 11) ∧ w.grownBy w3 (some g)) := ⟨hr.more (by omega), HG2.out.trans hg⟩
      clear hr hg
      go_wp2_with fail
      go_ret
      exact ⟨_, rfl, by simp only [ByteArray.size_append, one_size]; omega, by simp only [ByteArray.size_append, one_size]; omega, HP.out⟩
    · go_wp2_with fail
      refine (sent0_any g (u + 2) t _ (by omega) HR1.out).mono ?_
      rintro e w2 ⟨s1, rfl, hs1, hs2, hr, hg⟩
      have HR2 := Lib.hid hr
      have HG2 := Lib.hid (HG1.out.trans hg)
      clear hr hg
      go_wp2_with fail
      refine (sent0_any g (u + 2 + 3) t _ (by omega) HR2.out).mono ?_
      rintro e w3 ⟨s2, rfl, hs3, hs4, hr, hg⟩
      have HP : Hid (Rd w3 g (u + 11) ∧ w.grownBy w3 (some g)) := ⟨hr.more (by omega), HG2.out.trans hg⟩
      clear hr hg
      go_wp2_with fail
      go_ret
      exact ⟨_, rfl, by simp only [ByteArray.size_append, one_size]; omega, by simp only [ByteArray.size_append, one_size]; omega, HP.out⟩
    · go_wp2_with fail
      refine (sent0_any g (u + 2) t _ (by omega) HR1.out).mono ?_
      rintro e w2 ⟨s1, rfl, hs1, hs2, hr, hg⟩
      have HR2 := Lib.hid hr
      have HG2 := Lib.hid (HG1.out.trans hg)
      clear hr hg
      go_wp2_with fail
      refine (sent0_any g (u + 2 + 3) t _ (by omega) HR2.out).mono ?_
      rintro e w3 ⟨s2, rfl, hs3, hs4, hr, hg⟩
      have HP : Hid (Rd w3 g (u + 11) ∧ w.grownBy w3 (some g)) := ⟨hr.more (by omega), HG2.out.trans hg⟩
      clear hr hg
      go_wp2_with fail
      go_ret
      exact ⟨_, rfl, by simp only [ByteArray.size_append, one_size]; omega, by simp only [ByteArray.size_append, one_size]; omega, HP.out⟩
    · go_wp2_with fail
      refine (sent0_any g (u + 2) t _ (by omega) HR1.out).mono ?_
      rintro e w2 ⟨s1, rfl, hs1, hs2, hr, hg⟩
      have HR2 := Lib.hid hr
      have HG2 := Lib.hid (HG1.out.trans hg)
      clear hr hg
      go_wp2_with fail
      refine (sent0_any g (u + 2 + 3) t _ (by omega) HR2.out).mono ?_
      rintro e w3 ⟨s2, rfl, hs3, hs4, hr, hg⟩
      have HP : Hid (Rd w3 g (u + 11) ∧ w.grownBy w3 (some g)) := ⟨hr.more (by omega), HG2.out.trans hg⟩
      clear hr hg
      go_wp2_with fail
      go_ret
      exact ⟨_, rfl, by simp only [ByteArray.size_append, one_size]; omega, by simp only [ByteArray.size_append, one_size]; omega, HP.out⟩
set_option maxRecDepth 100000 in
set_option maxHeartbeats 8000000 in
theorem sent2_any : SentAny 2 13 27 900000 := by
  intro g u t w hu hR
  have HR := Lib.hid hR
  have hlt := hR.lt
  clear hR
  obtain ⟨m, hm⟩ : ∃ m, max (min t 3) 1 = m := ⟨_, rfl⟩
  have hm1 : 1 ≤ m := by omega
  have hm3 : m ≤ 3 := by omega
  go_enter Try.func60, Try.ntmps60
  go_wp2_with fail
  refine (pick_any g u _ _ (by omega) (by omega) (by omega) HR.out).mono ?_
  rintro e w0 ⟨k0, rfl, hk00, hk01, hr, hg⟩
  have hk04 := hk01 (by omega)
  have hlt0 : g < w0.heap.size := hr.lt
  have HR0 := Lib.hid hr
  have HG0 := Lib.hid hg
  clear hr hg hk01
  by_cases hz : k0 = 0
  · subst hz
    go_wp2_with fail
    refine (pick_any g (u + 1) _ _ (by omega) (by omega) (by omega) (HR0.out.alloc _)).mono ?_
    rintro e w1 ⟨k, rfl, hk0, hk1, hr, hg⟩
    have hk8 := hk1 (by omega)
    have hsz : w0.heap.size < w1.heap.size := by have := hg.size; simp at this; omega
    obtain ⟨q, hq⟩ : ∃ q, k / 7 = q := ⟨_, rfl⟩
    have hq0 : 0 ≤ q := by omega
    have hq1 : q ≤ 1 := by omega
    have HR1 := Lib.hid hr
    have HG1 := Lib.hid hg
    clear hr hg hk1
    go_wp2_with fail
    refine (pick_any g (u + 2) _ _ (by omega) (by omega) (by omega) HR1.out).mono ?_
    rintro e w2 ⟨k2, rfl, hk20, hk21, hr, hg⟩
    have hk26 := hk21 (by omega)
    obtain ⟨x, hx, hcell⟩ := lit_str words6 (HG1.out.trans hg) hlt0 hk20 (by simp [words6]; omega)
    have HS := Lib.hid (words6_size hx)
    have hk6 : k2 < 6 := by omega
    have HP : Hid (Rd w2 g (u + 27) ∧ w.grownBy w2 (some g)) := ⟨hr.more (by omega), (grown_alloc HG0.out _).trans (HG1.out.trans hg)⟩
    clear hr hg hx hk21
    go_wp2_with fail
    go_ret
    exact ⟨x, rfl, by rw [HS.out]; omega, by rw [HS.out]; omega, HP.out⟩
  · have hzb : (k0 == 0) = false := by rw [beq_eq_false_iff_ne]; exact hz
    clear hz
    go_wp2_with fail
    refine (pick_any g (u + 1) _ _ (by omega) (by omega) (by omega) HR0.out).mono ?_
    rintro e w1 ⟨k, rfl, hk0, hk1, hr, hg⟩
    have hk6 := hk1 (by omega)
    have HR1 := Lib.hid hr
    have HG1 := Lib.hid (HG0.out.trans hg)
    clear hr hg hk1
    have h6 : k = 0 ∨ k = 1 ∨ k = 2 ∨ k = 3 ∨ k = 4 ∨ k = 5 := by omega
    clear hk0 hk6
    rcases h6 with rfl | rfl | rfl | rfl | rfl | rfl
    · go_wp2_with fail
      refine (sent1_any g (u + 2) t _ (by omega) HR1.out).mono ?_
      rintro e w2 ⟨s1, rfl, hs1, hs2, hr, hg⟩
      have HP : Hid (Rd w2 g (u + 27) ∧ w.grownBy w2 (some g)) := ⟨hr.more (by omega), HG1.out.trans hg⟩
      clear hr hg
      go_wp2_with fail
      go_ret
      exact ⟨_, rfl, by simp only [ByteArray.size_append, one_size]; omega, by simp only [ByteArray.size_append, one_size]; omega, HP.out⟩
    · go_wp2_with fail
      refine (sent1_any g (u + 2) t _ (by omega) HR1.out).mono ?_
      rintro e w2 ⟨s1, rfl, hs1, hs2, hr, hg⟩
      have HP : Hid (Rd w2 g (u + 27) ∧ w.grownBy w2 (some g)) := ⟨hr.more (by omega), HG1.out.trans hg⟩
      clear hr hg
      go_wp2_with fail
      go_ret
      exact ⟨_, rfl, by simp only [ByteArray.size_append, one_size]; omega, by simp only [ByteArray.size_append, one_size]; omega, HP.out⟩
    · go_wp2_with fail
      refine (sent1_any g (u + 2) t _ (by omega) HR1.out).mono ?_
      rintro e w2 ⟨s1, rfl, hs1, hs2, hr, hg⟩
      have HR2 := Lib.hid hr
      have HG2 := Lib.hid (HG1.out.trans hg)
      clear hr hg
      go_wp2_with fail
      refine (sent1_any g (u + 2 + 11) t _ (by omega) HR2.out).mono ?_
      rintro e w3 ⟨s2, rfl, hs3, hs4, hr, hg⟩
      have HP : Hid (Rd w3 g (u + 27) ∧ w.grownBy w3 (some g)) := ⟨hr.more (by omega), HG2.out.trans hg⟩
      clear hr hg
      go_wp2_with fail
      go_ret
      exact ⟨_, rfl, by simp only [ByteArray.size_append, one_size]; omega, by simp only [ByteArray.size_append, one_size]; omega, HP.out⟩
    · go_wp2_with fail
      refine (sent1_any g (u + 2) t _ (by omega) HR1.out).mono ?_
      rintro e w2 ⟨s1, rfl, hs1, hs2, hr, hg⟩
      have HR2 := Lib.hid hr
      have HG2 := Lib.hid (HG1.out.trans hg)
      clear hr hg
      go_wp2_with fail
      refine (sent1_any g (u + 2 + 11) t _ (by omega) HR2.out).mono ?_
      rintro e w3 ⟨s2, rfl, hs3, hs4, hr, hg⟩
      have HP : Hid (Rd w3 g (u + 27) ∧ w.grownBy w3 (some g)) := ⟨hr.more (by omega), HG2.out.trans hg⟩
      clear hr hg
      go_wp2_with fail
      go_ret
      exact ⟨_, rfl, by simp only [ByteArray.size_append, one_size]; omega, by simp only [ByteArray.size_append, one_size]; omega, HP.out⟩
    · go_wp2_with fail
      refine (sent1_any g (u + 2) t _ (by omega) HR1.out).mono ?_
      rintro e w2 ⟨s1, rfl, hs1, hs2, hr, hg⟩
      have HR2 := Lib.hid hr
      have HG2 := Lib.hid (HG1.out.trans hg)
      clear hr hg
      go_wp2_with fail
      refine (sent1_any g (u + 2 + 11) t _ (by omega) HR2.out).mono ?_
      rintro e w3 ⟨s2, rfl, hs3, hs4, hr, hg⟩
      have HP : Hid (Rd w3 g (u + 27) ∧ w.grownBy w3 (some g)) := ⟨hr.more (by omega), HG2.out.trans hg⟩
      clear hr hg
      go_wp2_with fail
      go_ret
      exact ⟨_, rfl, by simp only [ByteArray.size_append, one_size]; omega, by simp only [ByteArray.size_append, one_size]; omega, HP.out⟩
    · go_wp2_with fail
      refine (sent1_any g (u + 2) t _ (by omega) HR1.out).mono ?_
      rintro e w2 ⟨s1, rfl, hs1, hs2, hr, hg⟩
      have HR2 := Lib.hid hr
      have HG2 := Lib.hid (HG1.out.trans hg)
      clear hr hg
      go_wp2_with fail
      refine (sent1_any g (u + 2 + 11) t _ (by omega) HR2.out).mono ?_
      rintro e w3 ⟨s2, rfl, hs3, hs4, hr, hg⟩
      have HP : Hid (Rd w3 g (u + 27) ∧ w.grownBy w3 (some g)) := ⟨hr.more (by omega), HG2.out.trans hg⟩
      clear hr hg
      go_wp2_with fail
      go_ret
      exact ⟨_, rfl, by simp only [ByteArray.size_append, one_size]; omega, by simp only [ByteArray.size_append, one_size]; omega, HP.out⟩
end Go.Proofs.Ytbiifcdlfmeahaa
