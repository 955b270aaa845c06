/-
  What the proofs of this seat's statements share (Deny, Sign, Held).
-/
import Derived.Deep.RegionHeld3
import Derived.OrdersIn
import Derived.RangeFuncCalls
import Derived.TacticsIn
import Derived.Test.YtbiifcdlfmeahaaU10

namespace Go.Proofs.Ytbiifcdlfmeahaa
open Go.RowKit

def denyB (s : Int) (f : Int → Bool) : Bool := (List.range 8).all fun w => !hasW s w || !f (worldS w)
def NoneTo (s : Int) (f : Int → Bool) (k : Nat) : Prop := ∀ j, j < k → hasW s j = true → f (worldS j) = false
theorem noneTo_next {s : Int} {f : Int → Bool} {k : Nat} (h : NoneTo s f k) (hk : hasW s k = true → f (worldS k) = false) : NoneTo s f (k + 1) := fun j hj => by
  by_cases e : j = k
  · subst e; exact hk
  · exact h j (by omega)
theorem has_pow {s : Int} {k : Nat} (h : hasW s k = true) : worldS k ≤ s := by
  have := Nat.ge_two_pow_of_testBit (x := s.toNat) (i := k) h
  have h2 := Nat.two_pow_pos k
  unfold worldS
  omega
theorem deny_end {s : Int} {f : Int → Bool} {k : Nat} (h : NoneTo s f k) (hk : s < worldS k) : denyB s f = true := by
  unfold denyB
  rw [List.all_eq_true]
  intro w _
  cases hw : hasW s w
  · rfl
  · have h1 := has_pow hw
    have : w < k := by
      rcases Nat.lt_or_ge w k with h2 | h2
      · exact h2
      · have : 2 ^ k ≤ 2 ^ w := Nat.pow_le_pow_right (by omega) h2
        unfold worldS at h1 hk
        omega
    rw [h w this hw]; rfl
theorem deny_hit {s : Int} {f : Int → Bool} {k : Nat} (hk : k < 8) (h1 : hasW s k = true) (h2 : f (worldS k) = true) : denyB s f = false := by
  unfold denyB
  rw [List.all_eq_false]
  exact ⟨k, List.mem_range.2 hk, by rw [h1, h2]; decide⟩
theorem iWithin_is {a b : Int} {v : Bool} (h : Hid (withinB a b = v)) (ha : 0 ≤ a) (ha2 : a < 1024) (hb : 0 ≤ b) (hb2 : b < 1024) (w : World) :
    Calls Try.prog 83 #[.int .i64 a, .int .i64 b] w fun e w' => e = .returned (.bool v) ∧ w = w' :=
  (iWithin a b ha ha2 hb hb2 w).mono fun _ _ ⟨he, hw⟩ => ⟨he.trans (ret_bool h.out), hw⟩
theorem world_is {s : Int} {k : Nat} {p : Int} {v : Bool} (hp : worldS k = p) (h : hasW s k = v) : Hid (withinB p s = v) := by
  unfold Hid
  subst hp
  cases v
  · cases h2 : withinB (worldS k) s
    · rfl
    · rw [(world_within k).1 h2] at h; cases h
  · exact (world_within k).2 h

set_option maxRecDepth 100000 in
set_option maxHeartbeats 4000000 in
theorem iDenies (s : Int) (b o n c : Nat) (f : Int → Bool) (w : World) (hs0 : 0 ≤ s) (hs : s < 256) (hT : Told w b o n s f) :
    Calls Try.prog 120 #[.int .i64 s, .slice (some ⟨b, o, none⟩) n c] w fun e w' => e = .returned (.bool (denyB s f)) ∧ w = w' := by
  have HT := Lib.hid hT
  clear hT
  go_enter Try.func120, Try.ntmps120
  go_wp2
  go_loop [5] (fun i => ∃ k : Nat, k ≤ 8 ∧ i = .int .i64 k ∧ Hid (NoneTo s f k)) (fun i => 8 - (Go.RowKit.intOf i).toNat)
  case atStart => exact ⟨0, Nat.zero_le _, rfl, fun j h => by omega⟩
  case round =>
    obtain ⟨k, hk, rfl, hsofar⟩ := hrel
    by_cases hle : worldS k ≤ s
    · have h8 : k = 0 ∨ k = 1 ∨ k = 2 ∨ k = 3 ∨ k = 4 ∨ k = 5 ∨ k = 6 ∨ k = 7 ∨ k = 8 := by omega
      clear hk
      rcases h8 with rfl | rfl | rfl | rfl | rfl | rfl | rfl | rfl | rfl
      · have hp : (1 : Int) ≤ s := hle
        clear hle
        cases hw : hasW s 0
        · have HW := world_is (p := 1) rfl hw
          have HN := Lib.hid (noneTo_next hsofar.out (fun e => by rw [hw] at e; cases e))
          clear hw hsofar
          go_wp2_with fail
          refine (iWithin_is HW (by omega) (by omega) hs0 (by omega) _).mono ?_
          rintro e w' ⟨rfl, rfl⟩
          go_wp2_with fail
          go_round
          case rel => exact ⟨0 + 1, by omega, by go_num, HN⟩
          case measure => simp [Go.RowKit.intOf]
        · have HW := world_is (p := 1) rfl hw
          obtain ⟨hin, hcell⟩ := HT.out.2 1 (by omega) HW.out
          have hcell : w.cell? ⟨b, o + 1, none⟩ = some (.bool (f 1)) := hcell
          cases hf : f 1
          · rw [hf] at hcell
            have HN := Lib.hid (noneTo_next hsofar.out (fun _ => hf))
            clear hw hf hsofar
            go_wp2_with fail
            refine (iWithin_is HW (by omega) (by omega) hs0 (by omega) _).mono ?_
            rintro e w' ⟨rfl, rfl⟩
            go_wp2_with fail
            go_round
            case rel => exact ⟨0 + 1, by omega, by go_num, HN⟩
            case measure => simp [Go.RowKit.intOf]
          · rw [hf] at hcell
            have HN := Lib.hid (deny_hit (k := 0) (by omega) hw hf)
            clear hw hf hsofar
            go_wp2_with fail
            refine (iWithin_is HW (by omega) (by omega) hs0 (by omega) _).mono ?_
            rintro e w' ⟨rfl, rfl⟩
            go_wp2_with fail
            go_ret
            exact ⟨ret_bool (by rw [HN.out]), rfl⟩
      · have hp : (2 : Int) ≤ s := hle
        clear hle
        cases hw : hasW s 1
        · have HW := world_is (p := 2) rfl hw
          have HN := Lib.hid (noneTo_next hsofar.out (fun e => by rw [hw] at e; cases e))
          clear hw hsofar
          go_wp2_with fail
          refine (iWithin_is HW (by omega) (by omega) hs0 (by omega) _).mono ?_
          rintro e w' ⟨rfl, rfl⟩
          go_wp2_with fail
          go_round
          case rel => exact ⟨1 + 1, by omega, by go_num, HN⟩
          case measure => simp [Go.RowKit.intOf]
        · have HW := world_is (p := 2) rfl hw
          obtain ⟨hin, hcell⟩ := HT.out.2 2 (by omega) HW.out
          have hcell : w.cell? ⟨b, o + 2, none⟩ = some (.bool (f 2)) := hcell
          cases hf : f 2
          · rw [hf] at hcell
            have HN := Lib.hid (noneTo_next hsofar.out (fun _ => hf))
            clear hw hf hsofar
            go_wp2_with fail
            refine (iWithin_is HW (by omega) (by omega) hs0 (by omega) _).mono ?_
            rintro e w' ⟨rfl, rfl⟩
            go_wp2_with fail
            go_round
            case rel => exact ⟨1 + 1, by omega, by go_num, HN⟩
            case measure => simp [Go.RowKit.intOf]
          · rw [hf] at hcell
            have HN := Lib.hid (deny_hit (k := 1) (by omega) hw hf)
            clear hw hf hsofar
            go_wp2_with fail
            refine (iWithin_is HW (by omega) (by omega) hs0 (by omega) _).mono ?_
            rintro e w' ⟨rfl, rfl⟩
            go_wp2_with fail
            go_ret
            exact ⟨ret_bool (by rw [HN.out]), rfl⟩
      · have hp : (4 : Int) ≤ s := hle
        clear hle
        cases hw : hasW s 2
        · have HW := world_is (p := 4) rfl hw
          have HN := Lib.hid (noneTo_next hsofar.out (fun e => by rw [hw] at e; cases e))
          clear hw hsofar
          go_wp2_with fail
          refine (iWithin_is HW (by omega) (by omega) hs0 (by omega) _).mono ?_
          rintro e w' ⟨rfl, rfl⟩
          go_wp2_with fail
          go_round
          case rel => exact ⟨2 + 1, by omega, by go_num, HN⟩
          case measure => simp [Go.RowKit.intOf]
        · have HW := world_is (p := 4) rfl hw
          obtain ⟨hin, hcell⟩ := HT.out.2 4 (by omega) HW.out
          have hcell : w.cell? ⟨b, o + 4, none⟩ = some (.bool (f 4)) := hcell
          cases hf : f 4
          · rw [hf] at hcell
            have HN := Lib.hid (noneTo_next hsofar.out (fun _ => hf))
            clear hw hf hsofar
            go_wp2_with fail
            refine (iWithin_is HW (by omega) (by omega) hs0 (by omega) _).mono ?_
            rintro e w' ⟨rfl, rfl⟩
            go_wp2_with fail
            go_round
            case rel => exact ⟨2 + 1, by omega, by go_num, HN⟩
            case measure => simp [Go.RowKit.intOf]
          · rw [hf] at hcell
            have HN := Lib.hid (deny_hit (k := 2) (by omega) hw hf)
            clear hw hf hsofar
            go_wp2_with fail
            refine (iWithin_is HW (by omega) (by omega) hs0 (by omega) _).mono ?_
            rintro e w' ⟨rfl, rfl⟩
            go_wp2_with fail
            go_ret
            exact ⟨ret_bool (by rw [HN.out]), rfl⟩
      · have hp : (8 : Int) ≤ s := hle
        clear hle
        cases hw : hasW s 3
        · have HW := world_is (p := 8) rfl hw
          have HN := Lib.hid (noneTo_next hsofar.out (fun e => by rw [hw] at e; cases e))
          clear hw hsofar
          go_wp2_with fail
          refine (iWithin_is HW (by omega) (by omega) hs0 (by omega) _).mono ?_
          rintro e w' ⟨rfl, rfl⟩
          go_wp2_with fail
          go_round
          case rel => exact ⟨3 + 1, by omega, by go_num, HN⟩
          case measure => simp [Go.RowKit.intOf]
        · have HW := world_is (p := 8) rfl hw
          obtain ⟨hin, hcell⟩ := HT.out.2 8 (by omega) HW.out
          have hcell : w.cell? ⟨b, o + 8, none⟩ = some (.bool (f 8)) := hcell
          cases hf : f 8
          · rw [hf] at hcell
            have HN := Lib.hid (noneTo_next hsofar.out (fun _ => hf))
            clear hw hf hsofar
            go_wp2_with fail
            refine (iWithin_is HW (by omega) (by omega) hs0 (by omega) _).mono ?_
            rintro e w' ⟨rfl, rfl⟩
            go_wp2_with fail
            go_round
            case rel => exact ⟨3 + 1, by omega, by go_num, HN⟩
            case measure => simp [Go.RowKit.intOf]
          · rw [hf] at hcell
            have HN := Lib.hid (deny_hit (k := 3) (by omega) hw hf)
            clear hw hf hsofar
            go_wp2_with fail
            refine (iWithin_is HW (by omega) (by omega) hs0 (by omega) _).mono ?_
            rintro e w' ⟨rfl, rfl⟩
            go_wp2_with fail
            go_ret
            exact ⟨ret_bool (by rw [HN.out]), rfl⟩
      · have hp : (16 : Int) ≤ s := hle
        clear hle
        cases hw : hasW s 4
        · have HW := world_is (p := 16) rfl hw
          have HN := Lib.hid (noneTo_next hsofar.out (fun e => by rw [hw] at e; cases e))
          clear hw hsofar
          go_wp2_with fail
          refine (iWithin_is HW (by omega) (by omega) hs0 (by omega) _).mono ?_
          rintro e w' ⟨rfl, rfl⟩
          go_wp2_with fail
          go_round
          case rel => exact ⟨4 + 1, by omega, by go_num, HN⟩
          case measure => simp [Go.RowKit.intOf]
        · have HW := world_is (p := 16) rfl hw
          obtain ⟨hin, hcell⟩ := HT.out.2 16 (by omega) HW.out
          have hcell : w.cell? ⟨b, o + 16, none⟩ = some (.bool (f 16)) := hcell
          cases hf : f 16
          · rw [hf] at hcell
            have HN := Lib.hid (noneTo_next hsofar.out (fun _ => hf))
            clear hw hf hsofar
            go_wp2_with fail
            refine (iWithin_is HW (by omega) (by omega) hs0 (by omega) _).mono ?_
            rintro e w' ⟨rfl, rfl⟩
            go_wp2_with fail
            go_round
            case rel => exact ⟨4 + 1, by omega, by go_num, HN⟩
            case measure => simp [Go.RowKit.intOf]
          · rw [hf] at hcell
            have HN := Lib.hid (deny_hit (k := 4) (by omega) hw hf)
            clear hw hf hsofar
            go_wp2_with fail
            refine (iWithin_is HW (by omega) (by omega) hs0 (by omega) _).mono ?_
            rintro e w' ⟨rfl, rfl⟩
            go_wp2_with fail
            go_ret
            exact ⟨ret_bool (by rw [HN.out]), rfl⟩
      · have hp : (32 : Int) ≤ s := hle
        clear hle
        cases hw : hasW s 5
        · have HW := world_is (p := 32) rfl hw
          have HN := Lib.hid (noneTo_next hsofar.out (fun e => by rw [hw] at e; cases e))
          clear hw hsofar
          go_wp2_with fail
          refine (iWithin_is HW (by omega) (by omega) hs0 (by omega) _).mono ?_
          rintro e w' ⟨rfl, rfl⟩
          go_wp2_with fail
          go_round
          case rel => exact ⟨5 + 1, by omega, by go_num, HN⟩
          case measure => simp [Go.RowKit.intOf]
        · have HW := world_is (p := 32) rfl hw
          obtain ⟨hin, hcell⟩ := HT.out.2 32 (by omega) HW.out
          have hcell : w.cell? ⟨b, o + 32, none⟩ = some (.bool (f 32)) := hcell
          cases hf : f 32
          · rw [hf] at hcell
            have HN := Lib.hid (noneTo_next hsofar.out (fun _ => hf))
            clear hw hf hsofar
            go_wp2_with fail
            refine (iWithin_is HW (by omega) (by omega) hs0 (by omega) _).mono ?_
            rintro e w' ⟨rfl, rfl⟩
            go_wp2_with fail
            go_round
            case rel => exact ⟨5 + 1, by omega, by go_num, HN⟩
            case measure => simp [Go.RowKit.intOf]
          · rw [hf] at hcell
            have HN := Lib.hid (deny_hit (k := 5) (by omega) hw hf)
            clear hw hf hsofar
            go_wp2_with fail
            refine (iWithin_is HW (by omega) (by omega) hs0 (by omega) _).mono ?_
            rintro e w' ⟨rfl, rfl⟩
            go_wp2_with fail
            go_ret
            exact ⟨ret_bool (by rw [HN.out]), rfl⟩
      · have hp : (64 : Int) ≤ s := hle
        clear hle
        cases hw : hasW s 6
        · have HW := world_is (p := 64) rfl hw
          have HN := Lib.hid (noneTo_next hsofar.out (fun e => by rw [hw] at e; cases e))
          clear hw hsofar
          go_wp2_with fail
          refine (iWithin_is HW (by omega) (by omega) hs0 (by omega) _).mono ?_
          rintro e w' ⟨rfl, rfl⟩
          go_wp2_with fail
          go_round
          case rel => exact ⟨6 + 1, by omega, by go_num, HN⟩
          case measure => simp [Go.RowKit.intOf]
        · have HW := world_is (p := 64) rfl hw
          obtain ⟨hin, hcell⟩ := HT.out.2 64 (by omega) HW.out
          have hcell : w.cell? ⟨b, o + 64, none⟩ = some (.bool (f 64)) := hcell
          cases hf : f 64
          · rw [hf] at hcell
            have HN := Lib.hid (noneTo_next hsofar.out (fun _ => hf))
            clear hw hf hsofar
            go_wp2_with fail
            refine (iWithin_is HW (by omega) (by omega) hs0 (by omega) _).mono ?_
            rintro e w' ⟨rfl, rfl⟩
            go_wp2_with fail
            go_round
            case rel => exact ⟨6 + 1, by omega, by go_num, HN⟩
            case measure => simp [Go.RowKit.intOf]
          · rw [hf] at hcell
            have HN := Lib.hid (deny_hit (k := 6) (by omega) hw hf)
            clear hw hf hsofar
            go_wp2_with fail
            refine (iWithin_is HW (by omega) (by omega) hs0 (by omega) _).mono ?_
            rintro e w' ⟨rfl, rfl⟩
            go_wp2_with fail
            go_ret
            exact ⟨ret_bool (by rw [HN.out]), rfl⟩
      · have hp : (128 : Int) ≤ s := hle
        clear hle
        cases hw : hasW s 7
        · have HW := world_is (p := 128) rfl hw
          have HN := Lib.hid (noneTo_next hsofar.out (fun e => by rw [hw] at e; cases e))
          clear hw hsofar
          go_wp2_with fail
          refine (iWithin_is HW (by omega) (by omega) hs0 (by omega) _).mono ?_
          rintro e w' ⟨rfl, rfl⟩
          go_wp2_with fail
          go_round
          case rel => exact ⟨7 + 1, by omega, by go_num, HN⟩
          case measure => simp [Go.RowKit.intOf]
        · have HW := world_is (p := 128) rfl hw
          obtain ⟨hin, hcell⟩ := HT.out.2 128 (by omega) HW.out
          have hcell : w.cell? ⟨b, o + 128, none⟩ = some (.bool (f 128)) := hcell
          cases hf : f 128
          · rw [hf] at hcell
            have HN := Lib.hid (noneTo_next hsofar.out (fun _ => hf))
            clear hw hf hsofar
            go_wp2_with fail
            refine (iWithin_is HW (by omega) (by omega) hs0 (by omega) _).mono ?_
            rintro e w' ⟨rfl, rfl⟩
            go_wp2_with fail
            go_round
            case rel => exact ⟨7 + 1, by omega, by go_num, HN⟩
            case measure => simp [Go.RowKit.intOf]
          · rw [hf] at hcell
            have HN := Lib.hid (deny_hit (k := 7) (by omega) hw hf)
            clear hw hf hsofar
            go_wp2_with fail
            refine (iWithin_is HW (by omega) (by omega) hs0 (by omega) _).mono ?_
            rintro e w' ⟨rfl, rfl⟩
            go_wp2_with fail
            go_ret
            exact ⟨ret_bool (by rw [HN.out]), rfl⟩
      · have hp : (256 : Int) ≤ s := hle
        omega
    · have HN := Lib.hid (deny_end hsofar.out (by omega))
      have h8 : k = 0 ∨ k = 1 ∨ k = 2 ∨ k = 3 ∨ k = 4 ∨ k = 5 ∨ k = 6 ∨ k = 7 ∨ k = 8 := by omega
      clear hk hsofar
      rcases h8 with rfl | rfl | rfl | rfl | rfl | rfl | rfl | rfl | rfl
      · have hp : s < (1 : Int) := by have : ¬ (1 : Int) ≤ s := hle; omega
        clear hle
        go_wp2
        go_ret
        exact ⟨ret_bool (by rw [HN.out]), rfl⟩
      · have hp : s < (2 : Int) := by have : ¬ (2 : Int) ≤ s := hle; omega
        clear hle
        go_wp2
        go_ret
        exact ⟨ret_bool (by rw [HN.out]), rfl⟩
      · have hp : s < (4 : Int) := by have : ¬ (4 : Int) ≤ s := hle; omega
        clear hle
        go_wp2
        go_ret
        exact ⟨ret_bool (by rw [HN.out]), rfl⟩
      · have hp : s < (8 : Int) := by have : ¬ (8 : Int) ≤ s := hle; omega
        clear hle
        go_wp2
        go_ret
        exact ⟨ret_bool (by rw [HN.out]), rfl⟩
      · have hp : s < (16 : Int) := by have : ¬ (16 : Int) ≤ s := hle; omega
        clear hle
        go_wp2
        go_ret
        exact ⟨ret_bool (by rw [HN.out]), rfl⟩
      · have hp : s < (32 : Int) := by have : ¬ (32 : Int) ≤ s := hle; omega
        clear hle
        go_wp2
        go_ret
        exact ⟨ret_bool (by rw [HN.out]), rfl⟩
      · have hp : s < (64 : Int) := by have : ¬ (64 : Int) ≤ s := hle; omega
        clear hle
        go_wp2
        go_ret
        exact ⟨ret_bool (by rw [HN.out]), rfl⟩
      · have hp : s < (128 : Int) := by have : ¬ (128 : Int) ≤ s := hle; omega
        clear hle
        go_wp2
        go_ret
        exact ⟨ret_bool (by rw [HN.out]), rfl⟩
      · have hp : s < (256 : Int) := by have : ¬ (256 : Int) ≤ s := hle; omega
        clear hle
        go_wp2
        go_ret
        exact ⟨ret_bool (by rw [HN.out]), rfl⟩
end Go.Proofs.Ytbiifcdlfmeahaa

namespace Go.Proofs.Ytbiifcdlfmeahaa
open Go.RowKit

def signS : Sen → Nat
  | .one => 49
  | .zero => 48
  | .thing i => 97 + i
  | .no _ => 33
  | .ask _ => 63
  | .and_ _ _ => 38
  | .or_ _ _ => 124
  | .if_ _ _ => 62
theorem worlds_n {t : Int} (h1 : 1 ≤ t) (h3 : t ≤ 3) : worldsOf t = (nWorlds t : Int) ∧ nWorlds t ≤ 8 := by
  have : t = 1 ∨ t = 2 ∨ t = 3 := by omega
  rcases this with rfl | rfl | rfl <;> exact ⟨rfl, by decide⟩
theorem word_one {t : Int} (h1 : 1 ≤ t) (h3 : t ≤ 3) : (wordTo 49 (nWorlds t) : Int) = allOf t := by
  have : t = 1 ∨ t = 2 ∨ t = 3 := by omega
  rcases this with rfl | rfl | rfl <;> rfl
theorem word_zero {t : Int} (h1 : 1 ≤ t) (h3 : t ≤ 3) : (wordTo 48 (nWorlds t) : Int) = 0 := by
  have : t = 1 ∨ t = 2 ∨ t = 3 := by omega
  rcases this with rfl | rfl | rfl <;> rfl
theorem word_thing {t : Int} {i : Nat} (h1 : 1 ≤ t) (h3 : t ≤ 3) (hi : (i : Int) < t) : (wordTo (97 + i) (nWorlds t) : Int) = letterSet t i := by
  have : t = 1 ∨ t = 2 ∨ t = 3 := by omega
  rcases this with rfl | rfl | rfl
  · obtain rfl : i = 0 := by omega
    rfl
  · have : i = 0 ∨ i = 1 := by omega
    rcases this with rfl | rfl <;> rfl
  · have : i = 0 ∨ i = 1 ∨ i = 2 := by omega
    rcases this with rfl | rfl | rfl <;> rfl
theorem word_range (c : Nat) {t : Int} (h1 : 1 ≤ t) (h3 : t ≤ 3) (hc : isWord c) : wordTo c (nWorlds t) < 256 := by
  have : t = 1 ∨ t = 2 ∨ t = 3 := by omega
  rcases this with rfl | rfl | rfl <;> rcases hc with rfl | rfl | rfl | rfl | rfl <;> decide
theorem deny_worlds {t s : Int} (h1 : 1 ≤ t) (h3 : t ≤ 3) (hs0 : 0 ≤ s) (hs : s ≤ allOf t) (f : Int → Bool) : ((List.range (nWorlds t)).all fun w => !hasW s w || !f (worldS w)) = denyB s f := by
  unfold denyB
  rw [Bool.eq_iff_iff, List.all_eq_true, List.all_eq_true]
  have hn := (worlds_n h1 h3).2
  constructor
  · intro h w hw
    rcases Nat.lt_or_ge w (nWorlds t) with h2 | h2
    · exact h w (List.mem_range.2 h2)
    · cases h4 : hasW s w
      · rfl
      · have := has_lt h1 h3 hs0 hs h4; omega
  · intro h w hw
    exact h w (List.mem_range.2 (by have := List.mem_range.1 hw; omega))
theorem holds_no {t s : Int} (h1 : 1 ≤ t) (h3 : t ≤ 3) (hs0 : 0 ≤ s) (hs : s ≤ allOf t) (x : Sen) : holdsS t (.no x) s = denyB s (holdsS t x) := deny_worlds h1 h3 hs0 hs _
theorem holds_ask {t s : Int} (h1 : 1 ≤ t) (h3 : t ≤ 3) (hs0 : 0 ≤ s) (hs : s ≤ allOf t) (x : Sen) : holdsS t (.ask x) s = (holdsS t x s || denyB s (holdsS t x)) := by
  rw [← deny_worlds h1 h3 hs0 hs]; rfl
theorem holds_if (t : Int) (x y : Sen) (s : Int) : holdsS t (.if_ x y) s = ifB s (holdsS t x) (holdsS t y) := rfl

def TellsV (w : World) (v : Value) (s : Int) (f : Int → Bool) : Prop := ∃ b o n c, v = .slice (some ⟨b, o, none⟩) n c ∧ Told w b o n s f
def KidsTold (w : World) (t : Int) (x : Sen) (s : Int) (v1 v2 : Value) : Prop :=
  match x with
  | .no a => TellsV w v1 s (holdsS t a)
  | .ask a => TellsV w v1 s (holdsS t a)
  | .and_ a b => TellsV w v1 s (holdsS t a) ∧ TellsV w v2 s (holdsS t b)
  | .or_ a b => TellsV w v1 s (holdsS t a) ∧ TellsV w v2 s (holdsS t b)
  | .if_ a b => TellsV w v1 s (holdsS t a) ∧ TellsV w v2 s (holdsS t b)
  | _ => True
theorem TellsV.below {w w' : World} {v : Value} {s : Int} {f : Int → Bool} (h : TellsV w v s f) (hb : Below w.heap.size w w') : TellsV w' v s f := by
  obtain ⟨b, o, n, c, rfl, h⟩ := h; exact ⟨b, o, n, c, rfl, h.below hb⟩
theorem TellsV.sub {w : World} {v : Value} {s s2 : Int} {f : Int → Bool} (h : TellsV w v s f) (hs0 : 0 ≤ s2) (hs : withinB s2 s = true) : TellsV w v s2 f := by
  obtain ⟨b, o, n, c, rfl, h⟩ := h; exact ⟨b, o, n, c, rfl, h.sub hs0 hs⟩
theorem KidsTold.below {w w' : World} {t : Int} {x : Sen} {s : Int} {v1 v2 : Value} (h : KidsTold w t x s v1 v2) (hb : Below w.heap.size w w') : KidsTold w' t x s v1 v2 := by
  cases x with
  | one => trivial
  | zero => trivial
  | thing i => trivial
  | no a => exact TellsV.below h hb
  | ask a => exact TellsV.below h hb
  | and_ a b => exact ⟨TellsV.below h.1 hb, TellsV.below h.2 hb⟩
  | or_ a b => exact ⟨TellsV.below h.1 hb, TellsV.below h.2 hb⟩
  | if_ a b => exact ⟨TellsV.below h.1 hb, TellsV.below h.2 hb⟩
theorem KidsTold.sub {w : World} {t : Int} {x : Sen} {s s2 : Int} {v1 v2 : Value} (h : KidsTold w t x s v1 v2) (hs0 : 0 ≤ s2) (hs : withinB s2 s = true) : KidsTold w t x s2 v1 v2 := by
  cases x with
  | one => trivial
  | zero => trivial
  | thing i => trivial
  | no a => exact TellsV.sub h hs0 hs
  | ask a => exact TellsV.sub h hs0 hs
  | and_ a b => exact ⟨TellsV.sub h.1 hs0 hs, TellsV.sub h.2 hs0 hs⟩
  | or_ a b => exact ⟨TellsV.sub h.1 hs0 hs, TellsV.sub h.2 hs0 hs⟩
  | if_ a b => exact ⟨TellsV.sub h.1 hs0 hs, TellsV.sub h.2 hs0 hs⟩
theorem iDenies_is {s : Int} {f : Int → Bool} {v : Bool} (h : Hid (denyB s f = v)) {b o n c : Nat} {w : World} (hs0 : 0 ≤ s) (hs : s < 256) (hT : Told w b o n s f) :
    Calls Try.prog 120 #[.int .i64 s, .slice (some ⟨b, o, none⟩) n c] w fun e w' => e = .returned (.bool v) ∧ w = w' :=
  (iDenies s b o n c f w hs0 hs hT).mono fun _ _ ⟨he, hw⟩ => ⟨he.trans (ret_bool h.out), hw⟩

set_option maxRecDepth 100000 in
set_option maxHeartbeats 4000000 in
theorem iBySign_word (t s : Int) (c : Nat) (hc : isWord c) (v1 v2 : Value) (w : World) (h1 : 1 ≤ t) (h3 : t ≤ 3) (hs0 : 0 ≤ s) (hs : s ≤ allOf t) :
    Calls Try.prog 104 #[.int .i64 t, .int .i64 s, .int .u8 c, v1, v2] w fun e w' => e = .returned (.bool (withinB s (wordTo c (nWorlds t)))) ∧ w = w' := by
  obtain ⟨hn, hn8⟩ := worlds_n h1 h3
  have hr := word_range c h1 h3 hc
  have hal := (allOf_lt t).2
  have HN := Lib.hid hn
  have HC := Lib.hid hc
  obtain ⟨g, HG⟩ : ∃ g : Nat, Hid (wordTo c (nWorlds t) = g) := ⟨_, rfl⟩
  have hg : g < 256 := by rw [← HG.out]; exact hr
  rw [HG.out]
  clear hn hr
  rcases hc with rfl | rfl | rfl | rfl | rfl
  all_goals
    go_enter Try.func104, Try.ntmps104
    go_wp2_with (first | (go_at_call 70; refine (iWorldsOfWord _ _ HN.out hn8 _ _ HC.out).mono ?_; rintro e w' ⟨rfl, rfl⟩; rw [HG.out]) | (go_at_call 83; refine (iWithin _ _ hs0 (by omega) (by omega) (by omega) _).mono ?_; rintro e w' ⟨rfl, rfl⟩))
    go_ret
    exact ⟨rfl, rfl⟩

set_option maxRecDepth 100000 in
set_option maxHeartbeats 4000000 in
theorem iBySign (t s : Int) (x : Sen) (v1 v2 : Value) (w : World) (hx : senOk t x = true) (h1 : 1 ≤ t) (h3 : t ≤ 3) (hs0 : 0 ≤ s) (hs : s ≤ allOf t) (hk : KidsTold w t x s v1 v2) :
    Calls Try.prog 104 #[.int .i64 t, .int .i64 s, .int .u8 (signS x), v1, v2] w fun e w' => e = .returned (.bool (holdsS t x s)) ∧ Below w.heap.size w w' := by
  have hal := (allOf_lt t).2
  have hsr : withinB s s = true := within_refl s hs0
  cases x with
  | one =>
    refine (iBySign_word t s 49 (.inr (.inl rfl)) v1 v2 w h1 h3 hs0 hs).mono ?_
    rintro e w' ⟨rfl, rfl⟩
    exact ⟨ret_bool (by rw [word_one h1 h3, (within_all h1 h3 hs0).2 hs]; rfl), Below.refl _ _⟩
  | zero =>
    refine (iBySign_word t s 48 (.inl rfl) v1 v2 w h1 h3 hs0 hs).mono ?_
    rintro e w' ⟨rfl, rfl⟩
    refine ⟨ret_bool ?_, Below.refl _ _⟩
    rw [word_zero h1 h3]
    show _ = decide (s = 0)
    rw [Bool.eq_iff_iff, decide_eq_true_eq, within_nothing hs0]
  | thing i =>
    have hi : (i : Int) < t := of_decide_eq_true hx
    refine (iBySign_word t s (97 + i) (by unfold isWord; omega) v1 v2 w h1 h3 hs0 hs).mono ?_
    rintro e w' ⟨rfl, rfl⟩
    exact ⟨ret_bool (by rw [word_thing h1 h3 hi]; rfl), Below.refl _ _⟩
  | no a =>
    obtain ⟨b, o, n, c, rfl, hT⟩ := hk
    have HT := Lib.hid hT
    have HF := Lib.hid (holds_no h1 h3 hs0 hs a)
    clear hT hsr hx
    show Calls Try.prog 104 #[.int .i64 t, .int .i64 s, .int .u8 33, _, v2] w _
    go_enter Try.func104, Try.ntmps104
    go_wp2_with (go_at_call 120; refine (iDenies s _ _ _ _ _ _ hs0 (by omega) HT.out).mono ?_; rintro e w' ⟨rfl, rfl⟩)
    go_ret
    exact ⟨ret_bool HF.out.symm, Below.refl _ _⟩
  | ask a =>
    obtain ⟨b, o, n, c, rfl, hT⟩ := hk
    have HT := Lib.hid hT
    obtain ⟨hi, hcell⟩ := hT.2 s hs0 hsr
    have HF := Lib.hid (holds_ask h1 h3 hs0 hs a)
    obtain ⟨fs, HFS⟩ : ∃ x, Hid (holdsS t a s = x) := ⟨_, rfl⟩
    obtain ⟨ds, HDS⟩ : ∃ x, Hid (denyB s (holdsS t a) = x) := ⟨_, rfl⟩
    rw [HFS.out] at hcell
    clear hT hsr hx
    show Calls Try.prog 104 #[.int .i64 t, .int .i64 s, .int .u8 63, _, v2] w _
    cases fs
    all_goals
      go_enter Try.func104, Try.ntmps104
      go_wp2_with (go_at_call 120; refine (iDenies_is HDS hs0 (by omega) HT.out).mono ?_; rintro e w' ⟨rfl, rfl⟩)
      go_ret
      exact ⟨ret_bool (by rw [HF.out, HFS.out, HDS.out]; rfl), Below.refl _ _⟩
  | and_ a c =>
    obtain ⟨⟨b, o, n, c1, rfl, hT⟩, b2, o2, n2, c2, rfl, hT2⟩ := hk
    obtain ⟨hi, hcell⟩ := hT.2 s hs0 hsr
    obtain ⟨hi2, hcell2⟩ := hT2.2 s hs0 hsr
    have HF : Hid (holdsS t (.and_ a c) s = (holdsS t a s && holdsS t c s)) := rfl
    obtain ⟨fs, HFS⟩ : ∃ x, Hid (holdsS t a s = x) := ⟨_, rfl⟩
    obtain ⟨ds, HDS⟩ : ∃ x, Hid (holdsS t c s = x) := ⟨_, rfl⟩
    rw [HFS.out] at hcell
    rw [HDS.out] at hcell2
    clear hT hT2 hsr hx
    show Calls Try.prog 104 #[.int .i64 t, .int .i64 s, .int .u8 38, _, _] w _
    cases fs
    all_goals
      go_enter Try.func104, Try.ntmps104
      go_wp2_with fail
      go_ret
      exact ⟨ret_bool (by rw [HF.out, HFS.out, HDS.out]; rfl), Below.refl _ _⟩
  | or_ a c =>
    obtain ⟨⟨b, o, n, c1, rfl, hT⟩, b2, o2, n2, c2, rfl, hT2⟩ := hk
    obtain ⟨hi, hcell⟩ := hT.2 s hs0 hsr
    obtain ⟨hi2, hcell2⟩ := hT2.2 s hs0 hsr
    have HF : Hid (holdsS t (.or_ a c) s = (holdsS t a s || holdsS t c s)) := rfl
    obtain ⟨fs, HFS⟩ : ∃ x, Hid (holdsS t a s = x) := ⟨_, rfl⟩
    obtain ⟨ds, HDS⟩ : ∃ x, Hid (holdsS t c s = x) := ⟨_, rfl⟩
    rw [HFS.out] at hcell
    rw [HDS.out] at hcell2
    clear hT hT2 hsr hx
    show Calls Try.prog 104 #[.int .i64 t, .int .i64 s, .int .u8 124, _, _] w _
    cases fs
    all_goals
      go_enter Try.func104, Try.ntmps104
      go_wp2_with fail
      go_ret
      exact ⟨ret_bool (by rw [HF.out, HFS.out, HDS.out]; rfl), Below.refl _ _⟩
  | if_ a c =>
    obtain ⟨⟨b, o, n, c1, rfl, hT⟩, b2, o2, n2, c2, rfl, hT2⟩ := hk
    have HT := Lib.hid hT
    have HT2 := Lib.hid hT2
    have HF := Lib.hid (holds_if t a c s)
    clear hT hT2 hsr hx
    show Calls Try.prog 104 #[.int .i64 t, .int .i64 s, .int .u8 62, _, _] w _
    go_enter Try.func104, Try.ntmps104
    go_wp2_with fail
    refine (iCarriesOver s _ _ _ _ _ _ _ _ _ _ _ hs0 (by omega) HT.out HT2.out).mono ?_
    rintro e w' ⟨rfl, hb⟩
    have HB := Lib.hid hb
    clear hb
    go_wp2_with fail
    go_ret
    exact ⟨ret_bool HF.out.symm, HB.out⟩
end Go.Proofs.Ytbiifcdlfmeahaa

namespace Go.Proofs.Ytbiifcdlfmeahaa
open Go.RowKit

theorem oper_round {l n : Nat} {P : Program} {o : Oper} {a : Act} {w : World} {K : Act → World → Prop} {Q : Exit → Act → World → Prop} (hd : ∀ c, o.op ≠ .defer c) (h : o.wp P a w K Q) : o.wpIn (Fence.wide.inRound l) n P a w K Q := by
  refine ⟨fun _ _ => trivial, ?_⟩
  rw [Oper.semAt_eq _ _ _ hd]
  unfold Oper.wp at h
  generalize (execOp a.eval o).run P w = r at h ⊢
  cases r with
  | ok x w' =>
    cases x with
    | value v => exact h
    | skip => exact h
    | defer d => exact h
    | enter f args =>
      refine ⟨fun e => (by cases e), ?_⟩
      refine (callsIn_wide (n := n - 1)).2 ?_
      refine Calls.mono h fun e w'' he => ?_
      cases e <;> exact he
    | row r args =>
      refine ⟨fun e => (by cases e), fun c cs _ => ?_⟩
      obtain ⟨v, w'', hr, hs⟩ := h c cs
      exact ⟨v, w'', hr, stepsIn_wide.2 hs⟩
    | _ => exact h.elim
  | halt x w' => cases x <;> exact h
def noDefer (o : Oper) : Bool := match o.op with | .defer _ => false | _ => true
theorem noDefer_ne {o : Oper} (h : noDefer o = true) : ∀ c, o.op ≠ .defer c := fun c e => by unfold noDefer at h; rw [e] at h; cases h
theorem anyIn_round {l n : Nat} {P : Program} {md : Region.Mode} {ops : Array Oper} {Q : Exit → Act → World → Prop} (hd : ops.all noDefer = true) (hQ : ¬ LetsOut Q) :
    ∀ (fuel : Nat) (listed : Array Bool) (a : Act) (w : World), wpAny P md ops Q fuel listed a w → wpAnyIn (Fence.wide.inRound l) n P md ops Q fuel listed a w
  | 0, _, _, _, h => h
  | fuel + 1, listed, a, w, h => by
    refine ⟨h.1, fun i hi => ?_⟩
    have h2 := h.2 i hi
    unfold wpOp at h2
    unfold wpOpIn
    cases ho : ops[i]? with
    | none => rw [ho] at h2; exact anyIn_round hd hQ fuel _ _ _ h2
    | some o =>
      rw [ho] at h2
      simp only at h2 ⊢
      have hdo : noDefer o = true := by
        obtain ⟨hlt, e⟩ := Array.getElem?_eq_some_iff.1 ho
        rw [Array.all_eq_true] at hd
        have := hd i hlt
        rwa [e] at this
      split
      · rename_i hw
        rw [if_pos hw] at h2
        rcases h2 with h2 | h2
        · exact oper_round (noDefer_ne hdo) (Oper.wp_mono (fun a w => anyIn_round hd hQ fuel _ a w) h2)
        · exact absurd h2.2 hQ
      · rename_i hw
        rw [if_neg hw] at h2
        exact ⟨fun _ _ => trivial, anyIn_round hd hQ fuel _ _ _ h2⟩
/-- The beginning, in a round. -/
theorem round_held {l n : Nat} {P : Program} {ops : Array Oper} {Q : Exit → Act → World → Prop} {S : World → Prop} {id : Nat} {a : Act} {w : World} (hm : P.follows .mixedOrders = true) (hd : ops.all noDefer = true) (hQ : ¬ LetsOut Q) (hS : S w.drew)
    (h : S w.drew → wpAnyH P .any ops Q S ops.size (Array.replicate ops.size false) a w.drew) : (Code.region id ops true).wpIn (Fence.wide.inRound l) n P Q a w :=
  wpIn_region_any hm (anyIn_round hd hQ _ _ _ _ (wpAny_of_held _ _ _ _ (h hS)))
end Go.Proofs.Ytbiifcdlfmeahaa
