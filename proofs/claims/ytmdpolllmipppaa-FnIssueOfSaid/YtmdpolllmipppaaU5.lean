/-
  What the proofs of this seat's statements share (Deny, Sign, Held, Supg, Supi, Rdr, Rdp, Rdq).
-/
import Derived.Deep.RegionHeld3
import Derived.OrdersIn
import Derived.RangeFuncCalls
import Derived.TacticsIn
import Derived.Sort.CutIn
import Derived.Outline
import Derived.Test.YtmdpolllmipppaaU4
import Derived.Test.YtmdpolllmipppaaU3

namespace Go.Proofs.Ytmdpolllmipppaa
open Go.RowKit

def denyB (s : Int) (f : Int → Bool) : Bool := (List.range 8).all fun w => !hasW s w || !f (worldS w)
def NoneTo (s : Int) (f : Int → Bool) (k : Nat) : Prop := ∀ j, j < k → hasW s j = true → f (worldS j) = false
theorem noneTo_next {s : Int} {f : Int → Bool} {k : Nat} (h : NoneTo s f k) (hk : hasW s k = true → f (worldS k) = false) : NoneTo s f (k + 1) := fun j hj => by
  by_cases e : j = k
  · subst e; exact hk
  · exact h j (by omega)
theorem has_pow {s : Int} {k : Nat} (h : hasW s k = true) : worldS k ≤ s := by
  have := Nat.ge_two_pow_of_testBit (x := s.toNat) (i := k) h
  have h2 := Nat.two_pow_pos k
  unfold worldS
  omega
theorem deny_end {s : Int} {f : Int → Bool} {k : Nat} (h : NoneTo s f k) (hk : s < worldS k) : denyB s f = true := by
  unfold denyB
  rw [List.all_eq_true]
  intro w _
  cases hw : hasW s w
  · rfl
  · have h1 := has_pow hw
    have : w < k := by
      rcases Nat.lt_or_ge w k with h2 | h2
      · exact h2
      · have : 2 ^ k ≤ 2 ^ w := Nat.pow_le_pow_right (by omega) h2
        unfold worldS at h1 hk
        omega
    rw [h w this hw]; rfl
theorem deny_hit {s : Int} {f : Int → Bool} {k : Nat} (hk : k < 8) (h1 : hasW s k = true) (h2 : f (worldS k) = true) : denyB s f = false := by
  unfold denyB
  rw [List.all_eq_false]
  exact ⟨k, List.mem_range.2 hk, by rw [h1, h2]; decide⟩
theorem iWithin_is {a b : Int} {v : Bool} (h : Hid (withinB a b = v)) (ha : 0 ≤ a) (ha2 : a < 1024) (hb : 0 ≤ b) (hb2 : b < 1024) (w : World) :
    Calls Try.prog 91 #[.int .i64 a, .int .i64 b] w fun e w' => e = .returned (.bool v) ∧ w = w' :=
  (iWithin a b ha ha2 hb hb2 w).mono fun _ _ ⟨he, hw⟩ => ⟨he.trans (ret_bool h.out), hw⟩
theorem world_is {s : Int} {k : Nat} {p : Int} {v : Bool} (hp : worldS k = p) (h : hasW s k = v) : Hid (withinB p s = v) := by
  unfold Hid
  subst hp
  cases v
  · cases h2 : withinB (worldS k) s
    · rfl
    · rw [(world_within k).1 h2] at h; cases h
  · exact (world_within k).2 h

set_option maxRecDepth 100000 in
set_option maxHeartbeats 4000000 in
theorem iDenies (s : Int) (b o n c : Nat) (f : Int → Bool) (w : World) (hs0 : 0 ≤ s) (hs : s < 256) (hT : Told w b o n s f) :
    Calls Try.prog 121 #[.int .i64 s, .slice (some ⟨b, o, none⟩) n c] w fun e w' => e = .returned (.bool (denyB s f)) ∧ w = w' := by
  have HT := Lib.hid hT
  clear hT
  go_enter Try.func121, Try.ntmps121
  go_wp2
  go_loop [5] (fun i => ∃ k : Nat, k ≤ 8 ∧ i = .int .i64 k ∧ Hid (NoneTo s f k)) (fun i => 8 - (Go.RowKit.intOf i).toNat)
  case atStart => exact ⟨0, Nat.zero_le _, rfl, fun j h => by omega⟩
  case round =>
    obtain ⟨k, hk, rfl, hsofar⟩ := hrel
    by_cases hle : worldS k ≤ s
    · have h8 : k = 0 ∨ k = 1 ∨ k = 2 ∨ k = 3 ∨ k = 4 ∨ k = 5 ∨ k = 6 ∨ k = 7 ∨ k = 8 := by omega
      clear hk
      rcases h8 with rfl | rfl | rfl | rfl | rfl | rfl | rfl | rfl | rfl
      · have hp : (1 : Int) ≤ s := hle
        clear hle
        cases hw : hasW s 0
        · have HW := world_is (p := 1) rfl hw
          have HN := Lib.hid (noneTo_next hsofar.out (fun e => by rw [hw] at e; cases e))
          clear hw hsofar
          go_wp2_with fail
          refine (iWithin_is HW (by omega) (by omega) hs0 (by omega) _).mono ?_
          rintro e w' ⟨rfl, rfl⟩
          go_wp2_with fail
          go_round
          case rel => exact ⟨0 + 1, by omega, by go_num, HN⟩
          case measure => simp [Go.RowKit.intOf]
        · have HW := world_is (p := 1) rfl hw
          obtain ⟨hin, hcell⟩ := HT.out.2 1 (by omega) HW.out
          have hcell : w.cell? ⟨b, o + 1, none⟩ = some (.bool (f 1)) := hcell
          cases hf : f 1
          · rw [hf] at hcell
            have HN := Lib.hid (noneTo_next hsofar.out (fun _ => hf))
            clear hw hf hsofar
            go_wp2_with fail
            refine (iWithin_is HW (by omega) (by omega) hs0 (by omega) _).mono ?_
            rintro e w' ⟨rfl, rfl⟩
            go_wp2_with fail
            go_round
            case rel => exact ⟨0 + 1, by omega, by go_num, HN⟩
            case measure => simp [Go.RowKit.intOf]
          · rw [hf] at hcell
            have HN := Lib.hid (deny_hit (k := 0) (by omega) hw hf)
            clear hw hf hsofar
            go_wp2_with fail
            refine (iWithin_is HW (by omega) (by omega) hs0 (by omega) _).mono ?_
            rintro e w' ⟨rfl, rfl⟩
            go_wp2_with fail
            go_ret
            exact ⟨ret_bool (by rw [HN.out]), rfl⟩
      · have hp : (2 : Int) ≤ s := hle
        clear hle
        cases hw : hasW s 1
        · have HW := world_is (p := 2) rfl hw
          have HN := Lib.hid (noneTo_next hsofar.out (fun e => by rw [hw] at e; cases e))
          clear hw hsofar
          go_wp2_with fail
          refine (iWithin_is HW (by omega) (by omega) hs0 (by omega) _).mono ?_
          rintro e w' ⟨rfl, rfl⟩
          go_wp2_with fail
          go_round
          case rel => exact ⟨1 + 1, by omega, by go_num, HN⟩
          case measure => simp [Go.RowKit.intOf]
        · have HW := world_is (p := 2) rfl hw
          obtain ⟨hin, hcell⟩ := HT.out.2 2 (by omega) HW.out
          have hcell : w.cell? ⟨b, o + 2, none⟩ = some (.bool (f 2)) := hcell
          cases hf : f 2
          · rw [hf] at hcell
            have HN := Lib.hid (noneTo_next hsofar.out (fun _ => hf))
            clear hw hf hsofar
            go_wp2_with fail
            refine (iWithin_is HW (by omega) (by omega) hs0 (by omega) _).mono ?_
            rintro e w' ⟨rfl, rfl⟩
            go_wp2_with fail
            go_round
            case rel => exact ⟨1 + 1, by omega, by go_num, HN⟩
            case measure => simp [Go.RowKit.intOf]
          · rw [hf] at hcell
            have HN := Lib.hid (deny_hit (k := 1) (by omega) hw hf)
            clear hw hf hsofar
            go_wp2_with fail
            refine (iWithin_is HW (by omega) (by omega) hs0 (by omega) _).mono ?_
            rintro e w' ⟨rfl, rfl⟩
            go_wp2_with fail
            go_ret
            exact ⟨ret_bool (by rw [HN.out]), rfl⟩
      · have hp : (4 : Int) ≤ s := hle
        clear hle
        cases hw : hasW s 2
        · have HW := world_is (p := 4) rfl hw
          have HN := Lib.hid (noneTo_next hsofar.out (fun e => by rw [hw] at e; cases e))
          clear hw hsofar
          go_wp2_with fail
          refine (iWithin_is HW (by omega) (by omega) hs0 (by omega) _).mono ?_
          rintro e w' ⟨rfl, rfl⟩
          go_wp2_with fail
          go_round
          case rel => exact ⟨2 + 1, by omega, by go_num, HN⟩
          case measure => simp [Go.RowKit.intOf]
        · have HW := world_is (p := 4) rfl hw
          obtain ⟨hin, hcell⟩ := HT.out.2 4 (by omega) HW.out
          have hcell : w.cell? ⟨b, o + 4, none⟩ = some (.bool (f 4)) := hcell
          cases hf : f 4
          · rw [hf] at hcell
            have HN := Lib.hid (noneTo_next hsofar.out (fun _ => hf))
            clear hw hf hsofar
            go_wp2_with fail
            refine (iWithin_is HW (by omega) (by omega) hs0 (by omega) _).mono ?_
            rintro e w' ⟨rfl, rfl⟩
            go_wp2_with fail
            go_round
            case rel => exact ⟨2 + 1, by omega, by go_num, HN⟩
            case measure => simp [Go.RowKit.intOf]
          · rw [hf] at hcell
            have HN := Lib.hid (deny_hit (k := 2) (by omega) hw hf)
            clear hw hf hsofar
            go_wp2_with fail
            refine (iWithin_is HW (by omega) (by omega) hs0 (by omega) _).mono ?_
            rintro e w' ⟨rfl, rfl⟩
            go_wp2_with fail
            go_ret
            exact ⟨ret_bool (by rw [HN.out]), rfl⟩
      · have hp : (8 : Int) ≤ s := hle
        clear hle
        cases hw : hasW s 3
        · have HW := world_is (p := 8) rfl hw
          have HN := Lib.hid (noneTo_next hsofar.out (fun e => by rw [hw] at e; cases e))
          clear hw hsofar
          go_wp2_with fail
          refine (iWithin_is HW (by omega) (by omega) hs0 (by omega) _).mono ?_
          rintro e w' ⟨rfl, rfl⟩
          go_wp2_with fail
          go_round
          case rel => exact ⟨3 + 1, by omega, by go_num, HN⟩
          case measure => simp [Go.RowKit.intOf]
        · have HW := world_is (p := 8) rfl hw
          obtain ⟨hin, hcell⟩ := HT.out.2 8 (by omega) HW.out
          have hcell : w.cell? ⟨b, o + 8, none⟩ = some (.bool (f 8)) := hcell
          cases hf : f 8
          · rw [hf] at hcell
            have HN := Lib.hid (noneTo_next hsofar.out (fun _ => hf))
            clear hw hf hsofar
            go_wp2_with fail
            refine (iWithin_is HW (by omega) (by omega) hs0 (by omega) _).mono ?_
            rintro e w' ⟨rfl, rfl⟩
            go_wp2_with fail
            go_round
            case rel => exact ⟨3 + 1, by omega, by go_num, HN⟩
            case measure => simp [Go.RowKit.intOf]
          · rw [hf] at hcell
            have HN := Lib.hid (deny_hit (k := 3) (by omega) hw hf)
            clear hw hf hsofar
            go_wp2_with fail
            refine (iWithin_is HW (by omega) (by omega) hs0 (by omega) _).mono ?_
            rintro e w' ⟨rfl, rfl⟩
            go_wp2_with fail
            go_ret
            exact ⟨ret_bool (by rw [HN.out]), rfl⟩
      · have hp : (16 : Int) ≤ s := hle
        clear hle
        cases hw : hasW s 4
        · have HW := world_is (p := 16) rfl hw
          have HN := Lib.hid (noneTo_next hsofar.out (fun e => by rw [hw] at e; cases e))
          clear hw hsofar
          go_wp2_with fail
          refine (iWithin_is HW (by omega) (by omega) hs0 (by omega) _).mono ?_
          rintro e w' ⟨rfl, rfl⟩
          go_wp2_with fail
          go_round
          case rel => exact ⟨4 + 1, by omega, by go_num, HN⟩
          case measure => simp [Go.RowKit.intOf]
        · have HW := world_is (p := 16) rfl hw
          obtain ⟨hin, hcell⟩ := HT.out.2 16 (by omega) HW.out
          have hcell : w.cell? ⟨b, o + 16, none⟩ = some (.bool (f 16)) := hcell
          cases hf : f 16
          · rw [hf] at hcell
            have HN := Lib.hid (noneTo_next hsofar.out (fun _ => hf))
            clear hw hf hsofar
            go_wp2_with fail
            refine (iWithin_is HW (by omega) (by omega) hs0 (by omega) _).mono ?_
            rintro e w' ⟨rfl, rfl⟩
            go_wp2_with fail
            go_round
            case rel => exact ⟨4 + 1, by omega, by go_num, HN⟩
            case measure => simp [Go.RowKit.intOf]
          · rw [hf] at hcell
            have HN := Lib.hid (deny_hit (k := 4) (by omega) hw hf)
            clear hw hf hsofar
            go_wp2_with fail
            refine (iWithin_is HW (by omega) (by omega) hs0 (by omega) _).mono ?_
            rintro e w' ⟨rfl, rfl⟩
            go_wp2_with fail
            go_ret
            exact ⟨ret_bool (by rw [HN.out]), rfl⟩
      · have hp : (32 : Int) ≤ s := hle
        clear hle
        cases hw : hasW s 5
        · have HW := world_is (p := 32) rfl hw
          have HN := Lib.hid (noneTo_next hsofar.out (fun e => by rw [hw] at e; cases e))
          clear hw hsofar
          go_wp2_with fail
          refine (iWithin_is HW (by omega) (by omega) hs0 (by omega) _).mono ?_
          rintro e w' ⟨rfl, rfl⟩
          go_wp2_with fail
          go_round
          case rel => exact ⟨5 + 1, by omega, by go_num, HN⟩
          case measure => simp [Go.RowKit.intOf]
        · have HW := world_is (p := 32) rfl hw
          obtain ⟨hin, hcell⟩ := HT.out.2 32 (by omega) HW.out
          have hcell : w.cell? ⟨b, o + 32, none⟩ = some (.bool (f 32)) := hcell
          cases hf : f 32
          · rw [hf] at hcell
            have HN := Lib.hid (noneTo_next hsofar.out (fun _ => hf))
            clear hw hf hsofar
            go_wp2_with fail
            refine (iWithin_is HW (by omega) (by omega) hs0 (by omega) _).mono ?_
            rintro e w' ⟨rfl, rfl⟩
            go_wp2_with fail
            go_round
            case rel => exact ⟨5 + 1, by omega, by go_num, HN⟩
            case measure => simp [Go.RowKit.intOf]
          · rw [hf] at hcell
            have HN := Lib.hid (deny_hit (k := 5) (by omega) hw hf)
            clear hw hf hsofar
            go_wp2_with fail
            refine (iWithin_is HW (by omega) (by omega) hs0 (by omega) _).mono ?_
            rintro e w' ⟨rfl, rfl⟩
            go_wp2_with fail
            go_ret
            exact ⟨ret_bool (by rw [HN.out]), rfl⟩
      · have hp : (64 : Int) ≤ s := hle
        clear hle
        cases hw : hasW s 6
        · have HW := world_is (p := 64) rfl hw
          have HN := Lib.hid (noneTo_next hsofar.out (fun e => by rw [hw] at e; cases e))
          clear hw hsofar
          go_wp2_with fail
          refine (iWithin_is HW (by omega) (by omega) hs0 (by omega) _).mono ?_
          rintro e w' ⟨rfl, rfl⟩
          go_wp2_with fail
          go_round
          case rel => exact ⟨6 + 1, by omega, by go_num, HN⟩
          case measure => simp [Go.RowKit.intOf]
        · have HW := world_is (p := 64) rfl hw
          obtain ⟨hin, hcell⟩ := HT.out.2 64 (by omega) HW.out
          have hcell : w.cell? ⟨b, o + 64, none⟩ = some (.bool (f 64)) := hcell
          cases hf : f 64
          · rw [hf] at hcell
            have HN := Lib.hid (noneTo_next hsofar.out (fun _ => hf))
            clear hw hf hsofar
            go_wp2_with fail
            refine (iWithin_is HW (by omega) (by omega) hs0 (by omega) _).mono ?_
            rintro e w' ⟨rfl, rfl⟩
            go_wp2_with fail
            go_round
            case rel => exact ⟨6 + 1, by omega, by go_num, HN⟩
            case measure => simp [Go.RowKit.intOf]
          · rw [hf] at hcell
            have HN := Lib.hid (deny_hit (k := 6) (by omega) hw hf)
            clear hw hf hsofar
            go_wp2_with fail
            refine (iWithin_is HW (by omega) (by omega) hs0 (by omega) _).mono ?_
            rintro e w' ⟨rfl, rfl⟩
            go_wp2_with fail
            go_ret
            exact ⟨ret_bool (by rw [HN.out]), rfl⟩
      · have hp : (128 : Int) ≤ s := hle
        clear hle
        cases hw : hasW s 7
        · have HW := world_is (p := 128) rfl hw
          have HN := Lib.hid (noneTo_next hsofar.out (fun e => by rw [hw] at e; cases e))
          clear hw hsofar
          go_wp2_with fail
          refine (iWithin_is HW (by omega) (by omega) hs0 (by omega) _).mono ?_
          rintro e w' ⟨rfl, rfl⟩
          go_wp2_with fail
          go_round
          case rel => exact ⟨7 + 1, by omega, by go_num, HN⟩
          case measure => simp [Go.RowKit.intOf]
        · have HW := world_is (p := 128) rfl hw
          obtain ⟨hin, hcell⟩ := HT.out.2 128 (by omega) HW.out
          have hcell : w.cell? ⟨b, o + 128, none⟩ = some (.bool (f 128)) := hcell
          cases hf : f 128
          · rw [hf] at hcell
            have HN := Lib.hid (noneTo_next hsofar.out (fun _ => hf))
            clear hw hf hsofar
            go_wp2_with fail
            refine (iWithin_is HW (by omega) (by omega) hs0 (by omega) _).mono ?_
            rintro e w' ⟨rfl, rfl⟩
            go_wp2_with fail
            go_round
            case rel => exact ⟨7 + 1, by omega, by go_num, HN⟩
            case measure => simp [Go.RowKit.intOf]
          · rw [hf] at hcell
            have HN := Lib.hid (deny_hit (k := 7) (by omega) hw hf)
            clear hw hf hsofar
            go_wp2_with fail
            refine (iWithin_is HW (by omega) (by omega) hs0 (by omega) _).mono ?_
            rintro e w' ⟨rfl, rfl⟩
            go_wp2_with fail
            go_ret
            exact ⟨ret_bool (by rw [HN.out]), rfl⟩
      · have hp : (256 : Int) ≤ s := hle
        omega
    · have HN := Lib.hid (deny_end hsofar.out (by omega))
      have h8 : k = 0 ∨ k = 1 ∨ k = 2 ∨ k = 3 ∨ k = 4 ∨ k = 5 ∨ k = 6 ∨ k = 7 ∨ k = 8 := by omega
      clear hk hsofar
      rcases h8 with rfl | rfl | rfl | rfl | rfl | rfl | rfl | rfl | rfl
      · have hp : s < (1 : Int) := by have : ¬ (1 : Int) ≤ s := hle; omega
        clear hle
        go_wp2
        go_ret
        exact ⟨ret_bool (by rw [HN.out]), rfl⟩
      · have hp : s < (2 : Int) := by have : ¬ (2 : Int) ≤ s := hle; omega
        clear hle
        go_wp2
        go_ret
        exact ⟨ret_bool (by rw [HN.out]), rfl⟩
      · have hp : s < (4 : Int) := by have : ¬ (4 : Int) ≤ s := hle; omega
        clear hle
        go_wp2
        go_ret
        exact ⟨ret_bool (by rw [HN.out]), rfl⟩
      · have hp : s < (8 : Int) := by have : ¬ (8 : Int) ≤ s := hle; omega
        clear hle
        go_wp2
        go_ret
        exact ⟨ret_bool (by rw [HN.out]), rfl⟩
      · have hp : s < (16 : Int) := by have : ¬ (16 : Int) ≤ s := hle; omega
        clear hle
        go_wp2
        go_ret
        exact ⟨ret_bool (by rw [HN.out]), rfl⟩
      · have hp : s < (32 : Int) := by have : ¬ (32 : Int) ≤ s := hle; omega
        clear hle
        go_wp2
        go_ret
        exact ⟨ret_bool (by rw [HN.out]), rfl⟩
      · have hp : s < (64 : Int) := by have : ¬ (64 : Int) ≤ s := hle; omega
        clear hle
        go_wp2
        go_ret
        exact ⟨ret_bool (by rw [HN.out]), rfl⟩
      · have hp : s < (128 : Int) := by have : ¬ (128 : Int) ≤ s := hle; omega
        clear hle
        go_wp2
        go_ret
        exact ⟨ret_bool (by rw [HN.out]), rfl⟩
      · have hp : s < (256 : Int) := by have : ¬ (256 : Int) ≤ s := hle; omega
        clear hle
        go_wp2
        go_ret
        exact ⟨ret_bool (by rw [HN.out]), rfl⟩
end Go.Proofs.Ytmdpolllmipppaa

namespace Go.Proofs.Ytmdpolllmipppaa
open Go.RowKit

def signS : Sen → Nat
  | .one => 49
  | .zero => 48
  | .thing i => 97 + i
  | .no _ => 33
  | .ask _ => 63
  | .and_ _ _ => 38
  | .or_ _ _ => 124
  | .if_ _ _ => 62
theorem worlds_n {t : Int} (h1 : 1 ≤ t) (h3 : t ≤ 3) : worldsOf t = (nWorlds t : Int) ∧ nWorlds t ≤ 8 := by
  have : t = 1 ∨ t = 2 ∨ t = 3 := by omega
  rcases this with rfl | rfl | rfl <;> exact ⟨rfl, by decide⟩
theorem word_one {t : Int} (h1 : 1 ≤ t) (h3 : t ≤ 3) : (wordTo 49 (nWorlds t) : Int) = allOf t := by
  have : t = 1 ∨ t = 2 ∨ t = 3 := by omega
  rcases this with rfl | rfl | rfl <;> rfl
theorem word_zero {t : Int} (h1 : 1 ≤ t) (h3 : t ≤ 3) : (wordTo 48 (nWorlds t) : Int) = 0 := by
  have : t = 1 ∨ t = 2 ∨ t = 3 := by omega
  rcases this with rfl | rfl | rfl <;> rfl
theorem word_thing {t : Int} {i : Nat} (h1 : 1 ≤ t) (h3 : t ≤ 3) (hi : (i : Int) < t) : (wordTo (97 + i) (nWorlds t) : Int) = letterSet t i := by
  have : t = 1 ∨ t = 2 ∨ t = 3 := by omega
  rcases this with rfl | rfl | rfl
  · obtain rfl : i = 0 := by omega
    rfl
  · have : i = 0 ∨ i = 1 := by omega
    rcases this with rfl | rfl <;> rfl
  · have : i = 0 ∨ i = 1 ∨ i = 2 := by omega
    rcases this with rfl | rfl | rfl <;> rfl
theorem word_range (c : Nat) {t : Int} (h1 : 1 ≤ t) (h3 : t ≤ 3) (hc : isWord c) : wordTo c (nWorlds t) < 256 := by
  have : t = 1 ∨ t = 2 ∨ t = 3 := by omega
  rcases this with rfl | rfl | rfl <;> rcases hc with rfl | rfl | rfl | rfl | rfl <;> decide
theorem deny_worlds {t s : Int} (h1 : 1 ≤ t) (h3 : t ≤ 3) (hs0 : 0 ≤ s) (hs : s ≤ allOf t) (f : Int → Bool) : ((List.range (nWorlds t)).all fun w => !hasW s w || !f (worldS w)) = denyB s f := by
  unfold denyB
  rw [Bool.eq_iff_iff, List.all_eq_true, List.all_eq_true]
  have hn := (worlds_n h1 h3).2
  constructor
  · intro h w hw
    rcases Nat.lt_or_ge w (nWorlds t) with h2 | h2
    · exact h w (List.mem_range.2 h2)
    · cases h4 : hasW s w
      · rfl
      · have := has_lt h1 h3 hs0 hs h4; omega
  · intro h w hw
    exact h w (List.mem_range.2 (by have := List.mem_range.1 hw; omega))
theorem holds_no {t s : Int} (h1 : 1 ≤ t) (h3 : t ≤ 3) (hs0 : 0 ≤ s) (hs : s ≤ allOf t) (x : Sen) : holdsS t (.no x) s = denyB s (holdsS t x) := deny_worlds h1 h3 hs0 hs _
theorem holds_ask {t s : Int} (h1 : 1 ≤ t) (h3 : t ≤ 3) (hs0 : 0 ≤ s) (hs : s ≤ allOf t) (x : Sen) : holdsS t (.ask x) s = (holdsS t x s || denyB s (holdsS t x)) := by
  rw [← deny_worlds h1 h3 hs0 hs]; rfl
theorem holds_if (t : Int) (x y : Sen) (s : Int) : holdsS t (.if_ x y) s = ifB s (holdsS t x) (holdsS t y) := rfl

def TellsV (w : World) (v : Value) (s : Int) (f : Int → Bool) : Prop := ∃ b o n c, v = .slice (some ⟨b, o, none⟩) n c ∧ Told w b o n s f
def KidsTold (w : World) (t : Int) (x : Sen) (s : Int) (v1 v2 : Value) : Prop :=
  match x with
  | .no a => TellsV w v1 s (holdsS t a)
  | .ask a => TellsV w v1 s (holdsS t a)
  | .and_ a b => TellsV w v1 s (holdsS t a) ∧ TellsV w v2 s (holdsS t b)
  | .or_ a b => TellsV w v1 s (holdsS t a) ∧ TellsV w v2 s (holdsS t b)
  | .if_ a b => TellsV w v1 s (holdsS t a) ∧ TellsV w v2 s (holdsS t b)
  | _ => True
theorem TellsV.below {w w' : World} {v : Value} {s : Int} {f : Int → Bool} (h : TellsV w v s f) (hb : Below w.heap.size w w') : TellsV w' v s f := by
  obtain ⟨b, o, n, c, rfl, h⟩ := h; exact ⟨b, o, n, c, rfl, h.below hb⟩
theorem TellsV.sub {w : World} {v : Value} {s s2 : Int} {f : Int → Bool} (h : TellsV w v s f) (hs0 : 0 ≤ s2) (hs : withinB s2 s = true) : TellsV w v s2 f := by
  obtain ⟨b, o, n, c, rfl, h⟩ := h; exact ⟨b, o, n, c, rfl, h.sub hs0 hs⟩
theorem KidsTold.below {w w' : World} {t : Int} {x : Sen} {s : Int} {v1 v2 : Value} (h : KidsTold w t x s v1 v2) (hb : Below w.heap.size w w') : KidsTold w' t x s v1 v2 := by
  cases x with
  | one => trivial
  | zero => trivial
  | thing i => trivial
  | no a => exact TellsV.below h hb
  | ask a => exact TellsV.below h hb
  | and_ a b => exact ⟨TellsV.below h.1 hb, TellsV.below h.2 hb⟩
  | or_ a b => exact ⟨TellsV.below h.1 hb, TellsV.below h.2 hb⟩
  | if_ a b => exact ⟨TellsV.below h.1 hb, TellsV.below h.2 hb⟩
theorem KidsTold.sub {w : World} {t : Int} {x : Sen} {s s2 : Int} {v1 v2 : Value} (h : KidsTold w t x s v1 v2) (hs0 : 0 ≤ s2) (hs : withinB s2 s = true) : KidsTold w t x s2 v1 v2 := by
  cases x with
  | one => trivial
  | zero => trivial
  | thing i => trivial
  | no a => exact TellsV.sub h hs0 hs
  | ask a => exact TellsV.sub h hs0 hs
  | and_ a b => exact ⟨TellsV.sub h.1 hs0 hs, TellsV.sub h.2 hs0 hs⟩
  | or_ a b => exact ⟨TellsV.sub h.1 hs0 hs, TellsV.sub h.2 hs0 hs⟩
  | if_ a b => exact ⟨TellsV.sub h.1 hs0 hs, TellsV.sub h.2 hs0 hs⟩
theorem iDenies_is {s : Int} {f : Int → Bool} {v : Bool} (h : Hid (denyB s f = v)) {b o n c : Nat} {w : World} (hs0 : 0 ≤ s) (hs : s < 256) (hT : Told w b o n s f) :
    Calls Try.prog 121 #[.int .i64 s, .slice (some ⟨b, o, none⟩) n c] w fun e w' => e = .returned (.bool v) ∧ w = w' :=
  (iDenies s b o n c f w hs0 hs hT).mono fun _ _ ⟨he, hw⟩ => ⟨he.trans (ret_bool h.out), hw⟩

set_option maxRecDepth 100000 in
set_option maxHeartbeats 4000000 in
theorem iBySign_word (t s : Int) (c : Nat) (hc : isWord c) (v1 v2 : Value) (w : World) (h1 : 1 ≤ t) (h3 : t ≤ 3) (hs0 : 0 ≤ s) (hs : s ≤ allOf t) :
    Calls Try.prog 112 #[.int .i64 t, .int .i64 s, .int .u8 c, v1, v2] w fun e w' => e = .returned (.bool (withinB s (wordTo c (nWorlds t)))) ∧ w = w' := by
  obtain ⟨hn, hn8⟩ := worlds_n h1 h3
  have hr := word_range c h1 h3 hc
  have hal := (allOf_lt t).2
  have HN := Lib.hid hn
  have HC := Lib.hid hc
  obtain ⟨g, HG⟩ : ∃ g : Nat, Hid (wordTo c (nWorlds t) = g) := ⟨_, rfl⟩
  have hg : g < 256 := by rw [← HG.out]; exact hr
  rw [HG.out]
  clear hn hr
  rcases hc with rfl | rfl | rfl | rfl | rfl
  all_goals
    go_enter Try.func112, Try.ntmps112
    go_wp2_with (first | (go_at_call 84; refine (iWorldsOfWord _ _ HN.out hn8 _ _ HC.out).mono ?_; rintro e w' ⟨rfl, rfl⟩; rw [HG.out]) | (go_at_call 91; refine (iWithin _ _ hs0 (by omega) (by omega) (by omega) _).mono ?_; rintro e w' ⟨rfl, rfl⟩))
    go_ret
    exact ⟨rfl, rfl⟩

set_option maxRecDepth 100000 in
set_option maxHeartbeats 4000000 in
theorem iBySign (t s : Int) (x : Sen) (v1 v2 : Value) (w : World) (hx : senOk t x = true) (h1 : 1 ≤ t) (h3 : t ≤ 3) (hs0 : 0 ≤ s) (hs : s ≤ allOf t) (hk : KidsTold w t x s v1 v2) :
    Calls Try.prog 112 #[.int .i64 t, .int .i64 s, .int .u8 (signS x), v1, v2] w fun e w' => e = .returned (.bool (holdsS t x s)) ∧ Below w.heap.size w w' := by
  have hal := (allOf_lt t).2
  have hsr : withinB s s = true := within_refl s hs0
  cases x with
  | one =>
    refine (iBySign_word t s 49 (.inr (.inl rfl)) v1 v2 w h1 h3 hs0 hs).mono ?_
    rintro e w' ⟨rfl, rfl⟩
    exact ⟨ret_bool (by rw [word_one h1 h3, (within_all h1 h3 hs0).2 hs]; rfl), Below.refl _ _⟩
  | zero =>
    refine (iBySign_word t s 48 (.inl rfl) v1 v2 w h1 h3 hs0 hs).mono ?_
    rintro e w' ⟨rfl, rfl⟩
    refine ⟨ret_bool ?_, Below.refl _ _⟩
    rw [word_zero h1 h3]
    show _ = decide (s = 0)
    rw [Bool.eq_iff_iff, decide_eq_true_eq, within_nothing hs0]
  | thing i =>
    have hi : (i : Int) < t := of_decide_eq_true hx
    refine (iBySign_word t s (97 + i) (by unfold isWord; omega) v1 v2 w h1 h3 hs0 hs).mono ?_
    rintro e w' ⟨rfl, rfl⟩
    exact ⟨ret_bool (by rw [word_thing h1 h3 hi]; rfl), Below.refl _ _⟩
  | no a =>
    obtain ⟨b, o, n, c, rfl, hT⟩ := hk
    have HT := Lib.hid hT
    have HF := Lib.hid (holds_no h1 h3 hs0 hs a)
    clear hT hsr hx
    show Calls Try.prog 112 #[.int .i64 t, .int .i64 s, .int .u8 33, _, v2] w _
    go_enter Try.func112, Try.ntmps112
    go_wp2_with (go_at_call 121; refine (iDenies s _ _ _ _ _ _ hs0 (by omega) HT.out).mono ?_; rintro e w' ⟨rfl, rfl⟩)
    go_ret
    exact ⟨ret_bool HF.out.symm, Below.refl _ _⟩
  | ask a =>
    obtain ⟨b, o, n, c, rfl, hT⟩ := hk
    have HT := Lib.hid hT
    obtain ⟨hi, hcell⟩ := hT.2 s hs0 hsr
    have HF := Lib.hid (holds_ask h1 h3 hs0 hs a)
    obtain ⟨fs, HFS⟩ : ∃ x, Hid (holdsS t a s = x) := ⟨_, rfl⟩
    obtain ⟨ds, HDS⟩ : ∃ x, Hid (denyB s (holdsS t a) = x) := ⟨_, rfl⟩
    rw [HFS.out] at hcell
    clear hT hsr hx
    show Calls Try.prog 112 #[.int .i64 t, .int .i64 s, .int .u8 63, _, v2] w _
    cases fs
    all_goals
      go_enter Try.func112, Try.ntmps112
      go_wp2_with (go_at_call 121; refine (iDenies_is HDS hs0 (by omega) HT.out).mono ?_; rintro e w' ⟨rfl, rfl⟩)
      go_ret
      exact ⟨ret_bool (by rw [HF.out, HFS.out, HDS.out]; rfl), Below.refl _ _⟩
  | and_ a c =>
    obtain ⟨⟨b, o, n, c1, rfl, hT⟩, b2, o2, n2, c2, rfl, hT2⟩ := hk
    obtain ⟨hi, hcell⟩ := hT.2 s hs0 hsr
    obtain ⟨hi2, hcell2⟩ := hT2.2 s hs0 hsr
    have HF : Hid (holdsS t (.and_ a c) s = (holdsS t a s && holdsS t c s)) := rfl
    obtain ⟨fs, HFS⟩ : ∃ x, Hid (holdsS t a s = x) := ⟨_, rfl⟩
    obtain ⟨ds, HDS⟩ : ∃ x, Hid (holdsS t c s = x) := ⟨_, rfl⟩
    rw [HFS.out] at hcell
    rw [HDS.out] at hcell2
    clear hT hT2 hsr hx
    show Calls Try.prog 112 #[.int .i64 t, .int .i64 s, .int .u8 38, _, _] w _
    cases fs
    all_goals
      go_enter Try.func112, Try.ntmps112
      go_wp2_with fail
      go_ret
      exact ⟨ret_bool (by rw [HF.out, HFS.out, HDS.out]; rfl), Below.refl _ _⟩
  | or_ a c =>
    obtain ⟨⟨b, o, n, c1, rfl, hT⟩, b2, o2, n2, c2, rfl, hT2⟩ := hk
    obtain ⟨hi, hcell⟩ := hT.2 s hs0 hsr
    obtain ⟨hi2, hcell2⟩ := hT2.2 s hs0 hsr
    have HF : Hid (holdsS t (.or_ a c) s = (holdsS t a s || holdsS t c s)) := rfl
    obtain ⟨fs, HFS⟩ : ∃ x, Hid (holdsS t a s = x) := ⟨_, rfl⟩
    obtain ⟨ds, HDS⟩ : ∃ x, Hid (holdsS t c s = x) := ⟨_, rfl⟩
    rw [HFS.out] at hcell
    rw [HDS.out] at hcell2
    clear hT hT2 hsr hx
    show Calls Try.prog 112 #[.int .i64 t, .int .i64 s, .int .u8 124, _, _] w _
    cases fs
    all_goals
      go_enter Try.func112, Try.ntmps112
      go_wp2_with fail
      go_ret
      exact ⟨ret_bool (by rw [HF.out, HFS.out, HDS.out]; rfl), Below.refl _ _⟩
  | if_ a c =>
    obtain ⟨⟨b, o, n, c1, rfl, hT⟩, b2, o2, n2, c2, rfl, hT2⟩ := hk
    have HT := Lib.hid hT
    have HT2 := Lib.hid hT2
    have HF := Lib.hid (holds_if t a c s)
    clear hT hT2 hsr hx
    show Calls Try.prog 112 #[.int .i64 t, .int .i64 s, .int .u8 62, _, _] w _
    go_enter Try.func112, Try.ntmps112
    go_wp2_with fail
    refine (iCarriesOver s _ _ _ _ _ _ _ _ _ _ _ hs0 (by omega) HT.out HT2.out).mono ?_
    rintro e w' ⟨rfl, hb⟩
    have HB := Lib.hid hb
    clear hb
    go_wp2_with fail
    go_ret
    exact ⟨ret_bool HF.out.symm, HB.out⟩
end Go.Proofs.Ytmdpolllmipppaa

namespace Go.Proofs.Ytmdpolllmipppaa
open Go.RowKit

theorem oper_round {l n : Nat} {P : Program} {o : Oper} {a : Act} {w : World} {K : Act → World → Prop} {Q : Exit → Act → World → Prop} (hd : ∀ c, o.op ≠ .defer c) (h : o.wp P a w K Q) : o.wpIn (Fence.wide.inRound l) n P a w K Q := by
  refine ⟨fun _ _ => trivial, ?_⟩
  rw [Oper.semAt_eq _ _ _ hd]
  unfold Oper.wp at h
  generalize (execOp a.eval o).run P w = r at h ⊢
  cases r with
  | ok x w' =>
    cases x with
    | value v => exact h
    | skip => exact h
    | defer d => exact h
    | enter f args =>
      refine ⟨fun e => (by cases e), ?_⟩
      refine (callsIn_wide (n := n - 1)).2 ?_
      refine Calls.mono h fun e w'' he => ?_
      cases e <;> exact he
    | row r args =>
      refine ⟨fun e => (by cases e), fun c cs _ => ?_⟩
      obtain ⟨v, w'', hr, hs⟩ := h c cs
      exact ⟨v, w'', hr, stepsIn_wide.2 hs⟩
    | _ => exact h.elim
  | halt x w' => cases x <;> exact h
def noDefer (o : Oper) : Bool := match o.op with | .defer _ => false | _ => true
theorem noDefer_ne {o : Oper} (h : noDefer o = true) : ∀ c, o.op ≠ .defer c := fun c e => by unfold noDefer at h; rw [e] at h; cases h
theorem anyIn_round {l n : Nat} {P : Program} {md : Region.Mode} {ops : Array Oper} {Q : Exit → Act → World → Prop} (hd : ops.all noDefer = true) (hQ : ¬ LetsOut Q) :
    ∀ (fuel : Nat) (listed : Array Bool) (a : Act) (w : World), wpAny P md ops Q fuel listed a w → wpAnyIn (Fence.wide.inRound l) n P md ops Q fuel listed a w
  | 0, _, _, _, h => h
  | fuel + 1, listed, a, w, h => by
    refine ⟨h.1, fun i hi => ?_⟩
    have h2 := h.2 i hi
    unfold wpOp at h2
    unfold wpOpIn
    cases ho : ops[i]? with
    | none => rw [ho] at h2; exact anyIn_round hd hQ fuel _ _ _ h2
    | some o =>
      rw [ho] at h2
      simp only at h2 ⊢
      have hdo : noDefer o = true := by
        obtain ⟨hlt, e⟩ := Array.getElem?_eq_some_iff.1 ho
        rw [Array.all_eq_true] at hd
        have := hd i hlt
        rwa [e] at this
      split
      · rename_i hw
        rw [if_pos hw] at h2
        rcases h2 with h2 | h2
        · exact oper_round (noDefer_ne hdo) (Oper.wp_mono (fun a w => anyIn_round hd hQ fuel _ a w) h2)
        · exact absurd h2.2 hQ
      · rename_i hw
        rw [if_neg hw] at h2
        exact ⟨fun _ _ => trivial, anyIn_round hd hQ fuel _ _ _ h2⟩
/-- The beginning, in a round. -/
theorem round_held {l n : Nat} {P : Program} {ops : Array Oper} {Q : Exit → Act → World → Prop} {S : World → Prop} {id : Nat} {a : Act} {w : World} (hm : P.follows .mixedOrders = true) (hd : ops.all noDefer = true) (hQ : ¬ LetsOut Q) (hS : S w.drew)
    (h : S w.drew → wpAnyH P .any ops Q S ops.size (Array.replicate ops.size false) a w.drew) : (Code.region id ops true).wpIn (Fence.wide.inRound l) n P Q a w :=
  wpIn_region_any hm (anyIn_round hd hQ _ _ _ _ (wpAny_of_held _ _ _ _ (h hS)))
end Go.Proofs.Ytmdpolllmipppaa

namespace Go.Proofs.Ytmdpolllmipppaa
open Go.RowKit Go.Shelf
attribute [local go_sem] Oper.semAt_some

def KidPost (P : World → Value → Prop) (w : World) (e : Ending) (w' : World) : Prop := ∃ A n c, e = .returned (.slice A n c) ∧ P w' (.slice A n c) ∧ Below w.heap.size w w'
def Kid1 (t s : Int) (x : Sen) (w : World) (v : Value) : Prop :=
  match x with
  | .no a => TellsV w v s (holdsS t a)
  | .ask a => TellsV w v s (holdsS t a)
  | .and_ a _ => TellsV w v s (holdsS t a)
  | .or_ a _ => TellsV w v s (holdsS t a)
  | .if_ a _ => TellsV w v s (holdsS t a)
  | _ => True
def Kid2 (t s : Int) (x : Sen) (w : World) (v : Value) : Prop :=
  match x with
  | .and_ _ a => TellsV w v s (holdsS t a)
  | .or_ _ a => TellsV w v s (holdsS t a)
  | .if_ _ a => TellsV w v s (holdsS t a)
  | _ => True
theorem Kid1.below {t s : Int} {x : Sen} {w w' : World} {v : Value} (h : Kid1 t s x w v) (hb : Below w.heap.size w w') : Kid1 t s x w' v := by
  cases x <;> first | exact TellsV.below h hb | trivial
theorem Kid2.below {t s : Int} {x : Sen} {w w' : World} {v : Value} (h : Kid2 t s x w v) (hb : Below w.heap.size w w') : Kid2 t s x w' v := by
  cases x <;> first | exact TellsV.below h hb | trivial
theorem zero_within (s : Int) : withinB 0 s = true := by unfold withinB andI; simp
theorem Told.set {w : World} {b o n : Nat} {s : Int} {f : Int → Bool} {B k c : Nat} {t : TypeId} {A : Option Addr} (h : Told w b o n s f) (hx : Boxed w B t (.slice A k c)) (v : Value) : Told (w.setCell ⟨B, 0, none⟩ v) b o n s f := by
  have hne : B ≠ b := by
    rintro rfl
    have h0 := (h.2 0 (Int.le_refl _) (zero_within s)).2
    simp [World.cell?, show w.heap[B]? = _ from hx] at h0
    cases o with
    | zero => simp at h0
    | succ o => simp at h0
  exact ⟨by have := (KeepsWalks.setCell w ⟨B, 0, none⟩ v).size; have := h.1; omega, fun u h0 hu => ⟨(h.2 u h0 hu).1, (World.cell?_setCell_far _ _ _ _ hne).trans (h.2 u h0 hu).2⟩⟩
theorem TellsV.set {w : World} {v : Value} {s : Int} {f : Int → Bool} {B k c : Nat} {t : TypeId} {A : Option Addr} (h : TellsV w v s f) (hx : Boxed w B t (.slice A k c)) (u : Value) : TellsV (w.setCell ⟨B, 0, none⟩ u) v s f := by
  obtain ⟨b, o, n, c', rfl, h⟩ := h; exact ⟨b, o, n, c', rfl, h.set hx u⟩
theorem Kid1.set {t s : Int} {x : Sen} {w : World} {v : Value} {B k c : Nat} {ty : TypeId} {A : Option Addr} (h : Kid1 t s x w v) (hx : Boxed w B ty (.slice A k c)) (u : Value) : Kid1 t s x (w.setCell ⟨B, 0, none⟩ u) v := by
  cases x <;> first | exact TellsV.set h hx u | trivial
theorem Kid2.set {t s : Int} {x : Sen} {w : World} {v : Value} {B k c : Nat} {ty : TypeId} {A : Option Addr} (h : Kid2 t s x w v) (hx : Boxed w B ty (.slice A k c)) (u : Value) : Kid2 t s x (w.setCell ⟨B, 0, none⟩ u) v := by
  cases x <;> first | exact TellsV.set h hx u | trivial
theorem cut_size {W w2 : World} (h : Below W.drew.heap.size W.drew w2) : W.heap.size ≤ w2.heap.size := h.size
theorem cut_new {W w2 : World} (h : Below W.drew.heap.size W.drew w2) (o : Obj) : Below W.heap.size W (w2.alloc o) :=
  ((below_drewN (Below.refl W.heap.size W) 1).trans h).alloc (cut_size h) o
theorem cut_set {W w2 : World} {o : Obj} (h : Below (W.alloc o).drew.heap.size (W.alloc o).drew w2) (v : Value) : Below W.heap.size W (w2.setCell ⟨W.heap.size, 0, none⟩ v) := by
  have h1 : Below W.heap.size (W.alloc o).drew w2 := h.mono (by show W.heap.size ≤ (W.alloc o).heap.size; simp)
  exact ((below_drewN ((Below.refl W.heap.size W).alloc (Nat.le_refl _) o) 1).trans h1).setCell (p := ⟨W.heap.size, 0, none⟩) (Nat.le_refl _) v
def toldF {s : Int} (f : Int → Bool) (pre : List (Sub s)) : Nat → Value := fun i => .bool (decide ((i : Int) ∈ pre.map (·.1)) && f i)
theorem toldF_next {s : Int} {f : Int → Bool} (pre : List (Sub s)) (y : Sub s) (i : Nat) : (if i = y.1.toNat then Value.bool (f y.1) else toldF f pre i) = toldF f (pre ++ [y]) i := by
  have h0 := y.2.1
  unfold toldF
  by_cases e : i = y.1.toNat
  · rw [if_pos e]
    have e2 : (i : Int) = y.1 := by omega
    rw [e2, decide_eq_true (by simp)]; rfl
  · rw [if_neg e]
    congr 2
    rw [decide_eq_decide]
    have e2 : ¬ (i : Int) = y.1 := by omega
    simp [e2]
theorem row_keep {W W' : World} {row : Option Nat} {b n : Nat} {t : TypeId} {f : Nat → Value} (h : W.rowIs b t n f) (hg : W.grownBy W' row) (hr : ∀ r, row = some r → ∃ o : Obj, W.heap[r]? = some o ∧ o.isCells = false) : W'.rowIs b t n f := by
  refine h.of_block (hg.block b h.lt fun e => ?_)
  obtain ⟨o, ho, hc⟩ := hr b e.symm
  obtain ⟨C, hC, _⟩ := h
  rw [hC] at ho; cases ho; cases hc
structure SigHeld (N b B7 B8 T m : Nat) (t : Int) (sg : Nat) (v1 v2 : Value) (w : World) : Prop where
  c9 : w.cell? ⟨T + 1, 0, none⟩ = some (.slice (some ⟨T, 0, none⟩) (m + 1) (m + 1))
  ct : w.cell? ⟨N, 0, none⟩ = some (.int .i64 t)
  cb : w.cell? ⟨N + 1, 0, none⟩ = some (.pointer (some ⟨b, 0, none⟩))
  cs : w.cell? ⟨b, 0, none⟩ = some (.int .u8 sg)
  c7 : w.cell? ⟨B7, 0, none⟩ = some v1
  c8 : w.cell? ⟨B8, 0, none⟩ = some v2
theorem SigHeld.keep {N b B7 B8 T m : Nat} {t : Int} {sg : Nat} {v1 v2 : Value} {w w' : World} (h : SigHeld N b B7 B8 T m t sg v1 v2 w) (hk : ∀ a : Addr, a.block ≠ T → (w.cell? a).isSome = true → w'.cell? a = w.cell? a) (h1 : N < T) (h2 : N + 1 < T) (h3 : b < T) (h4 : B7 < T) (h5 : B8 < T) : SigHeld N b B7 B8 T m t sg v1 v2 w' :=
  ⟨(hk _ (by show T + 1 ≠ T; omega) (by rw [h.c9]; rfl)).trans h.c9, (hk _ (by show N ≠ T; omega) (by rw [h.ct]; rfl)).trans h.ct, (hk _ (by show N + 1 ≠ T; omega) (by rw [h.cb]; rfl)).trans h.cb,
    (hk _ (by show b ≠ T; omega) (by rw [h.cs]; rfl)).trans h.cs, (hk _ (by show B7 ≠ T; omega) (by rw [h.c7]; rfl)).trans h.c7, (hk _ (by show B8 ≠ T; omega) (by rw [h.c8]; rfl)).trans h.c8⟩
theorem SigHeld.below {N b B7 B8 T m : Nat} {t : Int} {sg : Nat} {v1 v2 : Value} {w w' : World} (h : SigHeld N b B7 B8 T m t sg v1 v2 w) (hb : Below w.heap.size w w') : SigHeld N b B7 B8 T m t sg v1 v2 w' :=
  ⟨(hb.cell (World.block_lt_of_cell? w _ h.c9)).trans h.c9, (hb.cell (World.block_lt_of_cell? w _ h.ct)).trans h.ct, (hb.cell (World.block_lt_of_cell? w _ h.cb)).trans h.cb,
    (hb.cell (World.block_lt_of_cell? w _ h.cs)).trans h.cs, (hb.cell (World.block_lt_of_cell? w _ h.c7)).trans h.c7, (hb.cell (World.block_lt_of_cell? w _ h.c8)).trans h.c8⟩
theorem keeps_below {w w' : World} (h : Below w.heap.size w w') : KeepsOthers w w' := ⟨h.size, fun k _ hk _ => (h.block k (Array.getElem?_eq_some_iff.1 hk).1).trans hk⟩
theorem kids_told {t s : Int} {x : Sen} {w : World} {v1 v2 : Value} (h1 : Kid1 t s x w v1) (h2 : Kid2 t s x w v2) : KidsTold w t x s v1 v2 := by
  cases x <;> first | exact ⟨h1, h2⟩ | exact h1 | trivial
theorem bool_info : (Try.prog.info? 4).map (fun i => (i.zero, i.size, i.bytes)) = some (some (.bool false), 1, 1) := by kernel_rfl
abbrev NodeAt (w : World) (b : Nat) (sg : Nat) (q1 q2 : Option Addr) : Prop := w.heap[b]? = some (.cells #[.int .u8 sg, .pointer q1, .pointer q2] 85 (0, 0))
theorem node_cells {w : World} {b sg : Nat} {q1 q2 : Option Addr} (h : NodeAt w b sg q1 q2) : w.cell? ⟨b, 0, none⟩ = some (.int .u8 sg) ∧ w.cell? ⟨b, 1, none⟩ = some (.pointer q1) ∧ w.cell? ⟨b, 2, none⟩ = some (.pointer q2) ∧ b < w.heap.size := by
  refine ⟨?_, ?_, ?_, (Array.getElem?_eq_some_iff.1 h).1⟩ <;> simp [World.cell?, show w.heap[b]? = _ from h]

set_option maxRecDepth 100000 in
set_option maxHeartbeats 4000000 in
theorem iSupporting_node (t : Int) (m : Nat) (x : Sen) (b : Nat) (q1 q2 : Option Addr) (w : World) (hx : senOk t x = true) (h1 : 1 ≤ t) (h3 : t ≤ 3) (hs : (m : Int) ≤ allOf t) (hnode : NodeAt w b (signS x) q1 q2)
    (hk1 : ∀ W, Below w.heap.size w W → Calls Try.prog 94 #[.int .i64 t, .int .i64 m, .pointer q1] W (KidPost (Kid1 t m x) W))
    (hk2 : ∀ W, Below w.heap.size w W → Calls Try.prog 94 #[.int .i64 t, .int .i64 m, .pointer q2] W (KidPost (Kid2 t m x) W)) :
    Calls Try.prog 94 #[.int .i64 t, .int .i64 m, .pointer (some ⟨b, 0, none⟩)] w (KidPost (fun W v => TellsV W v m (holdsS t x)) w) := by
  have hal := (allOf_lt t).2
  have hm : m < 256 := by omega
  refine (callsIn_wide (n := 5)).1 ?_
  have HK1 := Lib.hid hk1
  have HK2 := Lib.hid hk2
  obtain ⟨hc0, hc1, hc2, hlt⟩ := node_cells hnode
  have HN := Lib.hid hnode
  clear hk1 hk2 hnode hal
  refine callsIn_of_wp_marks Try.func94 rfl trivial ?_ rfl
  simp only [Try.ntmps94, List.size_toArray, List.length_cons, List.length_nil, Nat.reduceAdd, Nat.reduceSub, Array.replicate_succ, Array.replicate_zero, List.push_toArray, List.append_toArray, List.nil_append, List.cons_append]
  gi_wp2_with fail
  obtain ⟨W1, hW1⟩ : ∃ W1, (w.alloc (.cells #[.int .i64 t] 3)).alloc (.cells #[.pointer (some ⟨b, 0, none⟩)] 57) = W1 := ⟨_, rfl⟩
  have X0 : Boxed W1 w.heap.size 3 (.int .i64 t) := by rw [← hW1]; exact (Boxed.new w 3 (.int .i64 t)).alloc _
  have X1 : Boxed W1 (w.heap.size + 1) 57 (.pointer (some ⟨b, 0, none⟩)) := by rw [← hW1]; have := Boxed.new (w.alloc (.cells #[.int .i64 t] 3)) 57 (.pointer (some ⟨b, 0, none⟩)); rwa [World.size_alloc] at this
  have B1 : Below w.heap.size w W1 := by rw [← hW1]; exact ((Below.refl _ w).alloc (Nat.le_refl _) _).alloc (by simp) _
  have HSZ : Hid (w.heap.size + 2 ≤ W1.heap.size) := by unfold Hid; rw [← hW1]; simp
  rw [hW1]
  have hx0 := X0.cell
  have hx1 := X1.cell
  have hn1 : W1.cell? ⟨b, 1, none⟩ = some (.pointer q1) := (B1.cell (p := ⟨b, 1, none⟩) hlt).trans hc1
  have HB1 := Lib.hid B1
  have HX0 := Lib.hid X0
  replace HN := Lib.hid ((B1.block b hlt).trans HN.out)
  have HX1 := Lib.hid X1
  have HLT := Lib.hid hlt
  clear hW1 B1 X0 X1 hc0 hc1 hc2 hlt
  have hsz : w.heap.size + 2 ≤ W1.heap.size := HSZ.out
  have HBd7 : Hid (Below w.heap.size w W1.drew) := bel_drewN HB1.out 1
  have HBa7 : Hid (Below w.heap.size w (W1.alloc (.cells #[.slice none 0 0] 89)).drew) := bel_drewN (HB1.out.alloc HB1.out.size _) 1
  have X0a7 : Hid (Boxed (W1.alloc (.cells #[.slice none 0 0] 89)).drew w.heap.size 3 (.int .i64 t)) := HX0.out.alloc _
  have X1a7 : Hid (Boxed (W1.alloc (.cells #[.slice none 0 0] 89)).drew (w.heap.size + 1) 57 (.pointer (some ⟨b, 0, none⟩))) := HX1.out.alloc _
  have XBa7 : Hid (Boxed (W1.alloc (.cells #[.slice none 0 0] 89)).drew W1.heap.size 89 (.slice none 0 0)) := Boxed.new W1 _ _
  have XNa7 : Hid ((W1.alloc (.cells #[.slice none 0 0] 89)).drew.cell? ⟨b, 1, none⟩ = some (.pointer q1)) := (((Below.refl _ W1).alloc (Nat.le_refl _) _).cell (p := ⟨b, 1, none⟩) (by have := HLT.out; show b < _; omega)).trans hn1
  gi_cut [7] from 13 (fun sv wc => ∃ Bk A n c, sv = .pointer (some ⟨Bk, 0, none⟩) ∧ Boxed wc Bk 89 (.slice A n c) ∧ w.heap.size ≤ Bk ∧ Kid1 t m x wc (.slice A n c) ∧ Below W1.heap.size W1 wc)
  case first =>
    refine wpIn_wide.2 ?_
    go_region_held3 (fun w' => w'.cell? ⟨w.heap.size, 0, none⟩ = some (.int .i64 t) ∧ w'.cell? ⟨w.heap.size + 1, 0, none⟩ = some (.pointer (some ⟨b, 0, none⟩)) ∧ w'.cell? ⟨b, 1, none⟩ = some (.pointer q1))
      (first | go_keep | exact ⟨he0, he1, he2⟩ | exact ⟨(World.cell?_setCell_far _ _ _ _ (by show W1.heap.size ≠ w.heap.size; omega)).trans he0, (World.cell?_setCell_far _ _ _ _ (by show W1.heap.size ≠ w.heap.size + 1; omega)).trans he1, (World.cell?_setCell_far _ _ _ _ (by show W1.heap.size ≠ b; have := HLT.out; omega)).trans he2⟩)
      (first
        | (go_at_call 94; ((with_reducible refine (HK1.out W1.drew HBd7.out).mono ?_)); rintro e w2 ⟨A, n, c, rfl, hP, hb⟩; have he0 := (hb.cell (p := ⟨w.heap.size, 0, none⟩) (by simp; omega)).trans hx0; have he1 := (hb.cell (p := ⟨w.heap.size + 1, 0, none⟩) (by simp; omega)).trans hx1; have he2 := (hb.cell (p := ⟨b, 1, none⟩) (by have := HLT.out; simp; omega)).trans hn1; have HB2 := Lib.hid hb; have HP := Lib.hid hP; clear hb hP)
        | (go_at_call 94; ((with_reducible refine (HK1.out (W1.alloc (.cells #[.slice none 0 0] 89)).drew HBa7.out).mono ?_)); rintro e w2 ⟨A, n, c, rfl, hP, hb⟩; have he0 := (hb.cell (p := ⟨w.heap.size, 0, none⟩) (by simp; omega)).trans ((X0a7.out).cell); have he1 := (hb.cell (p := ⟨w.heap.size + 1, 0, none⟩) (by simp; omega)).trans ((X1a7.out).cell); have he2 := (hb.cell (p := ⟨b, 1, none⟩) (by have := HLT.out; simp; omega)).trans XNa7.out; have XB2 := Lib.hid (Boxed.below XBa7.out hb); have he3 := XB2.out.cell; have he4 := XB2.out.frozen; have HB2 := Lib.hid hb; have HP := Lib.hid hP; clear hb hP))
    all_goals
      gi_wp2_with fail
      gi_meet
      case rel =>
        first
          | exact ⟨_, _, _, _, rfl, Boxed.new _ _ _, by have := cut_size HB2.out; omega, Kid1.below HP.out ((Below.refl _ _).alloc (Nat.le_refl _) _), cut_new HB2.out _⟩
          | exact ⟨_, _, _, _, rfl, XB2.out.set _, by omega, Kid1.set HP.out XB2.out _, cut_set HB2.out _⟩
  case rest =>
    obtain ⟨B7, A1, n1, c1, rfl, X7, hB7, hk1, hb7⟩ := hcut
    have hszc : w.heap.size + 2 ≤ wc.heap.size := by have := hb7.size; omega
    replace HB1 := Lib.hid (bel_trans HB1.out (hb7.mono (Nat.le_refl _)))
    replace HX0 := Lib.hid (Boxed.below HX0.out hb7)
    replace HX1 := Lib.hid (Boxed.below HX1.out hb7)
    replace HN := Lib.hid ((hb7.block b (by have := HLT.out; omega)).trans HN.out)
    have hx0 := HX0.out.cell
    have hx1 := HX1.out.cell
    have hn2 := (node_cells HN.out).2.2.1
    have HX7 := Lib.hid X7
    have HKD1 := Lib.hid hk1
    have hlt7 : B7 < wc.heap.size := X7.lt
    clear X7 hk1 hb7
    obtain ⟨W2, rfl⟩ : ∃ W2, W2 = wc := ⟨_, rfl⟩
    gi_wp2_with fail
    have HBd8 : Hid (Below w.heap.size w W2.drew) := bel_drewN HB1.out 1
    have HBa8 : Hid (Below w.heap.size w (W2.alloc (.cells #[.slice none 0 0] 89)).drew) := bel_drewN (HB1.out.alloc HB1.out.size _) 1
    have X0a8 : Hid (Boxed (W2.alloc (.cells #[.slice none 0 0] 89)).drew w.heap.size 3 (.int .i64 t)) := HX0.out.alloc _
    have X1a8 : Hid (Boxed (W2.alloc (.cells #[.slice none 0 0] 89)).drew (w.heap.size + 1) 57 (.pointer (some ⟨b, 0, none⟩))) := HX1.out.alloc _
    have XBa8 : Hid (Boxed (W2.alloc (.cells #[.slice none 0 0] 89)).drew W2.heap.size 89 (.slice none 0 0)) := Boxed.new W2 _ _
    have XNa8 : Hid ((W2.alloc (.cells #[.slice none 0 0] 89)).drew.cell? ⟨b, 2, none⟩ = some (.pointer q2)) := (((Below.refl _ W2).alloc (Nat.le_refl _) _).cell (p := ⟨b, 2, none⟩) (by have := HLT.out; show b < _; omega)).trans hn2
    gi_cut [8] from 20 (fun sv wc => ∃ Bk A n c, sv = .pointer (some ⟨Bk, 0, none⟩) ∧ Boxed wc Bk 89 (.slice A n c) ∧ w.heap.size ≤ Bk ∧ Kid2 t m x wc (.slice A n c) ∧ Below W2.heap.size W2 wc)
    case first =>
      refine wpIn_wide.2 ?_
      go_region_held3 (fun w' => w'.cell? ⟨w.heap.size, 0, none⟩ = some (.int .i64 t) ∧ w'.cell? ⟨w.heap.size + 1, 0, none⟩ = some (.pointer (some ⟨b, 0, none⟩)) ∧ w'.cell? ⟨b, 2, none⟩ = some (.pointer q2))
        (first | go_keep | exact ⟨he0, he1, he2⟩ | exact ⟨(World.cell?_setCell_far _ _ _ _ (by show W2.heap.size ≠ w.heap.size; omega)).trans he0, (World.cell?_setCell_far _ _ _ _ (by show W2.heap.size ≠ w.heap.size + 1; omega)).trans he1, (World.cell?_setCell_far _ _ _ _ (by show W2.heap.size ≠ b; have := HLT.out; omega)).trans he2⟩)
        (first
          | (go_at_call 94; ((with_reducible refine (HK2.out W2.drew HBd8.out).mono ?_)); rintro e w2 ⟨A, n, c, rfl, hP, hb⟩; have he0 := (hb.cell (p := ⟨w.heap.size, 0, none⟩) (by simp; omega)).trans hx0; have he1 := (hb.cell (p := ⟨w.heap.size + 1, 0, none⟩) (by simp; omega)).trans hx1; have he2 := (hb.cell (p := ⟨b, 2, none⟩) (by have := HLT.out; simp; omega)).trans hn2; have HB2 := Lib.hid hb; have HP := Lib.hid hP; clear hb hP)
          | (go_at_call 94; ((with_reducible refine (HK2.out (W2.alloc (.cells #[.slice none 0 0] 89)).drew HBa8.out).mono ?_)); rintro e w2 ⟨A, n, c, rfl, hP, hb⟩; have he0 := (hb.cell (p := ⟨w.heap.size, 0, none⟩) (by simp; omega)).trans ((X0a8.out).cell); have he1 := (hb.cell (p := ⟨w.heap.size + 1, 0, none⟩) (by simp; omega)).trans ((X1a8.out).cell); have he2 := (hb.cell (p := ⟨b, 2, none⟩) (by have := HLT.out; simp; omega)).trans XNa8.out; have XB2 := Lib.hid (Boxed.below XBa8.out hb); have he3 := XB2.out.cell; have he4 := XB2.out.frozen; have HB2 := Lib.hid hb; have HP := Lib.hid hP; clear hb hP))
      all_goals
        gi_wp2_with fail
        gi_meet
        case rel =>
          first
            | exact ⟨_, _, _, _, rfl, Boxed.new _ _ _, by have := cut_size HB2.out; omega, Kid2.below HP.out ((Below.refl _ _).alloc (Nat.le_refl _) _), cut_new HB2.out _⟩
            | exact ⟨_, _, _, _, rfl, XB2.out.set _, by omega, Kid2.set HP.out XB2.out _, cut_set HB2.out _⟩
    case rest =>
      obtain ⟨B8, A2, n2, c2, rfl, X8, hB8, hk2, hb8⟩ := hcut
      have hszd : w.heap.size + 2 ≤ wc.heap.size := by have := hb8.size; omega
      obtain ⟨W3, rfl⟩ : ∃ W3, W3 = wc := ⟨_, rfl⟩
      replace HB1 := Lib.hid (bel_trans HB1.out hb8)
      replace HX0 := Lib.hid (Boxed.below HX0.out hb8)
      replace HX1 := Lib.hid (Boxed.below HX1.out hb8)
      replace HN := Lib.hid ((hb8.block b (by have := HLT.out; omega)).trans HN.out)
      replace HX7 := Lib.hid (Boxed.below HX7.out hb8)
      have HX8 := Lib.hid X8
      have HKT := Lib.hid (kids_told (HKD1.out.below hb8) hk2)
      have hlt8 : B8 < W3.heap.size := X8.lt
      have hlt7 : B7 < W3.heap.size := by have := hb8.size; omega
      clear X8 hk2 hb8 HKD1 hn1 hn2 hx0 hx1
      have hmk := fun W => run_make_row' (P := Try.prog) 89 4 (.bool false) 1 Try.underlying89 bool_info rfl .i64 .i64 (m + 1) (by omega) (by omega) W
      push_cast at hmk
      gi_wp2_with (refine ⟨trivial, ?_⟩; gi_at_call 111; refine (iSetsWithin _ _ _).mono ?_; rintro e w' ⟨rfl, rfl⟩)
      clear hmk
      have R0 := World.rowIs_made W3 (.bool false) (m + 1) 4
      have X9 := Boxed.new (W3.alloc (.cells (madeCells #[.bool false] (m + 1)) 4)) 89 (.slice (some ⟨W3.heap.size, 0, none⟩) (m + 1) (m + 1))
      have XS := Boxed.new ((W3.alloc (.cells (madeCells #[.bool false] (m + 1)) 4)).alloc (.cells #[.slice (some ⟨W3.heap.size, 0, none⟩) (m + 1) (m + 1)] 89)) 3 (.int .i64 m)
      simp only [World.size_alloc] at X9 XS
      have hB4 : Below W3.heap.size W3 (((W3.alloc (.cells (madeCells #[.bool false] (m + 1)) 4)).alloc (.cells #[.slice (some ⟨W3.heap.size, 0, none⟩) (m + 1) (m + 1)] 89)).alloc (.cells #[.int .i64 m] 3)) := (((Below.refl _ W3).alloc (Nat.le_refl _) _).alloc (by simp) _).alloc (by simp; omega) _
      refine wpIn_rangeFunc_ownF rfl (by decide) (gf := 120) (lb := #[.pointer (some ⟨W3.heap.size + 1 + 1, 0, none⟩)]) rfl trivial (enters_of Try.func120 (by kernel_rfl) rfl)
        (iSets_stops 4 (by decide) (W3.heap.size + 1 + 1) m (by omega) (by omega) _ (by simp) XS.cell) (fun h k => kept_t h k) (kept_b (by simp)) (Below.refl _ _) (fun _ => rfl)
        (fun pre W => (W.rowIs W3.heap.size 4 (m + 1) (toldF (holdsS t x) pre) ∧ Boxed W (W3.heap.size + 1) 89 (.slice (some ⟨W3.heap.size, 0, none⟩) (m + 1) (m + 1)) ∧ W3.heap.size + 3 ≤ W.heap.size) ∧ Below W3.heap.size W3 W)
        (fun _ _ _ => False)
        (OwnFrom.and (Own.from (fun s A B row hs hg hr => ⟨row_keep hs.1 hg hr, box_keep hs.2.1 hg hr, Nat.le_trans hs.2.2 hg.size⟩) _) (ownFrom_below (Nat.le_refl _) (by simp; omega)))
        (fun _ _ _ _ _ hs _ _ => hs)
        ⟨⟨((R0.alloc _).alloc _).congr (fun i hi => rfl), X9.alloc _, by simp⟩, hB4⟩
        (fun y => { tmps := #[.int .i64 t, .int .i64 m, .pointer (some ⟨b, 0, none⟩), .pointer (some ⟨w.heap.size, 0, none⟩), undef, .pointer (some ⟨w.heap.size + 1, 0, none⟩), .slice none 0 0, .pointer (some ⟨B7, 0, none⟩), .pointer (some ⟨B8, 0, none⟩), .pointer (some ⟨W3.heap.size + 1, 0, none⟩), .int .i64 y.1, .pointer (some ⟨b, 0, none⟩), .bool false, u13, u14, u15, u16, u17, u18, u19, u20, u21, u22, u23, u24, u25, u26, .int .i64 m, .int .i64 (m + 1), .slice (some ⟨W3.heap.size, 0, none⟩) (m + 1) (m + 1), .int .i64 m, .func (.func 120) #[] #[.pointer (some ⟨W3.heap.size + 1 + 1, 0, none⟩)], .int .i64 y.1, u33, u34, u35, u36, u37, u38, u39, u40, u41, u42, u43, u44, u45], defers := [] }) ?assign ?body ?done ?stop
      case assign =>
        intro l y W K hK
        gi_wp2
        exact hK
      case body =>
        rintro l pre y W ⟨⟨hR, h9, hszW⟩, hB⟩ _
        have hy0 := y.2.1
        have hy1 := y.2.2.1
        have HKY : Hid (KidsTold W.drew t x y.1 (.slice A1 n1 c1) (.slice A2 n2 c2)) := (HKT.out.below (below_drewN hB 1)).sub (s2 := y.1) hy0 y.2.2.2
        have hsg := Lib.hid (node_cells ((hB.block b (by have := HLT.out; omega)).trans HN.out)).1
        have HS : Hid (SigHeld w.heap.size b B7 B8 W3.heap.size m t (signS x) (.slice A1 n1 c1) (.slice A2 n2 c2) W.drew) :=
          ⟨h9.cell, (Boxed.below HX0.out hB).cell, (Boxed.below HX1.out hB).cell, hsg.out, (Boxed.below HX7.out hB).cell, (Boxed.below HX8.out hB).cell⟩
        have hi1 : y.1 < (m : Int) + 1 := by omega
        have hcT := hR.cell (i := y.1.toNat) (by omega)
        have hfT := hR.frozen y.1.toNat
        have HR := Lib.hid hR
        have HBW := Lib.hid hB
        have H9 := Lib.hid h9
        clear hB hR h9
        gi_wp2
        refine round_held (S := SigHeld w.heap.size b B7 B8 W3.heap.size m t (signS x) (.slice A1 n1 c1) (.slice A2 n2 c2)) (by kernel_rfl) (by kernel_rfl) (fun ⟨_, _, h⟩ => h) HS.out (fun hHeld => ?_)
        refine wpAnyH_take (i := 0) (v := ?_) rfl (by kernel_rfl) (by kernel_rfl) (by kernel_rfl) (fun _ _ _ h => h) (Or.inl ⟨by rfl, ?hy⟩) hHeld ?_
        case hy => intro w' hSw; obtain ⟨f1, f2, f3, f4, f5, f6⟩ := hSw; go_simp; try with_reducible rfl
        simp only [List.getElem_toArray, List.getElem_cons_succ, List.getElem_cons_zero, Act.put, List.setIfInBounds_toArray, List.set_cons_zero, List.set_cons_succ]
        refine wpAnyH_take (i := 1) (v := ?_) rfl (by kernel_rfl) (by kernel_rfl) (by kernel_rfl) (fun _ _ _ h => h) (Or.inl ⟨by rfl, ?hy⟩) hHeld ?_
        case hy => intro w' hSw; obtain ⟨f1, f2, f3, f4, f5, f6⟩ := hSw; go_simp; try with_reducible rfl
        simp only [List.getElem_toArray, List.getElem_cons_succ, List.getElem_cons_zero, Act.put, List.setIfInBounds_toArray, List.set_cons_zero, List.set_cons_succ]
        refine wpAnyH_take (i := 2) (v := ?_) rfl (by kernel_rfl) (by kernel_rfl) (by kernel_rfl) (fun _ _ _ h => h) (Or.inl ⟨by rfl, ?hy⟩) hHeld ?_
        case hy => intro w' hSw; obtain ⟨f1, f2, f3, f4, f5, f6⟩ := hSw; go_simp; try with_reducible rfl
        simp only [List.getElem_toArray, List.getElem_cons_succ, List.getElem_cons_zero, Act.put, List.setIfInBounds_toArray, List.set_cons_zero, List.set_cons_succ]
        refine wpAnyH_take (i := 3) (v := ?_) rfl (by kernel_rfl) (by kernel_rfl) (by kernel_rfl) (fun _ _ _ h => h) (Or.inl ⟨by rfl, ?hy⟩) hHeld ?_
        case hy => intro w' hSw; obtain ⟨f1, f2, f3, f4, f5, f6⟩ := hSw; go_simp; try with_reducible rfl
        simp only [List.getElem_toArray, List.getElem_cons_succ, List.getElem_cons_zero, Act.put, List.setIfInBounds_toArray, List.set_cons_zero, List.set_cons_succ]
        refine wpAnyH_take (i := 4) (v := ?_) rfl (by kernel_rfl) (by kernel_rfl) (by kernel_rfl) (fun _ _ _ h => h) (Or.inl ⟨by rfl, ?hy⟩) hHeld ?_
        case hy => intro w' hSw; obtain ⟨f1, f2, f3, f4, f5, f6⟩ := hSw; go_simp; try with_reducible rfl
        simp only [List.getElem_toArray, List.getElem_cons_succ, List.getElem_cons_zero, Act.put, List.setIfInBounds_toArray, List.set_cons_zero, List.set_cons_succ]
        refine wpAnyH_take (i := 5) (v := ?_) rfl (by kernel_rfl) (by kernel_rfl) (by kernel_rfl) (fun _ _ _ h => h) (Or.inl ⟨by rfl, ?hy⟩) hHeld ?_
        case hy => intro w' hSw; obtain ⟨f1, f2, f3, f4, f5, f6⟩ := hSw; go_simp; try with_reducible rfl
        simp only [List.getElem_toArray, List.getElem_cons_succ, List.getElem_cons_zero, Act.put, List.setIfInBounds_toArray, List.set_cons_zero, List.set_cons_succ]
        refine wpAnyH_take (i := 6) (v := ?_) rfl (by kernel_rfl) (by kernel_rfl) (by kernel_rfl) (fun _ _ _ h => h) (Or.inl ⟨by rfl, ?hy⟩) hHeld ?_
        case hy => intro w' hSw; obtain ⟨f1, f2, f3, f4, f5, f6⟩ := hSw; go_simp; try with_reducible rfl
        simp only [List.getElem_toArray, List.getElem_cons_succ, List.getElem_cons_zero, Act.put, List.setIfInBounds_toArray, List.set_cons_zero, List.set_cons_succ]
        refine wpAnyH_take (i := 7) (v := ?_) rfl (by kernel_rfl) (by kernel_rfl) (by kernel_rfl) (fun _ _ _ h => h) (Or.inl ⟨by rfl, ?hy⟩) hHeld ?_
        case hy => intro w' hSw; obtain ⟨f1, f2, f3, f4, f5, f6⟩ := hSw; go_simp; try with_reducible rfl
        simp only [List.getElem_toArray, List.getElem_cons_succ, List.getElem_cons_zero, Act.put, List.setIfInBounds_toArray, List.set_cons_zero, List.set_cons_succ]
        refine wpAnyH_take (i := 8) (v := ?_) rfl (by kernel_rfl) (by kernel_rfl) (by kernel_rfl) (fun _ _ _ h => h) (Or.inl ⟨by rfl, ?hy⟩) hHeld ?_
        case hy => intro w' hSw; obtain ⟨f1, f2, f3, f4, f5, f6⟩ := hSw; go_simp; try with_reducible rfl
        simp only [List.getElem_toArray, List.getElem_cons_succ, List.getElem_cons_zero, Act.put, List.setIfInBounds_toArray, List.set_cons_zero, List.set_cons_succ]
        refine wpAnyH_take (i := 9) (v := ?_) rfl (by kernel_rfl) (by kernel_rfl) (by kernel_rfl) (fun _ _ _ h => h) (Or.inl ⟨by rfl, ?hy⟩) hHeld ?_
        case hy => intro w' hSw; obtain ⟨f1, f2, f3, f4, f5, f6⟩ := hSw; go_simp; try with_reducible rfl
        simp only [List.getElem_toArray, List.getElem_cons_succ, List.getElem_cons_zero, Act.put, List.setIfInBounds_toArray, List.set_cons_zero, List.set_cons_succ]
        refine wpAnyH_ready (rs := [10]) (by kernel_rfl) (by simp) (AllReadyH.cons (i := 10) rfl (fun K hK => ?_) AllReadyH.nil)
        go_simp
        go_at_call 112
        ((with_reducible refine (iBySign t y.1 x (.slice A1 n1 c1) (.slice A2 n2 c2) W.drew hx h1 h3 hy0 (by omega) HKY.out).mono ?_))
        rintro e w2 ⟨rfl, hb⟩
        have HB2 := Lib.hid hb
        have HCT := Lib.hid ((hb.cell (p := ⟨W3.heap.size, y.1.toNat, none⟩) (by show W3.heap.size < W.heap.size; omega)).trans hcT)
        have HFT := Lib.hid ((hb.frozen (p := ⟨W3.heap.size, y.1.toNat, none⟩) (by show W3.heap.size < W.heap.size; omega)).trans hfT)
        clear hb hcT hfT
        refine hK.out _ _ (hHeld.below HB2.out) (fun hHeld2 => ?_)
        clear hK K hHeld
        refine wpAnyH_take (i := 11) (v := ?_) rfl (by kernel_rfl) (by kernel_rfl) (by kernel_rfl) (fun _ _ _ h => h) (Or.inl ⟨by rfl, ?hy⟩) hHeld2 ?_
        case hy => intro w' hSw; clear hSw; go_simp; try with_reducible rfl
        simp only [List.getElem_toArray, List.getElem_cons_succ, List.getElem_cons_zero, Act.put, List.setIfInBounds_toArray, List.set_cons_zero, List.set_cons_succ]
        refine wpAnyH_ready (rs := [12]) (by kernel_rfl) (by simp) (AllReadyH.cons (i := 12) rfl (fun K hK => ?_) AllReadyH.nil)
        have hct := HCT.out
        have hft := HFT.out
        go_simp
        clear hct hft
        have HST := Lib.hid (hHeld2.keep (w' := w2.setCell ⟨W3.heap.size, y.1.toNat, none⟩ (.bool (holdsS t x y.1))) (fun a ha _ => World.cell?_setCell_far _ _ _ _ (Ne.symm ha)) (by omega) (by omega) (by have := HLT.out; omega) hlt7 hlt8)
        refine hK.out _ _ HST.out (fun _ => ?_)
        clear hK K
        refine wpAnyH_done (by kernel_rfl) ?_ _
        have hb2 : Below W.heap.size W w2 := (below_drewN (Below.refl _ W) 1).trans HB2.out
        have hs2 := hb2.size
        have hkp : Below W3.heap.size W3 w2 := HBW.out.trans (hb2.mono (by omega))
        have hrow : w2.rowIs W3.heap.size 4 (m + 1) (toldF (holdsS t x) pre) := HR.out.of_block (hb2.block _ (by omega))
        refine ⟨(keeps_below hb2).trans (KeepsOthers.setCell _ _ _), ?_, ⟨?_, ?_, ?_⟩, ?_⟩
        · exact (Below.heap_setCell _ _ _ _ (by show W3.heap.size + 1 + 1 ≠ W3.heap.size; omega)).trans (hb2.block _ (by omega))
        · exact (hrow.set y.1.toNat (.bool (holdsS t x y.1))).congr (fun i _ => toldF_next pre y i)
        · exact ((Below.heap_setCell _ _ _ _ (by show W3.heap.size + 1 ≠ W3.heap.size; omega)).trans (hb2.block _ (by omega))).trans H9.out
        · have := (KeepsWalks.setCell w2 ⟨W3.heap.size, y.1.toNat, none⟩ (.bool (holdsS t x y.1))).size; omega
        · exact hkp.setCell (p := ⟨W3.heap.size, y.1.toNat, none⟩) (Nat.le_refl _) _
      case done =>
        rintro D ys W hD hfull ⟨⟨hR, h9, hszW⟩, hB⟩ hK
        have hc9 := h9.cell
        have HR := Lib.hid (row_keep hR (grownBy_putObj' W D (.deferred none)) (fun r e => by cases e; exact ⟨_, hK, rfl⟩))
        have HBB := Lib.hid (((HB1.out.trans (hB.mono (by omega))).trans (belowK_b (w := w) (Nat.le_refl _) W D _ (.deferred none) (by simp at hD; omega) hK rfl rfl)))
        gi_wp2
        refine ⟨by simp, .inl ⟨_, _, rfl, run_takeDeferred hK, ?_⟩⟩
        refine ⟨_, results_tmp rfl _ _ _, _, _, _, rfl, ⟨_, _, _, _, rfl, HR.out.lt, fun u h0 hu => ?_⟩, HBB.out⟩
        have hle := within_le hu (by omega)
        refine ⟨by omega, ?_⟩
        have := HR.out.cell (i := u.toNat) (by omega)
        rw [Nat.zero_add, this]
        unfold toldF
        rw [Int.toNat_of_nonneg h0, decide_eq_true (List.mem_map.2 ⟨⟨u, h0, hle, hu⟩, hfull _, rfl⟩)]
        rfl
      case stop =>
        rintro D c pre W _ _ h _
        exact h.elim
end Go.Proofs.Ytmdpolllmipppaa

namespace Go.Proofs.Ytmdpolllmipppaa
open Go.RowKit

/-- The sentence x stands at p, in blocks from lo on. -/
def SenAt (w : World) (lo : Nat) : Sen → Option Addr → Prop
  | .no a, p => ∃ b q, p = some ⟨b, 0, none⟩ ∧ lo ≤ b ∧ NodeAt w b 33 q none ∧ SenAt w lo a q
  | .ask a, p => ∃ b q, p = some ⟨b, 0, none⟩ ∧ lo ≤ b ∧ NodeAt w b 63 q none ∧ SenAt w lo a q
  | .and_ a c, p => ∃ b q r, p = some ⟨b, 0, none⟩ ∧ lo ≤ b ∧ NodeAt w b 38 q r ∧ SenAt w lo a q ∧ SenAt w lo c r
  | .or_ a c, p => ∃ b q r, p = some ⟨b, 0, none⟩ ∧ lo ≤ b ∧ NodeAt w b 124 q r ∧ SenAt w lo a q ∧ SenAt w lo c r
  | .if_ a c, p => ∃ b q r, p = some ⟨b, 0, none⟩ ∧ lo ≤ b ∧ NodeAt w b 62 q r ∧ SenAt w lo a q ∧ SenAt w lo c r
  | .one, p => ∃ b, p = some ⟨b, 0, none⟩ ∧ lo ≤ b ∧ NodeAt w b 49 none none
  | .zero, p => ∃ b, p = some ⟨b, 0, none⟩ ∧ lo ≤ b ∧ NodeAt w b 48 none none
  | .thing i, p => ∃ b, p = some ⟨b, 0, none⟩ ∧ lo ≤ b ∧ NodeAt w b (97 + i) none none
theorem NodeAt.keep {w w' : World} {b sg : Nat} {q r : Option Addr} (h : NodeAt w b sg q r) {lo : Nat} (hlo : lo ≤ b) (hk : ∀ b, lo ≤ b → b < w.heap.size → w'.heap[b]? = w.heap[b]?) : NodeAt w' b sg q r :=
  (hk b hlo (Array.getElem?_eq_some_iff.1 h).1).trans h
theorem SenAt.keep {w w' : World} {lo : Nat} (hk : ∀ b, lo ≤ b → b < w.heap.size → w'.heap[b]? = w.heap[b]?) : ∀ (x : Sen) (p : Option Addr), SenAt w lo x p → SenAt w' lo x p
  | .no a, _, ⟨b, q, hp, hl, hn, h⟩ => ⟨b, q, hp, hl, hn.keep hl hk, SenAt.keep hk a q h⟩
  | .ask a, _, ⟨b, q, hp, hl, hn, h⟩ => ⟨b, q, hp, hl, hn.keep hl hk, SenAt.keep hk a q h⟩
  | .and_ a c, _, ⟨b, q, r, hp, hl, hn, h, h2⟩ => ⟨b, q, r, hp, hl, hn.keep hl hk, SenAt.keep hk a q h, SenAt.keep hk c r h2⟩
  | .or_ a c, _, ⟨b, q, r, hp, hl, hn, h, h2⟩ => ⟨b, q, r, hp, hl, hn.keep hl hk, SenAt.keep hk a q h, SenAt.keep hk c r h2⟩
  | .if_ a c, _, ⟨b, q, r, hp, hl, hn, h, h2⟩ => ⟨b, q, r, hp, hl, hn.keep hl hk, SenAt.keep hk a q h, SenAt.keep hk c r h2⟩
  | .one, _, ⟨b, hp, hl, hn⟩ => ⟨b, hp, hl, hn.keep hl hk⟩
  | .zero, _, ⟨b, hp, hl, hn⟩ => ⟨b, hp, hl, hn.keep hl hk⟩
  | .thing _, _, ⟨b, hp, hl, hn⟩ => ⟨b, hp, hl, hn.keep hl hk⟩
theorem SenAt.below {w w' : World} {lo : Nat} {x : Sen} {p : Option Addr} (h : SenAt w lo x p) (hb : Below w.heap.size w w') : SenAt w' lo x p :=
  SenAt.keep (fun b _ hlt => hb.block b hlt) x p h
theorem SenAt.grown {w w' : World} {lo R : Nat} {x : Sen} {p : Option Addr} (h : SenAt w lo x p) (hg : w.grownBy w' (some R)) (hR : R < lo) : SenAt w' lo x p :=
  SenAt.keep (fun b hl hlt => hg.block b hlt (fun e => by cases e; omega)) x p h
theorem SenAt.low {w : World} {lo lo' : Nat} (hlo : lo' ≤ lo) : ∀ (x : Sen) (p : Option Addr), SenAt w lo x p → SenAt w lo' x p
  | .no a, _, ⟨b, q, hp, hl, hn, h⟩ => ⟨b, q, hp, by omega, hn, SenAt.low hlo a q h⟩
  | .ask a, _, ⟨b, q, hp, hl, hn, h⟩ => ⟨b, q, hp, by omega, hn, SenAt.low hlo a q h⟩
  | .and_ a c, _, ⟨b, q, r, hp, hl, hn, h, h2⟩ => ⟨b, q, r, hp, by omega, hn, SenAt.low hlo a q h, SenAt.low hlo c r h2⟩
  | .or_ a c, _, ⟨b, q, r, hp, hl, hn, h, h2⟩ => ⟨b, q, r, hp, by omega, hn, SenAt.low hlo a q h, SenAt.low hlo c r h2⟩
  | .if_ a c, _, ⟨b, q, r, hp, hl, hn, h, h2⟩ => ⟨b, q, r, hp, by omega, hn, SenAt.low hlo a q h, SenAt.low hlo c r h2⟩
  | .one, _, ⟨b, hp, hl, hn⟩ => ⟨b, hp, by omega, hn⟩
  | .zero, _, ⟨b, hp, hl, hn⟩ => ⟨b, hp, by omega, hn⟩
  | .thing _, _, ⟨b, hp, hl, hn⟩ => ⟨b, hp, by omega, hn⟩

set_option maxRecDepth 100000 in
set_option maxHeartbeats 4000000 in
theorem iSupporting_nil (t s : Int) (w : World) (P : World → Value → Prop) (hP : ∀ W v, P W v) : Calls Try.prog 94 #[.int .i64 t, .int .i64 s, .pointer none] w (KidPost P w) := by
  have HP := Lib.hid hP
  clear hP
  go_enter Try.func94, Try.ntmps94
  go_wp2_with fail
  go_ret
  exact ⟨_, _, _, rfl, HP.out _ _, ((Below.refl _ _).alloc (Nat.le_refl _) _).alloc (by simp) _⟩

theorem iSupporting (t : Int) (m : Nat) (h1 : 1 ≤ t) (h3 : t ≤ 3) (hs : (m : Int) ≤ allOf t) : ∀ (x : Sen) (p : Option Addr) (lo : Nat) (w : World), senOk t x = true → SenAt w lo x p →
    Calls Try.prog 94 #[.int .i64 t, .int .i64 m, .pointer p] w (KidPost (fun W v => TellsV W v m (holdsS t x)) w)
  | .no a, _, lo, w, hx, ⟨b, q, rfl, _, hn, h⟩ => iSupporting_node t m (.no a) b q none w hx h1 h3 hs hn (fun W hb => iSupporting t m h1 h3 hs a q lo W hx (h.below hb)) (fun W _ => iSupporting_nil t m W _ (fun _ _ => trivial))
  | .ask a, _, lo, w, hx, ⟨b, q, rfl, _, hn, h⟩ => iSupporting_node t m (.ask a) b q none w hx h1 h3 hs hn (fun W hb => iSupporting t m h1 h3 hs a q lo W hx (h.below hb)) (fun W _ => iSupporting_nil t m W _ (fun _ _ => trivial))
  | .and_ a c, _, lo, w, hx, ⟨b, q, r, rfl, _, hn, h, h2⟩ => by
    have hx2 := hx
    unfold senOk at hx2
    rw [Bool.and_eq_true] at hx2
    exact iSupporting_node t m (.and_ a c) b q r w hx h1 h3 hs hn (fun W hb => iSupporting t m h1 h3 hs a q lo W hx2.1 (h.below hb)) (fun W hb => iSupporting t m h1 h3 hs c r lo W hx2.2 (h2.below hb))
  | .or_ a c, _, lo, w, hx, ⟨b, q, r, rfl, _, hn, h, h2⟩ => by
    have hx2 := hx
    unfold senOk at hx2
    rw [Bool.and_eq_true] at hx2
    exact iSupporting_node t m (.or_ a c) b q r w hx h1 h3 hs hn (fun W hb => iSupporting t m h1 h3 hs a q lo W hx2.1 (h.below hb)) (fun W hb => iSupporting t m h1 h3 hs c r lo W hx2.2 (h2.below hb))
  | .if_ a c, _, lo, w, hx, ⟨b, q, r, rfl, _, hn, h, h2⟩ => by
    have hx2 := hx
    unfold senOk at hx2
    rw [Bool.and_eq_true] at hx2
    exact iSupporting_node t m (.if_ a c) b q r w hx h1 h3 hs hn (fun W hb => iSupporting t m h1 h3 hs a q lo W hx2.1 (h.below hb)) (fun W hb => iSupporting t m h1 h3 hs c r lo W hx2.2 (h2.below hb))
  | .one, _, _, w, hx, ⟨b, rfl, _, hn⟩ => iSupporting_node t m .one b none none w hx h1 h3 hs hn (fun W _ => iSupporting_nil t m W _ (fun _ _ => trivial)) (fun W _ => iSupporting_nil t m W _ (fun _ _ => trivial))
  | .zero, _, _, w, hx, ⟨b, rfl, _, hn⟩ => iSupporting_node t m .zero b none none w hx h1 h3 hs hn (fun W _ => iSupporting_nil t m W _ (fun _ _ => trivial)) (fun W _ => iSupporting_nil t m W _ (fun _ _ => trivial))
  | .thing i, _, _, w, hx, ⟨b, rfl, _, hn⟩ => iSupporting_node t m (.thing i) b none none w hx h1 h3 hs hn (fun W _ => iSupporting_nil t m W _ (fun _ _ => trivial)) (fun W _ => iSupporting_nil t m W _ (fun _ _ => trivial))

set_option maxRecDepth 100000 in
set_option maxHeartbeats 4000000 in
theorem iSupports (t : Int) (m : Nat) (h1 : 1 ≤ t) (h3 : t ≤ 3) (hs : (m : Int) ≤ allOf t) (x : Sen) (p : Option Addr) (lo : Nat) (w : World) (hx : senOk t x = true) (h : SenAt w lo x p) :
    Calls Try.prog 62 #[.int .i64 t, .int .i64 m, .pointer p] w fun e w' => e = .returned (.bool (holdsS t x m)) ∧ Below w.heap.size w w' := by
  have HS := Lib.hid (iSupporting t m h1 h3 hs x p lo w hx h)
  clear hx h
  go_enter Try.func62, Try.ntmps62
  go_wp2_with fail
  refine HS.out.mono ?_
  rintro e w2 ⟨_, _, _, rfl, ⟨b, o, n, c, he, hT⟩, hb⟩
  cases he
  obtain ⟨hlt, hc⟩ := hT.2 m (by omega) (within_refl m (by omega))
  have hc : w2.cell? ⟨b, o + m, none⟩ = some (.bool (holdsS t x m)) := hc
  have HB := Lib.hid hb
  clear hT hb HS
  go_wp2_with fail
  go_ret
  exact ⟨rfl, HB.out⟩
end Go.Proofs.Ytmdpolllmipppaa

namespace Go.Proofs.Ytmdpolllmipppaa
open Go.RowKit

def bytesN (s : ByteArray) : List Nat := s.data.toList.map UInt8.toNat
theorem bytesN_len (s : ByteArray) : (bytesN s).length = s.size := by unfold bytesN; rw [List.length_map]; rfl
theorem bytesN_drop {s : ByteArray} {at_ : Nat} (h : at_ < s.size) : (bytesN s).drop at_ = s[at_].toNat :: (bytesN s).drop (at_ + 1) := by
  rw [List.drop_eq_getElem_cons (by rw [bytesN_len]; exact h)]
  congr 1
  unfold bytesN
  rw [List.getElem_map]; rfl
abbrev RdrAt (w : World) (R : Nat) (s : ByteArray) (at_ : Nat) (st : ByteArray) : Prop := w.heap[R]? = some (.cells #[.string s, .int .i64 at_, .string st] 82 (0, 0))
theorem rdr_cells {w : World} {R : Nat} {s st : ByteArray} {at_ : Nat} (h : RdrAt w R s at_ st) : w.cell? ⟨R, 0, none⟩ = some (.string s) ∧ w.cell? ⟨R, 1, none⟩ = some (.int .i64 at_) ∧ w.cell? ⟨R, 2, none⟩ = some (.string st) ∧ w.frozen? ⟨R, 1, none⟩ = false ∧ R < w.heap.size := by
  refine ⟨?_, ?_, ?_, ?_, (Array.getElem?_eq_some_iff.1 h).1⟩ <;> simp [World.cell?, World.frozen?, show w.heap[R]? = _ from h]
def Panics (R : Nat) (w : World) (e : Ending) (w' : World) : Prop := ∃ v : Value, e = .panicked [{ v := .iface 3 v, recovered := false }] ∧ w.grownBy w' (some R)
theorem hasByte {l : List UInt8} {c : UInt8} : decide (Lib.indexByte l c < 0) = !l.contains c := by
  have := Lib.indexByte_ge l c
  by_cases h : Lib.indexByte l c < 0
  · have e : Lib.indexByte l c = -1 := by omega
    have hn := Lib.indexByte_none e
    rw [decide_eq_true h]
    cases hc : l.contains c
    · rfl
    · obtain ⟨i, hi⟩ := List.mem_iff_getElem?.1 (List.contains_iff_mem.1 hc)
      exact absurd hi (hn i)
  · obtain ⟨o, ho⟩ : ∃ o : Nat, Lib.indexByte l c = o := ⟨(Lib.indexByte l c).toNat, by omega⟩
    have := (Lib.indexByte_some ho).1
    rw [decide_eq_false h, List.contains_iff_mem.2 (List.mem_of_getElem? this)]; rfl

set_option maxRecDepth 100000 in
set_option maxHeartbeats 4000000 in
theorem iTake_end (R : Nat) (s st al : ByteArray) (w : World) (hs : s.size ≤ 1048576) (hr : RdrAt w R s s.size st) :
    Calls Try.prog 104 #[.pointer (some ⟨R, 0, none⟩), .string al] w (Panics R w) := by
  obtain ⟨hc0, hc1, hc2, hf, hlt⟩ := rdr_cells hr
  have hd : ((s.size : Int) == (s.size : Int)) = true := by simp
  clear hr
  go_enter Try.func104, Try.ntmps104
  go_wp2_with fail
  go_quiet (fail)
  go_wp2_with fail
  exact ⟨rfl, _, rfl, grown_drewN (World.grownBy.refl _ _) _⟩

theorem rdr_step {w : World} {R : Nat} {s st : ByteArray} {at_ : Nat} (h : RdrAt w R s at_ st) (u : Int) (hu : u = ((at_ + 1 : Nat) : Int)) : RdrAt (w.setCell ⟨R, 1, none⟩ (.int .i64 u)) R s (at_ + 1) st := by
  subst hu
  obtain ⟨hlt, e⟩ := Array.getElem?_eq_some_iff.1 h
  show (w.heap.modify R _)[R]? = _
  rw [Array.getElem?_eq_getElem (by rw [Array.size_modify]; exact hlt), Array.getElem_modify_self, e]
  rfl
theorem byte_u8 (b : UInt8) : (b.toNat : Int).toNat.toUInt8 = b := by simp

set_option maxRecDepth 100000 in
set_option maxHeartbeats 4000000 in
theorem iTake_bad (R : Nat) (s st al : ByteArray) (at_ : Nat) (w : World) (hs : s.size ≤ 1048576) (hat : at_ < s.size) (hr : RdrAt w R s at_ st) (hal : al.data.toList.contains s[at_] = false) :
    Calls Try.prog 104 #[.pointer (some ⟨R, 0, none⟩), .string al] w (Panics R w) := by
  obtain ⟨hc0, hc1, hc2, hf, hlt⟩ := rdr_cells hr
  have hd : ((at_ : Int) == (s.size : Int)) = false := by rw [beq_eq_false_iff_ne]; omega
  have hi : (at_ : Int) < (s.size : Int) := by omega
  have hi0 : (0 : Int) ≤ (at_ : Int) := by omega
  have hx : decide (Lib.indexByte al.data.toList s[at_] < 0) = true := by rw [hasByte, hal]; rfl
  have HC : Hid (∀ W, Calls Try.prog 117 #[.string al, .int .u8 (s[at_].toNat)] W fun e w' => e = .returned (.int .i64 (Lib.indexByte al.data.toList s[at_])) ∧ w' = W) := fun W => by
    have := Try.strings_IndexByte al (s[at_].toNat) W
    rwa [byte_u8] at this
  clear hr hal
  go_enter Try.func104, Try.ntmps104
  go_wp2_with fail
  go_quiet ((go_at_call 117; exact Calls.quiet_of_same (HC.out _)))
  go_wp2_with fail
  exact ⟨rfl, _, rfl, grown_drewN (World.grownBy.refl _ _) _⟩

set_option maxRecDepth 100000 in
set_option maxHeartbeats 4000000 in
theorem iTake_ok (R : Nat) (s st al : ByteArray) (at_ : Nat) (w : World) (hs : s.size ≤ 1048576) (hat : at_ < s.size) (hr : RdrAt w R s at_ st) (hal : al.data.toList.contains s[at_] = true) :
    Calls Try.prog 104 #[.pointer (some ⟨R, 0, none⟩), .string al] w fun e w' => e = .returned (.int .u8 (s[at_].toNat)) ∧ RdrAt w' R s (at_ + 1) st ∧ w.grownBy w' (some R) := by
  obtain ⟨hc0, hc1, hc2, hf, hlt⟩ := rdr_cells hr
  have hd : ((at_ : Int) == (s.size : Int)) = false := by rw [beq_eq_false_iff_ne]; omega
  have hi : (at_ : Int) < (s.size : Int) := by omega
  have hi0 : (0 : Int) ≤ (at_ : Int) := by omega
  have hx : decide (Lib.indexByte al.data.toList s[at_] < 0) = false := by rw [hasByte, hal]; rfl
  have HC : Hid (∀ W, Calls Try.prog 117 #[.string al, .int .u8 (s[at_].toNat)] W fun e w' => e = .returned (.int .i64 (Lib.indexByte al.data.toList s[at_])) ∧ w' = W) := fun W => by
    have := Try.strings_IndexByte al (s[at_].toNat) W
    rwa [byte_u8] at this
  have HR := Lib.hid hr
  clear hr hal
  go_enter Try.func104, Try.ntmps104
  go_wp2_with fail
  go_quiet ((go_at_call 117; exact Calls.quiet_of_same (HC.out _)))
  go_wp2_with fail
  go_quiet (fail)
  go_wp2_with fail
  go_ret
  exact ⟨rfl, rdr_step HR.out _ (by omega), grown_set (grown_drewN (World.grownBy.refl _ _) _) 1 _⟩
theorem iTake_is {R : Nat} {s st al : ByteArray} {at_ c : Nat} {w : World} (hs : s.size ≤ 1048576) (hat : at_ < s.size) (hc : s[at_].toNat = c) (hr : RdrAt w R s at_ st) (hal : al.data.toList.contains s[at_] = true) :
    Calls Try.prog 104 #[.pointer (some ⟨R, 0, none⟩), .string al] w fun e w' => e = .returned (.int .u8 c) ∧ RdrAt w' R s (at_ + 1) st ∧ w.grownBy w' (some R) := by
  subst hc; exact iTake_ok R s st al at_ w hs hat hr hal

/-! Reading. -/
def ReadPost (R : Nat) (s st : ByteArray) (o : Option (Sen × List Nat)) (w : World) (e : Ending) (w' : World) : Prop :=
  match o with
  | some (x, rest) => ∃ p at_, e = .returned (.pointer p) ∧ at_ ≤ s.size ∧ (bytesN s).drop at_ = rest ∧ RdrAt w' R s at_ st ∧ SenAt w' w.heap.size x p ∧ w.grownBy w' (some R)
  | none => Panics R w e w'
def startB (t : Int) (c : Nat) : Bool := decide (c = 49) || decide (c = 48) || decide (97 ≤ c ∧ (c : Int) - 97 < t) || decide (c = 33) || decide (c = 63) || decide (c = 40)
def StOk (t : Int) (st : ByteArray) : Prop := ∀ c : UInt8, st.data.toList.contains c = startB t c.toNat
def pairS (t : Int) (k : Nat) (l : List Nat) : Option (Sen × List Nat) :=
  match readS t k l with
  | some (x, m :: l2) =>
    match readS t k l2 with
    | some (y, e :: r) => if e = 41 then (twoS m x y).map fun z => (z, r) else none
    | _ => none
  | _ => none
theorem read_no (t : Int) (k c : Nat) (l : List Nat) (h : startB t c = false) : readS t (k + 1) (c :: l) = none := by
  unfold startB at h
  simp only [Bool.or_eq_false_iff, decide_eq_false_iff_not] at h
  unfold readS
  rw [if_neg h.1.1.1.1.1, if_neg h.1.1.1.1.2, if_neg h.1.1.1.2, if_neg h.1.1.2, if_neg h.1.2, if_neg h.2]
theorem read_empty (t : Int) : ∀ n, readS t n [] = none
  | 0 => rfl
  | _ + 1 => rfl
theorem drop_lt {s : ByteArray} {at_ m : Nat} {l : List Nat} (h : (bytesN s).drop at_ = m :: l) : ∃ h : at_ < s.size, s[at_].toNat = m ∧ (bytesN s).drop (at_ + 1) = l := by
  have hlt : at_ < s.size := by
    rcases Nat.lt_or_ge at_ s.size with h2 | h2
    · exact h2
    · rw [List.drop_eq_nil_of_le (by rw [bytesN_len]; exact h2)] at h; cases h
  rw [bytesN_drop hlt] at h
  injection h with h1 h2
  exact ⟨hlt, h1, h2⟩
theorem drop_end {s : ByteArray} {at_ : Nat} (h : (bytesN s).drop at_ = []) (hle : at_ ≤ s.size) : at_ = s.size := by
  have := List.drop_eq_nil_iff.1 h
  rw [bytesN_len] at this
  omega
theorem panics_trans {R : Nat} {w w1 : World} (hg : w.grownBy w1 (some R)) {e : Ending} {w' : World} (h : Panics R w1 e w') : Panics R w e w' := by
  obtain ⟨v, he, hg2⟩ := h
  exact ⟨v, he, hg.trans hg2⟩
def signs2 : ByteArray := ⟨#[38, 124, 62]⟩
theorem signs2_has (c : UInt8) : (ByteArray.mk #[38, 124, 62]).data.toList.contains c = (decide (c.toNat = 38) || decide (c.toNat = 124) || decide (c.toNat = 62)) := by
  rw [Bool.eq_iff_iff]
  simp only [List.contains_iff_mem, Bool.or_eq_true, decide_eq_true_eq]
  have e : ∀ k : UInt8, c = k ↔ c.toNat = k.toNat := fun k => UInt8.toNat_inj.symm
  simp [e]
  omega
theorem close_has (c : UInt8) : (ByteArray.mk #[41]).data.toList.contains c = decide (c.toNat = 41) := by
  rw [Bool.eq_iff_iff]
  simp only [List.contains_iff_mem, decide_eq_true_eq]
  have e : ∀ k : UInt8, c = k ↔ c.toNat = k.toNat := fun k => UInt8.toNat_inj.symm
  simp [e]
theorem twoS_none {m : Nat} {x y : Sen} (h : (decide (m = 38) || decide (m = 124) || decide (m = 62)) = false) : twoS m x y = none := by
  simp only [Bool.or_eq_false_iff, decide_eq_false_iff_not] at h
  unfold twoS
  rw [if_neg h.1.1, if_neg h.1.2, if_neg h.2]
end Go.Proofs.Ytmdpolllmipppaa

namespace Go.Proofs.Ytmdpolllmipppaa
open Go.RowKit

def ReadsAt (t : Int) (k R : Nat) (s st : ByteArray) : Prop := ∀ (at_ : Nat) (w : World), RdrAt w R s at_ st → at_ ≤ s.size → s.size - at_ ≤ k →
  Calls Try.prog 77 #[.pointer (some ⟨R, 0, none⟩)] w (ReadPost R s st (readS t k ((bytesN s).drop at_)) w)
theorem reads_none {t : Int} {k R : Nat} {s st : ByteArray} (ih : ReadsAt t k R s st) {at_ : Nat} {w : World} (hr : RdrAt w R s at_ st) (hle : at_ ≤ s.size) (hk : s.size - at_ ≤ k) (h : readS t k ((bytesN s).drop at_) = none) :
    Calls Try.prog 77 #[.pointer (some ⟨R, 0, none⟩)] w (Panics R w) := by
  have := ih at_ w hr hle hk
  rw [h] at this; exact this
def ReadSome (R : Nat) (s st : ByteArray) (x : Sen) (rest : List Nat) (w : World) (e : Ending) (w' : World) : Prop :=
  ∃ p at_, e = .returned (.pointer p) ∧ at_ ≤ s.size ∧ (bytesN s).drop at_ = rest ∧ RdrAt w' R s at_ st ∧ SenAt w' w.heap.size x p ∧ w.grownBy w' (some R)
theorem reads_some {t : Int} {k R : Nat} {s st : ByteArray} (ih : ReadsAt t k R s st) {at_ : Nat} {w : World} (hr : RdrAt w R s at_ st) (hle : at_ ≤ s.size) (hk : s.size - at_ ≤ k) {x : Sen} {rest : List Nat} (h : readS t k ((bytesN s).drop at_) = some (x, rest)) :
    Calls Try.prog 77 #[.pointer (some ⟨R, 0, none⟩)] w (ReadSome R s st x rest w) := by
  have := ih at_ w hr hle hk
  rw [h] at this; exact this
theorem less_left {t : Int} {k at_ a2 : Nat} {s : ByteArray} {x : Sen} {rest : List Nat} (h : readS t k ((bytesN s).drop at_) = some (x, rest)) (e : (bytesN s).drop a2 = rest) (hle : at_ ≤ s.size) (hle2 : a2 ≤ s.size) : at_ < a2 := by
  have := readS_less t k _ _ _ h
  rw [← e, List.length_drop, List.length_drop, bytesN_len] at this
  omega
theorem twoS_is {m : Nat} {x y : Sen} (hm : m = 38 ∨ m = 124 ∨ m = 62) : ∃ z, twoS m x y = some z ∧ signS z = m ∧ ∀ (w : World) (lo b : Nat) (p q : Option Addr), lo ≤ b → NodeAt w b m p q → SenAt w lo x p → SenAt w lo y q → SenAt w lo z (some ⟨b, 0, none⟩) := by
  rcases hm with rfl | rfl | rfl
  · exact ⟨.and_ x y, rfl, rfl, fun w lo b p q h1 h2 h3 h4 => ⟨b, p, q, rfl, h1, h2, h3, h4⟩⟩
  · exact ⟨.or_ x y, rfl, rfl, fun w lo b p q h1 h2 h3 h4 => ⟨b, p, q, rfl, h1, h2, h3, h4⟩⟩
  · exact ⟨.if_ x y, rfl, rfl, fun w lo b p q h1 h2 h3 h4 => ⟨b, p, q, rfl, h1, h2, h3, h4⟩⟩
theorem rdr_alloc {w : World} {R : Nat} {s st : ByteArray} {at_ : Nat} (h : RdrAt w R s at_ st) (o : Obj) : RdrAt (w.alloc o) R s at_ st :=
  (((Below.refl _ w).alloc (Nat.le_refl _) o).block R (Array.getElem?_eq_some_iff.1 h).1).trans h
theorem node_new (w : World) (sg : Nat) (p q : Option Addr) : NodeAt (w.alloc (.cells #[.int .u8 sg, .pointer p, .pointer q] 85)) w.heap.size sg p q := World.alloc_heap_new w _
theorem rdr_lt {w : World} {R : Nat} {s st : ByteArray} {at_ : Nat} (h : RdrAt w R s at_ st) : R < w.heap.size := (Array.getElem?_eq_some_iff.1 h).1

set_option maxRecDepth 100000 in
set_option maxHeartbeats 4000000 in
theorem iPair (t : Int) (k R : Nat) (s st : ByteArray) (hs : s.size ≤ 1048576) (ih : ReadsAt t k R s st) (at_ : Nat) (w : World) (hr : RdrAt w R s at_ st) (hle : at_ ≤ s.size) (hk : s.size - at_ ≤ k) :
    Calls Try.prog 105 #[.pointer (some ⟨R, 0, none⟩)] w (ReadPost R s st (pairS t k ((bytesN s).drop at_)) w) := by
  have hR := rdr_lt hr
  rcases h1 : readS t k ((bytesN s).drop at_) with _ | ⟨x, _ | ⟨m, l2⟩⟩
  · have HI := Lib.hid (reads_none ih hr hle hk h1)
    rw [show pairS t k ((bytesN s).drop at_) = none by unfold pairS; rw [h1]]
    show Calls _ _ _ _ (Panics R w)
    clear h1 hr ih
    go_enter Try.func105, Try.ntmps105
    go_wp2_with fail
    refine HI.out.mono ?_
    rintro e w1 ⟨v, rfl, hg⟩
    exact ⟨rfl, v, rfl, hg⟩
  · have HI := Lib.hid (reads_some ih hr hle hk h1)
    rw [show pairS t k ((bytesN s).drop at_) = none by unfold pairS; rw [h1]]
    show Calls _ _ _ _ (Panics R w)
    clear h1 hr ih
    go_enter Try.func105, Try.ntmps105
    go_wp2_with fail
    refine HI.out.mono ?_
    rintro e w1 ⟨p, a2, rfl, hle2, hd, hr1, hn, hg⟩
    obtain rfl := drop_end hd hle2
    have HT := Lib.hid (iTake_end R s st ⟨#[38, 124, 62]⟩ w1 hs hr1)
    have HG := Lib.hid hg
    clear hd hr1 hn hg
    go_wp2_with fail
    refine HT.out.mono ?_
    rintro e w2 ⟨v, rfl, hg2⟩
    exact ⟨rfl, v, rfl, HG.out.trans hg2⟩
  · have HI := Lib.hid (reads_some ih hr hle hk h1)
    rcases hm : (decide (m = 38) || decide (m = 124) || decide (m = 62)) with _ | _
    · have hno : pairS t k ((bytesN s).drop at_) = none := by
        unfold pairS
        rw [h1]
        simp only
        split
        · split
          · rw [twoS_none hm]; rfl
          · rfl
        · rfl
      rw [hno]
      show Calls _ _ _ _ (Panics R w)
      have HM := Lib.hid hm
      clear h1 hr ih hno hm
      go_enter Try.func105, Try.ntmps105
      go_wp2_with fail
      refine HI.out.mono ?_
      rintro e w1 ⟨p, a2, rfl, hle2, hd, hr1, hn, hg⟩
      obtain ⟨hlt2, hm2, _⟩ := drop_lt hd
      have HT := Lib.hid (iTake_bad R s st ⟨#[38, 124, 62]⟩ a2 w1 hs hlt2 hr1 (by rw [signs2_has, hm2]; exact HM.out))
      have HG := Lib.hid hg
      clear hd hr1 hn hg hm2
      go_wp2_with fail
      refine HT.out.mono ?_
      rintro e w2 ⟨v, rfl, hg2⟩
      exact ⟨rfl, v, rfl, HG.out.trans hg2⟩
    · have hm3 : m = 38 ∨ m = 124 ∨ m = 62 := by simpa [or_assoc] using hm
      have HM := Lib.hid hm
      have HM3 := Lib.hid hm3
      have HH1 := Lib.hid h1
      have HIH := Lib.hid ih
      rcases h2 : readS t k l2 with _ | ⟨y, _ | ⟨e0, r⟩⟩
      · rw [show pairS t k ((bytesN s).drop at_) = none by unfold pairS; rw [h1]; simp only; rw [h2]]
        show Calls _ _ _ _ (Panics R w)
        have HH2 := Lib.hid h2
        clear h1 h2 hr ih hm hm3
        go_enter Try.func105, Try.ntmps105
        go_wp2_with fail
        refine HI.out.mono ?_
        rintro e w1 ⟨p, a2, rfl, hle2, hd, hr1, hn, hg⟩
        have hlt := less_left HH1.out hd hle hle2
        obtain ⟨hlt2, hm2, hd2⟩ := drop_lt hd
        have HT := Lib.hid (iTake_is hs hlt2 hm2 hr1 (al := ⟨#[38, 124, 62]⟩) (by rw [signs2_has, hm2]; exact HM.out))
        have HG := Lib.hid hg
        have HD2 := Lib.hid hd2
        clear hd hr1 hn hg hm2 hd2
        go_wp2_with fail
        refine HT.out.mono ?_
        rintro e w2 ⟨rfl, hr2, hg2⟩
        have HI2 := Lib.hid (reads_none HIH.out hr2 (by omega) (by omega) (by rw [HD2.out]; exact HH2.out))
        have HG2 := Lib.hid (HG.out.trans hg2)
        clear hr2 hg2
        go_wp2_with fail
        refine HI2.out.mono ?_
        rintro e w3 ⟨v, rfl, hg3⟩
        exact ⟨rfl, v, rfl, HG2.out.trans hg3⟩
      · rw [show pairS t k ((bytesN s).drop at_) = none by unfold pairS; rw [h1]; simp only; rw [h2]]
        show Calls _ _ _ _ (Panics R w)
        have HH2 := Lib.hid h2
        clear h1 h2 hr ih hm hm3
        go_enter Try.func105, Try.ntmps105
        go_wp2_with fail
        refine HI.out.mono ?_
        rintro e w1 ⟨p, a2, rfl, hle2, hd, hr1, hn, hg⟩
        have hlt := less_left HH1.out hd hle hle2
        obtain ⟨hlt2, hm2, hd2⟩ := drop_lt hd
        have HT := Lib.hid (iTake_is hs hlt2 hm2 hr1 (al := ⟨#[38, 124, 62]⟩) (by rw [signs2_has, hm2]; exact HM.out))
        have HG := Lib.hid hg
        have HD2 := Lib.hid hd2
        clear hd hr1 hn hg hm2 hd2
        go_wp2_with fail
        refine HT.out.mono ?_
        rintro e w2 ⟨rfl, hr2, hg2⟩
        have HI2 := Lib.hid (reads_some HIH.out hr2 (by omega) (by omega) (by rw [HD2.out]; exact HH2.out))
        have HG2 := Lib.hid (HG.out.trans hg2)
        clear hr2 hg2
        go_wp2_with fail
        refine HI2.out.mono ?_
        rintro e w3 ⟨q, a3, rfl, hle3, hd3, hr3, hn3, hg3⟩
        obtain rfl := drop_end hd3 hle3
        have HT3 := Lib.hid (iTake_end R s st ⟨#[41]⟩ w3 hs hr3)
        have HG3 := Lib.hid (HG2.out.trans hg3)
        clear hd3 hr3 hn3 hg3
        go_wp2_with fail
        refine HT3.out.mono ?_
        rintro e w4 ⟨v, rfl, hg4⟩
        exact ⟨rfl, v, rfl, HG3.out.trans hg4⟩
      · by_cases he : e0 = 41
        · subst he
          obtain ⟨z, hz, hsg, hz2⟩ := twoS_is (x := x) (y := y) hm3
          rw [show pairS t k ((bytesN s).drop at_) = some (z, r) by unfold pairS; rw [h1]; simp only; rw [h2]; simp only [if_true]; rw [hz]; rfl]
          show Calls _ _ _ _ (ReadSome R s st z r w)
          have HH2 := Lib.hid h2
          have HZ2 := Lib.hid hz2
          clear h1 h2 hr ih hm hm3 hz hsg hz2
          go_enter Try.func105, Try.ntmps105
          go_wp2_with fail
          refine HI.out.mono ?_
          rintro e w1 ⟨p, a2, rfl, hle2, hd, hr1, hn, hg⟩
          have hlt := less_left HH1.out hd hle hle2
          obtain ⟨hlt2, hm2, hd2⟩ := drop_lt hd
          have HT := Lib.hid (iTake_is hs hlt2 hm2 hr1 (al := ⟨#[38, 124, 62]⟩) (by rw [signs2_has, hm2]; exact HM.out))
          have HG := Lib.hid hg
          have HN := Lib.hid hn
          have HD2 := Lib.hid hd2
          clear hd hr1 hn hg hm2 hd2
          go_wp2_with fail
          refine HT.out.mono ?_
          rintro e w2 ⟨rfl, hr2, hg2⟩
          have HI2 := Lib.hid (reads_some HIH.out hr2 (by omega) (by omega) (by rw [HD2.out]; exact HH2.out))
          have HG2 := Lib.hid (HG.out.trans hg2)
          replace HN := Lib.hid (HN.out.grown hg2 hR)
          clear hr2 hg2
          go_wp2_with fail
          refine HI2.out.mono ?_
          rintro e w3 ⟨q, a3, rfl, hle3, hd3, hr3, hn3, hg3⟩
          obtain ⟨hlt3, hm3, hd4⟩ := drop_lt hd3
          have HT3 := Lib.hid (iTake_is hs hlt3 hm3 hr3 (al := ⟨#[41]⟩) (by rw [close_has, hm3]; rfl))
          have HG3 := Lib.hid (HG2.out.trans hg3)
          replace HN := Lib.hid (HN.out.grown hg3 hR)
          have HN3 := Lib.hid (SenAt.low HG2.out.size y q hn3)
          have HD4 := Lib.hid hd4
          clear hd3 hr3 hn3 hg3 hd4 hm3
          go_wp2_with fail
          refine HT3.out.mono ?_
          rintro e w4 ⟨rfl, hr4, hg4⟩
          have HG4 := Lib.hid (HG3.out.trans hg4)
          replace HN := Lib.hid (HN.out.grown hg4 hR)
          replace HN3 := Lib.hid (HN3.out.grown hg4 hR)
          have HR4 := Lib.hid hr4
          clear hr4 hg4
          go_wp2_with fail
          go_ret
          have hb : Below w4.heap.size w4 (w4.alloc (.cells #[.int .u8 m, .pointer p, .pointer q] 85)) := (Below.refl _ _).alloc (Nat.le_refl _) _
          exact ⟨_, a3 + 1, rfl, by omega, HD4.out, rdr_alloc HR4.out _, HZ2.out _ _ _ _ _ HG4.out.size (node_new _ _ _ _) (HN.out.below hb) (HN3.out.below hb), grown_alloc HG4.out _⟩
        · rw [show pairS t k ((bytesN s).drop at_) = none by unfold pairS; rw [h1]; simp only; rw [h2]; simp only; rw [if_neg he]]
          show Calls _ _ _ _ (Panics R w)
          have HH2 := Lib.hid h2
          have HEN := Lib.hid he
          clear h1 h2 hr ih hm hm3 he
          go_enter Try.func105, Try.ntmps105
          go_wp2_with fail
          refine HI.out.mono ?_
          rintro e w1 ⟨p, a2, rfl, hle2, hd, hr1, hn, hg⟩
          have hlt := less_left HH1.out hd hle hle2
          obtain ⟨hlt2, hm2, hd2⟩ := drop_lt hd
          have HT := Lib.hid (iTake_is hs hlt2 hm2 hr1 (al := ⟨#[38, 124, 62]⟩) (by rw [signs2_has, hm2]; exact HM.out))
          have HG := Lib.hid hg
          have HD2 := Lib.hid hd2
          clear hd hr1 hn hg hm2 hd2
          go_wp2_with fail
          refine HT.out.mono ?_
          rintro e w2 ⟨rfl, hr2, hg2⟩
          have HI2 := Lib.hid (reads_some HIH.out hr2 (by omega) (by omega) (by rw [HD2.out]; exact HH2.out))
          have HG2 := Lib.hid (HG.out.trans hg2)
          clear hr2 hg2
          go_wp2_with fail
          refine HI2.out.mono ?_
          rintro e w3 ⟨q, a3, rfl, hle3, hd3, hr3, hn3, hg3⟩
          obtain ⟨hlt3, hm3, hd4⟩ := drop_lt hd3
          have HT3 := Lib.hid (iTake_bad R s st ⟨#[41]⟩ a3 w3 hs hlt3 hr3 (by rw [close_has, hm3]; exact decide_eq_false HEN.out))
          have HG3 := Lib.hid (HG2.out.trans hg3)
          clear hd3 hr3 hn3 hg3 hd4 hm3
          go_wp2_with fail
          refine HT3.out.mono ?_
          rintro e w4 ⟨v, rfl, hg4⟩
          exact ⟨rfl, v, rfl, HG3.out.trans hg4⟩
end Go.Proofs.Ytmdpolllmipppaa

namespace Go.Proofs.Ytmdpolllmipppaa
open Go.RowKit

theorem word_of {t : Int} {c : Nat} (h : startB t c = true) (h1 : c ≠ 33) (h2 : c ≠ 63) (h3 : c ≠ 40) : ∃ x, (∀ k l, readS t (k + 1) (c :: l) = some (x, l)) ∧ (∀ (w : World) (lo b : Nat), lo ≤ b → NodeAt w b c none none → SenAt w lo x (some ⟨b, 0, none⟩)) := by
  unfold startB at h
  simp only [Bool.or_eq_true, decide_eq_true_eq] at h
  by_cases e1 : c = 49
  · subst e1; exact ⟨.one, fun _ _ => rfl, fun w lo b hl hn => ⟨b, rfl, hl, hn⟩⟩
  by_cases e2 : c = 48
  · subst e2; exact ⟨.zero, fun _ _ => rfl, fun w lo b hl hn => ⟨b, rfl, hl, hn⟩⟩
  have h4 : 97 ≤ c ∧ (c : Int) - 97 < t := by omega
  obtain ⟨i, rfl⟩ : ∃ i, c = 97 + i := ⟨c - 97, by omega⟩
  refine ⟨.thing i, fun k l => ?_, fun w lo b hl hn => ⟨b, rfl, hl, hn⟩⟩
  unfold readS
  rw [if_neg e1, if_neg e2, if_pos h4]
  congr 3; omega
theorem read_no33 (t : Int) (k : Nat) (l : List Nat) : readS t (k + 1) (33 :: l) = (readS t k l).map fun p => (.no p.1, p.2) := by
  conv => lhs; unfold readS
  simp
theorem read_ask63 (t : Int) (k : Nat) (l : List Nat) : readS t (k + 1) (63 :: l) = (readS t k l).map fun p => (.ask p.1, p.2) := by
  conv => lhs; unfold readS
  simp
theorem read_pair40 (t : Int) (k : Nat) (l : List Nat) : readS t (k + 1) (40 :: l) = pairS t k l := by
  conv => lhs; unfold readS
  simp only [show ¬ (40 : Nat) = 49 by omega, show ¬ (40 : Nat) = 48 by omega, show ¬ (97 ≤ 40 ∧ ((40 : Nat) : Int) - 97 < t) by omega, show ¬ (40 : Nat) = 33 by omega, show ¬ (40 : Nat) = 63 by omega, if_false, if_true]
  rfl

set_option maxRecDepth 100000 in
set_option maxHeartbeats 4000000 in
theorem iRead (t : Int) (R : Nat) (s st : ByteArray) (hs : s.size ≤ 1048576) (ht : t ≤ 26) (hst : StOk t st) : ∀ k, ReadsAt t k R s st := by
  intro k
  induction k with
  | zero =>
    intro at_ w hr hle hk
    obtain rfl : at_ = s.size := by omega
    obtain ⟨_, _, hc2, _, _⟩ := rdr_cells hr
    have HT := Lib.hid (iTake_end R s st st w hs hr)
    show Calls _ _ _ _ (Panics R w)
    clear hr
    go_enter Try.func77, Try.ntmps77
    go_wp2_with fail
    refine HT.out.mono ?_
    rintro e w1 ⟨v, rfl, hg⟩
    exact ⟨rfl, v, rfl, hg⟩
  | succ k ih =>
    intro at_ w hr hle hk
    obtain ⟨_, _, hc2, _, _⟩ := rdr_cells hr
    have hR := rdr_lt hr
    by_cases hlt : at_ < s.size
    · have hd := bytesN_drop hlt
      rw [hd]
      obtain ⟨c, hc⟩ : ∃ c, s[at_].toNat = c := ⟨_, rfl⟩
      rw [hc]
      have hc255 : c < 256 := by rw [← hc]; exact UInt8.toNat_lt _
      rcases hb : startB t c with _ | _
      · have HT := Lib.hid (iTake_bad R s st st at_ w hs hlt hr (by rw [hst, hc, hb]))
        rw [read_no t k c _ hb]
        show Calls _ _ _ _ (Panics R w)
        clear hr hb ih hst hd
        go_enter Try.func77, Try.ntmps77
        go_wp2_with fail
        refine HT.out.mono ?_
        rintro e w1 ⟨v, rfl, hg⟩
        exact ⟨rfl, v, rfl, hg⟩
      · have HT := Lib.hid (iTake_is hs hlt hc hr (al := st) (by rw [hst, hc, hb]))
        have HIH := Lib.hid ih
        by_cases e33 : c = 33
        · subst e33
          rw [read_no33]
          rcases h1 : readS t k ((bytesN s).drop (at_ + 1)) with _ | ⟨x, rest⟩
          · show Calls _ _ _ _ (Panics R w)
            have HH := Lib.hid h1
            clear hr hb ih hst hd h1
            go_enter Try.func77, Try.ntmps77
            go_wp2_with fail
            refine HT.out.mono ?_
            rintro e w1 ⟨rfl, hr1, hg⟩
            have HI := Lib.hid (reads_none HIH.out hr1 (by omega) (by omega) HH.out)
            have HG := Lib.hid hg
            clear hr1 hg
            go_wp2_with fail
            refine HI.out.mono ?_
            rintro e w2 ⟨v, rfl, hg2⟩
            exact ⟨rfl, v, rfl, HG.out.trans hg2⟩
          · show Calls _ _ _ _ (ReadSome R s st (.no x) rest w)
            have HH := Lib.hid h1
            clear hr hb ih hst hd h1
            go_enter Try.func77, Try.ntmps77
            go_wp2_with fail
            refine HT.out.mono ?_
            rintro e w1 ⟨rfl, hr1, hg⟩
            have HI := Lib.hid (reads_some HIH.out hr1 (by omega) (by omega) HH.out)
            have HG := Lib.hid hg
            clear hr1 hg
            go_wp2_with fail
            refine HI.out.mono ?_
            rintro e w2 ⟨p, a2, rfl, hle2, hd2, hr2, hn2, hg2⟩
            have HN2 := Lib.hid (SenAt.low HG.out.size x p hn2)
            have HG2 := Lib.hid (HG.out.trans hg2)
            have HR2 := Lib.hid hr2
            have HD2 := Lib.hid hd2
            clear hd2 hr2 hn2 hg2
            go_wp2_with fail
            go_ret
            have hb : Below w2.heap.size w2 (w2.alloc (.cells #[.int .u8 33, .pointer p, .pointer none] 85)) := (Below.refl _ _).alloc (Nat.le_refl _) _
            exact ⟨_, a2, rfl, hle2, HD2.out, rdr_alloc HR2.out _, ⟨_, p, rfl, HG2.out.size, node_new _ 33 _ _, HN2.out.below hb⟩, grown_alloc HG2.out _⟩
        by_cases e63 : c = 63
        · subst e63
          rw [read_ask63]
          rcases h1 : readS t k ((bytesN s).drop (at_ + 1)) with _ | ⟨x, rest⟩
          · show Calls _ _ _ _ (Panics R w)
            have HH := Lib.hid h1
            clear hr hb ih hst hd h1
            go_enter Try.func77, Try.ntmps77
            go_wp2_with fail
            refine HT.out.mono ?_
            rintro e w1 ⟨rfl, hr1, hg⟩
            have HI := Lib.hid (reads_none HIH.out hr1 (by omega) (by omega) HH.out)
            have HG := Lib.hid hg
            clear hr1 hg
            go_wp2_with fail
            refine HI.out.mono ?_
            rintro e w2 ⟨v, rfl, hg2⟩
            exact ⟨rfl, v, rfl, HG.out.trans hg2⟩
          · show Calls _ _ _ _ (ReadSome R s st (.ask x) rest w)
            have HH := Lib.hid h1
            clear hr hb ih hst hd h1
            go_enter Try.func77, Try.ntmps77
            go_wp2_with fail
            refine HT.out.mono ?_
            rintro e w1 ⟨rfl, hr1, hg⟩
            have HI := Lib.hid (reads_some HIH.out hr1 (by omega) (by omega) HH.out)
            have HG := Lib.hid hg
            clear hr1 hg
            go_wp2_with fail
            refine HI.out.mono ?_
            rintro e w2 ⟨p, a2, rfl, hle2, hd2, hr2, hn2, hg2⟩
            have HN2 := Lib.hid (SenAt.low HG.out.size x p hn2)
            have HG2 := Lib.hid (HG.out.trans hg2)
            have HR2 := Lib.hid hr2
            have HD2 := Lib.hid hd2
            clear hd2 hr2 hn2 hg2
            go_wp2_with fail
            go_ret
            have hb : Below w2.heap.size w2 (w2.alloc (.cells #[.int .u8 63, .pointer p, .pointer none] 85)) := (Below.refl _ _).alloc (Nat.le_refl _) _
            exact ⟨_, a2, rfl, hle2, HD2.out, rdr_alloc HR2.out _, ⟨_, p, rfl, HG2.out.size, node_new _ 63 _ _, HN2.out.below hb⟩, grown_alloc HG2.out _⟩
        by_cases e40 : c = 40
        · subst e40
          rw [read_pair40]
          rcases h1 : pairS t k ((bytesN s).drop (at_ + 1)) with _ | ⟨x, rest⟩
          · show Calls _ _ _ _ (Panics R w)
            have HH := Lib.hid h1
            clear hr hb ih hst hd h1
            go_enter Try.func77, Try.ntmps77
            go_wp2_with fail
            refine HT.out.mono ?_
            rintro e w1 ⟨rfl, hr1, hg⟩
            have hp := iPair t k R s st hs HIH.out (at_ + 1) w1 hr1 (by omega) (by omega)
            rw [HH.out] at hp
            have HI : Hid (Calls Try.prog 105 #[.pointer (some ⟨R, 0, none⟩)] w1 (Panics R w1)) := hp
            have HG := Lib.hid hg
            clear hr1 hg hp
            go_wp2_with fail
            refine HI.out.mono ?_
            rintro e w2 ⟨v, rfl, hg2⟩
            exact ⟨rfl, v, rfl, HG.out.trans hg2⟩
          · show Calls _ _ _ _ (ReadSome R s st x rest w)
            have HH := Lib.hid h1
            clear hr hb ih hst hd h1
            go_enter Try.func77, Try.ntmps77
            go_wp2_with fail
            refine HT.out.mono ?_
            rintro e w1 ⟨rfl, hr1, hg⟩
            have hp := iPair t k R s st hs HIH.out (at_ + 1) w1 hr1 (by omega) (by omega)
            rw [HH.out] at hp
            have HI : Hid (Calls Try.prog 105 #[.pointer (some ⟨R, 0, none⟩)] w1 (ReadSome R s st x rest w1)) := hp
            have HG := Lib.hid hg
            clear hr1 hg hp
            go_wp2_with fail
            refine HI.out.mono ?_
            rintro e w2 ⟨p, a2, rfl, hle2, hd2, hr2, hn2, hg2⟩
            have HN2 := Lib.hid (SenAt.low HG.out.size x p hn2)
            have HG2 := Lib.hid (HG.out.trans hg2)
            have HR2 := Lib.hid hr2
            have HD2 := Lib.hid hd2
            clear hd2 hr2 hn2 hg2
            go_wp2_with fail
            go_ret
            exact ⟨p, a2, rfl, hle2, HD2.out, HR2.out, HN2.out, HG2.out⟩
        · obtain ⟨x, hx1, hx2⟩ := word_of hb e33 e63 e40
          rw [hx1]
          show Calls _ _ _ _ (ReadSome R s st x _ w)
          have HX := Lib.hid hx2
          have h33 : ((c : Int) == 33) = false := by rw [beq_eq_false_iff_ne]; omega
          have h63 : ((c : Int) == 63) = false := by rw [beq_eq_false_iff_ne]; omega
          have h40 : ((c : Int) == 40) = false := by rw [beq_eq_false_iff_ne]; omega
          clear hr hb ih hst hd hx1 hx2 e33 e63 e40
          go_enter Try.func77, Try.ntmps77
          go_wp2_with fail
          refine HT.out.mono ?_
          rintro e w1 ⟨rfl, hr1, hg⟩
          have HG := Lib.hid hg
          have HR1 := Lib.hid hr1
          clear hr1 hg
          go_wp2_with fail
          go_ret
          exact ⟨_, at_ + 1, rfl, by omega, rfl, rdr_alloc HR1.out _, HX.out _ _ _ HG.out.size (node_new _ c none none), grown_alloc HG.out _⟩
    · obtain rfl : at_ = s.size := by omega
      have HT := Lib.hid (iTake_end R s st st w hs hr)
      rw [List.drop_eq_nil_of_le (by rw [bytesN_len]; omega), read_empty]
      show Calls _ _ _ _ (Panics R w)
      clear hr ih hst
      go_enter Try.func77, Try.ntmps77
      go_wp2_with fail
      refine HT.out.mono ?_
      rintro e w1 ⟨v, rfl, hg⟩
      exact ⟨rfl, v, rfl, hg⟩
end Go.Proofs.Ytmdpolllmipppaa
