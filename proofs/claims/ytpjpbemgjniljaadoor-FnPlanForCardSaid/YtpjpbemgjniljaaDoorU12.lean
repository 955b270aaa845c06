/-
  What the proofs of this seat's statements share (Sho, Shp, Shq, Spc, Spd, Drs, Drt, PartI, PartJ, PartK).
-/
import Derived.Deep.RegionWith
import Derived.IntWalk
import Derived.Lib.BitFns
import Derived.Test.YtpjpbemgjniljaaDoorU11
import Derived.Test.YtpjpbemgjniljaaDoorU8
import Derived.Test.YtpjpbemgjniljaaDoorU10
import Derived.Test.YtpjpbemgjniljaaDoorU7
import Derived.Test.YtpjpbemgjniljaaDoorU6

namespace Go.Proofs.YtpjpbemgjniljaaDoor
open Go.RowKit

def SHold (t : Int) (s : ByteArray) (x : Sen) (rest : List Nat) (m : Nat) (w : World) (e : Ending) (w' : World) : Prop :=
  ∃ a2 : Nat, e = .returned (.tuple #[.bool (holdsS t x m), .int .i64 a2]) ∧ a2 ≤ s.size ∧ (bytesN s).drop a2 = rest ∧ ∃ q, w' = w.drewN q
def allTo (f : Nat → Bool) (k : Nat) : Bool := (List.range k).all f
theorem allTo_succ (f : Nat → Bool) (k : Nat) : allTo f (k + 1) = (allTo f k && f k) := by
  unfold allTo; rw [List.range_succ, List.all_append]; simp
theorem allTo_zero (f : Nat → Bool) : allTo f 0 = true := rfl
theorem hasW_div (m k : Nat) : hasW (m : Int) k = decide (m / 2 ^ k % 2 = 1) := by
  unfold hasW; rw [Int.toNat_natCast, Nat.testBit_eq_decide_div_mod_eq]
theorem has_walk {m k : Nat} {b : Bool} (h : hasW (m : Int) k = b) : (((m : Int) / 2 ^ k).tmod 2 == 0) = !b := by
  have e4 : (2 : Int) ^ k = ((2 ^ k : Nat) : Int) := by push_cast; rfl
  rw [e4, tmod2_nat]
  rw [hasW_div] at h
  subst h
  rcases Nat.mod_two_eq_zero_or_one (m / 2 ^ k) with h | h <;> rw [h] <;> rfl
theorem bit_walk (i k : Nat) (d : Int) (hd : d = ((2 ^ i : Nat) : Int)) : ((k : Int) / d % 2 == 1) = bitOf (97 + i) k := by
  subst hd
  rw [show (k : Int) / ((2 ^ i : Nat) : Int) % 2 = ((k / 2 ^ i % 2 : Nat) : Int) by push_cast; rfl]
  unfold bitOf
  rw [decide_eq_false (by omega : ¬ 97 + i = 49), decide_eq_false (by omega : ¬ 97 + i = 48), show 97 + i - 97 = i by omega]
  rcases Nat.mod_two_eq_zero_or_one (k / 2 ^ i) with h | h <;> rw [h] <;> rfl
theorem wordTo_bit (c : Nat) : ∀ n w, (wordTo c n).testBit w = (decide (w < n) && bitOf c w)
  | 0, w => by simp [wordTo]
  | n + 1, w => by
    have ih := wordTo_bit c n w
    unfold wordTo
    rw [Nat.testBit_or, ih]
    by_cases e : w = n
    · subst e
      cases h : bitOf c w
      · simp
      · simp
    · have h2 : (if bitOf c n = true then 2 ^ n else 0).testBit w = false := by
        split
        · rw [Nat.testBit_two_pow]; simp; omega
        · simp
      rw [h2]
      cases bitOf c w
      · simp
      · simp; omega
theorem thing_all {t : Int} {i m : Nat} (h1 : 1 ≤ t) (h3 : t ≤ 3) (hi : (i : Int) < t) (hm : (m : Int) ≤ allOf t) : holdsS t (.thing i) m = allTo (fun w => !hasW (m : Int) w || bitOf (97 + i) w) (nWorlds t) := by
  show withinB (m : Int) (letterSet t i) = _
  rw [← word_thing h1 h3 hi, Bool.eq_iff_iff, within_iff (by omega)]
  unfold allTo
  rw [List.all_eq_true]
  constructor
  · intro h w hw
    have := h w
    rw [Int.toNat_natCast, Int.toNat_natCast, wordTo_bit] at this
    unfold hasW
    rw [Int.toNat_natCast]
    cases hb : m.testBit w
    · rfl
    · have := this hb
      rw [Bool.and_eq_true] at this
      rw [this.2]; rfl
  · intro h w hb
    have hlt := has_lt h1 h3 (s := (m : Int)) (by omega) hm (w := w) hb
    have := h w (List.mem_range.2 hlt)
    unfold hasW at this
    rw [hb] at this
    rw [Int.toNat_natCast, wordTo_bit, decide_eq_true hlt]
    simpa using this


end Go.Proofs.YtpjpbemgjniljaaDoor

namespace Go.Proofs.YtpjpbemgjniljaaDoor
open Go.RowKit

theorem two_pow_cast (k : Nat) : (2 : Int) ^ k = ((2 ^ k : Nat) : Int) := by push_cast; rfl
theorem wrap_pow {k : Nat} (h : k < 8) : wrap64 ((2 : Int) ^ k) = ((2 ^ k : Nat) : Int) := by
  have : 2 ^ k ≤ 2 ^ 7 := Nat.pow_le_pow_right (by omega) (by omega)
  rw [two_pow_cast]
  obtain ⟨p, hp⟩ : ∃ p, 2 ^ k = p := ⟨_, rfl⟩
  rw [hp] at this ⊢
  exact IntWalk.wrap64_in _ ⟨by omega, by omega⟩
def NoneF (t : Int) (x : Sen) (m : Nat) (w : Nat) : Bool := !hasW (m : Int) w || !holdsS t x (worldS w)
theorem no_all (t : Int) (x : Sen) (m : Nat) : holdsS t (.no x) m = allTo (NoneF t x m) (nWorlds t) := rfl
theorem ask_all (t : Int) (x : Sen) (m : Nat) : holdsS t (.ask x) m = (holdsS t x m || allTo (NoneF t x m) (nWorlds t)) := rfl


end Go.Proofs.YtpjpbemgjniljaaDoor

namespace Go.Proofs.YtpjpbemgjniljaaDoor
open Go.RowKit

def IfF (t : Int) (x y : Sen) (m : Nat) (u : Nat) : Bool := !withinB (u : Int) (m : Int) || !holdsS t x (u : Int) || holdsS t y (u : Int)
theorem if_all (t : Int) (x y : Sen) (m : Nat) : holdsS t (.if_ x y) m = allTo (IfF t x y m) (m + 1) := by
  show (List.range ((m : Int).toNat + 1)).all _ = _
  rw [Int.toNat_natCast]; rfl

end Go.Proofs.YtpjpbemgjniljaaDoor

namespace Go.Proofs.YtpjpbemgjniljaaDoor
open Go.RowKit

theorem start_thing {t : Int} {c : Nat} (h : startB t c = true) (e1 : c ≠ 49) (e2 : c ≠ 48) (e3 : c ≠ 33) (e4 : c ≠ 63) (e5 : c ≠ 40) : ∃ i : Nat, c = 97 + i ∧ (i : Int) < t := by
  unfold startB at h
  simp only [Bool.or_eq_true, decide_eq_true_eq] at h
  exact ⟨c - 97, by omega, by omega⟩
theorem read_thing {t : Int} {i k : Nat} {l : List Nat} (hi : (i : Int) < t) : readS t (k + 1) ((97 + i) :: l) = some (.thing i, l) := by
  unfold readS
  rw [if_neg (by omega), if_neg (by omega), if_pos ⟨by omega, by omega⟩]
  congr 3; omega

end Go.Proofs.YtpjpbemgjniljaaDoor

namespace Go.Proofs.YtpjpbemgjniljaaDoor
open Go.RowKit

theorem senT_bad {t : Int} {s : ByteArray} (h : t < 1 ∨ 3 < t ∨ 60 < s.size) : senT t s = none := by
  unfold senT senOf; rw [if_neg (by rw [bytesN_len]; omega)]
theorem senT_none {t : Int} {s : ByteArray} (h1 : 1 ≤ t) (h3 : t ≤ 3) (hl : s.size ≤ 60) (h : readS t s.size (bytesN s) = none) : senT t s = none :=
  senOf_none h1 h3 (by rw [bytesN_len]; exact hl) (by rw [bytesN_len]; exact h)
theorem senT_more {t : Int} {s : ByteArray} {x : Sen} {c : Nat} {r : List Nat} (h1 : 1 ≤ t) (h3 : t ≤ 3) (hl : s.size ≤ 60) (h : readS t s.size (bytesN s) = some (x, c :: r)) : senT t s = none :=
  senOf_more h1 h3 (by rw [bytesN_len]; exact hl) (by rw [bytesN_len]; exact h)
theorem senT_some {t : Int} {s : ByteArray} {x : Sen} (h1 : 1 ≤ t) (h3 : t ≤ 3) (hl : s.size ≤ 60) (h : readS t s.size (bytesN s) = some (x, [])) : senT t s = some x :=
  senOf_some h1 h3 (by rw [bytesN_len]; exact hl) (by rw [bytesN_len]; exact h)
theorem read_of_sen {t : Int} {s : ByteArray} {x : Sen} (h : senT t s = some x) : readS t s.size (bytesN s) = some (x, []) := by
  obtain ⟨h1, h3, hl, hok, ht⟩ := senT_ok h
  rcases hr : readS t s.size (bytesN s) with _ | ⟨y, _ | ⟨c, r⟩⟩
  · rw [senT_none h1 h3 hl hr] at h; cases h
  · rw [senT_some h1 h3 hl hr] at h; cases h; rfl
  · rw [senT_more h1 h3 hl hr] at h; cases h
theorem isT_none {t : Int} {s : ByteArray} (h : senT t s = none) : isT t s = false := (issueT_none h).2
theorem isT_some {t : Int} {s : ByteArray} {x : Sen} (h : senT t s = some x) : isT t s = true := (issueT_some h).2

theorem supports_world {t : Int} {s : ByteArray} {x : Sen} {k : Nat} (h : senT t s = some x) (hk : k < nWorlds t) : supportsT t ((2 ^ k : Nat) : Int) s = holdsS t x (worldS k) := by
  obtain ⟨h1, h3, _⟩ := senT_ok h
  have := world_ok h1 h3 hk
  unfold supportsT
  rw [h]
  show (setOkB t (worldS k) && _) = _
  rw [setOk_of h1 h3 this.1 this.2]; rfl
theorem true_add {t : Int} {x : Sen} {k : Nat} (h : holdsS t x (worldS k) = true) : trueTo t x k + 2 ^ k = trueTo t x (k + 1) := by
  conv => rhs; unfold trueTo
  rw [if_pos h]

end Go.Proofs.YtpjpbemgjniljaaDoor

namespace Go.Proofs.YtpjpbemgjniljaaDoor
open Go.RowKit

/-- A new row of strings is still there behind a draw. -/
theorem lit_str {w w' : World} {g : Nat} (xs : List ByteArray) {t : TypeId} (hg : (w.alloc (.cells (xs.map Value.string).toArray t)).grownBy w' (some g)) (hne : g < w.heap.size) {k : Int} (h0 : 0 ≤ k) (hk : k < xs.length) :
    ∃ x : ByteArray, x ∈ xs ∧ w'.cell? ⟨w.heap.size, k.toNat, none⟩ = some (.string x) := by
  have hb : w'.heap[w.heap.size]? = (w.alloc (.cells (xs.map Value.string).toArray t)).heap[w.heap.size]? := hg.block w.heap.size (by simp) (fun e => by injection e; omega)
  have hi : k.toNat < xs.length := by omega
  refine ⟨xs[k.toNat], List.getElem_mem hi, ?_⟩
  have h2 : (w.alloc (.cells (xs.map Value.string).toArray t)).heap[w.heap.size]? = some (.cells (xs.map Value.string).toArray t (0, 0)) := heap_alloc_new w _
  rw [h2] at hb
  rw [cell_of_row w' w.heap.size k.toNat _ t (0, 0) hb]
  simp [hi]
def StrPost (hi : Nat) (g u : Nat) (w : World) (e : Ending) (w' : World) : Prop := ∃ s : ByteArray, e = .returned (.string s) ∧ 1 ≤ s.size ∧ s.size ≤ hi ∧ Rd w' g u ∧ w.grownBy w' (some g)

def words6 : List ByteArray := [⟨#[97]⟩, ⟨#[98]⟩, ⟨#[99]⟩, ⟨#[97]⟩, ⟨#[48]⟩, ⟨#[49]⟩]
theorem words6_size {x : ByteArray} (h : x ∈ words6) : x.size = 1 := by
  simp only [words6, List.mem_cons, List.not_mem_nil, or_false] at h
  rcases h with rfl | rfl | rfl | rfl | rfl | rfl <;> rfl
def words5 : List ByteArray := [⟨#[]⟩, ⟨#[99]⟩, ⟨#[40]⟩, ⟨#[38]⟩, ⟨#[33]⟩]
theorem words5_size {x : ByteArray} (h : x ∈ words5) : x.size ≤ 1 := by
  simp only [words5, List.mem_cons, List.not_mem_nil, or_false] at h
  rcases h with rfl | rfl | rfl | rfl | rfl <;> decide

theorem one_size (b : UInt8) : (ByteArray.mk #[b]).size = 1 := rfl

theorem str_more {hi hi' : Nat} {g u u' : Nat} {w : World} {e : Ending} {w' : World} (h : StrPost hi g u w e w') (h1 : hi ≤ hi') (h2 : u ≤ u') : StrPost hi' g u' w e w' := by
  obtain ⟨s, he, h3, h4, hr, hg⟩ := h
  exact ⟨s, he, h3, by omega, hr.more h2, hg⟩
end Go.Proofs.YtpjpbemgjniljaaDoor

namespace Go.Proofs.YtpjpbemgjniljaaDoor
open Go.RowKit

def TextPost (g u : Nat) (w : World) (e : Ending) (w' : World) : Prop := ∃ (t : Int) (s : ByteArray), e = .returned (.tuple #[.int .i64 t, .string s]) ∧ -1 ≤ t ∧ t ≤ 4 ∧ s.size ≤ 20 ∧ Rd w' g (u + 40) ∧ w.grownBy w' (some g)
theorem lit_here {k : Int} (h0 : 0 ≤ k) (hk : k < 5) : ∃ x : ByteArray, x ∈ words5 ∧ ∀ h, [Value.string ⟨#[]⟩, .string ⟨#[99]⟩, .string ⟨#[40]⟩, .string ⟨#[38]⟩, .string ⟨#[33]⟩][k.toNat]'h = .string x := by
  have h5 : k = 0 ∨ k = 1 ∨ k = 2 ∨ k = 3 ∨ k = 4 := by omega
  rcases h5 with rfl | rfl | rfl | rfl | rfl
  · exact ⟨_, List.mem_cons_self, fun _ => rfl⟩
  · exact ⟨_, List.mem_cons_of_mem _ List.mem_cons_self, fun _ => rfl⟩
  · exact ⟨_, List.mem_cons_of_mem _ (List.mem_cons_of_mem _ List.mem_cons_self), fun _ => rfl⟩
  · exact ⟨_, List.mem_cons_of_mem _ (List.mem_cons_of_mem _ (List.mem_cons_of_mem _ List.mem_cons_self)), fun _ => rfl⟩
  · exact ⟨_, List.mem_cons_of_mem _ (List.mem_cons_of_mem _ (List.mem_cons_of_mem _ (List.mem_cons_of_mem _ List.mem_cons_self))), fun _ => rfl⟩
theorem lit_drew {w w' : World} {g : Nat} (xs : List ByteArray) {t : TypeId} (hg : (w.alloc (.cells (xs.map Value.string).toArray t)).drew.grownBy w' (some g)) (hne : g < w.heap.size) {k : Int} (h0 : 0 ≤ k) (hk : k < xs.length) :
    ∃ x : ByteArray, x ∈ xs ∧ w'.cell? ⟨w.heap.size, k.toNat, none⟩ = some (.string x) := by
  have hg' : (w.alloc (.cells (xs.map Value.string).toArray t)).grownBy w' (some g) := (grown_drewN (World.grownBy.refl _ _) 1).trans hg
  exact lit_str xs hg' hne h0 hk
theorem text_last {w w4 w' : World} {g u u' : Nat} {o : Obj} (h : w.grownBy w4 (some g)) (hr : Rd w' g u) (hg : (w4.alloc o).drew.grownBy w' (some g)) (hu : u ≤ u') : Rd w' g u' ∧ w.grownBy w' (some g) :=
  ⟨hr.more hu, (grown_drewN (grown_alloc h _) 1).trans hg⟩
theorem text_last2 {w w4 w' : World} {g u u' : Nat} (h : w.grownBy w4 (some g)) (hr : Rd w' g u) (hg : w4.drew.grownBy w' (some g)) (hu : u ≤ u') (o : Obj) : Rd (w'.alloc o) g u' ∧ w.grownBy (w'.alloc o) (some g) :=
  ⟨(hr.more hu).alloc o, grown_alloc ((grown_drewN h 1).trans hg) o⟩

end Go.Proofs.YtpjpbemgjniljaaDoor

namespace Go.Proofs.YtpjpbemgjniljaaDoor
open Go.RowKit

/-- What hands back a slice of numbers of its own. -/
def OwnL (l : List Int) (w : World) (e : Ending) (w' : World) : Prop := ∃ v, e = .returned v ∧ Owns w' w.heap.size v l ∧ Below w.heap.size w w'
theorem wrap_pow6p {k : Nat} (h : k < 8) : wrap64 ((2 : Int) ^ k) = ((2 ^ k : Nat) : Int) := by
  have : 2 ^ k ≤ 2 ^ 7 := Nat.pow_le_pow_right (by omega) (by omega)
  have e : (2 : Int) ^ k = ((2 ^ k : Nat) : Int) := by push_cast; rfl
  rw [e]
  obtain ⟨p, hp⟩ : ∃ p, 2 ^ k = p := ⟨_, rfl⟩
  rw [hp] at this ⊢
  exact IntWalk.wrap64_in _ ⟨by omega, by omega⟩
theorem and_zero {u x : Int} (hu : 0 ≤ u) (hu2 : u < 256) (hx : 0 ≤ x) (hx2 : x < 256) (b : Bool) (h : decide (andI u x = 0) = b) : (bits .and .i64 u x != 0) = !b := by
  rw [bits_and u x hu (by omega) hx (by omega), ← h, bne]; rfl
theorem andI_comm6 (a b : Int) : andI a b = andI b a := by unfold andI; rw [Nat.and_comm]
theorem iWithin_is6 {a b : Int} {v : Bool} (h : Hid (withinB a b = v)) (ha : 0 ≤ a) (ha2 : a < 256) (hb : 0 ≤ b) (hb2 : b < 256) (w : World) :
    Calls Tryd.prog 48 #[.int .i64 a, .int .i64 b] w fun e w' => e = .returned (.bool v) ∧ w = w' :=
  (iWithin a b ha (by omega) hb (by omega) w).mono fun _ _ ⟨he, hw⟩ => ⟨he.trans (ret_bool h.out), hw⟩
theorem bits_less {a b : Int} (ha : 0 ≤ a) (ha2 : a < 256) (hb : 0 ≤ b) (hb2 : b < 256) : 0 ≤ bits .andNot .i64 a b ∧ ∀ v, hasW (bits .andNot .i64 a b) v = (hasW a v && !hasW b v) := by
  obtain ⟨a, rfl⟩ : ∃ m : Nat, a = m := ⟨a.toNat, by omega⟩
  obtain ⟨b, rfl⟩ : ∃ m : Nat, b = m := ⟨b.toNat, by omega⟩
  have e : bits .andNot .i64 (a : Int) (b : Int) = ((a &&& (2 ^ 64 - (b + 1)) : Nat) : Int) := by
    have hx : a &&& (2 ^ 64 - (b + 1)) ≤ a := Nat.and_le_left
    show IntKind.i64.wrap ((BitVec.ofInt 64 (a : Int) &&& ~~~BitVec.ofInt 64 (b : Int)).toNat : Int) = _
    rw [BitVec.toNat_and, BitVec.toNat_not, BitVec.ofInt_natCast, BitVec.ofInt_natCast, BitVec.toNat_ofNat, BitVec.toNat_ofNat, Nat.mod_eq_of_lt (by omega), Nat.mod_eq_of_lt (by omega), IntKind.wrap_i64,
      show 2 ^ 64 - 1 - b = 2 ^ 64 - (b + 1) by omega]
    omega
  rw [e]
  refine ⟨Int.natCast_nonneg _, fun v => ?_⟩
  unfold hasW
  rw [Int.toNat_natCast, Int.toNat_natCast, Int.toNat_natCast, Nat.testBit_and, Nat.testBit_two_pow_sub_succ (show b < 2 ^ 64 by omega)]
  by_cases hv : v < 64
  · simp [hv]
  · have : a.testBit v = false := Nat.testBit_lt_two_pow (by
      have : 2 ^ 8 ≤ 2 ^ v := Nat.pow_le_pow_right (by omega) (by omega)
      omega)
    rw [this]; rfl

def stateB (t : Int) (xs : List Int) : Bool := xs.all (setOkB t) && decide (1 ≤ t ∧ t ≤ 3) && decide (xs.length ≤ 70)
theorem asks_state (t : Int) (xs : List Int) : asksL t xs = if stateB t xs = true then tidyL (partsX t xs) else [] := rfl
theorem state_empty (t : Int) : stateB t [] = decide (0 < worldsOf t) := by
  unfold stateB
  by_cases h : 1 ≤ t ∧ t ≤ 3
  · have : t = 1 ∨ t = 2 ∨ t = 3 := by omega
    rcases this with rfl | rfl | rfl <;> rfl
  · rw [decide_eq_false h, worldsOf_bad (by omega)]; rfl
theorem state_parts {t : Int} {xs : List Int} (h : 0 < xs.length) : stateB t xs = partsOkB t xs := by
  unfold stateB partsOkB
  cases xs with
  | nil => simp at h
  | cons x r =>
    cases hx : setOkB t x
    · simp [hx]
    · have := setOkB_lt hx
      rw [Bool.eq_iff_iff]
      simp only [Bool.and_eq_true, decide_eq_true_eq, List.length_cons]
      constructor
      · rintro ⟨⟨h1, _⟩, h3⟩; simp_all
      · intro h2; simp_all
theorem state_of {t : Int} {xs : List Int} (h : stateB t xs = true) : 1 ≤ t ∧ t ≤ 3 ∧ (∀ x ∈ xs, setOkB t x = true) ∧ xs.length ≤ 70 := by
  unfold stateB at h
  simp only [Bool.and_eq_true, decide_eq_true_eq, List.all_eq_true] at h
  exact ⟨h.1.2.1, h.1.2.2, h.1.1, h.2⟩
theorem part_zero (t : Int) (h1 : 1 ≤ t) (h3 : t ≤ 3) (w : Nat) : partOf t [] w = allOf t := by
  refine has_ext (Int.natCast_nonneg _) (allOf_lt t).1 fun v => ?_
  rw [part_has]
  by_cases hv : v < nWorlds t
  · rw [decide_eq_true hv, has_all h1 h3 hv]; rfl
  · rw [decide_eq_false hv]
    cases e : hasW (allOf t) v
    · rfl
    · exact absurd (has_lt h1 h3 (allOf_lt t).1 (Int.le_refl _) e) hv
theorem same_next {xs : List Int} {k : Nat} {x : Int} (hx : Hid (xs[k]? = some x)) (v w : Nat) : sameIn (xs.take (k + 1)) v w = (sameIn (xs.take k) v w && (hasW x v == hasW x w)) := by
  unfold sameIn; rw [take_snoc hx, List.all_append]; simp
theorem part_yes {t : Int} {xs : List Int} {k w : Nat} {x : Int} (h1 : 1 ≤ t) (h3 : t ≤ 3) (hx : Hid (xs[k]? = some x)) (hs : setOkB t x = true) (hw : hasW x w = true) : bits .and .i64 (partOf t (xs.take k) w) x = partOf t (xs.take (k + 1)) w := by
  have hp := setOkB_lt (part_ok (sets := xs.take k) h1 h3 w)
  have hx2 := setOkB_lt hs
  rw [bits_and _ _ hp.2.2.1 (by omega) hx2.2.2.1 (by omega)]
  refine has_ext (andI_nonneg _ _) (Int.natCast_nonneg _) fun v => ?_
  rw [has_and, part_has, part_has, same_next hx, hw, Bool.and_assoc]
  congr 2
  cases hasW x v <;> rfl
theorem part_not {t : Int} {xs : List Int} {k w : Nat} {x : Int} (h1 : 1 ≤ t) (h3 : t ≤ 3) (hx : Hid (xs[k]? = some x)) (hs : setOkB t x = true) (hw : hasW x w = false) : bits .andNot .i64 (partOf t (xs.take k) w) x = partOf t (xs.take (k + 1)) w := by
  have hp := setOkB_lt (part_ok (sets := xs.take k) h1 h3 w)
  have hx2 := setOkB_lt hs
  obtain ⟨h0, hb⟩ := bits_less hp.2.2.1 (by omega) hx2.2.2.1 (by omega)
  refine has_ext h0 (Int.natCast_nonneg _) fun v => ?_
  rw [hb, part_has, part_has, same_next hx, hw, Bool.and_assoc]
  congr 2
  cases hasW x v <;> rfl

/-- How far the program's joining has come. -/
def JoinTo (sets : List Int) (x0 y z : Int) : Prop := (y = 0 ∧ z = x0) ∨ ∃ n, y = joinN sets n x0 ∧ z = joinStep sets y
theorem JoinTo.start (sets : List Int) (x0 : Int) : JoinTo sets x0 0 x0 := .inl ⟨rfl, rfl⟩
theorem JoinTo.at_ {sets : List Int} {x0 y z : Int} (h : JoinTo sets x0 y z) : ∃ n, z = joinN sets n x0 := by
  rcases h with ⟨_, rfl⟩ | ⟨n, rfl, rfl⟩
  · exact ⟨0, rfl⟩
  · exact ⟨n + 1, (joinN_succ sets n x0).symm⟩
theorem JoinTo.next {sets : List Int} {x0 y z : Int} (h : JoinTo sets x0 y z) : JoinTo sets x0 z (joinStep sets z) := by
  obtain ⟨n, hn⟩ := h.at_
  exact .inr ⟨n, hn, rfl⟩
theorem JoinTo.done {sets : List Int} {x0 z : Int} (h0 : 0 < x0) (hp : ∀ s ∈ sets, 0 ≤ s) (h : JoinTo sets x0 z z) : z = leadI sets x0 := by
  rcases h with ⟨h1, h2⟩ | ⟨n, h1, h2⟩
  · omega
  · exact lead_fix (by omega) hp ⟨n, h1⟩ h2.symm
def passes6 (z y : Int) : Nat := 2 * (256 - z.toNat) + if z = y then 0 else 1
theorem within_le6 {a b : Int} (_ha : 0 ≤ a) (hb : 0 ≤ b) (h : withinB a b = true) : a ≤ b := by
  have := of_decide_eq_true h
  have h2 := andI_le' a b hb
  omega
theorem passes6_less {sets : List Int} {y z : Int} (hz : 0 ≤ z) (hz2 : joinStep sets z < 256) (hne : z ≠ y) : passes6 (joinStep sets z) z < passes6 z y := by
  have hle := within_le6 hz (join_pos sets z hz) (join_ge sets z hz)
  unfold passes6
  rw [if_neg hne]
  split
  · rename_i e; rw [e]; omega
  · omega

end Go.Proofs.YtpjpbemgjniljaaDoor

namespace Go.Proofs.YtpjpbemgjniljaaDoor
open Go.RowKit

theorem len_top : ∀ n : Fin 256, ∀ k : Fin 8, decide (Lib.bitLen n.val = k.val + 1) = decide (2 ^ k.val ≤ n.val ∧ n.val < 2 ^ (k.val + 1)) := by decide +kernel
theorem len_last {x : Int} {k : Nat} (h0 : 0 ≤ x) (h1 : x < 256) (hk : k < 8) : ((Lib.bitLen x.toNat : Int) == (k : Int) + 1) = lastB x k := by
  have := len_top ⟨x.toNat, by omega⟩ ⟨k, hk⟩
  rw [decide_eq_decide] at this
  unfold lastB
  rw [Bool.eq_iff_iff, beq_iff_eq, decide_eq_true_eq]
  constructor
  · intro h
    have := this.1 (by show Lib.bitLen x.toNat = k + 1; omega)
    simp only at this
    omega
  · intro h
    have := this.2 (by show 2 ^ k ≤ x.toNat ∧ x.toNat < 2 ^ (k + 1); omega)
    simp only at this
    omega
end Go.Proofs.YtpjpbemgjniljaaDoor

namespace Go.Proofs.YtpjpbemgjniljaaDoor
open Go.RowKit

theorem asks_yes {t : Int} {xs : List Int} (h : stateB t xs = true) : asksL t xs = tidyL (partsP t (partOf t xs)) := by rw [asks_state, if_pos h, partsX_eq]
theorem asks_no {t : Int} {xs : List Int} (h : stateB t xs = false) : asksL t xs = [] := by rw [asks_state, if_neg (by rw [h]; simp)]
theorem asks_len (t : Int) (xs : List Int) : (asksL t xs).length ≤ 8 := by
  cases h : stateB t xs
  · rw [asks_no h]; exact Nat.zero_le _
  · obtain ⟨h1, h3, _⟩ := state_of h
    rw [asks_yes h, ← parted_tidy h1 h3 (partOf_pmap h1 h3)]
    refine Nat.le_trans (partedTo_len _ _) ?_
    have : t = 1 ∨ t = 2 ∨ t = 3 := by omega
    rcases this with rfl | rfl | rfl <;> decide
theorem coarser_no {t : Int} {a b : List Int} (h : (isPartB t a && isPartB t b) = false) : coarserL t a b = [] := by unfold coarserL; rw [h]; rfl
theorem coarser_len (t : Int) (a b : List Int) : (coarserL t a b).length ≤ 8 := by
  cases h : (isPartB t a && isPartB t b)
  · rw [coarser_no h]; exact Nat.zero_le _
  · rw [Bool.and_eq_true] at h
    obtain ⟨h1, h3⟩ := part_things h.1
    rw [coarser_eq h.1 h.2, ← parted_tidy h1 h3 (two_pmap h.1 h.2)]
    refine Nat.le_trans (partedTo_len _ _) ?_
    have : t = 1 ∨ t = 2 ∨ t = 3 := by omega
    rcases this with rfl | rfl | rfl <;> decide
theorem box_cells (w : World) (u v : Value) (a b : TypeId) : ((w.alloc (.cells #[u] a)).alloc (.cells #[v] b)).cell? ⟨w.heap.size, 0, none⟩ = some u ∧ ((w.alloc (.cells #[u] a)).alloc (.cells #[v] b)).cell? ⟨w.heap.size + 1, 0, none⟩ = some v := by
  constructor
  · rw [World.cell?_alloc_past _ _ _ (by simp), World.cell?_alloc_at _ _ _ _ rfl]; rfl
  · rw [World.cell?_alloc_at _ _ _ _ (by simp)]; rfl

theorem box_slice (W : World) (v : Value) (t : TypeId) : (W.alloc (.cells #[v] t)).cell? ⟨W.heap.size, 0, none⟩ = some v := by rw [World.cell?_alloc_at _ _ _ _ rfl]; rfl
def answerI (t : Int) (xs : List Int) (u : Int) : Int := if (isPartB t xs && decide (0 ≤ u ∧ u < worldsOf t)) = true then (xs.find? fun x => hasW x u.toNat).getD (-1) else -1
theorem find_at {xs : List Int} {p : Int → Bool} {x : Int} (h : xs.find? p = some x) : ∃ j : Nat, xs[j]? = some x ∧ p x = true ∧ ∀ i y, i < j → xs[i]? = some y → p y = false := by
  rw [List.find?_eq_some_iff_getElem] at h
  obtain ⟨hp, j, hj, e, hm⟩ := h
  refine ⟨j, by rw [List.getElem?_eq_getElem hj, e], hp, fun i y hi hy => ?_⟩
  have hil : i < xs.length := by omega
  rw [List.getElem?_eq_getElem hil] at hy
  cases hy
  simpa using hm i hi
theorem iWorldsOf_is {t v : Int} (h : Hid (worldsOf t = v)) (w : World) : Calls Tryd.prog 20 #[.int .i64 t] w fun e w' => e = .returned (.int .i64 v) ∧ w = w' :=
  (iWorldsOf t w).mono fun _ _ ⟨he, hw⟩ => ⟨he.trans (ret_int h.out), hw⟩
theorem quiet_eqp {P : Program} {f : FuncId} {args : Array Value} {w : World} {n : Nat} {v : Value} (h : Calls P f args (w.drewN n) fun e w' => e = .returned v ∧ w.drewN n = w') :
    Calls P f args (w.drewN n) fun e w'' => e = .returned v ∧ ∃ m, w'' = w.drewN m := h.mono fun _ _ ⟨he, hm⟩ => ⟨he, n, hm.symm⟩
theorem box_one (w : World) (v : Value) (t : TypeId) : (w.alloc (.cells #[v] t)).cell? ⟨w.heap.size, 0, none⟩ = some v := by rw [World.cell?_alloc_at _ _ _ _ rfl]; rfl
end Go.Proofs.YtpjpbemgjniljaaDoor
