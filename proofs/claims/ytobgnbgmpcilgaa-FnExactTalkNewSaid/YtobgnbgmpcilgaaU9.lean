/-
  What the proofs of this seat's statements share (Rds, Iss, Imp, Sho, BoxO).
-/
import Derived.Defers
import Derived.Recover
import Derived.Laws.Pointers
import Derived.Lib.IndexAny
import Derived.Deep.RegionHeld3
import Derived.RangeFuncBox
import Derived.Test.YtobgnbgmpcilgaaU8
import Derived.Test.YtobgnbgmpcilgaaU7
import Derived.Test.YtobgnbgmpcilgaaU2

namespace Go.Proofs.Ytobgnbgmpcilgaa
open Go.RowKit

def nothing : Value := .tuple #[.pointer none, .bool false]
theorem box_set {W : World} {B : Nat} {t : TypeId} {v : Value} (h : Boxed W B t v) (u : Value) {C : Nat} (hne : C ≠ B) : Boxed (W.setCell ⟨C, 0, none⟩ u) B t v :=
  (Below.heap_setCell _ _ _ _ (fun e => hne e.symm)).trans h

def startsOf (n : Nat) : ByteArray := ⟨#[48, 49, 33, 63, 40]⟩ ++ (⟨#[97, 98, 99]⟩ : ByteArray).extract 0 n
theorem starts_ok (n : Nat) (h1 : 1 ≤ n) (h3 : n ≤ 3) : StOk n (startsOf n) := by
  intro c
  have e : ∀ k : UInt8, c = k ↔ c.toNat = k.toNat := fun k => UInt8.toNat_inj.symm
  have hl : (startsOf n).data.toList = [48, 49, 33, 63, 40] ++ [97, 98, 99].take n := by
    have : n = 1 ∨ n = 2 ∨ n = 3 := by omega
    rcases this with rfl | rfl | rfl <;> rfl
  rw [hl, Bool.eq_iff_iff]
  unfold startB
  have : n = 1 ∨ n = 2 ∨ n = 3 := by omega
  rcases this with rfl | rfl | rfl <;> simp [e] <;> omega
theorem senOf_none {t : Int} {l : List Nat} (h1 : 1 ≤ t) (h3 : t ≤ 3) (hl : l.length ≤ 60) (h : readS t l.length l = none) : senOf t l = none := by
  unfold senOf; rw [if_pos ⟨h1, h3, hl⟩, h]
theorem senOf_more {t : Int} {l : List Nat} {x : Sen} {c : Nat} {r : List Nat} (h1 : 1 ≤ t) (h3 : t ≤ 3) (hl : l.length ≤ 60) (h : readS t l.length l = some (x, c :: r)) : senOf t l = none := by
  unfold senOf; rw [if_pos ⟨h1, h3, hl⟩, h]
theorem senOf_some {t : Int} {l : List Nat} {x : Sen} (h1 : 1 ≤ t) (h3 : t ≤ 3) (hl : l.length ≤ 60) (h : readS t l.length l = some (x, [])) : senOf t l = some x := by
  unfold senOf; rw [if_pos ⟨h1, h3, hl⟩, h]
theorem below_caught {w W w1 : World} {u0 u1 : Value} (hB : Below w.heap.size w W) (hg : W.grownBy w1 (some (w.heap.size + 1 + 1))) : Below w.heap.size w ((w1.setCell ⟨w.heap.size, 0, none⟩ u0).setCell ⟨w.heap.size + 1, 0, none⟩ u1) :=
  ((hB.grown hg hB.size (fun k e => by cases e; omega)).setCell (p := ⟨w.heap.size, 0, none⟩) (Nat.le_refl _) _).setCell (p := ⟨w.heap.size + 1, 0, none⟩) (by show w.heap.size ≤ w.heap.size + 1; omega) _
end Go.Proofs.Ytobgnbgmpcilgaa

namespace Go.Proofs.Ytobgnbgmpcilgaa
open Go.RowKit

def OwnPost (l : List Int) (w : World) (e : Ending) (w' : World) : Prop := ∃ v, e = .returned v ∧ Owns w' w.heap.size v l ∧ Below w.heap.size w w'
theorem statement_ok {t s : Int} (h : setOkB t s = true) : statementL t s = [s] := by unfold statementL; rw [h]; rfl
end Go.Proofs.Ytobgnbgmpcilgaa

namespace Go.Proofs.Ytobgnbgmpcilgaa
open Go.RowKit

def senT (t : Int) (s : ByteArray) : Option Sen := senOf t (bytesN s)
def issueT (t : Int) (s : ByteArray) : List Int := match senT t s with | some x => issueS t x | none => []
def isT (t : Int) (s : ByteArray) : Bool := (senT t s).isSome
def supportsT (t k : Int) (s : ByteArray) : Bool := match senT t s with | some x => setOkB t k && holdsS t x k | none => false
def plainT (t : Int) (s : ByteArray) : Bool := match senT t s with | some x => plainS x | none => false
def trueT (t : Int) (s : ByteArray) : Int := match senT t s with | some x => (trueTo t x (nWorlds t) : Int) | none => -1
def entailsT (t : Int) (s u : ByteArray) : Bool := match senT t s, senT t u with | some x, some y => followsB t (issueS t x) (issueS t y) | _, _ => false
theorem senT_ok {t : Int} {s : ByteArray} {x : Sen} (h : senT t s = some x) : 1 ≤ t ∧ t ≤ 3 ∧ s.size ≤ 60 ∧ senOk t x = true ∧ bytesN s = textS x := by
  have := senOf_iff.1 h
  rwa [bytesN_len] at this
def IssueOfPost (l : List Int) (b : Bool) (w : World) (e : Ending) (w' : World) : Prop := ∃ v, e = .returned (.tuple #[v, .bool b]) ∧ Owns w' w.heap.size v l ∧ Below w.heap.size w w'
theorem issueT_none {t : Int} {s : ByteArray} (h : senT t s = none) : issueT t s = [] ∧ isT t s = false := by unfold issueT isT; rw [h]; exact ⟨rfl, rfl⟩
theorem issueT_some {t : Int} {s : ByteArray} {x : Sen} (h : senT t s = some x) : issueT t s = issueS t x ∧ isT t s = true := by unfold issueT isT; rw [h]; exact ⟨rfl, rfl⟩

theorem indexAny_any : ∀ (l chars : List UInt8), Lib.containsAny l chars = l.any fun b => chars.contains b
  | [], chars => rfl
  | b :: l, chars => by
    have ih := indexAny_any l chars
    have hg := Lib.indexAny_ge chars l
    unfold Lib.containsAny at *
    rw [Lib.indexAny, List.any_cons, ← ih]
    cases h : chars.contains b
    · simp only [Bool.false_eq_true, if_false, Bool.false_or]
      by_cases h2 : Lib.indexAny l chars = -1
      · rw [h2]; rfl
      · have : (Lib.indexAny l chars == -1) = false := by rw [beq_eq_false_iff_ne]; exact h2
        rw [this]
        simp only [Bool.false_eq_true, if_false, decide_eq_decide]
        omega
    · simp
def askB (c : Nat) : Bool := decide (c = 124) || decide (c = 63)
theorem text_plain {t : Int} (h3 : t ≤ 3) : ∀ x : Sen, senOk t x = true → (textS x).any askB = !plainS x
  | .one, _ => rfl
  | .zero, _ => rfl
  | .thing i, h => by
    have : (i : Int) < t := of_decide_eq_true h
    simp [textS, plainS, askB]; omega
  | .no x, h => by
    have := text_plain h3 x h
    simp only [textS, plainS, List.any_cons, this]; rfl
  | .ask x, h => by simp [textS, plainS, askB]
  | .and_ x y, h => by
    unfold senOk at h
    rw [Bool.and_eq_true] at h
    have e1 := text_plain h3 x h.1
    have e2 := text_plain h3 y h.2
    simp only [textS, plainS, List.any_cons, List.any_append, e1, e2, List.any_nil, Bool.not_and]
    simp [askB]
  | .or_ x y, h => by simp [textS, plainS, askB]
  | .if_ x y, h => by
    unfold senOk at h
    rw [Bool.and_eq_true] at h
    have e1 := text_plain h3 x h.1
    have e2 := text_plain h3 y h.2
    simp only [textS, plainS, List.any_cons, List.any_append, e1, e2, List.any_nil, Bool.not_and]
    simp [askB]
theorem text_ascii {t : Int} (h3 : t ≤ 3) : ∀ x : Sen, senOk t x = true → ∀ c ∈ textS x, c < 128
  | .one, _ => by simp [textS]
  | .zero, _ => by simp [textS]
  | .thing i, h => by
    have : (i : Int) < t := of_decide_eq_true h
    simp [textS]; omega
  | .no x, h => by
    have := text_ascii h3 x h
    intro c hc; rcases List.mem_cons.1 hc with rfl | hc
    · omega
    · exact this c hc
  | .ask x, h => by
    have := text_ascii h3 x h
    intro c hc; rcases List.mem_cons.1 hc with rfl | hc
    · omega
    · exact this c hc
  | .and_ x y, h => by
    unfold senOk at h
    rw [Bool.and_eq_true] at h
    have e1 := text_ascii h3 x h.1
    have e2 := text_ascii h3 y h.2
    intro c hc
    simp only [textS, List.mem_cons, List.mem_append, List.not_mem_nil, or_false] at hc
    rcases hc with rfl | hc | rfl | hc | rfl <;> first | omega | exact e1 c hc | exact e2 c hc
  | .or_ x y, h => by
    unfold senOk at h
    rw [Bool.and_eq_true] at h
    have e1 := text_ascii h3 x h.1
    have e2 := text_ascii h3 y h.2
    intro c hc
    simp only [textS, List.mem_cons, List.mem_append, List.not_mem_nil, or_false] at hc
    rcases hc with rfl | hc | rfl | hc | rfl <;> first | omega | exact e1 c hc | exact e2 c hc
  | .if_ x y, h => by
    unfold senOk at h
    rw [Bool.and_eq_true] at h
    have e1 := text_ascii h3 x h.1
    have e2 := text_ascii h3 y h.2
    intro c hc
    simp only [textS, List.mem_cons, List.mem_append, List.not_mem_nil, or_false] at hc
    rcases hc with rfl | hc | rfl | hc | rfl <;> first | omega | exact e1 c hc | exact e2 c hc
theorem sen_contains {t : Int} {s : ByteArray} {x : Sen} (h : senT t s = some x) : Lib.containsAny s.data.toList (ByteArray.mk #[124, 63]).data.toList = !plainS x := by
  obtain ⟨h1, h3, _, hok, ht⟩ := senT_ok h
  rw [indexAny_any, ← text_plain h3 x hok, ← ht]
  unfold bytesN
  rw [List.any_map]
  congr 1
  funext c
  have e : ∀ k : UInt8, c = k ↔ c.toNat = k.toNat := fun k => UInt8.toNat_inj.symm
  rw [Bool.eq_iff_iff]
  simp [askB, e]
theorem sen_ascii {t : Int} {s : ByteArray} {x : Sen} (h : senT t s = some x) : ∀ (j : Nat) b, s.data.toList[j]? = some b → b.toNat < 128 := by
  obtain ⟨h1, h3, _, hok, ht⟩ := senT_ok h
  intro j b hb
  refine text_ascii h3 x hok _ ?_
  rw [← ht]
  unfold bytesN
  exact List.mem_map.2 ⟨b, List.mem_of_getElem? hb, rfl⟩
theorem trueTo_lt (t : Int) (x : Sen) : ∀ k, k ≤ 8 → trueTo t x k < 2 ^ k
  | 0, _ => by simp [trueTo]
  | k + 1, h => by
    have := trueTo_lt t x k (by omega)
    unfold trueTo
    rw [Nat.pow_succ]
    split <;> omega
theorem true_or {t : Int} {x : Sen} {k : Nat} (hk : k ≤ 7) (h : holdsS t x (worldS k) = true) : trueTo t x k ||| 2 ^ k = trueTo t x (k + 1) := by
  have := trueTo_lt t x k (by omega)
  conv => rhs; unfold trueTo
  have e := Nat.two_pow_add_eq_or_of_lt this 1
  rw [Nat.mul_one] at e
  rw [if_pos h, Nat.or_comm, ← e, Nat.add_comm]
theorem true_skip {t : Int} {x : Sen} {k : Nat} (h : holdsS t x (worldS k) = false) : trueTo t x k = trueTo t x (k + 1) := by
  conv => rhs; unfold trueTo
  rw [if_neg (by rw [h]; decide)]; rfl

end Go.Proofs.Ytobgnbgmpcilgaa

namespace Go.Proofs.Ytobgnbgmpcilgaa
open Go.RowKit

def SHold (t : Int) (s : ByteArray) (x : Sen) (rest : List Nat) (m : Nat) (w : World) (e : Ending) (w' : World) : Prop :=
  ∃ a2 : Nat, e = .returned (.tuple #[.bool (holdsS t x m), .int .i64 a2]) ∧ a2 ≤ s.size ∧ (bytesN s).drop a2 = rest ∧ ∃ q, w' = w.drewN q
def allTo (f : Nat → Bool) (k : Nat) : Bool := (List.range k).all f
theorem allTo_succ (f : Nat → Bool) (k : Nat) : allTo f (k + 1) = (allTo f k && f k) := by
  unfold allTo; rw [List.range_succ, List.all_append]; simp
theorem allTo_zero (f : Nat → Bool) : allTo f 0 = true := rfl
theorem hasW_div (m k : Nat) : hasW (m : Int) k = decide (m / 2 ^ k % 2 = 1) := by
  unfold hasW; rw [Int.toNat_natCast, Nat.testBit_eq_decide_div_mod_eq]
theorem has_walk {m k : Nat} {b : Bool} (h : hasW (m : Int) k = b) : (((m : Int) / 2 ^ k).tmod 2 == 0) = !b := by
  have e4 : (2 : Int) ^ k = ((2 ^ k : Nat) : Int) := by push_cast; rfl
  rw [e4, tmod2_nat]
  rw [hasW_div] at h
  subst h
  rcases Nat.mod_two_eq_zero_or_one (m / 2 ^ k) with h | h <;> rw [h] <;> rfl
theorem bit_walk (i k : Nat) (d : Int) (hd : d = ((2 ^ i : Nat) : Int)) : ((k : Int) / d % 2 == 1) = bitOf (97 + i) k := by
  subst hd
  rw [show (k : Int) / ((2 ^ i : Nat) : Int) % 2 = ((k / 2 ^ i % 2 : Nat) : Int) by push_cast; rfl]
  unfold bitOf
  rw [decide_eq_false (by omega : ¬ 97 + i = 49), decide_eq_false (by omega : ¬ 97 + i = 48), show 97 + i - 97 = i by omega]
  rcases Nat.mod_two_eq_zero_or_one (k / 2 ^ i) with h | h <;> rw [h] <;> rfl
theorem wordTo_bit (c : Nat) : ∀ n w, (wordTo c n).testBit w = (decide (w < n) && bitOf c w)
  | 0, w => by simp [wordTo]
  | n + 1, w => by
    have ih := wordTo_bit c n w
    unfold wordTo
    rw [Nat.testBit_or, ih]
    by_cases e : w = n
    · subst e
      cases h : bitOf c w
      · simp
      · simp
    · have h2 : (if bitOf c n = true then 2 ^ n else 0).testBit w = false := by
        split
        · rw [Nat.testBit_two_pow]; simp; omega
        · simp
      rw [h2]
      cases bitOf c w
      · simp
      · simp; omega
theorem thing_all {t : Int} {i m : Nat} (h1 : 1 ≤ t) (h3 : t ≤ 3) (hi : (i : Int) < t) (hm : (m : Int) ≤ allOf t) : holdsS t (.thing i) m = allTo (fun w => !hasW (m : Int) w || bitOf (97 + i) w) (nWorlds t) := by
  show withinB (m : Int) (letterSet t i) = _
  rw [← word_thing h1 h3 hi, Bool.eq_iff_iff, within_iff (by omega)]
  unfold allTo
  rw [List.all_eq_true]
  constructor
  · intro h w hw
    have := h w
    rw [Int.toNat_natCast, Int.toNat_natCast, wordTo_bit] at this
    unfold hasW
    rw [Int.toNat_natCast]
    cases hb : m.testBit w
    · rfl
    · have := this hb
      rw [Bool.and_eq_true] at this
      rw [this.2]; rfl
  · intro h w hb
    have hlt := has_lt h1 h3 (s := (m : Int)) (by omega) hm (w := w) hb
    have := h w (List.mem_range.2 hlt)
    unfold hasW at this
    rw [hb] at this
    rw [Int.toNat_natCast, wordTo_bit, decide_eq_true hlt]
    simpa using this


set_option maxRecDepth 100000 in
set_option maxHeartbeats 4000000 in
theorem sHo_one (t : Int) (s : ByteArray) (at_ m : Nat) (w : World) (hs : s.size ≤ 1048576) (hat : at_ < s.size) (hc : s[at_].toNat = 49) : Calls Try.prog 94 #[.int .i64 t, .string s, .int .i64 at_, .int .i64 m] w (SHold t s .one ((bytesN s).drop (at_ + 1)) m w) := by
  have hd : (at_ : Int) < (s.size : Int) := by omega
  have hd0 : (0 : Int) ≤ (at_ : Int) := by omega
  go_enter Try.func94, Try.ntmps94
  go_wp2_with fail
  go_ret2
  exact ⟨at_ + 1, rfl, hat, rfl, 0, rfl⟩
set_option maxRecDepth 100000 in
set_option maxHeartbeats 4000000 in
theorem sHo_zero (t : Int) (s : ByteArray) (at_ m : Nat) (w : World) (hs : s.size ≤ 1048576) (hat : at_ < s.size) (hc : s[at_].toNat = 48) : Calls Try.prog 94 #[.int .i64 t, .string s, .int .i64 at_, .int .i64 m] w (SHold t s .zero ((bytesN s).drop (at_ + 1)) m w) := by
  have hd : (at_ : Int) < (s.size : Int) := by omega
  have hd0 : (0 : Int) ≤ (at_ : Int) := by omega
  have he : ((m : Int) == 0) = holdsS t .zero m := rfl
  obtain ⟨b, HB⟩ : ∃ b, Hid (holdsS t .zero m = b) := ⟨_, rfl⟩
  rw [HB.out] at he
  go_enter Try.func94, Try.ntmps94
  go_wp2_with fail
  go_ret2
  exact ⟨at_ + 1, by rw [HB.out]; rfl, hat, rfl, 0, rfl⟩

set_option maxRecDepth 100000 in
set_option maxHeartbeats 8000000 in
theorem sHo_thing (t : Int) (s : ByteArray) (at_ m : Nat) (w : World) (hs : s.size ≤ 1048576) (i : Nat) (hat : at_ < s.size) (hc : s[at_].toNat = 97 + i) (h1 : 1 ≤ t) (h3 : t ≤ 3) (hi : (i : Int) < t) (hm : (m : Int) ≤ allOf t) :
    Calls Try.prog 94 #[.int .i64 t, .string s, .int .i64 at_, .int .i64 m] w (SHold t s (.thing i) ((bytesN s).drop (at_ + 1)) m w) := by
  have hd : (at_ : Int) < (s.size : Int) := by omega
  have hd0 : (0 : Int) ≤ (at_ : Int) := by omega
  have HF := Lib.hid (thing_all h1 h3 hi hm)
  have h : (t = 1 ∧ i = 0) ∨ (t = 2 ∧ i = 0) ∨ (t = 2 ∧ i = 1) ∨ (t = 3 ∧ i = 0) ∨ (t = 3 ∧ i = 1) ∨ (t = 3 ∧ i = 2) := by omega
  have hm256 : m < 256 := by have := (allOf_lt t).2; omega
  clear h1 h3 hi hm
  rcases h with ⟨rfl, rfl⟩ | ⟨rfl, rfl⟩ | ⟨rfl, rfl⟩ | ⟨rfl, rfl⟩ | ⟨rfl, rfl⟩ | ⟨rfl, rfl⟩
  · have hc : s[at_].toNat = 97 := hc
    have HF : Hid (holdsS 1 (.thing 0) m = allTo (fun w => !hasW (m : Int) w || bitOf 97 w) 2) := HF.out
    obtain ⟨F, HFF⟩ : ∃ F : Nat → Bool, Hid ((fun w => !hasW (m : Int) w || bitOf 97 w) = F) := ⟨_, rfl⟩
    rw [HFF.out] at HF
    have HS := Lib.hid (allTo_succ F)
    go_enter Try.func94, Try.ntmps94
    go_wp2_with fail
    go_loop [10, 11] (fun v i => ∃ k : Nat, k ≤ 2 ∧ i = .int .i64 k ∧ v = .bool (allTo F k)) (fun _ i => 2 - (Go.RowKit.intOf i).toNat)
    case atStart => exact ⟨0, Nat.zero_le _, rfl, rfl⟩
    case round =>
      obtain ⟨k, hk, rfl, rfl⟩ := hrel
      by_cases hlt : k < 2
      · have HK := Lib.hid (HS.out k)
        have HW := Lib.hid (congrFun HFF.out k)
        obtain ⟨y, HY⟩ : ∃ y, Hid (allTo F k = y) := ⟨_, rfl⟩
        obtain ⟨hb, HHB⟩ : ∃ y, Hid (hasW (m : Int) k = y) := ⟨_, rfl⟩
        have hwk := has_walk HHB.out
        have h8 : k = 0 ∨ k = 1 ∨ k = 2 ∨ k = 3 ∨ k = 4 ∨ k = 5 ∨ k = 6 ∨ k = 7 := by omega
        rw [HY.out]
        clear hk
        cases y
        · clear hwk h8
          go_wp2_with fail
          refine ⟨⟨k + 1, by omega, by go_num, by rw [HK.out, HY.out]; rfl⟩, ?_⟩
          simp [Go.RowKit.intOf]; omega
        · cases hb
          · have hwk : (((m : Int) / 2 ^ k).tmod 2 == 0) = true := hwk
            clear h8
            go_wp2_with fail
            refine ⟨⟨k + 1, by omega, by go_num, by rw [HK.out, HY.out, ← HW.out, HHB.out]; rfl⟩, ?_⟩
            simp [Go.RowKit.intOf]; omega
          · have hwk : (((m : Int) / 2 ^ k).tmod 2 == 0) = false := hwk
            obtain ⟨v, HV⟩ : ∃ v, Hid (bitOf 97 k = v) := ⟨_, rfl⟩
            have hb1 : ((k : Int) / 1 % 2 == 1) = v := by rw [← HV.out]; exact bit_walk 0 k 1 rfl
            try rw [Int.ediv_one] at hb1
            clear h8
            go_wp2_with fail
            refine ⟨⟨k + 1, by omega, by go_num, by rw [HK.out, HY.out, ← HW.out, HHB.out, HV.out]; rfl⟩, ?_⟩
            simp [Go.RowKit.intOf]; omega
      · obtain rfl : k = 2 := by omega
        go_wp2_with fail
        go_ret2
        exact ⟨at_ + 1, by rw [HF.out]; rfl, hat, rfl, 0, rfl⟩
  · have hc : s[at_].toNat = 97 := hc
    have HF : Hid (holdsS 2 (.thing 0) m = allTo (fun w => !hasW (m : Int) w || bitOf 97 w) 4) := HF.out
    obtain ⟨F, HFF⟩ : ∃ F : Nat → Bool, Hid ((fun w => !hasW (m : Int) w || bitOf 97 w) = F) := ⟨_, rfl⟩
    rw [HFF.out] at HF
    have HS := Lib.hid (allTo_succ F)
    go_enter Try.func94, Try.ntmps94
    go_wp2_with fail
    go_loop [10, 11] (fun v i => ∃ k : Nat, k ≤ 4 ∧ i = .int .i64 k ∧ v = .bool (allTo F k)) (fun _ i => 4 - (Go.RowKit.intOf i).toNat)
    case atStart => exact ⟨0, Nat.zero_le _, rfl, rfl⟩
    case round =>
      obtain ⟨k, hk, rfl, rfl⟩ := hrel
      by_cases hlt : k < 4
      · have HK := Lib.hid (HS.out k)
        have HW := Lib.hid (congrFun HFF.out k)
        obtain ⟨y, HY⟩ : ∃ y, Hid (allTo F k = y) := ⟨_, rfl⟩
        obtain ⟨hb, HHB⟩ : ∃ y, Hid (hasW (m : Int) k = y) := ⟨_, rfl⟩
        have hwk := has_walk HHB.out
        have h8 : k = 0 ∨ k = 1 ∨ k = 2 ∨ k = 3 ∨ k = 4 ∨ k = 5 ∨ k = 6 ∨ k = 7 := by omega
        rw [HY.out]
        clear hk
        cases y
        · clear hwk h8
          go_wp2_with fail
          refine ⟨⟨k + 1, by omega, by go_num, by rw [HK.out, HY.out]; rfl⟩, ?_⟩
          simp [Go.RowKit.intOf]; omega
        · cases hb
          · have hwk : (((m : Int) / 2 ^ k).tmod 2 == 0) = true := hwk
            clear h8
            go_wp2_with fail
            refine ⟨⟨k + 1, by omega, by go_num, by rw [HK.out, HY.out, ← HW.out, HHB.out]; rfl⟩, ?_⟩
            simp [Go.RowKit.intOf]; omega
          · have hwk : (((m : Int) / 2 ^ k).tmod 2 == 0) = false := hwk
            obtain ⟨v, HV⟩ : ∃ v, Hid (bitOf 97 k = v) := ⟨_, rfl⟩
            have hb1 : ((k : Int) / 1 % 2 == 1) = v := by rw [← HV.out]; exact bit_walk 0 k 1 rfl
            try rw [Int.ediv_one] at hb1
            clear h8
            go_wp2_with fail
            refine ⟨⟨k + 1, by omega, by go_num, by rw [HK.out, HY.out, ← HW.out, HHB.out, HV.out]; rfl⟩, ?_⟩
            simp [Go.RowKit.intOf]; omega
      · obtain rfl : k = 4 := by omega
        go_wp2_with fail
        go_ret2
        exact ⟨at_ + 1, by rw [HF.out]; rfl, hat, rfl, 0, rfl⟩
  · have hc : s[at_].toNat = 98 := hc
    have HF : Hid (holdsS 2 (.thing 1) m = allTo (fun w => !hasW (m : Int) w || bitOf 98 w) 4) := HF.out
    obtain ⟨F, HFF⟩ : ∃ F : Nat → Bool, Hid ((fun w => !hasW (m : Int) w || bitOf 98 w) = F) := ⟨_, rfl⟩
    rw [HFF.out] at HF
    have HS := Lib.hid (allTo_succ F)
    go_enter Try.func94, Try.ntmps94
    go_wp2_with fail
    go_loop [10, 11] (fun v i => ∃ k : Nat, k ≤ 4 ∧ i = .int .i64 k ∧ v = .bool (allTo F k)) (fun _ i => 4 - (Go.RowKit.intOf i).toNat)
    case atStart => exact ⟨0, Nat.zero_le _, rfl, rfl⟩
    case round =>
      obtain ⟨k, hk, rfl, rfl⟩ := hrel
      by_cases hlt : k < 4
      · have HK := Lib.hid (HS.out k)
        have HW := Lib.hid (congrFun HFF.out k)
        obtain ⟨y, HY⟩ : ∃ y, Hid (allTo F k = y) := ⟨_, rfl⟩
        obtain ⟨hb, HHB⟩ : ∃ y, Hid (hasW (m : Int) k = y) := ⟨_, rfl⟩
        have hwk := has_walk HHB.out
        have h8 : k = 0 ∨ k = 1 ∨ k = 2 ∨ k = 3 ∨ k = 4 ∨ k = 5 ∨ k = 6 ∨ k = 7 := by omega
        rw [HY.out]
        clear hk
        cases y
        · clear hwk h8
          go_wp2_with fail
          refine ⟨⟨k + 1, by omega, by go_num, by rw [HK.out, HY.out]; rfl⟩, ?_⟩
          simp [Go.RowKit.intOf]; omega
        · cases hb
          · have hwk : (((m : Int) / 2 ^ k).tmod 2 == 0) = true := hwk
            clear h8
            go_wp2_with fail
            refine ⟨⟨k + 1, by omega, by go_num, by rw [HK.out, HY.out, ← HW.out, HHB.out]; rfl⟩, ?_⟩
            simp [Go.RowKit.intOf]; omega
          · have hwk : (((m : Int) / 2 ^ k).tmod 2 == 0) = false := hwk
            obtain ⟨v, HV⟩ : ∃ v, Hid (bitOf 98 k = v) := ⟨_, rfl⟩
            have hb1 : ((k : Int) / 2 % 2 == 1) = v := by rw [← HV.out]; exact bit_walk 1 k 2 rfl
            try rw [Int.ediv_one] at hb1
            clear h8
            go_wp2_with fail
            refine ⟨⟨k + 1, by omega, by go_num, by rw [HK.out, HY.out, ← HW.out, HHB.out, HV.out]; rfl⟩, ?_⟩
            simp [Go.RowKit.intOf]; omega
      · obtain rfl : k = 4 := by omega
        go_wp2_with fail
        go_ret2
        exact ⟨at_ + 1, by rw [HF.out]; rfl, hat, rfl, 0, rfl⟩
  · have hc : s[at_].toNat = 97 := hc
    have HF : Hid (holdsS 3 (.thing 0) m = allTo (fun w => !hasW (m : Int) w || bitOf 97 w) 8) := HF.out
    obtain ⟨F, HFF⟩ : ∃ F : Nat → Bool, Hid ((fun w => !hasW (m : Int) w || bitOf 97 w) = F) := ⟨_, rfl⟩
    rw [HFF.out] at HF
    have HS := Lib.hid (allTo_succ F)
    go_enter Try.func94, Try.ntmps94
    go_wp2_with fail
    go_loop [10, 11] (fun v i => ∃ k : Nat, k ≤ 8 ∧ i = .int .i64 k ∧ v = .bool (allTo F k)) (fun _ i => 8 - (Go.RowKit.intOf i).toNat)
    case atStart => exact ⟨0, Nat.zero_le _, rfl, rfl⟩
    case round =>
      obtain ⟨k, hk, rfl, rfl⟩ := hrel
      by_cases hlt : k < 8
      · have HK := Lib.hid (HS.out k)
        have HW := Lib.hid (congrFun HFF.out k)
        obtain ⟨y, HY⟩ : ∃ y, Hid (allTo F k = y) := ⟨_, rfl⟩
        obtain ⟨hb, HHB⟩ : ∃ y, Hid (hasW (m : Int) k = y) := ⟨_, rfl⟩
        have hwk := has_walk HHB.out
        have h8 : k = 0 ∨ k = 1 ∨ k = 2 ∨ k = 3 ∨ k = 4 ∨ k = 5 ∨ k = 6 ∨ k = 7 := by omega
        rw [HY.out]
        clear hk
        cases y
        · clear hwk h8
          go_wp2_with fail
          refine ⟨⟨k + 1, by omega, by go_num, by rw [HK.out, HY.out]; rfl⟩, ?_⟩
          simp [Go.RowKit.intOf]; omega
        · cases hb
          · have hwk : (((m : Int) / 2 ^ k).tmod 2 == 0) = true := hwk
            clear h8
            go_wp2_with fail
            refine ⟨⟨k + 1, by omega, by go_num, by rw [HK.out, HY.out, ← HW.out, HHB.out]; rfl⟩, ?_⟩
            simp [Go.RowKit.intOf]; omega
          · have hwk : (((m : Int) / 2 ^ k).tmod 2 == 0) = false := hwk
            obtain ⟨v, HV⟩ : ∃ v, Hid (bitOf 97 k = v) := ⟨_, rfl⟩
            have hb1 : ((k : Int) / 1 % 2 == 1) = v := by rw [← HV.out]; exact bit_walk 0 k 1 rfl
            try rw [Int.ediv_one] at hb1
            clear h8
            go_wp2_with fail
            refine ⟨⟨k + 1, by omega, by go_num, by rw [HK.out, HY.out, ← HW.out, HHB.out, HV.out]; rfl⟩, ?_⟩
            simp [Go.RowKit.intOf]; omega
      · obtain rfl : k = 8 := by omega
        go_wp2_with fail
        go_ret2
        exact ⟨at_ + 1, by rw [HF.out]; rfl, hat, rfl, 0, rfl⟩
  · have hc : s[at_].toNat = 98 := hc
    have HF : Hid (holdsS 3 (.thing 1) m = allTo (fun w => !hasW (m : Int) w || bitOf 98 w) 8) := HF.out
    obtain ⟨F, HFF⟩ : ∃ F : Nat → Bool, Hid ((fun w => !hasW (m : Int) w || bitOf 98 w) = F) := ⟨_, rfl⟩
    rw [HFF.out] at HF
    have HS := Lib.hid (allTo_succ F)
    go_enter Try.func94, Try.ntmps94
    go_wp2_with fail
    go_loop [10, 11] (fun v i => ∃ k : Nat, k ≤ 8 ∧ i = .int .i64 k ∧ v = .bool (allTo F k)) (fun _ i => 8 - (Go.RowKit.intOf i).toNat)
    case atStart => exact ⟨0, Nat.zero_le _, rfl, rfl⟩
    case round =>
      obtain ⟨k, hk, rfl, rfl⟩ := hrel
      by_cases hlt : k < 8
      · have HK := Lib.hid (HS.out k)
        have HW := Lib.hid (congrFun HFF.out k)
        obtain ⟨y, HY⟩ : ∃ y, Hid (allTo F k = y) := ⟨_, rfl⟩
        obtain ⟨hb, HHB⟩ : ∃ y, Hid (hasW (m : Int) k = y) := ⟨_, rfl⟩
        have hwk := has_walk HHB.out
        have h8 : k = 0 ∨ k = 1 ∨ k = 2 ∨ k = 3 ∨ k = 4 ∨ k = 5 ∨ k = 6 ∨ k = 7 := by omega
        rw [HY.out]
        clear hk
        cases y
        · clear hwk h8
          go_wp2_with fail
          refine ⟨⟨k + 1, by omega, by go_num, by rw [HK.out, HY.out]; rfl⟩, ?_⟩
          simp [Go.RowKit.intOf]; omega
        · cases hb
          · have hwk : (((m : Int) / 2 ^ k).tmod 2 == 0) = true := hwk
            clear h8
            go_wp2_with fail
            refine ⟨⟨k + 1, by omega, by go_num, by rw [HK.out, HY.out, ← HW.out, HHB.out]; rfl⟩, ?_⟩
            simp [Go.RowKit.intOf]; omega
          · have hwk : (((m : Int) / 2 ^ k).tmod 2 == 0) = false := hwk
            obtain ⟨v, HV⟩ : ∃ v, Hid (bitOf 98 k = v) := ⟨_, rfl⟩
            have hb1 : ((k : Int) / 2 % 2 == 1) = v := by rw [← HV.out]; exact bit_walk 1 k 2 rfl
            try rw [Int.ediv_one] at hb1
            clear h8
            go_wp2_with fail
            refine ⟨⟨k + 1, by omega, by go_num, by rw [HK.out, HY.out, ← HW.out, HHB.out, HV.out]; rfl⟩, ?_⟩
            simp [Go.RowKit.intOf]; omega
      · obtain rfl : k = 8 := by omega
        go_wp2_with fail
        go_ret2
        exact ⟨at_ + 1, by rw [HF.out]; rfl, hat, rfl, 0, rfl⟩
  · have hc : s[at_].toNat = 99 := hc
    have HF : Hid (holdsS 3 (.thing 2) m = allTo (fun w => !hasW (m : Int) w || bitOf 99 w) 8) := HF.out
    obtain ⟨F, HFF⟩ : ∃ F : Nat → Bool, Hid ((fun w => !hasW (m : Int) w || bitOf 99 w) = F) := ⟨_, rfl⟩
    rw [HFF.out] at HF
    have HS := Lib.hid (allTo_succ F)
    go_enter Try.func94, Try.ntmps94
    go_wp2_with fail
    go_loop [10, 11] (fun v i => ∃ k : Nat, k ≤ 8 ∧ i = .int .i64 k ∧ v = .bool (allTo F k)) (fun _ i => 8 - (Go.RowKit.intOf i).toNat)
    case atStart => exact ⟨0, Nat.zero_le _, rfl, rfl⟩
    case round =>
      obtain ⟨k, hk, rfl, rfl⟩ := hrel
      by_cases hlt : k < 8
      · have HK := Lib.hid (HS.out k)
        have HW := Lib.hid (congrFun HFF.out k)
        obtain ⟨y, HY⟩ : ∃ y, Hid (allTo F k = y) := ⟨_, rfl⟩
        obtain ⟨hb, HHB⟩ : ∃ y, Hid (hasW (m : Int) k = y) := ⟨_, rfl⟩
        have hwk := has_walk HHB.out
        have h8 : k = 0 ∨ k = 1 ∨ k = 2 ∨ k = 3 ∨ k = 4 ∨ k = 5 ∨ k = 6 ∨ k = 7 := by omega
        rw [HY.out]
        clear hk
        cases y
        · clear hwk h8
          go_wp2_with fail
          refine ⟨⟨k + 1, by omega, by go_num, by rw [HK.out, HY.out]; rfl⟩, ?_⟩
          simp [Go.RowKit.intOf]; omega
        · cases hb
          · have hwk : (((m : Int) / 2 ^ k).tmod 2 == 0) = true := hwk
            clear h8
            go_wp2_with fail
            refine ⟨⟨k + 1, by omega, by go_num, by rw [HK.out, HY.out, ← HW.out, HHB.out]; rfl⟩, ?_⟩
            simp [Go.RowKit.intOf]; omega
          · have hwk : (((m : Int) / 2 ^ k).tmod 2 == 0) = false := hwk
            obtain ⟨v, HV⟩ : ∃ v, Hid (bitOf 99 k = v) := ⟨_, rfl⟩
            have hb1 : ((k : Int) / 4 % 2 == 1) = v := by rw [← HV.out]; exact bit_walk 2 k 4 rfl
            try rw [Int.ediv_one] at hb1
            clear h8
            go_wp2_with fail
            refine ⟨⟨k + 1, by omega, by go_num, by rw [HK.out, HY.out, ← HW.out, HHB.out, HV.out]; rfl⟩, ?_⟩
            simp [Go.RowKit.intOf]; omega
      · obtain rfl : k = 8 := by omega
        go_wp2_with fail
        go_ret2
        exact ⟨at_ + 1, by rw [HF.out]; rfl, hat, rfl, 0, rfl⟩
end Go.Proofs.Ytobgnbgmpcilgaa

namespace Go.Proofs.Ytobgnbgmpcilgaa
open Go.RowKit

/-- Block b is a variable of type T that holds cs. -/
def Box (W : World) (b : Nat) (T : TypeId) (cs : List Value) : Prop := W.heap[b]? = some (.cells cs.toArray T (0, 0))
section
variable {W W' : World} {b : Nat} {T : TypeId} {cs : List Value}
theorem Box.new (W : World) (T : TypeId) (cs : List Value) : Box (W.alloc (.cells cs.toArray T)) W.heap.size T cs := World.alloc_heap_new W _
theorem Box.lt (h : Box W b T cs) : b < W.heap.size := (Array.getElem?_eq_some_iff.1 h).1
theorem Box.alloc (h : Box W b T cs) (o : Obj) : Box (W.alloc o) b T cs := (Below.heap_alloc W o b h.lt).trans h
theorem Box.grown {g : Nat} (h : Box W b T cs) (hg : W.grownBy W' (some g)) (hne : g ≠ b) : Box W' b T cs :=
  (hg.block b h.lt (by simp; omega)).trans h
theorem Box.below (h : Box W b T cs) (hb : Below W.heap.size W W') : Box W' b T cs := (hb.block b h.lt).trans h
theorem Box.drewN (h : Box W b T cs) (n : Nat) : Box (W.drewN n) b T cs := h
theorem Box.drew (h : Box W b T cs) : Box W.drew b T cs := h
theorem Box.cell (h : Box W b T cs) {i : Nat} {v : Value} (hv : cs[i]? = some v) : W.cell? ⟨b, i, none⟩ = some v := by
  unfold Box at h
  simp [World.cell?, h, hv]
theorem Box.frozen (h : Box W b T cs) (i : Nat) : W.frozen? ⟨b, i, none⟩ = false := by
  unfold Box at h
  simp [World.frozen?, h]
theorem Box.set (h : Box W b T cs) (i : Nat) (v : Value) : Box (W.setCell ⟨b, i, none⟩ v) b T (cs.set i v) := by
  unfold Box at *
  simp [World.setCell, Array.getElem?_modify, h]
theorem Box.other {a i : Nat} (h : Box W b T cs) (hne : a ≠ b) (v : Value) : Box (W.setCell ⟨a, i, none⟩ v) b T cs :=
  (Below.heap_setCell W ⟨a, i, none⟩ v b (fun e => hne e.symm)).trans h
/-- What a store of two cells asks and leaves. -/
theorem Box.store2 {x y : Value} (h : Box W b T [x, y]) (u v : Value) :
    (W.cell? ⟨b, 0, none⟩ = some x ∧ W.cell? ⟨b, 1, none⟩ = some y ∧ W.frozen? ⟨b, 0, none⟩ = false ∧ W.frozen? ⟨b, 1, none⟩ = false) ∧
    ((W.setCell ⟨b, 0, none⟩ u).cell? ⟨b, 1, none⟩ = some y ∧ (W.setCell ⟨b, 0, none⟩ u).frozen? ⟨b, 1, none⟩ = false) ∧
    Hid (Box ((W.setCell ⟨b, 0, none⟩ u).setCell ⟨b, 1, none⟩ v) b T [u, v]) :=
  ⟨⟨h.cell rfl, h.cell rfl, h.frozen 0, h.frozen 1⟩, ⟨(h.set 0 u).cell rfl, (h.set 0 u).frozen 1⟩, (h.set 0 u).set 1 v⟩
theorem Box.store4 {x y z p : Value} (h : Box W b T [x, y, z, p]) (u v r q : Value) :
    (W.cell? ⟨b, 0, none⟩ = some x ∧ W.cell? ⟨b, 1, none⟩ = some y ∧ W.cell? ⟨b, 2, none⟩ = some z ∧ W.cell? ⟨b, 3, none⟩ = some p ∧ W.frozen? ⟨b, 0, none⟩ = false ∧ W.frozen? ⟨b, 1, none⟩ = false ∧ W.frozen? ⟨b, 2, none⟩ = false ∧ W.frozen? ⟨b, 3, none⟩ = false) ∧
    ((W.setCell ⟨b, 0, none⟩ u).cell? ⟨b, 1, none⟩ = some y ∧ (W.setCell ⟨b, 0, none⟩ u).frozen? ⟨b, 1, none⟩ = false) ∧
    (((W.setCell ⟨b, 0, none⟩ u).setCell ⟨b, 1, none⟩ v).cell? ⟨b, 2, none⟩ = some z ∧ ((W.setCell ⟨b, 0, none⟩ u).setCell ⟨b, 1, none⟩ v).frozen? ⟨b, 2, none⟩ = false) ∧
    ((((W.setCell ⟨b, 0, none⟩ u).setCell ⟨b, 1, none⟩ v).setCell ⟨b, 2, none⟩ r).cell? ⟨b, 3, none⟩ = some p ∧ (((W.setCell ⟨b, 0, none⟩ u).setCell ⟨b, 1, none⟩ v).setCell ⟨b, 2, none⟩ r).frozen? ⟨b, 3, none⟩ = false) ∧
    Hid (Box ((((W.setCell ⟨b, 0, none⟩ u).setCell ⟨b, 1, none⟩ v).setCell ⟨b, 2, none⟩ r).setCell ⟨b, 3, none⟩ q) b T [u, v, r, q]) :=
  ⟨⟨h.cell rfl, h.cell rfl, h.cell rfl, h.cell rfl, h.frozen 0, h.frozen 1, h.frozen 2, h.frozen 3⟩, ⟨(h.set 0 u).cell rfl, (h.set 0 u).frozen 1⟩, ⟨((h.set 0 u).set 1 v).cell rfl, ((h.set 0 u).set 1 v).frozen 2⟩, ⟨(((h.set 0 u).set 1 v).set 2 r).cell rfl, (((h.set 0 u).set 1 v).set 2 r).frozen 3⟩, (((h.set 0 u).set 1 v).set 2 r).set 3 q⟩
end
theorem Box.grownO {W W' : World} {b : Nat} {T : TypeId} {cs : List Value} {row : Option Nat} (h : Box W b T cs) (hg : W.grownBy W' row) (hne : ∀ k, row = some k → k ≠ b) : Box W' b T cs :=
  (hg.block b h.lt (fun e => hne b e.symm rfl)).trans h
theorem Box.other2 {W : World} {b g : Nat} {T : TypeId} {cs : List Value} (h : Box W b T cs) (hne : g ≠ b) (u v : Value) : Box ((W.setCell ⟨g, 0, none⟩ u).setCell ⟨g, 1, none⟩ v) b T cs := (h.other hne u).other hne v
theorem Box.other4 {W : World} {b g : Nat} {T : TypeId} {cs : List Value} (h : Box W b T cs) (hne : g ≠ b) (u v r q : Value) : Box ((((W.setCell ⟨g, 0, none⟩ u).setCell ⟨g, 1, none⟩ v).setCell ⟨g, 2, none⟩ r).setCell ⟨g, 3, none⟩ q) b T cs := (((h.other hne u).other hne v).other hne r).other hne q
theorem bel_set2 {B : Nat} {w W : World} {b : Nat} (h : Below B w W) (hb : B ≤ b) (u v : Value) : Below B w ((W.setCell ⟨b, 0, none⟩ u).setCell ⟨b, 1, none⟩ v) :=
  (h.setCell (p := ⟨b, 0, none⟩) hb _).setCell (p := ⟨b, 1, none⟩) hb _
theorem bel_set4 {B : Nat} {w W : World} {b : Nat} (h : Below B w W) (hb : B ≤ b) (u v r q : Value) : Below B w ((((W.setCell ⟨b, 0, none⟩ u).setCell ⟨b, 1, none⟩ v).setCell ⟨b, 2, none⟩ r).setCell ⟨b, 3, none⟩ q) :=
  (((h.setCell (p := ⟨b, 0, none⟩) hb _).setCell (p := ⟨b, 1, none⟩) hb _).setCell (p := ⟨b, 2, none⟩) hb _).setCell (p := ⟨b, 3, none⟩) hb _
/-- Results that lie in a variable: alone, with a second result behind. -/
theorem results_deed {fn : Func} {r : Tmp} (h : fn.results = #[.cell r 24]) {tmps : Array Value} {w : World} {b : Nat} {x y : Value} (ht : tmps.getD r undef = .pointer (some ⟨b, 0, none⟩))
   (hb : Hid (Box w b 24 [x, y])) : (results fn tmps).run Try.prog w = .ok (.agg #[x, y]) w := by
  have ht : tmps[r]?.getD undef = .pointer (some ⟨b, 0, none⟩) := by simpa using ht
  have hc0 := hb.out.cell (i := 0) (v := x) rfl
  have hc1 := hb.out.cell (i := 1) (v := y) rfl
  simp [results, h, ht, go_sem, hc0, hc1]
theorem results_deedB {fn : Func} {r q : Tmp} (h : fn.results = #[.cell r 24, .tmp q]) {tmps : Array Value} {w : World} {b : Nat} {x y v : Value} (ht : tmps.getD r undef = .pointer (some ⟨b, 0, none⟩)) (hv : tmps.getD q undef = v)
   (hb : Hid (Box w b 24 [x, y])) : (results fn tmps).run Try.prog w = .ok (.tuple #[.agg #[x, y], v]) w := by
  have ht : tmps[r]?.getD undef = .pointer (some ⟨b, 0, none⟩) := by simpa using ht
  have hv : tmps[q]?.getD undef = v := by simpa using hv
  have hc0 := hb.out.cell (i := 0) (v := x) rfl
  have hc1 := hb.out.cell (i := 1) (v := y) rfl
  simp [results, h, ht, hv, go_sem, hc0, hc1]
theorem results_state {fn : Func} {r : Tmp} (h : fn.results = #[.cell r 40]) {tmps : Array Value} {w : World} {b : Nat} {x y : Value} (ht : tmps.getD r undef = .pointer (some ⟨b, 0, none⟩))
   (hb : Hid (Box w b 40 [x, y])) : (results fn tmps).run Try.prog w = .ok (.agg #[x, y]) w := by
  have ht : tmps[r]?.getD undef = .pointer (some ⟨b, 0, none⟩) := by simpa using ht
  have hc0 := hb.out.cell (i := 0) (v := x) rfl
  have hc1 := hb.out.cell (i := 1) (v := y) rfl
  simp [results, h, ht, go_sem, hc0, hc1]
theorem results_talk {fn : Func} {r : Tmp} (h : fn.results = #[.cell r 43]) {tmps : Array Value} {w : World} {b : Nat} {x y z p : Value} (ht : tmps.getD r undef = .pointer (some ⟨b, 0, none⟩))
   (hb : Hid (Box w b 43 [x, y, z, p])) : (results fn tmps).run Try.prog w = .ok (.agg #[x, y, z, p]) w := by
  have ht : tmps[r]?.getD undef = .pointer (some ⟨b, 0, none⟩) := by simpa using ht
  have hc0 := hb.out.cell (i := 0) (v := x) rfl
  have hc1 := hb.out.cell (i := 1) (v := y) rfl
  have hc2 := hb.out.cell (i := 2) (v := z) rfl
  have hc3 := hb.out.cell (i := 3) (v := p) rfl
  simp [results, h, ht, go_sem, hc0, hc1, hc2, hc3]
theorem results_talkB {fn : Func} {r q : Tmp} (h : fn.results = #[.cell r 43, .tmp q]) {tmps : Array Value} {w : World} {b : Nat} {x y z p v : Value} (ht : tmps.getD r undef = .pointer (some ⟨b, 0, none⟩)) (hv : tmps.getD q undef = v)
   (hb : Hid (Box w b 43 [x, y, z, p])) : (results fn tmps).run Try.prog w = .ok (.tuple #[.agg #[x, y, z, p], v]) w := by
  have ht : tmps[r]?.getD undef = .pointer (some ⟨b, 0, none⟩) := by simpa using ht
  have hv : tmps[q]?.getD undef = v := by simpa using hv
  have hc0 := hb.out.cell (i := 0) (v := x) rfl
  have hc1 := hb.out.cell (i := 1) (v := y) rfl
  have hc2 := hb.out.cell (i := 2) (v := z) rfl
  have hc3 := hb.out.cell (i := 3) (v := p) rfl
  simp [results, h, ht, hv, go_sem, hc0, hc1, hc2, hc3]
end Go.Proofs.Ytobgnbgmpcilgaa
