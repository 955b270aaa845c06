/-
  What the proofs of this seat's statements share (Srd, Sre, Srf, Srg, Sho, Shp, Shq, Spc, Spd, Shl, BndA, BndB).
-/
import Derived.Deep.QuietTactic
import Derived.Deep.RegionHeld3
import Derived.Test.YtannpnhboeopdaaDoorU14
import Derived.Test.YtannpnhboeopdaaDoorU7
import Derived.Test.YtannpnhboeopdaaDoorU9
import Derived.Test.YtannpnhboeopdaaDoorU2

namespace Go.Proofs.YtannpnhboeopdaaDoor
open Go.RowKit

def SNone (w : World) (e : Ending) (w' : World) : Prop := ∃ A n c, e = .returned (.tuple #[.slice A n c, .bool false, .int .i64 (-1)]) ∧ Below w.heap.size w w'
def SSome (t : Int) (s : ByteArray) (x : Sen) (rest : List Nat) (w : World) (e : Ending) (w' : World) : Prop :=
  ∃ v, ∃ a2 : Nat, e = .returned (.tuple #[v, .bool (plainS x), .int .i64 a2]) ∧ a2 ≤ s.size ∧ (bytesN s).drop a2 = rest ∧ Owns w' w.heap.size v (issueS t x) ∧ Below w.heap.size w w'
def SRead (t : Int) (s : ByteArray) (o : Option (Sen × List Nat)) (w : World) (e : Ending) (w' : World) : Prop :=
  match o with
  | some (x, rest) => SSome t s x rest w e w'
  | none => SNone w e w'
def OwnPost3 (g at_ : Nat) (w : World) (e : Ending) (w' : World) : Prop := ∃ v, e = .returned (.tuple #[v, .bool true, .int .i64 ((at_ + 1 : Nat) : Int)]) ∧ Owns w' w.heap.size v [(g : Int)] ∧ Below w.heap.size w w'
end Go.Proofs.YtannpnhboeopdaaDoor

namespace Go.Proofs.YtannpnhboeopdaaDoor
open Go.RowKit


end Go.Proofs.YtannpnhboeopdaaDoor

namespace Go.Proofs.YtannpnhboeopdaaDoor
open Go.RowKit


end Go.Proofs.YtannpnhboeopdaaDoor

namespace Go.Proofs.YtannpnhboeopdaaDoor
open Go.RowKit

end Go.Proofs.YtannpnhboeopdaaDoor

namespace Go.Proofs.YtannpnhboeopdaaDoor
open Go.RowKit

def SHold (t : Int) (s : ByteArray) (x : Sen) (rest : List Nat) (m : Nat) (w : World) (e : Ending) (w' : World) : Prop :=
  ∃ a2 : Nat, e = .returned (.tuple #[.bool (holdsS t x m), .int .i64 a2]) ∧ a2 ≤ s.size ∧ (bytesN s).drop a2 = rest ∧ ∃ q, w' = w.drewN q
def allTo (f : Nat → Bool) (k : Nat) : Bool := (List.range k).all f
theorem allTo_succ (f : Nat → Bool) (k : Nat) : allTo f (k + 1) = (allTo f k && f k) := by
  unfold allTo; rw [List.range_succ, List.all_append]; simp
theorem allTo_zero (f : Nat → Bool) : allTo f 0 = true := rfl
theorem hasW_div (m k : Nat) : hasW (m : Int) k = decide (m / 2 ^ k % 2 = 1) := by
  unfold hasW; rw [Int.toNat_natCast, Nat.testBit_eq_decide_div_mod_eq]
theorem has_walk {m k : Nat} {b : Bool} (h : hasW (m : Int) k = b) : (((m : Int) / 2 ^ k).tmod 2 == 0) = !b := by
  have e4 : (2 : Int) ^ k = ((2 ^ k : Nat) : Int) := by push_cast; rfl
  rw [e4, tmod2_nat]
  rw [hasW_div] at h
  subst h
  rcases Nat.mod_two_eq_zero_or_one (m / 2 ^ k) with h | h <;> rw [h] <;> rfl
theorem bit_walk (i k : Nat) (d : Int) (hd : d = ((2 ^ i : Nat) : Int)) : ((k : Int) / d % 2 == 1) = bitOf (97 + i) k := by
  subst hd
  rw [show (k : Int) / ((2 ^ i : Nat) : Int) % 2 = ((k / 2 ^ i % 2 : Nat) : Int) by push_cast; rfl]
  unfold bitOf
  rw [decide_eq_false (by omega : ¬ 97 + i = 49), decide_eq_false (by omega : ¬ 97 + i = 48), show 97 + i - 97 = i by omega]
  rcases Nat.mod_two_eq_zero_or_one (k / 2 ^ i) with h | h <;> rw [h] <;> rfl
theorem wordTo_bit (c : Nat) : ∀ n w, (wordTo c n).testBit w = (decide (w < n) && bitOf c w)
  | 0, w => by simp [wordTo]
  | n + 1, w => by
    have ih := wordTo_bit c n w
    unfold wordTo
    rw [Nat.testBit_or, ih]
    by_cases e : w = n
    · subst e
      cases h : bitOf c w
      · simp
      · simp
    · have h2 : (if bitOf c n = true then 2 ^ n else 0).testBit w = false := by
        split
        · rw [Nat.testBit_two_pow]; simp; omega
        · simp
      rw [h2]
      cases bitOf c w
      · simp
      · simp; omega
theorem thing_all {t : Int} {i m : Nat} (h1 : 1 ≤ t) (h3 : t ≤ 3) (hi : (i : Int) < t) (hm : (m : Int) ≤ allOf t) : holdsS t (.thing i) m = allTo (fun w => !hasW (m : Int) w || bitOf (97 + i) w) (nWorlds t) := by
  show withinB (m : Int) (letterSet t i) = _
  rw [← word_thing h1 h3 hi, Bool.eq_iff_iff, within_iff (by omega)]
  unfold allTo
  rw [List.all_eq_true]
  constructor
  · intro h w hw
    have := h w
    rw [Int.toNat_natCast, Int.toNat_natCast, wordTo_bit] at this
    unfold hasW
    rw [Int.toNat_natCast]
    cases hb : m.testBit w
    · rfl
    · have := this hb
      rw [Bool.and_eq_true] at this
      rw [this.2]; rfl
  · intro h w hb
    have hlt := has_lt h1 h3 (s := (m : Int)) (by omega) hm (w := w) hb
    have := h w (List.mem_range.2 hlt)
    unfold hasW at this
    rw [hb] at this
    rw [Int.toNat_natCast, wordTo_bit, decide_eq_true hlt]
    simpa using this


end Go.Proofs.YtannpnhboeopdaaDoor

namespace Go.Proofs.YtannpnhboeopdaaDoor
open Go.RowKit

theorem two_pow_cast (k : Nat) : (2 : Int) ^ k = ((2 ^ k : Nat) : Int) := by push_cast; rfl
theorem wrap_pow {k : Nat} (h : k < 8) : wrap64 ((2 : Int) ^ k) = ((2 ^ k : Nat) : Int) := by
  have : 2 ^ k ≤ 2 ^ 7 := Nat.pow_le_pow_right (by omega) (by omega)
  rw [two_pow_cast]
  obtain ⟨p, hp⟩ : ∃ p, 2 ^ k = p := ⟨_, rfl⟩
  rw [hp] at this ⊢
  exact IntWalk.wrap64_in _ ⟨by omega, by omega⟩
def NoneF (t : Int) (x : Sen) (m : Nat) (w : Nat) : Bool := !hasW (m : Int) w || !holdsS t x (worldS w)
theorem no_all (t : Int) (x : Sen) (m : Nat) : holdsS t (.no x) m = allTo (NoneF t x m) (nWorlds t) := rfl
theorem ask_all (t : Int) (x : Sen) (m : Nat) : holdsS t (.ask x) m = (holdsS t x m || allTo (NoneF t x m) (nWorlds t)) := rfl


end Go.Proofs.YtannpnhboeopdaaDoor

namespace Go.Proofs.YtannpnhboeopdaaDoor
open Go.RowKit

def IfF (t : Int) (x y : Sen) (m : Nat) (u : Nat) : Bool := !withinB (u : Int) (m : Int) || !holdsS t x (u : Int) || holdsS t y (u : Int)
theorem if_all (t : Int) (x y : Sen) (m : Nat) : holdsS t (.if_ x y) m = allTo (IfF t x y m) (m + 1) := by
  show (List.range ((m : Int).toNat + 1)).all _ = _
  rw [Int.toNat_natCast]; rfl

end Go.Proofs.YtannpnhboeopdaaDoor

namespace Go.Proofs.YtannpnhboeopdaaDoor
open Go.RowKit

theorem start_thing {t : Int} {c : Nat} (h : startB t c = true) (e1 : c ≠ 49) (e2 : c ≠ 48) (e3 : c ≠ 33) (e4 : c ≠ 63) (e5 : c ≠ 40) : ∃ i : Nat, c = 97 + i ∧ (i : Int) < t := by
  unfold startB at h
  simp only [Bool.or_eq_true, decide_eq_true_eq] at h
  exact ⟨c - 97, by omega, by omega⟩
theorem read_thing {t : Int} {i k : Nat} {l : List Nat} (hi : (i : Int) < t) : readS t (k + 1) ((97 + i) :: l) = some (.thing i, l) := by
  unfold readS
  rw [if_neg (by omega), if_neg (by omega), if_pos ⟨by omega, by omega⟩]
  congr 3; omega

end Go.Proofs.YtannpnhboeopdaaDoor

namespace Go.Proofs.YtannpnhboeopdaaDoor
open Go.RowKit

theorem senT_bad {t : Int} {s : ByteArray} (h : t < 1 ∨ 3 < t ∨ 60 < s.size) : senT t s = none := by
  unfold senT senOf; rw [if_neg (by rw [bytesN_len]; omega)]
theorem senT_none {t : Int} {s : ByteArray} (h1 : 1 ≤ t) (h3 : t ≤ 3) (hl : s.size ≤ 60) (h : readS t s.size (bytesN s) = none) : senT t s = none :=
  senOf_none h1 h3 (by rw [bytesN_len]; exact hl) (by rw [bytesN_len]; exact h)
theorem senT_more {t : Int} {s : ByteArray} {x : Sen} {c : Nat} {r : List Nat} (h1 : 1 ≤ t) (h3 : t ≤ 3) (hl : s.size ≤ 60) (h : readS t s.size (bytesN s) = some (x, c :: r)) : senT t s = none :=
  senOf_more h1 h3 (by rw [bytesN_len]; exact hl) (by rw [bytesN_len]; exact h)
theorem senT_some {t : Int} {s : ByteArray} {x : Sen} (h1 : 1 ≤ t) (h3 : t ≤ 3) (hl : s.size ≤ 60) (h : readS t s.size (bytesN s) = some (x, [])) : senT t s = some x :=
  senOf_some h1 h3 (by rw [bytesN_len]; exact hl) (by rw [bytesN_len]; exact h)
theorem read_of_sen {t : Int} {s : ByteArray} {x : Sen} (h : senT t s = some x) : readS t s.size (bytesN s) = some (x, []) := by
  obtain ⟨h1, h3, hl, hok, ht⟩ := senT_ok h
  rcases hr : readS t s.size (bytesN s) with _ | ⟨y, _ | ⟨c, r⟩⟩
  · rw [senT_none h1 h3 hl hr] at h; cases h
  · rw [senT_some h1 h3 hl hr] at h; cases h; rfl
  · rw [senT_more h1 h3 hl hr] at h; cases h
theorem isT_none {t : Int} {s : ByteArray} (h : senT t s = none) : isT t s = false := (issueT_none h).2
theorem isT_some {t : Int} {s : ByteArray} {x : Sen} (h : senT t s = some x) : isT t s = true := (issueT_some h).2

theorem supports_world {t : Int} {s : ByteArray} {x : Sen} {k : Nat} (h : senT t s = some x) (hk : k < nWorlds t) : supportsT t ((2 ^ k : Nat) : Int) s = holdsS t x (worldS k) := by
  obtain ⟨h1, h3, _⟩ := senT_ok h
  have := world_ok h1 h3 hk
  unfold supportsT
  rw [h]
  show (setOkB t (worldS k) && _) = _
  rw [setOk_of h1 h3 this.1 this.2]; rfl
theorem true_add {t : Int} {x : Sen} {k : Nat} (h : holdsS t x (worldS k) = true) : trueTo t x k + 2 ^ k = trueTo t x (k + 1) := by
  conv => rhs; unfold trueTo
  rw [if_pos h]

end Go.Proofs.YtannpnhboeopdaaDoor

namespace Go.Proofs.YtannpnhboeopdaaDoor
open Go.RowKit

theorem bytesN_append (a b : ByteArray) : bytesN (a ++ b) = bytesN a ++ bytesN b := by
  unfold bytesN
  rw [ByteArray.data_append, Array.toList_append, List.map_append]
theorem bytesN_lit (l : List UInt8) : bytesN ⟨l.toArray⟩ = l.map UInt8.toNat := rfl
theorem senT_of {t : Int} {s : ByteArray} {x : Sen} (h1 : 1 ≤ t) (h3 : t ≤ 3) (hl : s.size ≤ 60) (hx : senOk t x = true) (hb : bytesN s = textS x) : senT t s = some x :=
  senOf_iff.2 ⟨h1, h3, by rw [bytesN_len]; exact hl, hx, hb⟩
theorem size1 (b : UInt8) : (ByteArray.mk #[b]).size = 1 := rfl
theorem size2 (b c : UInt8) : (ByteArray.mk #[b, c]).size = 2 := rfl
theorem senT_no {t : Int} {s : ByteArray} {x : Sen} (h : senT t s = some x) (hl : s.size < 60) : senT t (⟨#[33]⟩ ++ s) = some (.no x) := by
  obtain ⟨h1, h3, _, hx, hb⟩ := senT_ok h
  refine senT_of h1 h3 (by rw [ByteArray.size_append, size1]; omega) hx ?_
  rw [bytesN_append, hb]; rfl
theorem senT_nono {t : Int} {s : ByteArray} {x : Sen} (h : senT t s = some x) (hl : s.size < 59) : senT t (⟨#[33, 33]⟩ ++ s) = some (.no (.no x)) := by
  obtain ⟨h1, h3, _, hx, hb⟩ := senT_ok h
  refine senT_of h1 h3 (by rw [ByteArray.size_append, size2]; omega) hx ?_
  rw [bytesN_append, hb]; rfl
theorem senT_ask {t : Int} {s : ByteArray} {x : Sen} (h : senT t s = some x) (hl : s.size < 60) : senT t (⟨#[63]⟩ ++ s) = some (.ask x) := by
  obtain ⟨h1, h3, _, hx, hb⟩ := senT_ok h
  refine senT_of h1 h3 (by rw [ByteArray.size_append, size1]; omega) hx ?_
  rw [bytesN_append, hb]; rfl
theorem senT_if {t : Int} {s u : ByteArray} {x y : Sen} (h : senT t s = some x) (hu : senT t u = some y) (hl : s.size + u.size < 58) : senT t (⟨#[40]⟩ ++ s ++ ⟨#[62]⟩ ++ u ++ ⟨#[41]⟩) = some (.if_ x y) := by
  obtain ⟨h1, h3, _, hx, hb⟩ := senT_ok h
  obtain ⟨_, _, _, hy, hc⟩ := senT_ok hu
  refine senT_of h1 h3 (by simp only [ByteArray.size_append, size1]; omega) (by unfold senOk; rw [hx, hy]; rfl) ?_
  simp only [bytesN_append, hb, hc, textS, List.append_assoc]; rfl

theorem issueT_ok {t : Int} {s : ByteArray} {x : Sen} (h : senT t s = some x) : issueOkB t (issueT t s) = true := by
  obtain ⟨h1, h3, _, _, _⟩ := senT_ok h
  rw [(issueT_some h).1]; exact sen_issue h1 h3 x
theorem issueT_len (t : Int) (s : ByteArray) : (issueT t s).length ≤ 70 := by
  rcases h : senT t s with _ | x
  · rw [(issueT_none h).1]; simp
  · exact (issue_ne (issueT_ok h)).2
theorem issueT_nono {t : Int} {s : ByteArray} {x : Sen} (h : senT t s = some x) (hl : s.size < 59) : issueT t (⟨#[33, 33]⟩ ++ s) = [unionI (issueT t s)] := by
  rw [(issueT_some (senT_nono h hl)).1, (issueT_some h).1]
  obtain ⟨h1, h3, _, _, _⟩ := senT_ok h
  exact law_notnot (sen_issue h1 h3 x)
theorem issueT_ask {t : Int} {s : ByteArray} {x : Sen} (h : senT t s = some x) (hl : s.size < 60) : grantedI t (issueT t (⟨#[63]⟩ ++ s)) = allOf t := by
  rw [granted_ok (issueT_ok (senT_ask h hl)), (issueT_some (senT_ask h hl)).1]
  obtain ⟨h1, h3, _, _, _⟩ := senT_ok h
  exact law_whether_all (sen_issue h1 h3 x)
theorem statement_union {t : Int} {xs : List Int} (h : issueOkB t xs = true) : statementL t (unionI xs) = [unionI xs] := by
  unfold statementL; rw [union_ok h]; rfl
theorem supports_settles {t k : Int} {s : ByteArray} {x : Sen} (h : senT t s = some x) (hk : setOkB t k = true) : settlesB t (issueT t s) k = supportsT t k s := by
  obtain ⟨h1, h3, _, _, _⟩ := senT_ok h
  obtain ⟨_, _, h0, ha, _⟩ := setOkB_lt hk
  rw [settles_any (issueT_ok h) h0 ha, (issueT_some h).1, ← support_settle h1 h3 x k h0 ha]
  unfold supportsT
  rw [h]; simp only [hk, Bool.true_and]
theorem supports_down {t k : Int} {s : ByteArray} (h : supportsT t k s = true) (b : Int) : supportsT t (andI k b) s = true := by
  rcases hx : senT t s with _ | x
  · unfold supportsT at h; rw [hx] at h; cases h
  obtain ⟨h1, h3, _, _, _⟩ := senT_ok hx
  have hk : setOkB t k = true := by unfold supportsT at h; rw [hx] at h; simp only [Bool.and_eq_true] at h; exact h.1
  obtain ⟨_, _, h0, ha, _⟩ := setOkB_lt hk
  have hk2 : setOkB t (andI k b) = true := andI_ok hk
  obtain ⟨_, _, g0, ga, _⟩ := setOkB_lt hk2
  rw [← supports_settles hx hk, settles_any (issueT_ok hx) h0 ha] at h
  rw [← supports_settles hx hk2, settles_any (issueT_ok hx) g0 ga]
  exact any_down g0 h0 (within_andI_left k b) h
theorem plain_some {t : Int} {s : ByteArray} (h : plainT t s = true) : ∃ x, senT t s = some x ∧ plainS x = true := by
  unfold plainT at h
  rcases hx : senT t s with _ | x
  · rw [hx] at h; cases h
  · rw [hx] at h; exact ⟨x, rfl, h⟩
theorem trueT_some {t : Int} {s : ByteArray} {x : Sen} (h : senT t s = some x) : trueT t s = unionI (issueT t s) := by
  obtain ⟨h1, h3, _, _, _⟩ := senT_ok h
  unfold trueT; rw [h, (issueT_some h).1]; exact true_granted h1 h3 x
theorem trueT_none {t : Int} {s : ByteArray} (h : senT t s = none) : trueT t s = -1 := by unfold trueT; rw [h]
theorem plain_law {t : Int} {s : ByteArray} (h : plainT t s = true) : statementL t (trueT t s) = issueT t s := by
  obtain ⟨x, hx, hp⟩ := plain_some h
  obtain ⟨h1, h3, _, _, _⟩ := senT_ok hx
  rw [trueT_some hx, statement_union (issueT_ok hx), (issueT_some hx).1]
  exact (plain_granted h1 h3 hp).symm
theorem true_no {t : Int} {s : ByteArray} {x : Sen} (h : senT t s = some x) (hl : s.size < 60) : trueT t (⟨#[33]⟩ ++ s) = allOf t - trueT t s := by
  obtain ⟨h1, h3, _, _, _⟩ := senT_ok h
  have hi := sen_issue h1 h3 x
  rw [trueT_some h, trueT_some (senT_no h hl), (issueT_some (senT_no h hl)).1, (issueT_some h).1]
  show unionI (notL t (issueS t x)) = _
  have := union_all hi
  rw [law_not hi, union_one (by omega)]
theorem true_range {t : Int} {s : ByteArray} {x : Sen} (h : senT t s = some x) : 0 ≤ trueT t s ∧ trueT t s ≤ allOf t := by
  rw [trueT_some h]; exact union_all (issueT_ok h)
theorem entails_some {t : Int} {s u : ByteArray} {x y : Sen} (h : senT t s = some x) (hu : senT t u = some y) : entailsT t s u = followsB t (issueT t s) (issueT t u) := by
  unfold entailsT; rw [h, hu, (issueT_some h).1, (issueT_some hu).1]
theorem entails_within {t : Int} {s u : ByteArray} (h : entailsT t s u = true) : withinB (trueT t s) (trueT t u) = true := by
  rcases hx : senT t s with _ | x
  · unfold entailsT at h; rw [hx] at h; cases h
  rcases hy : senT t u with _ | y
  · unfold entailsT at h; rw [hx, hy] at h; cases h
  rw [entails_some hx hy] at h
  rw [trueT_some hx, trueT_some hy]
  exact follows_union (issueT_ok hx) (issueT_ok hy) h
theorem entails_supports {t : Int} {s u : ByteArray} {x y : Sen} (h : senT t s = some x) (hu : senT t u = some y) (hl : s.size + u.size < 58) :
    supportsT t (allOf t) (⟨#[40]⟩ ++ s ++ ⟨#[62]⟩ ++ u ++ ⟨#[41]⟩) = entailsT t s u := by
  obtain ⟨h1, h3, _, _, _⟩ := senT_ok h
  unfold supportsT
  rw [senT_if h hu hl]
  show (setOkB t (allOf t) && holdsS t (.if_ x y) (allOf t)) = _
  rw [setOk_of h1 h3 (allOf_lt t).1 (Int.le_refl _), Bool.true_and, entails_if h1 h3, entails_some h hu, (issueT_some h).1, (issueT_some hu).1]
theorem entails_no {t : Int} {s u : ByteArray} (h : senT t s = none ∨ senT t u = none) : entailsT t s u = false := by
  unfold entailsT
  rcases h with h | h
  · rw [h]
  · rw [h]; cases senT t s <;> rfl

theorem iIssueOf_is {t : Int} {s : ByteArray} {r : List Int} {b : Bool} (h : Hid (issueT t s = r)) (h2 : Hid (isT t s = b)) (w : World) (hs : s.size ≤ 9223372036854775807) :
    Calls Tryd.prog 18 #[.int .i64 t, .string s] w (IssueOfPost r b w) := by
  have := iIssueOf t s w hs
  rw [h.out, h2.out] at this; exact this
theorem iSupportsT_is {t k : Int} {s : ByteArray} {b : Bool} (h : Hid (supportsT t k s = b)) (w : World) (hs : s.size ≤ 9223372036854775807) :
    Calls Tryd.prog 12 #[.int .i64 t, .int .i64 k, .string s] w fun e w' => e = .returned (.bool b) ∧ Below w.heap.size w w' := by
  have := iSupportsT t k s w hs
  rw [h.out] at this; exact this
end Go.Proofs.YtannpnhboeopdaaDoor

namespace Go.Proofs.YtannpnhboeopdaaDoor
open Go.RowKit

theorem top_worlds {t : Int} (h1 : 1 ≤ t) (h3 : t ≤ 3) : worldsOf t = topT t + 1 := by
  have h : t = 1 ∨ t = 2 ∨ t = 3 := by omega
  rcases h with rfl | rfl | rfl <;> rfl
theorem thingsOk_bad {t f : Int} (h : t < 1 ∨ 3 < t ∨ f < 0) : thingsOk t f = false := decide_eq_false (by omega)
set_option maxHeartbeats 1000000 in
theorem iThingsOk (t f : Int) (w : World) : Calls Tryd.prog 38 #[.int .i64 t, .int .i64 f] w fun e w' => e = .returned (.bool (thingsOk t f)) ∧ w = w' := by
  by_cases h0 : f < 0
  · have hd : decide (0 ≤ f) = false := decide_eq_false (by omega)
    rw [thingsOk_bad (by omega)]
    clear h0
    go_enter Tryd.func38, Tryd.ntmps38
    go_wp2_with fail
    go_ret
    exact ⟨rfl, rfl⟩
  · have hd : decide (0 ≤ f) = true := decide_eq_true (by omega)
    have HV : Hid (decide (f < worldsOf t) = thingsOk t f) := by
      unfold Hid thingsOk
      rw [decide_eq_decide]
      by_cases ht : t < 1 ∨ 3 < t
      · rw [worldsOf_bad ht]; omega
      · rw [top_worlds (by omega) (by omega)]; omega
    clear h0
    go_enter Tryd.func38, Tryd.ntmps38
    go_wp2_with fail
    refine (iWorldsOf _ _).mono ?_
    rintro e w' ⟨rfl, rfl⟩
    go_wp2_with fail
    go_ret
    exact ⟨ret_bool HV.out, rfl⟩
theorem iThingsOk_is {t f : Int} {b : Bool} (h : Hid (thingsOk t f = b)) (w : World) : Calls Tryd.prog 38 #[.int .i64 t, .int .i64 f] w fun e w' => e = .returned (.bool b) ∧ w = w' :=
  (iThingsOk t f w).mono fun _ _ ⟨he, hw⟩ => ⟨he.trans (ret_bool h.out), hw⟩

def BPost (b : Bool) (w : World) (e : Ending) (w' : World) : Prop := e = .returned (.bool b) ∧ Below w.heap.size w w'
set_option maxHeartbeats 1000000 in
theorem iBondOk (t f g : Int) (w : World) : Calls Tryd.prog 17 #[.int .i64 t, .agg #[.int .i64 f, .int .i64 g]] w (BPost (bondOkB t f g) w) := by
  have HE : Hid (bondOkB t f g = (thingsOk t f && thingsOk t g)) := rfl
  obtain ⟨x, HX⟩ : ∃ b, Hid (thingsOk t f = b) := ⟨_, rfl⟩
  obtain ⟨y, HY⟩ : ∃ b, Hid (thingsOk t g = b) := ⟨_, rfl⟩
  rw [HE.out, HX.out, HY.out]
  cases x
  · go_enter Tryd.func17, Tryd.ntmps17
    go_wp2_with fail
    refine (iThingsOk_is HX _).mono ?_
    rintro e w' ⟨rfl, rfl⟩
    go_wp2_with fail
    go_ret
    exact ⟨rfl, (Below.refl _ _).alloc (Nat.le_refl _) _⟩
  · go_enter Tryd.func17, Tryd.ntmps17
    go_wp2_with fail
    refine (iThingsOk_is HX _).mono ?_
    rintro e w' ⟨rfl, rfl⟩
    go_wp2_with fail
    refine (iThingsOk_is HY _).mono ?_
    rintro e w' ⟨rfl, rfl⟩
    go_wp2_with fail
    go_ret
    exact ⟨rfl, (Below.refl _ _).alloc (Nat.le_refl _) _⟩
theorem iBondOk_is {t f g : Int} {b : Bool} (h : Hid (bondOkB t f g = b)) (w : World) : Calls Tryd.prog 17 #[.int .i64 t, .agg #[.int .i64 f, .int .i64 g]] w (BPost b w) := by
  have := iBondOk t f g w
  rw [h.out] at this; exact this

theorem quiet_eq5 {P : Program} {f : FuncId} {args : Array Value} {w : World} {n : Nat} {v : Value} (h : Calls P f args (w.drewN n) fun e w' => e = .returned v ∧ w.drewN n = w') :
    Calls P f args (w.drewN n) fun e w'' => e = .returned v ∧ ∃ m, w'' = w.drewN m := h.mono fun _ _ ⟨he, hm⟩ => ⟨he, n, hm.symm⟩
set_option maxRecDepth 100000 in
set_option maxHeartbeats 4000000 in
theorem sBondOk (t f g : Int) (w : World) : Calls Tryd.prog 10 #[.int .i64 t, .agg #[.int .i64 f, .int .i64 g]] w (BPost (bondOkB t f g) w) := by
  by_cases ht : t < 1 ∨ 3 < t
  · have HB : Hid (inB t 1 3 = false) := decide_eq_false (by omega)
    rw [show bondOkB t f g = false by unfold bondOkB; rw [thingsOk_bad (by omega)]; rfl]
    clear ht
    go_enter Tryd.func10, Tryd.ntmps10
    go_wp2_with fail
    go_quiet ((go_at_call 30; with_reducible exact quiet_eq5 (sIn_is HB _)))
    go_wp2_with fail
    go_ret
    exact ⟨rfl, bel_drewN ((Below.refl _ _).alloc (Nat.le_refl _) _) _⟩
  · have HB : Hid (inB t 1 3 = true) := decide_eq_true (by omega)
    have h : t = 1 ∨ t = 2 ∨ t = 3 := by omega
    clear ht
    rcases h with rfl | rfl | rfl
    · have HE : Hid (bondOkB 1 f g = (inB f 0 1 && inB g 0 1)) := by
        unfold Hid bondOkB thingsOk inB
        rw [Bool.eq_iff_iff]
        simp only [Bool.and_eq_true, decide_eq_true_eq, topT]
        simp
      obtain ⟨x, HX⟩ : ∃ b, Hid (inB f 0 1 = b) := ⟨_, rfl⟩
      obtain ⟨y, HY⟩ : ∃ b, Hid (inB g 0 1 = b) := ⟨_, rfl⟩
      rw [HE.out, HX.out, HY.out]
      cases x
      all_goals
        go_enter Tryd.func10, Tryd.ntmps10
        go_wp2_with fail
        go_quiet (first | (go_at_call 30; with_reducible exact quiet_eq5 (sIn_is HB _)) | (go_at_call 30; with_reducible exact quiet_eq5 (sIn_is HX _)) | (go_at_call 30; with_reducible exact quiet_eq5 (sIn_is HY _)))
        go_wp2_with fail
        go_ret
        exact ⟨rfl, bel_drewN ((Below.refl _ _).alloc (Nat.le_refl _) _) _⟩
    · have HE : Hid (bondOkB 2 f g = (inB f 0 3 && inB g 0 3)) := by
        unfold Hid bondOkB thingsOk inB
        rw [Bool.eq_iff_iff]
        simp only [Bool.and_eq_true, decide_eq_true_eq, topT]
        simp
      obtain ⟨x, HX⟩ : ∃ b, Hid (inB f 0 3 = b) := ⟨_, rfl⟩
      obtain ⟨y, HY⟩ : ∃ b, Hid (inB g 0 3 = b) := ⟨_, rfl⟩
      rw [HE.out, HX.out, HY.out]
      cases x
      all_goals
        go_enter Tryd.func10, Tryd.ntmps10
        go_wp2_with fail
        go_quiet (first | (go_at_call 30; with_reducible exact quiet_eq5 (sIn_is HB _)) | (go_at_call 30; with_reducible exact quiet_eq5 (sIn_is HX _)) | (go_at_call 30; with_reducible exact quiet_eq5 (sIn_is HY _)))
        go_wp2_with fail
        go_ret
        exact ⟨rfl, bel_drewN ((Below.refl _ _).alloc (Nat.le_refl _) _) _⟩
    · have HE : Hid (bondOkB 3 f g = (inB f 0 7 && inB g 0 7)) := by
        unfold Hid bondOkB thingsOk inB
        rw [Bool.eq_iff_iff]
        simp only [Bool.and_eq_true, decide_eq_true_eq, topT]
        simp
      obtain ⟨x, HX⟩ : ∃ b, Hid (inB f 0 7 = b) := ⟨_, rfl⟩
      obtain ⟨y, HY⟩ : ∃ b, Hid (inB g 0 7 = b) := ⟨_, rfl⟩
      rw [HE.out, HX.out, HY.out]
      cases x
      all_goals
        go_enter Tryd.func10, Tryd.ntmps10
        go_wp2_with fail
        go_quiet (first | (go_at_call 30; with_reducible exact quiet_eq5 (sIn_is HB _)) | (go_at_call 30; with_reducible exact quiet_eq5 (sIn_is HX _)) | (go_at_call 30; with_reducible exact quiet_eq5 (sIn_is HY _)))
        go_wp2_with fail
        go_ret
        exact ⟨rfl, bel_drewN ((Below.refl _ _).alloc (Nat.le_refl _) _) _⟩
theorem sBondOk_is {t f g : Int} {b : Bool} (h : Hid (bondOkB t f g = b)) (w : World) : Calls Tryd.prog 10 #[.int .i64 t, .agg #[.int .i64 f, .int .i64 g]] w (BPost b w) := by
  have := sBondOk t f g w
  rw [h.out] at this; exact this

/-- Two worlds tell the same of the things of f, but not of those of g. -/
def breaksB (v w : Nat) (f g : Int) : Bool := agreeB f v w && !agreeB g v w
theorem bits_xor (v w : Nat) (hv : v < 256) (hw : w < 256) : bits .xor .i64 (v : Int) (w : Int) = ((v ^^^ w : Nat) : Int) := by
  have hx : v ^^^ w < 2 ^ 8 := Nat.xor_lt_two_pow hv hw
  show IntKind.i64.wrap ((BitVec.ofInt 64 (v : Int) ^^^ BitVec.ofInt 64 (w : Int)).toNat : Int) = _
  rw [BitVec.toNat_xor, BitVec.ofInt_natCast, BitVec.ofInt_natCast, BitVec.toNat_ofNat, BitVec.toNat_ofNat, Nat.mod_eq_of_lt (by omega), Nat.mod_eq_of_lt (by omega), IntKind.wrap_i64]
  omega
theorem xor_and (v w f : Nat) : (v ^^^ w) &&& f = 0 ↔ v &&& f = w &&& f := by
  constructor
  · intro h
    apply Nat.eq_of_testBit_eq
    intro i
    have h2 := congrArg (fun x => x.testBit i) h
    simp only [Nat.testBit_and, Nat.testBit_xor, Nat.zero_testBit] at h2
    rw [Nat.testBit_and, Nat.testBit_and]
    revert h2
    cases v.testBit i <;> cases w.testBit i <;> cases f.testBit i <;> simp
  · intro h
    apply Nat.eq_of_testBit_eq
    intro i
    have h2 := congrArg (fun x => x.testBit i) h
    simp only [Nat.testBit_and] at h2
    rw [Nat.testBit_and, Nat.testBit_xor, Nat.zero_testBit]
    revert h2
    cases v.testBit i <;> cases w.testBit i <;> cases f.testBit i <;> simp
theorem and_agree {v w : Nat} {f : Int} (hv : v < 256) (hw : w < 256) (hf : 0 ≤ f) (hf2 : f < 256) : (bits .and .i64 ((v ^^^ w : Nat) : Int) f == 0) = agreeB f v w := by
  have hx : v ^^^ w < 2 ^ 8 := Nat.xor_lt_two_pow hv hw
  rw [bits_and _ f (by omega) (by omega) hf (by omega)]
  unfold agreeB andI
  rw [Bool.eq_iff_iff, beq_iff_eq, decide_eq_true_eq, Int.toNat_natCast, ← xor_and]
  omega
set_option maxHeartbeats 1000000 in
theorem iBreaks (v u : Nat) (f g : Int) (w : World) (hv : v < 256) (hu : u < 256) (hf : 0 ≤ f) (hf2 : f < 256) (hg : 0 ≤ g) (hg2 : g < 256) :
    Calls Tryd.prog 44 #[.int .i64 v, .int .i64 u, .agg #[.int .i64 f, .int .i64 g]] w (BPost (breaksB v u f g) w) := by
  have HX := Lib.hid (bits_xor v u hv hu)
  have ha := and_agree hv hu hf hf2
  have hb := and_agree hv hu hg hg2
  have HE : Hid (breaksB v u f g = (agreeB f v u && !agreeB g v u)) := rfl
  rw [HE.out]
  obtain ⟨x, HA⟩ : ∃ x, Hid (agreeB f v u = x) := ⟨_, rfl⟩
  obtain ⟨y, HB⟩ : ∃ y, Hid (agreeB g v u = y) := ⟨_, rfl⟩
  rw [HA.out, HB.out]
  rw [HA.out, ← HX.out] at ha
  rw [HB.out, ← HX.out] at hb
  cases x
  · go_enter Tryd.func44, Tryd.ntmps44
    go_wp2_with fail
    go_ret
    exact ⟨rfl, (Below.refl _ _).alloc (Nat.le_refl _) _⟩
  · have hb' : (bits .and .i64 (bits .xor .i64 (v : Int) (u : Int)) g != 0) = !y := by rw [bne, hb]
    go_enter Tryd.func44, Tryd.ntmps44
    go_wp2_with fail
    go_ret
    exact ⟨rfl, (Below.refl _ _).alloc (Nat.le_refl _) _⟩
end Go.Proofs.YtannpnhboeopdaaDoor

namespace Go.Proofs.YtannpnhboeopdaaDoor
open Go.RowKit

/-- No pair of worlds of s so far breaks it: up to k, and of k up to j. -/
def HoldsTo (s f g : Int) (k j : Nat) : Prop := (∀ v u, v < k → u < v → (hasW s v && hasW s u && breaksB v u f g) = false) ∧ (∀ u, u < j → (hasW s k && hasW s u && breaksB k u f g) = false)
section
variable {s f g : Int} {k j : Nat}
theorem HoldsTo.start (s f g : Int) : HoldsTo s f g 0 0 := ⟨fun v u h => by omega, fun u h => by omega⟩
theorem HoldsTo.more (h : HoldsTo s f g k j) (hb : (hasW s k && hasW s j && breaksB k j f g) = false) : HoldsTo s f g k (j + 1) :=
  ⟨h.1, fun u hu => by
    by_cases e : u = j
    · subst e; exact hb
    · exact h.2 u (by omega)⟩
theorem HoldsTo.next (h : HoldsTo s f g k k) : HoldsTo s f g (k + 1) 0 :=
  ⟨fun v u hv hu => by
    by_cases e : v = k
    · subst e; exact h.2 u hu
    · exact h.1 v u (by omega) hu, fun u h => by omega⟩
end
def pairsB (t s f g : Int) : Bool := (List.range (nWorlds t)).all fun v => (List.range v).all fun w => !(hasW s v && hasW s w && agreeB f v w) || agreeB g v w
theorem holdsIn_eq (t s f g : Int) : holdsInB t s f g = (setOkB t s && bondOkB t f g && pairsB t s f g) := rfl
theorem pairs_one {s f g : Int} {v w : Nat} : (!(hasW s v && hasW s w && agreeB f v w) || agreeB g v w) = !(hasW s v && hasW s w && breaksB v w f g) := by
  unfold breaksB
  cases hasW s v <;> cases hasW s w <;> cases agreeB f v w <;> cases agreeB g v w <;> rfl
theorem pairs_end {t s f g : Int} (h : HoldsTo s f g (nWorlds t) 0) : pairsB t s f g = true := by
  unfold pairsB
  rw [List.all_eq_true]
  intro v hv
  rw [List.all_eq_true]
  intro w hw
  rw [pairs_one, h.1 v w (List.mem_range.1 hv) (List.mem_range.1 hw)]; rfl
theorem pairs_miss {t s f g : Int} {v w : Nat} (hv : v < nWorlds t) (hw : w < v) (h : (hasW s v && hasW s w && breaksB v w f g) = true) : pairsB t s f g = false := by
  unfold pairsB
  rw [List.all_eq_false]
  refine ⟨v, List.mem_range.2 hv, ?_⟩
  rw [Bool.not_eq_true, List.all_eq_false]
  exact ⟨w, List.mem_range.2 hw, by rw [pairs_one, h]; simp⟩
theorem two_within {v u : Nat} {s : Int} : withinB (orI (worldS v) (worldS u)) s = (hasW s v && hasW s u) := by
  rw [Bool.eq_iff_iff, Bool.and_eq_true, ← world_within, ← world_within]
  constructor
  · intro h
    exact ⟨within_trans (worldS_nonneg v) (orI_nonneg _ _) (within_or_left _ _ (worldS_nonneg v)) h, within_trans (worldS_nonneg u) (orI_nonneg _ _) (within_or_right _ _ (worldS_nonneg u)) h⟩
  · rintro ⟨h1, h2⟩
    exact or_within (worldS_nonneg v) (worldS_nonneg u) h1 h2
theorem wrap_pow5 {k : Nat} (h : k < 8) : wrap64 ((2 : Int) ^ k) = ((2 ^ k : Nat) : Int) := by
  have : 2 ^ k ≤ 2 ^ 7 := Nat.pow_le_pow_right (by omega) (by omega)
  have e : (2 : Int) ^ k = ((2 ^ k : Nat) : Int) := by push_cast; rfl
  rw [e]
  obtain ⟨p, hp⟩ : ∃ p, 2 ^ k = p := ⟨_, rfl⟩
  rw [hp] at this ⊢
  exact IntWalk.wrap64_in _ ⟨by omega, by omega⟩
theorem wrap_pow6 {k : Nat} (h : k < 8) : IntKind.i64.wrap ((2 : Int) ^ k) = ((2 ^ k : Nat) : Int) := by
  have : 2 ^ k ≤ 2 ^ 7 := Nat.pow_le_pow_right (by omega) (by omega)
  have e : (2 : Int) ^ k = ((2 ^ k : Nat) : Int) := by push_cast; rfl
  rw [e]
  obtain ⟨p, hp⟩ : ∃ p, 2 ^ k = p := ⟨_, rfl⟩
  rw [hp] at this ⊢
  exact IntWalk.i64_in _ (by omega)
theorem two_worlds {k j : Nat} (hk : k < 8) (hj : j < 8) : ∃ m : Int, bits .or .i64 (IntKind.i64.wrap ((2 : Int) ^ k)) (IntKind.i64.wrap ((2 : Int) ^ j)) = m ∧ 0 ≤ m ∧ m < 256 ∧ ∀ s, withinB m s = (hasW s k && hasW s j) := by
  have hp : 2 ^ k ≤ 2 ^ 7 := Nat.pow_le_pow_right (by omega) (by omega)
  have hq : 2 ^ j ≤ 2 ^ 7 := Nat.pow_le_pow_right (by omega) (by omega)
  have e1 := wrap_pow6 hk
  have e2 := wrap_pow6 hj
  rw [e1, e2]
  refine ⟨_, bits_or _ _ ?_ ?_ ?_ ?_, orI_nonneg _ _, orI_lt _ _ ?_ ?_, fun s => two_within (v := k) (u := j)⟩
  all_goals
    clear e1 e2
    generalize 2 ^ k = a at *
    generalize 2 ^ j = b at *
    omega
theorem iWithin_is5 {a b : Int} {v : Bool} (h : Hid (withinB a b = v)) (ha : 0 ≤ a) (ha2 : a < 1024) (hb : 0 ≤ b) (hb2 : b < 1024) (w : World) :
    Calls Tryd.prog 43 #[.int .i64 a, .int .i64 b] w fun e w' => e = .returned (.bool v) ∧ w = w' :=
  (iWithin a b ha ha2 hb hb2 w).mono fun _ _ ⟨he, hw⟩ => ⟨he.trans (ret_bool h.out), hw⟩
theorem worlds_n5 {t : Int} (h1 : 1 ≤ t) (h3 : t ≤ 3) : worldsOf t = (nWorlds t : Int) ∧ nWorlds t ≤ 8 := by
  have h : t = 1 ∨ t = 2 ∨ t = 3 := by omega
  rcases h with rfl | rfl | rfl <;> exact ⟨rfl, by decide⟩
/-- The cells of a dependence that lies in a variable. -/
theorem two_cells5 (w : World) (u v : Value) (t : TypeId) : (w.alloc (.cells #[u, v] t)).cell? ⟨w.heap.size, 0, none⟩ = some u ∧ (w.alloc (.cells #[u, v] t)).cell? ⟨w.heap.size, 1, none⟩ = some v :=
  ⟨cell_two_new w u v t 0 u rfl, cell_two_new w u v t 1 v rfl⟩
def BoxAt (W : World) (D : Nat) (f g : Int) : Prop := W.cell? ⟨D, 0, none⟩ = some (.int .i64 f) ∧ W.cell? ⟨D, 1, none⟩ = some (.int .i64 g) ∧ D < W.heap.size
theorem BoxAt.new (W : World) (f g : Int) (T : TypeId) : BoxAt (W.alloc (.cells #[.int .i64 f, .int .i64 g] T)) W.heap.size f g :=
  ⟨(two_cells5 W _ _ T).1, (two_cells5 W _ _ T).2, by rw [World.size_alloc]; exact Nat.lt_succ_self _⟩
theorem BoxAt.drew {W : World} {D : Nat} {f g : Int} (h : BoxAt W D f g) : BoxAt W.drew D f g := h
theorem BoxAt.below {W W' : World} {D : Nat} {f g : Int} (h : BoxAt W D f g) (hb : Below W.heap.size W W') : BoxAt W' D f g :=
  ⟨(hb.cell (p := ⟨D, 0, none⟩) h.2.2).trans h.1, (hb.cell (p := ⟨D, 1, none⟩) h.2.2).trans h.2.1, Nat.lt_of_lt_of_le h.2.2 hb.size⟩

set_option maxRecDepth 100000 in
set_option maxHeartbeats 8000000 in
theorem iHolds (t s f g : Int) (w : World) (h1 : 1 ≤ t) (h3 : t ≤ 3) (hs : 0 ≤ s) (hs2 : s < 256) (hf : 0 ≤ f) (hf2 : f < 256) (hg : 0 ≤ g) (hg2 : g < 256) :
    Calls Tryd.prog 29 #[.int .i64 t, .int .i64 s, .agg #[.int .i64 f, .int .i64 g]] w (BPost (pairsB t s f g) w) := by
  obtain ⟨hw, hw8⟩ := worlds_n5 h1 h3
  have HEND : Hid (HoldsTo s f g (nWorlds t) 0 → pairsB t s f g = true) := pairs_end
  have HMISS : Hid (∀ v u, v < nWorlds t → u < v → (hasW s v && hasW s u && breaksB v u f g) = true → pairsB t s f g = false) := fun v u a b c => pairs_miss a b c
  obtain ⟨n, HNW⟩ : ∃ n, Hid (nWorlds t = n) := ⟨_, rfl⟩
  rw [HNW.out] at hw hw8 HEND HMISS
  have HW := Lib.hid hw
  obtain ⟨res, HRES⟩ : ∃ b, Hid (pairsB t s f g = b) := ⟨_, rfl⟩
  rw [HRES.out] at HEND HMISS ⊢
  clear hw h1 h3
  have HX1 : Hid (BoxAt (w.alloc (.cells #[.int .i64 f, .int .i64 g] 24)) w.heap.size f g) := BoxAt.new w f g _
  have HB1 : Hid (Below w.heap.size w (w.alloc (.cells #[.int .i64 f, .int .i64 g] 24))) := (Below.refl _ _).alloc (Nat.le_refl _) _
  go_enter Tryd.func29, Tryd.ntmps29
  go_wp2_with fail
  refine (iWorldsOf _ _).mono ?_
  rintro e w' ⟨rfl, rfl⟩
  rw [HW.out]
  obtain ⟨W1, hW1⟩ : ∃ W, w.alloc (.cells #[.int .i64 f, .int .i64 g] 24) = W := ⟨_, rfl⟩
  rw [hW1] at HX1 HB1 ⊢
  go_wp2_with fail
  go_loopw [11] (fun i wr => ∃ k : Nat, k ≤ n ∧ i = .int .i64 k ∧ Hid (HoldsTo s f g k 0) ∧ Below W1.heap.size W1 wr) (fun i _ => n - (Go.RowKit.intOf i).toNat)
  case atStart => exact ⟨0, Nat.zero_le _, rfl, HoldsTo.start s f g, Below.refl _ _⟩
  case round =>
    obtain ⟨k, hk, rfl, hso, hbel⟩ := hrel
    have HBW := Lib.hid hbel
    clear hbel
    by_cases hlt : k < n
    · go_wp2_with fail
      go_loopw [15] (fun i wi => ∃ j : Nat, j ≤ k ∧ i = .int .i64 j ∧ Hid (HoldsTo s f g k j) ∧ Below W1.heap.size W1 wi) (fun i _ => k - (Go.RowKit.intOf i).toNat)
      case atStart => exact ⟨0, Nat.zero_le _, rfl, hso, HBW.out⟩
      case round =>
        obtain ⟨j, hj, rfl, hsoi, hbel⟩ := hrel
        have HBI := Lib.hid hbel
        clear hbel
        by_cases hjt : j < k
        · obtain ⟨m, hbo, hor0, hor1, htws⟩ := two_worlds (k := k) (j := j) (by omega) (by omega)
          have htw := htws s
          have HBO := Lib.hid hbo
          clear htws hbo
          have HBOX := Lib.hid (HX1.out.below HBI.out)
          obtain ⟨hc0, hc1, _⟩ := HBOX.out
          rcases hwi : (hasW s k && hasW s j) with _ | _
          · have HWI : Hid (withinB m s = false) := htw.trans hwi
            have HN : Hid (HoldsTo s f g k (j + 1)) := hsoi.out.more (by rw [hwi]; rfl)
            clear htw hwi
            go_wp2_with fail
            go_quiet ((go_at_call 43; rw [HBO.out]; exact quiet_eq5 (iWithin_is5 HWI hor0 (by omega) hs (by omega) _)))
            go_wp2_with fail
            go_roundw
            case rel => exact ⟨j + 1, by omega, by go_num, HN, bel_drewN HBI.out _⟩
            case measure => simp [Go.RowKit.intOf]; omega
          · have HWI : Hid (withinB m s = true) := htw.trans hwi
            obtain ⟨bv, HBV⟩ : ∃ b, Hid (breaksB k j f g = b) := ⟨_, rfl⟩
            have HBR : Hid (∀ W, Calls Tryd.prog 44 #[.int .i64 k, .int .i64 j, .agg #[.int .i64 f, .int .i64 g]] W (BPost bv W)) := fun W => by
              have := iBreaks k j f g W (by omega) (by omega) hf hf2 hg hg2
              rw [HBV.out] at this; exact this
            clear htw
            cases bv
            · have HN : Hid (HoldsTo s f g k (j + 1)) := hsoi.out.more (by rw [HBV.out, Bool.and_false])
              clear hwi
              go_wp2_with fail
              go_region_held3 (fun w' => w'.cell? ⟨w.heap.size, 0, none⟩ = some (.int .i64 f) ∧ w'.cell? ⟨w.heap.size, 1, none⟩ = some (.int .i64 g)) (first | go_keep | exact ⟨(BoxAt.below (BoxAt.drew HBOX.out) hbx).1, (BoxAt.below (BoxAt.drew HBOX.out) hbx).2.1⟩)
                (first
                | (go_at_call 43; rw [HBO.out]; refine (iWithin_is5 HWI hor0 (by omega) hs (by omega) _).mono ?_; rintro e w' ⟨rfl, rfl⟩)
                  | (go_at_call 44; refine (HBR.out _).mono ?_; rintro e w2 ⟨rfl, hbx⟩))
              all_goals
                have hb2 := bel_trans (bel_drewN HBI.out _) hbx
                go_wp2_with fail
                go_roundw
                case rel => exact ⟨j + 1, by omega, by go_num, HN, hb2⟩
                case measure => simp [Go.RowKit.intOf]; omega
            · have HR : Hid (res = false) := HMISS.out k j hlt hjt (by rw [hwi, HBV.out]; rfl)
              clear hwi
              go_wp2_with fail
              go_region_held3 (fun w' => w'.cell? ⟨w.heap.size, 0, none⟩ = some (.int .i64 f) ∧ w'.cell? ⟨w.heap.size, 1, none⟩ = some (.int .i64 g)) (first | go_keep | exact ⟨(BoxAt.below (BoxAt.drew HBOX.out) hbx).1, (BoxAt.below (BoxAt.drew HBOX.out) hbx).2.1⟩)
                (first
                | (go_at_call 43; rw [HBO.out]; refine (iWithin_is5 HWI hor0 (by omega) hs (by omega) _).mono ?_; rintro e w' ⟨rfl, rfl⟩)
                  | (go_at_call 44; refine (HBR.out _).mono ?_; rintro e w2 ⟨rfl, hbx⟩))
              all_goals
                have hb2 := bel_trans (bel_drewN HBI.out _) hbx
                go_wp2_with fail
                go_ret
                exact ⟨ret_bool HR.out.symm, bel_trans HB1.out hb2⟩
        · obtain rfl : j = k := by omega
          have HN : Hid (HoldsTo s f g (j + 1) 0) := hsoi.out.next
          go_wp2_with fail
          go_roundw
          case rel => exact ⟨j + 1, by omega, by go_num, HN, HBI.out⟩
          case measure => simp [Go.RowKit.intOf]; omega
    · obtain rfl : k = n := by omega
      have HR : Hid (res = true) := HEND.out hso.out
      go_wp2_with fail
      go_ret
      exact ⟨ret_bool HR.out.symm, bel_trans HB1.out HBW.out⟩
end Go.Proofs.YtannpnhboeopdaaDoor
