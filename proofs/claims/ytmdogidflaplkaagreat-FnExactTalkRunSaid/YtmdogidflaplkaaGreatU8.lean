/-
  What the proofs of this seat's statements share (TogT, TogD, TogX, TogL1, MathE, MathP, MathF, MathG, PartM, Subs).
-/
import Derived.RangeFuncNested
import Derived.RangeFuncBound
import Derived.RangeFuncCalls
import Derived.RangeFuncLeaves
import Derived.Shelf.Abstract
import Derived.Shelf.RegionOpen
import Derived.OwnWalkIn
import Derived.TacticsInMore
import Derived.LoopNIn
import Derived.LoopIn
import Derived.Test.YtmdogidflaplkaaGreatU7
import Derived.Test.YtmdogidflaplkaaGreatU4
import Derived.Test.YtmdogidflaplkaaGreatU6

namespace Go.Proofs.YtmdogidflaplkaaGreat
open Go.RowKit

set_option maxRecDepth 100000 in
set_option maxHeartbeats 4000000 in
theorem sIfIssue (t : Int) (A B : Option Addr) (na ca nb cb : Nat) (a b : List Int) (w : World) (ha : Row w A na ca a) (hb : Row w B nb cb b) :
    Calls Tryz.prog 104 #[.int .i64 t, .slice A na ca, .slice B nb cb] w fun e w' => ∃ v, e = .returned v ∧ Owns w' w.heap.size v (ifL t a b) ∧ Below w.heap.size w w' := by
  have HA := Lib.hid ha
  have HB := Lib.hid hb
  obtain rfl := ha.hn
  obtain rfl := hb.hn
  have hbl := hb.hl
  clear ha hb
  obtain ⟨x, HX⟩ : ∃ x, Hid (issueOkB t a = x) := ⟨_, rfl⟩
  cases x
  · have HF := Lib.hid (if_nil (b := b) (okTwo_no1 HX))
    go_enter Tryz.func104, Tryz.ntmps104
    go_wp2_with fail
    refine (sIssueOk_is HX _ _ _ _ rfl HA.out.hl HA.out.hA).mono ?_
    rintro e w' ⟨rfl, m1, rfl⟩
    go_wp2_with fail
    go_ret
    exact ⟨_, rfl, by rw [HF.out]; exact Owns.lit _ _ [] (Nat.le_refl _) (by simp [maxLen]), (bel_drewN (Below.refl _ _) _).alloc (Nat.le_refl _) _⟩
  obtain ⟨y, HY⟩ : ∃ y, Hid (issueOkB t b = y) := ⟨_, rfl⟩
  cases y
  · have HF := Lib.hid (if_nil (okTwo_no HX HY))
    go_enter Tryz.func104, Tryz.ntmps104
    go_wp2_with fail
    refine (sIssueOk_is HX _ _ _ _ rfl HA.out.hl HA.out.hA).mono ?_
    rintro e w' ⟨rfl, m2, rfl⟩
    go_wp2_with fail
    refine (sIssueOk_is HY _ _ _ _ rfl HB.out.hl (by exact HB.out.hA)).mono ?_
    rintro e w' ⟨rfl, m3, rfl⟩
    go_wp2_with fail
    go_ret
    exact ⟨_, rfl, by rw [HF.out]; exact Owns.lit _ _ [] (Nat.le_refl _) (by simp [maxLen]), (bel_drewN (Below.refl _ _) _).alloc (Nat.le_refl _) _⟩
  have h1 := HX.out
  have h2 := HY.out
  obtain ⟨hla, hla2⟩ := issue_ne h1
  obtain ⟨ht1, ht3⟩ := issue_things h1
  have HRA := Lib.hid (issue_range h1)
  have HRB := Lib.hid (issue_range h2)
  have HF := Lib.hid (if_eq h1 h2)
  have HS := Lib.hid (sets_range (ifX_sets (b := b) h1))
  obtain ⟨al, hal⟩ : ∃ n : Nat, n = (allOf t).toNat := ⟨_, rfl⟩
  have h0 := allOf_lt t
  have HAL : Hid (allOf t = (al : Int)) := by unfold Hid; omega
  have hal2 : al < 256 := by omega
  have HAL2 : Hid ((allOf t + 1).toNat = al + 1) := by unfold Hid; omega
  rw [HAL2.out] at HF HS
  clear h1 h2 hal h0
  go_enter Tryz.func104, Tryz.ntmps104
  go_wp2_with fail
  refine (sIssueOk_is HX _ _ _ _ rfl HA.out.hl HA.out.hA).mono ?_
  rintro e w' ⟨rfl, m4, rfl⟩
  go_wp2_with fail
  refine (sIssueOk_is HY _ _ _ _ rfl HB.out.hl (by exact HB.out.hA)).mono ?_
  rintro e w' ⟨rfl, m5, rfl⟩
  go_wp2_with fail
  go_loopw [7, 8] (fun v i wr => ∃ k : Nat, k ≤ al + 1 ∧ i = .int .i64 k ∧ Owns wr w.heap.size v (ifTo a b k) ∧ Below w.heap.size w wr) (fun _ i _ => al + 1 - (Go.RowKit.intOf i).toNat)
  case atStart => exact ⟨0, Nat.zero_le _, rfl, by rw [if_zero]; exact Owns.lit _ _ [] (Nat.le_refl _) (by simp [maxLen]), (bel_drewN (Below.refl _ _) _).alloc (Nat.le_refl _) _⟩
  case round =>
    obtain ⟨k, hk, rfl, hown, hbel⟩ := hrel
    have HOW := Lib.hid hown
    have HBW := Lib.hid hbel
    clear hown hbel
    by_cases hlt : k ≤ al
    · have hd : decide ((k : Int) ≤ (al : Int)) = true := decide_eq_true (by omega)
      go_wp2_with fail
      refine (sAll _ _ ht1 ht3).mono ?_
      rintro e w' ⟨rfl, rfl⟩
      rw [HAL.out]
      go_wp2_with fail
      clear hd
      go_loopw [9, 10] (fun g j wi => ∃ (i : Nat) (gb : Bool), i ≤ a.length ∧ j = .int .i64 i ∧ g = .bool gb ∧ Hid (goodB (a.take i) b k = gb) ∧ ∃ m, wi = wr.drewN m) (fun _ j _ => a.length - (Go.RowKit.intOf j).toNat)
      case atStart => exact ⟨0, true, Nat.zero_le _, rfl, rfl, rfl, 0, rfl⟩
      case round =>
        obtain ⟨i, gb, hi, rfl, rfl, hg, m, rfl⟩ := hrel
        by_cases hit : i < a.length
        · obtain ⟨bb, off, x, rfl, hcell, hx, _⟩ := (HA.out.hA.below HBW.out).elem hit
          obtain ⟨he1, he2⟩ := HRA.out x (elem_mem hx)
          cases gb
          · have HT : Hid (goodB (a.take (i + 1)) b k = false) := by unfold Hid; rw [good_snoc hx, hg.out]; rfl
            go_wp2_with fail
            go_roundw
            case rel => exact ⟨i + 1, false, by omega, by go_num, rfl, HT, _, rfl⟩
            case measure => simp [Go.RowKit.intOf]; omega
          · obtain ⟨v, HV⟩ : ∃ v, Hid (anyWithin (andI (k : Int) x) b = v) := ⟨_, rfl⟩
            have HT : Hid (goodB (a.take (i + 1)) b k = v) := by unfold Hid; rw [good_snoc hx, hg.out, HV.out]; rfl
            have hand0 := andI_nonneg (k : Int) x
            have hand1 := andI_le (k : Int) x (by omega)
            go_wp2_with fail
            refine (sBothS _ _ (by omega) (by omega) he1 he2 _).mono ?_
            rintro e w' ⟨rfl, m2, rfl⟩
            go_wp2_with fail
            refine (sL2Settles_is HV _ _ _ _ rfl hand0 (by omega) HRB.out hbl (HB.out.hA.below (bel_drewN HBW.out _))).mono ?_
            rintro e w' ⟨rfl, m3, rfl⟩
            go_wp2_with fail
            go_roundw
            case rel => exact ⟨i + 1, v, by omega, by go_num, rfl, HT, _, rfl⟩
            case measure => simp [Go.RowKit.intOf]; omega
        · obtain rfl : i = a.length := by omega
          rw [List.take_length] at hg
          have hlen := if_len a b k
          cases gb
          · have HT : Hid (ifTo a b (k + 1) = ifTo a b k) := by unfold Hid; rw [if_next, hg.out]; simp
            go_wp2_with fail
            go_roundw
            case rel => exact ⟨k + 1, by omega, by go_num, by rw [HT.out]; exact HOW.out, bel_drewN HBW.out _⟩
            case measure => simp [Go.RowKit.intOf]; omega
          · have HT : Hid (ifTo a b (k + 1) = ifTo a b k ++ [(k : Int)]) := by unfold Hid; rw [if_next, hg.out]; simp
            have HOW2 : Hid (Owns (wr.drewN m) w.heap.size u7 (ifTo a b k)) := HOW.out
            have HB2 := Lib.hid (bel_drewN HBW.out m)
            go_wp2_with (at_builtin; refine wp_append1 (W := wr.drewN m) rfl _ _ rfl w.heap.size u7 (ifTo a b k) rfl HOW2.out (k : Int) rfl (by omega) HB2.out.size ?_; intro v' w' hown' hgrow)
            have hb' := below_append HB2.out HB2.out.size HOW2.out (Nat.le_refl _) hgrow
            go_roundw
            case rel => exact ⟨k + 1, by omega, by go_num, by rw [HT.out]; exact hown', hb'⟩
            case measure => simp [Go.RowKit.intOf]; omega
    · obtain rfl : k = al + 1 := by omega
      have hd : decide (((al + 1 : Nat) : Int) ≤ (al : Int)) = false := decide_eq_false (by omega)
      have hd' : decide ((al : Int) + 1 ≤ (al : Int)) = false := decide_eq_false (by omega)
      have hlen := if_len a b (al + 1)
      obtain ⟨A1, c1, rfl, hc1, hm1, hn1, _⟩ := HOW.out.form
      have HN1 := Lib.hid hn1
      have hle : (ifTo a b (al + 1)).length ≤ 1048576 := by omega
      clear hm1 hn1
      go_wp2_with fail
      refine (sAll _ _ ht1 ht3).mono ?_
      rintro e w' ⟨rfl, rfl⟩
      rw [HAL.out]
      go_wp2_with fail
      refine (sTidy _ _ _ (ifTo a b (al + 1)) _ rfl hle HS.out HN1.out).mono ?_
      rintro e w2 ⟨v, rfl, ho, hb⟩
      have HO2 := Lib.hid ho
      have HB2 := Lib.hid (bel_trans HBW.out hb)
      have hsz := HBW.out.size
      clear ho hb
      go_wp2_with fail
      go_ret
      exact ⟨_, rfl, by rw [HF.out]; exact HO2.out.base hsz, HB2.out⟩

set_option maxHeartbeats 2000000 in
theorem sNotIssue (t : Int) (A : Option Addr) (na ca : Nat) (a : List Int) (w : World) (ha : Row w A na ca a) :
    Calls Tryz.prog 100 #[.int .i64 t, .slice A na ca] w fun e w' => ∃ v, e = .returned v ∧ Owns w' w.heap.size v (notL t a) ∧ Below w.heap.size w w' := by
  have HA := Lib.hid ha
  obtain rfl := ha.hn
  clear ha
  obtain ⟨x, HX⟩ : ∃ x, Hid (issueOkB t a = x) := ⟨_, rfl⟩
  cases x
  · have HF := Lib.hid (not_nil HX.out)
    go_enter Tryz.func100, Tryz.ntmps100
    go_wp2_with fail
    refine (sIssueOk_is HX _ _ _ _ rfl HA.out.hl HA.out.hA).mono ?_
    rintro e w' ⟨rfl, m1, rfl⟩
    go_wp2_with fail
    go_ret
    exact ⟨_, rfl, by rw [HF.out]; exact Owns.lit _ _ [] (Nat.le_refl _) (by simp [maxLen]), (bel_drewN (Below.refl _ _) _).alloc (Nat.le_refl _) _⟩
  · have HF := Lib.hid (not_eq HX.out)
    go_enter Tryz.func100, Tryz.ntmps100
    go_wp2_with fail
    refine (sIssueOk_is HX _ _ _ _ rfl HA.out.hl HA.out.hA).mono ?_
    rintro e w' ⟨rfl, m2, rfl⟩
    go_wp2_with fail
    have hbel : Below w.heap.size w ((w.drewN m2).alloc (.cells #[.int .i64 0] 3)) := (bel_drewN (Below.refl _ _) _).alloc (Nat.le_refl _) _
    have HO : Owns ((w.drewN m2).alloc (.cells #[.int .i64 0] 3)) w.heap.size (.slice (some ⟨w.heap.size, 0, none⟩) 1 1) [0] := Owns.lit (w.drewN m2) w.heap.size [0] (Nat.le_refl _) (by simp [maxLen])
    refine (sIfIssue t A _ a.length ca 1 1 a [0] _ (HA.out.below hbel) (HO.row (by simp))).mono ?_
    rintro e w1 ⟨v, rfl, ho, hb⟩
    have HO1 := Lib.hid ho
    have HB1 := Lib.hid (hbel.trans (hb.mono (by rw [World.size_alloc]; exact Nat.le_succ _)))
    clear ho hb HO hbel
    go_wp2_with fail
    go_ret
    exact ⟨_, rfl, by rw [HF.out]; exact HO1.out.base (by rw [World.size_alloc]; exact Nat.le_succ _), HB1.out⟩

set_option maxHeartbeats 2000000 in
theorem sWhetherIssue (t : Int) (A : Option Addr) (na ca : Nat) (a : List Int) (w : World) (ha : Row w A na ca a) :
    Calls Tryz.prog 101 #[.int .i64 t, .slice A na ca] w fun e w' => ∃ v, e = .returned v ∧ Owns w' w.heap.size v (whetherL t a) ∧ Below w.heap.size w w' := by
  have HA := Lib.hid ha
  obtain rfl := ha.hn
  have hnl := not_len t a
  have HW := Lib.hid (whether_all (t := t) (a := a))
  clear ha
  obtain ⟨x, HX⟩ : ∃ x, Hid (issueOkB t a = x) := ⟨_, rfl⟩
  cases x
  · have HF : Hid (whetherL t a = []) := by unfold Hid whetherL; rw [HX.out]; rfl
    go_enter Tryz.func101, Tryz.ntmps101
    go_wp2_with fail
    refine (sIssueOk_is HX _ _ _ _ rfl HA.out.hl HA.out.hA).mono ?_
    rintro e w' ⟨rfl, m1, rfl⟩
    go_wp2_with fail
    go_ret
    exact ⟨_, rfl, by rw [HF.out]; exact Owns.lit _ _ [] (Nat.le_refl _) (by simp [maxLen]), (bel_drewN (Below.refl _ _) _).alloc (Nat.le_refl _) _⟩
  · go_enter Tryz.func101, Tryz.ntmps101
    go_wp2_with fail
    refine (sIssueOk_is HX _ _ _ _ rfl HA.out.hl HA.out.hA).mono ?_
    rintro e w' ⟨rfl, m2, rfl⟩
    go_wp2_with fail
    refine (sNotIssue t A _ ca a _ (HA.out.drewN _)).mono ?_
    rintro e w1 ⟨v, rfl, ho, hb⟩
    obtain ⟨A1, c1, rfl, hc1, hm1, hn1, _⟩ := ho.form
    have HR1 := Lib.hid (ho.row (by omega))
    have HB1 := Lib.hid (bel_trans (bel_drewN (Below.refl _ _) m2) hb)
    have hsz1 := HB1.out.size
    clear ho hb hm1 hn1
    go_wp2_with fail
    refine (sEitherIssue t A _ _ _ _ _ a (notL t a) _ (HA.out.below HB1.out) HR1.out).mono ?_
    rintro e w2 ⟨v, rfl, ho, hb⟩
    have HO2 := Lib.hid ho
    have HB2 := Lib.hid (bel_trans HB1.out hb)
    clear ho hb
    go_wp2_with fail
    go_ret
    exact ⟨_, rfl, by rw [HW.out]; exact HO2.out.base hsz1, HB2.out⟩

end Go.Proofs.YtmdogidflaplkaaGreat

namespace Go.Proofs.YtmdogidflaplkaaGreat
open Go.RowKit

end Go.Proofs.YtmdogidflaplkaaGreat

namespace Go.Proofs.YtmdogidflaplkaaGreat
open Go.RowKit

theorem Nums.later {k : IntKind} {w w' : World} {A A2 : Option Addr} {n2 c2 : Nat} {xs : List Int} {B : Nat} (h : Nums k w A xs) (hg : w.grownBy w' (Value.slice A2 n2 c2).ownBlock)
    (h1 : ∀ ad, A = some ad → B ≤ ad.block) (h2 : ∀ ad, A2 = some ad → ad.block < B) : Nums k w' A xs := by
  refine h.grown hg fun ad ha e => ?_
  have hb := h1 ad ha
  cases A2 with
  | none => cases e
  | some ad2 =>
    have : ad.block = ad2.block := by simpa [Value.ownBlock] using e
    have := h2 ad2 rfl
    omega
theorem Owns.later {w w' : World} {base : Nat} {v : Value} {A2 : Option Addr} {n2 c2 : Nat} {xs : List Int} (h : Owns w base v xs) (hg : w.grownBy w' (Value.slice A2 n2 c2).ownBlock) (h2 : ∀ ad, A2 = some ad → ad.block < base) : Owns w' base v xs := by
  refine h.kept hg ?_
  cases e : v.ownBlock with
  | none => exact .inl rfl
  | some k =>
    right
    intro e2
    have := (World.ownsRow.lt h k e).1
    cases A2 with
    | none => cases e2
    | some ad2 =>
      have e3 : k = ad2.block := by simpa [Value.ownBlock] using e2
      have := h2 ad2 rfl
      omega
end Go.Proofs.YtmdogidflaplkaaGreat

namespace Go.Proofs.YtmdogidflaplkaaGreat
open Go.RowKit

end Go.Proofs.YtmdogidflaplkaaGreat

namespace Go.Proofs.YtmdogidflaplkaaGreat
open Go.RowKit

inductive Sen where
  | one : Sen
  | zero : Sen
  | thing : Nat → Sen
  | no : Sen → Sen
  | ask : Sen → Sen
  | and_ : Sen → Sen → Sen
  | or_ : Sen → Sen → Sen
  | if_ : Sen → Sen → Sen

def letterSet (t : Int) (i : Nat) : Int := if i = 0 then andI 170 (allOf t) else if i = 1 then andI 204 (allOf t) else andI 240 (allOf t)
def senOk (t : Int) : Sen → Bool
  | .one => true
  | .zero => true
  | .thing i => decide ((i : Int) < t)
  | .no x => senOk t x
  | .ask x => senOk t x
  | .and_ x y => senOk t x && senOk t y
  | .or_ x y => senOk t x && senOk t y
  | .if_ x y => senOk t x && senOk t y
def issueS (t : Int) : Sen → List Int
  | .one => [allOf t]
  | .zero => [0]
  | .thing i => [letterSet t i]
  | .no x => notL t (issueS t x)
  | .ask x => whetherL t (issueS t x)
  | .and_ x y => bothL t (issueS t x) (issueS t y)
  | .or_ x y => eitherL t (issueS t x) (issueS t y)
  | .if_ x y => ifL t (issueS t x) (issueS t y)
def plainS : Sen → Bool
  | .one => true
  | .zero => true
  | .thing _ => true
  | .no x => plainS x
  | .ask _ => false
  | .and_ x y => plainS x && plainS y
  | .or_ _ _ => false
  | .if_ x y => plainS x && plainS y
def nWorlds (t : Int) : Nat := (worldsOf t).toNat
def hasW (s : Int) (w : Nat) : Bool := s.toNat.testBit w
def worldS (w : Nat) : Int := ((2 ^ w : Nat) : Int)
/-- Whether a set supports a sentence, by the sentence's own rules. -/
def holdsS (t : Int) : Sen → Int → Bool
  | .one, _ => true
  | .zero, s => decide (s = 0)
  | .thing i, s => withinB s (letterSet t i)
  | .no x, s => (List.range (nWorlds t)).all fun w => !hasW s w || !holdsS t x (worldS w)
  | .ask x, s => holdsS t x s || (List.range (nWorlds t)).all fun w => !hasW s w || !holdsS t x (worldS w)
  | .and_ x y, s => holdsS t x s && holdsS t y s
  | .or_ x y, s => holdsS t x s || holdsS t y s
  | .if_ x y, s => (List.range (s.toNat + 1)).all fun u : Nat => !withinB (u : Int) s || !holdsS t x (u : Int) || holdsS t y (u : Int)

section
variable {t : Int} {a b : List Int}
theorem letter_ok (h1 : 1 ≤ t) (h3 : t ≤ 3) (i : Nat) : setOkB t (letterSet t i) = true := by
  have hal := allOf_lt t
  have key : ∀ c : Int, setOkB t (andI c (allOf t)) = true := fun c => setOk_of h1 h3 (andI_nonneg _ _) (andI_le' _ _ hal.1)
  unfold letterSet
  split
  · exact key _
  · split <;> exact key _
theorem sen_issue (h1 : 1 ≤ t) (h3 : t ≤ 3) : ∀ s : Sen, issueOkB t (issueS t s) = true
  | .one => issue_one (setOk_of h1 h3 (allOf_lt t).1 (Int.le_refl _))
  | .zero => zero_issue h1 h3
  | .thing i => issue_one (letter_ok h1 h3 i)
  | .no x => not_ok (sen_issue h1 h3 x)
  | .ask x => whether_ok (sen_issue h1 h3 x)
  | .and_ x y => both_ok (sen_issue h1 h3 x) (sen_issue h1 h3 y)
  | .or_ x y => either_ok (sen_issue h1 h3 x) (sen_issue h1 h3 y)
  | .if_ x y => if_ok (sen_issue h1 h3 x) (sen_issue h1 h3 y)
theorem has_lt (h1 : 1 ≤ t) (h3 : t ≤ 3) {s : Int} (hs : 0 ≤ s) (hs2 : s ≤ allOf t) {w : Nat} (h : hasW s w = true) : w < nWorlds t := by
  have hb : ∀ n : Nat, s.toNat < 2 ^ n → w < n := by
    intro n hn
    rcases Nat.lt_or_ge w n with hw | hw
    · exact hw
    · unfold hasW at h
      rw [Nat.testBit_lt_two_pow (Nat.lt_of_lt_of_le hn (Nat.pow_le_pow_right (by omega) hw))] at h
      cases h
  have : t = 1 ∨ t = 2 ∨ t = 3 := by omega
  rcases this with rfl | rfl | rfl
  · exact hb 2 (by simp [allOf] at hs2; omega)
  · exact hb 4 (by simp [allOf] at hs2; omega)
  · exact hb 8 (by simp [allOf] at hs2; omega)
theorem world_ok (h1 : 1 ≤ t) (h3 : t ≤ 3) {w : Nat} (h : w < nWorlds t) : 0 ≤ worldS w ∧ worldS w ≤ allOf t := by
  have hp : ∀ n : Nat, w < n → 2 ^ w ≤ 2 ^ (n - 1) := fun n hn => Nat.pow_le_pow_right (by omega) (by omega)
  have hz : worldS w = ((2 ^ w : Nat) : Int) := rfl
  generalize 2 ^ w = q at hp hz
  rw [hz]
  refine ⟨by omega, ?_⟩
  have : t = 1 ∨ t = 2 ∨ t = 3 := by omega
  rcases this with rfl | rfl | rfl
  · have := hp 2 h; show (q : Int) ≤ 3; omega
  · have := hp 4 h; show (q : Int) ≤ 15; omega
  · have := hp 8 h; show (q : Int) ≤ 255; omega
theorem worldS_nonneg (w : Nat) : 0 ≤ worldS w := Int.natCast_nonneg _
theorem world_within (w : Nat) {x : Int} : withinB (worldS w) x = true ↔ hasW x w = true := by
  rw [within_iff (worldS_nonneg w)]
  unfold worldS hasW
  rw [Int.toNat_natCast]
  constructor
  · exact fun h => h w (by rw [Nat.testBit_two_pow]; simp)
  · intro h i hi
    rw [Nat.testBit_two_pow, decide_eq_true_eq] at hi
    subst hi; exact h
theorem any_world (w : Nat) : anyWithin (worldS w) a = hasW (unionI a) w := by
  unfold hasW
  rw [union_bit, Bool.eq_iff_iff, any_iff, List.any_eq_true]
  constructor
  · rintro ⟨x, hx, h⟩; exact ⟨x, hx, (world_within w).1 h⟩
  · rintro ⟨x, hx, h⟩; exact ⟨x, hx, (world_within w).2 h⟩
theorem not_any (ha : issueOkB t a = true) {s : Int} (hs : 0 ≤ s) (hs2 : s ≤ allOf t) : anyWithin s (notL t a) = (List.range (nWorlds t)).all fun w => !hasW s w || !anyWithin (worldS w) a := by
  obtain ⟨h1, h3⟩ := issue_things ha
  have hu := union_all ha
  rw [law_not ha, any_one, Bool.eq_iff_iff, comp_within h1 h3 hs hs2 hu.1 hu.2, List.all_eq_true]
  simp only [any_world]
  constructor
  · intro h w _
    have h2 : s.toNat &&& (unionI a).toNat = 0 := by unfold andI at h; omega
    have h4 := congrArg (fun x => x.testBit w) h2
    simp only [Nat.testBit_and, Nat.zero_testBit] at h4
    unfold hasW
    cases h5 : s.toNat.testBit w
    · rfl
    · rw [h5] at h4; simp at h4; rw [h4]; rfl
  · intro h
    have h2 : s.toNat &&& (unionI a).toNat = 0 := by
      apply Nat.eq_of_testBit_eq
      intro i
      rw [Nat.testBit_and, Nat.zero_testBit]
      cases h5 : s.toNat.testBit i
      · rfl
      · have := h i (List.mem_range.2 (has_lt h1 h3 hs hs2 h5))
        unfold hasW at this
        rw [h5] at this
        simpa using this
    unfold andI; omega
/-- To support is to settle. -/
theorem support_settle (h1 : 1 ≤ t) (h3 : t ≤ 3) : ∀ (x : Sen) (s : Int), 0 ≤ s → s ≤ allOf t → holdsS t x s = anyWithin s (issueS t x)
  | .one, s, h0, hs => by
    show true = anyWithin s [allOf t]
    rw [any_one, (within_all h1 h3 h0).2 hs]
  | .zero, s, h0, _ => by
    show decide (s = 0) = anyWithin s [0]
    rw [any_one, Bool.eq_iff_iff, decide_eq_true_eq, within_nothing h0]
  | .thing i, s, _, _ => by
    show _ = anyWithin s [letterSet t i]
    rw [any_one]; rfl
  | .no x, s, h0, hs => by
    show _ = anyWithin s (notL t (issueS t x))
    rw [not_any (sen_issue h1 h3 x) h0 hs]
    unfold holdsS
    rw [Bool.eq_iff_iff, List.all_eq_true, List.all_eq_true]
    refine forall_congr' fun w => ?_
    refine imp_congr_right fun hw => ?_
    have := world_ok h1 h3 (List.mem_range.1 hw)
    rw [support_settle h1 h3 x _ this.1 this.2]
  | .ask x, s, h0, hs => by
    show _ = anyWithin s (whetherL t (issueS t x))
    have ha := sen_issue h1 h3 x
    rw [whether_eq ha, either_any ha (not_ok ha) h0, not_any ha h0 hs]
    unfold holdsS
    rw [support_settle h1 h3 x s h0 hs]
    congr 1
    rw [Bool.eq_iff_iff, List.all_eq_true, List.all_eq_true]
    refine forall_congr' fun w => ?_
    refine imp_congr_right fun hw => ?_
    have := world_ok h1 h3 (List.mem_range.1 hw)
    rw [support_settle h1 h3 x _ this.1 this.2]
  | .and_ x y, s, h0, hs => by
    show _ = anyWithin s (bothL t (issueS t x) (issueS t y))
    rw [both_any (sen_issue h1 h3 x) (sen_issue h1 h3 y) h0]
    unfold holdsS
    rw [support_settle h1 h3 x s h0 hs, support_settle h1 h3 y s h0 hs]
  | .or_ x y, s, h0, hs => by
    show _ = anyWithin s (eitherL t (issueS t x) (issueS t y))
    rw [either_any (sen_issue h1 h3 x) (sen_issue h1 h3 y) h0]
    unfold holdsS
    rw [support_settle h1 h3 x s h0 hs, support_settle h1 h3 y s h0 hs]
  | .if_ x y, s, h0, hs => by
    show _ = anyWithin s (ifL t (issueS t x) (issueS t y))
    rw [if_any (sen_issue h1 h3 x) (sen_issue h1 h3 y) h0 hs, Bool.eq_iff_iff, good_iff]
    unfold holdsS
    rw [List.all_eq_true]
    constructor
    · intro h u hu hw hua
      have hle := within_le hw h0
      have := h u.toNat (List.mem_range.2 (by omega))
      rw [Int.toNat_of_nonneg hu, hw, support_settle h1 h3 x u hu (by omega), support_settle h1 h3 y u hu (by omega), hua] at this
      simpa using this
    · intro h u hu
      rw [List.mem_range] at hu
      rw [support_settle h1 h3 x u (by omega) (by omega), support_settle h1 h3 y u (by omega) (by omega)]
      cases hw : withinB (u : Int) s
      · rfl
      · cases hx : anyWithin (u : Int) (issueS t x)
        · rfl
        · rw [h u (by omega) hw hx]; rfl

/-! Plain sentences, what is true, consequences. -/
/-- The worlds below k in which a sentence is true, as a set. -/
def trueTo (t : Int) (x : Sen) : Nat → Nat
  | 0 => 0
  | k + 1 => trueTo t x k + if holdsS t x (worldS k) = true then 2 ^ k else 0
theorem true_mod (h1 : 1 ≤ t) (h3 : t ≤ 3) (x : Sen) : ∀ k, k ≤ nWorlds t → trueTo t x k = (unionI (issueS t x)).toNat % 2 ^ k
  | 0, _ => by simp [trueTo, Nat.mod_one]
  | k + 1, hk => by
    have hw := world_ok h1 h3 (show k < nWorlds t by omega)
    unfold trueTo
    rw [true_mod h1 h3 x k (by omega), support_settle h1 h3 x _ hw.1 hw.2, any_world, Nat.mod_pow_succ]
    unfold hasW
    rw [Nat.testBit_eq_decide_div_mod_eq]
    rcases Nat.mod_two_eq_zero_or_one ((unionI (issueS t x)).toNat / 2 ^ k) with h | h <;> rw [h] <;> simp
theorem true_granted (h1 : 1 ≤ t) (h3 : t ≤ 3) (x : Sen) : (trueTo t x (nWorlds t) : Int) = unionI (issueS t x) := by
  have hu := union_all (sen_issue h1 h3 x)
  rw [true_mod h1 h3 x _ (Nat.le_refl _)]
  have key : ∀ n : Nat, unionI (issueS t x) ≤ ((2 ^ n : Nat) : Int) - 1 → (((unionI (issueS t x)).toNat % 2 ^ n : Nat) : Int) = unionI (issueS t x) := by
    intro n hn
    rw [Nat.mod_eq_of_lt (by omega)]; omega
  have : t = 1 ∨ t = 2 ∨ t = 3 := by omega
  rcases this with rfl | rfl | rfl
  · exact key 2 (by have : allOf 1 = 3 := rfl; omega)
  · exact key 4 (by have : allOf 2 = 15 := rfl; omega)
  · exact key 8 (by have : allOf 3 = 255 := rfl; omega)
end
end Go.Proofs.YtmdogidflaplkaaGreat

namespace Go.Proofs.YtmdogidflaplkaaGreat
open Go.RowKit

/-- The bytes of a text, as numbers. -/
def twoS (m : Nat) (x y : Sen) : Option Sen := if m = 38 then some (.and_ x y) else if m = 124 then some (.or_ x y) else if m = 62 then some (.if_ x y) else none
/-- The sentence at the head of a text, and what is left; n: no fewer than the bytes. -/
def readS (t : Int) : Nat → List Nat → Option (Sen × List Nat)
  | 0, _ => none
  | _ + 1, [] => none
  | n + 1, c :: l =>
    if c = 49 then some (.one, l) else if c = 48 then some (.zero, l)
    else if 97 ≤ c ∧ (c : Int) - 97 < t then some (.thing (c - 97), l)
    else if c = 33 then (readS t n l).map fun p => (.no p.1, p.2)
    else if c = 63 then (readS t n l).map fun p => (.ask p.1, p.2)
    else if c = 40 then
      match readS t n l with
      | some (x, m :: l2) =>
        match readS t n l2 with
        | some (y, e :: r) => if e = 41 then (twoS m x y).map fun z => (z, r) else none
        | _ => none
      | _ => none
    else none
theorem readS_less (t : Int) : ∀ (n : Nat) (l : List Nat) (x : Sen) (r : List Nat), readS t n l = some (x, r) → r.length < l.length
  | 0, _, _, _, h => by cases h
  | _ + 1, [], _, _, h => by cases h
  | n + 1, c :: l, x, r, h => by
    have ih := readS_less t n
    unfold readS at h
    split at h
    · cases h; simp
    split at h
    · cases h; simp
    split at h
    · cases h; simp
    split at h
    · obtain ⟨⟨y, q⟩, hy, e⟩ := Option.map_eq_some_iff.1 h
      cases e; have := ih _ _ _ hy; simp; omega
    split at h
    · obtain ⟨⟨y, q⟩, hy, e⟩ := Option.map_eq_some_iff.1 h
      cases e; have := ih _ _ _ hy; simp; omega
    split at h
    · split at h
      · rename_i x1 m l2 h1
        split at h
        · rename_i y1 e r1 h2
          split at h
          · obtain ⟨z, hz, e2⟩ := Option.map_eq_some_iff.1 h
            cases e2
            have := ih _ _ _ h1; have := ih _ _ _ h2; simp at *; omega
          · cases h
        · cases h
      · cases h
    · cases h
def textS : Sen → List Nat
  | .one => [49]
  | .zero => [48]
  | .thing i => [97 + i]
  | .no x => 33 :: textS x
  | .ask x => 63 :: textS x
  | .and_ x y => 40 :: (textS x ++ 38 :: (textS y ++ [41]))
  | .or_ x y => 40 :: (textS x ++ 124 :: (textS y ++ [41]))
  | .if_ x y => 40 :: (textS x ++ 62 :: (textS y ++ [41]))
theorem read_ok (t : Int) : ∀ (n : Nat) (l : List Nat) (x : Sen) (r : List Nat), readS t n l = some (x, r) → senOk t x = true ∧ l = textS x ++ r
  | 0, _, _, _, h => by cases h
  | _ + 1, [], _, _, h => by cases h
  | n + 1, c :: l, x, r, h => by
    have ih := read_ok t n
    unfold readS at h
    split at h
    · cases h; rename_i hc; subst hc; exact ⟨rfl, rfl⟩
    split at h
    · cases h; rename_i hc; subst hc; exact ⟨rfl, rfl⟩
    split at h
    · cases h; rename_i hc; exact ⟨by simp [senOk]; omega, by simp [textS]; omega⟩
    split at h
    · obtain ⟨⟨y, q⟩, hy, e⟩ := Option.map_eq_some_iff.1 h
      cases e; have := ih _ _ _ hy; rename_i hc; subst hc; exact ⟨this.1, by rw [this.2]; rfl⟩
    split at h
    · obtain ⟨⟨y, q⟩, hy, e⟩ := Option.map_eq_some_iff.1 h
      cases e; have := ih _ _ _ hy; rename_i hc; subst hc; exact ⟨this.1, by rw [this.2]; rfl⟩
    split at h
    · rename_i hc
      split at h
      · rename_i x1 m l2 h1
        split at h
        · rename_i y1 e r1 h2
          split at h
          · rename_i he
            obtain ⟨z, hz, e2⟩ := Option.map_eq_some_iff.1 h
            cases e2
            obtain ⟨a1, b1⟩ := ih _ _ _ h1
            obtain ⟨a2, b2⟩ := ih _ _ _ h2
            subst b1 b2 hc he
            unfold twoS at hz
            split at hz
            · cases hz; rename_i hm; subst hm; exact ⟨by simp [senOk, a1, a2], by simp [textS]⟩
            split at hz
            · cases hz; rename_i hm; subst hm; exact ⟨by simp [senOk, a1, a2], by simp [textS]⟩
            split at hz
            · cases hz; rename_i hm; subst hm; exact ⟨by simp [senOk, a1, a2], by simp [textS]⟩
            · cases hz
          · cases h
        · cases h
      · cases h
    · cases h
/-- The text of a sentence is read as the sentence, whatever stands behind it. -/
theorem read_text (t : Int) : ∀ (x : Sen) (n : Nat) (r : List Nat), senOk t x = true → t ≤ 26 → (textS x).length ≤ n → readS t n (textS x ++ r) = some (x, r)
  | .one, n + 1, r, _, _, _ => rfl
  | .zero, n + 1, r, _, _, _ => rfl
  | .thing i, n + 1, r, h, ht, _ => by
    simp only [senOk, decide_eq_true_eq] at h
    show readS t (n + 1) ((97 + i) :: r) = _
    unfold readS
    rw [if_neg (by omega), if_neg (by omega), if_pos (by omega)]
    congr 3; omega
  | .no x, n + 1, r, h, ht, hl => by
    simp only [textS, List.length_cons] at hl
    show readS t (n + 1) (33 :: (textS x ++ r)) = _
    unfold readS
    rw [if_neg (by omega), if_neg (by omega), if_neg (by omega), if_pos rfl, read_text t x n r h ht (by omega)]; rfl
  | .ask x, n + 1, r, h, ht, hl => by
    simp only [textS, List.length_cons] at hl
    show readS t (n + 1) (63 :: (textS x ++ r)) = _
    unfold readS
    rw [if_neg (by omega), if_neg (by omega), if_neg (by omega), if_neg (by omega), if_pos rfl, read_text t x n r h ht (by omega)]; rfl
  | .and_ x y, n + 1, r, h, ht, hl => by
    simp only [textS, List.length_cons, List.length_append, List.length_nil] at hl
    simp only [senOk, Bool.and_eq_true] at h
    show readS t (n + 1) (40 :: ((textS x ++ 38 :: (textS y ++ [41])) ++ r)) = _
    have e : (textS x ++ 38 :: (textS y ++ [41])) ++ r = textS x ++ (38 :: (textS y ++ (41 :: r))) := by simp
    rw [e]
    unfold readS
    rw [if_neg (by omega), if_neg (by omega), if_neg (by omega), if_neg (by omega), if_neg (by omega), if_pos rfl, read_text t x n _ h.1 ht (by omega)]
    simp only []
    rw [read_text t y n _ h.2 ht (by omega)]; rfl
  | .or_ x y, n + 1, r, h, ht, hl => by
    simp only [textS, List.length_cons, List.length_append, List.length_nil] at hl
    simp only [senOk, Bool.and_eq_true] at h
    show readS t (n + 1) (40 :: ((textS x ++ 124 :: (textS y ++ [41])) ++ r)) = _
    have e : (textS x ++ 124 :: (textS y ++ [41])) ++ r = textS x ++ (124 :: (textS y ++ (41 :: r))) := by simp
    rw [e]
    unfold readS
    rw [if_neg (by omega), if_neg (by omega), if_neg (by omega), if_neg (by omega), if_neg (by omega), if_pos rfl, read_text t x n _ h.1 ht (by omega)]
    simp only []
    rw [read_text t y n _ h.2 ht (by omega)]; rfl
  | .if_ x y, n + 1, r, h, ht, hl => by
    simp only [textS, List.length_cons, List.length_append, List.length_nil] at hl
    simp only [senOk, Bool.and_eq_true] at h
    show readS t (n + 1) (40 :: ((textS x ++ 62 :: (textS y ++ [41])) ++ r)) = _
    have e : (textS x ++ 62 :: (textS y ++ [41])) ++ r = textS x ++ (62 :: (textS y ++ (41 :: r))) := by simp
    rw [e]
    unfold readS
    rw [if_neg (by omega), if_neg (by omega), if_neg (by omega), if_neg (by omega), if_neg (by omega), if_pos rfl, read_text t x n _ h.1 ht (by omega)]
    simp only []
    rw [read_text t y n _ h.2 ht (by omega)]; rfl
  | .one, 0, _, _, _, hl => by simp [textS] at hl
  | .zero, 0, _, _, _, hl => by simp [textS] at hl
  | .thing _, 0, _, _, _, hl => by simp [textS] at hl
  | .no _, 0, _, _, _, hl => by simp [textS] at hl
  | .ask _, 0, _, _, _, hl => by simp [textS] at hl
  | .and_ _ _, 0, _, _, _, hl => by simp [textS] at hl
  | .or_ _ _, 0, _, _, _, hl => by simp [textS] at hl
  | .if_ _ _, 0, _, _, _, hl => by simp [textS] at hl
/-- The sentence of a text. -/
def senOf (t : Int) (l : List Nat) : Option Sen :=
  if 1 ≤ t ∧ t ≤ 3 ∧ l.length ≤ 60 then (match readS t l.length l with | some (x, []) => some x | _ => none) else none
theorem senOf_iff {t : Int} {l : List Nat} {x : Sen} : senOf t l = some x ↔ (1 ≤ t ∧ t ≤ 3 ∧ l.length ≤ 60 ∧ senOk t x = true ∧ l = textS x) := by
  unfold senOf
  constructor
  · intro h
    split at h
    · rename_i hc
      split at h
      · rename_i y hy
        cases h
        have := read_ok t _ _ _ _ hy
        simp at this
        exact ⟨hc.1, hc.2.1, hc.2.2, this.1, this.2⟩
      · cases h
    · cases h
  · rintro ⟨h1, h3, hl, hs, rfl⟩
    rw [if_pos ⟨h1, h3, hl⟩]
    have := read_text t x (textS x).length [] hs (by omega) (Nat.le_refl _)
    rw [List.append_nil] at this
    rw [this]

end Go.Proofs.YtmdogidflaplkaaGreat

namespace Go.Proofs.YtmdogidflaplkaaGreat
open Go.RowKit

section
variable {t : Int} {a b : List Int}
/-- Good lists: not empty, of sets. -/
def Good (t : Int) (xs : List Int) : Prop := xs ≠ [] ∧ ∀ x ∈ xs, setOkB t x = true
theorem Good.range {xs : List Int} (h : Good t xs) : ∀ x ∈ xs, 0 ≤ x ∧ x < 256 := sets_range h.2
theorem Good.both {xs ys : List Int} (hx : Good t xs) (hy : ys ≠ []) : Good t (bothX xs ys) := by
  refine ⟨fun e => ?_, fun s hs => ?_⟩
  · obtain ⟨x, hx⟩ := List.exists_mem_of_ne_nil xs hx.1
    obtain ⟨y, hy⟩ := List.exists_mem_of_ne_nil ys hy
    have := mem_bothX.2 ⟨x, hx, y, hy, rfl⟩
    rw [e] at this; cases this
  · obtain ⟨x, hxm, y, _, rfl⟩ := mem_bothX.1 hs
    exact andI_ok (hx.2 x hxm)
theorem Good.append {xs ys : List Int} (hx : Good t xs) (hy : ∀ y ∈ ys, setOkB t y = true) : Good t (xs ++ ys) :=
  ⟨fun e => hx.1 (List.append_eq_nil_iff.1 e).1, fun s hs => by
    rcases List.mem_append.1 hs with h | h
    · exact hx.2 s h
    · exact hy s h⟩
theorem Good.one {x : Int} (h : setOkB t x = true) : Good t [x] := ⟨by simp, fun y hy => by rw [List.mem_singleton] at hy; rw [hy]; exact h⟩
theorem Good.things {xs : List Int} (h : Good t xs) : 1 ≤ t ∧ t ≤ 3 := by
  obtain ⟨x, hx⟩ := List.exists_mem_of_ne_nil xs h.1
  have := setOkB_lt (h.2 x hx); omega
theorem Good.union {xs : List Int} (h : Good t xs) : 0 ≤ unionI xs ∧ unionI xs ≤ allOf t := by
  have h1 := tidy_ok h.1 h.2
  rw [← union_tidy h.range]; exact union_all h1
theorem Good.rest {xs : List Int} (h : Good t xs) : setOkB t (allOf t - unionI xs) = true := by
  have := h.union; have h2 := h.things
  exact setOk_of h2.1 h2.2 (by omega) (by omega)
end
end Go.Proofs.YtmdogidflaplkaaGreat

namespace Go.Proofs.YtmdogidflaplkaaGreat
open Go.RowKit

section
variable {t : Int} {sets : List Int}
theorem nW_pos (h1 : 1 ≤ t) (h3 : t ≤ 3) : 2 ≤ nWorlds t ∧ allOf t = ((2 ^ nWorlds t : Nat) : Int) - 1 := by
  have : t = 1 ∨ t = 2 ∨ t = 3 := by omega
  rcases this with rfl | rfl | rfl
  · exact ⟨by decide, rfl⟩
  · exact ⟨by decide, rfl⟩
  · exact ⟨by decide, rfl⟩
end
end Go.Proofs.YtmdogidflaplkaaGreat

namespace Go.Proofs.YtmdogidflaplkaaGreat
open Go.RowKit

section
variable {t : Int} {p : Nat → Int}
end
/-! A partition, read from the left. -/
/-! Joining sets. -/
/-! The finest partition that is coarser than two. -/
section
variable {t : Int} {a b : List Int}
end
end Go.Proofs.YtmdogidflaplkaaGreat

namespace Go.Proofs.YtmdogidflaplkaaGreat
open Go.RowKit Go.Shelf
attribute [local go_sem] Oper.semAt_some

theorem and_mod2 (a b : Nat) : (a &&& b) % 2 = (a % 2) &&& (b % 2) := by simpa using Nat.and_mod_two_pow (a := a) (b := b) (n := 1)
/-- The greatest set within s below p, where p is one. -/
theorem sub_le : ∀ (p s u : Nat), p &&& s = p → u &&& s = u → u < p → u ≤ (p - 1) &&& s := by
  intro p
  induction p using Nat.strongRecOn with
  | _ p ih =>
    intro s u hp hu hlt
    have p2 : p / 2 &&& s / 2 = p / 2 := by rw [← Nat.and_div_two, hp]
    have u2 : u / 2 &&& s / 2 = u / 2 := by rw [← Nat.and_div_two, hu]
    have e2 : ((p - 1) &&& s) / 2 = (p - 1) / 2 &&& s / 2 := Nat.and_div_two
    have em := and_mod2 (p - 1) s
    have um := and_mod2 u s
    rw [hu] at um
    rcases Nat.mod_two_eq_zero_or_one p with h | h
    · have h1 : (p - 1) / 2 = p / 2 - 1 := by omega
      have h2 : (p - 1) % 2 = 1 := by omega
      have := ih (p / 2) (by omega) (s / 2) (u / 2) p2 u2 (by omega)
      rw [h1] at e2
      rw [h2] at em
      rw [← e2] at this
      rcases Nat.mod_two_eq_zero_or_one s with h3 | h3 <;> rcases Nat.mod_two_eq_zero_or_one u with h4 | h4 <;> rw [h3] at em um <;> rw [h4] at um <;>
        first | (have em : ((p - 1) &&& s) % 2 = 0 := em; omega) | (have em : ((p - 1) &&& s) % 2 = 1 := em; omega) | (exfalso; revert um; decide)
    · have h1 : (p - 1) / 2 = p / 2 := by omega
      rw [h1, p2] at e2
      omega
theorem within_nat {a b : Int} (ha : 0 ≤ a) (h : withinB a b = true) : a.toNat &&& b.toNat = a.toNat := by
  have := of_decide_eq_true h
  unfold andI at this
  omega
theorem subs_next {s p u : Int} (hp : withinB p s = true) (h0 : 0 < p) (hu0 : 0 ≤ u) (hu : withinB u s = true) (hlt : u < p) : u ≤ andI (p - 1) s := by
  have := sub_le p.toNat s.toNat u.toNat (within_nat (by omega) hp) (within_nat hu0 hu) (by omega)
  have e : (p - 1).toNat = p.toNat - 1 := by omega
  unfold andI
  rw [e]
  omega

abbrev Sub (s : Int) := { x : Int // 0 ≤ x ∧ x ≤ s ∧ withinB x s = true }
/-- All sets within s have come. -/
def FullS (s : Int) (xs : List (Sub s)) : Prop := ∀ u : Sub s, u ∈ xs
def FromS (s p : Int) (xs : List (Sub s)) : Prop := ∀ u : Sub s, p < u.1 → u ∈ xs
theorem fromS_start (s : Int) : FromS s s [] := fun u h => by have := u.2; omega
theorem fromS_next {s p : Int} {pre : List (Sub s)} (hp : 0 ≤ p ∧ p ≤ s ∧ withinB p s = true) (h0 : 0 < p) (h : FromS s p pre) : FromS s (andI (p - 1) s) (pre ++ [⟨p, hp⟩]) := by
  intro u hu
  rcases Int.lt_or_le p u.1 with h1 | h1
  · exact List.mem_append.2 (.inl (h u h1))
  · by_cases e : u.1 = p
    · exact List.mem_append.2 (.inr (by rw [List.mem_singleton]; exact Subtype.ext e))
    · have := subs_next hp.2.2 h0 u.2.1 u.2.2.2 (by omega)
      omega
theorem fromS_end {s p : Int} {pre : List (Sub s)} (hp : 0 ≤ p ∧ p ≤ s ∧ withinB p s = true) (h0 : ¬ 0 < p) (h : FromS s p pre) : FullS s (pre ++ [⟨p, hp⟩]) := by
  intro u
  rcases Int.lt_or_le p u.1 with h1 | h1
  · exact List.mem_append.2 (.inl (h u h1))
  · exact List.mem_append.2 (.inr (by rw [List.mem_singleton]; exact Subtype.ext (by have := u.2.1; show u.1 = p; omega)))

set_option maxRecDepth 100000 in
set_option maxHeartbeats 2000000 in
theorem iSetsWithin1 (n : Nat) (hn : 1 ≤ n) (l Bn : Nat) (s : Int) (hs0 : 0 ≤ s) (hs : s < 256) (J Jx : List (Sub s) → World → Prop)
    (hY : ∀ pre x W, J pre W → pre.length < (s + 1).toNat → YieldAt Fence.wide (n - 1) Tryz.prog l #[.int .i64 x.1] W fun e W' =>
      (e = .returned (.bool true) ∧ J (pre ++ [x]) W' ∧ W'.heap[Bn]? = W.heap[Bn]?) ∨ (e = .returned (.bool false) ∧ Jx (pre ++ [x]) W'))
    (W : World) (hBn : W.cell? ⟨Bn, 0, none⟩ = some (.int .i64 s)) (h0 : J [] W) :
    CallsIn Fence.wide n Tryz.prog 118 #[.func (.yield l) #[] #[], .pointer (some ⟨Bn, 0, none⟩)] W fun e W' => (∃ v, e = .returned v) ∧
      ((∃ xs, FullS s xs ∧ J xs W') ∨ (∃ pre, True ∧ Jx pre W')) := by
  have HY : Hid _ := Lib.hid hY
  clear hY
  refine callsIn_of_wp Tryz.func118 rfl trivial ?_ rfl
  simp only [Tryz.ntmps118, List.size_toArray, List.length_cons, List.length_nil, Nat.reduceAdd, Nat.reduceSub, Array.replicate_succ, Array.replicate_zero, List.push_toArray, List.append_toArray, List.nil_append, List.cons_append]
  gi_wp2
  have HF : Hid (FromS s s []) := fromS_start s
  have HW : Hid (withinB s s = true) := within_refl s hs0
  gi_loopw [3] (fun v wr => ∃ (pre : List (Sub s)) (p : Int), v = .int .i64 p ∧ 0 ≤ p ∧ p ≤ s ∧ Hid (withinB p s = true) ∧ Hid (FromS s p pre) ∧ pre.length + p.toNat ≤ s.toNat ∧ wr.cell? ⟨Bn, 0, none⟩ = some (.int .i64 s) ∧ Hid (J pre wr))
    (fun v _ => (Go.RowKit.intOf v).toNat)
  case atStart => exact ⟨[], s, rfl, hs0, Int.le_refl _, HW, HF, by simp, hBn, h0⟩
  case round =>
    obtain ⟨pre, p, rfl, hp0, hps, hpw, hfrom, hlen, hcs, hJ⟩ := hrel
    obtain ⟨fn, tmps, assign, body, hy, hR⟩ := HY.out pre ⟨p, hp0, hps, hpw.out⟩ wr hJ.out (by omega)
    clear HF HW hBn h0
    by_cases hz : 0 < p
    · have HN := Lib.hid (fromS_next ⟨hp0, hps, hpw.out⟩ hz hfrom.out)
      have HBI := Lib.hid (bits_and (p - 1) s (by omega) (by omega) hs0 (by omega))
      have hle := andI_le (p - 1) s (by omega)
      have hge := andI_nonneg (p - 1) s
      have HWI := Lib.hid (within_andI_right (p - 1) s)
      clear hfrom hJ
      gi_wp2
      refine hR.mono ?_
      rintro e W3 (⟨rfl, hJ3, hk3⟩ | ⟨rfl, hJx3⟩)
      · have hc3 : W3.cell? ⟨Bn, 0, none⟩ = some (.int .i64 s) := (World.cell?_of_block hk3).trans hcs
        have HJ3 := Lib.hid hJ3
        clear hJ3 hk3 hcs
        gi_wp2
        rw [HBI.out]
        go_roundw
        case rel => exact ⟨_, andI (p - 1) s, rfl, hge, by omega, HWI, HN, by rw [List.length_append]; simp; omega, hc3, HJ3⟩
        case measure => simp [Go.RowKit.intOf]; omega
      · have HJx3 := Lib.hid hJx3
        clear hJx3
        gi_wp2
        go_end0
        exact ⟨⟨_, rfl⟩, .inr ⟨_, trivial, HJx3.out⟩⟩
    · have HN := Lib.hid (fromS_end ⟨hp0, hps, hpw.out⟩ hz hfrom.out)
      clear hfrom hJ
      gi_wp2
      refine hR.mono ?_
      rintro e W3 (⟨rfl, hJ3, hk3⟩ | ⟨rfl, hJx3⟩)
      · have HJ3 := Lib.hid hJ3
        clear hJ3 hk3 hcs
        gi_wp2
        go_end0
        exact ⟨⟨_, rfl⟩, .inl ⟨_, HN.out, HJ3.out⟩⟩
      · have HJx3 := Lib.hid hJx3
        clear hJx3
        gi_wp2
        go_end0
        exact ⟨⟨_, rfl⟩, .inr ⟨_, trivial, HJx3.out⟩⟩
end Go.Proofs.YtmdogidflaplkaaGreat
