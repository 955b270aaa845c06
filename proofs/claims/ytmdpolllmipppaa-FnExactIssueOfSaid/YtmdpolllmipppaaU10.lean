/-
  What the proofs of this seat's statements share (MathE, MathP, Subs, Supp).
-/
import Derived.RangeFuncNested
import Derived.RangeFuncBound
import Derived.RangeFuncCalls
import Derived.RangeFuncLeaves
import Derived.Shelf.Abstract
import Derived.Shelf.RegionOpen
import Derived.OwnWalkIn
import Derived.TacticsInMore
import Derived.LoopNIn
import Derived.LoopIn
import Derived.RangeFuncBox
import Derived.Outline
import Derived.Test.YtmdpolllmipppaaU7

namespace Go.Proofs.Ytmdpolllmipppaa
open Go.RowKit

inductive Sen where
  | one : Sen
  | zero : Sen
  | thing : Nat → Sen
  | no : Sen → Sen
  | ask : Sen → Sen
  | and_ : Sen → Sen → Sen
  | or_ : Sen → Sen → Sen
  | if_ : Sen → Sen → Sen

def letterSet (t : Int) (i : Nat) : Int := if i = 0 then andI 170 (allOf t) else if i = 1 then andI 204 (allOf t) else andI 240 (allOf t)
def senOk (t : Int) : Sen → Bool
  | .one => true
  | .zero => true
  | .thing i => decide ((i : Int) < t)
  | .no x => senOk t x
  | .ask x => senOk t x
  | .and_ x y => senOk t x && senOk t y
  | .or_ x y => senOk t x && senOk t y
  | .if_ x y => senOk t x && senOk t y
def issueS (t : Int) : Sen → List Int
  | .one => [allOf t]
  | .zero => [0]
  | .thing i => [letterSet t i]
  | .no x => notL t (issueS t x)
  | .ask x => whetherL t (issueS t x)
  | .and_ x y => bothL t (issueS t x) (issueS t y)
  | .or_ x y => eitherL t (issueS t x) (issueS t y)
  | .if_ x y => ifL t (issueS t x) (issueS t y)
def plainS : Sen → Bool
  | .one => true
  | .zero => true
  | .thing _ => true
  | .no x => plainS x
  | .ask _ => false
  | .and_ x y => plainS x && plainS y
  | .or_ _ _ => false
  | .if_ x y => plainS x && plainS y
def nWorlds (t : Int) : Nat := (worldsOf t).toNat
def hasW (s : Int) (w : Nat) : Bool := s.toNat.testBit w
def worldS (w : Nat) : Int := ((2 ^ w : Nat) : Int)
/-- Whether a set supports a sentence, by the sentence's own rules. -/
def holdsS (t : Int) : Sen → Int → Bool
  | .one, _ => true
  | .zero, s => decide (s = 0)
  | .thing i, s => withinB s (letterSet t i)
  | .no x, s => (List.range (nWorlds t)).all fun w => !hasW s w || !holdsS t x (worldS w)
  | .ask x, s => holdsS t x s || (List.range (nWorlds t)).all fun w => !hasW s w || !holdsS t x (worldS w)
  | .and_ x y, s => holdsS t x s && holdsS t y s
  | .or_ x y, s => holdsS t x s || holdsS t y s
  | .if_ x y, s => (List.range (s.toNat + 1)).all fun u : Nat => !withinB (u : Int) s || !holdsS t x (u : Int) || holdsS t y (u : Int)

section
variable {t : Int} {a b : List Int}
theorem letter_ok (h1 : 1 ≤ t) (h3 : t ≤ 3) (i : Nat) : setOkB t (letterSet t i) = true := by
  have hal := allOf_lt t
  have key : ∀ c : Int, setOkB t (andI c (allOf t)) = true := fun c => setOk_of h1 h3 (andI_nonneg _ _) (andI_le' _ _ hal.1)
  unfold letterSet
  split
  · exact key _
  · split <;> exact key _
theorem sen_issue (h1 : 1 ≤ t) (h3 : t ≤ 3) : ∀ s : Sen, issueOkB t (issueS t s) = true
  | .one => issue_one (setOk_of h1 h3 (allOf_lt t).1 (Int.le_refl _))
  | .zero => zero_issue h1 h3
  | .thing i => issue_one (letter_ok h1 h3 i)
  | .no x => not_ok (sen_issue h1 h3 x)
  | .ask x => whether_ok (sen_issue h1 h3 x)
  | .and_ x y => both_ok (sen_issue h1 h3 x) (sen_issue h1 h3 y)
  | .or_ x y => either_ok (sen_issue h1 h3 x) (sen_issue h1 h3 y)
  | .if_ x y => if_ok (sen_issue h1 h3 x) (sen_issue h1 h3 y)
theorem has_lt (h1 : 1 ≤ t) (h3 : t ≤ 3) {s : Int} (hs : 0 ≤ s) (hs2 : s ≤ allOf t) {w : Nat} (h : hasW s w = true) : w < nWorlds t := by
  have hb : ∀ n : Nat, s.toNat < 2 ^ n → w < n := by
    intro n hn
    rcases Nat.lt_or_ge w n with hw | hw
    · exact hw
    · unfold hasW at h
      rw [Nat.testBit_lt_two_pow (Nat.lt_of_lt_of_le hn (Nat.pow_le_pow_right (by omega) hw))] at h
      cases h
  have : t = 1 ∨ t = 2 ∨ t = 3 := by omega
  rcases this with rfl | rfl | rfl
  · exact hb 2 (by simp [allOf] at hs2; omega)
  · exact hb 4 (by simp [allOf] at hs2; omega)
  · exact hb 8 (by simp [allOf] at hs2; omega)
theorem world_ok (h1 : 1 ≤ t) (h3 : t ≤ 3) {w : Nat} (h : w < nWorlds t) : 0 ≤ worldS w ∧ worldS w ≤ allOf t := by
  have hp : ∀ n : Nat, w < n → 2 ^ w ≤ 2 ^ (n - 1) := fun n hn => Nat.pow_le_pow_right (by omega) (by omega)
  have hz : worldS w = ((2 ^ w : Nat) : Int) := rfl
  generalize 2 ^ w = q at hp hz
  rw [hz]
  refine ⟨by omega, ?_⟩
  have : t = 1 ∨ t = 2 ∨ t = 3 := by omega
  rcases this with rfl | rfl | rfl
  · have := hp 2 h; show (q : Int) ≤ 3; omega
  · have := hp 4 h; show (q : Int) ≤ 15; omega
  · have := hp 8 h; show (q : Int) ≤ 255; omega
theorem worldS_nonneg (w : Nat) : 0 ≤ worldS w := Int.natCast_nonneg _
theorem world_within (w : Nat) {x : Int} : withinB (worldS w) x = true ↔ hasW x w = true := by
  rw [within_iff (worldS_nonneg w)]
  unfold worldS hasW
  rw [Int.toNat_natCast]
  constructor
  · exact fun h => h w (by rw [Nat.testBit_two_pow]; simp)
  · intro h i hi
    rw [Nat.testBit_two_pow, decide_eq_true_eq] at hi
    subst hi; exact h
theorem any_world (w : Nat) : anyWithin (worldS w) a = hasW (unionI a) w := by
  unfold hasW
  rw [union_bit, Bool.eq_iff_iff, any_iff, List.any_eq_true]
  constructor
  · rintro ⟨x, hx, h⟩; exact ⟨x, hx, (world_within w).1 h⟩
  · rintro ⟨x, hx, h⟩; exact ⟨x, hx, (world_within w).2 h⟩
theorem not_any (ha : issueOkB t a = true) {s : Int} (hs : 0 ≤ s) (hs2 : s ≤ allOf t) : anyWithin s (notL t a) = (List.range (nWorlds t)).all fun w => !hasW s w || !anyWithin (worldS w) a := by
  obtain ⟨h1, h3⟩ := issue_things ha
  have hu := union_all ha
  rw [law_not ha, any_one, Bool.eq_iff_iff, comp_within h1 h3 hs hs2 hu.1 hu.2, List.all_eq_true]
  simp only [any_world]
  constructor
  · intro h w _
    have h2 : s.toNat &&& (unionI a).toNat = 0 := by unfold andI at h; omega
    have h4 := congrArg (fun x => x.testBit w) h2
    simp only [Nat.testBit_and, Nat.zero_testBit] at h4
    unfold hasW
    cases h5 : s.toNat.testBit w
    · rfl
    · rw [h5] at h4; simp at h4; rw [h4]; rfl
  · intro h
    have h2 : s.toNat &&& (unionI a).toNat = 0 := by
      apply Nat.eq_of_testBit_eq
      intro i
      rw [Nat.testBit_and, Nat.zero_testBit]
      cases h5 : s.toNat.testBit i
      · rfl
      · have := h i (List.mem_range.2 (has_lt h1 h3 hs hs2 h5))
        unfold hasW at this
        rw [h5] at this
        simpa using this
    unfold andI; omega
/-- To support is to settle. -/
theorem support_settle (h1 : 1 ≤ t) (h3 : t ≤ 3) : ∀ (x : Sen) (s : Int), 0 ≤ s → s ≤ allOf t → holdsS t x s = anyWithin s (issueS t x)
  | .one, s, h0, hs => by
    show true = anyWithin s [allOf t]
    rw [any_one, (within_all h1 h3 h0).2 hs]
  | .zero, s, h0, _ => by
    show decide (s = 0) = anyWithin s [0]
    rw [any_one, Bool.eq_iff_iff, decide_eq_true_eq, within_nothing h0]
  | .thing i, s, _, _ => by
    show _ = anyWithin s [letterSet t i]
    rw [any_one]; rfl
  | .no x, s, h0, hs => by
    show _ = anyWithin s (notL t (issueS t x))
    rw [not_any (sen_issue h1 h3 x) h0 hs]
    unfold holdsS
    rw [Bool.eq_iff_iff, List.all_eq_true, List.all_eq_true]
    refine forall_congr' fun w => ?_
    refine imp_congr_right fun hw => ?_
    have := world_ok h1 h3 (List.mem_range.1 hw)
    rw [support_settle h1 h3 x _ this.1 this.2]
  | .ask x, s, h0, hs => by
    show _ = anyWithin s (whetherL t (issueS t x))
    have ha := sen_issue h1 h3 x
    rw [whether_eq ha, either_any ha (not_ok ha) h0, not_any ha h0 hs]
    unfold holdsS
    rw [support_settle h1 h3 x s h0 hs]
    congr 1
    rw [Bool.eq_iff_iff, List.all_eq_true, List.all_eq_true]
    refine forall_congr' fun w => ?_
    refine imp_congr_right fun hw => ?_
    have := world_ok h1 h3 (List.mem_range.1 hw)
    rw [support_settle h1 h3 x _ this.1 this.2]
  | .and_ x y, s, h0, hs => by
    show _ = anyWithin s (bothL t (issueS t x) (issueS t y))
    rw [both_any (sen_issue h1 h3 x) (sen_issue h1 h3 y) h0]
    unfold holdsS
    rw [support_settle h1 h3 x s h0 hs, support_settle h1 h3 y s h0 hs]
  | .or_ x y, s, h0, hs => by
    show _ = anyWithin s (eitherL t (issueS t x) (issueS t y))
    rw [either_any (sen_issue h1 h3 x) (sen_issue h1 h3 y) h0]
    unfold holdsS
    rw [support_settle h1 h3 x s h0 hs, support_settle h1 h3 y s h0 hs]
  | .if_ x y, s, h0, hs => by
    show _ = anyWithin s (ifL t (issueS t x) (issueS t y))
    rw [if_any (sen_issue h1 h3 x) (sen_issue h1 h3 y) h0 hs, Bool.eq_iff_iff, good_iff]
    unfold holdsS
    rw [List.all_eq_true]
    constructor
    · intro h u hu hw hua
      have hle := within_le hw h0
      have := h u.toNat (List.mem_range.2 (by omega))
      rw [Int.toNat_of_nonneg hu, hw, support_settle h1 h3 x u hu (by omega), support_settle h1 h3 y u hu (by omega), hua] at this
      simpa using this
    · intro h u hu
      rw [List.mem_range] at hu
      rw [support_settle h1 h3 x u (by omega) (by omega), support_settle h1 h3 y u (by omega) (by omega)]
      cases hw : withinB (u : Int) s
      · rfl
      · cases hx : anyWithin (u : Int) (issueS t x)
        · rfl
        · rw [h u (by omega) hw hx]; rfl

/-! Plain sentences, what is true, consequences. -/
theorem both_one {x y : Int} (hx : setOkB t x = true) (hy : setOkB t y = true) : bothL t [x] [y] = [andI x y] := by
  rw [both_eq (issue_one hx) (issue_one hy)]
  exact issue_tidy (issue_one (t := t) (andI_ok hx))
theorem or_ok {x y : Int} (hx : setOkB t x = true) (hy : setOkB t y = true) : setOkB t (orI x y) = true := by
  have h1 := setOkB_lt hx
  have h2 := setOkB_lt hy
  refine setOk_of h1.1 h1.2.1 (orI_nonneg _ _) ?_
  refine (within_all h1.1 h1.2.1 (orI_nonneg _ _)).1 (or_within h1.2.2.1 h2.2.2.1 ?_ ?_)
  · exact (within_all h1.1 h1.2.1 h1.2.2.1).2 h1.2.2.2.1
  · exact (within_all h1.1 h1.2.1 h2.2.2.1).2 h2.2.2.2.1
theorem if_one {x y : Int} (hx : setOkB t x = true) (hy : setOkB t y = true) : ifL t [x] [y] = [orI (allOf t - x) y] := by
  obtain ⟨h1, h3, hx0, hxa, hx2⟩ := setOkB_lt hx
  obtain ⟨_, _, hy0, hya, hy2⟩ := setOkB_lt hy
  have hr : setOkB t (allOf t - x) = true := setOk_of h1 h3 (by omega) (by omega)
  refine any_ext (if_ok (issue_one hx) (issue_one hy)) (issue_one (or_ok hr hy)) fun s h0 hs => ?_
  rw [if_any (issue_one hx) (issue_one hy) h0 hs, any_one]
  unfold goodB
  simp only [List.all_cons, List.all_nil, Bool.and_true, any_one]
  rw [Bool.eq_iff_iff, within_iff (andI_nonneg _ _), within_iff h0]
  obtain ⟨n, _, hn⟩ := all_pow h1 h3
  have e : (allOf t - x).toNat = 2 ^ n - (x.toNat + 1) := by rw [hn]; omega
  have hxl : x.toNat < 2 ^ n := by rw [hn] at hxa; omega
  have hsl : s.toNat < 2 ^ n := by rw [hn] at hs; omega
  refine forall_congr' fun i => ?_
  show ((((s.toNat &&& x.toNat : Nat) : Int)).toNat.testBit i = true → _) ↔ (_ → ((((allOf t - x).toNat ||| y.toNat : Nat) : Int)).toNat.testBit i = true)
  rw [Int.toNat_natCast, Int.toNat_natCast, Nat.testBit_and, Nat.testBit_or, e, Nat.testBit_two_pow_sub_succ hxl]
  cases h5 : s.toNat.testBit i
  · simp
  · have : i < n := by
      rcases Nat.lt_or_ge i n with h | h
      · exact h
      · rw [Nat.testBit_lt_two_pow (Nat.lt_of_lt_of_le hsl (Nat.pow_le_pow_right (by omega) h))] at h5; cases h5
    cases x.toNat.testBit i <;> cases y.toNat.testBit i <;> simp [this]
theorem plain_one (h1 : 1 ≤ t) (h3 : t ≤ 3) : ∀ x : Sen, plainS x = true → ∃ g, setOkB t g = true ∧ issueS t x = [g]
  | .one, _ => ⟨_, setOk_of h1 h3 (allOf_lt t).1 (Int.le_refl _), rfl⟩
  | .zero, _ => ⟨0, setOk_of h1 h3 (by omega) (allOf_lt t).1, rfl⟩
  | .thing i, _ => ⟨_, letter_ok h1 h3 i, rfl⟩
  | .no x, _ => ⟨_, rest_ok (sen_issue h1 h3 x), law_not (sen_issue h1 h3 x)⟩
  | .ask _, h => by cases h
  | .and_ x y, h => by
    unfold plainS at h
    rw [Bool.and_eq_true] at h
    obtain ⟨p, hp, ep⟩ := plain_one h1 h3 x h.1
    obtain ⟨q, hq, eq⟩ := plain_one h1 h3 y h.2
    exact ⟨_, andI_ok hp, by show bothL t (issueS t x) (issueS t y) = _; rw [ep, eq, both_one hp hq]⟩
  | .or_ _ _, h => by cases h
  | .if_ x y, h => by
    unfold plainS at h
    rw [Bool.and_eq_true] at h
    obtain ⟨p, hp, ep⟩ := plain_one h1 h3 x h.1
    obtain ⟨q, hq, eq⟩ := plain_one h1 h3 y h.2
    have h5 := setOkB_lt hp
    have hr : setOkB t (allOf t - p) = true := setOk_of h1 h3 (by omega) (by omega)
    exact ⟨_, or_ok hr hq, by show ifL t (issueS t x) (issueS t y) = _; rw [ep, eq, if_one hp hq]⟩
theorem plain_granted (h1 : 1 ≤ t) (h3 : t ≤ 3) {x : Sen} (h : plainS x = true) : issueS t x = [unionI (issueS t x)] := by
  obtain ⟨g, hg, e⟩ := plain_one h1 h3 x h
  rw [e, union_one (setOkB_lt hg).2.2.1]

/-- The worlds below k in which a sentence is true, as a set. -/
def trueTo (t : Int) (x : Sen) : Nat → Nat
  | 0 => 0
  | k + 1 => trueTo t x k + if holdsS t x (worldS k) = true then 2 ^ k else 0
theorem true_mod (h1 : 1 ≤ t) (h3 : t ≤ 3) (x : Sen) : ∀ k, k ≤ nWorlds t → trueTo t x k = (unionI (issueS t x)).toNat % 2 ^ k
  | 0, _ => by simp [trueTo, Nat.mod_one]
  | k + 1, hk => by
    have hw := world_ok h1 h3 (show k < nWorlds t by omega)
    unfold trueTo
    rw [true_mod h1 h3 x k (by omega), support_settle h1 h3 x _ hw.1 hw.2, any_world, Nat.mod_pow_succ]
    unfold hasW
    rw [Nat.testBit_eq_decide_div_mod_eq]
    rcases Nat.mod_two_eq_zero_or_one ((unionI (issueS t x)).toNat / 2 ^ k) with h | h <;> rw [h] <;> simp
theorem true_granted (h1 : 1 ≤ t) (h3 : t ≤ 3) (x : Sen) : (trueTo t x (nWorlds t) : Int) = unionI (issueS t x) := by
  have hu := union_all (sen_issue h1 h3 x)
  rw [true_mod h1 h3 x _ (Nat.le_refl _)]
  have key : ∀ n : Nat, unionI (issueS t x) ≤ ((2 ^ n : Nat) : Int) - 1 → (((unionI (issueS t x)).toNat % 2 ^ n : Nat) : Int) = unionI (issueS t x) := by
    intro n hn
    rw [Nat.mod_eq_of_lt (by omega)]; omega
  have : t = 1 ∨ t = 2 ∨ t = 3 := by omega
  rcases this with rfl | rfl | rfl
  · exact key 2 (by have : allOf 1 = 3 := rfl; omega)
  · exact key 4 (by have : allOf 2 = 15 := rfl; omega)
  · exact key 8 (by have : allOf 3 = 255 := rfl; omega)
theorem follows_union (ha : issueOkB t a = true) (hb : issueOkB t b = true) (h : followsB t a b = true) : withinB (unionI a) (unionI b) = true := by
  refine union_least (issue_pos ha) fun x hx => ?_
  have := setOkB_lt (issue_sets ha x hx)
  have h2 := (follows_iff ha hb).1 h x this.2.2.1 this.2.2.2.1 (any_iff.2 ⟨x, hx, within_refl x this.2.2.1⟩)
  obtain ⟨y, hy, hw⟩ := any_iff.1 h2
  exact within_trans this.2.2.1 (issue_pos hb y hy) hw (mem_union (issue_pos hb) hy)
theorem entails_if (h1 : 1 ≤ t) (h3 : t ≤ 3) (x y : Sen) : holdsS t (.if_ x y) (allOf t) = followsB t (issueS t x) (issueS t y) := by
  have hx := sen_issue h1 h3 x
  have hy := sen_issue h1 h3 y
  have hal := allOf_lt t
  rw [support_settle h1 h3 _ _ hal.1 (Int.le_refl _)]
  show anyWithin (allOf t) (ifL t (issueS t x) (issueS t y)) = _
  rw [← law_follows_if hx hy, settles_any (if_ok hx hy) hal.1 (Int.le_refl _)]
end
end Go.Proofs.Ytmdpolllmipppaa

namespace Go.Proofs.Ytmdpolllmipppaa
open Go.RowKit

/-- The bytes of a text, as numbers. -/
def twoS (m : Nat) (x y : Sen) : Option Sen := if m = 38 then some (.and_ x y) else if m = 124 then some (.or_ x y) else if m = 62 then some (.if_ x y) else none
/-- The sentence at the head of a text, and what is left; n: no fewer than the bytes. -/
def readS (t : Int) : Nat → List Nat → Option (Sen × List Nat)
  | 0, _ => none
  | _ + 1, [] => none
  | n + 1, c :: l =>
    if c = 49 then some (.one, l) else if c = 48 then some (.zero, l)
    else if 97 ≤ c ∧ (c : Int) - 97 < t then some (.thing (c - 97), l)
    else if c = 33 then (readS t n l).map fun p => (.no p.1, p.2)
    else if c = 63 then (readS t n l).map fun p => (.ask p.1, p.2)
    else if c = 40 then
      match readS t n l with
      | some (x, m :: l2) =>
        match readS t n l2 with
        | some (y, e :: r) => if e = 41 then (twoS m x y).map fun z => (z, r) else none
        | _ => none
      | _ => none
    else none
theorem readS_less (t : Int) : ∀ (n : Nat) (l : List Nat) (x : Sen) (r : List Nat), readS t n l = some (x, r) → r.length < l.length
  | 0, _, _, _, h => by cases h
  | _ + 1, [], _, _, h => by cases h
  | n + 1, c :: l, x, r, h => by
    have ih := readS_less t n
    unfold readS at h
    split at h
    · cases h; simp
    split at h
    · cases h; simp
    split at h
    · cases h; simp
    split at h
    · obtain ⟨⟨y, q⟩, hy, e⟩ := Option.map_eq_some_iff.1 h
      cases e; have := ih _ _ _ hy; simp; omega
    split at h
    · obtain ⟨⟨y, q⟩, hy, e⟩ := Option.map_eq_some_iff.1 h
      cases e; have := ih _ _ _ hy; simp; omega
    split at h
    · split at h
      · rename_i x1 m l2 h1
        split at h
        · rename_i y1 e r1 h2
          split at h
          · obtain ⟨z, hz, e2⟩ := Option.map_eq_some_iff.1 h
            cases e2
            have := ih _ _ _ h1; have := ih _ _ _ h2; simp at *; omega
          · cases h
        · cases h
      · cases h
    · cases h
/-- More fuel than bytes changes nothing. -/
theorem readS_more (t : Int) : ∀ (n m : Nat) (l : List Nat), l.length ≤ n → l.length ≤ m → readS t n l = readS t m l
  | 0, 0, _, _, _ => rfl
  | 0, m + 1, l, h, _ => by
    have : l = [] := List.eq_nil_of_length_eq_zero (by omega)
    subst this; rfl
  | n + 1, 0, l, _, h => by
    have : l = [] := List.eq_nil_of_length_eq_zero (by omega)
    subst this; rfl
  | n + 1, m + 1, [], _, _ => rfl
  | n + 1, m + 1, c :: l, hn, hm => by
    simp only [List.length_cons] at hn hm
    have e1 := readS_more t n m l (by omega) (by omega)
    have e2 : ∀ x m' l2, readS t m l = some (x, m' :: l2) → readS t n l2 = readS t m l2 := fun x m' l2 h => by
      have := readS_less t m l x _ h
      simp only [List.length_cons] at this
      exact readS_more t n m l2 (by omega) (by omega)
    unfold readS
    rw [e1]
    rcases h : readS t m l with _ | ⟨x, _ | ⟨m', l2⟩⟩
    · rfl
    · rfl
    · simp only []
      rw [e2 x m' l2 h]
def textS : Sen → List Nat
  | .one => [49]
  | .zero => [48]
  | .thing i => [97 + i]
  | .no x => 33 :: textS x
  | .ask x => 63 :: textS x
  | .and_ x y => 40 :: (textS x ++ 38 :: (textS y ++ [41]))
  | .or_ x y => 40 :: (textS x ++ 124 :: (textS y ++ [41]))
  | .if_ x y => 40 :: (textS x ++ 62 :: (textS y ++ [41]))
theorem read_ok (t : Int) : ∀ (n : Nat) (l : List Nat) (x : Sen) (r : List Nat), readS t n l = some (x, r) → senOk t x = true ∧ l = textS x ++ r
  | 0, _, _, _, h => by cases h
  | _ + 1, [], _, _, h => by cases h
  | n + 1, c :: l, x, r, h => by
    have ih := read_ok t n
    unfold readS at h
    split at h
    · cases h; rename_i hc; subst hc; exact ⟨rfl, rfl⟩
    split at h
    · cases h; rename_i hc; subst hc; exact ⟨rfl, rfl⟩
    split at h
    · cases h; rename_i hc; exact ⟨by simp [senOk]; omega, by simp [textS]; omega⟩
    split at h
    · obtain ⟨⟨y, q⟩, hy, e⟩ := Option.map_eq_some_iff.1 h
      cases e; have := ih _ _ _ hy; rename_i hc; subst hc; exact ⟨this.1, by rw [this.2]; rfl⟩
    split at h
    · obtain ⟨⟨y, q⟩, hy, e⟩ := Option.map_eq_some_iff.1 h
      cases e; have := ih _ _ _ hy; rename_i hc; subst hc; exact ⟨this.1, by rw [this.2]; rfl⟩
    split at h
    · rename_i hc
      split at h
      · rename_i x1 m l2 h1
        split at h
        · rename_i y1 e r1 h2
          split at h
          · rename_i he
            obtain ⟨z, hz, e2⟩ := Option.map_eq_some_iff.1 h
            cases e2
            obtain ⟨a1, b1⟩ := ih _ _ _ h1
            obtain ⟨a2, b2⟩ := ih _ _ _ h2
            subst b1 b2 hc he
            unfold twoS at hz
            split at hz
            · cases hz; rename_i hm; subst hm; exact ⟨by simp [senOk, a1, a2], by simp [textS]⟩
            split at hz
            · cases hz; rename_i hm; subst hm; exact ⟨by simp [senOk, a1, a2], by simp [textS]⟩
            split at hz
            · cases hz; rename_i hm; subst hm; exact ⟨by simp [senOk, a1, a2], by simp [textS]⟩
            · cases hz
          · cases h
        · cases h
      · cases h
    · cases h
/-- The text of a sentence is read as the sentence, whatever stands behind it. -/
theorem read_text (t : Int) : ∀ (x : Sen) (n : Nat) (r : List Nat), senOk t x = true → t ≤ 26 → (textS x).length ≤ n → readS t n (textS x ++ r) = some (x, r)
  | .one, n + 1, r, _, _, _ => rfl
  | .zero, n + 1, r, _, _, _ => rfl
  | .thing i, n + 1, r, h, ht, _ => by
    simp only [senOk, decide_eq_true_eq] at h
    show readS t (n + 1) ((97 + i) :: r) = _
    unfold readS
    rw [if_neg (by omega), if_neg (by omega), if_pos (by omega)]
    congr 3; omega
  | .no x, n + 1, r, h, ht, hl => by
    simp only [textS, List.length_cons] at hl
    show readS t (n + 1) (33 :: (textS x ++ r)) = _
    unfold readS
    rw [if_neg (by omega), if_neg (by omega), if_neg (by omega), if_pos rfl, read_text t x n r h ht (by omega)]; rfl
  | .ask x, n + 1, r, h, ht, hl => by
    simp only [textS, List.length_cons] at hl
    show readS t (n + 1) (63 :: (textS x ++ r)) = _
    unfold readS
    rw [if_neg (by omega), if_neg (by omega), if_neg (by omega), if_neg (by omega), if_pos rfl, read_text t x n r h ht (by omega)]; rfl
  | .and_ x y, n + 1, r, h, ht, hl => by
    simp only [textS, List.length_cons, List.length_append, List.length_nil] at hl
    simp only [senOk, Bool.and_eq_true] at h
    show readS t (n + 1) (40 :: ((textS x ++ 38 :: (textS y ++ [41])) ++ r)) = _
    have e : (textS x ++ 38 :: (textS y ++ [41])) ++ r = textS x ++ (38 :: (textS y ++ (41 :: r))) := by simp
    rw [e]
    unfold readS
    rw [if_neg (by omega), if_neg (by omega), if_neg (by omega), if_neg (by omega), if_neg (by omega), if_pos rfl, read_text t x n _ h.1 ht (by omega)]
    simp only []
    rw [read_text t y n _ h.2 ht (by omega)]; rfl
  | .or_ x y, n + 1, r, h, ht, hl => by
    simp only [textS, List.length_cons, List.length_append, List.length_nil] at hl
    simp only [senOk, Bool.and_eq_true] at h
    show readS t (n + 1) (40 :: ((textS x ++ 124 :: (textS y ++ [41])) ++ r)) = _
    have e : (textS x ++ 124 :: (textS y ++ [41])) ++ r = textS x ++ (124 :: (textS y ++ (41 :: r))) := by simp
    rw [e]
    unfold readS
    rw [if_neg (by omega), if_neg (by omega), if_neg (by omega), if_neg (by omega), if_neg (by omega), if_pos rfl, read_text t x n _ h.1 ht (by omega)]
    simp only []
    rw [read_text t y n _ h.2 ht (by omega)]; rfl
  | .if_ x y, n + 1, r, h, ht, hl => by
    simp only [textS, List.length_cons, List.length_append, List.length_nil] at hl
    simp only [senOk, Bool.and_eq_true] at h
    show readS t (n + 1) (40 :: ((textS x ++ 62 :: (textS y ++ [41])) ++ r)) = _
    have e : (textS x ++ 62 :: (textS y ++ [41])) ++ r = textS x ++ (62 :: (textS y ++ (41 :: r))) := by simp
    rw [e]
    unfold readS
    rw [if_neg (by omega), if_neg (by omega), if_neg (by omega), if_neg (by omega), if_neg (by omega), if_pos rfl, read_text t x n _ h.1 ht (by omega)]
    simp only []
    rw [read_text t y n _ h.2 ht (by omega)]; rfl
  | .one, 0, _, _, _, hl => by simp [textS] at hl
  | .zero, 0, _, _, _, hl => by simp [textS] at hl
  | .thing _, 0, _, _, _, hl => by simp [textS] at hl
  | .no _, 0, _, _, _, hl => by simp [textS] at hl
  | .ask _, 0, _, _, _, hl => by simp [textS] at hl
  | .and_ _ _, 0, _, _, _, hl => by simp [textS] at hl
  | .or_ _ _, 0, _, _, _, hl => by simp [textS] at hl
  | .if_ _ _, 0, _, _, _, hl => by simp [textS] at hl
/-- The sentence of a text. -/
def senOf (t : Int) (l : List Nat) : Option Sen :=
  if 1 ≤ t ∧ t ≤ 3 ∧ l.length ≤ 60 then (match readS t l.length l with | some (x, []) => some x | _ => none) else none
theorem senOf_iff {t : Int} {l : List Nat} {x : Sen} : senOf t l = some x ↔ (1 ≤ t ∧ t ≤ 3 ∧ l.length ≤ 60 ∧ senOk t x = true ∧ l = textS x) := by
  unfold senOf
  constructor
  · intro h
    split at h
    · rename_i hc
      split at h
      · rename_i y hy
        cases h
        have := read_ok t _ _ _ _ hy
        simp at this
        exact ⟨hc.1, hc.2.1, hc.2.2, this.1, this.2⟩
      · cases h
    · cases h
  · rintro ⟨h1, h3, hl, hs, rfl⟩
    rw [if_pos ⟨h1, h3, hl⟩]
    have := read_text t x (textS x).length [] hs (by omega) (Nat.le_refl _)
    rw [List.append_nil] at this
    rw [this]

end Go.Proofs.Ytmdpolllmipppaa

namespace Go.Proofs.Ytmdpolllmipppaa
open Go.RowKit Go.Shelf
attribute [local go_sem] Oper.semAt_some

theorem and_mod2 (a b : Nat) : (a &&& b) % 2 = (a % 2) &&& (b % 2) := by simpa using Nat.and_mod_two_pow (a := a) (b := b) (n := 1)
/-- The greatest set within s below p, where p is one. -/
theorem sub_le : ∀ (p s u : Nat), p &&& s = p → u &&& s = u → u < p → u ≤ (p - 1) &&& s := by
  intro p
  induction p using Nat.strongRecOn with
  | _ p ih =>
    intro s u hp hu hlt
    have p2 : p / 2 &&& s / 2 = p / 2 := by rw [← Nat.and_div_two, hp]
    have u2 : u / 2 &&& s / 2 = u / 2 := by rw [← Nat.and_div_two, hu]
    have e2 : ((p - 1) &&& s) / 2 = (p - 1) / 2 &&& s / 2 := Nat.and_div_two
    have em := and_mod2 (p - 1) s
    have um := and_mod2 u s
    rw [hu] at um
    rcases Nat.mod_two_eq_zero_or_one p with h | h
    · have h1 : (p - 1) / 2 = p / 2 - 1 := by omega
      have h2 : (p - 1) % 2 = 1 := by omega
      have := ih (p / 2) (by omega) (s / 2) (u / 2) p2 u2 (by omega)
      rw [h1] at e2
      rw [h2] at em
      rw [← e2] at this
      rcases Nat.mod_two_eq_zero_or_one s with h3 | h3 <;> rcases Nat.mod_two_eq_zero_or_one u with h4 | h4 <;> rw [h3] at em um <;> rw [h4] at um <;>
        first | (have em : ((p - 1) &&& s) % 2 = 0 := em; omega) | (have em : ((p - 1) &&& s) % 2 = 1 := em; omega) | (exfalso; revert um; decide)
    · have h1 : (p - 1) / 2 = p / 2 := by omega
      rw [h1, p2] at e2
      omega
theorem within_nat {a b : Int} (ha : 0 ≤ a) (h : withinB a b = true) : a.toNat &&& b.toNat = a.toNat := by
  have := of_decide_eq_true h
  unfold andI at this
  omega
theorem subs_next {s p u : Int} (hp : withinB p s = true) (h0 : 0 < p) (hu0 : 0 ≤ u) (hu : withinB u s = true) (hlt : u < p) : u ≤ andI (p - 1) s := by
  have := sub_le p.toNat s.toNat u.toNat (within_nat (by omega) hp) (within_nat hu0 hu) (by omega)
  have e : (p - 1).toNat = p.toNat - 1 := by omega
  unfold andI
  rw [e]
  omega

abbrev Sub (s : Int) := { x : Int // 0 ≤ x ∧ x ≤ s ∧ withinB x s = true }
/-- All sets within s have come. -/
def FullS (s : Int) (xs : List (Sub s)) : Prop := ∀ u : Sub s, u ∈ xs
def FromS (s p : Int) (xs : List (Sub s)) : Prop := ∀ u : Sub s, p < u.1 → u ∈ xs
theorem fromS_start (s : Int) : FromS s s [] := fun u h => by have := u.2; omega
theorem fromS_next {s p : Int} {pre : List (Sub s)} (hp : 0 ≤ p ∧ p ≤ s ∧ withinB p s = true) (h0 : 0 < p) (h : FromS s p pre) : FromS s (andI (p - 1) s) (pre ++ [⟨p, hp⟩]) := by
  intro u hu
  rcases Int.lt_or_le p u.1 with h1 | h1
  · exact List.mem_append.2 (.inl (h u h1))
  · by_cases e : u.1 = p
    · exact List.mem_append.2 (.inr (by rw [List.mem_singleton]; exact Subtype.ext e))
    · have := subs_next hp.2.2 h0 u.2.1 u.2.2.2 (by omega)
      omega
theorem fromS_end {s p : Int} {pre : List (Sub s)} (hp : 0 ≤ p ∧ p ≤ s ∧ withinB p s = true) (h0 : ¬ 0 < p) (h : FromS s p pre) : FullS s (pre ++ [⟨p, hp⟩]) := by
  intro u
  rcases Int.lt_or_le p u.1 with h1 | h1
  · exact List.mem_append.2 (.inl (h u h1))
  · exact List.mem_append.2 (.inr (by rw [List.mem_singleton]; exact Subtype.ext (by have := u.2.1; show u.1 = p; omega)))

set_option maxRecDepth 100000 in
set_option maxHeartbeats 2000000 in
theorem iSetsWithin1 (n : Nat) (hn : 1 ≤ n) (l Bn : Nat) (s : Int) (hs0 : 0 ≤ s) (hs : s < 256) (J Jx : List (Sub s) → World → Prop)
    (hY : ∀ pre x W, J pre W → pre.length < (s + 1).toNat → YieldAt Fence.wide (n - 1) Try.prog l #[.int .i64 x.1] W fun e W' =>
      (e = .returned (.bool true) ∧ J (pre ++ [x]) W' ∧ W'.heap[Bn]? = W.heap[Bn]?) ∨ (e = .returned (.bool false) ∧ Jx (pre ++ [x]) W'))
    (W : World) (hBn : W.cell? ⟨Bn, 0, none⟩ = some (.int .i64 s)) (h0 : J [] W) :
    CallsIn Fence.wide n Try.prog 120 #[.func (.yield l) #[] #[], .pointer (some ⟨Bn, 0, none⟩)] W fun e W' => (∃ v, e = .returned v) ∧
      ((∃ xs, FullS s xs ∧ J xs W') ∨ (∃ pre, True ∧ Jx pre W')) := by
  have HY : Hid _ := Lib.hid hY
  clear hY
  refine callsIn_of_wp Try.func120 rfl trivial ?_ rfl
  simp only [Try.ntmps120, List.size_toArray, List.length_cons, List.length_nil, Nat.reduceAdd, Nat.reduceSub, Array.replicate_succ, Array.replicate_zero, List.push_toArray, List.append_toArray, List.nil_append, List.cons_append]
  gi_wp2
  have HF : Hid (FromS s s []) := fromS_start s
  have HW : Hid (withinB s s = true) := within_refl s hs0
  gi_loopw [3] (fun v wr => ∃ (pre : List (Sub s)) (p : Int), v = .int .i64 p ∧ 0 ≤ p ∧ p ≤ s ∧ Hid (withinB p s = true) ∧ Hid (FromS s p pre) ∧ pre.length + p.toNat ≤ s.toNat ∧ wr.cell? ⟨Bn, 0, none⟩ = some (.int .i64 s) ∧ Hid (J pre wr))
    (fun v _ => (Go.RowKit.intOf v).toNat)
  case atStart => exact ⟨[], s, rfl, hs0, Int.le_refl _, HW, HF, by simp, hBn, h0⟩
  case round =>
    obtain ⟨pre, p, rfl, hp0, hps, hpw, hfrom, hlen, hcs, hJ⟩ := hrel
    obtain ⟨fn, tmps, assign, body, hy, hR⟩ := HY.out pre ⟨p, hp0, hps, hpw.out⟩ wr hJ.out (by omega)
    clear HF HW hBn h0
    by_cases hz : 0 < p
    · have HN := Lib.hid (fromS_next ⟨hp0, hps, hpw.out⟩ hz hfrom.out)
      have HBI := Lib.hid (bits_and (p - 1) s (by omega) (by omega) hs0 (by omega))
      have hle := andI_le (p - 1) s (by omega)
      have hge := andI_nonneg (p - 1) s
      have HWI := Lib.hid (within_andI_right (p - 1) s)
      clear hfrom hJ
      gi_wp2
      refine hR.mono ?_
      rintro e W3 (⟨rfl, hJ3, hk3⟩ | ⟨rfl, hJx3⟩)
      · have hc3 : W3.cell? ⟨Bn, 0, none⟩ = some (.int .i64 s) := (World.cell?_of_block hk3).trans hcs
        have HJ3 := Lib.hid hJ3
        clear hJ3 hk3 hcs
        gi_wp2
        rw [HBI.out]
        go_roundw
        case rel => exact ⟨_, andI (p - 1) s, rfl, hge, by omega, HWI, HN, by rw [List.length_append]; simp; omega, hc3, HJ3⟩
        case measure => simp [Go.RowKit.intOf]; omega
      · have HJx3 := Lib.hid hJx3
        clear hJx3
        gi_wp2
        go_end0
        exact ⟨⟨_, rfl⟩, .inr ⟨_, trivial, HJx3.out⟩⟩
    · have HN := Lib.hid (fromS_end ⟨hp0, hps, hpw.out⟩ hz hfrom.out)
      clear hfrom hJ
      gi_wp2
      refine hR.mono ?_
      rintro e W3 (⟨rfl, hJ3, hk3⟩ | ⟨rfl, hJx3⟩)
      · have HJ3 := Lib.hid hJ3
        clear hJ3 hk3 hcs
        gi_wp2
        go_end0
        exact ⟨⟨_, rfl⟩, .inl ⟨_, HN.out, HJ3.out⟩⟩
      · have HJx3 := Lib.hid hJx3
        clear hJx3
        gi_wp2
        go_end0
        exact ⟨⟨_, rfl⟩, .inr ⟨_, trivial, HJx3.out⟩⟩
end Go.Proofs.Ytmdpolllmipppaa

namespace Go.Proofs.Ytmdpolllmipppaa
open Go.RowKit Go.Shelf
attribute [local go_sem] Oper.semAt_some

/-- The slice at ⟨b, o⟩ of n bools tells f of every set within s. -/
def Told (w : World) (b o n : Nat) (s : Int) (f : Int → Bool) : Prop :=
  b < w.heap.size ∧ ∀ u : Int, 0 ≤ u → withinB u s = true → u < n ∧ w.cell? ⟨b, o + u.toNat, none⟩ = some (.bool (f u))
theorem Told.below {w w' : World} {b o n : Nat} {s : Int} {f : Int → Bool} (h : Told w b o n s f) (hb : Below w.heap.size w w') : Told w' b o n s f :=
  ⟨Nat.lt_of_lt_of_le h.1 hb.size, fun u h0 hu => ⟨(h.2 u h0 hu).1, (hb.cell (p := ⟨b, o + u.toNat, none⟩) h.1).trans (h.2 u h0 hu).2⟩⟩
theorem Told.sub {w : World} {b o n : Nat} {s s2 : Int} {f : Int → Bool} (h : Told w b o n s f) (hs0 : 0 ≤ s2) (hs : withinB s2 s = true) : Told w b o n s2 f :=
  ⟨h.1, fun u h0 hu => h.2 u h0 (within_trans h0 hs0 hu hs)⟩

theorem iSetsWithin (n : Nat) (s : Int) (w : World) :
    CallsIn Fence.wide n Try.prog 111 #[.int .i64 s] w fun e w' => e = .returned (.func (.func 120) #[] #[.pointer (some ⟨w.heap.size, 0, none⟩)]) ∧ w' = w.alloc (.cells #[.int .i64 s] 3) := by
  refine callsIn_of_wp Try.func111 rfl trivial ?_ rfl
  simp only [Try.ntmps111, List.size_toArray, List.length_cons, List.length_nil, Nat.reduceAdd, Nat.reduceSub, Array.replicate_succ, Array.replicate_zero, List.push_toArray, List.append_toArray, List.nil_append, List.cons_append]
  gi_wp2
  go_ret
  exact ⟨rfl, rfl⟩
theorem iSets_stops (n : Nat) (hn : 1 ≤ n) (Bn : Nat) (s : Int) (hs0 : 0 ≤ s) (hs : s < 256) (w : World) (hBn : Bn < w.heap.size) (hc : w.cell? ⟨Bn, 0, none⟩ = some (.int .i64 s)) :
    SeqStopsK Fence.wide n Try.prog 120 #[.pointer (some ⟨Bn, 0, none⟩)] (fun x : Sub s => #[Value.int .i64 x.1]) (fun W W' => W'.heap[Bn]? = W.heap[Bn]?) (FullS s) (fun _ => True) (s + 1).toNat w := fun l J Jx W hW _ _ hY h0 =>
  iSetsWithin1 n hn l Bn s hs0 hs J Jx hY W ((hW.cell (p := ⟨Bn, 0, none⟩) hBn).trans hc) h0
theorem kept_t {Bn : Nat} {A B C : World} (h : B.heap[Bn]? = A.heap[Bn]?) (k : C.heap[Bn]? = B.heap[Bn]?) : C.heap[Bn]? = A.heap[Bn]? := k.trans h
theorem kept_b {Bn : Nat} {w : World} (hn : Bn < w.heap.size) (W : World) (l : Nat) (o o' : Obj) (hl : w.heap.size ≤ l) (_ : W.heap[l]? = some o) (_ : o.isCells = false) (_ : o.isWalk = false) : (W.putObj l o').heap[Bn]? = W.heap[Bn]? :=
  World.putObj_heap_other (by omega)

def ifB (s : Int) (f g : Int → Bool) : Bool := (List.range (s.toNat + 1)).all fun u : Nat => !withinB (u : Int) s || !f (u : Int) || g (u : Int)
theorem ifB_miss {s : Int} {f g : Int → Bool} (u : Sub s) (h1 : f u.1 = true) (h2 : g u.1 = false) : ifB s f g = false := by
  unfold ifB
  rw [List.all_eq_false]
  refine ⟨u.1.toNat, List.mem_range.2 (by have := u.2; omega), ?_⟩
  rw [Int.toNat_of_nonneg u.2.1, u.2.2.2, h1, h2]; decide
theorem ifB_full {s : Int} {f g : Int → Bool} (hs : 0 ≤ s) {xs : List (Sub s)} (hx : FullS s xs) (h : ∀ y ∈ xs, (f y.1 && !g y.1) = false) : ifB s f g = true := by
  unfold ifB
  rw [List.all_eq_true]
  intro u hu
  rw [List.mem_range] at hu
  cases hw : withinB (u : Int) s
  · rfl
  · have := h ⟨(u : Int), by omega, within_le hw hs, hw⟩ (hx _)
    revert this
    cases f (u : Int) <;> cases g (u : Int) <;> simp

theorem pre_snoc {s : Int} {f g : Int → Bool} {pre : List (Sub s)} {x : Sub s} (h : ∀ y ∈ pre, (f y.1 && !g y.1) = false) (hx : (f x.1 && !g x.1) = false) : ∀ y ∈ pre ++ [x], (f y.1 && !g y.1) = false := by
  intro y hy
  rcases List.mem_append.1 hy with e | e
  · exact h y e
  · rw [List.mem_singleton] at e; subst e; exact hx
theorem box_keep {W W' : World} {row : Option Nat} {B : Nat} {t : TypeId} {v : Value} (h : Boxed W B t v) (hg : W.grownBy W' row) (hr : ∀ r, row = some r → ∃ o : Obj, W.heap[r]? = some o ∧ o.isCells = false) : Boxed W' B t v :=
  h.kept hg (fun e => by obtain ⟨o, ho, hc⟩ := hr B e.symm; rw [show W.heap[B]? = _ from h] at ho; cases ho; cases hc)
theorem Boxed.below {W W' : World} {B : Nat} {t : TypeId} {v : Value} (h : Boxed W B t v) (hb : Below W.heap.size W W') : Boxed W' B t v := (hb.block B h.lt).trans h
theorem box_putObj {W : World} {B : Nat} {t : TypeId} {v : Value} (h : Boxed W B t v) {D : Nat} {o : Obj} (o' : Obj) (hD : W.heap[D]? = some o) (ho : o.isCells = false) : Boxed (W.putObj D o') B t v :=
  box_keep h (grownBy_putObj' W D o') (fun r e => by cases e; exact ⟨o, hD, ho⟩)

set_option maxRecDepth 100000 in
set_option maxHeartbeats 4000000 in
theorem iCarriesOver (s : Int) (b1 o1 n1 c1 b2 o2 n2 c2 : Nat) (f g : Int → Bool) (w : World) (hs0 : 0 ≤ s) (hs : s < 256) (h1 : Told w b1 o1 n1 s f) (h2 : Told w b2 o2 n2 s g) :
    Calls Try.prog 122 #[.int .i64 s, .slice (some ⟨b1, o1, none⟩) n1 c1, .slice (some ⟨b2, o2, none⟩) n2 c2] w fun e w' => e = .returned (.bool (ifB s f g)) ∧ Below w.heap.size w w' := by
  refine (callsIn_wide (n := 5)).1 ?_
  have HT1 := Lib.hid h1
  have HT2 := Lib.hid h2
  clear h1 h2
  refine callsIn_of_wp_marks Try.func122 rfl trivial ?_ rfl
  simp only [Try.ntmps122, List.size_toArray, List.length_cons, List.length_nil, Nat.reduceAdd, Nat.reduceSub, Array.replicate_succ, Array.replicate_zero, List.push_toArray, List.append_toArray, List.nil_append, List.cons_append]
  gi_wp2_with (refine ⟨trivial, ?_⟩; gi_at_call 111; refine (iSetsWithin _ _ _).mono ?_; rintro e w' ⟨rfl, rfl⟩)
  have x0 := Boxed.new w 89 (.slice (some ⟨b1, o1, none⟩) n1 c1)
  have x1 := Boxed.new (w.alloc (.cells #[.slice (some ⟨b1, o1, none⟩) n1 c1] 89)) 89 (.slice (some ⟨b2, o2, none⟩) n2 c2)
  have x2 := Boxed.new ((w.alloc (.cells #[.slice (some ⟨b1, o1, none⟩) n1 c1] 89)).alloc (.cells #[.slice (some ⟨b2, o2, none⟩) n2 c2] 89)) 4 (.bool false)
  have x3 := Boxed.new (((w.alloc (.cells #[.slice (some ⟨b1, o1, none⟩) n1 c1] 89)).alloc (.cells #[.slice (some ⟨b2, o2, none⟩) n2 c2] 89)).alloc (.cells #[.bool false] 4)) 3 (.int .i64 s)
  simp only [World.size_alloc] at x1 x2 x3
  have hB0 : Below w.heap.size w ((((w.alloc (.cells #[.slice (some ⟨b1, o1, none⟩) n1 c1] 89)).alloc (.cells #[.slice (some ⟨b2, o2, none⟩) n2 c2] 89)).alloc (.cells #[.bool false] 4)).alloc (.cells #[.int .i64 s] 3)) := ((((Below.refl _ w).alloc (Nat.le_refl _) _).alloc (by simp) _).alloc (by simp; omega) _).alloc (by simp; omega) _
  refine wpIn_rangeFunc_ownF rfl (by decide) (gf := 120) (lb := #[.pointer (some ⟨w.heap.size + 1 + 1 + 1, 0, none⟩)]) rfl trivial (enters_of Try.func120 (by kernel_rfl) rfl)
    (iSets_stops 4 (by decide) (w.heap.size + 1 + 1 + 1) s hs0 hs _ (by simp) x3.cell) (fun h k => kept_t h k) (kept_b (by simp)) (Below.refl _ _) (fun _ => rfl)
    (fun pre W => ((∀ y ∈ pre, (f y.1 && !g y.1) = false) ∧ Boxed W w.heap.size 89 (.slice (some ⟨b1, o1, none⟩) n1 c1) ∧ Boxed W (w.heap.size + 1) 89 (.slice (some ⟨b2, o2, none⟩) n2 c2) ∧ Boxed W (w.heap.size + 1 + 1) 4 (.bool false)) ∧ Below w.heap.size w W)
    (fun c pre W => (c = .ret ∧ ifB s f g = false ∧ Boxed W (w.heap.size + 1 + 1) 4 (.bool false)) ∧ Below w.heap.size w W)
    (OwnFrom.and (Own.from (fun s A B row hs hg hr => ⟨hs.1, box_keep hs.2.1 hg hr, box_keep hs.2.2.1 hg hr, box_keep hs.2.2.2 hg hr⟩) _) (ownFrom_below (Nat.le_refl _) (by simp; omega)))
    (fun c => OwnFrom.and (Own.from (fun s A B row hs hg hr => ⟨hs.1, hs.2.1, box_keep hs.2.2 hg hr⟩) _) (ownFrom_below (Nat.le_refl _) (by simp; omega)))
    ⟨⟨by simp, ((x0.alloc _).alloc _).alloc _, (x1.alloc _).alloc _, x2.alloc _⟩, hB0⟩
    (fun x => { tmps := #[.int .i64 s, .slice (some ⟨b1, o1, none⟩) n1 c1, .slice (some ⟨b2, o2, none⟩) n2 c2, undef, .pointer (some ⟨w.heap.size, 0, none⟩), .pointer (some ⟨w.heap.size + 1, 0, none⟩), .pointer (some ⟨w.heap.size + 1 + 1, 0, none⟩), .int .i64 x.1, .int .i64 s, .func (.func 120) #[] #[.pointer (some ⟨w.heap.size + 1 + 1 + 1, 0, none⟩)], .int .i64 x.1, undef, undef, undef, undef, undef, undef, undef, undef, undef, undef, undef], defers := [] }) ?assign ?body ?done ?stop
  case assign =>
    intro l x W K hK
    gi_wp2
    exact hK
  case body =>
    rintro l pre x W ⟨⟨hp, hx1, hx2, hxr⟩, hB⟩ _
    have hc1 := hx1.cell
    have hc2 := hx2.cell
    have hcr := hxr.cell
    have hfr := hxr.frozen
    obtain ⟨hl1, ht1⟩ := (HT1.out.below hB).2 x.1 x.2.1 x.2.2.2
    obtain ⟨hl2, ht2⟩ := (HT2.out.below hB).2 x.1 x.2.1 x.2.2.2
    have hxa := x.2.1
    have hxb := x.2.2.1
    cases hf : f x.1 <;> cases hg : g x.1 <;> rw [hf] at ht1 <;> rw [hg] at ht2
    all_goals
      have HP := Lib.hid hp
      have HF := Lib.hid hf
      have HG := Lib.hid hg
      clear hp hf hg
      gi_wp2
      first
        | exact ⟨KeepsOthers.refl _, rfl, ⟨pre_snoc HP.out (by rw [HF.out, HG.out]; rfl), hx1, hx2, hxr⟩, hB⟩
        | exact ⟨KeepsOthers.setCell _ _ _, ⟨rfl, ifB_miss x HF.out HG.out, hxr.set _⟩, hB.setCell (p := ⟨w.heap.size + 1 + 1, 0, none⟩) (by simp; omega) _⟩
  case done =>
    rintro D ys W hD hfull ⟨⟨hne, _, _, hxr⟩, hB⟩ hK
    have hcr := hxr.cell
    have hfr := hxr.frozen
    have HE := Lib.hid (ifB_full hs0 hfull hne)
    clear hne hfull
    gi_wp2
    have hK' := (KeepsOthers.setCell W ⟨w.heap.size + 1 + 1, 0, none⟩ (.bool true)).same D _ hK rfl
    refine ⟨by simp, .inl ⟨_, _, rfl, run_takeDeferred hK', ?_⟩⟩
    have hc5 := (box_putObj (hxr.set (.bool true)) (.deferred none) hK' rfl).cell
    refine ⟨.bool true, ?_, by rw [HE.out], (hB.setCell (p := ⟨w.heap.size + 1 + 1, 0, none⟩) (by simp; omega) _).trans (belowK_b (w := w) (Nat.le_refl _) _ D _ _ (by simp at hD; omega) hK' rfl rfl)⟩
    simp [results, Try.f122, go_sem, hc5]
  case stop =>
    rintro D c pre W hD hpre ⟨⟨rfl, hin, hxr⟩, hB⟩ hK
    gi_wp2
    refine ⟨by simp, .inl ⟨_, _, rfl, run_takeDeferred hK, ?_⟩⟩
    have hc5 := (box_putObj hxr (.deferred none) hK rfl).cell
    refine ⟨.bool false, ?_, by rw [hin], hB.trans (belowK_b (w := w) (Nat.le_refl _) W D _ _ (by simp at hD; omega) hK rfl rfl)⟩
    simp [results, Try.f122, go_sem, hc5]
end Go.Proofs.Ytmdpolllmipppaa
