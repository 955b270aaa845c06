/-
  What the proofs of this seat's statements share (MathE, MathP, MathF).
-/
import Derived.Test.YtmdogidflaplkaaU6

namespace Go.Proofs.Ytmdogidflaplkaa
open Go.RowKit

inductive Sen where
  | one : Sen
  | zero : Sen
  | thing : Nat → Sen
  | no : Sen → Sen
  | ask : Sen → Sen
  | and_ : Sen → Sen → Sen
  | or_ : Sen → Sen → Sen
  | if_ : Sen → Sen → Sen

def letterSet (t : Int) (i : Nat) : Int := if i = 0 then andI 170 (allOf t) else if i = 1 then andI 204 (allOf t) else andI 240 (allOf t)
def senOk (t : Int) : Sen → Bool
  | .one => true
  | .zero => true
  | .thing i => decide ((i : Int) < t)
  | .no x => senOk t x
  | .ask x => senOk t x
  | .and_ x y => senOk t x && senOk t y
  | .or_ x y => senOk t x && senOk t y
  | .if_ x y => senOk t x && senOk t y
def issueS (t : Int) : Sen → List Int
  | .one => [allOf t]
  | .zero => [0]
  | .thing i => [letterSet t i]
  | .no x => notL t (issueS t x)
  | .ask x => whetherL t (issueS t x)
  | .and_ x y => bothL t (issueS t x) (issueS t y)
  | .or_ x y => eitherL t (issueS t x) (issueS t y)
  | .if_ x y => ifL t (issueS t x) (issueS t y)
def plainS : Sen → Bool
  | .one => true
  | .zero => true
  | .thing _ => true
  | .no x => plainS x
  | .ask _ => false
  | .and_ x y => plainS x && plainS y
  | .or_ _ _ => false
  | .if_ x y => plainS x && plainS y
def nWorlds (t : Int) : Nat := (worldsOf t).toNat
def hasW (s : Int) (w : Nat) : Bool := s.toNat.testBit w
def worldS (w : Nat) : Int := ((2 ^ w : Nat) : Int)
/-- Whether a set supports a sentence, by the sentence's own rules. -/
def holdsS (t : Int) : Sen → Int → Bool
  | .one, _ => true
  | .zero, s => decide (s = 0)
  | .thing i, s => withinB s (letterSet t i)
  | .no x, s => (List.range (nWorlds t)).all fun w => !hasW s w || !holdsS t x (worldS w)
  | .ask x, s => holdsS t x s || (List.range (nWorlds t)).all fun w => !hasW s w || !holdsS t x (worldS w)
  | .and_ x y, s => holdsS t x s && holdsS t y s
  | .or_ x y, s => holdsS t x s || holdsS t y s
  | .if_ x y, s => (List.range (s.toNat + 1)).all fun u : Nat => !withinB (u : Int) s || !holdsS t x (u : Int) || holdsS t y (u : Int)

section
variable {t : Int} {a b : List Int}
theorem letter_ok (h1 : 1 ≤ t) (h3 : t ≤ 3) (i : Nat) : setOkB t (letterSet t i) = true := by
  have hal := allOf_lt t
  have key : ∀ c : Int, setOkB t (andI c (allOf t)) = true := fun c => setOk_of h1 h3 (andI_nonneg _ _) (andI_le' _ _ hal.1)
  unfold letterSet
  split
  · exact key _
  · split <;> exact key _
theorem sen_issue (h1 : 1 ≤ t) (h3 : t ≤ 3) : ∀ s : Sen, issueOkB t (issueS t s) = true
  | .one => issue_one (setOk_of h1 h3 (allOf_lt t).1 (Int.le_refl _))
  | .zero => zero_issue h1 h3
  | .thing i => issue_one (letter_ok h1 h3 i)
  | .no x => not_ok (sen_issue h1 h3 x)
  | .ask x => whether_ok (sen_issue h1 h3 x)
  | .and_ x y => both_ok (sen_issue h1 h3 x) (sen_issue h1 h3 y)
  | .or_ x y => either_ok (sen_issue h1 h3 x) (sen_issue h1 h3 y)
  | .if_ x y => if_ok (sen_issue h1 h3 x) (sen_issue h1 h3 y)
theorem has_lt (h1 : 1 ≤ t) (h3 : t ≤ 3) {s : Int} (hs : 0 ≤ s) (hs2 : s ≤ allOf t) {w : Nat} (h : hasW s w = true) : w < nWorlds t := by
  have hb : ∀ n : Nat, s.toNat < 2 ^ n → w < n := by
    intro n hn
    rcases Nat.lt_or_ge w n with hw | hw
    · exact hw
    · unfold hasW at h
      rw [Nat.testBit_lt_two_pow (Nat.lt_of_lt_of_le hn (Nat.pow_le_pow_right (by omega) hw))] at h
      cases h
  have : t = 1 ∨ t = 2 ∨ t = 3 := by omega
  rcases this with rfl | rfl | rfl
  · exact hb 2 (by simp [allOf] at hs2; omega)
  · exact hb 4 (by simp [allOf] at hs2; omega)
  · exact hb 8 (by simp [allOf] at hs2; omega)
theorem world_ok (h1 : 1 ≤ t) (h3 : t ≤ 3) {w : Nat} (h : w < nWorlds t) : 0 ≤ worldS w ∧ worldS w ≤ allOf t := by
  have hp : ∀ n : Nat, w < n → 2 ^ w ≤ 2 ^ (n - 1) := fun n hn => Nat.pow_le_pow_right (by omega) (by omega)
  have hz : worldS w = ((2 ^ w : Nat) : Int) := rfl
  generalize 2 ^ w = q at hp hz
  rw [hz]
  refine ⟨by omega, ?_⟩
  have : t = 1 ∨ t = 2 ∨ t = 3 := by omega
  rcases this with rfl | rfl | rfl
  · have := hp 2 h; show (q : Int) ≤ 3; omega
  · have := hp 4 h; show (q : Int) ≤ 15; omega
  · have := hp 8 h; show (q : Int) ≤ 255; omega
theorem worldS_nonneg (w : Nat) : 0 ≤ worldS w := Int.natCast_nonneg _
theorem world_within (w : Nat) {x : Int} : withinB (worldS w) x = true ↔ hasW x w = true := by
  rw [within_iff (worldS_nonneg w)]
  unfold worldS hasW
  rw [Int.toNat_natCast]
  constructor
  · exact fun h => h w (by rw [Nat.testBit_two_pow]; simp)
  · intro h i hi
    rw [Nat.testBit_two_pow, decide_eq_true_eq] at hi
    subst hi; exact h
theorem any_world (w : Nat) : anyWithin (worldS w) a = hasW (unionI a) w := by
  unfold hasW
  rw [union_bit, Bool.eq_iff_iff, any_iff, List.any_eq_true]
  constructor
  · rintro ⟨x, hx, h⟩; exact ⟨x, hx, (world_within w).1 h⟩
  · rintro ⟨x, hx, h⟩; exact ⟨x, hx, (world_within w).2 h⟩
theorem not_any (ha : issueOkB t a = true) {s : Int} (hs : 0 ≤ s) (hs2 : s ≤ allOf t) : anyWithin s (notL t a) = (List.range (nWorlds t)).all fun w => !hasW s w || !anyWithin (worldS w) a := by
  obtain ⟨h1, h3⟩ := issue_things ha
  have hu := union_all ha
  rw [law_not ha, any_one, Bool.eq_iff_iff, comp_within h1 h3 hs hs2 hu.1 hu.2, List.all_eq_true]
  simp only [any_world]
  constructor
  · intro h w _
    have h2 : s.toNat &&& (unionI a).toNat = 0 := by unfold andI at h; omega
    have h4 := congrArg (fun x => x.testBit w) h2
    simp only [Nat.testBit_and, Nat.zero_testBit] at h4
    unfold hasW
    cases h5 : s.toNat.testBit w
    · rfl
    · rw [h5] at h4; simp at h4; rw [h4]; rfl
  · intro h
    have h2 : s.toNat &&& (unionI a).toNat = 0 := by
      apply Nat.eq_of_testBit_eq
      intro i
      rw [Nat.testBit_and, Nat.zero_testBit]
      cases h5 : s.toNat.testBit i
      · rfl
      · have := h i (List.mem_range.2 (has_lt h1 h3 hs hs2 h5))
        unfold hasW at this
        rw [h5] at this
        simpa using this
    unfold andI; omega
/-- To support is to settle. -/
theorem support_settle (h1 : 1 ≤ t) (h3 : t ≤ 3) : ∀ (x : Sen) (s : Int), 0 ≤ s → s ≤ allOf t → holdsS t x s = anyWithin s (issueS t x)
  | .one, s, h0, hs => by
    show true = anyWithin s [allOf t]
    rw [any_one, (within_all h1 h3 h0).2 hs]
  | .zero, s, h0, _ => by
    show decide (s = 0) = anyWithin s [0]
    rw [any_one, Bool.eq_iff_iff, decide_eq_true_eq, within_nothing h0]
  | .thing i, s, _, _ => by
    show _ = anyWithin s [letterSet t i]
    rw [any_one]; rfl
  | .no x, s, h0, hs => by
    show _ = anyWithin s (notL t (issueS t x))
    rw [not_any (sen_issue h1 h3 x) h0 hs]
    unfold holdsS
    rw [Bool.eq_iff_iff, List.all_eq_true, List.all_eq_true]
    refine forall_congr' fun w => ?_
    refine imp_congr_right fun hw => ?_
    have := world_ok h1 h3 (List.mem_range.1 hw)
    rw [support_settle h1 h3 x _ this.1 this.2]
  | .ask x, s, h0, hs => by
    show _ = anyWithin s (whetherL t (issueS t x))
    have ha := sen_issue h1 h3 x
    rw [whether_eq ha, either_any ha (not_ok ha) h0, not_any ha h0 hs]
    unfold holdsS
    rw [support_settle h1 h3 x s h0 hs]
    congr 1
    rw [Bool.eq_iff_iff, List.all_eq_true, List.all_eq_true]
    refine forall_congr' fun w => ?_
    refine imp_congr_right fun hw => ?_
    have := world_ok h1 h3 (List.mem_range.1 hw)
    rw [support_settle h1 h3 x _ this.1 this.2]
  | .and_ x y, s, h0, hs => by
    show _ = anyWithin s (bothL t (issueS t x) (issueS t y))
    rw [both_any (sen_issue h1 h3 x) (sen_issue h1 h3 y) h0]
    unfold holdsS
    rw [support_settle h1 h3 x s h0 hs, support_settle h1 h3 y s h0 hs]
  | .or_ x y, s, h0, hs => by
    show _ = anyWithin s (eitherL t (issueS t x) (issueS t y))
    rw [either_any (sen_issue h1 h3 x) (sen_issue h1 h3 y) h0]
    unfold holdsS
    rw [support_settle h1 h3 x s h0 hs, support_settle h1 h3 y s h0 hs]
  | .if_ x y, s, h0, hs => by
    show _ = anyWithin s (ifL t (issueS t x) (issueS t y))
    rw [if_any (sen_issue h1 h3 x) (sen_issue h1 h3 y) h0 hs, Bool.eq_iff_iff, good_iff]
    unfold holdsS
    rw [List.all_eq_true]
    constructor
    · intro h u hu hw hua
      have hle := within_le hw h0
      have := h u.toNat (List.mem_range.2 (by omega))
      rw [Int.toNat_of_nonneg hu, hw, support_settle h1 h3 x u hu (by omega), support_settle h1 h3 y u hu (by omega), hua] at this
      simpa using this
    · intro h u hu
      rw [List.mem_range] at hu
      rw [support_settle h1 h3 x u (by omega) (by omega), support_settle h1 h3 y u (by omega) (by omega)]
      cases hw : withinB (u : Int) s
      · rfl
      · cases hx : anyWithin (u : Int) (issueS t x)
        · rfl
        · rw [h u (by omega) hw hx]; rfl

/-! Plain sentences, what is true, consequences. -/
theorem both_one {x y : Int} (hx : setOkB t x = true) (hy : setOkB t y = true) : bothL t [x] [y] = [andI x y] := by
  rw [both_eq (issue_one hx) (issue_one hy)]
  exact issue_tidy (issue_one (t := t) (andI_ok hx))
theorem or_ok {x y : Int} (hx : setOkB t x = true) (hy : setOkB t y = true) : setOkB t (orI x y) = true := by
  have h1 := setOkB_lt hx
  have h2 := setOkB_lt hy
  refine setOk_of h1.1 h1.2.1 (orI_nonneg _ _) ?_
  refine (within_all h1.1 h1.2.1 (orI_nonneg _ _)).1 (or_within h1.2.2.1 h2.2.2.1 ?_ ?_)
  · exact (within_all h1.1 h1.2.1 h1.2.2.1).2 h1.2.2.2.1
  · exact (within_all h1.1 h1.2.1 h2.2.2.1).2 h2.2.2.2.1
theorem if_one {x y : Int} (hx : setOkB t x = true) (hy : setOkB t y = true) : ifL t [x] [y] = [orI (allOf t - x) y] := by
  obtain ⟨h1, h3, hx0, hxa, hx2⟩ := setOkB_lt hx
  obtain ⟨_, _, hy0, hya, hy2⟩ := setOkB_lt hy
  have hr : setOkB t (allOf t - x) = true := setOk_of h1 h3 (by omega) (by omega)
  refine any_ext (if_ok (issue_one hx) (issue_one hy)) (issue_one (or_ok hr hy)) fun s h0 hs => ?_
  rw [if_any (issue_one hx) (issue_one hy) h0 hs, any_one]
  unfold goodB
  simp only [List.all_cons, List.all_nil, Bool.and_true, any_one]
  rw [Bool.eq_iff_iff, within_iff (andI_nonneg _ _), within_iff h0]
  obtain ⟨n, _, hn⟩ := all_pow h1 h3
  have e : (allOf t - x).toNat = 2 ^ n - (x.toNat + 1) := by rw [hn]; omega
  have hxl : x.toNat < 2 ^ n := by rw [hn] at hxa; omega
  have hsl : s.toNat < 2 ^ n := by rw [hn] at hs; omega
  refine forall_congr' fun i => ?_
  show ((((s.toNat &&& x.toNat : Nat) : Int)).toNat.testBit i = true → _) ↔ (_ → ((((allOf t - x).toNat ||| y.toNat : Nat) : Int)).toNat.testBit i = true)
  rw [Int.toNat_natCast, Int.toNat_natCast, Nat.testBit_and, Nat.testBit_or, e, Nat.testBit_two_pow_sub_succ hxl]
  cases h5 : s.toNat.testBit i
  · simp
  · have : i < n := by
      rcases Nat.lt_or_ge i n with h | h
      · exact h
      · rw [Nat.testBit_lt_two_pow (Nat.lt_of_lt_of_le hsl (Nat.pow_le_pow_right (by omega) h))] at h5; cases h5
    cases x.toNat.testBit i <;> cases y.toNat.testBit i <;> simp [this]
theorem plain_one (h1 : 1 ≤ t) (h3 : t ≤ 3) : ∀ x : Sen, plainS x = true → ∃ g, setOkB t g = true ∧ issueS t x = [g]
  | .one, _ => ⟨_, setOk_of h1 h3 (allOf_lt t).1 (Int.le_refl _), rfl⟩
  | .zero, _ => ⟨0, setOk_of h1 h3 (by omega) (allOf_lt t).1, rfl⟩
  | .thing i, _ => ⟨_, letter_ok h1 h3 i, rfl⟩
  | .no x, _ => ⟨_, rest_ok (sen_issue h1 h3 x), law_not (sen_issue h1 h3 x)⟩
  | .ask _, h => by cases h
  | .and_ x y, h => by
    unfold plainS at h
    rw [Bool.and_eq_true] at h
    obtain ⟨p, hp, ep⟩ := plain_one h1 h3 x h.1
    obtain ⟨q, hq, eq⟩ := plain_one h1 h3 y h.2
    exact ⟨_, andI_ok hp, by show bothL t (issueS t x) (issueS t y) = _; rw [ep, eq, both_one hp hq]⟩
  | .or_ _ _, h => by cases h
  | .if_ x y, h => by
    unfold plainS at h
    rw [Bool.and_eq_true] at h
    obtain ⟨p, hp, ep⟩ := plain_one h1 h3 x h.1
    obtain ⟨q, hq, eq⟩ := plain_one h1 h3 y h.2
    have h5 := setOkB_lt hp
    have hr : setOkB t (allOf t - p) = true := setOk_of h1 h3 (by omega) (by omega)
    exact ⟨_, or_ok hr hq, by show ifL t (issueS t x) (issueS t y) = _; rw [ep, eq, if_one hp hq]⟩
theorem plain_granted (h1 : 1 ≤ t) (h3 : t ≤ 3) {x : Sen} (h : plainS x = true) : issueS t x = [unionI (issueS t x)] := by
  obtain ⟨g, hg, e⟩ := plain_one h1 h3 x h
  rw [e, union_one (setOkB_lt hg).2.2.1]

/-- The worlds below k in which a sentence is true, as a set. -/
def trueTo (t : Int) (x : Sen) : Nat → Nat
  | 0 => 0
  | k + 1 => trueTo t x k + if holdsS t x (worldS k) = true then 2 ^ k else 0
theorem true_mod (h1 : 1 ≤ t) (h3 : t ≤ 3) (x : Sen) : ∀ k, k ≤ nWorlds t → trueTo t x k = (unionI (issueS t x)).toNat % 2 ^ k
  | 0, _ => by simp [trueTo, Nat.mod_one]
  | k + 1, hk => by
    have hw := world_ok h1 h3 (show k < nWorlds t by omega)
    unfold trueTo
    rw [true_mod h1 h3 x k (by omega), support_settle h1 h3 x _ hw.1 hw.2, any_world, Nat.mod_pow_succ]
    unfold hasW
    rw [Nat.testBit_eq_decide_div_mod_eq]
    rcases Nat.mod_two_eq_zero_or_one ((unionI (issueS t x)).toNat / 2 ^ k) with h | h <;> rw [h] <;> simp
theorem true_granted (h1 : 1 ≤ t) (h3 : t ≤ 3) (x : Sen) : (trueTo t x (nWorlds t) : Int) = unionI (issueS t x) := by
  have hu := union_all (sen_issue h1 h3 x)
  rw [true_mod h1 h3 x _ (Nat.le_refl _)]
  have key : ∀ n : Nat, unionI (issueS t x) ≤ ((2 ^ n : Nat) : Int) - 1 → (((unionI (issueS t x)).toNat % 2 ^ n : Nat) : Int) = unionI (issueS t x) := by
    intro n hn
    rw [Nat.mod_eq_of_lt (by omega)]; omega
  have : t = 1 ∨ t = 2 ∨ t = 3 := by omega
  rcases this with rfl | rfl | rfl
  · exact key 2 (by have : allOf 1 = 3 := rfl; omega)
  · exact key 4 (by have : allOf 2 = 15 := rfl; omega)
  · exact key 8 (by have : allOf 3 = 255 := rfl; omega)
theorem follows_union (ha : issueOkB t a = true) (hb : issueOkB t b = true) (h : followsB t a b = true) : withinB (unionI a) (unionI b) = true := by
  refine union_least (issue_pos ha) fun x hx => ?_
  have := setOkB_lt (issue_sets ha x hx)
  have h2 := (follows_iff ha hb).1 h x this.2.2.1 this.2.2.2.1 (any_iff.2 ⟨x, hx, within_refl x this.2.2.1⟩)
  obtain ⟨y, hy, hw⟩ := any_iff.1 h2
  exact within_trans this.2.2.1 (issue_pos hb y hy) hw (mem_union (issue_pos hb) hy)
theorem entails_if (h1 : 1 ≤ t) (h3 : t ≤ 3) (x y : Sen) : holdsS t (.if_ x y) (allOf t) = followsB t (issueS t x) (issueS t y) := by
  have hx := sen_issue h1 h3 x
  have hy := sen_issue h1 h3 y
  have hal := allOf_lt t
  rw [support_settle h1 h3 _ _ hal.1 (Int.le_refl _)]
  show anyWithin (allOf t) (ifL t (issueS t x) (issueS t y)) = _
  rw [← law_follows_if hx hy, settles_any (if_ok hx hy) hal.1 (Int.le_refl _)]
end
end Go.Proofs.Ytmdogidflaplkaa

namespace Go.Proofs.Ytmdogidflaplkaa
open Go.RowKit

/-- The bytes of a text, as numbers. -/
def twoS (m : Nat) (x y : Sen) : Option Sen := if m = 38 then some (.and_ x y) else if m = 124 then some (.or_ x y) else if m = 62 then some (.if_ x y) else none
/-- The sentence at the head of a text, and what is left; n: no fewer than the bytes. -/
def readS (t : Int) : Nat → List Nat → Option (Sen × List Nat)
  | 0, _ => none
  | _ + 1, [] => none
  | n + 1, c :: l =>
    if c = 49 then some (.one, l) else if c = 48 then some (.zero, l)
    else if 97 ≤ c ∧ (c : Int) - 97 < t then some (.thing (c - 97), l)
    else if c = 33 then (readS t n l).map fun p => (.no p.1, p.2)
    else if c = 63 then (readS t n l).map fun p => (.ask p.1, p.2)
    else if c = 40 then
      match readS t n l with
      | some (x, m :: l2) =>
        match readS t n l2 with
        | some (y, e :: r) => if e = 41 then (twoS m x y).map fun z => (z, r) else none
        | _ => none
      | _ => none
    else none
theorem readS_less (t : Int) : ∀ (n : Nat) (l : List Nat) (x : Sen) (r : List Nat), readS t n l = some (x, r) → r.length < l.length
  | 0, _, _, _, h => by cases h
  | _ + 1, [], _, _, h => by cases h
  | n + 1, c :: l, x, r, h => by
    have ih := readS_less t n
    unfold readS at h
    split at h
    · cases h; simp
    split at h
    · cases h; simp
    split at h
    · cases h; simp
    split at h
    · obtain ⟨⟨y, q⟩, hy, e⟩ := Option.map_eq_some_iff.1 h
      cases e; have := ih _ _ _ hy; simp; omega
    split at h
    · obtain ⟨⟨y, q⟩, hy, e⟩ := Option.map_eq_some_iff.1 h
      cases e; have := ih _ _ _ hy; simp; omega
    split at h
    · split at h
      · rename_i x1 m l2 h1
        split at h
        · rename_i y1 e r1 h2
          split at h
          · obtain ⟨z, hz, e2⟩ := Option.map_eq_some_iff.1 h
            cases e2
            have := ih _ _ _ h1; have := ih _ _ _ h2; simp at *; omega
          · cases h
        · cases h
      · cases h
    · cases h
/-- More fuel than bytes changes nothing. -/
theorem readS_more (t : Int) : ∀ (n m : Nat) (l : List Nat), l.length ≤ n → l.length ≤ m → readS t n l = readS t m l
  | 0, 0, _, _, _ => rfl
  | 0, m + 1, l, h, _ => by
    have : l = [] := List.eq_nil_of_length_eq_zero (by omega)
    subst this; rfl
  | n + 1, 0, l, _, h => by
    have : l = [] := List.eq_nil_of_length_eq_zero (by omega)
    subst this; rfl
  | n + 1, m + 1, [], _, _ => rfl
  | n + 1, m + 1, c :: l, hn, hm => by
    simp only [List.length_cons] at hn hm
    have e1 := readS_more t n m l (by omega) (by omega)
    have e2 : ∀ x m' l2, readS t m l = some (x, m' :: l2) → readS t n l2 = readS t m l2 := fun x m' l2 h => by
      have := readS_less t m l x _ h
      simp only [List.length_cons] at this
      exact readS_more t n m l2 (by omega) (by omega)
    unfold readS
    rw [e1]
    rcases h : readS t m l with _ | ⟨x, _ | ⟨m', l2⟩⟩
    · rfl
    · rfl
    · simp only []
      rw [e2 x m' l2 h]
def textS : Sen → List Nat
  | .one => [49]
  | .zero => [48]
  | .thing i => [97 + i]
  | .no x => 33 :: textS x
  | .ask x => 63 :: textS x
  | .and_ x y => 40 :: (textS x ++ 38 :: (textS y ++ [41]))
  | .or_ x y => 40 :: (textS x ++ 124 :: (textS y ++ [41]))
  | .if_ x y => 40 :: (textS x ++ 62 :: (textS y ++ [41]))
theorem read_ok (t : Int) : ∀ (n : Nat) (l : List Nat) (x : Sen) (r : List Nat), readS t n l = some (x, r) → senOk t x = true ∧ l = textS x ++ r
  | 0, _, _, _, h => by cases h
  | _ + 1, [], _, _, h => by cases h
  | n + 1, c :: l, x, r, h => by
    have ih := read_ok t n
    unfold readS at h
    split at h
    · cases h; rename_i hc; subst hc; exact ⟨rfl, rfl⟩
    split at h
    · cases h; rename_i hc; subst hc; exact ⟨rfl, rfl⟩
    split at h
    · cases h; rename_i hc; exact ⟨by simp [senOk]; omega, by simp [textS]; omega⟩
    split at h
    · obtain ⟨⟨y, q⟩, hy, e⟩ := Option.map_eq_some_iff.1 h
      cases e; have := ih _ _ _ hy; rename_i hc; subst hc; exact ⟨this.1, by rw [this.2]; rfl⟩
    split at h
    · obtain ⟨⟨y, q⟩, hy, e⟩ := Option.map_eq_some_iff.1 h
      cases e; have := ih _ _ _ hy; rename_i hc; subst hc; exact ⟨this.1, by rw [this.2]; rfl⟩
    split at h
    · rename_i hc
      split at h
      · rename_i x1 m l2 h1
        split at h
        · rename_i y1 e r1 h2
          split at h
          · rename_i he
            obtain ⟨z, hz, e2⟩ := Option.map_eq_some_iff.1 h
            cases e2
            obtain ⟨a1, b1⟩ := ih _ _ _ h1
            obtain ⟨a2, b2⟩ := ih _ _ _ h2
            subst b1 b2 hc he
            unfold twoS at hz
            split at hz
            · cases hz; rename_i hm; subst hm; exact ⟨by simp [senOk, a1, a2], by simp [textS]⟩
            split at hz
            · cases hz; rename_i hm; subst hm; exact ⟨by simp [senOk, a1, a2], by simp [textS]⟩
            split at hz
            · cases hz; rename_i hm; subst hm; exact ⟨by simp [senOk, a1, a2], by simp [textS]⟩
            · cases hz
          · cases h
        · cases h
      · cases h
    · cases h
/-- The text of a sentence is read as the sentence, whatever stands behind it. -/
theorem read_text (t : Int) : ∀ (x : Sen) (n : Nat) (r : List Nat), senOk t x = true → t ≤ 26 → (textS x).length ≤ n → readS t n (textS x ++ r) = some (x, r)
  | .one, n + 1, r, _, _, _ => rfl
  | .zero, n + 1, r, _, _, _ => rfl
  | .thing i, n + 1, r, h, ht, _ => by
    simp only [senOk, decide_eq_true_eq] at h
    show readS t (n + 1) ((97 + i) :: r) = _
    unfold readS
    rw [if_neg (by omega), if_neg (by omega), if_pos (by omega)]
    congr 3; omega
  | .no x, n + 1, r, h, ht, hl => by
    simp only [textS, List.length_cons] at hl
    show readS t (n + 1) (33 :: (textS x ++ r)) = _
    unfold readS
    rw [if_neg (by omega), if_neg (by omega), if_neg (by omega), if_pos rfl, read_text t x n r h ht (by omega)]; rfl
  | .ask x, n + 1, r, h, ht, hl => by
    simp only [textS, List.length_cons] at hl
    show readS t (n + 1) (63 :: (textS x ++ r)) = _
    unfold readS
    rw [if_neg (by omega), if_neg (by omega), if_neg (by omega), if_neg (by omega), if_pos rfl, read_text t x n r h ht (by omega)]; rfl
  | .and_ x y, n + 1, r, h, ht, hl => by
    simp only [textS, List.length_cons, List.length_append, List.length_nil] at hl
    simp only [senOk, Bool.and_eq_true] at h
    show readS t (n + 1) (40 :: ((textS x ++ 38 :: (textS y ++ [41])) ++ r)) = _
    have e : (textS x ++ 38 :: (textS y ++ [41])) ++ r = textS x ++ (38 :: (textS y ++ (41 :: r))) := by simp
    rw [e]
    unfold readS
    rw [if_neg (by omega), if_neg (by omega), if_neg (by omega), if_neg (by omega), if_neg (by omega), if_pos rfl, read_text t x n _ h.1 ht (by omega)]
    simp only []
    rw [read_text t y n _ h.2 ht (by omega)]; rfl
  | .or_ x y, n + 1, r, h, ht, hl => by
    simp only [textS, List.length_cons, List.length_append, List.length_nil] at hl
    simp only [senOk, Bool.and_eq_true] at h
    show readS t (n + 1) (40 :: ((textS x ++ 124 :: (textS y ++ [41])) ++ r)) = _
    have e : (textS x ++ 124 :: (textS y ++ [41])) ++ r = textS x ++ (124 :: (textS y ++ (41 :: r))) := by simp
    rw [e]
    unfold readS
    rw [if_neg (by omega), if_neg (by omega), if_neg (by omega), if_neg (by omega), if_neg (by omega), if_pos rfl, read_text t x n _ h.1 ht (by omega)]
    simp only []
    rw [read_text t y n _ h.2 ht (by omega)]; rfl
  | .if_ x y, n + 1, r, h, ht, hl => by
    simp only [textS, List.length_cons, List.length_append, List.length_nil] at hl
    simp only [senOk, Bool.and_eq_true] at h
    show readS t (n + 1) (40 :: ((textS x ++ 62 :: (textS y ++ [41])) ++ r)) = _
    have e : (textS x ++ 62 :: (textS y ++ [41])) ++ r = textS x ++ (62 :: (textS y ++ (41 :: r))) := by simp
    rw [e]
    unfold readS
    rw [if_neg (by omega), if_neg (by omega), if_neg (by omega), if_neg (by omega), if_neg (by omega), if_pos rfl, read_text t x n _ h.1 ht (by omega)]
    simp only []
    rw [read_text t y n _ h.2 ht (by omega)]; rfl
  | .one, 0, _, _, _, hl => by simp [textS] at hl
  | .zero, 0, _, _, _, hl => by simp [textS] at hl
  | .thing _, 0, _, _, _, hl => by simp [textS] at hl
  | .no _, 0, _, _, _, hl => by simp [textS] at hl
  | .ask _, 0, _, _, _, hl => by simp [textS] at hl
  | .and_ _ _, 0, _, _, _, hl => by simp [textS] at hl
  | .or_ _ _, 0, _, _, _, hl => by simp [textS] at hl
  | .if_ _ _, 0, _, _, _, hl => by simp [textS] at hl
/-- The sentence of a text. -/
def senOf (t : Int) (l : List Nat) : Option Sen :=
  if 1 ≤ t ∧ t ≤ 3 ∧ l.length ≤ 60 then (match readS t l.length l with | some (x, []) => some x | _ => none) else none
theorem senOf_iff {t : Int} {l : List Nat} {x : Sen} : senOf t l = some x ↔ (1 ≤ t ∧ t ≤ 3 ∧ l.length ≤ 60 ∧ senOk t x = true ∧ l = textS x) := by
  unfold senOf
  constructor
  · intro h
    split at h
    · rename_i hc
      split at h
      · rename_i y hy
        cases h
        have := read_ok t _ _ _ _ hy
        simp at this
        exact ⟨hc.1, hc.2.1, hc.2.2, this.1, this.2⟩
      · cases h
    · cases h
  · rintro ⟨h1, h3, hl, hs, rfl⟩
    rw [if_pos ⟨h1, h3, hl⟩]
    have := read_text t x (textS x).length [] hs (by omega) (Nat.le_refl _)
    rw [List.append_nil] at this
    rw [this]

end Go.Proofs.Ytmdogidflaplkaa

namespace Go.Proofs.Ytmdogidflaplkaa
open Go.RowKit

/-- The sets of a list, each once, ascending. -/
def setL (xs : List Int) : List Int := ((List.range 256).map (fun n : Nat => (n : Int))).filter (fun s => decide (s ∈ xs))
/-- For each set of the first list, a choice of one of the second list. -/
def chooseX (t : Int) (a b : List Int) : List Int := a.foldl (fun out x => setL (bothX out (b.map fun y => orI (allOf t - x) y))) [allOf t]
def resS (t : Int) : Sen → List Int
  | .one => [allOf t]
  | .zero => [0]
  | .thing i => [letterSet t i]
  | .no x => [allOf t - unionI (resS t x)]
  | .ask x => setL (resS t x ++ [allOf t - unionI (resS t x)])
  | .and_ x y => setL (bothX (resS t x) (resS t y))
  | .or_ x y => setL (resS t x ++ resS t y)
  | .if_ x y => chooseX t (resS t x) (resS t y)

section
variable {t : Int} {a b : List Int}
theorem setL_mem {xs : List Int} (hr : ∀ x ∈ xs, 0 ≤ x ∧ x < 256) (s : Int) : s ∈ setL xs ↔ s ∈ xs := by
  unfold setL
  rw [List.mem_filter, List.mem_map, decide_eq_true_eq]
  constructor
  · exact fun h => h.2
  · intro h
    have := hr s h
    exact ⟨⟨s.toNat, by rw [List.mem_range]; omega, by omega⟩, h⟩
theorem setL_sub (xs : List Int) : ∀ s ∈ setL xs, s ∈ xs := fun s hs => by
  unfold setL at hs
  rw [List.mem_filter, decide_eq_true_eq] at hs
  exact hs.2
theorem setL_asc (xs : List Int) : (setL xs).Pairwise (· < ·) := by
  unfold setL
  refine List.Pairwise.sublist List.filter_sublist ?_
  rw [List.pairwise_map]
  exact List.pairwise_lt_range.imp (fun h => by omega)
theorem any_mem {xs ys : List Int} (h : ∀ x, x ∈ xs ↔ x ∈ ys) (s : Int) : anyWithin s xs = anyWithin s ys := by
  rw [Bool.eq_iff_iff, any_iff, any_iff]
  exact exists_congr fun x => and_congr_left fun _ => h x
theorem setL_any {xs : List Int} (hr : ∀ x ∈ xs, 0 ≤ x ∧ x < 256) (s : Int) : anyWithin s (setL xs) = anyWithin s xs := any_mem (setL_mem hr) s
/-- Good lists: not empty, of sets. -/
def Good (t : Int) (xs : List Int) : Prop := xs ≠ [] ∧ ∀ x ∈ xs, setOkB t x = true
theorem Good.range {xs : List Int} (h : Good t xs) : ∀ x ∈ xs, 0 ≤ x ∧ x < 256 := sets_range h.2
theorem Good.setL {xs : List Int} (h : Good t xs) : Good t (setL xs) := by
  refine ⟨fun e => ?_, fun x hx => h.2 x (setL_sub xs x hx)⟩
  obtain ⟨x, hx⟩ := List.exists_mem_of_ne_nil xs h.1
  have := (setL_mem h.range x).2 hx
  rw [e] at this; cases this
theorem Good.both {xs ys : List Int} (hx : Good t xs) (hy : ys ≠ []) : Good t (bothX xs ys) := by
  refine ⟨fun e => ?_, fun s hs => ?_⟩
  · obtain ⟨x, hx⟩ := List.exists_mem_of_ne_nil xs hx.1
    obtain ⟨y, hy⟩ := List.exists_mem_of_ne_nil ys hy
    have := mem_bothX.2 ⟨x, hx, y, hy, rfl⟩
    rw [e] at this; cases this
  · obtain ⟨x, hxm, y, _, rfl⟩ := mem_bothX.1 hs
    exact andI_ok (hx.2 x hxm)
theorem Good.append {xs ys : List Int} (hx : Good t xs) (hy : ∀ y ∈ ys, setOkB t y = true) : Good t (xs ++ ys) :=
  ⟨fun e => hx.1 (List.append_eq_nil_iff.1 e).1, fun s hs => by
    rcases List.mem_append.1 hs with h | h
    · exact hx.2 s h
    · exact hy s h⟩
theorem Good.one {x : Int} (h : setOkB t x = true) : Good t [x] := ⟨by simp, fun y hy => by rw [List.mem_singleton] at hy; rw [hy]; exact h⟩
theorem Good.things {xs : List Int} (h : Good t xs) : 1 ≤ t ∧ t ≤ 3 := by
  obtain ⟨x, hx⟩ := List.exists_mem_of_ne_nil xs h.1
  have := setOkB_lt (h.2 x hx); omega
theorem Good.union {xs : List Int} (h : Good t xs) : 0 ≤ unionI xs ∧ unionI xs ≤ allOf t := by
  have h1 := tidy_ok h.1 h.2
  rw [← union_tidy h.range]; exact union_all h1
theorem Good.rest {xs : List Int} (h : Good t xs) : setOkB t (allOf t - unionI xs) = true := by
  have := h.union; have h2 := h.things
  exact setOk_of h2.1 h2.2 (by omega) (by omega)
/-- Within the rest of a set or another one: what is in common with the set is within the other one. -/
theorem within_cond (h1 : 1 ≤ t) (h3 : t ≤ 3) {s x y : Int} (hs : 0 ≤ s) (hs2 : s ≤ allOf t) (hx : 0 ≤ x) (hx2 : x ≤ allOf t) : withinB s (orI (allOf t - x) y) = withinB (andI s x) y := by
  rw [Bool.eq_iff_iff, within_iff (andI_nonneg _ _), within_iff hs]
  obtain ⟨n, _, hn⟩ := all_pow h1 h3
  have e : (allOf t - x).toNat = 2 ^ n - (x.toNat + 1) := by rw [hn]; omega
  have hxl : x.toNat < 2 ^ n := by rw [hn] at hx2; omega
  have hsl : s.toNat < 2 ^ n := by rw [hn] at hs2; omega
  refine forall_congr' fun i => ?_
  show (_ → ((((allOf t - x).toNat ||| y.toNat : Nat) : Int)).toNat.testBit i = true) ↔ ((((s.toNat &&& x.toNat : Nat) : Int)).toNat.testBit i = true → _)
  rw [Int.toNat_natCast, Int.toNat_natCast, Nat.testBit_and, Nat.testBit_or, e, Nat.testBit_two_pow_sub_succ hxl]
  cases h5 : s.toNat.testBit i
  · simp
  · have : i < n := by
      rcases Nat.lt_or_ge i n with h | h
      · exact h
      · rw [Nat.testBit_lt_two_pow (Nat.lt_of_lt_of_le hsl (Nat.pow_le_pow_right (by omega) h))] at h5; cases h5
    cases x.toNat.testBit i <;> cases y.toNat.testBit i <;> simp [this]
theorem choose_step (hb : Good t b) {out : List Int} (ho : Good t out) {x : Int} (hx : setOkB t x = true) :
    Good t (setL (bothX out (b.map fun y => orI (allOf t - x) y))) ∧
    ∀ s, 0 ≤ s → s ≤ allOf t → anyWithin s (setL (bothX out (b.map fun y => orI (allOf t - x) y))) = (anyWithin s out && anyWithin (andI s x) b) := by
  obtain ⟨h1, h3, hx0, hxa, _⟩ := setOkB_lt hx
  have hg : Good t (bothX out (b.map fun y => orI (allOf t - x) y)) := ho.both (by intro e; exact hb.1 (List.map_eq_nil_iff.1 e))
  refine ⟨hg.setL, fun s hs hs2 => ?_⟩
  rw [setL_any hg.range, bothX_any s hs]
  congr 1
  rw [Bool.eq_iff_iff, any_iff, any_iff]
  constructor
  · rintro ⟨z, hz, hw⟩
    obtain ⟨y, hy, rfl⟩ := List.mem_map.1 hz
    exact ⟨y, hy, by rw [← within_cond h1 h3 hs hs2 hx0 hxa]; exact hw⟩
  · rintro ⟨y, hy, hw⟩
    exact ⟨_, List.mem_map.2 ⟨y, hy, rfl⟩, by rw [within_cond h1 h3 hs hs2 hx0 hxa]; exact hw⟩
theorem choose_fold (hb : Good t b) : ∀ (a : List Int), (∀ x ∈ a, setOkB t x = true) → ∀ out, Good t out →
    Good t (a.foldl (fun out x => setL (bothX out (b.map fun y => orI (allOf t - x) y))) out) ∧
    ∀ s, 0 ≤ s → s ≤ allOf t → anyWithin s (a.foldl (fun out x => setL (bothX out (b.map fun y => orI (allOf t - x) y))) out) = (anyWithin s out && goodB a b s)
  | [], _, out, ho => ⟨ho, fun s _ _ => by simp [goodB]⟩
  | x :: r, ha, out, ho => by
    have h1 := choose_step hb ho (ha x (by simp))
    have h2 := choose_fold hb r (fun y hy => ha y (by simp [hy])) _ h1.1
    refine ⟨h2.1, fun s hs hs2 => ?_⟩
    rw [List.foldl_cons, h2.2 s hs hs2, h1.2 s hs hs2]
    unfold goodB
    rw [List.all_cons, Bool.and_assoc]
theorem choose_good (ha : Good t a) (hb : Good t b) : Good t (chooseX t a b) := by
  obtain ⟨h1, h3⟩ := ha.things
  exact (choose_fold hb a ha.2 _ (Good.one (setOk_of h1 h3 (allOf_lt t).1 (Int.le_refl _)))).1
theorem choose_any (ha : Good t a) (hb : Good t b) {s : Int} (hs : 0 ≤ s) (hs2 : s ≤ allOf t) : anyWithin s (chooseX t a b) = goodB a b s := by
  obtain ⟨h1, h3⟩ := ha.things
  unfold chooseX
  rw [(choose_fold hb a ha.2 _ (Good.one (setOk_of h1 h3 (allOf_lt t).1 (Int.le_refl _)))).2 s hs hs2, any_one, (within_all h1 h3 hs).2 hs2, Bool.true_and]
theorem good_same {a' b' : List Int} (ha : ∀ u, 0 ≤ u → u ≤ allOf t → anyWithin u a = anyWithin u a') (hb : ∀ u, 0 ≤ u → u ≤ allOf t → anyWithin u b = anyWithin u b') {s : Int} (hs : 0 ≤ s) (hs2 : s ≤ allOf t) : goodB a b s = goodB a' b' s := by
  rw [Bool.eq_iff_iff, good_iff, good_iff]
  refine forall_congr' fun u => imp_congr_right fun hu => imp_congr_right fun hw => ?_
  have := within_le hw hs
  rw [ha u hu (by omega), hb u hu (by omega)]
theorem union_same (ha : Good t a) (hb : issueOkB t b = true) (h : ∀ u, 0 ≤ u → u ≤ allOf t → anyWithin u a = anyWithin u b) : unionI a = unionI b := by
  have e : tidyL a = b := any_ext (tidy_ok ha.1 ha.2) hb fun s hs hs2 => by rw [tidy_any ha.range hs]; exact h s hs hs2
  rw [← union_tidy ha.range, e]
/-- The issue is either of the resolutions. -/
theorem res_main (h1 : 1 ≤ t) (h3 : t ≤ 3) : ∀ x : Sen, Good t (resS t x) ∧ ∀ s, 0 ≤ s → s ≤ allOf t → anyWithin s (resS t x) = anyWithin s (issueS t x)
  | .one => ⟨Good.one (setOk_of h1 h3 (allOf_lt t).1 (Int.le_refl _)), fun _ _ _ => rfl⟩
  | .zero => ⟨Good.one (setOk_of h1 h3 (by omega) (allOf_lt t).1), fun _ _ _ => rfl⟩
  | .thing i => ⟨Good.one (letter_ok h1 h3 i), fun _ _ _ => rfl⟩
  | .no x => by
    obtain ⟨hg, ha⟩ := res_main h1 h3 x
    refine ⟨Good.one hg.rest, fun s _ _ => ?_⟩
    show anyWithin s [allOf t - unionI (resS t x)] = anyWithin s (notL t (issueS t x))
    rw [law_not (sen_issue h1 h3 x), union_same hg (sen_issue h1 h3 x) ha]
  | .ask x => by
    obtain ⟨hg, ha⟩ := res_main h1 h3 x
    have hg2 : Good t (resS t x ++ [allOf t - unionI (resS t x)]) := hg.append (Good.one hg.rest).2
    refine ⟨hg2.setL, fun s hs hs2 => ?_⟩
    show anyWithin s (setL _) = anyWithin s (whetherL t (issueS t x))
    rw [setL_any hg2.range, whether_eq (sen_issue h1 h3 x), either_any (sen_issue h1 h3 x) (not_ok (sen_issue h1 h3 x)) hs, ← ha s hs hs2, law_not (sen_issue h1 h3 x), union_same hg (sen_issue h1 h3 x) ha]
    unfold anyWithin; rw [List.any_append]
  | .and_ x y => by
    obtain ⟨hg, ha⟩ := res_main h1 h3 x
    obtain ⟨hg2, ha2⟩ := res_main h1 h3 y
    have hb := hg.both hg2.1
    refine ⟨hb.setL, fun s hs hs2 => ?_⟩
    show anyWithin s (setL _) = anyWithin s (bothL t (issueS t x) (issueS t y))
    rw [setL_any hb.range, bothX_any s hs, both_any (sen_issue h1 h3 x) (sen_issue h1 h3 y) hs, ha s hs hs2, ha2 s hs hs2]
  | .or_ x y => by
    obtain ⟨hg, ha⟩ := res_main h1 h3 x
    obtain ⟨hg2, ha2⟩ := res_main h1 h3 y
    have hb := hg.append hg2.2
    refine ⟨hb.setL, fun s hs hs2 => ?_⟩
    show anyWithin s (setL _) = anyWithin s (eitherL t (issueS t x) (issueS t y))
    rw [setL_any hb.range, either_any (sen_issue h1 h3 x) (sen_issue h1 h3 y) hs, ← ha s hs hs2, ← ha2 s hs hs2]
    unfold anyWithin; rw [List.any_append]
  | .if_ x y => by
    obtain ⟨hg, ha⟩ := res_main h1 h3 x
    obtain ⟨hg2, ha2⟩ := res_main h1 h3 y
    refine ⟨choose_good hg hg2, fun s hs hs2 => ?_⟩
    show anyWithin s (chooseX t _ _) = anyWithin s (ifL t (issueS t x) (issueS t y))
    rw [choose_any hg hg2 hs hs2, if_any (sen_issue h1 h3 x) (sen_issue h1 h3 y) hs hs2, good_same ha ha2 hs hs2]
theorem res_tidy (h1 : 1 ≤ t) (h3 : t ≤ 3) (x : Sen) : tidyL (resS t x) = issueS t x := by
  obtain ⟨hg, ha⟩ := res_main h1 h3 x
  exact any_ext (tidy_ok hg.1 hg.2) (sen_issue h1 h3 x) fun s hs hs2 => by rw [tidy_any hg.range hs]; exact ha s hs hs2
theorem res_from (h1 : 1 ≤ t) (h3 : t ≤ 3) (x : Sen) (hl : (resS t x).length ≤ 70) : issueFromL t (resS t x) = issueS t x := by
  obtain ⟨hg, _⟩ := res_main h1 h3 x
  rw [from_ok, res_tidy h1 h3]
  unfold partsOkB
  simp only [Bool.and_eq_true, decide_eq_true_eq, List.all_eq_true]
  exact ⟨⟨List.length_pos_iff.2 hg.1, hl⟩, hg.2⟩
theorem res_follows (h1 : 1 ≤ t) (h3 : t ≤ 3) (x y : Sen) : ((resS t x).all fun r => anyWithin r (resS t y)) = followsB t (issueS t x) (issueS t y) := by
  obtain ⟨hg, ha⟩ := res_main h1 h3 x
  obtain ⟨hg2, ha2⟩ := res_main h1 h3 y
  rw [Bool.eq_iff_iff, List.all_eq_true, follows_iff (sen_issue h1 h3 x) (sen_issue h1 h3 y)]
  constructor
  · intro h s hs hs2 hsa
    rw [← ha s hs hs2] at hsa
    rw [← ha2 s hs hs2]
    obtain ⟨r, hr, hw⟩ := any_iff.1 hsa
    exact any_down hs (hg.range r hr).1 hw (h r hr)
  · intro h r hr
    have := setOkB_lt (hg.2 r hr)
    rw [ha2 r this.2.2.1 this.2.2.2.1]
    refine h r this.2.2.1 this.2.2.2.1 ?_
    rw [← ha r this.2.2.1 this.2.2.2.1]
    exact any_iff.2 ⟨r, hr, within_refl r this.2.2.1⟩
end
end Go.Proofs.Ytmdogidflaplkaa
