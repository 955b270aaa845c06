/-
  What the proofs of this seat's statements share (MathJ, MathK, MathL, MathM, AskS, MathN).
-/
import Derived.Test.YtpjpbemgjniljaaDoorU10
import Derived.Test.YtpjpbemgjniljaaDoorU7

namespace Go.Proofs.YtpjpbemgjniljaaDoor
open Go.RowKit

abbrev WS := Nat → Bool
def yesF (s q : WS) : WS := fun w => s w && q w
def noF (s q : WS) : WS := fun w => s w && !q w
def subF (s t : WS) : Prop := ∀ w, s w = true → t w = true
theorem yes_sub {s t : WS} (h : subF s t) (q : WS) : subF (yesF s q) (yesF t q) := fun w hw => by
  unfold yesF at *
  rw [Bool.and_eq_true] at hw ⊢
  exact ⟨h w hw.1, hw.2⟩
theorem no_sub {s t : WS} (h : subF s t) (q : WS) : subF (noF s q) (noF t q) := fun w hw => by
  unfold noF at *
  rw [Bool.and_eq_true] at hw ⊢
  exact ⟨h w hw.1, hw.2⟩
theorem yes_less (s q : WS) : subF (yesF s q) s := fun w hw => by unfold yesF at hw; rw [Bool.and_eq_true] at hw; exact hw.1
theorem no_less (s q : WS) : subF (noF s q) s := fun w hw => by unfold noF at hw; rw [Bool.and_eq_true] at hw; exact hw.1
theorem yes_yes (s q : WS) : yesF (yesF s q) q = yesF s q := by funext w; simp only [yesF]; cases s w <;> cases q w <;> rfl
theorem no_no (s q : WS) : noF (noF s q) q = noF s q := by funext w; simp only [noF]; cases s w <;> cases q w <;> rfl
theorem yes_swap (s p q : WS) : yesF (yesF s p) q = yesF (yesF s q) p := by funext w; simp only [yesF]; cases s w <;> cases p w <;> cases q w <;> rfl
theorem no_swap (s p q : WS) : noF (noF s p) q = noF (noF s q) p := by funext w; simp only [noF]; cases s w <;> cases p w <;> cases q w <;> rfl
theorem yes_no (s p q : WS) : noF (yesF s p) q = yesF (noF s q) p := by funext w; simp only [yesF, noF]; cases s w <;> cases p w <;> cases q w <;> rfl

section
variable (St : WS → Prop) (asks : List WS)
/-- So many questions settle it, whatever the answers are. -/
def canF : Nat → WS → Prop
  | 0, s => St s
  | d + 1, s => St s ∨ ∃ q ∈ asks, canF d (yesF s q) ∧ canF d (noF s q)
/-- All questions of a list, one behind the other, settle it. -/
def allF : List WS → WS → Prop
  | [], s => St s
  | q :: qs, s => allF qs (yesF s q) ∧ allF qs (noF s q)
end
section
variable {St : WS → Prop} {asks : List WS}
theorem can_step : ∀ {d : Nat} {s : WS}, canF St asks d s → canF St asks (d + 1) s
  | 0, _, h => .inl h
  | d + 1, s, h => by
    rcases h with h | ⟨q, hq, h1, h2⟩
    · exact .inl h
    · exact .inr ⟨q, hq, can_step h1, can_step h2⟩
theorem can_le {d e : Nat} (hde : d ≤ e) {s : WS} (h : canF St asks d s) : canF St asks e s := by
  induction hde with
  | refl => exact h
  | step _ ih => exact can_step ih
theorem can_sub (hdown : ∀ s t, subF s t → St t → St s) : ∀ {d : Nat} {s t : WS}, subF s t → canF St asks d t → canF St asks d s
  | 0, s, t, hs, h => hdown s t hs h
  | d + 1, s, t, hs, h => by
    rcases h with h | ⟨q, hq, h1, h2⟩
    · exact .inl (hdown s t hs h)
    · exact .inr ⟨q, hq, can_sub hdown (yes_sub hs q) h1, can_sub hdown (no_sub hs q) h2⟩
theorem can_more {asks' : List WS} (ha : ∀ q ∈ asks, q ∈ asks') : ∀ {d : Nat} {s : WS}, canF St asks d s → canF St asks' d s
  | 0, _, h => h
  | d + 1, s, h => by
    rcases h with h | ⟨q, hq, h1, h2⟩
    · exact .inl h
    · exact .inr ⟨q, ha q hq, can_more ha h1, can_more ha h2⟩
theorem all_of_settled (hdown : ∀ s t, subF s t → St t → St s) : ∀ (qs : List WS) {s : WS}, St s → allF St qs s
  | [], _, h => h
  | q :: qs, s, h => ⟨all_of_settled hdown qs (hdown _ s (yes_less s q) h), all_of_settled hdown qs (hdown _ s (no_less s q) h)⟩
theorem all_join : ∀ (qs : List WS) {s q : WS}, q ∈ qs → allF St qs (yesF s q) → allF St qs (noF s q) → allF St qs s
  | [], _, _, hq, _, _ => by cases hq
  | p :: ps, s, q, hq, h1, h2 => by
    obtain ⟨a1, a2⟩ := h1
    obtain ⟨b1, b2⟩ := h2
    by_cases hp : q ∈ ps
    · exact ⟨all_join ps hp (by rw [yes_swap]; exact a1) (by rw [yes_no]; exact b1), all_join ps hp (by rw [← yes_no]; exact a2) (by rw [no_swap]; exact b2)⟩
    · obtain rfl : q = p := by
        rcases List.mem_cons.1 hq with h | h
        · exact h
        · exact absurd h hp
      rw [yes_yes] at a1
      rw [no_no] at b2
      exact ⟨a1, b2⟩
theorem all_of_can (hdown : ∀ s t, subF s t → St t → St s) : ∀ {d : Nat} {s : WS}, canF St asks d s → allF St asks s
  | 0, _, h => all_of_settled hdown asks h
  | d + 1, s, h => by
    rcases h with h | ⟨q, hq, h1, h2⟩
    · exact all_of_settled hdown asks h
    · exact all_join asks hq (all_of_can hdown h1) (all_of_can hdown h2)
theorem can_of_all : ∀ (qs : List WS), (∀ q ∈ qs, q ∈ asks) → ∀ {s : WS}, allF St qs s → canF St asks qs.length s
  | [], _, _, h => h
  | q :: qs, ha, _, h => .inr ⟨q, ha q List.mem_cons_self, can_of_all qs (fun p hp => ha p (List.mem_cons_of_mem _ hp)) h.1, can_of_all qs (fun p hp => ha p (List.mem_cons_of_mem _ hp)) h.2⟩
/-- More questions than there are never help. -/
theorem can_bound (hdown : ∀ s t, subF s t → St t → St s) {d : Nat} {s : WS} (h : canF St asks d s) : canF St asks asks.length s :=
  can_of_all asks (fun _ h => h) (all_of_can hdown h)
end

/-- The least one of what is told of a list's elements, where it is told. -/
def leastOf (v : Int → Int) (b q : Int) : Int := if 0 ≤ v q ∧ (b < 0 ∨ v q < b) then v q else b
theorem least_fold (v : Int → Int) : ∀ (qs : List Int) (b : Int), (qs.foldl (leastOf v) b = b ∨ ∃ q ∈ qs, qs.foldl (leastOf v) b = v q ∧ 0 ≤ v q) ∧ (∀ q ∈ qs, 0 ≤ v q → 0 ≤ qs.foldl (leastOf v) b ∧ qs.foldl (leastOf v) b ≤ v q) ∧
    (0 ≤ b → 0 ≤ qs.foldl (leastOf v) b ∧ qs.foldl (leastOf v) b ≤ b)
  | [], b => ⟨.inl rfl, (fun q h => absurd h List.not_mem_nil), fun h => ⟨h, Int.le_refl _⟩⟩
  | q :: qs, b => by
    obtain ⟨h1, h2, h3⟩ := least_fold v qs (leastOf v b q)
    rw [List.foldl_cons]
    generalize hr : qs.foldl (leastOf v) (leastOf v b q) = r at *
    unfold leastOf at h1 h3
    refine ⟨?_, ?_, ?_⟩
    · rcases h1 with h1 | ⟨p, hp, hpv, hp0⟩
      · by_cases hc : 0 ≤ v q ∧ (b < 0 ∨ v q < b)
        · rw [if_pos hc] at h1; exact .inr ⟨q, List.mem_cons_self, h1, hc.1⟩
        · rw [if_neg hc] at h1; exact .inl h1
      · exact .inr ⟨p, List.mem_cons_of_mem _ hp, hpv, hp0⟩
    · intro p hp hp0
      rcases List.mem_cons.1 hp with rfl | hp
      · by_cases hc : 0 ≤ v p ∧ (b < 0 ∨ v p < b)
        · rw [if_pos hc] at h3; exact h3 hc.1
        · rw [if_neg hc] at h3
          have hb : 0 ≤ b ∧ b ≤ v p := by
            constructor <;> (apply Classical.byContradiction; intro hn; apply hc; omega)
          have := h3 hb.1; omega
      · exact h2 p hp hp0
    · intro hb
      by_cases hc : 0 ≤ v q ∧ (b < 0 ∨ v q < b)
      · rw [if_pos hc] at h3; have := h3 hc.1; omega
      · rw [if_neg hc] at h3; exact h3 hb
theorem sub_bit : ∀ (i n m : Nat), (n - (n &&& m)).testBit i = (n.testBit i && !m.testBit i)
  | 0, n, m => by
    have h := @Nat.and_mod_two_eq_one n m
    have hle : n &&& m ≤ n := Nat.and_le_left
    rw [Nat.testBit_zero, Nat.testBit_zero, Nat.testBit_zero]
    generalize n &&& m = k at *
    rw [Bool.eq_iff_iff]
    simp only [decide_eq_true_eq, Bool.and_eq_true, Bool.not_eq_true', decide_eq_false_iff_not]
    omega
  | i + 1, n, m => by
    have h := @Nat.and_mod_two_eq_one n m
    have hle : n &&& m ≤ n := Nat.and_le_left
    have hd : (n &&& m) / 2 = n / 2 &&& m / 2 := Nat.and_div_two
    have e : (n - (n &&& m)) / 2 = n / 2 - (n / 2 &&& m / 2) := by
      rw [← hd]
      generalize n &&& m = k at *
      omega
    rw [Nat.testBit_succ, Nat.testBit_succ, Nat.testBit_succ, e]
    exact sub_bit i (n / 2) (m / 2)
theorem has_sub {s q : Int} (w : Nat) (hs : 0 ≤ s) : hasW (s - andI s q) w = (hasW s w && !hasW q w) := by
  unfold hasW andI
  have hle : s.toNat &&& q.toNat ≤ s.toNat := Nat.and_le_left
  rw [show (s - ((s.toNat &&& q.toNat : Nat) : Int)).toNat = s.toNat - (s.toNat &&& q.toNat) by omega]
  exact sub_bit w s.toNat q.toNat
theorem sub_pos {s q : Int} (hs : 0 ≤ s) : 0 ≤ s - andI s q := by
  unfold andI
  have hle : s.toNat &&& q.toNat ≤ s.toNat := Nat.and_le_left
  omega
end Go.Proofs.YtpjpbemgjniljaaDoor

namespace Go.Proofs.YtpjpbemgjniljaaDoor
open Go.RowKit

/-- What one question is worth, where f tells it of the two sets that it leaves. -/
def worthI (f : Int → Int) (s q : Int) : Int :=
  if andI s q = 0 ∨ andI s q = s then -1 else if 0 ≤ f (andI s q) ∧ 0 ≤ f (s - andI s q) then 1 + max (f (andI s q)) (f (s - andI s q)) else -1
def needI (asks issue : List Int) : Nat → Int → Int
  | 0, s => if anyWithin s issue = true then 0 else -1
  | l + 1, s => if anyWithin s issue = true then 0 else asks.foldl (leastOf (worthI (needI asks issue l) s)) (-1)
/-- A set of worlds is within one of an issue's. -/
def inOne (issue : List Int) (s : WS) : Prop := ∃ p ∈ issue, subF s (hasW p)
theorem inOne_down (issue : List Int) : ∀ s t, subF s t → inOne issue t → inOne issue s := fun _ _ h ⟨p, hp, h2⟩ => ⟨p, hp, fun w hw => h2 w (h w hw)⟩
theorem any_inOne {s : Int} (hs : 0 ≤ s) {issue : List Int} : anyWithin s issue = true ↔ inOne issue (hasW s) := by
  rw [any_iff]
  constructor
  · rintro ⟨p, hp, h⟩; exact ⟨p, hp, fun w hw => (within_iff hs).1 h w hw⟩
  · rintro ⟨p, hp, h⟩; exact ⟨p, hp, (within_iff hs).2 h⟩
def canI (asks issue : List Int) (d : Nat) (s : Int) : Prop := canF (inOne issue) (asks.map hasW) d (hasW s)
theorem has_yes (s q : Int) : hasW (andI s q) = yesF (hasW s) (hasW q) := by funext w; exact has_and s q w
theorem has_no {s : Int} (q : Int) (hs : 0 ≤ s) : hasW (s - andI s q) = noF (hasW s) (hasW q) := by funext w; exact has_sub w hs
theorem and_pos (s q : Int) : 0 ≤ andI s q := Int.natCast_nonneg _
theorem need_least (asks issue : List Int) : ∀ (l : Nat) (s : Int), 0 ≤ s →
    (needI asks issue l s = -1 ∨ (0 ≤ needI asks issue l s ∧ needI asks issue l s ≤ l ∧ canI asks issue (needI asks issue l s).toNat s)) ∧
    (∀ d : Nat, d ≤ l → canI asks issue d s → 0 ≤ needI asks issue l s ∧ needI asks issue l s ≤ d)
  | 0, s, hs => by
    unfold needI
    by_cases h : anyWithin s issue = true
    · rw [if_pos h]
      exact ⟨.inr ⟨by omega, by omega, (any_inOne hs).1 h⟩, fun d _ _ => ⟨by omega, by omega⟩⟩
    · rw [if_neg h]
      refine ⟨.inl rfl, fun d hd hc => ?_⟩
      obtain rfl : d = 0 := by omega
      exact absurd ((any_inOne hs).2 hc) h
  | l + 1, s, hs => by
    unfold needI
    by_cases h : anyWithin s issue = true
    · rw [if_pos h]
      exact ⟨.inr ⟨by omega, by omega, (any_inOne hs).1 h⟩, fun d _ _ => ⟨by omega, by omega⟩⟩
    · rw [if_neg h]
      obtain ⟨h1, h2, _⟩ := least_fold (worthI (needI asks issue l) s) asks (-1)
      generalize asks.foldl (leastOf (worthI (needI asks issue l) s)) (-1) = r at *
      constructor
      · rcases h1 with h1 | ⟨q, hq, hr, hr0⟩
        · exact .inl h1
        · right
          unfold worthI at hr hr0
          by_cases hz : andI s q = 0 ∨ andI s q = s
          · rw [if_pos hz] at hr0; omega
          · rw [if_neg hz] at hr hr0
            by_cases hab : 0 ≤ needI asks issue l (andI s q) ∧ 0 ≤ needI asks issue l (s - andI s q)
            · rw [if_pos hab] at hr
              rcases (need_least asks issue l (andI s q) (and_pos s q)).1 with ha | ⟨ha0, ha1, ha⟩
              · omega
              rcases (need_least asks issue l (s - andI s q) (sub_pos hs)).1 with hb | ⟨hb0, hb1, hb⟩
              · omega
              have hm1 := Int.le_max_left (needI asks issue l (andI s q)) (needI asks issue l (s - andI s q))
              have hm2 := Int.le_max_right (needI asks issue l (andI s q)) (needI asks issue l (s - andI s q))
              have hm3 : max (needI asks issue l (andI s q)) (needI asks issue l (s - andI s q)) ≤ l := Int.max_le.2 ⟨ha1, hb1⟩
              generalize max (needI asks issue l (andI s q)) (needI asks issue l (s - andI s q)) = m at *
              refine ⟨by omega, by omega, ?_⟩
              rw [show r.toNat = m.toNat + 1 by omega]
              right
              refine ⟨hasW q, List.mem_map_of_mem hq, ?_, ?_⟩
              · rw [← has_yes]; exact can_le (by omega) ha
              · rw [← has_no q hs]; exact can_le (by omega) hb
            · rw [if_neg hab] at hr0; omega
      · intro d
        induction d with
        | zero => exact fun _ hc => absurd ((any_inOne hs).2 hc) h
        | succ d ih =>
          intro hd hc
          rcases hc with hc | ⟨p, hp, hc1, hc2⟩
          · exact absurd ((any_inOne hs).2 hc) h
          · obtain ⟨q, hq, rfl⟩ := List.mem_map.1 hp
            by_cases hz0 : andI s q = 0
            · have hss : hasW s = noF (hasW s) (hasW q) := by rw [← has_no q hs, hz0, Int.sub_zero]
              have := ih (by omega) (by unfold canI; rw [hss]; exact hc2)
              omega
            · by_cases hzs : andI s q = s
              · have hss : hasW s = yesF (hasW s) (hasW q) := by rw [← has_yes, hzs]
                have := ih (by omega) (by unfold canI; rw [hss]; exact hc1)
                omega
              · rw [← has_yes] at hc1
                rw [← has_no q hs] at hc2
                have ha := (need_least asks issue l (andI s q) (and_pos s q)).2 d (by omega) hc1
                have hb := (need_least asks issue l (s - andI s q) (sub_pos hs)).2 d (by omega) hc2
                have hv : worthI (needI asks issue l) s q = 1 + max (needI asks issue l (andI s q)) (needI asks issue l (s - andI s q)) := by
                  unfold worthI
                  rw [if_neg (by rintro (h | h); exact hz0 h; exact hzs h), if_pos ⟨ha.1, hb.1⟩]
                have hm1 := Int.le_max_left (needI asks issue l (andI s q)) (needI asks issue l (s - andI s q))
                have hm3 : max (needI asks issue l (andI s q)) (needI asks issue l (s - andI s q)) ≤ d := Int.max_le.2 ⟨ha.2, hb.2⟩
                have := h2 q hq (by rw [hv]; omega)
                rw [hv] at this
                omega

/-- Fewer worlds want no more questions. -/
theorem need_fewer {asks issue : List Int} {l : Nat} {s u : Int} (hs : 0 ≤ s) (hu : 0 ≤ u) (h : withinB u s = true) (hn : 0 ≤ needI asks issue l s) : 0 ≤ needI asks issue l u ∧ needI asks issue l u ≤ needI asks issue l s := by
  rcases (need_least asks issue l s hs).1 with h1 | ⟨_, h1, h2⟩
  · omega
  have h3 : canI asks issue (needI asks issue l s).toNat u := can_sub (inOne_down issue) (fun w hw => (within_iff hu).1 h w hw) h2
  have := (need_least asks issue l u hu).2 _ (by omega) h3
  omega
/-- More questions at hand want no more of them. -/
theorem need_longer {asks more issue : List Int} {l : Nat} {s : Int} (hs : 0 ≤ s) (h : ∀ q ∈ asks, q ∈ more) (hn : 0 ≤ needI asks issue l s) : 0 ≤ needI more issue l s ∧ needI more issue l s ≤ needI asks issue l s := by
  rcases (need_least asks issue l s hs).1 with h1 | ⟨_, h1, h2⟩
  · omega
  have h3 : canI more issue (needI asks issue l s).toNat s := can_more (fun q hq => by obtain ⟨p, hp, rfl⟩ := List.mem_map.1 hq; exact List.mem_map_of_mem (h p hp)) h2
  have := (need_least more issue l s hs).2 _ (by omega) h3
  omega
/-- None is needed just where it is settled. -/
theorem need_none {asks issue : List Int} {l : Nat} {s : Int} (hs : 0 ≤ s) : needI asks issue l s = 0 ↔ anyWithin s issue = true := by
  constructor
  · intro h
    rcases (need_least asks issue l s hs).1 with h1 | ⟨_, _, h2⟩
    · omega
    · rw [h] at h2
      exact (any_inOne hs).2 h2
  · intro h
    cases l <;> unfold needI <;> rw [if_pos h]
/-- A plan's depth is never under the need, however deep it is. -/
theorem need_plan {asks issue : List Int} {l d : Nat} {s : Int} (hs : 0 ≤ s) (hl : asks.length ≤ l) (h : canI asks issue d s) : 0 ≤ needI asks issue l s ∧ needI asks issue l s ≤ d := by
  by_cases hd : d ≤ l
  · exact (need_least asks issue l s hs).2 d hd h
  · have h2 : canI asks issue asks.length s := by
      have := can_bound (inOne_down issue) h
      rw [List.length_map] at this
      exact this
    have := (need_least asks issue l s hs).2 _ hl h2
    omega
theorem filter_split (f : Int → Bool) : ∀ ps : List Int, ps.length = (ps.filter f).length + (ps.filter fun p => !f p).length
  | [] => rfl
  | p :: ps => by
    have := filter_split f ps
    rw [List.filter_cons, List.filter_cons]
    cases f p <;> simp <;> omega
/-- Answers bound the questions. -/
theorem need_many {asks issue : List Int} (hap : ∀ p ∈ issue, ∀ q ∈ issue, ∀ w, hasW p w = true → hasW q w = true → p = q) : ∀ (d : Nat) (s : WS), canF (inOne issue) (asks.map hasW) d s →
    ∀ ps : List Int, ps.Nodup → (∀ p ∈ ps, p ∈ issue ∧ ∃ w, hasW p w = true ∧ s w = true) → ps.length ≤ 2 ^ d := by
  have base : ∀ (s : WS), inOne issue s → ∀ ps : List Int, ps.Nodup → (∀ p ∈ ps, p ∈ issue ∧ ∃ w, hasW p w = true ∧ s w = true) → ps.length ≤ 1 := by
    rintro s ⟨p0, hp0, hsub⟩ ps hnd hps
    have hall : ∀ p ∈ ps, p = p0 := fun p hp => by
      obtain ⟨h1, w, h2, h3⟩ := hps p hp
      exact hap p h1 p0 hp0 w h2 (hsub w h3)
    rcases ps with _ | ⟨a, _ | ⟨b, r⟩⟩
    · simp
    · simp
    · exfalso
      have h1 := hall a List.mem_cons_self
      have h2 := hall b (List.mem_cons_of_mem _ List.mem_cons_self)
      rw [List.nodup_cons] at hnd
      exact hnd.1 (by rw [h1, h2]; exact List.mem_cons_self)
  intro d
  induction d with
  | zero => exact fun s h ps h1 h2 => base s h ps h1 h2
  | succ d ih =>
    intro s h ps hnd hps
    rcases h with h | ⟨q, _, hc1, hc2⟩
    · exact Nat.le_trans (base s h ps hnd hps) Nat.one_le_two_pow
    · classical
      let f : Int → Bool := fun p => decide (∃ w, hasW p w = true ∧ yesF s q w = true)
      have e := filter_split f ps
      have h1 := ih _ hc1 (ps.filter f) (hnd.filter _) fun p hp => by
        obtain ⟨hp1, hp2⟩ := List.mem_filter.1 hp
        exact ⟨(hps p hp1).1, of_decide_eq_true hp2⟩
      have h2 := ih _ hc2 (ps.filter fun p => !f p) (hnd.filter _) fun p hp => by
        obtain ⟨hp1, hp2⟩ := List.mem_filter.1 hp
        obtain ⟨g1, w, g2, g3⟩ := hps p hp1
        refine ⟨g1, w, g2, ?_⟩
        unfold noF
        rw [g3, Bool.true_and, Bool.not_eq_true']
        rw [Bool.not_eq_true'] at hp2
        have hno := of_decide_eq_false hp2
        cases hq : q w with
        | false => rfl
        | true => exact absurd ⟨w, g2, by unfold yesF; rw [g3, hq]; rfl⟩ hno
      rw [Nat.pow_succ]
      omega
end Go.Proofs.YtpjpbemgjniljaaDoor

namespace Go.Proofs.YtpjpbemgjniljaaDoor
open Go.RowKit

inductive PlanT where
  | dot : PlanT
  | ask : Nat → PlanT → PlanT → PlanT
  deriving DecidableEq
def depthP : PlanT → Nat
  | .dot => 0
  | .ask _ y n => max (depthP y) (depthP n) + 1
def textP : PlanT → List Nat
  | .dot => [46]
  | .ask k y n => (48 + k) :: 40 :: (textP y ++ (textP n ++ [41]))
def okP (asks issue : List Int) : PlanT → Int → Bool
  | .dot, s => anyWithin s issue
  | .ask k y n, s => match asks[k]? with
    | some q => okP asks issue y (andI s q) && okP asks issue n (s - andI s q)
    | none => false
/-- What a plan asks is at hand. -/
def knowsP (m : Nat) : PlanT → Prop
  | .dot => True
  | .ask k y n => k < m ∧ knowsP m y ∧ knowsP m n
def sizeP : PlanT → Nat
  | .dot => 1
  | .ask _ y n => sizeP y + sizeP n + 1
def openB : List Nat → Option (List Nat)
  | [] => none
  | c :: r => if c = 40 then some r else none
def shutB : List Nat → Option (List Nat)
  | [] => none
  | c :: r => if c = 41 then some r else none
theorem open_is {l r : List Nat} (h : openB l = some r) : l = 40 :: r := by
  cases l with
  | nil => cases h
  | cons c t =>
    change (if c = 40 then some t else none) = some r at h
    by_cases hc : c = 40
    · rw [if_pos hc] at h; cases h; rw [hc]
    · rw [if_neg hc] at h; cases h
theorem shut_is {l r : List Nat} (h : shutB l = some r) : l = 41 :: r := by
  cases l with
  | nil => cases h
  | cons c t =>
    change (if c = 41 then some t else none) = some r at h
    by_cases hc : c = 41
    · rw [if_pos hc] at h; cases h; rw [hc]
    · rw [if_neg hc] at h; cases h
/-- A plan read off a text; what is left behind it. -/
def readP (m : Nat) : Nat → List Nat → Option (PlanT × List Nat)
  | 0, _ => none
  | _ + 1, [] => none
  | f + 1, b :: r =>
    if b = 46 then some (.dot, r)
    else if 48 ≤ b ∧ b < 48 + m then
      (openB r).bind fun r0 => (readP m f r0).bind fun p => (readP m f p.2).bind fun q => (shutB q.2).map fun r2 => (.ask (b - 48) p.1 q.1, r2)
    else none
theorem readP_text (m : Nat) : ∀ (p : PlanT) (f : Nat) (r : List Nat), knowsP m p → sizeP p ≤ f → readP m f (textP p ++ r) = some (p, r)
  | .dot, f, r, _, hf => by
    cases f with
    | zero => unfold sizeP at hf; omega
    | succ f => rfl
  | .ask k y n, f, r, hk, hf => by
    obtain ⟨h1, h2, h3⟩ := hk
    unfold sizeP at hf
    cases f with
    | zero => omega
    | succ f =>
      have e1 := readP_text m y f ((textP n ++ [41]) ++ r) h2 (by omega)
      have e2 := readP_text m n f (41 :: r) h3 (by omega)
      have ht : textP (.ask k y n) ++ r = (48 + k) :: 40 :: (textP y ++ ((textP n ++ [41]) ++ r)) := by
        show ((48 + k) :: 40 :: (textP y ++ (textP n ++ [41]))) ++ r = _
        simp
      have e2' : readP m f ((textP n ++ [41]) ++ r) = some (n, 41 :: r) := by rw [List.append_assoc]; exact e2
      have eo : ∀ l, openB (40 :: l) = some l := fun l => rfl
      have es : ∀ l, shutB (41 :: l) = some l := fun l => rfl
      rw [ht]
      unfold readP
      rw [if_neg (by omega), if_pos ⟨by omega, by omega⟩, eo, Option.bind_some, e1, Option.bind_some, e2', Option.bind_some, es, Option.map_some]
      rw [show 48 + k - 48 = k by omega]
theorem read_is (m : Nat) : ∀ (f : Nat) (bs : List Nat) (p : PlanT) (r : List Nat), readP m f bs = some (p, r) → bs = textP p ++ r ∧ knowsP m p
  | 0, _, _, _, h => by cases h
  | f + 1, [], _, _, h => by cases h
  | f + 1, b :: bs, p, r, h => by
    unfold readP at h
    by_cases h46 : b = 46
    · rw [if_pos h46] at h
      cases h
      exact ⟨by rw [h46]; rfl, trivial⟩
    · rw [if_neg h46] at h
      by_cases hb : 48 ≤ b ∧ b < 48 + m
      · rw [if_pos hb, Option.bind_eq_some_iff] at h
        obtain ⟨r0, h0, h⟩ := h
        rw [Option.bind_eq_some_iff] at h
        obtain ⟨⟨y, r1⟩, hy, h⟩ := h
        rw [Option.bind_eq_some_iff] at h
        obtain ⟨⟨z, r2⟩, hz, h⟩ := h
        rw [Option.map_eq_some_iff] at h
        obtain ⟨r3, h3, h⟩ := h
        cases h
        obtain ⟨g1, g2⟩ := read_is m f r0 y r1 hy
        obtain ⟨g3, g4⟩ := read_is m f r1 z r2 hz
        refine ⟨?_, by omega, g2, g4⟩
        have g5 : r2 = 41 :: r := shut_is h3
        rw [open_is h0, g1, g3, g5]
        show b :: 40 :: _ = ((48 + (b - 48)) :: 40 :: (textP y ++ (textP z ++ [41]))) ++ r
        rw [show 48 + (b - 48) = b by omega]
        simp
      · rw [if_neg hb] at h; cases h

theorem ok_can {asks issue : List Int} : ∀ (p : PlanT) (s : Int), 0 ≤ s → okP asks issue p s = true → canI asks issue (depthP p) s
  | .dot, s, hs, h => (any_inOne hs).1 h
  | .ask k y n, s, hs, h => by
    unfold okP at h
    cases hq : asks[k]? with
    | none => rw [hq] at h; cases h
    | some q =>
      rw [hq] at h
      simp only [Bool.and_eq_true] at h
      have h1 := ok_can y _ (and_pos s q) h.1
      have h2 := ok_can n _ (sub_pos hs) h.2
      unfold canI at h1 h2
      rw [has_yes] at h1
      rw [has_no q hs] at h2
      exact .inr ⟨hasW q, List.mem_map_of_mem (List.mem_of_getElem? hq), can_le (Nat.le_max_left _ _) h1, can_le (Nat.le_max_right _ _) h2⟩
theorem ok_less {asks issue : List Int} : ∀ (p : PlanT) (s u : Int), 0 ≤ s → 0 ≤ u → subF (hasW u) (hasW s) → okP asks issue p s = true → okP asks issue p u = true
  | .dot, s, u, hs, hu, h, h2 => (any_inOne hu).2 (inOne_down issue _ _ h ((any_inOne hs).1 h2))
  | .ask k y n, s, u, hs, hu, h, h2 => by
    unfold okP at h2 ⊢
    cases hq : asks[k]? with
    | none => rw [hq] at h2; cases h2
    | some q =>
      rw [hq] at h2
      simp only [Bool.and_eq_true] at h2 ⊢
      refine ⟨ok_less y _ _ (and_pos s q) (and_pos u q) ?_ h2.1, ok_less n _ _ (sub_pos hs) (sub_pos hu) ?_ h2.2⟩
      · rw [has_yes, has_yes]; exact yes_sub h _
      · rw [has_no q hs, has_no q hu]; exact no_sub h _
theorem ok_knows {asks issue : List Int} : ∀ (p : PlanT) (s : Int), okP asks issue p s = true → knowsP asks.length p
  | .dot, _, _ => trivial
  | .ask k y n, s, h => by
    unfold okP at h
    cases hq : asks[k]? with
    | none => rw [hq] at h; cases h
    | some q =>
      rw [hq] at h
      simp only [Bool.and_eq_true] at h
      exact ⟨(List.getElem?_eq_some_iff.1 hq).1, ok_knows y _ h.1, ok_knows n _ h.2⟩

/-- The answers in a world. -/
def answersP (asks : List Int) (w : Nat) : PlanT → List Bool
  | .dot => []
  | .ask k y n => if hasW (asks.getD k 0) w = true then true :: answersP asks w y else false :: answersP asks w n
theorem answersP_len (asks : List Int) (w : Nat) : ∀ p : PlanT, (answersP asks w p).length ≤ depthP p
  | .dot => Nat.le_refl _
  | .ask k y n => by
    have h1 := answersP_len asks w y
    have h2 := answersP_len asks w n
    have h3 := Nat.le_max_left (depthP y) (depthP n)
    have h4 := Nat.le_max_right (depthP y) (depthP n)
    unfold answersP depthP
    split <;> simp only [List.length_cons] <;> omega
/-- The worlds with the same answers settle the issue. -/
theorem answers_settle {asks issue : List Int} (w : Nat) : ∀ (p : PlanT) (s : Int), 0 ≤ s → okP asks issue p s = true → inOne issue fun v => hasW s v && decide (answersP asks v p = answersP asks w p)
  | .dot, s, hs, h => inOne_down issue _ _ (fun v hv => by simp only [Bool.and_eq_true] at hv; exact hv.1) ((any_inOne hs).1 h)
  | .ask k y n, s, hs, h => by
    unfold okP at h
    cases hq : asks[k]? with
    | none => rw [hq] at h; cases h
    | some q =>
      rw [hq] at h
      simp only [Bool.and_eq_true] at h
      have hg : asks.getD k 0 = q := by rw [List.getD_eq_getElem?_getD, hq]; rfl
      by_cases hw : hasW q w = true
      · refine inOne_down issue _ _ (fun v hv => ?_) (answers_settle w y _ (and_pos s q) h.1)
        simp only [Bool.and_eq_true, decide_eq_true_eq] at hv ⊢
        obtain ⟨h1, h2⟩ := hv
        unfold answersP at h2
        rw [hg, if_pos hw] at h2
        by_cases hv : hasW q v = true
        · rw [if_pos hv] at h2
          exact ⟨by rw [has_yes]; unfold yesF; rw [h1, hv]; rfl, (List.cons.inj h2).2⟩
        · rw [if_neg hv] at h2
          cases (List.cons.inj h2).1
      · refine inOne_down issue _ _ (fun v hv => ?_) (answers_settle w n _ (sub_pos hs) h.2)
        simp only [Bool.and_eq_true, decide_eq_true_eq] at hv ⊢
        obtain ⟨h1, h2⟩ := hv
        unfold answersP at h2
        rw [hg, if_neg hw] at h2
        by_cases hv : hasW q v = true
        · rw [if_pos hv] at h2
          cases (List.cons.inj h2).1
        · rw [if_neg hv] at h2
          exact ⟨by rw [has_no q hs]; unfold noF; rw [h1]; simp [hv], (List.cons.inj h2).2⟩
end Go.Proofs.YtpjpbemgjniljaaDoor

namespace Go.Proofs.YtpjpbemgjniljaaDoor
open Go.RowKit

/-- The first question that is worth what is needed. -/
def firstI (asks issue : List Int) (l : Nat) (s : Int) : Option Nat := asks.findIdx? fun q => decide (worthI (needI asks issue l) s q = needI asks issue (l + 1) s)
def planI (asks issue : List Int) : Nat → Int → PlanT
  | 0, _ => .dot
  | l + 1, s => if anyWithin s issue = true then .dot else
    match firstI asks issue l s with
    | some k => .ask k (planI asks issue l (andI s (asks.getD k 0))) (planI asks issue l (s - andI s (asks.getD k 0)))
    | none => .dot
theorem plan_ok (asks issue : List Int) : ∀ (l : Nat) (s : Int), 0 ≤ s → 0 ≤ needI asks issue l s → okP asks issue (planI asks issue l s) s = true ∧ (depthP (planI asks issue l s) : Int) = needI asks issue l s
  | 0, s, _, hn => by
    unfold needI at hn ⊢
    unfold planI
    by_cases h : anyWithin s issue = true
    · rw [if_pos h]; exact ⟨h, rfl⟩
    · rw [if_neg h] at hn; omega
  | l + 1, s, hs, hn => by
    by_cases h : anyWithin s issue = true
    · have e : needI asks issue (l + 1) s = 0 := by unfold needI; rw [if_pos h]
      rw [e]
      unfold planI
      rw [if_pos h]
      exact ⟨h, rfl⟩
    · have e : needI asks issue (l + 1) s = asks.foldl (leastOf (worthI (needI asks issue l) s)) (-1) := by
        show (if anyWithin s issue = true then 0 else _) = _
        rw [if_neg h]
      have hex : ∃ q ∈ asks, needI asks issue (l + 1) s = worthI (needI asks issue l) s q := by
        rcases (least_fold (worthI (needI asks issue l) s) asks (-1)).1 with h1 | ⟨q, hq, h1, _⟩
        · rw [← e] at h1; omega
        · exact ⟨q, hq, by rw [e]; exact h1⟩
      obtain ⟨q0, hq0, hv0⟩ := hex
      cases hf : firstI asks issue l s with
      | none =>
        unfold firstI at hf
        rw [List.findIdx?_eq_none_iff] at hf
        have := hf q0 hq0
        rw [decide_eq_false_iff_not] at this
        exact absurd hv0.symm this
      | some k =>
        have hf2 := hf
        unfold firstI at hf2
        rw [List.findIdx?_eq_some_iff_getElem] at hf2
        obtain ⟨hk, hp, _⟩ := hf2
        rw [decide_eq_true_eq] at hp
        have hg : asks.getD k 0 = asks[k] := by rw [List.getD_eq_getElem?_getD, List.getElem?_eq_getElem hk]; rfl
        have hpl : planI asks issue (l + 1) s = .ask k (planI asks issue l (andI s asks[k])) (planI asks issue l (s - andI s asks[k])) := by
          show (if anyWithin s issue = true then PlanT.dot else match firstI asks issue l s with | some k => _ | none => _) = _
          rw [if_neg h, hf]
          simp only [hg]
        rw [hpl]
        have hw := hp
        unfold worthI at hw
        by_cases hz : andI s asks[k] = 0 ∨ andI s asks[k] = s
        · rw [if_pos hz] at hw; omega
        · rw [if_neg hz] at hw
          by_cases hab : 0 ≤ needI asks issue l (andI s asks[k]) ∧ 0 ≤ needI asks issue l (s - andI s asks[k])
          · rw [if_pos hab] at hw
            obtain ⟨a1, a2⟩ := plan_ok asks issue l _ (and_pos s asks[k]) hab.1
            obtain ⟨b1, b2⟩ := plan_ok asks issue l _ (sub_pos hs) hab.2
            refine ⟨?_, ?_⟩
            · unfold okP
              rw [List.getElem?_eq_getElem hk]
              simp only [a1, b1, Bool.and_self]
            · unfold depthP
              rw [← hw, ← a2, ← b2]
              have hm : ((max (depthP (planI asks issue l (andI s asks[k]))) (depthP (planI asks issue l (s - andI s asks[k]))) : Nat) : Int) = max (depthP (planI asks issue l (andI s asks[k])) : Int) (depthP (planI asks issue l (s - andI s asks[k])) : Int) := by
                omega
              push_cast
              omega
          · rw [if_neg hab] at hw; omega
end Go.Proofs.YtpjpbemgjniljaaDoor

namespace Go.Proofs.YtpjpbemgjniljaaDoor
open Go.RowKit

def bestTo (asks issue : List Int) (l : Nat) (s : Int) (k : Nat) : Int := (asks.take k).foldl (leastOf (worthI (needI asks issue l) s)) (-1)
theorem bestTo_next {asks issue : List Int} {l : Nat} {s q : Int} {k : Nat} (hq : Hid (asks[k]? = some q)) : bestTo asks issue l s (k + 1) = leastOf (worthI (needI asks issue l) s) (bestTo asks issue l s k) q := by
  unfold bestTo; rw [take_snoc hq, List.foldl_append]; rfl
theorem need_range (asks issue : List Int) (l : Nat) (s : Int) (hs : 0 ≤ s) : -1 ≤ needI asks issue l s ∧ needI asks issue l s ≤ l := by
  rcases (need_least asks issue l s hs).1 with h | ⟨h1, h2, _⟩ <;> omega
theorem best_range (asks issue : List Int) (l : Nat) (s : Int) (k : Nat) (hs : 0 ≤ s) : -1 ≤ bestTo asks issue l s k ∧ bestTo asks issue l s k ≤ l + 1 := by
  unfold bestTo
  rcases (least_fold (worthI (needI asks issue l) s) (asks.take k) (-1)).1 with h | ⟨q, _, h, h0⟩
  · rw [h]; omega
  · rw [h]
    refine ⟨by omega, ?_⟩
    unfold worthI
    have h1 := need_range asks issue l (andI s q) (and_pos s q)
    have h2 := need_range asks issue l (s - andI s q) (sub_pos hs)
    split
    · omega
    · split
      · have : max (needI asks issue l (andI s q)) (needI asks issue l (s - andI s q)) ≤ l := Int.max_le.2 ⟨h1.2, h2.2⟩
        omega
      · omega
theorem and_le (s q : Int) (hs : 0 ≤ s) : andI s q ≤ s := by
  unfold andI
  have hle : s.toNat &&& q.toNat ≤ s.toNat := Nat.and_le_left
  omega
/-- What one step of the model's loop makes of the best number. -/
theorem least_skip {f : Int → Int} {s q y b : Int} (hy : Hid (andI s q = y)) (h : y = 0 ∨ y = s) : leastOf (worthI f s) b q = b := by
  have hw : worthI f s q = -1 := by unfold worthI; rw [hy.out, if_pos h]
  unfold leastOf; rw [hw, if_neg (by omega)]
theorem least_take {f : Int → Int} {s q y b a1 a2 m : Int} (hy : Hid (andI s q = y)) (h0 : y ≠ 0) (hs : y ≠ s) (h1 : Hid (f y = a1)) (h2 : Hid (f (s - y) = a2)) (hm : Hid (max a1 a2 = m)) (hp1 : 0 ≤ a1) (hp2 : 0 ≤ a2) :
    leastOf (worthI f s) b q = if b < 0 ∨ 1 + m < b then 1 + m else b := by
  have hm1 := Int.le_max_left a1 a2
  have hw : worthI f s q = 1 + m := by
    unfold worthI
    rw [hy.out, if_neg (by rintro (h | h); exact h0 h; exact hs h), h1.out, h2.out, if_pos ⟨hp1, hp2⟩, hm.out]
  unfold leastOf
  rw [hw]
  rw [hm.out] at hm1
  by_cases hb : b < 0 ∨ 1 + m < b
  · rw [if_pos hb, if_pos ⟨by omega, hb⟩]
  · rw [if_neg hb, if_neg (fun h => hb h.2)]
theorem least_no {f : Int → Int} {s q y b a1 a2 : Int} (hy : Hid (andI s q = y)) (h0 : y ≠ 0) (hs : y ≠ s) (h1 : Hid (f y = a1)) (h2 : Hid (f (s - y) = a2)) (hn : ¬ (0 ≤ a1 ∧ 0 ≤ a2)) :
    leastOf (worthI f s) b q = b := by
  have hw : worthI f s q = -1 := by
    unfold worthI
    rw [hy.out, if_neg (by rintro (h | h); exact h0 h; exact hs h), h1.out, h2.out, if_neg hn]
  unfold leastOf; rw [hw, if_neg (by omega)]
end Go.Proofs.YtpjpbemgjniljaaDoor

namespace Go.Proofs.YtpjpbemgjniljaaDoor
open Go.RowKit

def walkR (asks issue : List Int) : Nat → Int → List Nat → Option (Nat × List Nat)
  | 0, _, _ => none
  | _ + 1, _, [] => none
  | f + 1, s, b :: r =>
    if b = 46 then (if anyWithin s issue = true then some (0, r) else none)
    else if 48 ≤ b ∧ b < 48 + asks.length then
      (openB r).bind fun r0 => (walkR asks issue f (andI s (asks.getD (b - 48) 0)) r0).bind fun p =>
        (walkR asks issue f (s - andI s (asks.getD (b - 48) 0)) p.2).bind fun q => (shutB q.2).map fun r2 => (max p.1 q.1 + 1, r2)
    else none
def stepR (asks issue : List Int) (s : Int) (p : PlanT × List Nat) : Option (Nat × List Nat) := if okP asks issue p.1 s = true then some (depthP p.1, p.2) else none
theorem walk_read (asks issue : List Int) : ∀ (f : Nat) (s : Int) (bs : List Nat), walkR asks issue f s bs = (readP asks.length f bs).bind (stepR asks issue s)
  | 0, _, _ => rfl
  | _ + 1, _, [] => rfl
  | f + 1, s, b :: r => by
    unfold walkR readP
    by_cases h46 : b = 46
    · rw [if_pos h46, if_pos h46]; rfl
    · rw [if_neg h46, if_neg h46]
      by_cases hb : 48 ≤ b ∧ b < 48 + asks.length
      · rw [if_pos hb, if_pos hb]
        have hk : b - 48 < asks.length := by omega
        have hq : asks[b - 48]? = some asks[b - 48] := List.getElem?_eq_getElem hk
        have hg : asks.getD (b - 48) 0 = asks[b - 48] := by rw [List.getD_eq_getElem?_getD, hq]; rfl
        have hok : ∀ y z, okP asks issue (.ask (b - 48) y z) s = (okP asks issue y (andI s asks[b - 48]) && okP asks issue z (s - andI s asks[b - 48])) := fun y z => by
          show (match asks[b - 48]? with | some q => _ | none => _) = _
          rw [hq]
        rw [hg]
        cases openB r with
        | none => rfl
        | some r0 =>
          simp only [Option.bind_some]
          rw [walk_read asks issue f (andI s asks[b - 48]) r0]
          cases readP asks.length f r0 with
          | none => rfl
          | some p =>
            obtain ⟨y, r1⟩ := p
            simp only [Option.bind_some, stepR]
            cases hy : okP asks issue y (andI s asks[b - 48]) with
            | true =>
              simp only [if_true, Option.bind_some]
              rw [walk_read asks issue f (s - andI s asks[b - 48]) r1]
              cases readP asks.length f r1 with
              | none => rfl
              | some q =>
                obtain ⟨z, r2⟩ := q
                simp only [Option.bind_some, stepR]
                cases hz : okP asks issue z (s - andI s asks[b - 48]) with
                | true =>
                  simp only [if_true, Option.bind_some]
                  cases shutB r2 with
                  | none => rfl
                  | some r3 =>
                    show _ = (if okP asks issue (.ask (b - 48) y z) s = true then some (depthP (.ask (b - 48) y z), r3) else none)
                    rw [hok, hy, hz]; rfl
                | false =>
                  cases shutB r2 with
                  | none => simp
                  | some r3 =>
                    show _ = (if okP asks issue (.ask (b - 48) y z) s = true then some (depthP (.ask (b - 48) y z), r3) else none)
                    rw [hok, hy, hz]; rfl
            | false =>
              cases readP asks.length f r1 with
              | none => simp
              | some q =>
                obtain ⟨z, r2⟩ := q
                simp only [Option.bind_some]
                cases shutB r2 with
                | none => rfl
                | some r3 =>
                  show _ = (if okP asks issue (.ask (b - 48) y z) s = true then some (depthP (.ask (b - 48) y z), r3) else none)
                  rw [hok, hy]; rfl
      · rw [if_neg hb, if_neg hb]; rfl
end Go.Proofs.YtpjpbemgjniljaaDoor
