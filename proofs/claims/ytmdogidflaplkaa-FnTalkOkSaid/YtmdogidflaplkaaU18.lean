/-
  What the proofs of this seat's statements share (Shl, MathJ, MathO, MathQ).
-/
import Derived.Test.YtmdogidflaplkaaU17
import Derived.Test.YtmdogidflaplkaaU8
import Derived.Test.YtmdogidflaplkaaU11
import Derived.Test.YtmdogidflaplkaaU10
import Derived.Test.YtmdogidflaplkaaU9

namespace Go.Proofs.Ytmdogidflaplkaa
open Go.RowKit

theorem bytesN_append (a b : ByteArray) : bytesN (a ++ b) = bytesN a ++ bytesN b := by
  unfold bytesN
  rw [ByteArray.data_append, Array.toList_append, List.map_append]
theorem bytesN_lit (l : List UInt8) : bytesN ⟨l.toArray⟩ = l.map UInt8.toNat := rfl
theorem senT_of {t : Int} {s : ByteArray} {x : Sen} (h1 : 1 ≤ t) (h3 : t ≤ 3) (hl : s.size ≤ 60) (hx : senOk t x = true) (hb : bytesN s = textS x) : senT t s = some x :=
  senOf_iff.2 ⟨h1, h3, by rw [bytesN_len]; exact hl, hx, hb⟩
theorem size1 (b : UInt8) : (ByteArray.mk #[b]).size = 1 := rfl
theorem size2 (b c : UInt8) : (ByteArray.mk #[b, c]).size = 2 := rfl
theorem senT_no {t : Int} {s : ByteArray} {x : Sen} (h : senT t s = some x) (hl : s.size < 60) : senT t (⟨#[33]⟩ ++ s) = some (.no x) := by
  obtain ⟨h1, h3, _, hx, hb⟩ := senT_ok h
  refine senT_of h1 h3 (by rw [ByteArray.size_append, size1]; omega) hx ?_
  rw [bytesN_append, hb]; rfl
theorem senT_nono {t : Int} {s : ByteArray} {x : Sen} (h : senT t s = some x) (hl : s.size < 59) : senT t (⟨#[33, 33]⟩ ++ s) = some (.no (.no x)) := by
  obtain ⟨h1, h3, _, hx, hb⟩ := senT_ok h
  refine senT_of h1 h3 (by rw [ByteArray.size_append, size2]; omega) hx ?_
  rw [bytesN_append, hb]; rfl
theorem senT_ask {t : Int} {s : ByteArray} {x : Sen} (h : senT t s = some x) (hl : s.size < 60) : senT t (⟨#[63]⟩ ++ s) = some (.ask x) := by
  obtain ⟨h1, h3, _, hx, hb⟩ := senT_ok h
  refine senT_of h1 h3 (by rw [ByteArray.size_append, size1]; omega) hx ?_
  rw [bytesN_append, hb]; rfl
theorem senT_if {t : Int} {s u : ByteArray} {x y : Sen} (h : senT t s = some x) (hu : senT t u = some y) (hl : s.size + u.size < 58) : senT t (⟨#[40]⟩ ++ s ++ ⟨#[62]⟩ ++ u ++ ⟨#[41]⟩) = some (.if_ x y) := by
  obtain ⟨h1, h3, _, hx, hb⟩ := senT_ok h
  obtain ⟨_, _, _, hy, hc⟩ := senT_ok hu
  refine senT_of h1 h3 (by simp only [ByteArray.size_append, size1]; omega) (by unfold senOk; rw [hx, hy]; rfl) ?_
  simp only [bytesN_append, hb, hc, textS, List.append_assoc]; rfl

theorem issueT_ok {t : Int} {s : ByteArray} {x : Sen} (h : senT t s = some x) : issueOkB t (issueT t s) = true := by
  obtain ⟨h1, h3, _, _, _⟩ := senT_ok h
  rw [(issueT_some h).1]; exact sen_issue h1 h3 x
theorem issueT_len (t : Int) (s : ByteArray) : (issueT t s).length ≤ 70 := by
  rcases h : senT t s with _ | x
  · rw [(issueT_none h).1]; simp
  · exact (issue_ne (issueT_ok h)).2
theorem issueT_nono {t : Int} {s : ByteArray} {x : Sen} (h : senT t s = some x) (hl : s.size < 59) : issueT t (⟨#[33, 33]⟩ ++ s) = [unionI (issueT t s)] := by
  rw [(issueT_some (senT_nono h hl)).1, (issueT_some h).1]
  obtain ⟨h1, h3, _, _, _⟩ := senT_ok h
  exact law_notnot (sen_issue h1 h3 x)
theorem issueT_ask {t : Int} {s : ByteArray} {x : Sen} (h : senT t s = some x) (hl : s.size < 60) : grantedI t (issueT t (⟨#[63]⟩ ++ s)) = allOf t := by
  rw [granted_ok (issueT_ok (senT_ask h hl)), (issueT_some (senT_ask h hl)).1]
  obtain ⟨h1, h3, _, _, _⟩ := senT_ok h
  exact law_whether_all (sen_issue h1 h3 x)
theorem statement_union {t : Int} {xs : List Int} (h : issueOkB t xs = true) : statementL t (unionI xs) = [unionI xs] := by
  unfold statementL; rw [union_ok h]; rfl
theorem supports_settles {t k : Int} {s : ByteArray} {x : Sen} (h : senT t s = some x) (hk : setOkB t k = true) : settlesB t (issueT t s) k = supportsT t k s := by
  obtain ⟨h1, h3, _, _, _⟩ := senT_ok h
  obtain ⟨_, _, h0, ha, _⟩ := setOkB_lt hk
  rw [settles_any (issueT_ok h) h0 ha, (issueT_some h).1, ← support_settle h1 h3 x k h0 ha]
  unfold supportsT
  rw [h]; simp only [hk, Bool.true_and]
theorem supports_down {t k : Int} {s : ByteArray} (h : supportsT t k s = true) (b : Int) : supportsT t (andI k b) s = true := by
  rcases hx : senT t s with _ | x
  · unfold supportsT at h; rw [hx] at h; cases h
  obtain ⟨h1, h3, _, _, _⟩ := senT_ok hx
  have hk : setOkB t k = true := by unfold supportsT at h; rw [hx] at h; simp only [Bool.and_eq_true] at h; exact h.1
  obtain ⟨_, _, h0, ha, _⟩ := setOkB_lt hk
  have hk2 : setOkB t (andI k b) = true := andI_ok hk
  obtain ⟨_, _, g0, ga, _⟩ := setOkB_lt hk2
  rw [← supports_settles hx hk, settles_any (issueT_ok hx) h0 ha] at h
  rw [← supports_settles hx hk2, settles_any (issueT_ok hx) g0 ga]
  exact any_down g0 h0 (within_andI_left k b) h
theorem plain_some {t : Int} {s : ByteArray} (h : plainT t s = true) : ∃ x, senT t s = some x ∧ plainS x = true := by
  unfold plainT at h
  rcases hx : senT t s with _ | x
  · rw [hx] at h; cases h
  · rw [hx] at h; exact ⟨x, rfl, h⟩
theorem trueT_some {t : Int} {s : ByteArray} {x : Sen} (h : senT t s = some x) : trueT t s = unionI (issueT t s) := by
  obtain ⟨h1, h3, _, _, _⟩ := senT_ok h
  unfold trueT; rw [h, (issueT_some h).1]; exact true_granted h1 h3 x
theorem trueT_none {t : Int} {s : ByteArray} (h : senT t s = none) : trueT t s = -1 := by unfold trueT; rw [h]
theorem plain_law {t : Int} {s : ByteArray} (h : plainT t s = true) : statementL t (trueT t s) = issueT t s := by
  obtain ⟨x, hx, hp⟩ := plain_some h
  obtain ⟨h1, h3, _, _, _⟩ := senT_ok hx
  rw [trueT_some hx, statement_union (issueT_ok hx), (issueT_some hx).1]
  exact (plain_granted h1 h3 hp).symm
theorem true_no {t : Int} {s : ByteArray} {x : Sen} (h : senT t s = some x) (hl : s.size < 60) : trueT t (⟨#[33]⟩ ++ s) = allOf t - trueT t s := by
  obtain ⟨h1, h3, _, _, _⟩ := senT_ok h
  have hi := sen_issue h1 h3 x
  rw [trueT_some h, trueT_some (senT_no h hl), (issueT_some (senT_no h hl)).1, (issueT_some h).1]
  show unionI (notL t (issueS t x)) = _
  have := union_all hi
  rw [law_not hi, union_one (by omega)]
theorem true_range {t : Int} {s : ByteArray} {x : Sen} (h : senT t s = some x) : 0 ≤ trueT t s ∧ trueT t s ≤ allOf t := by
  rw [trueT_some h]; exact union_all (issueT_ok h)
theorem entails_some {t : Int} {s u : ByteArray} {x y : Sen} (h : senT t s = some x) (hu : senT t u = some y) : entailsT t s u = followsB t (issueT t s) (issueT t u) := by
  unfold entailsT; rw [h, hu, (issueT_some h).1, (issueT_some hu).1]
theorem entails_within {t : Int} {s u : ByteArray} (h : entailsT t s u = true) : withinB (trueT t s) (trueT t u) = true := by
  rcases hx : senT t s with _ | x
  · unfold entailsT at h; rw [hx] at h; cases h
  rcases hy : senT t u with _ | y
  · unfold entailsT at h; rw [hx, hy] at h; cases h
  rw [entails_some hx hy] at h
  rw [trueT_some hx, trueT_some hy]
  exact follows_union (issueT_ok hx) (issueT_ok hy) h
theorem entails_supports {t : Int} {s u : ByteArray} {x y : Sen} (h : senT t s = some x) (hu : senT t u = some y) (hl : s.size + u.size < 58) :
    supportsT t (allOf t) (⟨#[40]⟩ ++ s ++ ⟨#[62]⟩ ++ u ++ ⟨#[41]⟩) = entailsT t s u := by
  obtain ⟨h1, h3, _, _, _⟩ := senT_ok h
  unfold supportsT
  rw [senT_if h hu hl]
  show (setOkB t (allOf t) && holdsS t (.if_ x y) (allOf t)) = _
  rw [setOk_of h1 h3 (allOf_lt t).1 (Int.le_refl _), Bool.true_and, entails_if h1 h3, entails_some h hu, (issueT_some h).1, (issueT_some hu).1]
theorem entails_no {t : Int} {s u : ByteArray} (h : senT t s = none ∨ senT t u = none) : entailsT t s u = false := by
  unfold entailsT
  rcases h with h | h
  · rw [h]
  · rw [h]; cases senT t s <;> rfl

theorem iIssueOf_is {t : Int} {s : ByteArray} {r : List Int} {b : Bool} (h : Hid (issueT t s = r)) (h2 : Hid (isT t s = b)) (w : World) (hs : s.size ≤ 9223372036854775807) :
    Calls Try.prog 56 #[.int .i64 t, .string s] w (IssueOfPost r b w) := by
  have := iIssueOf t s w hs
  rw [h.out, h2.out] at this; exact this
theorem sSupportsT_is {t k : Int} {s : ByteArray} {b : Bool} (h : Hid (supportsT t k s = b)) (w : World) (hs : s.size ≤ 9223372036854775807) :
    Calls Try.prog 61 #[.int .i64 t, .int .i64 k, .string s] w fun e w' => e = .returned (.bool b) ∧ Below w.heap.size w w' := by
  have := sSupportsT t k s w hs
  rw [h.out] at this; exact this
theorem sTrueIn_is {t : Int} {s : ByteArray} {b : Int} (h : Hid (trueT t s = b)) (w : World) (hs : s.size ≤ 9223372036854775807) :
    Calls Try.prog 53 #[.int .i64 t, .string s] w fun e w' => e = .returned (.int .i64 b) ∧ Below w.heap.size w w' := by
  have := sTrueIn t s w hs
  rw [h.out] at this; exact this
end Go.Proofs.Ytmdogidflaplkaa

namespace Go.Proofs.Ytmdogidflaplkaa
open Go.RowKit

abbrev WS := Nat → Bool
def yesF (s q : WS) : WS := fun w => s w && q w
def noF (s q : WS) : WS := fun w => s w && !q w
def subF (s t : WS) : Prop := ∀ w, s w = true → t w = true
theorem yes_sub {s t : WS} (h : subF s t) (q : WS) : subF (yesF s q) (yesF t q) := fun w hw => by
  unfold yesF at *
  rw [Bool.and_eq_true] at hw ⊢
  exact ⟨h w hw.1, hw.2⟩
theorem no_sub {s t : WS} (h : subF s t) (q : WS) : subF (noF s q) (noF t q) := fun w hw => by
  unfold noF at *
  rw [Bool.and_eq_true] at hw ⊢
  exact ⟨h w hw.1, hw.2⟩
theorem yes_less (s q : WS) : subF (yesF s q) s := fun w hw => by unfold yesF at hw; rw [Bool.and_eq_true] at hw; exact hw.1
theorem no_less (s q : WS) : subF (noF s q) s := fun w hw => by unfold noF at hw; rw [Bool.and_eq_true] at hw; exact hw.1
theorem yes_yes (s q : WS) : yesF (yesF s q) q = yesF s q := by funext w; simp only [yesF]; cases s w <;> cases q w <;> rfl
theorem no_no (s q : WS) : noF (noF s q) q = noF s q := by funext w; simp only [noF]; cases s w <;> cases q w <;> rfl
theorem yes_swap (s p q : WS) : yesF (yesF s p) q = yesF (yesF s q) p := by funext w; simp only [yesF]; cases s w <;> cases p w <;> cases q w <;> rfl
theorem no_swap (s p q : WS) : noF (noF s p) q = noF (noF s q) p := by funext w; simp only [noF]; cases s w <;> cases p w <;> cases q w <;> rfl
theorem yes_no (s p q : WS) : noF (yesF s p) q = yesF (noF s q) p := by funext w; simp only [yesF, noF]; cases s w <;> cases p w <;> cases q w <;> rfl

section
variable (St : WS → Prop) (asks : List WS)
/-- So many questions settle it, whatever the answers are. -/
def canF : Nat → WS → Prop
  | 0, s => St s
  | d + 1, s => St s ∨ ∃ q ∈ asks, canF d (yesF s q) ∧ canF d (noF s q)
/-- All questions of a list, one behind the other, settle it. -/
def allF : List WS → WS → Prop
  | [], s => St s
  | q :: qs, s => allF qs (yesF s q) ∧ allF qs (noF s q)
end
section
variable {St : WS → Prop} {asks : List WS}
theorem can_step : ∀ {d : Nat} {s : WS}, canF St asks d s → canF St asks (d + 1) s
  | 0, _, h => .inl h
  | d + 1, s, h => by
    rcases h with h | ⟨q, hq, h1, h2⟩
    · exact .inl h
    · exact .inr ⟨q, hq, can_step h1, can_step h2⟩
theorem can_le {d e : Nat} (hde : d ≤ e) {s : WS} (h : canF St asks d s) : canF St asks e s := by
  induction hde with
  | refl => exact h
  | step _ ih => exact can_step ih
theorem can_sub (hdown : ∀ s t, subF s t → St t → St s) : ∀ {d : Nat} {s t : WS}, subF s t → canF St asks d t → canF St asks d s
  | 0, s, t, hs, h => hdown s t hs h
  | d + 1, s, t, hs, h => by
    rcases h with h | ⟨q, hq, h1, h2⟩
    · exact .inl (hdown s t hs h)
    · exact .inr ⟨q, hq, can_sub hdown (yes_sub hs q) h1, can_sub hdown (no_sub hs q) h2⟩
theorem can_more {asks' : List WS} (ha : ∀ q ∈ asks, q ∈ asks') : ∀ {d : Nat} {s : WS}, canF St asks d s → canF St asks' d s
  | 0, _, h => h
  | d + 1, s, h => by
    rcases h with h | ⟨q, hq, h1, h2⟩
    · exact .inl h
    · exact .inr ⟨q, ha q hq, can_more ha h1, can_more ha h2⟩
theorem all_of_settled (hdown : ∀ s t, subF s t → St t → St s) : ∀ (qs : List WS) {s : WS}, St s → allF St qs s
  | [], _, h => h
  | q :: qs, s, h => ⟨all_of_settled hdown qs (hdown _ s (yes_less s q) h), all_of_settled hdown qs (hdown _ s (no_less s q) h)⟩
theorem all_join : ∀ (qs : List WS) {s q : WS}, q ∈ qs → allF St qs (yesF s q) → allF St qs (noF s q) → allF St qs s
  | [], _, _, hq, _, _ => by cases hq
  | p :: ps, s, q, hq, h1, h2 => by
    obtain ⟨a1, a2⟩ := h1
    obtain ⟨b1, b2⟩ := h2
    by_cases hp : q ∈ ps
    · exact ⟨all_join ps hp (by rw [yes_swap]; exact a1) (by rw [yes_no]; exact b1), all_join ps hp (by rw [← yes_no]; exact a2) (by rw [no_swap]; exact b2)⟩
    · obtain rfl : q = p := by
        rcases List.mem_cons.1 hq with h | h
        · exact h
        · exact absurd h hp
      rw [yes_yes] at a1
      rw [no_no] at b2
      exact ⟨a1, b2⟩
theorem all_of_can (hdown : ∀ s t, subF s t → St t → St s) : ∀ {d : Nat} {s : WS}, canF St asks d s → allF St asks s
  | 0, _, h => all_of_settled hdown asks h
  | d + 1, s, h => by
    rcases h with h | ⟨q, hq, h1, h2⟩
    · exact all_of_settled hdown asks h
    · exact all_join asks hq (all_of_can hdown h1) (all_of_can hdown h2)
theorem can_of_all : ∀ (qs : List WS), (∀ q ∈ qs, q ∈ asks) → ∀ {s : WS}, allF St qs s → canF St asks qs.length s
  | [], _, _, h => h
  | q :: qs, ha, _, h => .inr ⟨q, ha q List.mem_cons_self, can_of_all qs (fun p hp => ha p (List.mem_cons_of_mem _ hp)) h.1, can_of_all qs (fun p hp => ha p (List.mem_cons_of_mem _ hp)) h.2⟩
/-- More questions than there are never help. -/
theorem can_bound (hdown : ∀ s t, subF s t → St t → St s) {d : Nat} {s : WS} (h : canF St asks d s) : canF St asks asks.length s :=
  can_of_all asks (fun _ h => h) (all_of_can hdown h)
end

/-- The least one of what is told of a list's elements, where it is told. -/
def leastOf (v : Int → Int) (b q : Int) : Int := if 0 ≤ v q ∧ (b < 0 ∨ v q < b) then v q else b
theorem least_fold (v : Int → Int) : ∀ (qs : List Int) (b : Int), (qs.foldl (leastOf v) b = b ∨ ∃ q ∈ qs, qs.foldl (leastOf v) b = v q ∧ 0 ≤ v q) ∧ (∀ q ∈ qs, 0 ≤ v q → 0 ≤ qs.foldl (leastOf v) b ∧ qs.foldl (leastOf v) b ≤ v q) ∧
    (0 ≤ b → 0 ≤ qs.foldl (leastOf v) b ∧ qs.foldl (leastOf v) b ≤ b)
  | [], b => ⟨.inl rfl, (fun q h => absurd h List.not_mem_nil), fun h => ⟨h, Int.le_refl _⟩⟩
  | q :: qs, b => by
    obtain ⟨h1, h2, h3⟩ := least_fold v qs (leastOf v b q)
    rw [List.foldl_cons]
    generalize hr : qs.foldl (leastOf v) (leastOf v b q) = r at *
    unfold leastOf at h1 h3
    refine ⟨?_, ?_, ?_⟩
    · rcases h1 with h1 | ⟨p, hp, hpv, hp0⟩
      · by_cases hc : 0 ≤ v q ∧ (b < 0 ∨ v q < b)
        · rw [if_pos hc] at h1; exact .inr ⟨q, List.mem_cons_self, h1, hc.1⟩
        · rw [if_neg hc] at h1; exact .inl h1
      · exact .inr ⟨p, List.mem_cons_of_mem _ hp, hpv, hp0⟩
    · intro p hp hp0
      rcases List.mem_cons.1 hp with rfl | hp
      · by_cases hc : 0 ≤ v p ∧ (b < 0 ∨ v p < b)
        · rw [if_pos hc] at h3; exact h3 hc.1
        · rw [if_neg hc] at h3
          have hb : 0 ≤ b ∧ b ≤ v p := by
            constructor <;> (apply Classical.byContradiction; intro hn; apply hc; omega)
          have := h3 hb.1; omega
      · exact h2 p hp hp0
    · intro hb
      by_cases hc : 0 ≤ v q ∧ (b < 0 ∨ v q < b)
      · rw [if_pos hc] at h3; have := h3 hc.1; omega
      · rw [if_neg hc] at h3; exact h3 hb
theorem sub_bit : ∀ (i n m : Nat), (n - (n &&& m)).testBit i = (n.testBit i && !m.testBit i)
  | 0, n, m => by
    have h := @Nat.and_mod_two_eq_one n m
    have hle : n &&& m ≤ n := Nat.and_le_left
    rw [Nat.testBit_zero, Nat.testBit_zero, Nat.testBit_zero]
    generalize n &&& m = k at *
    rw [Bool.eq_iff_iff]
    simp only [decide_eq_true_eq, Bool.and_eq_true, Bool.not_eq_true', decide_eq_false_iff_not]
    omega
  | i + 1, n, m => by
    have h := @Nat.and_mod_two_eq_one n m
    have hle : n &&& m ≤ n := Nat.and_le_left
    have hd : (n &&& m) / 2 = n / 2 &&& m / 2 := Nat.and_div_two
    have e : (n - (n &&& m)) / 2 = n / 2 - (n / 2 &&& m / 2) := by
      rw [← hd]
      generalize n &&& m = k at *
      omega
    rw [Nat.testBit_succ, Nat.testBit_succ, Nat.testBit_succ, e]
    exact sub_bit i (n / 2) (m / 2)
theorem has_sub {s q : Int} (w : Nat) (hs : 0 ≤ s) : hasW (s - andI s q) w = (hasW s w && !hasW q w) := by
  unfold hasW andI
  have hle : s.toNat &&& q.toNat ≤ s.toNat := Nat.and_le_left
  rw [show (s - ((s.toNat &&& q.toNat : Nat) : Int)).toNat = s.toNat - (s.toNat &&& q.toNat) by omega]
  exact sub_bit w s.toNat q.toNat
theorem sub_pos {s q : Int} (hs : 0 ≤ s) : 0 ≤ s - andI s q := by
  unfold andI
  have hle : s.toNat &&& q.toNat ≤ s.toNat := Nat.and_le_left
  omega
end Go.Proofs.Ytmdogidflaplkaa

namespace Go.Proofs.Ytmdogidflaplkaa
open Go.RowKit

inductive Ld where
  | one : Ld
  | zero : Ld
  | thing : Nat → Ld
  | no : Ld → Ld
  | pre : Ld → Ld → Ld
  | and_ : Ld → Ld → Ld
  | or_ : Ld → Ld → Ld
  | if_ : Ld → Ld → Ld
  deriving DecidableEq
/-- What a loaded sentence leaves of a set; none where it makes no sense. -/
def chgI (t : Int) : Ld → Int → Option Int
  | .one, s => some s
  | .zero, _ => some 0
  | .thing i, s => some (andI s (letterSet t i))
  | .no x, s => (chgI t x s).map fun u => s - u
  | .pre x y, s => (chgI t x s).bind fun u => if u = s then chgI t y s else none
  | .and_ x y, s => (chgI t x s).bind fun u => chgI t y u
  | .or_ x y, s => (chgI t x s).bind fun u => (chgI t y (s - u)).map fun v => u + v
  | .if_ x y, s => (chgI t x s).bind fun u => (chgI t y u).map fun v => s - (u - v)
/-- Whether it leaves a world, where it makes sense. -/
def leftW (t : Int) : Ld → Nat → Bool
  | .one, _ => true
  | .zero, _ => false
  | .thing i, w => hasW (letterSet t i) w
  | .no x, w => !leftW t x w
  | .pre _ y, w => leftW t y w
  | .and_ x y, w => leftW t x w && leftW t y w
  | .or_ x y, w => leftW t x w || leftW t y w
  | .if_ x y, w => !leftW t x w || leftW t y w
/-- Whether it makes sense for a world alone. -/
def needW (t : Int) : Ld → Nat → Bool
  | .one, _ => true
  | .zero, _ => true
  | .thing _, _ => true
  | .no x, w => needW t x w
  | .pre x y, w => needW t x w && leftW t x w && needW t y w
  | .and_ x y, w => needW t x w && (!leftW t x w || needW t y w)
  | .or_ x y, w => needW t x w && (leftW t x w || needW t y w)
  | .if_ x y, w => needW t x w && (!leftW t x w || needW t y w)
def leftN (t : Int) (x : Ld) : Int := (setOfW (leftW t x) 8 : Int)
def SubW (s : Int) (p : Nat → Bool) : Prop := ∀ w, hasW s w = true → p w = true
theorem has8 {s : Int} (hs : 0 ≤ s) (h8 : s < 256) {w : Nat} (h : hasW s w = true) : w < 8 := by
  unfold hasW at h
  have h1 : s.toNat < 2 ^ 8 := by omega
  rcases Nat.lt_or_ge w 8 with hw | hw
  · exact hw
  · rw [Nat.testBit_lt_two_pow (Nat.lt_of_lt_of_le h1 (Nat.pow_le_pow_right (by omega) hw))] at h
    cases h
theorem has_left {t : Int} {x : Ld} {w : Nat} (hw : w < 8) : hasW (leftN t x) w = leftW t x w := by
  unfold hasW leftN
  rw [Int.toNat_natCast, setOfW_bit, decide_eq_true hw, Bool.true_and]
theorem has_cut {t : Int} {x : Ld} {s : Int} (hs : 0 ≤ s) (h8 : s < 256) (w : Nat) : hasW (andI s (leftN t x)) w = (hasW s w && leftW t x w) := by
  rw [has_and]
  cases h : hasW s w
  · rfl
  · rw [has_left (has8 hs h8 h)]
theorem has_rest {t : Int} {x : Ld} {s : Int} (hs : 0 ≤ s) (h8 : s < 256) (w : Nat) : hasW (s - andI s (leftN t x)) w = (hasW s w && !leftW t x w) := by
  rw [has_sub w hs]
  cases h : hasW s w
  · rfl
  · rw [has_left (has8 hs h8 h)]
theorem cut_bounds {s q : Int} (hs : 0 ≤ s) (h8 : s < 256) : 0 ≤ andI s q ∧ andI s q ≤ s ∧ andI s q < 256 ∧ 0 ≤ s - andI s q ∧ s - andI s q < 256 := by
  have h1 := andI_nonneg s q
  have h2 := andI_le s q hs
  exact ⟨h1, h2, by omega, by omega, by omega⟩
theorem has_less {s r : Int} (hs : 0 ≤ s) (hr : 0 ≤ r) (h : ∀ w, hasW r w = true → hasW s w = true) : 0 ≤ s - r ∧ ∀ w, hasW (s - r) w = (hasW s w && !hasW r w) := by
  have e : r = andI s r := has_ext hr (andI_nonneg _ _) fun w => by
    rw [has_and]
    cases hw : hasW r w
    · simp
    · rw [h w hw]; rfl
  have := andI_le s r hs
  refine ⟨by omega, fun w => ?_⟩
  conv => lhs; rw [e]
  exact has_sub w hs
/-- A loaded sentence makes sense for a set exactly if it does for each world, and leaves what it leaves of each. -/
theorem chg_spec (t : Int) : ∀ (x : Ld) (s : Int), 0 ≤ s → s < 256 → (SubW s (needW t x) → chgI t x s = some (andI s (leftN t x))) ∧ (¬ SubW s (needW t x) → chgI t x s = none) := by
  intro x
  induction x with
  | one =>
    intro s hs h8
    refine ⟨fun _ => congrArg some (has_ext hs (andI_nonneg _ _) fun w => ?_), fun h => absurd (fun w _ => rfl) h⟩
    rw [has_cut hs h8]; simp [leftW]
  | zero =>
    intro s hs h8
    refine ⟨fun _ => congrArg some (has_ext (Int.le_refl 0) (andI_nonneg _ _) fun w => ?_), fun h => absurd (fun w _ => rfl) h⟩
    rw [has_cut hs h8]; simp [leftW, hasW]
  | thing i =>
    intro s hs h8
    refine ⟨fun _ => congrArg some (has_ext (andI_nonneg _ _) (andI_nonneg _ _) fun w => ?_), fun h => absurd (fun w _ => rfl) h⟩
    rw [has_cut hs h8, has_and]; rfl
  | no x ih =>
    intro s hs h8
    obtain ⟨h1, h2⟩ := ih s hs h8
    refine ⟨fun h => ?_, fun h => ?_⟩
    · show (chgI t x s).map _ = _
      rw [h1 h]
      refine congrArg some (has_ext (cut_bounds hs h8).2.2.2.1 (andI_nonneg _ _) fun w => ?_)
      rw [has_rest hs h8, has_cut hs h8]; rfl
    · show (chgI t x s).map _ = _
      rw [h2 h]; rfl
  | pre x y ihx ihy =>
    intro s hs h8
    obtain ⟨h1, h2⟩ := ihx s hs h8
    obtain ⟨h3, h4⟩ := ihy s hs h8
    have hcut : andI s (leftN t x) = s ↔ SubW s (leftW t x) := by
      refine ⟨fun e w hw => ?_, fun h => has_ext (andI_nonneg _ _) hs fun w => ?_⟩
      · rw [← e, has_cut hs h8, Bool.and_eq_true] at hw
        exact hw.2
      · rw [has_cut hs h8]
        cases hw : hasW s w
        · rfl
        · rw [h w hw]; rfl
    refine ⟨fun h => ?_, fun h => ?_⟩
    · have g : ∀ w, hasW s w = true → needW t x w = true ∧ leftW t x w = true ∧ needW t y w = true := fun w hw => by
        have := h w hw
        simp [needW] at this
        exact ⟨this.1.1, this.1.2, this.2⟩
      show (chgI t x s).bind _ = _
      rw [h1 fun w hw => (g w hw).1, Option.bind_some, if_pos (hcut.2 fun w hw => (g w hw).2.1), h3 fun w hw => (g w hw).2.2]
      rfl
    · show (chgI t x s).bind _ = _
      by_cases hx : SubW s (needW t x)
      · rw [h1 hx, Option.bind_some]
        by_cases hl : SubW s (leftW t x)
        · rw [if_pos (hcut.2 hl)]
          refine h4 fun hy => h fun w hw => ?_
          simp [needW, hx w hw, hl w hw, hy w hw]
        · rw [if_neg fun e => hl (hcut.1 e)]
      · rw [h2 hx]; rfl
  | and_ x y ihx ihy =>
    intro s hs h8
    obtain ⟨h1, h2⟩ := ihx s hs h8
    obtain ⟨b1, b2, b3, b4, b5⟩ := cut_bounds (q := leftN t x) hs h8
    obtain ⟨h3, h4⟩ := ihy (andI s (leftN t x)) b1 b3
    refine ⟨fun h => ?_, fun h => ?_⟩
    · show (chgI t x s).bind _ = _
      rw [h1 fun w hw => by have := h w hw; simp [needW] at this; exact this.1, Option.bind_some, h3 fun w hw => ?_]
      · refine congrArg some (has_ext (andI_nonneg _ _) (andI_nonneg _ _) fun w => ?_)
        rw [has_cut b1 b3, has_cut hs h8, has_cut hs h8, Bool.and_assoc]; rfl
      · rw [has_cut hs h8, Bool.and_eq_true] at hw
        have := h w hw.1
        simp [needW, hw.2] at this
        exact this.2
    · show (chgI t x s).bind _ = _
      by_cases hx : SubW s (needW t x)
      · rw [h1 hx, Option.bind_some]
        refine h4 fun hy => h fun w hw => ?_
        have := hx w hw
        cases hl : leftW t x w
        · simp [needW, this, hl]
        · have := hy w (by rw [has_cut hs h8, hw, hl]; rfl)
          simp [needW, hx w hw, hl, this]
      · rw [h2 hx]; rfl
  | or_ x y ihx ihy =>
    intro s hs h8
    obtain ⟨h1, h2⟩ := ihx s hs h8
    obtain ⟨b1, b2, b3, b4, b5⟩ := cut_bounds (q := leftN t x) hs h8
    obtain ⟨h3, h4⟩ := ihy (s - andI s (leftN t x)) b4 b5
    refine ⟨fun h => ?_, fun h => ?_⟩
    · show (chgI t x s).bind _ = _
      rw [h1 fun w hw => by have := h w hw; simp [needW] at this; exact this.1, Option.bind_some, h3 fun w hw => ?_]
      · obtain ⟨c1, c2, c3, c4, c5⟩ := cut_bounds (q := leftN t y) b4 b5
        obtain ⟨d1, d2⟩ := has_less (r := s - andI s (leftN t x) - andI (s - andI s (leftN t x)) (leftN t y)) hs c4 fun w hw => by
          rw [has_rest b4 b5, has_rest hs h8, Bool.and_eq_true, Bool.and_eq_true] at hw
          exact hw.1.1
        show some (andI s (leftN t x) + andI (s - andI s (leftN t x)) (leftN t y)) = _
        rw [show andI s (leftN t x) + andI (s - andI s (leftN t x)) (leftN t y) = s - (s - andI s (leftN t x) - andI (s - andI s (leftN t x)) (leftN t y)) by omega]
        refine congrArg some (has_ext d1 (andI_nonneg _ _) fun w => ?_)
        rw [d2, has_rest b4 b5, has_rest hs h8, has_cut hs h8]
        show (hasW s w && !(hasW s w && !leftW t x w && !leftW t y w)) = (hasW s w && (leftW t x w || leftW t y w))
        cases hasW s w <;> cases leftW t x w <;> cases leftW t y w <;> rfl
      · rw [has_rest hs h8, Bool.and_eq_true] at hw
        have := h w hw.1
        simp [needW] at this
        simp at hw
        simpa [hw.2] using this.2
    · show (chgI t x s).bind _ = _
      by_cases hx : SubW s (needW t x)
      · rw [h1 hx, Option.bind_some, h4 fun hy => h fun w hw => ?_]
        · rfl
        · cases hl : leftW t x w
          · have := hy w (by rw [has_rest hs h8, hw, hl]; rfl)
            simp [needW, hx w hw, hl, this]
          · simp [needW, hx w hw, hl]
      · rw [h2 hx]; rfl
  | if_ x y ihx ihy =>
    intro s hs h8
    obtain ⟨h1, h2⟩ := ihx s hs h8
    obtain ⟨b1, b2, b3, b4, b5⟩ := cut_bounds (q := leftN t x) hs h8
    obtain ⟨h3, h4⟩ := ihy (andI s (leftN t x)) b1 b3
    refine ⟨fun h => ?_, fun h => ?_⟩
    · show (chgI t x s).bind _ = _
      rw [h1 fun w hw => by have := h w hw; simp [needW] at this; exact this.1, Option.bind_some, h3 fun w hw => ?_]
      · obtain ⟨c1, c2, c3, c4, c5⟩ := cut_bounds (q := leftN t y) b1 b3
        obtain ⟨d1, d2⟩ := has_less (r := andI s (leftN t x) - andI (andI s (leftN t x)) (leftN t y)) hs c4 fun w hw => by
          rw [has_rest b1 b3, has_cut hs h8, Bool.and_eq_true, Bool.and_eq_true] at hw
          exact hw.1.1
        refine congrArg some (has_ext d1 (andI_nonneg _ _) fun w => ?_)
        rw [d2, has_rest b1 b3, has_cut hs h8, has_cut hs h8]
        show (hasW s w && !(hasW s w && leftW t x w && !leftW t y w)) = (hasW s w && (!leftW t x w || leftW t y w))
        cases hasW s w <;> cases leftW t x w <;> cases leftW t y w <;> rfl
      · rw [has_cut hs h8, Bool.and_eq_true] at hw
        have := h w hw.1
        simp [needW, hw.2] at this
        exact this.2
    · show (chgI t x s).bind _ = _
      by_cases hx : SubW s (needW t x)
      · rw [h1 hx, Option.bind_some, h4 fun hy => h fun w hw => ?_]
        · rfl
        · cases hl : leftW t x w
          · simp [needW, hx w hw, hl]
          · have := hy w (by rw [has_cut hs h8, hw, hl]; rfl)
            simp [needW, hx w hw, hl, this]
      · rw [h2 hx]; rfl
end Go.Proofs.Ytmdogidflaplkaa

namespace Go.Proofs.Ytmdogidflaplkaa
open Go.RowKit

/-- Its letters are those of the things there are. -/
def ldOk (t : Int) : Ld → Bool
  | .one => true
  | .zero => true
  | .thing i => decide ((i : Int) < t)
  | .no x => ldOk t x
  | .pre x y => ldOk t x && ldOk t y
  | .and_ x y => ldOk t x && ldOk t y
  | .or_ x y => ldOk t x && ldOk t y
  | .if_ x y => ldOk t x && ldOk t y
def twoD (m : Nat) (x y : Ld) : Option Ld := if m = 38 then some (.and_ x y) else if m = 124 then some (.or_ x y) else if m = 62 then some (.if_ x y) else none
/-- The sentence at the head of a text, and what is left; n: no fewer than the bytes. -/
def readD (t : Int) : Nat → List Nat → Option (Ld × List Nat)
  | 0, _ => none
  | _ + 1, [] => none
  | n + 1, c :: l =>
    if c = 49 then some (.one, l) else if c = 48 then some (.zero, l)
    else if 97 ≤ c ∧ (c : Int) - 97 < t then some (.thing (c - 97), l)
    else if c = 33 then (readD t n l).map fun p => (.no p.1, p.2)
    else if c = 91 then
      match readD t n l with
      | some (x, m :: l2) => if m = 93 then (readD t n l2).map fun p => (.pre x p.1, p.2) else none
      | _ => none
    else if c = 40 then
      match readD t n l with
      | some (x, m :: l2) =>
        match readD t n l2 with
        | some (y, e :: r) => if e = 41 then (twoD m x y).map fun z => (z, r) else none
        | _ => none
      | _ => none
    else none
theorem readD_less (t : Int) : ∀ (n : Nat) (l : List Nat) (x : Ld) (r : List Nat), readD t n l = some (x, r) → r.length < l.length
  | 0, _, _, _, h => by cases h
  | _ + 1, [], _, _, h => by cases h
  | n + 1, c :: l, x, r, h => by
    have ih := readD_less t n
    unfold readD at h
    split at h
    · cases h; simp
    split at h
    · cases h; simp
    split at h
    · cases h; simp
    split at h
    · obtain ⟨⟨y, q⟩, hy, e⟩ := Option.map_eq_some_iff.1 h
      cases e; have := ih _ _ _ hy; simp; omega
    split at h
    · split at h
      · rename_i x1 m l2 h1
        split at h
        · obtain ⟨⟨y, q⟩, hy, e⟩ := Option.map_eq_some_iff.1 h
          cases e
          have := ih _ _ _ h1; have := ih _ _ _ hy; simp at *; omega
        · cases h
      · cases h
    split at h
    · split at h
      · rename_i x1 m l2 h1
        split at h
        · rename_i y1 e r1 h2
          split at h
          · obtain ⟨z, hz, e2⟩ := Option.map_eq_some_iff.1 h
            cases e2
            have := ih _ _ _ h1; have := ih _ _ _ h2; simp at *; omega
          · cases h
        · cases h
      · cases h
    · cases h
/-- More fuel than bytes changes nothing. -/
theorem readD_more (t : Int) : ∀ (n m : Nat) (l : List Nat), l.length ≤ n → l.length ≤ m → readD t n l = readD t m l
  | 0, 0, _, _, _ => rfl
  | 0, m + 1, l, h, _ => by
    have : l = [] := List.eq_nil_of_length_eq_zero (by omega)
    subst this; rfl
  | n + 1, 0, l, _, h => by
    have : l = [] := List.eq_nil_of_length_eq_zero (by omega)
    subst this; rfl
  | n + 1, m + 1, [], _, _ => rfl
  | n + 1, m + 1, c :: l, hn, hm => by
    simp only [List.length_cons] at hn hm
    have e1 := readD_more t n m l (by omega) (by omega)
    have e2 : ∀ x m' l2, readD t m l = some (x, m' :: l2) → readD t n l2 = readD t m l2 := fun x m' l2 h => by
      have := readD_less t m l x _ h
      simp only [List.length_cons] at this
      exact readD_more t n m l2 (by omega) (by omega)
    unfold readD
    rw [e1]
    rcases h : readD t m l with _ | ⟨x, _ | ⟨m', l2⟩⟩
    · rfl
    · rfl
    · simp only []
      rw [e2 x m' l2 h]
def textD : Ld → List Nat
  | .one => [49]
  | .zero => [48]
  | .thing i => [97 + i]
  | .no x => 33 :: textD x
  | .pre x y => 91 :: (textD x ++ 93 :: textD y)
  | .and_ x y => 40 :: (textD x ++ 38 :: (textD y ++ [41]))
  | .or_ x y => 40 :: (textD x ++ 124 :: (textD y ++ [41]))
  | .if_ x y => 40 :: (textD x ++ 62 :: (textD y ++ [41]))
theorem readD_ok (t : Int) : ∀ (n : Nat) (l : List Nat) (x : Ld) (r : List Nat), readD t n l = some (x, r) → ldOk t x = true ∧ l = textD x ++ r
  | 0, _, _, _, h => by cases h
  | _ + 1, [], _, _, h => by cases h
  | n + 1, c :: l, x, r, h => by
    have ih := readD_ok t n
    unfold readD at h
    split at h
    · cases h; rename_i hc; subst hc; exact ⟨rfl, rfl⟩
    split at h
    · cases h; rename_i hc; subst hc; exact ⟨rfl, rfl⟩
    split at h
    · cases h; rename_i hc; exact ⟨by simp [ldOk]; omega, by simp [textD]; omega⟩
    split at h
    · obtain ⟨⟨y, q⟩, hy, e⟩ := Option.map_eq_some_iff.1 h
      cases e; have := ih _ _ _ hy; rename_i hc; subst hc; exact ⟨this.1, by rw [this.2]; rfl⟩
    split at h
    · rename_i hc
      split at h
      · rename_i x1 m l2 h1
        split at h
        · rename_i hm
          obtain ⟨⟨y, q⟩, hy, e⟩ := Option.map_eq_some_iff.1 h
          cases e
          obtain ⟨a1, b1⟩ := ih _ _ _ h1
          obtain ⟨a2, b2⟩ := ih _ _ _ hy
          subst b1 b2 hc hm
          exact ⟨by simp [ldOk, a1, a2], by simp [textD]⟩
        · cases h
      · cases h
    split at h
    · rename_i hc
      split at h
      · rename_i x1 m l2 h1
        split at h
        · rename_i y1 e r1 h2
          split at h
          · rename_i he
            obtain ⟨z, hz, e2⟩ := Option.map_eq_some_iff.1 h
            cases e2
            obtain ⟨a1, b1⟩ := ih _ _ _ h1
            obtain ⟨a2, b2⟩ := ih _ _ _ h2
            subst b1 b2 hc he
            unfold twoD at hz
            split at hz
            · cases hz; rename_i hm; subst hm; exact ⟨by simp [ldOk, a1, a2], by simp [textD]⟩
            split at hz
            · cases hz; rename_i hm; subst hm; exact ⟨by simp [ldOk, a1, a2], by simp [textD]⟩
            split at hz
            · cases hz; rename_i hm; subst hm; exact ⟨by simp [ldOk, a1, a2], by simp [textD]⟩
            · cases hz
          · cases h
        · cases h
      · cases h
    · cases h
/-- The text of a sentence is read as the sentence, whatever stands behind it. -/
theorem readD_text (t : Int) : ∀ (x : Ld) (n : Nat) (r : List Nat), ldOk t x = true → t ≤ 26 → (textD x).length ≤ n → readD t n (textD x ++ r) = some (x, r)
  | .one, n + 1, r, _, _, _ => rfl
  | .zero, n + 1, r, _, _, _ => rfl
  | .thing i, n + 1, r, h, ht, _ => by
    simp only [ldOk, decide_eq_true_eq] at h
    show readD t (n + 1) ((97 + i) :: r) = _
    unfold readD
    rw [if_neg (by omega), if_neg (by omega), if_pos (by omega)]
    congr 3; omega
  | .no x, n + 1, r, h, ht, hl => by
    simp only [textD, List.length_cons] at hl
    show readD t (n + 1) (33 :: (textD x ++ r)) = _
    unfold readD
    rw [if_neg (by omega), if_neg (by omega), if_neg (by omega), if_pos rfl, readD_text t x n r h ht (by omega)]; rfl
  | .pre x y, n + 1, r, h, ht, hl => by
    simp only [textD, List.length_cons, List.length_append] at hl
    simp only [ldOk, Bool.and_eq_true] at h
    show readD t (n + 1) (91 :: ((textD x ++ 93 :: textD y) ++ r)) = _
    have e : (textD x ++ 93 :: textD y) ++ r = textD x ++ (93 :: (textD y ++ r)) := by simp
    rw [e]
    unfold readD
    rw [if_neg (by omega), if_neg (by omega), if_neg (by omega), if_neg (by omega), if_pos rfl, readD_text t x n _ h.1 ht (by omega)]
    simp only []
    rw [readD_text t y n _ h.2 ht (by omega)]; rfl
  | .and_ x y, n + 1, r, h, ht, hl => by
    simp only [textD, List.length_cons, List.length_append, List.length_nil] at hl
    simp only [ldOk, Bool.and_eq_true] at h
    show readD t (n + 1) (40 :: ((textD x ++ 38 :: (textD y ++ [41])) ++ r)) = _
    have e : (textD x ++ 38 :: (textD y ++ [41])) ++ r = textD x ++ (38 :: (textD y ++ (41 :: r))) := by simp
    rw [e]
    unfold readD
    rw [if_neg (by omega), if_neg (by omega), if_neg (by omega), if_neg (by omega), if_neg (by omega), if_pos rfl, readD_text t x n _ h.1 ht (by omega)]
    simp only []
    rw [readD_text t y n _ h.2 ht (by omega)]; rfl
  | .or_ x y, n + 1, r, h, ht, hl => by
    simp only [textD, List.length_cons, List.length_append, List.length_nil] at hl
    simp only [ldOk, Bool.and_eq_true] at h
    show readD t (n + 1) (40 :: ((textD x ++ 124 :: (textD y ++ [41])) ++ r)) = _
    have e : (textD x ++ 124 :: (textD y ++ [41])) ++ r = textD x ++ (124 :: (textD y ++ (41 :: r))) := by simp
    rw [e]
    unfold readD
    rw [if_neg (by omega), if_neg (by omega), if_neg (by omega), if_neg (by omega), if_neg (by omega), if_pos rfl, readD_text t x n _ h.1 ht (by omega)]
    simp only []
    rw [readD_text t y n _ h.2 ht (by omega)]; rfl
  | .if_ x y, n + 1, r, h, ht, hl => by
    simp only [textD, List.length_cons, List.length_append, List.length_nil] at hl
    simp only [ldOk, Bool.and_eq_true] at h
    show readD t (n + 1) (40 :: ((textD x ++ 62 :: (textD y ++ [41])) ++ r)) = _
    have e : (textD x ++ 62 :: (textD y ++ [41])) ++ r = textD x ++ (62 :: (textD y ++ (41 :: r))) := by simp
    rw [e]
    unfold readD
    rw [if_neg (by omega), if_neg (by omega), if_neg (by omega), if_neg (by omega), if_neg (by omega), if_pos rfl, readD_text t x n _ h.1 ht (by omega)]
    simp only []
    rw [readD_text t y n _ h.2 ht (by omega)]; rfl
  | .one, 0, _, _, _, hl => by simp [textD] at hl
  | .zero, 0, _, _, _, hl => by simp [textD] at hl
  | .thing _, 0, _, _, _, hl => by simp [textD] at hl
  | .no _, 0, _, _, _, hl => by simp [textD] at hl
  | .pre _ _, 0, _, _, _, hl => by simp [textD] at hl
  | .and_ _ _, 0, _, _, _, hl => by simp [textD] at hl
  | .or_ _ _, 0, _, _, _, hl => by simp [textD] at hl
  | .if_ _ _, 0, _, _, _, hl => by simp [textD] at hl
/-- The sentence of a text. -/
def ldOf (t : Int) (l : List Nat) : Option Ld :=
  if 1 ≤ t ∧ t ≤ 3 ∧ l.length ≤ 60 then (match readD t l.length l with | some (x, []) => some x | _ => none) else none
theorem ldOf_iff {t : Int} {l : List Nat} {x : Ld} : ldOf t l = some x ↔ (1 ≤ t ∧ t ≤ 3 ∧ l.length ≤ 60 ∧ ldOk t x = true ∧ l = textD x) := by
  unfold ldOf
  constructor
  · intro h
    split at h
    · rename_i hc
      split at h
      · rename_i y hy
        cases h
        have := readD_ok t _ _ _ _ hy
        simp at this
        exact ⟨hc.1, hc.2.1, hc.2.2, this.1, this.2⟩
      · cases h
    · cases h
  · rintro ⟨h1, h3, hl, hs, rfl⟩
    rw [if_pos ⟨h1, h3, hl⟩]
    have := readD_text t x (textD x).length [] hs (by omega) (Nat.le_refl _)
    rw [List.append_nil] at this
    rw [this]

end Go.Proofs.Ytmdogidflaplkaa
