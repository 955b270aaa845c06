/-
  What the proofs of this seat's statements share (MathH).
-/
import Derived.Test.YtfmknllemhdnaaaU6

namespace Go.Proofs.Ytfmknllemhdnaaa

def topT (t : Int) : Int := if t = 1 then 1 else if t = 2 then 3 else if t = 3 then 7 else 0
theorem topT_range (t : Int) : 0 ≤ topT t ∧ topT t ≤ 7 := by unfold topT; split <;> (try split) <;> (try split) <;> omega
def thingsOk (t f : Int) : Bool := decide (1 ≤ t ∧ t ≤ 3 ∧ 0 ≤ f ∧ f ≤ topT t)
def bondOkB (t f g : Int) : Bool := thingsOk t f && thingsOk t g
theorem thingsOk_of {t f : Int} (h : thingsOk t f = true) : 1 ≤ t ∧ t ≤ 3 ∧ 0 ≤ f ∧ f ≤ topT t ∧ f ≤ 7 := by
  have := topT_range t
  have h := of_decide_eq_true h
  omega
def agreeB (f : Int) (v w : Nat) : Bool := decide (v &&& f.toNat = w &&& f.toNat)
def holdsInB (t s f g : Int) : Bool := setOkB t s && bondOkB t f g && (List.range (nWorlds t)).all fun v => (List.range v).all fun w => !(hasW s v && hasW s w && agreeB f v w) || agreeB g v w

theorem agree_iff {f : Int} {v w : Nat} : agreeB f v w = true ↔ ∀ i, f.toNat.testBit i = true → v.testBit i = w.testBit i := by
  unfold agreeB
  rw [decide_eq_true_eq]
  constructor
  · intro h i hi
    have := congrArg (fun x => x.testBit i) h
    simpa [Nat.testBit_and, hi] using this
  · intro h
    apply Nat.eq_of_testBit_eq
    intro i
    rw [Nat.testBit_and, Nat.testBit_and]
    cases hf : f.toNat.testBit i
    · rw [Bool.and_false, Bool.and_false]
    · rw [h i hf]
theorem agree_symm {f : Int} {v w : Nat} : agreeB f v w = agreeB f w v := by
  unfold agreeB; rw [Bool.eq_iff_iff, decide_eq_true_eq, decide_eq_true_eq]; exact ⟨Eq.symm, Eq.symm⟩
theorem agree_self (f : Int) (v : Nat) : agreeB f v v = true := decide_eq_true rfl
theorem agree_down {f g : Int} {v w : Nat} (hg : 0 ≤ g) (h : withinB g f = true) (ha : agreeB f v w = true) : agreeB g v w = true :=
  agree_iff.2 fun i hi => agree_iff.1 ha i ((within_iff hg).1 h i hi)
theorem agree_or {f g : Int} {v w : Nat} : agreeB (orI f g) v w = (agreeB f v w && agreeB g v w) := by
  rw [Bool.eq_iff_iff, Bool.and_eq_true, agree_iff, agree_iff, agree_iff]
  have e : ∀ i, (orI f g).toNat.testBit i = (f.toNat.testBit i || g.toNat.testBit i) := fun i => by
    show ((((f.toNat ||| g.toNat : Nat) : Int)).toNat).testBit i = _
    rw [Int.toNat_natCast, Nat.testBit_or]
  constructor
  · intro h
    exact ⟨fun i hi => h i (by rw [e, hi]; rfl), fun i hi => h i (by rw [e, hi, Bool.or_true])⟩
  · rintro ⟨h1, h2⟩ i hi
    rw [e] at hi
    rcases (Bool.or_eq_true_iff).1 hi with h | h
    · exact h1 i h
    · exact h2 i h

theorem holdsIn_iff {t s f g : Int} : holdsInB t s f g = true ↔ setOkB t s = true ∧ bondOkB t f g = true ∧ ∀ v w, hasW s v = true → hasW s w = true → agreeB f v w = true → agreeB g v w = true := by
  unfold holdsInB
  rw [Bool.and_eq_true, Bool.and_eq_true, and_assoc]
  refine and_congr_right fun hs => and_congr_right fun _ => ?_
  obtain ⟨h1, h3, h0, ha, _⟩ := setOkB_lt hs
  simp only [List.all_eq_true, List.mem_range]
  constructor
  · intro h
    have one : ∀ v w, w < v → hasW s v = true → hasW s w = true → agreeB f v w = true → agreeB g v w = true := fun v w hlt hv hw hf => by
      have := h v (has_lt h1 h3 h0 ha hv) w hlt
      simpa [hv, hw, hf] using this
    intro v w hv hw hf
    rcases Nat.lt_trichotomy w v with hlt | rfl | hlt
    · exact one v w hlt hv hw hf
    · exact agree_self _ _
    · rw [agree_symm]; exact one w v hlt hw hv (by rw [agree_symm]; exact hf)
  · intro h v _ w _
    cases hv : hasW s v
    · simp
    cases hw : hasW s w
    · simp
    cases hf : agreeB f v w
    · simp
    simp [h v w hv hw hf]
theorem has_and {s u : Int} {w : Nat} : hasW (andI s u) w = (hasW s w && hasW u w) := by
  unfold hasW
  show ((((s.toNat &&& u.toNat : Nat) : Int)).toNat).testBit w = _
  rw [Int.toNat_natCast, Nat.testBit_and]
/-- In a set within they hold, too. -/
theorem holdsIn_down {t s f g : Int} (u : Int) (h : holdsInB t s f g = true) : holdsInB t (andI s u) f g = true := by
  obtain ⟨hs, hb, hh⟩ := holdsIn_iff.1 h
  refine holdsIn_iff.2 ⟨andI_ok hs, hb, fun v w hv hw => hh v w ?_ ?_⟩
  · rw [has_and, Bool.and_eq_true] at hv; exact hv.1
  · rw [has_and, Bool.and_eq_true] at hw; exact hw.1

/-! The closure. -/
def closeStep (list : List (Int × Int)) (x : Int) : Int := list.foldl (fun x d => if withinB d.1 x = true then orI x d.2 else x) x
def closeN (list : List (Int × Int)) : Nat → Int → Int
  | 0, x => x
  | n + 1, x => closeN list n (closeStep list x)
def closedB (t : Int) (list : List (Int × Int)) (f : Int) : Int :=
  if thingsOk t f = true ∧ list.length ≤ 8 ∧ (list.all fun d => bondOkB t d.1 d.2) = true then closeN list t.toNat f else -1

theorem closeStep_le {list : List (Int × Int)} : ∀ {x : Int}, 0 ≤ x → (∀ d ∈ list, 0 ≤ d.2) → withinB x (closeStep list x) = true ∧ 0 ≤ closeStep list x := by
  induction list with
  | nil => intro x hx _; exact ⟨within_refl x hx, hx⟩
  | cons d l ih =>
    intro x hx hd
    show withinB x (closeStep l (if withinB d.1 x = true then orI x d.2 else x)) = true ∧ 0 ≤ closeStep l (if withinB d.1 x = true then orI x d.2 else x)
    have hl : ∀ e ∈ l, 0 ≤ e.2 := fun e he => hd e (List.mem_cons_of_mem _ he)
    split
    · have := ih (x := orI x d.2) (orI_nonneg _ _) hl
      exact ⟨within_trans hx (orI_nonneg _ _) (within_or_left x d.2 hx) this.1, this.2⟩
    · exact ih hx hl
theorem closeStep_least {list : List (Int × Int)} : ∀ {x z : Int}, 0 ≤ x → 0 ≤ z → (∀ d ∈ list, 0 ≤ d.1 ∧ 0 ≤ d.2) → withinB x z = true → (∀ d ∈ list, withinB d.1 z = true → withinB d.2 z = true) → withinB (closeStep list x) z = true := by
  induction list with
  | nil => intro x z _ _ _ h _; exact h
  | cons d l ih =>
    intro x z hx hz hd h hc
    show withinB (closeStep l (if withinB d.1 x = true then orI x d.2 else x)) z = true
    have hl : ∀ e ∈ l, 0 ≤ e.1 ∧ 0 ≤ e.2 := fun e he => hd e (List.mem_cons_of_mem _ he)
    have hcl : ∀ e ∈ l, withinB e.1 z = true → withinB e.2 z = true := fun e he => hc e (List.mem_cons_of_mem _ he)
    have hd0 := hd d (by simp)
    split
    · rename_i hw
      exact ih (orI_nonneg _ _) hz hl (or_within hx hd0.2 h (hc d (by simp) (within_trans hd0.1 hx hw h))) hcl
    · exact ih hx hz hl h hcl
theorem closeStep_fix {list : List (Int × Int)} : ∀ {x : Int}, 0 ≤ x → (∀ d ∈ list, 0 ≤ d.1 ∧ 0 ≤ d.2) → closeStep list x = x → ∀ d ∈ list, withinB d.1 x = true → withinB d.2 x = true := by
  induction list with
  | nil => intro x _ _ _ d hd; simp at hd
  | cons d l ih =>
    intro x hx hd he e hm hw
    have hl : ∀ e ∈ l, 0 ≤ e.1 ∧ 0 ≤ e.2 := fun e he => hd e (List.mem_cons_of_mem _ he)
    have hl2 : ∀ e ∈ l, 0 ≤ e.2 := fun e he => (hl e he).2
    have he2 : closeStep l (if withinB d.1 x = true then orI x d.2 else x) = x := he
    have hd0 := hd d (by simp)
    -- the first step leaves x as it is
    have hstep : (if withinB d.1 x = true then orI x d.2 else x) = x := by
      split
      · rename_i h1
        have h2 := (closeStep_le (list := l) (x := orI x d.2) (orI_nonneg _ _) hl2).1
        rw [if_pos h1] at he2
        rw [he2] at h2
        exact within_anti (orI_nonneg _ _) hx h2 (within_or_left x d.2 hx)
      · rfl
    rw [hstep] at he2
    rcases List.mem_cons.1 hm with rfl | hm
    · rw [if_pos hw] at hstep
      have := within_or_right x e.2 hd0.2
      rwa [hstep] at this
    · exact ih hx hl he2 e hm hw
theorem within_top {t f : Int} (h1 : 1 ≤ t) (h3 : t ≤ 3) (hf : 0 ≤ f) : withinB f (topT t) = true ↔ f ≤ topT t := by
  constructor
  · intro h; exact within_le h (topT_range t).1
  · intro h
    have h3' : t = 1 ∨ t = 2 ∨ t = 3 := by omega
    obtain ⟨n, rfl⟩ : ∃ n : Nat, f = n := ⟨f.toNat, by omega⟩
    have e : ∀ k : Nat, (n : Int) ≤ ((2 ^ k - 1 : Nat) : Int) → withinB (n : Int) ((2 ^ k - 1 : Nat) : Int) = true := fun k hk => by
      unfold withinB andI
      rw [decide_eq_true_eq]
      simp only [Int.toNat_natCast]
      have hp : 0 < 2 ^ k := Nat.two_pow_pos k
      rw [Nat.and_two_pow_sub_one_eq_mod, Nat.mod_eq_of_lt (by omega)]
    rcases h3' with rfl | rfl | rfl
    · exact e 1 h
    · exact e 2 h
    · exact e 3 h
/-- how many of three things -/
def pc (x : Int) : Nat := x.toNat % 2 + x.toNat / 2 % 2 + x.toNat / 4 % 2
theorem pc_lt : ∀ a b : Fin 8, withinB (a.val : Int) (b.val : Int) = true → a ≠ b → pc (a.val : Int) < pc (b.val : Int) := by decide +kernel
theorem pc_le : ∀ t : Fin 4, ∀ b : Fin 8, (b.val : Int) ≤ topT (t.val : Int) → pc (b.val : Int) ≤ t.val := by decide +kernel
theorem pc_less {x y : Int} (hx : 0 ≤ x) (hy : 0 ≤ y) (hy7 : y ≤ 7) (h : withinB x y = true) (hne : x ≠ y) : pc x < pc y := by
  have := within_le h hy
  have h1 := pc_lt ⟨x.toNat, by omega⟩ ⟨y.toNat, by omega⟩ (by simpa [Int.toNat_of_nonneg hx, Int.toNat_of_nonneg hy] using h) (by intro e; have := congrArg Fin.val e; simp at this; omega)
  simpa [Int.toNat_of_nonneg hx, Int.toNat_of_nonneg hy] using h1
theorem pc_top {t y : Int} (h1 : 1 ≤ t) (h3 : t ≤ 3) (hy : 0 ≤ y) (hy7 : y ≤ topT t) : pc y ≤ t.toNat := by
  have := topT_range t
  have := pc_le ⟨t.toNat, by omega⟩ ⟨y.toNat, by omega⟩ (by simpa [Int.toNat_of_nonneg hy, Int.toNat_of_nonneg (show 0 ≤ t by omega)] using hy7)
  simpa [Int.toNat_of_nonneg hy] using this

section close
variable {t : Int} {list : List (Int × Int)}
def ListOk (t : Int) (list : List (Int × Int)) : Prop := ∀ d ∈ list, bondOkB t d.1 d.2 = true
theorem ListOk.pos (h : ListOk t list) : ∀ d ∈ list, 0 ≤ d.1 ∧ 0 ≤ d.2 := fun d hd => by
  have := h d hd; unfold bondOkB at this; rw [Bool.and_eq_true] at this
  exact ⟨(thingsOk_of this.1).2.2.1, (thingsOk_of this.2).2.2.1⟩
theorem closeStep_top (h1 : 1 ≤ t) (h3 : t ≤ 3) (hl : ListOk t list) {x : Int} (hx : 0 ≤ x) (hx2 : x ≤ topT t) : 0 ≤ closeStep list x ∧ closeStep list x ≤ topT t := by
  have h0 := (closeStep_le hx (fun d hd => (hl.pos d hd).2)).2
  refine ⟨h0, (within_top h1 h3 h0).1 (closeStep_least hx (topT_range t).1 hl.pos ((within_top h1 h3 hx).2 hx2) fun d hd _ => ?_)⟩
  have := hl d hd; unfold bondOkB at this; rw [Bool.and_eq_true] at this
  have := thingsOk_of this.2
  exact (within_top h1 h3 (hl.pos d hd).2).2 this.2.2.2.1
theorem closeN_top (h1 : 1 ≤ t) (h3 : t ≤ 3) (hl : ListOk t list) : ∀ (n : Nat) {x : Int}, 0 ≤ x → x ≤ topT t → 0 ≤ closeN list n x ∧ closeN list n x ≤ topT t
  | 0, _, hx, hx2 => ⟨hx, hx2⟩
  | n + 1, _, hx, hx2 => closeN_top h1 h3 hl n (closeStep_top h1 h3 hl hx hx2).1 (closeStep_top h1 h3 hl hx hx2).2
theorem closeN_fix {x : Int} (h : closeStep list x = x) : ∀ n, closeN list n x = x
  | 0 => rfl
  | n + 1 => by show closeN list n (closeStep list x) = x; rw [h]; exact closeN_fix h n
/-- After n steps nothing more comes, or n things have come. -/
theorem closeN_grows (h1 : 1 ≤ t) (h3 : t ≤ 3) (hl : ListOk t list) : ∀ (n : Nat) {x : Int}, 0 ≤ x → x ≤ topT t → closeStep list (closeN list n x) = closeN list n x ∨ pc x + n ≤ pc (closeN list n x)
  | 0, _, _, _ => .inr (Nat.le_refl _)
  | n + 1, x, hx, hx2 => by
    obtain ⟨hy, hy2⟩ := closeStep_top h1 h3 hl hx hx2
    by_cases e : closeStep list x = x
    · left
      show closeStep list (closeN list n (closeStep list x)) = closeN list n (closeStep list x)
      rw [e, closeN_fix e n, e]
    · have hlt := pc_less hx hy (by have := topT_range t; omega) (closeStep_le hx (fun d hd => (hl.pos d hd).2)).1 (fun h => e h.symm)
      rcases closeN_grows h1 h3 hl n hy hy2 with h | h
      · exact .inl h
      · right
        show pc x + (n + 1) ≤ pc (closeN list n (closeStep list x))
        omega
theorem closeN_stable (h1 : 1 ≤ t) (h3 : t ≤ 3) (hl : ListOk t list) {x : Int} (hx : 0 ≤ x) (hx2 : x ≤ topT t) : closeStep list (closeN list t.toNat x) = closeN list t.toNat x := by
  obtain ⟨hy, hy2⟩ := closeN_top h1 h3 hl t.toNat hx hx2
  rcases closeN_grows h1 h3 hl t.toNat hx hx2 with h | h
  · exact h
  · have := pc_top h1 h3 hy hy2
    by_cases e : closeStep list (closeN list t.toNat x) = closeN list t.toNat x
    · exact e
    · obtain ⟨hz, hz2⟩ := closeStep_top h1 h3 hl hy hy2
      have hlt := pc_less hy hz (by have := topT_range t; omega) (closeStep_le hy (fun d hd => (hl.pos d hd).2)).1 (fun h => e h.symm)
      have := pc_top h1 h3 hz hz2
      omega
theorem closeN_within (hl : ListOk t list) : ∀ (n : Nat) {x : Int}, 0 ≤ x → withinB x (closeN list n x) = true ∧ 0 ≤ closeN list n x
  | 0, x, hx => ⟨within_refl x hx, hx⟩
  | n + 1, x, hx => by
    have h := closeStep_le hx (fun d hd => (hl.pos d hd).2)
    have := closeN_within hl n h.2
    exact ⟨within_trans hx h.2 h.1 this.1, this.2⟩
theorem closeN_least (hl : ListOk t list) {z : Int} (hz : 0 ≤ z) (hc : ∀ d ∈ list, withinB d.1 z = true → withinB d.2 z = true) : ∀ (n : Nat) {x : Int}, 0 ≤ x → withinB x z = true → withinB (closeN list n x) z = true
  | 0, _, _, h => h
  | n + 1, _, hx, h => closeN_least hl hz hc n (closeStep_le hx (fun d hd => (hl.pos d hd).2)).2 (closeStep_least hx hz hl.pos h hc)
theorem closed_ok {f : Int} (h : 0 ≤ closedB t list f) : thingsOk t f = true ∧ list.length ≤ 8 ∧ ListOk t list ∧ closedB t list f = closeN list t.toNat f := by
  unfold closedB at h ⊢
  split at h
  · rename_i hh
    rw [if_pos hh]
    exact ⟨hh.1, hh.2.1, fun d hd => List.all_eq_true.1 hh.2.2 d hd, rfl⟩
  · omega
theorem closed_of {f : Int} (h : thingsOk t f = true) (hl : list.length ≤ 8) (ho : ListOk t list) : closedB t list f = closeN list t.toNat f ∧ 0 ≤ closeN list t.toNat f ∧ closeN list t.toNat f ≤ topT t := by
  obtain ⟨h1, h3, h0, h7, _⟩ := thingsOk_of h
  refine ⟨?_, closeN_top h1 h3 ho _ h0 h7⟩
  unfold closedB
  rw [if_pos ⟨h, hl, List.all_eq_true.2 ho⟩]
theorem closed_fix {f : Int} (h : thingsOk t f = true) (ho : ListOk t list) : ∀ d ∈ list, withinB d.1 (closeN list t.toNat f) = true → withinB d.2 (closeN list t.toNat f) = true := by
  obtain ⟨h1, h3, h0, h7, _⟩ := thingsOk_of h
  exact closeStep_fix (closeN_top h1 h3 ho _ h0 h7).1 ho.pos (closeN_stable h1 h3 ho h0 h7)
/-- Closed again it is the same. -/
theorem law_closed_twice {f : Int} (h : 0 ≤ closedB t list f) : closedB t list (closedB t list f) = closedB t list f := by
  obtain ⟨hf, hl, ho, e⟩ := closed_ok h
  obtain ⟨h1, h3, h0, h7, _⟩ := thingsOk_of hf
  rw [e]
  have hy := closeN_top h1 h3 ho t.toNat h0 h7
  rw [(closed_of (f := closeN list t.toNat f) (decide_eq_true ⟨h1, h3, hy.1, hy.2⟩) hl ho).1]
  exact closeN_fix (closeN_stable h1 h3 ho h0 h7) _
theorem law_closed_within {f : Int} (h : 0 ≤ closedB t list f) : withinB f (closedB t list f) = true := by
  obtain ⟨hf, hl, ho, e⟩ := closed_ok h
  rw [e]; exact (closeN_within ho _ (thingsOk_of hf).2.2.1).1
/-- Of a greater set it is not less. -/
theorem law_closed_more {f g : Int} (h : 0 ≤ closedB t list f) (hg : thingsOk t g = true) (hw : withinB f g = true) : withinB (closedB t list f) (closedB t list g) = true := by
  obtain ⟨hf, hl, ho, e⟩ := closed_ok h
  obtain ⟨e2, h0, _⟩ := closed_of hg hl ho
  rw [e, e2]
  exact closeN_least ho h0 (closed_fix hg ho) _ (thingsOk_of hf).2.2.1 (within_trans (thingsOk_of hf).2.2.1 (thingsOk_of hg).2.2.1 hw (closeN_within ho _ (thingsOk_of hg).2.2.1).1)
/-- Worlds that tell the same of some things tell the same of their closure, where all dependences of the list hold. -/
theorem agree_closeN (ho : ListOk t list) {v w : Nat} (hh : ∀ d ∈ list, agreeB d.1 v w = true → agreeB d.2 v w = true) : ∀ (n : Nat) {x : Int}, 0 ≤ x → agreeB x v w = true → agreeB (closeN list n x) v w = true
  | 0, _, _, h => h
  | n + 1, x, hx, h => by
    refine agree_closeN ho hh n (closeStep_le hx (fun d hd => (ho.pos d hd).2)).2 ?_
    have go : ∀ (l : List (Int × Int)), (∀ d ∈ l, 0 ≤ d.1 ∧ (agreeB d.1 v w = true → agreeB d.2 v w = true)) → ∀ x, agreeB x v w = true → agreeB (closeStep l x) v w = true := by
      intro l
      induction l with
      | nil => intro _ x h; exact h
      | cons d l ih =>
        intro hl x h
        show agreeB (closeStep l (if withinB d.1 x = true then orI x d.2 else x)) v w = true
        refine ih (fun e he => hl e (List.mem_cons_of_mem _ he)) _ ?_
        split
        · rename_i hw
          rw [agree_or, h, (hl d (by simp)).2 (agree_down (hl d (by simp)).1 hw h)]; rfl
        · exact h
    exact go list (fun d hd => ⟨(ho.pos d hd).1, hh d hd⟩) x h
end close
def bondFollowsB (t : Int) (list : List (Int × Int)) (f g : Int) : Bool := decide (0 ≤ closedB t list f) && bondOkB t f g && withinB g (closedB t list f)

/-- The set of two worlds. -/
theorem two_has {v w k : Nat} : hasW (orI (worldS v) (worldS w)) k = (decide (k = v) || decide (k = w)) := by
  unfold hasW worldS
  show ((((2 ^ v : Nat) : Int).toNat ||| ((2 ^ w : Nat) : Int).toNat : Nat) : Int).toNat.testBit k = _
  rw [Int.toNat_natCast, Int.toNat_natCast, Int.toNat_natCast, Nat.testBit_or, Nat.testBit_two_pow, Nat.testBit_two_pow]
  simp only [eq_comm]
theorem two_ok {t : Int} {v w : Nat} (h1 : 1 ≤ t) (h3 : t ≤ 3) (hv : v < nWorlds t) (hw : w < nWorlds t) : setOkB t (orI (worldS v) (worldS w)) = true :=
  or_ok (setOk_of h1 h3 (world_ok h1 h3 hv).1 (world_ok h1 h3 hv).2) (setOk_of h1 h3 (world_ok h1 h3 hw).1 (world_ok h1 h3 hw).2)
theorem top_world {t : Int} (h1 : 1 ≤ t) (h3 : t ≤ 3) {x : Int} (hx : 0 ≤ x) (hx2 : x ≤ topT t) : x.toNat < nWorlds t := by
  have h : t = 1 ∨ t = 2 ∨ t = 3 := by omega
  rcases h with rfl | rfl | rfl
  · have : x ≤ 1 := hx2; show x.toNat < 2; omega
  · have : x ≤ 3 := hx2; show x.toNat < 4; omega
  · have : x ≤ 7 := hx2; show x.toNat < 8; omega
theorem agree_top {t x g : Int} (h1 : 1 ≤ t) (h3 : t ≤ 3) (_hx : 0 ≤ x) (hg : 0 ≤ g) (hg2 : g ≤ topT t) : agreeB g (topT t).toNat x.toNat = withinB g x := by
  rw [Bool.eq_iff_iff, agree_iff, within_iff hg]
  have hgt := (within_iff hg).1 ((within_top h1 h3 hg).2 hg2)
  constructor
  · intro h i hi; rw [← h i hi]; exact hgt i hi
  · intro h i hi; rw [hgt i hi, h i hi]
/-- What is not closed fails somewhere. -/
theorem law_follows {t f g : Int} {list : List (Int × Int)} (hd : bondOkB t f g = true) (hl : list.length ≤ 8) (ho : ListOk t list) :
    bondFollowsB t list f g = true ↔ ∀ s, 0 ≤ s → s ≤ allOf t → (∀ d ∈ list, holdsInB t s d.1 d.2 = true) → holdsInB t s f g = true := by
  have hd' := hd
  unfold bondOkB at hd'
  rw [Bool.and_eq_true] at hd'
  obtain ⟨h1, h3, hf0, hf7, _⟩ := thingsOk_of hd'.1
  obtain ⟨_, _, hg0, hg7, _⟩ := thingsOk_of hd'.2
  obtain ⟨e, hc0, hc7⟩ := closed_of hd'.1 hl ho
  have eb : bondFollowsB t list f g = withinB g (closeN list t.toNat f) := by
    unfold bondFollowsB; rw [e, hd, decide_eq_true hc0]; rfl
  rw [eb]
  constructor
  · intro hw s h0 ha hh
    refine holdsIn_iff.2 ⟨setOk_of h1 h3 h0 ha, hd, fun v w hv hw2 hag => ?_⟩
    exact agree_down hg0 hw (agree_closeN ho (fun d hm => (holdsIn_iff.1 (hh d hm)).2.2 v w hv hw2) _ hf0 hag)
  · intro h
    have hv := top_world h1 h3 (topT_range t).1 (Int.le_refl _)
    have hw := top_world h1 h3 hc0 hc7
    have hok := two_ok h1 h3 hv hw
    obtain ⟨_, _, hs0, hsa, _⟩ := setOkB_lt hok
    have key : ∀ {p q : Int}, bondOkB t p q = true → (holdsInB t (orI (worldS (topT t).toNat) (worldS (closeN list t.toNat f).toNat)) p q = true ↔ (withinB p (closeN list t.toNat f) = true → withinB q (closeN list t.toNat f) = true)) := by
      intro p q hpq
      have hpq' := hpq
      unfold bondOkB at hpq'
      rw [Bool.and_eq_true] at hpq'
      obtain ⟨_, _, hp0, hp7, _⟩ := thingsOk_of hpq'.1
      obtain ⟨_, _, hq0, hq7, _⟩ := thingsOk_of hpq'.2
      rw [holdsIn_iff]
      constructor
      · rintro ⟨_, _, hh⟩ hp
        have := hh (topT t).toNat (closeN list t.toNat f).toNat (by rw [two_has]; simp) (by rw [two_has]; simp)
        rw [agree_top h1 h3 hc0 hp0 hp7, agree_top h1 h3 hc0 hq0 hq7] at this
        exact this hp
      · intro hh
        refine ⟨hok, hpq, fun v w hv hw hag => ?_⟩
        rw [two_has, Bool.or_eq_true, decide_eq_true_eq, decide_eq_true_eq] at hv hw
        rcases hv with rfl | rfl <;> rcases hw with rfl | rfl
        · exact agree_self _ _
        · rw [agree_top h1 h3 hc0 hp0 hp7] at hag; rw [agree_top h1 h3 hc0 hq0 hq7]; exact hh hag
        · rw [agree_symm, agree_top h1 h3 hc0 hp0 hp7] at hag; rw [agree_symm, agree_top h1 h3 hc0 hq0 hq7]; exact hh hag
        · exact agree_self _ _
    have := h _ hs0 hsa fun d hm => (key (ho d hm)).2 (closed_fix hd'.1 ho d hm)
    exact (key hd).1 this (closeN_within ho _ hf0).1

/-! Keys. -/
def keyB (t s f : Int) : Bool := holdsInB t s f (topT t) && (List.range t.toNat).all fun k => !(f.toNat.testBit k && holdsInB t s (f - ((2 ^ k : Nat) : Int)) (topT t))
def keysL (t s : Int) : List Int := if setOkB t s = true then ((List.range ((topT t).toNat + 1)).map fun n : Nat => (n : Int)).filter (keyB t s) else []
theorem mem_keys {t s f : Int} : f ∈ keysL t s ↔ setOkB t s = true ∧ 0 ≤ f ∧ f ≤ topT t ∧ keyB t s f = true := by
  have := topT_range t
  unfold keysL
  split
  · rename_i h
    simp only [List.mem_filter, List.mem_map, List.mem_range]
    constructor
    · rintro ⟨⟨n, hn, rfl⟩, hk⟩; exact ⟨h, by omega, by omega, hk⟩
    · rintro ⟨_, h0, h7, hk⟩; exact ⟨⟨f.toNat, by omega, by omega⟩, hk⟩
  · rename_i h
    constructor
    · intro h2; simp at h2
    · rintro ⟨h2, _⟩; exact absurd h2 h
theorem thing_bit {t f : Int} (h1 : 1 ≤ t) (h3 : t ≤ 3) (hf : 0 ≤ f) (hf2 : f ≤ topT t) {i : Nat} (h : f.toNat.testBit i = true) : i < t.toNat := by
  have hge := Nat.ge_two_pow_of_testBit h
  have h' : t = 1 ∨ t = 2 ∨ t = 3 := by omega
  rcases h' with rfl | rfl | rfl
  · have : f ≤ 1 := hf2
    show i < 1
    rcases Nat.lt_or_ge i 1 with h | h
    · exact h
    · have := Nat.pow_le_pow_right (show 0 < 2 by omega) h; omega
  · have : f ≤ 3 := hf2
    show i < 2
    rcases Nat.lt_or_ge i 2 with h | h
    · exact h
    · have := Nat.pow_le_pow_right (show 0 < 2 by omega) h; omega
  · have : f ≤ 7 := hf2
    show i < 3
    rcases Nat.lt_or_ge i 3 with h | h
    · exact h
    · have := Nat.pow_le_pow_right (show 0 < 2 by omega) h; omega
theorem without_bit (n k : Nat) (h : n.testBit k = true) (i : Nat) : (n - 2 ^ k).testBit i = (n.testBit i && !decide (i = k)) := by
  have hge := Nat.ge_two_pow_of_testBit h
  have e : n - 2 ^ k = n ^^^ 2 ^ k := by
    have h2 : (n ^^^ 2 ^ k) + 2 ^ k = n := by
      have hx : (n ^^^ 2 ^ k) &&& 2 ^ k = 0 := by
        apply Nat.eq_of_testBit_eq
        intro j
        simp only [Nat.testBit_and, Nat.testBit_xor, Nat.testBit_two_pow, Nat.zero_testBit]
        by_cases ej : k = j
        · subst ej; simp [h]
        · simp [ej]
      have hor := or_add_and (n ^^^ 2 ^ k) (2 ^ k)
      rw [hx] at hor
      have ho : (n ^^^ 2 ^ k) ||| 2 ^ k = n := by
        apply Nat.eq_of_testBit_eq
        intro j
        simp only [Nat.testBit_or, Nat.testBit_xor, Nat.testBit_two_pow]
        by_cases ej : k = j
        · subst ej; simp [h]
        · simp [ej]
      omega
    omega
  rw [e, Nat.testBit_xor, Nat.testBit_two_pow]
  by_cases ei : i = k
  · subst ei; simp [h]
  · simp [ei, show ¬ k = i from fun e => ei e.symm]
theorem holds_more {t s f g k : Int} (h : holdsInB t s f k = true) (hg : thingsOk t g = true) (hw : withinB f g = true) : holdsInB t s g k = true := by
  obtain ⟨hs, hb, hh⟩ := holdsIn_iff.1 h
  unfold bondOkB at hb
  rw [Bool.and_eq_true] at hb
  exact holdsIn_iff.2 ⟨hs, by unfold bondOkB; rw [hg, hb.2]; rfl, fun v w hv hw2 ha => hh v w hv hw2 (agree_down (thingsOk_of hb.1).2.2.1 hw ha)⟩
theorem without_ok {t f : Int} {k : Nat} (hf : thingsOk t f = true) (h : f.toNat.testBit k = true) : thingsOk t (f - ((2 ^ k : Nat) : Int)) = true := by
  obtain ⟨h1, h3, h0, h7, _⟩ := thingsOk_of hf
  have hge := Nat.ge_two_pow_of_testBit h
  have hp := Nat.two_pow_pos k
  exact decide_eq_true ⟨h1, h3, by omega, by omega⟩
/-- There is at least one key. -/
theorem key_below {t s : Int} : ∀ (n : Nat) (f : Int), f.toNat ≤ n → holdsInB t s f (topT t) = true → ∃ g, g ∈ keysL t s
  | n, f, hn, h => by
    obtain ⟨hs, hb, _⟩ := holdsIn_iff.1 h
    have hb' := hb
    unfold bondOkB at hb'
    rw [Bool.and_eq_true] at hb'
    obtain ⟨h1, h3, h0, h7, _⟩ := thingsOk_of hb'.1
    cases hk : (List.range t.toNat).all fun k => !(f.toNat.testBit k && holdsInB t s (f - ((2 ^ k : Nat) : Int)) (topT t))
    · obtain ⟨k, _, hk2⟩ := List.all_eq_false.1 hk
      have hk2 : (f.toNat.testBit k && holdsInB t s (f - ((2 ^ k : Nat) : Int)) (topT t)) = true := by simpa using hk2
      rw [Bool.and_eq_true] at hk2
      have hge := Nat.ge_two_pow_of_testBit hk2.1
      have hp := Nat.two_pow_pos k
      cases n with
      | zero => omega
      | succ n => exact key_below n _ (by omega) hk2.2
    · exact ⟨f, mem_keys.2 ⟨hs, h0, h7, by unfold keyB; rw [h, hk]; rfl⟩⟩
theorem holds_top {t s : Int} (hs : setOkB t s = true) : holdsInB t s (topT t) (topT t) = true := by
  obtain ⟨h1, h3, _⟩ := setOkB_lt hs
  have ht : thingsOk t (topT t) = true := decide_eq_true ⟨h1, h3, (topT_range t).1, Int.le_refl _⟩
  exact holdsIn_iff.2 ⟨hs, by unfold bondOkB; rw [ht]; rfl, fun _ _ _ _ h => h⟩
theorem law_keys_some {t s : Int} (hs : setOkB t s = true) : ∃ g, g ∈ keysL t s := key_below _ _ (Nat.le_refl _) (holds_top hs)
theorem key_of {t s f : Int} (h : f ∈ keysL t s) : thingsOk t f = true ∧ holdsInB t s f (topT t) = true ∧ ∀ k, f.toNat.testBit k = true → holdsInB t s (f - ((2 ^ k : Nat) : Int)) (topT t) = false := by
  obtain ⟨hs, h0, h7, hk⟩ := mem_keys.1 h
  obtain ⟨h1, h3, _⟩ := setOkB_lt hs
  unfold keyB at hk
  rw [Bool.and_eq_true, List.all_eq_true] at hk
  refine ⟨decide_eq_true ⟨h1, h3, h0, h7⟩, hk.1, fun k hb => ?_⟩
  have := hk.2 k (List.mem_range.2 (thing_bit h1 h3 h0 h7 hb))
  simpa [hb] using this
/-- No key is within another one. -/
theorem law_keys_apart {t s f g : Int} (hf : f ∈ keysL t s) (hg : g ∈ keysL t s) (hw : withinB f g = true) : f = g := by
  obtain ⟨hf1, hf2, _⟩ := key_of hf
  obtain ⟨hg1, _, hg3⟩ := key_of hg
  have hf0 := (thingsOk_of hf1).2.2.1
  have hg0 := (thingsOk_of hg1).2.2.1
  refine within_anti hf0 hg0 hw ((within_iff hg0).2 fun i hi => ?_)
  cases hfi : f.toNat.testBit i
  · exfalso
    have hge := Nat.ge_two_pow_of_testBit hi
    have : holdsInB t s (g - ((2 ^ i : Nat) : Int)) (topT t) = true := holds_more hf2 (without_ok hg1 hi) <| (within_iff hf0).2 fun j hj => by
      rw [show (g - ((2 ^ i : Nat) : Int)).toNat = g.toNat - 2 ^ i by omega, without_bit _ _ hi, (within_iff hf0).1 hw j hj]
      have : j ≠ i := fun e => by subst e; rw [hfi] at hj; cases hj
      simp [this]
    rw [hg3 i hi] at this
    cases this
  · rfl
/-- No two worlds of the set tell the same of all things of a key. -/
theorem law_keys_tell {t s f : Int} (hf : f ∈ keysL t s) {v w : Nat} (hv : hasW s v = true) (hw : hasW s w = true) (ha : agreeB f v w = true) : v = w := by
  obtain ⟨hf1, hf2, _⟩ := key_of hf
  obtain ⟨hs, _, hh⟩ := holdsIn_iff.1 hf2
  obtain ⟨h1, h3, h0, hal, _⟩ := setOkB_lt hs
  have hag := hh v w hv hw ha
  have hvl := has_lt h1 h3 h0 hal hv
  have hwl := has_lt h1 h3 h0 hal hw
  unfold agreeB at hag
  rw [decide_eq_true_eq] at hag
  have h' : t = 1 ∨ t = 2 ∨ t = 3 := by omega
  rcases h' with rfl | rfl | rfl
  · have hvl : v < 2 := hvl
    have hwl : w < 2 := hwl
    have hag : v &&& (2 ^ 1 - 1) = w &&& (2 ^ 1 - 1) := hag
    rw [Nat.and_two_pow_sub_one_eq_mod, Nat.and_two_pow_sub_one_eq_mod] at hag; omega
  · have hvl : v < 4 := hvl
    have hwl : w < 4 := hwl
    have hag : v &&& (2 ^ 2 - 1) = w &&& (2 ^ 2 - 1) := hag
    rw [Nat.and_two_pow_sub_one_eq_mod, Nat.and_two_pow_sub_one_eq_mod] at hag; omega
  · have hvl : v < 8 := hvl
    have hwl : w < 8 := hwl
    have hag : v &&& (2 ^ 3 - 1) = w &&& (2 ^ 3 - 1) := hag
    rw [Nat.and_two_pow_sub_one_eq_mod, Nat.and_two_pow_sub_one_eq_mod] at hag; omega

/-! All dependences that hold. -/
def bondsFrom (t s f : Int) : List (Int × Int) := ((List.range t.toNat).filter fun k => !f.toNat.testBit k && holdsInB t s f ((2 ^ k : Nat) : Int)).map fun k : Nat => (f, ((2 ^ k : Nat) : Int))
def bondsL (t s : Int) : List (Int × Int) := if setOkB t s = true then (List.range ((topT t).toNat + 1)).flatMap fun f : Nat => bondsFrom t s (f : Int) else []
theorem mem_bonds {t s : Int} {d : Int × Int} : d ∈ bondsL t s ↔ setOkB t s = true ∧ ∃ (f k : Nat), f ≤ (topT t).toNat ∧ k < t.toNat ∧ f.testBit k = false ∧ holdsInB t s (f : Int) ((2 ^ k : Nat) : Int) = true ∧ d = ((f : Int), ((2 ^ k : Nat) : Int)) := by
  unfold bondsL
  split
  · rename_i h
    simp only [List.mem_flatMap, bondsFrom, List.mem_map, List.mem_filter, List.mem_range, Bool.and_eq_true, Bool.not_eq_true', Int.toNat_natCast]
    constructor
    · rintro ⟨f, hf, k, ⟨hk, hb, hh⟩, rfl⟩; exact ⟨h, f, k, by omega, hk, hb, hh, rfl⟩
    · rintro ⟨_, f, k, hf, hk, hb, hh, rfl⟩; exact ⟨f, by omega, k, ⟨hk, hb, hh⟩, rfl⟩
  · rename_i h
    constructor
    · intro h2; simp at h2
    · rintro ⟨h2, _⟩; exact absurd h2 h
theorem bonds_hold {t s : Int} {d : Int × Int} (h : d ∈ bondsL t s) : holdsInB t s d.1 d.2 = true := by
  obtain ⟨_, f, k, _, _, _, hh, rfl⟩ := mem_bonds.1 h; exact hh
theorem law_bonds_less {t s : Int} (u : Int) {d : Int × Int} (h : d ∈ bondsL t s) : d ∈ bondsL t (andI s u) := by
  obtain ⟨hs, f, k, h1, h2, h3, hh, rfl⟩ := mem_bonds.1 h
  exact mem_bonds.2 ⟨andI_ok hs, f, k, h1, h2, h3, holdsIn_down u hh, rfl⟩
theorem law_bonds_follow {t s : Int} (hs : setOkB t s = true) {list : List (Int × Int)} (hl : list.length ≤ 8) (hh : ∀ d ∈ list, holdsInB t s d.1 d.2 = true) : holdsInB t s 1 (closedB t list 1) = true := by
  obtain ⟨h1, h3, h0, hal, _⟩ := setOkB_lt hs
  have ho : ListOk t list := fun d hd => (holdsIn_iff.1 (hh d hd)).2.1
  have ht : 1 ≤ topT t := by
    have h' : t = 1 ∨ t = 2 ∨ t = 3 := by omega
    rcases h' with rfl | rfl | rfl <;> decide
  have h1ok : thingsOk t 1 = true := decide_eq_true ⟨h1, h3, by omega, ht⟩
  obtain ⟨e, hc0, hc7⟩ := closed_of h1ok hl ho
  have hok : thingsOk t (closeN list t.toNat 1) = true := decide_eq_true ⟨h1, h3, hc0, hc7⟩
  rw [e]
  exact holdsIn_iff.2 ⟨hs, by unfold bondOkB; rw [h1ok, hok]; rfl, fun v w hv hw ha => agree_closeN ho (fun d hd => (holdsIn_iff.1 (hh d hd)).2.2 v w hv hw) _ (by omega) ha⟩
end Go.Proofs.Ytfmknllemhdnaaa
