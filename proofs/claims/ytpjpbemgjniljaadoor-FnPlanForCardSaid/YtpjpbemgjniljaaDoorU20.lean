/-
  What the proofs of this seat's statements share (AskM, PlnI).
-/
import Derived.BigQuiet
import Derived.Test.YtpjpbemgjniljaaDoorU18
import Derived.Test.YtpjpbemgjniljaaDoorU10
import Derived.Test.YtpjpbemgjniljaaDoorU17
import Derived.Test.YtpjpbemgjniljaaDoorU6

namespace Go.Proofs.YtpjpbemgjniljaaDoor
open Go.RowKit

section
variable {t : Int} {asks issue : List Int} {u : Int}
theorem issue_nodup {xs : List Int} (h : issueOkB t xs = true) : xs.Nodup := by
  have asc : xs.Pairwise (· < ·) := by
    rw [← issue_tidy h]; exact tidy_asc xs
  exact asc_nodup asc
theorem asked_cases : asksNeededI t asks issue u = -1 ∨ (0 ≤ asksNeededI t asks issue u ∧ asksNeededI t asks issue u ≤ 5 ∧ ok7 t asks issue u = true ∧ asksNeededI t asks issue u = needs asks issue u) := by
  unfold asksNeededI
  by_cases h : ok7 t asks issue u = true
  · rw [if_pos h]
    have h2 := (ok7_parts h).2.2.1
    have := needs_range asks issue h2
    by_cases hn : needs asks issue u = -1
    · exact .inl hn
    · exact .inr ⟨by omega, by omega, h, rfl⟩
  · rw [if_neg h]; exact .inl rfl
theorem ok7_of (ha : ∀ q ∈ asks, setOkB t q = true) (hl : asks.length ≤ 5) (hi : issueOkB t issue = true) (hu : setOkB t u = true) : ok7 t asks issue u = true := by
  unfold ok7
  rw [hi, hu, decide_eq_true hl, List.all_eq_true.2 ha]; rfl
theorem ok7_sets (h : ok7 t asks issue u = true) : ∀ q ∈ asks, setOkB t q = true := by
  unfold ok7 at h
  simp only [Bool.and_eq_true, List.all_eq_true] at h
  exact h.1.1.1
theorem ok7_less (h : ok7 t asks issue u = true) (c : Int) : ok7 t asks issue (andI u c) = true := by
  obtain ⟨_, _, _, _, hl, hi, hu⟩ := ok7_parts h
  exact ok7_of (ok7_sets h) hl hi (andI_ok hu)
theorem law_less (h0 : 0 ≤ asksNeededI t asks issue u) (c : Int) : 0 ≤ asksNeededI t asks issue (andI u c) ∧ asksNeededI t asks issue (andI u c) ≤ asksNeededI t asks issue u := by
  rcases asked_cases (t := t) (asks := asks) (issue := issue) (u := u) with h | ⟨_, _, hok, he⟩
  · omega
  · rw [he] at h0 ⊢
    have h2 := (ok7_parts hok).2.2.1
    have e : asksNeededI t asks issue (andI u c) = needs asks issue (andI u c) := by unfold asksNeededI; rw [if_pos (ok7_less hok c)]
    rw [e]
    exact need_fewer h2 (and_pos u c) ((within_iff (and_pos u c)).2 fun i hi => by
      have := has_yes u c
      have hh : hasW (andI u c) i = true := hi
      rw [this] at hh
      unfold yesF at hh
      rw [Bool.and_eq_true] at hh
      exact hh.1) h0
theorem law_longer (h0 : 0 ≤ asksNeededI t asks issue u) (hl : asks.length < 5) : 0 ≤ asksNeededI t (asks ++ [1]) issue u ∧ asksNeededI t (asks ++ [1]) issue u ≤ asksNeededI t asks issue u := by
  rcases asked_cases (t := t) (asks := asks) (issue := issue) (u := u) with h | ⟨_, _, hok, he⟩
  · omega
  · rw [he] at h0 ⊢
    obtain ⟨_, _, h2, _, _, hi, hu⟩ := ok7_parts hok
    have ht := things7 hok
    have hok2 : ok7 t (asks ++ [1]) issue u = true := ok7_of (fun q hq => by
      rcases List.mem_append.1 hq with hq | hq
      · exact ok7_sets hok q hq
      · rw [List.mem_singleton] at hq
        subst hq
        have : t = 1 ∨ t = 2 ∨ t = 3 := by omega
        rcases this with rfl | rfl | rfl <;> decide) (by rw [List.length_append, List.length_singleton]; omega) hi hu
    have e : asksNeededI t (asks ++ [1]) issue u = needs (asks ++ [1]) issue u := by unfold asksNeededI; rw [if_pos hok2]
    rw [e]
    exact need_longer h2 (fun q hq => List.mem_append_left _ hq) h0
theorem law_zero (h0 : 0 ≤ asksNeededI t asks issue u) : decide (asksNeededI t asks issue u = 0) = settlesB t issue u := by
  rcases asked_cases (t := t) (asks := asks) (issue := issue) (u := u) with h | ⟨_, _, hok, he⟩
  · omega
  · obtain ⟨_, _, h2, _, _, hi, hu⟩ := ok7_parts hok
    rw [he]
    unfold settlesB
    rw [hi, hu, Bool.true_and, Bool.true_and]
    rw [Bool.eq_iff_iff, decide_eq_true_eq]
    exact need_none h2
/-- How many of the first sets have a world in common with a set. -/
def manyTo (issue : List Int) (u : Int) (k : Nat) : Nat := ((issue.take k).filter fun x => decide (andI x u ≠ 0)).length
theorem many_next {x : Int} {k : Nat} (hx : Hid (issue[k]? = some x)) : manyTo issue u (k + 1) = manyTo issue u k + if andI x u ≠ 0 then 1 else 0 := by
  unfold manyTo
  rw [take_snoc hx, List.filter_append, List.length_append]
  by_cases h : andI x u ≠ 0
  · rw [if_pos h, List.filter_cons_of_pos (by simpa using h)]; rfl
  · rw [if_neg h, List.filter_cons_of_neg (by simpa using h)]; rfl
theorem common {a b : Int} (h : andI a b ≠ 0) : ∃ w, hasW a w = true ∧ hasW b w = true := by
  apply Classical.byContradiction
  intro hn
  apply h
  refine has_ext (and_pos a b) (Int.le_refl 0) fun w => ?_
  rw [has_yes]
  unfold yesF
  have h0 : hasW 0 w = false := by unfold hasW; simp
  rw [h0]
  cases ha : hasW a w
  · rfl
  · cases hb : hasW b w
    · rfl
    · exact absurd ⟨w, ha, hb⟩ hn
theorem law_many (h0 : 0 ≤ asksNeededI t asks issue u) (hp : isPartB t issue = true) : manyTo issue u issue.length ≤ 2 ^ (asksNeededI t asks issue u).toNat := by
  rcases asked_cases (t := t) (asks := asks) (issue := issue) (u := u) with h | ⟨_, _, hok, he⟩
  · omega
  · rw [he] at h0 ⊢
    obtain ⟨_, _, h2, _, _, hi, hu⟩ := ok7_parts hok
    obtain ⟨h1, h3⟩ := things7 hok
    have hsets := issue_sets hi
    rcases (need_least asks issue 5 u h2).1 with g | ⟨_, _, g⟩
    · have : needs asks issue u = -1 := g
      omega
    · unfold manyTo
      rw [List.take_length]
      refine need_many (asks := asks) (issue := issue) (fun p hpm q hqm w hw hw2 => ?_) _ _ g _ ((issue_nodup hi).filter _) (fun p hpm => ?_)
      · have hlt : w < nWorlds t := has_lt h1 h3 (setOkB_lt (hsets p hpm)).2.2.1 (setOkB_lt (hsets p hpm)).2.2.2.1 hw
        obtain ⟨x, _, _, hx⟩ := part_unique hp hlt
        rw [hx p hpm hw, hx q hqm hw2]
      · obtain ⟨hm, hd⟩ := List.mem_filter.1 hpm
        rw [decide_eq_true_eq] at hd
        exact ⟨hm, common hd⟩

theorem law_planNeed {s : ByteArray} {x : PlanT} (h : settlingP t asks issue u s = some x) : 0 ≤ asksNeededI t asks issue u ∧ asksNeededI t asks issue u ≤ (depthP x : Int) := by
  obtain ⟨hok, _, ho⟩ := settling_is h
  obtain ⟨_, _, h2, _, hl, _, _⟩ := ok7_parts hok
  unfold asksNeededI
  rw [if_pos hok]
  exact need_plan h2 hl (ok_can x u h2 ho)
theorem law_planLess {s : ByteArray} {x : PlanT} (h : settlingP t asks issue u s = some x) (c : Int) : settlingP t asks issue (andI u c) s = some x := by
  obtain ⟨hok, hp, ho⟩ := settling_is h
  obtain ⟨_, _, h2, _, hl, _, _⟩ := ok7_parts hok
  have ho2 : okP asks issue x (andI u c) = true := ok_less x u (andI u c) h2 (and_pos u c) (by rw [has_yes]; exact yes_less _ _) ho
  unfold settlingP
  rw [if_pos (ok7_less hok c), hp]
  simp only
  rw [if_pos ho2]
theorem ansB_inj : ∀ {l m : List Bool}, ansB l = ansB m → l = m := by
  intro l m h
  have key : ∀ l : List Bool, (ansB l).data.toList = l.map fun b => if b = true then 121 else 110 := by
    intro l
    induction l with
    | nil => rfl
    | cons b r ih =>
      show ((if b = true then (⟨#[121]⟩ : ByteArray) else ⟨#[110]⟩) ++ ansB r).data.toList = _
      rw [ByteArray.data_append, Array.toList_append, ih]
      cases b <;> rfl
  have h2 := congrArg (fun b : ByteArray => b.data.toList) h
  simp only [key] at h2
  clear h key
  induction l generalizing m with
  | nil =>
    cases m with
    | nil => rfl
    | cons b r => cases h2
  | cons a r ih =>
    cases m with
    | nil => cases h2
    | cons b q =>
      rw [List.map_cons, List.map_cons] at h2
      injection h2 with e1 e2
      rw [ih e2]
      cases a <;> cases b <;> first | rfl | (exact absurd e1 (by decide))
/-- The worlds with the same answers. -/
def sameAns (t : Int) (asks issue : List Int) (u : Int) (s b : ByteArray) : Nat → Nat := setOfW fun v => decide (answersToB t asks issue u s v = some b)
theorem law_same {s b : ByteArray} {v : Int} (h : answersToB t asks issue u s v = some b) : settlesB t issue (sameAns t asks issue u s b (nWorlds t) : Int) = true ∧ (b.size : Int) ≤ planAsksI t asks issue u s := by
  rcases hp : settlingP t asks issue u s with _ | x
  · rw [answersTo_none hp] at h; cases h
  · obtain ⟨hok, hpo, ho⟩ := settling_is hp
    obtain ⟨_, _, h2, _, _, hi, hu⟩ := ok7_parts hok
    obtain ⟨h1, h3⟩ := things7 hok
    by_cases hv : 0 ≤ v ∧ v < worldsOf t ∧ hasW u v.toNat = true
    · have hb : ansB (answersP asks v.toNat x) = b := by
        unfold answersToB at h
        rw [hp] at h
        simp only at h
        rw [if_pos hv] at h
        exact Option.some.inj h
      have hbit : ∀ w, hasW (sameAns t asks issue u s b (nWorlds t) : Int) w = (decide (w < nWorlds t) && decide (answersToB t asks issue u s w = some b)) := fun w => by
        unfold hasW sameAns
        rw [Int.toNat_natCast, setOfW_bit]
      have hset := answers_settle (issue := issue) v.toNat x u h2 ho
      have hlt := setOfW_lt (fun v : Nat => decide (answersToB t asks issue u s v = some b)) (nWorlds t)
      have hok2 : setOkB t (sameAns t asks issue u s b (nWorlds t) : Int) = true := by
        refine setOk_of h1 h3 (Int.natCast_nonneg _) ?_
        have e : ((2 ^ nWorlds t : Nat) : Int) - 1 = allOf t := by
          have : t = 1 ∨ t = 2 ∨ t = 3 := by omega
          rcases this with rfl | rfl | rfl <;> rfl
        unfold sameAns
        omega
      constructor
      · unfold settlesB
        rw [hi, hok2, Bool.true_and, Bool.true_and]
        refine (any_inOne (Int.natCast_nonneg _)).2 (inOne_down issue _ _ (fun w hw => ?_) hset)
        rw [hbit, Bool.and_eq_true, decide_eq_true_eq, decide_eq_true_eq] at hw
        obtain ⟨_, hw⟩ := hw
        unfold answersToB at hw
        rw [hp] at hw
        simp only at hw
        by_cases hc : 0 ≤ (w : Int) ∧ (w : Int) < worldsOf t ∧ hasW u (w : Int).toNat = true
        · rw [if_pos hc, Int.toNat_natCast] at hw
          rw [Int.toNat_natCast] at hc
          rw [hc.2.2, Bool.true_and, decide_eq_true_eq]
          exact ansB_inj (by rw [Option.some.inj hw, hb])
        · rw [if_neg hc] at hw; cases hw
      · rw [planAsks_eq, hp]
        simp only
        rw [← hb, ansB_size]
        have := answersP_len asks v.toNat x
        omega
    · rw [answersTo_no hp hv] at h; cases h
end
end Go.Proofs.YtpjpbemgjniljaaDoor

namespace Go.Proofs.YtpjpbemgjniljaaDoor
open Go.RowKit Go.Maps

theorem iItoa7 {k : Nat} (hk : k ≤ 4) (w : World) : Calls Tryd.prog 35 #[.int .i64 k] w fun e w' => e = .returned (.string (digitB k)) ∧ w = w' := by
  refine (Tryd.strconv_Itoa_small k (by omega) w).mono ?_
  rintro e w' ⟨rfl, rfl⟩
  have h5 : k = 0 ∨ k = 1 ∨ k = 2 ∨ k = 3 ∨ k = 4 := by omega
  refine ⟨?_, rfl⟩
  rcases h5 with rfl | rfl | rfl | rfl | rfl <;> kernel_rfl
theorem Cnt.drewN {f : Int → Int} {asks issue : List Int} {A B : Option Addr} {na ca nb cb bI bR bA bF bM base : Nat} {w0 w : World} (h : Cnt f asks issue A B na ca nb cb bI bR bA bF bM base w0 w) (n : Nat) : Cnt f asks issue A B na ca nb cb bI bR bA bF bM base w0 (w.drewN n) :=
  ⟨h.xI, h.xR, h.xA, h.xF, h.ra, h.rb, bel_drewN h.hb n, h.mp⟩
section
variable {P : World → Prop} {c1 c2 c3 c4 : Value} {A : Option Addr} {na ca : Nat} {asks issue : List Int} {u : Int} {w : World}
set_option maxRecDepth 100000 in
set_option maxHeartbeats 4000000 in
theorem iText_dot (hp : P w) (_hu0 : 0 ≤ u) (hc : NeedAt P (needs asks issue) c1 c2 c3 c4 u) (hz : needs asks issue u = 0) :
    Calls Tryd.prog 17 #[.slice A na ca, .int .i64 u, .func (.func 32) #[] #[c1, c2, c3, c4]] w fun e w' => e = .returned (.string (planB .dot)) ∧ P w' := by
  have HC := Lib.hid (hc.call hz hp)
  clear hp hc hz
  go_enter Tryd.func17, Tryd.ntmps17
  go_wp2_with fail
  refine HC.out.mono ?_
  rintro e w1 ⟨rfl, hp1⟩
  have HP1 := Lib.hid hp1
  clear hp1
  go_wp2_with fail
  go_ret
  exact ⟨rfl, HP1.out⟩
set_option maxRecDepth 100000 in
set_option maxHeartbeats 8000000 in
theorem iText_ask {l : Nat} (hl : l ≤ 5) (hp : P w) (hdr : ∀ W n, P W → P (W.drewN n)) (hrow : ∀ W, P W → Nums .i64 W A asks) (hna : na = asks.length) (hl5 : asks.length ≤ 5) (hr : ∀ q ∈ asks, 0 ≤ q ∧ q < 256) (hu0 : 0 ≤ u) (hu : u < 256)
    (hc : ∀ x, 0 ≤ x → x < 256 → NeedAt P (needs asks issue) c1 c2 c3 c4 x) (h0 : 0 < needs asks issue u) (hn : needs asks issue u ≤ l + 1)
    (ih : ∀ x, 0 ≤ x → x < 256 → 0 ≤ needs asks issue x → needs asks issue x ≤ l → ∀ W, P W → Calls Tryd.prog 17 #[.slice A na ca, .int .i64 x, .func (.func 32) #[] #[c1, c2, c3, c4]] W fun e w' => e = .returned (.string (planB (planI asks issue l x))) ∧ P w') :
    Calls Tryd.prog 17 #[.slice A na ca, .int .i64 u, .func (.func 32) #[] #[c1, c2, c3, c4]] w fun e w' => e = .returned (.string (planB (planI asks issue (l + 1) u))) ∧ P w' := by
  subst hna
  obtain ⟨n, HND⟩ : ∃ n, Hid (needs asks issue u = n) := ⟨_, rfl⟩
  have HC := Lib.hid ((hc u hu0 hu).call HND hp)
  have hnw : anyWithin u issue = false := by
    rcases h : anyWithin u issue with _ | _
    · rfl
    · have := (need_none (asks := asks) (issue := issue) (l := 5) hu0).2 h
      unfold needs at h0
      omega
  have HBS : Hid (∀ W, P W → Calls Tryd.prog 34 #[.slice A asks.length ca, .int .i64 u, .func (.func 32) #[] #[c1, c2, c3, c4]] W (BestPost P (worthI (needs asks issue) u) asks)) := fun W hW =>
    iBest hW (fun x hx => needs_range asks issue hx) hrow rfl hl5 hr hu0 hu (fun x hx hlt => hc x hx (by omega))
  have HFIRST : Hid (∀ b lo, BestOf (worthI (needs asks issue) u) asks asks.length b lo → ∃ j : Nat, b = j ∧ j < asks.length ∧ firstI asks issue l u = some j ∧ worthI (needs asks issue) u (asks.getD j 0) = needs asks issue u) := fun b lo hb =>
    best_first hl5 hu0 hnw (by omega) hn hb
  have HNW := Lib.hid hnw
  have HIH := Lib.hid ih
  have HDR := Lib.hid hdr
  have HROW := Lib.hid hrow
  have HRQ := Lib.hid hr
  have hnz : (n == 0) = false := by rw [beq_eq_false_iff_ne]; have := HND.out; omega
  obtain ⟨res, HRES⟩ : ∃ r, Hid (planB (planI asks issue (l + 1) u) = r) := ⟨_, rfl⟩
  rw [HRES.out]
  clear hp hc hdr hrow hr ih hnw
  go_enter Tryd.func17, Tryd.ntmps17
  go_wp2_with fail
  refine HC.out.mono ?_
  rintro e w1 ⟨rfl, hp1⟩
  have HB := Lib.hid (HBS.out _ hp1)
  clear hp1
  go_wp2_with fail
  refine HB.out.mono ?_
  rintro e w2 ⟨b, lo, rfl, hbest, hp2⟩
  obtain ⟨j, rfl, hj, hfirst, hworth⟩ := HFIRST.out b lo hbest
  obtain ⟨bb, off, x, rfl, hcell, hx, _⟩ := (HROW.out _ hp2).elem hj
  obtain ⟨hx0, hx1⟩ := HRQ.out x (elem_mem hx)
  have hg : asks.getD j 0 = x := by rw [List.getD_eq_getElem?_getD, hx.out]; rfl
  rw [hg] at hworth
  obtain ⟨hw1, hw2, hw3, hw4, hw5, hw6⟩ := worth_parts hworth (by omega)
  obtain ⟨hy0, hy1, hz0, hz1⟩ := andI_lt x hu0 hu
  have hb1 : bits .and .i64 u x = andI u x := bits_and u x hu0 (by omega) hx0 (by omega)
  have hb2 : bits .andNot .i64 u x = u - andI u x := bits_sub hu0 hu hx0 hx1
  have HPI : Hid (planI asks issue (l + 1) u = .ask j (planI asks issue l (andI u x)) (planI asks issue l (u - andI u x))) := by
    show (if anyWithin u issue = true then PlanT.dot else match firstI asks issue l u with | some k => _ | none => _) = _
    rw [if_neg (by rw [HNW.out]; decide), hfirst]
    simp only [hg]
  obtain ⟨y, HY⟩ : ∃ y, Hid (andI u x = y) := ⟨_, rfl⟩
  rw [HY.out] at hy0 hy1 hz0 hz1 hb1 hb2 hw1 hw2 hw3 hw4 hw5 hw6 HPI
  have HT1 := Lib.hid (HIH.out y hy0 hy1 hw3 (by omega))
  have HT2 := Lib.hid (HIH.out (u - y) hz0 hz1 hw4 (by omega))
  have HSZ1 := Lib.hid (planI_size (asks := asks) (issue := issue) (l := l) (by omega) y)
  have HSZ2 := Lib.hid (planI_size (asks := asks) (issue := issue) (l := l) (by omega) (u - y))
  obtain ⟨p1, HP1⟩ : ∃ p, Hid (planI asks issue l y = p) := ⟨_, rfl⟩
  obtain ⟨p2, HP2⟩ : ∃ p, Hid (planI asks issue l (u - y) = p) := ⟨_, rfl⟩
  rw [HP1.out, HP2.out] at HPI
  rw [HP1.out] at HT1 HSZ1
  rw [HP2.out] at HT2 HSZ2
  obtain ⟨b1, HBB1⟩ : ∃ b, Hid (planB p1 = b) := ⟨_, rfl⟩
  obtain ⟨b2, HBB2⟩ : ∃ b, Hid (planB p2 = b) := ⟨_, rfl⟩
  obtain ⟨bd, HBBD⟩ : ∃ b, Hid (digitB j = b) := ⟨_, rfl⟩
  rw [HBB1.out] at HT1 HSZ1
  rw [HBB2.out] at HT2 HSZ2
  have hz1' : b1.size ≤ 256 := HSZ1.out
  have hz2' : b2.size ≤ 256 := HSZ2.out
  have hz3' : bd.size ≤ 1 := by rw [← HBBD.out]; exact Nat.le_refl _
  have HRR : Hid ((((bd ++ ⟨#[40]⟩) ++ b1) ++ b2) ++ ⟨#[41]⟩ = res) := by
    unfold Hid
    rw [← HRES.out, HPI.out, ← HBB1.out, ← HBB2.out, ← HBBD.out]; rfl
  have HNUM := Lib.hid (iItoa7 (k := j) (by omega))
  rw [HBBD.out] at HNUM
  have HPW := Lib.hid hp2
  have hj0 : (j : Int) < (asks.length : Int) := by omega
  clear hbest hp2 hfirst hworth hg hw1 hw2 hw3 hw4 hw5 hw6 HSZ1 HSZ2
  go_wp2_with fail
  go_quiet (fail)
  go_wp2_with fail
  refine (HNUM.out _).mono ?_
  rintro e w3 ⟨rfl, rfl⟩
  go_wp2_with fail
  refine (HT1.out _ (HDR.out _ _ HPW.out)).mono ?_
  rintro e w4 ⟨rfl, hp4⟩
  have HP4 := Lib.hid hp4
  clear hp4
  go_wp2_with fail
  refine (HT2.out _ HP4.out).mono ?_
  rintro e w5 ⟨rfl, hp5⟩
  have HP5 := Lib.hid hp5
  clear hp5
  go_wp2_with fail
  go_ret
  exact ⟨by rw [← HRR.out]; rfl, HP5.out⟩
theorem iPlanText (hdr : ∀ W n, P W → P (W.drewN n)) (hrow : ∀ W, P W → Nums .i64 W A asks) (hna : na = asks.length) (hl5 : asks.length ≤ 5) (hr : ∀ q ∈ asks, 0 ≤ q ∧ q < 256)
    (hc : ∀ x, 0 ≤ x → x < 256 → NeedAt P (needs asks issue) c1 c2 c3 c4 x) : ∀ l : Nat, l ≤ 6 → ∀ x, 0 ≤ x → x < 256 → 0 ≤ needs asks issue x → needs asks issue x ≤ l → ∀ W, P W →
    Calls Tryd.prog 17 #[.slice A na ca, .int .i64 x, .func (.func 32) #[] #[c1, c2, c3, c4]] W fun e w' => e = .returned (.string (planB (planI asks issue l x))) ∧ P w' := by
  intro l
  induction l with
  | zero =>
    intro _ x hx0 hx h0 h1 W hW
    exact iText_dot hW hx0 (hc x hx0 hx) (by omega)
  | succ l ih =>
    intro hl x hx0 hx h0 h1 W hW
    by_cases hz : needs asks issue x = 0
    · have hw := (need_none (asks := asks) (issue := issue) (l := 5) hx0).1 hz
      unfold planI
      rw [if_pos hw]
      exact iText_dot hW hx0 (hc x hx0 hx) hz
    · exact iText_ask (by omega) hW hdr hrow hna hl5 hr hx0 hx hc (by omega) (by omega) (ih (by omega))
end
set_option maxRecDepth 100000 in
set_option maxHeartbeats 4000000 in
theorem iPlanFor (t : Int) (A B : Option Addr) (na ca nb cb : Nat) (asks issue : List Int) (u : Int) (w : World) (ha : Row w A na ca asks) (hb : Row w B nb cb issue) :
    Calls Tryd.prog 6 #[.int .i64 t, .slice A na ca, .slice B nb cb, .int .i64 u] w (PForPost (planForB t asks issue u) w) := by
  have HA := Lib.hid ha
  have HB := Lib.hid hb
  obtain ⟨b, HOK⟩ : ∃ b, Hid (ok7 t asks issue u = b) := ⟨_, rfl⟩
  have hD : ∀ q, Below w.heap.size w (w.drewN q) := fun q => bel_drewN (Below.refl _ _) q
  have HD := Lib.hid hD
  unfold planForB asksNeededI
  rw [HOK.out]
  clear ha hb hD
  cases b
  · have hneg : ¬ (0 : Int) ≤ (if false = true then needs asks issue u else -1) := by rw [if_neg (by decide)]; omega
    rw [if_neg hneg]
    show Calls _ _ _ _ (fun e w' => e = .returned (.tuple #[.string ⟨#[]⟩, .bool false]) ∧ Below w.heap.size w w')
    go_enter Tryd.func6, Tryd.ntmps6
    go_wp2_with fail
    refine (iAskingOk_is HOK HA.out HB.out).mono ?_
    rintro e w' ⟨rfl, q, rfl⟩
    go_wp2_with fail
    go_ret2
    exact ⟨rfl, HD.out _⟩
  · obtain ⟨hr, hi, hu0, hu, hl5, _⟩ := ok7_parts HOK.out
    rw [if_pos rfl]
    obtain ⟨n, HN⟩ : ∃ n, Hid (needs asks issue u = n) := ⟨_, rfl⟩
    have hnr := needs_range asks issue hu0
    rw [HN.out] at hnr ⊢
    have HR := Lib.hid hr
    have HI := Lib.hid hi
    clear hr hi
    by_cases h0 : 0 ≤ n
    · rw [if_pos h0]
      show Calls _ _ _ _ (fun e w' => e = .returned (.tuple #[.string (planB (planI asks issue 5 u)), .bool true]) ∧ Below w.heap.size w w')
      obtain ⟨res, HRES⟩ : ∃ r, Hid (planB (planI asks issue 5 u) = r) := ⟨_, rfl⟩
      rw [HRES.out]
      have hd : decide (n < (0 : Int)) = false := decide_eq_false (by omega)
      go_enter Tryd.func6, Tryd.ntmps6
      go_wp2_with fail
      refine (iAskingOk_is HOK HA.out HB.out).mono ?_
      rintro e w1 ⟨rfl, q, rfl⟩
      have HM := Lib.hid (iMakeCount A B na ca nb cb asks issue (w.drewN q) (HA.out.hA.drewN q) (HB.out.hA.drewN q) (row_block (HA.out.drewN q)) (row_block (HB.out.drewN q)))
      go_wp2_with fail
      refine HM.out.mono ?_
      rintro e w2 ⟨bI, bR, bA, bF, bM, rfl, hids, hcnt⟩
      have HALL : Hid (∀ x, 0 ≤ x → x < 256 → NeedAt (Cnt (needs asks issue) asks issue A B na ca nb cb bI bR bA bF bM (w.drewN q).heap.size (w.drewN q)) (needs asks issue) (.pointer (some ⟨bI, 0, none⟩)) (.pointer (some ⟨bR, 0, none⟩)) (.pointer (some ⟨bA, 0, none⟩)) (.pointer (some ⟨bF, 0, none⟩)) x) := (fun x hx0 hx => iNeedAt hids HA.out.hn hl5 HB.out.hn HB.out.hl HR.out HI.out (fun W h => h.size) 256 x hx0 hx (by omega))
      have HC := Lib.hid ((HALL.out u hu0 hu).call HN hcnt)
      clear hids hcnt
      go_wp2_with fail
      refine HC.out.mono ?_
      rintro e w3 ⟨rfl, hc3⟩
      have HT := Lib.hid (iPlanText (P := Cnt (needs asks issue) asks issue A B na ca nb cb bI bR bA bF bM (w.drewN q).heap.size (w.drewN q)) (A := A) (na := na) (ca := ca) (issue := issue) (fun W m h => Cnt.drewN h m) (fun W h => h.ra) HA.out.hn hl5 HR.out HALL.out 5 (by omega) u hu0 hu (by rw [HN.out]; exact h0) (by rw [HN.out]; omega) _ hc3)
      rw [HRES.out] at HT
      clear hc3
      go_wp2_with fail
      refine HT.out.mono ?_
      rintro e w4 ⟨rfl, hc4⟩
      have HB4 : Hid (Below w.heap.size w w4) := bel_trans (HD.out q) hc4.hb
      clear hc4
      go_wp2_with fail
      go_ret2
      exact ⟨rfl, HB4.out⟩
    · rw [if_neg h0]
      show Calls _ _ _ _ (fun e w' => e = .returned (.tuple #[.string ⟨#[]⟩, .bool false]) ∧ Below w.heap.size w w')
      have hd : decide (n < (0 : Int)) = true := decide_eq_true (by omega)
      go_enter Tryd.func6, Tryd.ntmps6
      go_wp2_with fail
      refine (iAskingOk_is HOK HA.out HB.out).mono ?_
      rintro e w1 ⟨rfl, q, rfl⟩
      have HM := Lib.hid (iMakeCount A B na ca nb cb asks issue (w.drewN q) (HA.out.hA.drewN q) (HB.out.hA.drewN q) (row_block (HA.out.drewN q)) (row_block (HB.out.drewN q)))
      go_wp2_with fail
      refine HM.out.mono ?_
      rintro e w2 ⟨bI, bR, bA, bF, bM, rfl, hids, hcnt⟩
      have HC := Lib.hid ((iNeedAt hids HA.out.hn hl5 HB.out.hn HB.out.hl HR.out HI.out (fun W h => h.size) 256 u hu0 hu (by omega)).call HN hcnt)
      clear hids hcnt
      go_wp2_with fail
      refine HC.out.mono ?_
      rintro e w3 ⟨rfl, hc3⟩
      have HB3 : Hid (Below w.heap.size w w3) := bel_trans (HD.out q) hc3.hb
      clear hc3
      go_wp2_with fail
      go_ret2
      exact ⟨rfl, HB3.out⟩
end Go.Proofs.YtpjpbemgjniljaaDoor
