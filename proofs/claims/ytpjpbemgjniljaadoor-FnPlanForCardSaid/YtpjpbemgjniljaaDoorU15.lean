/-
  What the proofs of this seat's statements share (PlnS, PlnT, PlnU, PlnV, PlnW, PlnX, PlnY, NeedM, AskT, QstA).
-/
import Derived.Test.YtpjpbemgjniljaaDoorU14
import Derived.Test.YtpjpbemgjniljaaDoorU7
import Derived.Test.YtpjpbemgjniljaaDoorU11
import Derived.Test.YtpjpbemgjniljaaDoorU4

namespace Go.Proofs.YtpjpbemgjniljaaDoor
open Go.RowKit

def ok7 (t : Int) (asks issue : List Int) (s : Int) : Bool := asks.all (setOkB t) && decide (asks.length ≤ 5) && issueOkB t issue && setOkB t s
theorem all_next {t x : Int} {xs : List Int} {k : Nat} (hx : Hid (xs[k]? = some x)) : (xs.take (k + 1)).all (setOkB t) = ((xs.take k).all (setOkB t) && setOkB t x) := by rw [take_snoc hx, List.all_append]; simp
set_option maxRecDepth 100000 in
set_option maxHeartbeats 4000000 in
theorem sOk7 (t : Int) (A B : Option Addr) (na ca nb cb : Nat) (asks issue : List Int) (s : Int) (w : World) (ha : Row w A na ca asks) (hb : Row w B nb cb issue) :
    Calls Tryd.prog 36 #[.int .i64 t, .slice A na ca, .slice B nb cb, .int .i64 s] w fun e w' => e = .returned (.bool (ok7 t asks issue s)) ∧ ∃ n, w' = w.drewN n := by
  have HA := Lib.hid ha
  have HB := Lib.hid hb
  obtain rfl := ha.hn
  have hla := ha.hl
  clear ha hb
  obtain ⟨res, HRES⟩ : ∃ r, Hid (ok7 t asks issue s = r) := ⟨_, rfl⟩
  rw [HRES.out]
  have HNO : Hid (∀ x, x ∈ asks → Hid (setOkB t x = false) → Hid (res = false)) := fun x hx h => by
    unfold Hid
    rw [← HRES.out]
    unfold ok7
    have : asks.all (setOkB t) = false := by
      rw [List.all_eq_false]
      exact ⟨x, hx, by rw [h.out]; simp⟩
    rw [this]; rfl
  have HEND : Hid (asks.all (setOkB t) = true → Hid (res = (decide (asks.length ≤ 5) && issueOkB t issue && setOkB t s))) := fun h => by
    unfold Hid
    rw [← HRES.out]
    unfold ok7
    rw [h, Bool.true_and]
  go_enter Tryd.func36, Tryd.ntmps36
  go_wp2_with fail
  go_loopw [9] (fun i wr => ∃ k : Nat, k ≤ asks.length ∧ i = .int .i64 k ∧ Hid ((asks.take k).all (setOkB t) = true) ∧ ∃ q, wr = w.drewN q) (fun i _ => asks.length - (Go.RowKit.intOf i).toNat)
  case atStart => exact ⟨0, Nat.zero_le _, rfl, rfl, 0, rfl⟩
  case round =>
    obtain ⟨k, hk, rfl, hall, q0, rfl⟩ := hrel
    by_cases hlt : k < asks.length
    · obtain ⟨b, off, x, rfl, hcell, hx, _⟩ := HA.out.hA.elem hlt
      have hn := all_next (t := t) hx
      rw [hall.out, Bool.true_and] at hn
      obtain ⟨y, HY⟩ : ∃ y, Hid (setOkB t x = y) := ⟨_, rfl⟩
      rw [HY.out] at hn
      cases y
      · have HR := HNO.out x (elem_mem hx) HY
        clear hn
        go_wp2_with fail
        refine (sSetOk_is HY _).mono ?_
        rintro e w' ⟨rfl, rfl⟩
        go_wp2_with fail
        go_ret
        exact ⟨ret_bool HR.out.symm, _, by first | rfl | rw [World.drewN_drewN]⟩
      · have HN := Lib.hid hn
        clear hn
        go_wp2_with fail
        refine (sSetOk_is HY _).mono ?_
        rintro e w' ⟨rfl, rfl⟩
        go_wp2_with fail
        go_roundw
        case rel => exact ⟨k + 1, by omega, by go_num, HN, _, rfl⟩
        case measure => simp [Go.RowKit.intOf]; omega
    · obtain rfl : k = asks.length := by omega
      have HE := HEND.out (by have h := hall.out; rw [List.take_length] at h; exact h)
      obtain ⟨b, HIB⟩ : ∃ b, Hid (issueOkB t issue = b) := ⟨_, rfl⟩
      obtain ⟨d, HID⟩ : ∃ d, Hid (setOkB t s = d) := ⟨_, rfl⟩
      have he := HE.out
      rw [HIB.out, HID.out] at he
      by_cases h5 : asks.length ≤ 5
      · rw [decide_eq_true h5, Bool.true_and] at he
        have hd5 : decide ((asks.length : Int) ≤ 5) = true := decide_eq_true (by omega)
        cases b
        · have HF : Hid (res = false) := he
          clear he
          go_wp2_with fail
          refine (sIssueOk_is HIB _ _ _ _ HB.out.hn HB.out.hl (HB.out.hA.drewN _)).mono ?_
          rintro e w' ⟨rfl, q, rfl⟩
          go_wp2_with fail
          go_ret
          exact ⟨ret_bool HF.out.symm, _, by first | rfl | rw [World.drewN_drewN]⟩
        · have HF : Hid (res = d) := by rw [Bool.true_and] at he; exact he
          clear he
          go_wp2_with fail
          refine (sIssueOk_is HIB _ _ _ _ HB.out.hn HB.out.hl (HB.out.hA.drewN _)).mono ?_
          rintro e w' ⟨rfl, q, rfl⟩
          go_wp2_with fail
          refine (sSetOk_is HID _).mono ?_
          rintro e w' ⟨rfl, rfl⟩
          go_wp2_with fail
          go_ret
          exact ⟨ret_bool HF.out.symm, _, by first | rfl | rw [World.drewN_drewN]⟩
      · rw [decide_eq_false h5, Bool.false_and, Bool.false_and] at he
        have hd5 : decide ((asks.length : Int) ≤ 5) = false := decide_eq_false (by omega)
        have HF : Hid (res = false) := he
        clear he
        go_wp2_with fail
        go_ret
        exact ⟨ret_bool HF.out.symm, _, by first | rfl | rw [World.drewN_drewN]⟩

/-- What following a plan at a place of a text tells. -/
def SWalk (s : ByteArray) (o : Option (Nat × List Nat)) (w : World) (e : Ending) (w' : World) : Prop :=
  match o with
  | some (d, rest) => ∃ a2 : Nat, e = .returned (.tuple #[.int .i64 d, .int .i64 a2]) ∧ a2 ≤ s.size ∧ (bytesN s).drop a2 = rest ∧ ∃ n, w' = w.drewN n
  | none => e = .returned (.tuple #[.int .i64 0, .int .i64 (-1)]) ∧ ∃ n, w' = w.drewN n
def SNo (w : World) (e : Ending) (w' : World) : Prop := e = .returned (.tuple #[.int .i64 0, .int .i64 (-1)]) ∧ ∃ n, w' = w.drewN n
def SYes (s : ByteArray) (d : Nat) (rest : List Nat) (w : World) (e : Ending) (w' : World) : Prop := ∃ a2 : Nat, e = .returned (.tuple #[.int .i64 d, .int .i64 a2]) ∧ a2 ≤ s.size ∧ (bytesN s).drop a2 = rest ∧ ∃ n, w' = w.drewN n
theorem andI_lt {a : Int} (q : Int) (h0 : 0 ≤ a) (h : a < 256) : 0 ≤ andI a q ∧ andI a q < 256 ∧ 0 ≤ a - andI a q ∧ a - andI a q < 256 := by
  unfold andI
  have hle : a.toNat &&& q.toNat ≤ a.toNat := Nat.and_le_left
  omega
section
variable {asks issue : List Int} {s : ByteArray} {f : Nat} {at_ : Nat} {u : Int} {A B : Option Addr} {na ca nb cb : Nat} {w : World}
end
end Go.Proofs.YtpjpbemgjniljaaDoor

namespace Go.Proofs.YtpjpbemgjniljaaDoor
open Go.RowKit

theorem sBoth_is7 {a b y : Int} (h : Hid (andI a b = y)) (ha : 0 ≤ a) (ha2 : a < 256) (hb : 0 ≤ b) (hb2 : b < 256) (w : World) :
    Calls Tryd.prog 39 #[.int .i64 a, .int .i64 b] w fun e w' => e = .returned (.int .i64 y) ∧ ∃ n, w' = w.drewN n := by
  have := sBothS a b ha ha2 hb hb2 w
  rw [h.out] at this; exact this
section
variable {asks issue : List Int} {s : ByteArray} {at_ : Nat} {u : Int} {A B : Option Addr} {na ca nb cb : Nat} {w : World}
end
end Go.Proofs.YtpjpbemgjniljaaDoor

namespace Go.Proofs.YtpjpbemgjniljaaDoor
open Go.RowKit

section
variable {asks issue : List Int} {s : ByteArray} {at_ : Nat} {u : Int} {A B : Option Addr} {na ca nb cb : Nat} {w : World}
end
end Go.Proofs.YtpjpbemgjniljaaDoor

namespace Go.Proofs.YtpjpbemgjniljaaDoor
open Go.RowKit

section
variable {asks issue : List Int} {s : ByteArray} {at_ : Nat} {u : Int} {A B : Option Addr} {na ca nb cb : Nat} {w : World}
end
end Go.Proofs.YtpjpbemgjniljaaDoor

namespace Go.Proofs.YtpjpbemgjniljaaDoor
open Go.RowKit

theorem walk_len (asks issue : List Int) : ∀ (f : Nat) (u : Int) (bs : List Nat) (d : Nat) (r : List Nat), walkR asks issue f u bs = some (d, r) → d ≤ bs.length ∧ r.length ≤ bs.length
  | 0, _, _, _, _, h => by cases h
  | _ + 1, _, [], _, _, h => by cases h
  | f + 1, u, b :: bs, d, r, h => by
    unfold walkR at h
    by_cases h46 : b = 46
    · rw [if_pos h46] at h
      by_cases ha : anyWithin u issue = true
      · rw [if_pos ha] at h; cases h; exact ⟨Nat.zero_le _, by simp⟩
      · rw [if_neg ha] at h; cases h
    · rw [if_neg h46] at h
      by_cases hb : 48 ≤ b ∧ b < 48 + asks.length
      · rw [if_pos hb, Option.bind_eq_some_iff] at h
        obtain ⟨r0, h0, h⟩ := h
        rw [Option.bind_eq_some_iff] at h
        obtain ⟨⟨d1, r1⟩, h1, h⟩ := h
        rw [Option.bind_eq_some_iff] at h
        obtain ⟨⟨d2, r2⟩, h2, h⟩ := h
        rw [Option.map_eq_some_iff] at h
        obtain ⟨r3, h3, h⟩ := h
        cases h
        have g1 := walk_len asks issue f _ _ _ _ h1
        have g2 := walk_len asks issue f _ _ _ _ h2
        have e0 := congrArg List.length (open_is h0)
        have e3 := congrArg List.length (shut_is h3)
        simp only [List.length_cons] at *
        omega
      · rw [if_neg hb] at h; cases h
end Go.Proofs.YtpjpbemgjniljaaDoor

namespace Go.Proofs.YtpjpbemgjniljaaDoor
open Go.RowKit

/-- What a plan asks: -1 if it is none. -/
def planAsksI (t : Int) (asks issue : List Int) (u : Int) (s : ByteArray) : Int :=
  if (ok7 t asks issue u && decide (s.size ≤ 60)) = true then
    match walkR asks issue (s.size + 1) u (bytesN s) with
    | some (d, []) => (d : Int)
    | _ => -1
  else -1
theorem sOk7_is {t : Int} {asks issue : List Int} {s : Int} {b : Bool} (h : Hid (ok7 t asks issue s = b)) {A B : Option Addr} {na ca nb cb : Nat} {w : World} (ha : Row w A na ca asks) (hb : Row w B nb cb issue) :
    Calls Tryd.prog 36 #[.int .i64 t, .slice A na ca, .slice B nb cb, .int .i64 s] w fun e w' => e = .returned (.bool b) ∧ ∃ n, w' = w.drewN n := by
  have := sOk7 t A B na ca nb cb asks issue s w ha hb
  rw [h.out] at this; exact this
theorem ok7_parts {t : Int} {asks issue : List Int} {s : Int} (h : ok7 t asks issue s = true) : (∀ q ∈ asks, 0 ≤ q ∧ q < 256) ∧ (∀ x ∈ issue, 0 ≤ x ∧ x < 256) ∧ 0 ≤ s ∧ s < 256 ∧ asks.length ≤ 5 ∧ issueOkB t issue = true ∧ setOkB t s = true := by
  unfold ok7 at h
  simp only [Bool.and_eq_true, decide_eq_true_eq, List.all_eq_true] at h
  obtain ⟨⟨⟨h1, h2⟩, h3⟩, h4⟩ := h
  have g := setOkB_lt h4
  exact ⟨fun q hq => ⟨(setOkB_lt (h1 q hq)).2.2.1, (setOkB_lt (h1 q hq)).2.2.2.2⟩, fun x hx => ⟨(setOkB_lt (issue_sets h3 x hx)).2.2.1, (setOkB_lt (issue_sets h3 x hx)).2.2.2.2⟩, g.2.2.1, g.2.2.2.2, h2, h3, h4⟩
end Go.Proofs.YtpjpbemgjniljaaDoor

namespace Go.Proofs.YtpjpbemgjniljaaDoor
open Go.RowKit

def SSkip (s : ByteArray) (at_ : Nat) (rest : List Nat) (w : World) (e : Ending) (w' : World) : Prop := ∃ a2 : Nat, e = .returned (.tuple #[.int .i64 at_, .int .i64 a2]) ∧ a2 ≤ s.size ∧ (bytesN s).drop a2 = rest ∧ ∃ n, w' = w.drewN n
theorem byte_at {s : ByteArray} {at_ c : Nat} {l : List Nat} (h : (bytesN s).drop at_ = c :: l) : ∃ hlt : at_ < s.size, s[at_].toNat = c ∧ (bytesN s).drop (at_ + 1) = l := by
  have hlt : at_ < s.size := by
    apply Classical.byContradiction
    intro hn
    rw [List.drop_eq_nil_of_le (by rw [bytesN_len]; omega)] at h
    cases h
  rw [bytesN_drop hlt] at h
  exact ⟨hlt, (List.cons.inj h).1, (List.cons.inj h).2⟩
end Go.Proofs.YtpjpbemgjniljaaDoor

namespace Go.Proofs.YtpjpbemgjniljaaDoor
open Go.RowKit

/-- How many questions are needed, with as many as may be at hand. -/
def needs (asks issue : List Int) (s : Int) : Int := needI asks issue 5 s
theorem needs_low {asks issue : List Int} (ha : asks.length ≤ 5) (l : Nat) {s : Int} (hs : 0 ≤ s) :
    needI asks issue l s = if 0 ≤ needs asks issue s ∧ needs asks issue s ≤ l then needs asks issue s else -1 := by
  unfold needs
  by_cases h : 0 ≤ needI asks issue 5 s ∧ needI asks issue 5 s ≤ l
  · rw [if_pos h]
    rcases (need_least asks issue 5 s hs).1 with h1 | ⟨_, _, h2⟩
    · omega
    · have h3 := (need_least asks issue l s hs).2 _ (by omega) h2
      rcases (need_least asks issue l s hs).1 with h4 | ⟨h5, h6, h7⟩
      · omega
      · have := need_plan (asks := asks) (issue := issue) (l := 5) hs ha h7
        omega
  · rw [if_neg h]
    rcases (need_least asks issue l s hs).1 with h4 | ⟨h5, h6, h7⟩
    · exact h4
    · have := need_plan (asks := asks) (issue := issue) (l := 5) hs ha h7
      omega
theorem needs_six {asks issue : List Int} (ha : asks.length ≤ 5) {s : Int} (hs : 0 ≤ s) : needI asks issue 6 s = needs asks issue s := by
  have h := needs_low (issue := issue) ha 6 hs
  rcases (need_least asks issue 5 s hs).1 with h1 | ⟨h0, h1, _⟩
  · have e : needs asks issue s = -1 := h1
    rw [e] at h ⊢
    rw [h]; rfl
  · have e0 : 0 ≤ needs asks issue s := h0
    have e1 : needs asks issue s ≤ 5 := h1
    rw [h, if_pos ⟨e0, by omega⟩]
theorem needs_eq {asks issue : List Int} (ha : asks.length ≤ 5) {s : Int} (hs : 0 ≤ s) :
    needs asks issue s = if anyWithin s issue = true then 0 else asks.foldl (leastOf (worthI (needs asks issue) s)) (-1) := by
  rw [← needs_six ha hs]
  rfl
theorem needs_range (asks issue : List Int) {s : Int} (hs : 0 ≤ s) : -1 ≤ needs asks issue s ∧ needs asks issue s ≤ 5 := by
  unfold needs
  rcases (need_least asks issue 5 s hs).1 with h | ⟨h1, h2, _⟩ <;> omega
theorem worth_range (asks issue : List Int) {s : Int} (q : Int) (hs : 0 ≤ s) : -1 ≤ worthI (needs asks issue) s q ∧ worthI (needs asks issue) s q ≤ 6 := by
  unfold worthI
  have h1 := needs_range asks issue (and_pos s q)
  have h2 := needs_range asks issue (s := s - andI s q) (sub_pos hs)
  split
  · omega
  · split
    · have : max (needs asks issue (andI s q)) (needs asks issue (s - andI s q)) ≤ 5 := Int.max_le.2 ⟨h1.2, h2.2⟩
      have := Int.le_max_left (needs asks issue (andI s q)) (needs asks issue (s - andI s q))
      omega
    · omega

/-- The first best one of the first ones of a list. -/
def BestOf (v : Int → Int) (asks : List Int) (k : Nat) (b l : Int) : Prop :=
  (b = -1 ∧ l = -1 ∧ ∀ i q, i < k → asks[i]? = some q → v q < 0) ∨
  (∃ (j : Nat) (q : Int), j < k ∧ b = j ∧ asks[j]? = some q ∧ l = v q ∧ 0 ≤ v q ∧ (∀ i p, i < j → asks[i]? = some p → v p < 0 ∨ v q < v p) ∧ ∀ i p, i < k → asks[i]? = some p → 0 ≤ v p → v q ≤ v p)
section
variable {v : Int → Int} {asks : List Int} {k : Nat} {b l q : Int}
theorem BestOf.start (v : Int → Int) (asks : List Int) : BestOf v asks 0 (-1) (-1) := .inl ⟨rfl, rfl, fun _ _ hi => absurd hi (Nat.not_lt_zero _)⟩
theorem BestOf.skip (h : BestOf v asks k b l) (hq : asks[k]? = some q) (hn : ¬ (0 ≤ v q ∧ (b < 0 ∨ v q < l))) : BestOf v asks (k + 1) b l := by
  rcases h with ⟨rfl, rfl, h⟩ | ⟨j, p, hj, rfl, hp, rfl, h0, h1, h2⟩
  · refine .inl ⟨rfl, rfl, fun i x hi hx => ?_⟩
    rcases Nat.lt_succ_iff_lt_or_eq.1 hi with hi | rfl
    · exact h i x hi hx
    · rw [hq] at hx; cases hx
      apply Classical.byContradiction; intro hc; apply hn; constructor <;> omega
  · refine .inr ⟨j, p, by omega, rfl, hp, rfl, h0, h1, fun i x hi hx hx0 => ?_⟩
    rcases Nat.lt_succ_iff_lt_or_eq.1 hi with hi | rfl
    · exact h2 i x hi hx hx0
    · rw [hq] at hx; cases hx
      apply Classical.byContradiction; intro hc; apply hn; constructor <;> omega
theorem BestOf.take (h : BestOf v asks k b l) (hq : asks[k]? = some q) (hy : 0 ≤ v q ∧ (b < 0 ∨ v q < l)) : BestOf v asks (k + 1) k (v q) := by
  refine .inr ⟨k, q, by omega, rfl, hq, rfl, hy.1, ?_, ?_⟩
  · rcases h with ⟨rfl, rfl, h⟩ | ⟨j, p, hj, rfl, hp, rfl, h0, h1, h2⟩
    · exact fun i x hi hx => .inl (h i x hi hx)
    · intro i x hi hx
      by_cases hx0 : v x < 0
      · exact .inl hx0
      · have := h2 i x hi hx (by omega)
        exact .inr (by omega)
  · intro i x hi hx hx0
    rcases Nat.lt_succ_iff_lt_or_eq.1 hi with hi | rfl
    · rcases h with ⟨rfl, rfl, h⟩ | ⟨j, p, hj, rfl, hp, rfl, h0, h1, h2⟩
      · have := h i x hi hx; omega
      · have := h2 i x hi hx hx0; omega
    · rw [hq] at hx; cases hx; exact Int.le_refl _
theorem BestOf.least (h : BestOf v asks asks.length b l) : l = asks.foldl (leastOf v) (-1) := by
  obtain ⟨f1, f2, _⟩ := least_fold v asks (-1)
  generalize asks.foldl (leastOf v) (-1) = r at *
  rcases h with ⟨rfl, rfl, h⟩ | ⟨j, p, hj, rfl, hp, rfl, h0, h1, h2⟩
  · rcases f1 with f1 | ⟨q, hq, f1, f3⟩
    · exact f1.symm
    · obtain ⟨i, hi, e⟩ := List.getElem_of_mem hq
      have := h i q hi (by rw [List.getElem?_eq_getElem hi, e])
      omega
  · have g := f2 p (List.mem_of_getElem? hp) h0
    rcases f1 with f1 | ⟨q, hq, f1, f3⟩
    · omega
    · obtain ⟨i, hi, e⟩ := List.getElem_of_mem hq
      have := h2 i q hi (by rw [List.getElem?_eq_getElem hi, e]) f3
      omega
theorem BestOf.range (h : BestOf v asks k b l) (hk : k ≤ asks.length) (hv : ∀ q, v q ≤ 6) : -1 ≤ b ∧ b < asks.length ∧ -1 ≤ l ∧ l ≤ 6 ∧ (b < 0 ↔ l < 0) := by
  rcases h with ⟨rfl, rfl, h⟩ | ⟨j, p, hj, rfl, hp, rfl, h0, h1, h2⟩
  · omega
  · have := hv p
    omega
theorem BestOf.first (h : BestOf v asks asks.length b l) (hl : 0 ≤ l) : ∃ j : Nat, b = j ∧ j < asks.length ∧ asks.findIdx? (fun q => decide (v q = l)) = some j := by
  rcases h with ⟨rfl, rfl, h⟩ | ⟨j, p, hj, rfl, hp, rfl, h0, h1, h2⟩
  · omega
  · refine ⟨j, rfl, hj, ?_⟩
    rw [List.findIdx?_eq_some_iff_getElem]
    obtain ⟨hj2, e⟩ := List.getElem?_eq_some_iff.1 hp
    refine ⟨hj2, by rw [e]; exact decide_eq_true rfl, fun i hi => ?_⟩
    have := h1 i _ hi (List.getElem?_eq_getElem (by omega))
    rw [Bool.not_eq_true, decide_eq_false_iff_not]
    omega
end
/-- The first best question is the one that the plan asks. -/
theorem best_first {asks issue : List Int} (ha : asks.length ≤ 5) {s b l : Int} (hs : 0 ≤ s) {m : Nat} (hn : anyWithin s issue = false) (h0 : 0 ≤ needs asks issue s) (hm : needs asks issue s ≤ m + 1)
    (h : BestOf (worthI (needs asks issue) s) asks asks.length b l) : ∃ j : Nat, b = j ∧ j < asks.length ∧ firstI asks issue m s = some j ∧ worthI (needs asks issue) s (asks.getD j 0) = needs asks issue s := by
  have hl : l = needs asks issue s := by
    rw [h.least, needs_eq ha hs, if_neg (by rw [hn]; decide)]
  subst hl
  obtain ⟨j, hb, hj, hf⟩ := h.first h0
  refine ⟨j, hb, hj, ?_, ?_⟩
  · unfold firstI
    rw [← hf]
    congr 1
    funext q
    refine decide_eq_decide.2 ?_
    have e1 : needI asks issue (m + 1) s = needs asks issue s := by
      rw [needs_low ha (m + 1) hs, if_pos ⟨h0, by omega⟩]
    rw [e1]
    have n0 : needs asks issue s ≠ 0 := fun e => by
      have := (need_none (asks := asks) (issue := issue) (l := 5) hs).1 e
      rw [hn] at this; cases this
    unfold worthI
    by_cases hz : andI s q = 0 ∨ andI s q = s
    · rw [if_pos hz, if_pos hz]
    · rw [if_neg hz, if_neg hz, needs_low ha m (and_pos s q), needs_low ha m (s := s - andI s q) (sub_pos hs)]
      generalize needs asks issue (andI s q) = a
      generalize needs asks issue (s - andI s q) = c
      generalize needs asks issue s = n at *
      by_cases ga : 0 ≤ a ∧ a ≤ m
      · rw [if_pos ga]
        by_cases gc : 0 ≤ c ∧ c ≤ m
        · rw [if_pos gc]
        · rw [if_neg gc, if_neg (by omega)]
          by_cases gg : 0 ≤ a ∧ 0 ≤ c
          · rw [if_pos gg]
            have := Int.le_max_right a c
            omega
          · rw [if_neg gg]
      · rw [if_neg ga, if_neg (by omega)]
        by_cases gg : 0 ≤ a ∧ 0 ≤ c
        · rw [if_pos gg]
          have := Int.le_max_left a c
          omega
        · rw [if_neg gg]
  · obtain ⟨hj2, hp, _⟩ := List.findIdx?_eq_some_iff_getElem.1 hf
    rw [decide_eq_true_eq] at hp
    rw [List.getD_eq_getElem?_getD, List.getElem?_eq_getElem hj2]
    exact hp
theorem worth_parts {f : Int → Int} {s q n : Int} (h : worthI f s q = n) (hn : 0 ≤ n) : andI s q ≠ 0 ∧ andI s q ≠ s ∧ 0 ≤ f (andI s q) ∧ 0 ≤ f (s - andI s q) ∧ f (andI s q) + 1 ≤ n ∧ f (s - andI s q) + 1 ≤ n := by
  unfold worthI at h
  by_cases hz : andI s q = 0 ∨ andI s q = s
  · rw [if_pos hz] at h; omega
  · rw [if_neg hz] at h
    by_cases g : 0 ≤ f (andI s q) ∧ 0 ≤ f (s - andI s q)
    · rw [if_pos g] at h
      have := Int.le_max_left (f (andI s q)) (f (s - andI s q))
      have := Int.le_max_right (f (andI s q)) (f (s - andI s q))
      refine ⟨fun e => hz (.inl e), fun e => hz (.inr e), g.1, g.2, by omega, by omega⟩
    · rw [if_neg g] at h; omega
end Go.Proofs.YtpjpbemgjniljaaDoor

namespace Go.Proofs.YtpjpbemgjniljaaDoor
open Go.RowKit

def Needs7 (asks issue : List Int) (l : Nat) : Prop := ∀ (A B : Option Addr) (na ca nb cb : Nat) (u : Int) (w : World), Row w A na ca asks → Row w B nb cb issue → 0 ≤ u → u < 256 →
  Calls Tryd.prog 37 #[.slice A na ca, .slice B nb cb, .int .i64 u, .int .i64 l] w fun e w' => e = .returned (.int .i64 (needI asks issue l u)) ∧ ∃ n, w' = w.drewN n
section
variable {asks issue : List Int} {l : Nat} {u : Int} {A B : Option Addr} {na ca nb cb : Nat} {w : World}
theorem needs7_is (h : Needs7 asks issue l) {v : Int} (hv : Hid (needI asks issue l u = v)) (ha : Row w A na ca asks) (hb : Row w B nb cb issue) (hu0 : 0 ≤ u) (hu : u < 256) :
    Calls Tryd.prog 37 #[.slice A na ca, .slice B nb cb, .int .i64 u, .int .i64 l] w fun e w' => e = .returned (.int .i64 v) ∧ ∃ n, w' = w.drewN n := by
  have := h A B na ca nb cb u w ha hb hu0 hu
  rw [hv.out] at this; exact this
set_option maxRecDepth 100000 in
set_option maxHeartbeats 4000000 in
theorem sNeed_settled (hb : Row w B nb cb issue) (hi : ∀ x ∈ issue, 0 ≤ x ∧ x < 256) (hu0 : 0 ≤ u) (hu : u < 256) (h : Hid (anyWithin u issue = true)) :
    Calls Tryd.prog 37 #[.slice A na ca, .slice B nb cb, .int .i64 u, .int .i64 l] w fun e w' => e = .returned (.int .i64 0) ∧ ∃ n, w' = w.drewN n := by
  have HB := Lib.hid hb
  have HI := Lib.hid hi
  clear hb hi
  go_enter Tryd.func37, Tryd.ntmps37
  go_wp2_with fail
  refine (sL2Settles_is h _ _ _ _ HB.out.hn hu0 hu HI.out HB.out.hl HB.out.hA).mono ?_
  rintro e w' ⟨rfl, q, rfl⟩
  go_wp2_with fail
  go_ret
  exact ⟨rfl, _, rfl⟩
set_option maxRecDepth 100000 in
set_option maxHeartbeats 4000000 in
theorem sNeed_none (ha : Row w A na ca asks) (hb : Row w B nb cb issue) (hi : ∀ x ∈ issue, 0 ≤ x ∧ x < 256) (hu0 : 0 ≤ u) (hu : u < 256) (h : Hid (anyWithin u issue = false)) :
    Calls Tryd.prog 37 #[.slice A na ca, .slice B nb cb, .int .i64 u, .int .i64 0] w fun e w' => e = .returned (.int .i64 (-1)) ∧ ∃ n, w' = w.drewN n := by
  have HB := Lib.hid hb
  have HI := Lib.hid hi
  obtain rfl := ha.hn
  have hla := ha.hl
  clear hb hi ha
  by_cases hz : asks.length = 0
  · have hd : decide ((0 : Int) < (asks.length : Int)) = false := decide_eq_false (by omega)
    go_enter Tryd.func37, Tryd.ntmps37
    go_wp2_with fail
    refine (sL2Settles_is h _ _ _ _ HB.out.hn hu0 hu HI.out HB.out.hl HB.out.hA).mono ?_
    rintro e w' ⟨rfl, q, rfl⟩
    go_wp2_with fail
    go_loopw [9, 10] (fun b i wr => i = .int .i64 0 ∧ b = .int .i64 (-1) ∧ ∃ q, wr = w.drewN q) (fun _ _ _ => 0)
    case atStart => exact ⟨rfl, rfl, _, rfl⟩
    case round =>
      obtain ⟨rfl, rfl, q1, rfl⟩ := hrel
      go_wp2_with fail
      go_ret
      exact ⟨rfl, _, rfl⟩
  · have hd : decide ((0 : Int) < (asks.length : Int)) = true := decide_eq_true (by omega)
    go_enter Tryd.func37, Tryd.ntmps37
    go_wp2_with fail
    refine (sL2Settles_is h _ _ _ _ HB.out.hn hu0 hu HI.out HB.out.hl HB.out.hA).mono ?_
    rintro e w' ⟨rfl, q, rfl⟩
    go_wp2_with fail
    go_loopw [9, 10] (fun b i wr => i = .int .i64 0 ∧ b = .int .i64 (-1) ∧ ∃ q, wr = w.drewN q) (fun _ _ _ => 0)
    case atStart => exact ⟨rfl, rfl, _, rfl⟩
    case round =>
      obtain ⟨rfl, rfl, q1, rfl⟩ := hrel
      go_wp2_with fail
      go_ret
      exact ⟨rfl, _, rfl⟩
set_option maxRecDepth 100000 in
set_option maxHeartbeats 8000000 in
theorem sNeed_more (hl5 : l ≤ 5) (ih : Needs7 asks issue l) (hr : ∀ q ∈ asks, 0 ≤ q ∧ q < 256) (ha : Row w A na ca asks) (hb : Row w B nb cb issue) (hi : ∀ x ∈ issue, 0 ≤ x ∧ x < 256) (hu0 : 0 ≤ u) (hu : u < 256) (h : Hid (anyWithin u issue = false)) :
    Calls Tryd.prog 37 #[.slice A na ca, .slice B nb cb, .int .i64 u, .int .i64 ((l + 1 : Nat) : Int)] w fun e w' => e = .returned (.int .i64 (needI asks issue (l + 1) u)) ∧ ∃ n, w' = w.drewN n := by
  have HA := Lib.hid ha
  have HB := Lib.hid hb
  have HI := Lib.hid hi
  have HIH := Lib.hid ih
  have HRQ := Lib.hid hr
  obtain rfl := ha.hn
  have hla := ha.hl
  have hll : ((l + 1 : Nat) : Int) = (l : Int) + 1 := by omega
  rw [hll]
  obtain ⟨res, HRES⟩ : ∃ r, Hid (needI asks issue (l + 1) u = r) := ⟨_, rfl⟩
  rw [HRES.out]
  have HEND : Hid (bestTo asks issue l u asks.length = res) := by
    unfold Hid
    rw [← HRES.out]
    show _ = (if anyWithin u issue = true then (0 : Int) else _)
    rw [if_neg (by rw [h.out]; decide)]
    unfold bestTo
    rw [List.take_length]
  have HRG : Hid (∀ k, -1 ≤ bestTo asks issue l u k ∧ bestTo asks issue l u k ≤ 6) := fun k => by have := best_range asks issue l u k hu0; omega
  have HNX : Hid (∀ k q, Hid (asks[k]? = some q) → bestTo asks issue l u (k + 1) = leastOf (worthI (needI asks issue l) u) (bestTo asks issue l u k) q) := fun k q hq => bestTo_next hq
  have HST : Hid (bestTo asks issue l u 0 = -1) := rfl
  have HNR : Hid (∀ s, 0 ≤ s → -1 ≤ needI asks issue l s ∧ needI asks issue l s ≤ 5) := fun s hs => by have := need_range asks issue l s hs; omega
  have hd0 : decide ((0 : Int) < (l : Int) + 1) = true := decide_eq_true (by omega)
  clear hb hi ih hr ha hll HRES
  generalize hbt : bestTo asks issue l u = bt at *
  clear hbt
  go_enter Tryd.func37, Tryd.ntmps37
  go_wp2_with fail
  refine (sL2Settles_is h _ _ _ _ HB.out.hn hu0 hu HI.out HB.out.hl HB.out.hA).mono ?_
  rintro e w' ⟨rfl, q0, rfl⟩
  go_wp2_with fail
  go_loopw [9, 10] (fun b i wr => ∃ k : Nat, k ≤ asks.length ∧ i = .int .i64 k ∧ b = .int .i64 (bt k) ∧ ∃ q, wr = w.drewN q) (fun _ i _ => asks.length - (Go.RowKit.intOf i).toNat)
  case atStart => exact ⟨0, Nat.zero_le _, rfl, by rw [HST.out], _, rfl⟩
  case round =>
    obtain ⟨k, hk, rfl, rfl, q1, rfl⟩ := hrel
    by_cases hlt : k < asks.length
    · obtain ⟨b, off, x, rfl, hcell, hx, _⟩ := HA.out.hA.elem hlt
      obtain ⟨hx0, hx1⟩ := HRQ.out x (elem_mem hx)
      obtain ⟨y, HY⟩ : ∃ y, Hid (andI u x = y) := ⟨_, rfl⟩
      obtain ⟨hy0, hy1, hz0, hz1⟩ := andI_lt x hu0 hu
      rw [HY.out] at hy0 hy1 hz0 hz1
      have HN := Lib.hid (HNX.out k x hx)
      obtain ⟨nx, HNX2⟩ : ∃ nx, Hid (bt (k + 1) = nx) := ⟨_, rfl⟩
      rw [HNX2.out] at HN
      obtain ⟨bk, HBK⟩ : ∃ bk, Hid (bt k = bk) := ⟨_, rfl⟩
      have hbr := HRG.out k
      rw [HBK.out] at HN hbr ⊢
      by_cases hy : y = 0 ∨ y = u
      · have HNB : Hid (nx = bk) := by unfold Hid; rw [HN.out, least_skip HY hy]
        clear HN
        by_cases hyz : y = 0
        · subst hyz
          go_wp2_with fail
          refine (sBoth_is7 HY hu0 hu hx0 hx1 _).mono ?_
          rintro e w' ⟨rfl, q2, rfl⟩
          go_wp2_with fail
          go_roundw
          case rel => exact ⟨k + 1, by omega, by go_num, by rw [HNX2.out, HNB.out], _, by first | rfl | rw [World.drewN_drewN]⟩
          case measure => simp [Go.RowKit.intOf]; omega
        · obtain rfl : y = u := by rcases hy with h | h; exact absurd h hyz; exact h
          have e0 : (y == (0 : Int)) = false := by rw [beq_eq_false_iff_ne]; exact hyz
          clear hy
          go_wp2_with fail
          refine (sBoth_is7 HY hu0 hu hx0 hx1 _).mono ?_
          rintro e w' ⟨rfl, q2, rfl⟩
          go_wp2_with fail
          go_roundw
          case rel => exact ⟨k + 1, by omega, by go_num, by rw [HNX2.out, HNB.out], _, by first | rfl | rw [World.drewN_drewN]⟩
          case measure => simp [Go.RowKit.intOf]; omega
      · have hy0' : y ≠ 0 := fun e => hy (.inl e)
        have hyu : y ≠ u := fun e => hy (.inr e)
        have e0 : (y == (0 : Int)) = false := by rw [beq_eq_false_iff_ne]; exact hy0'
        have eu : (y == u) = false := by rw [beq_eq_false_iff_ne]; exact hyu
        obtain ⟨a1, HA1⟩ : ∃ a, Hid (needI asks issue l y = a) := ⟨_, rfl⟩
        obtain ⟨a2, HA2⟩ : ∃ a, Hid (needI asks issue l (u - y) = a) := ⟨_, rfl⟩
        have hr1 := HNR.out y hy0
        have hr2 := HNR.out (u - y) hz0
        rw [HA1.out] at hr1
        rw [HA2.out] at hr2
        clear hy
        by_cases hp : 0 ≤ a1 ∧ 0 ≤ a2
        · have HM : Hid (nx = if bk < 0 ∨ 1 + max a1 a2 < bk then 1 + max a1 a2 else bk) := by
            unfold Hid
            rw [HN.out]
            exact least_take HY hy0' hyu HA1 HA2 rfl hp.1 hp.2
          have hq1 : decide ((0 : Int) ≤ a1) = true := decide_eq_true hp.1
          have hq2 : decide ((0 : Int) ≤ a2) = true := decide_eq_true hp.2
          clear HN hy0' hyu
          by_cases hb0 : bk < 0
          · have HNB : Hid (nx = 1 + max a1 a2) := by unfold Hid; rw [HM.out, if_pos (.inl hb0)]
            have hqb : decide (bk < (0 : Int)) = true := decide_eq_true hb0
            clear HM
            go_wp2_with fail
            refine (sBoth_is7 HY hu0 hu hx0 hx1 _).mono ?_
            rintro e w' ⟨rfl, q2, rfl⟩
            go_wp2_with fail
            refine (needs7_is HIH.out HA1 (HA.out.drewN _) (HB.out.drewN _) hy0 hy1).mono ?_
            rintro e w' ⟨rfl, q3, rfl⟩
            go_wp2_with fail
            refine (needs7_is HIH.out HA2 (HA.out.drewN _) (HB.out.drewN _) hz0 hz1).mono ?_
            rintro e w' ⟨rfl, q4, rfl⟩
            go_wp2_with fail
            all_goals
              go_roundw
              case rel => exact ⟨k + 1, by omega, by go_num, by (rw [HNX2.out, HNB.out]; try (congr 1; omega)), _, by first | rfl | rw [World.drewN_drewN]⟩
              case measure => simp [Go.RowKit.intOf]; omega
          · have hqb : decide (bk < (0 : Int)) = false := decide_eq_false hb0
            have HNB : Hid (nx = if 1 + max a1 a2 < bk then 1 + max a1 a2 else bk) := by
              unfold Hid; rw [HM.out]
              by_cases hh : 1 + max a1 a2 < bk
              · rw [if_pos hh, if_pos (.inr hh)]
              · rw [if_neg hh, if_neg (by omega)]
            clear HM
            go_wp2_with fail
            refine (sBoth_is7 HY hu0 hu hx0 hx1 _).mono ?_
            rintro e w' ⟨rfl, q2, rfl⟩
            go_wp2_with fail
            refine (needs7_is HIH.out HA1 (HA.out.drewN _) (HB.out.drewN _) hy0 hy1).mono ?_
            rintro e w' ⟨rfl, q3, rfl⟩
            go_wp2_with fail
            refine (needs7_is HIH.out HA2 (HA.out.drewN _) (HB.out.drewN _) hz0 hz1).mono ?_
            rintro e w' ⟨rfl, q4, rfl⟩
            go_wp2_with fail
            all_goals
              go_roundw
              case rel => exact ⟨k + 1, by omega, by go_num, by (rw [HNX2.out, HNB.out]; congr 1; split <;> omega), _, by first | rfl | rw [World.drewN_drewN]⟩
              case measure => simp [Go.RowKit.intOf]; omega
        · have HNB : Hid (nx = bk) := by unfold Hid; rw [HN.out]; exact least_no HY hy0' hyu HA1 HA2 hp
          clear HN hy0' hyu
          by_cases hp1 : 0 ≤ a1
          · have hq1 : decide ((0 : Int) ≤ a1) = true := decide_eq_true hp1
            have hq2 : decide ((0 : Int) ≤ a2) = false := decide_eq_false (fun h => hp ⟨hp1, h⟩)
            clear hp
            go_wp2_with fail
            refine (sBoth_is7 HY hu0 hu hx0 hx1 _).mono ?_
            rintro e w' ⟨rfl, q2, rfl⟩
            go_wp2_with fail
            refine (needs7_is HIH.out HA1 (HA.out.drewN _) (HB.out.drewN _) hy0 hy1).mono ?_
            rintro e w' ⟨rfl, q3, rfl⟩
            go_wp2_with fail
            refine (needs7_is HIH.out HA2 (HA.out.drewN _) (HB.out.drewN _) hz0 hz1).mono ?_
            rintro e w' ⟨rfl, q4, rfl⟩
            go_wp2_with fail
            go_roundw
            case rel => exact ⟨k + 1, by omega, by go_num, by rw [HNX2.out, HNB.out], _, by first | rfl | rw [World.drewN_drewN]⟩
            case measure => simp [Go.RowKit.intOf]; omega
          · have hq1 : decide ((0 : Int) ≤ a1) = false := decide_eq_false hp1
            clear hp
            go_wp2_with fail
            refine (sBoth_is7 HY hu0 hu hx0 hx1 _).mono ?_
            rintro e w' ⟨rfl, q2, rfl⟩
            go_wp2_with fail
            refine (needs7_is HIH.out HA1 (HA.out.drewN _) (HB.out.drewN _) hy0 hy1).mono ?_
            rintro e w' ⟨rfl, q3, rfl⟩
            go_wp2_with fail
            refine (needs7_is HIH.out HA2 (HA.out.drewN _) (HB.out.drewN _) hz0 hz1).mono ?_
            rintro e w' ⟨rfl, q4, rfl⟩
            go_wp2_with fail
            go_roundw
            case rel => exact ⟨k + 1, by omega, by go_num, by rw [HNX2.out, HNB.out], _, by first | rfl | rw [World.drewN_drewN]⟩
            case measure => simp [Go.RowKit.intOf]; omega
    · obtain rfl : k = asks.length := by omega
      rw [HEND.out]
      go_wp2_with fail
      go_ret
      exact ⟨rfl, _, rfl⟩
end
theorem sNeed {asks issue : List Int} (hr : ∀ q ∈ asks, 0 ≤ q ∧ q < 256) (hi : ∀ x ∈ issue, 0 ≤ x ∧ x < 256) : ∀ l : Nat, l ≤ 6 → Needs7 asks issue l := by
  intro l
  induction l with
  | zero =>
    intro _ A B na ca nb cb u w ha hb hu0 hu
    unfold needI
    rcases h : anyWithin u issue with _ | _
    · rw [if_neg (by decide)]; exact sNeed_none ha hb hi hu0 hu h
    · rw [if_pos rfl]; exact sNeed_settled hb hi hu0 hu h
  | succ l ih =>
    intro hl A B na ca nb cb u w ha hb hu0 hu
    rcases h : anyWithin u issue with _ | _
    · exact sNeed_more (by omega) (ih (by omega)) hr ha hb hi hu0 hu h
    · unfold needI; rw [if_pos h]; exact sNeed_settled hb hi hu0 hu h
/-- How many questions are needed: -1 if there is no such task. -/
def asksNeededI (t : Int) (asks issue : List Int) (u : Int) : Int := if ok7 t asks issue u = true then needs asks issue u else -1
set_option maxRecDepth 100000 in
set_option maxHeartbeats 4000000 in
theorem sAsksNeeded (t : Int) (A B : Option Addr) (na ca nb cb : Nat) (asks issue : List Int) (u : Int) (w : World) (ha : Row w A na ca asks) (hb : Row w B nb cb issue) :
    Calls Tryd.prog 18 #[.int .i64 t, .slice A na ca, .slice B nb cb, .int .i64 u] w fun e w' => e = .returned (.int .i64 (asksNeededI t asks issue u)) ∧ ∃ n, w' = w.drewN n := by
  have HA := Lib.hid ha
  have HB := Lib.hid hb
  obtain ⟨res, HRES⟩ : ∃ r, Hid (asksNeededI t asks issue u = r) := ⟨_, rfl⟩
  rw [HRES.out]
  obtain ⟨b, HOK⟩ : ∃ b, Hid (ok7 t asks issue u = b) := ⟨_, rfl⟩
  have hres := HRES.out
  unfold asksNeededI at hres
  rw [HOK.out] at hres
  clear ha hb HRES
  cases b
  · have HN : Hid (-1 = res) := hres
    clear hres
    go_enter Tryd.func18, Tryd.ntmps18
    go_wp2_with fail
    refine (sOk7_is HOK HA.out HB.out).mono ?_
    rintro e w' ⟨rfl, q, rfl⟩
    go_wp2_with fail
    go_ret
    exact ⟨ret_int HN.out, _, rfl⟩
  · obtain ⟨hr, hi, hu0, hu, _⟩ := ok7_parts HOK.out
    have HN : Hid (needI asks issue 5 u = res) := hres
    have HS := Lib.hid (sNeed hr hi 5 (by omega))
    clear hres hr hi
    go_enter Tryd.func18, Tryd.ntmps18
    go_wp2_with fail
    refine (sOk7_is HOK HA.out HB.out).mono ?_
    rintro e w' ⟨rfl, q, rfl⟩
    go_wp2_with fail
    refine (needs7_is HS.out HN (HA.out.drewN _) (HB.out.drewN _) hu0 hu).mono ?_
    rintro e w' ⟨rfl, q2, rfl⟩
    go_wp2_with fail
    go_ret
    exact ⟨rfl, _, by first | rfl | rw [World.drewN_drewN]⟩
end Go.Proofs.YtpjpbemgjniljaaDoor

namespace Go.Proofs.YtpjpbemgjniljaaDoor
open Go.RowKit

abbrev AskAt (w : World) (b : Nat) (k : Nat) (q r : Option Addr) : Prop := w.heap[b]? = some (.cells #[.int .i64 k, .pointer q, .pointer r] 66 (0, 0))
theorem ask_cells {w : World} {b k : Nat} {q1 q2 : Option Addr} (h : AskAt w b k q1 q2) : w.cell? ⟨b, 0, none⟩ = some (.int .i64 k) ∧ w.cell? ⟨b, 1, none⟩ = some (.pointer q1) ∧ w.cell? ⟨b, 2, none⟩ = some (.pointer q2) ∧ b < w.heap.size := by
  refine ⟨?_, ?_, ?_, (Array.getElem?_eq_some_iff.1 h).1⟩ <;> simp [World.cell?, show w.heap[b]? = _ from h]
def QAt (w : World) (lo : Nat) : PlanT → Option Addr → Prop
  | .dot, p => p = none
  | .ask k a c, p => ∃ b q r, p = some ⟨b, 0, none⟩ ∧ lo ≤ b ∧ AskAt w b k q r ∧ QAt w lo a q ∧ QAt w lo c r
theorem QAt.keep {w w' : World} {lo : Nat} (hk : ∀ b, lo ≤ b → b < w.heap.size → w'.heap[b]? = w.heap[b]?) : ∀ (x : PlanT) (p : Option Addr), QAt w lo x p → QAt w' lo x p
  | .dot, _, h => h
  | .ask _ a c, _, ⟨b, q, r, hp, hl, hn, h, h2⟩ => ⟨b, q, r, hp, hl, (hk b hl (Array.getElem?_eq_some_iff.1 hn).1).trans hn, QAt.keep hk a q h, QAt.keep hk c r h2⟩
theorem QAt.below {w w' : World} {lo : Nat} {x : PlanT} {p : Option Addr} (h : QAt w lo x p) (hb : Below w.heap.size w w') : QAt w' lo x p :=
  QAt.keep (fun b _ hlt => hb.block b hlt) x p h
theorem QAt.grown {w w' : World} {lo R : Nat} {x : PlanT} {p : Option Addr} (h : QAt w lo x p) (hg : w.grownBy w' (some R)) (hR : R < lo) : QAt w' lo x p :=
  QAt.keep (fun b hl hlt => hg.block b hlt (fun e => by cases e; omega)) x p h
theorem QAt.low {w : World} {lo lo' : Nat} (hlo : lo' ≤ lo) : ∀ (x : PlanT) (p : Option Addr), QAt w lo x p → QAt w lo' x p
  | .dot, _, h => h
  | .ask _ a c, _, ⟨b, q, r, hp, hl, hn, h, h2⟩ => ⟨b, q, r, hp, by omega, hn, QAt.low hlo a q h, QAt.low hlo c r h2⟩
theorem QAt.drewN {w : World} {lo : Nat} {x : PlanT} {p : Option Addr} (h : QAt w lo x p) (n : Nat) : QAt (w.drewN n) lo x p := QAt.keep (w := w) (w' := w.drewN n) (fun _ _ _ => rfl) x p h
theorem QAt.set {w : World} {lo C : Nat} {x : PlanT} {p : Option Addr} (h : QAt w lo x p) (hC : C < lo) (v : Value) : QAt (w.setCell ⟨C, 0, none⟩ v) lo x p :=
  QAt.keep (fun b hl _ => Below.heap_setCell _ _ _ b (by show b ≠ C; omega)) x p h
end Go.Proofs.YtpjpbemgjniljaaDoor
