/-
  What the proofs of this seat's statements share (PartD, PartY, PartZ, BndA, BndB, BndC, MapA, MapB, MapC, KeyM, KeyI, RowL).
-/
import Derived.Deep.QuietTactic
import Derived.Deep.RegionHeld3
import Derived.Maps.OwnOps
import Derived.DeepKeys4
import Derived.WideKeyPair
import Derived.Maps.Views
import Derived.Carry
import Derived.Test.YtfmknllemhdnaaaU13
import Derived.Test.YtfmknllemhdnaaaU4
import Derived.Test.YtfmknllemhdnaaaU6
import Derived.Test.YtfmknllemhdnaaaU11
import Derived.Test.YtfmknllemhdnaaaU8
import Derived.Test.YtfmknllemhdnaaaU2
import Derived.Test.YtfmknllemhdnaaaU3

namespace Go.Proofs.Ytfmknllemhdnaaa
open Go.RowKit

def AskPost (g u : Nat) (w : World) (e : Ending) (w' : World) : Prop :=
  ∃ (v : Value) (xs : List Int), e = .returned v ∧ Owns w' w.heap.size v xs ∧ xs.length ≤ 257 ∧ Rd w' g u ∧ w.grownBy w' (some g)
def DrawA (w : World) (e : Ending) (w' : World) : Prop :=
  ∃ (t : Int) (v : Value) (xs : List Int), e = .returned (.tuple #[.int .i64 t, v]) ∧ -1 ≤ t ∧ t ≤ 4 ∧ Owns w' w.heap.size v xs ∧ xs.length ≤ 257 ∧ Below w.heap.size w w'
def DrawAA (w : World) (e : Ending) (w' : World) : Prop :=
  ∃ (t : Int) (v : Value) (xs : List Int) (v2 : Value) (ys : List Int), e = .returned (.tuple #[.int .i64 t, v, v2]) ∧ -1 ≤ t ∧ t ≤ 4 ∧ Owns w' w.heap.size v xs ∧ xs.length ≤ 257 ∧ Owns w' w.heap.size v2 ys ∧ ys.length ≤ 257 ∧ Below w.heap.size w w'
def DrawAU (w : World) (e : Ending) (w' : World) : Prop :=
  ∃ (t : Int) (v : Value) (xs : List Int) (u : Int), e = .returned (.tuple #[.int .i64 t, v, .int .i64 u]) ∧ -1 ≤ t ∧ t ≤ 4 ∧ Owns w' w.heap.size v xs ∧ xs.length ≤ 257 ∧ -1 ≤ u ∧ u ≤ 9 ∧ Below w.heap.size w w'
def DrawN (w : World) (e : Ending) (w' : World) : Prop := ∃ t : Int, e = .returned (.int .i64 t) ∧ 0 ≤ t ∧ t ≤ 4 ∧ Below w.heap.size w w'

theorem worlds_cases (t : Int) : worldsOf t = 2 ∨ worldsOf t = 4 ∨ worldsOf t = 8 ∨ worldsOf t = -1 := by
  by_cases h : 1 ≤ t ∧ t ≤ 3
  · have : t = 1 ∨ t = 2 ∨ t = 3 := by omega
    rcases this with rfl | rfl | rfl
    · exact .inl rfl
    · exact .inr (.inl rfl)
    · exact .inr (.inr (.inl rfl))
  · exact .inr (.inr (.inr (worldsOf_bad (by omega))))
set_option maxHeartbeats 1000000 in
theorem drawPartitionsOf_any (A : Option Addr) (nn c : Nat) (zs : List Int) (w : World) (hn : nn = zs.length) (hc : nn ≤ c) (hm : c ≤ maxLen) (hr : ∀ z ∈ zs, 0 ≤ z ∧ z ≤ 255) (hA : Nums .u8 w A zs) :
    Calls Try.prog 17 #[.slice A nn c] w (DrawN w) := by
  have HO := Lib.hid (open_any A nn c zs w hn hc hm hr hA)
  clear hn hc hm hr hA
  go_enter Try.func17, Try.ntmps17
  go_wp2_with fail
  refine HO.out.mono ?_
  rintro e w1 ⟨rfl, hrd, hb⟩
  have HR := Lib.hid hrd
  have HB := Lib.hid hb
  clear hrd hb
  go_wp2_with fail
  refine (pick_any _ _ _ _ (by omega) (by omega) (by omega) HR.out).mono ?_
  rintro e w4 ⟨k, rfl, hk0, hk1, _, hg⟩
  have hkk := hk1 (by omega)
  have HB4 := Lib.hid (below_grown HB.out hg HB.out.size (Nat.le_refl _))
  clear hg hk1
  go_wp2_with fail
  go_ret
  exact ⟨k, rfl, hk0, by omega, HB4.out⟩
end Go.Proofs.Ytfmknllemhdnaaa

namespace Go.Proofs.Ytfmknllemhdnaaa
open Go.RowKit

theorem lSame6 {xs ys : List Int} {b : Bool} (h : Hid (decide (xs = ys) = b)) {A B : Option Addr} {nn mm c d : Nat} {w : World} (hn : nn = xs.length) (hm : mm = ys.length) (hl : nn ≤ 1048576) (hl2 : mm ≤ 1048576) (hA : Nums .i64 w A xs) (hB : Nums .i64 w B ys) :
    Calls Try.prog 13 #[.slice A nn c, .slice B mm d] w fun e w' => e = .returned (.bool b) ∧ ∃ n, w' = w.drewN n :=
  (lSameInts A B nn mm c d xs ys w hn hm hl hl2 hA hB).mono fun _ _ ⟨he, hw⟩ => ⟨he.trans (ret_bool h.out), hw⟩
theorem asks_self {t : Int} {xs : List Int} (h : issueOkB t xs = true) : asksL t xs = tidyL (partsX t xs) := by
  have h70 := (issue_ne h).2
  obtain ⟨h1, h3⟩ := issue_things h
  exact asks_eq h1 h3 (issue_sets h) h70
/-- What AnswerIn tells: a set with the world in it; every world of it has the same answer. -/
theorem answer_some {t u : Int} {xs : List Int} (h : 0 ≤ answerI t xs u) : isPartB t xs = true ∧ 0 ≤ u ∧ u < worldsOf t ∧ answerI t xs u ∈ xs ∧ hasW (answerI t xs u) u.toNat = true := by
  by_cases hc : (isPartB t xs && decide (0 ≤ u ∧ u < worldsOf t)) = true
  · have hp := hc
    rw [Bool.and_eq_true, decide_eq_true_eq] at hp
    obtain ⟨k, rfl⟩ : ∃ k : Nat, u = k := ⟨u.toNat, by omega⟩
    have hk : k < nWorlds t := by unfold nWorlds; omega
    obtain ⟨y, hy, hyw, _⟩ := part_unique hp.1 hk
    have e : answerI t xs (k : Int) = (xs.find? fun x => hasW x k).getD (-1) := by unfold answerI; rw [if_pos hc, Int.toNat_natCast]
    rcases hq : (xs.find? fun x => hasW x k) with _ | x
    · rw [List.find?_eq_none] at hq; exact absurd hyw (hq y hy)
    · rw [hq] at e
      have e2 : answerI t xs (k : Int) = x := e
      refine ⟨hp.1, hp.2.1, hp.2.2, ?_, ?_⟩
      · rw [e2]; exact List.mem_of_find?_eq_some hq
      · rw [e2, Int.toNat_natCast]; have := List.find?_some hq; simpa using this
  · unfold answerI at h
    rw [if_neg hc] at h; omega
theorem answer_neg {t u : Int} {xs : List Int} (h : answerI t xs u < 0) : answerI t xs u = -1 := by
  by_cases hc : (isPartB t xs && decide (0 ≤ u ∧ u < worldsOf t)) = true
  · have hp := hc
    rw [Bool.and_eq_true, decide_eq_true_eq] at hp
    have e : answerI t xs u = (xs.find? fun x => hasW x u.toNat).getD (-1) := by unfold answerI; rw [if_pos hc]
    rcases hq : (xs.find? fun x => hasW x u.toNat) with _ | x
    · rw [hq] at e; exact e
    · rw [hq] at e
      have hx := (setOkB_lt (part_sets hp.1 x (List.mem_of_find?_eq_some hq))).2.2.1
      have e2 : answerI t xs u = x := e
      omega
  · unfold answerI; rw [if_neg hc]
theorem answer_same {t u : Int} {xs : List Int} (h : 0 ≤ answerI t xs u) {k : Nat} (hk : (k : Int) < worldsOf t) (hw : hasW (answerI t xs u) k = true) : answerI t xs k = answerI t xs u := by
  obtain ⟨hp, _, _, hm, _⟩ := answer_some h
  have hkn : k < nWorlds t := by unfold nWorlds; omega
  obtain ⟨y, hy, hyw, hu⟩ := part_unique hp hkn
  have hx : (xs.find? fun x => hasW x k) = some (answerI t xs u) := by
    rcases hq : (xs.find? fun x => hasW x k) with _ | x
    · rw [List.find?_eq_none] at hq; exact absurd hyw (hq y hy)
    · have h1 := hu x (List.mem_of_find?_eq_some hq) (by have := List.find?_some hq; simpa using this)
      have h2 := hu _ hm hw
      rw [h1, h2]
  generalize answerI t xs u = r at hx
  unfold answerI
  rw [hp, decide_eq_true (by omega), Int.toNat_natCast, hx]; rfl
end Go.Proofs.Ytfmknllemhdnaaa

namespace Go.Proofs.Ytfmknllemhdnaaa
open Go.RowKit

def wonTo (t : Int) (xs : List Int) (k : Nat) : List (List Int) := (xs.take k).map fun x => whetherL t [x]
theorem wonTo_next {t : Int} {xs : List Int} {k : Nat} {x : Int} (hx : Hid (xs[k]? = some x)) : wonTo t xs (k + 1) = wonTo t xs k ++ [whetherL t [x]] := by unfold wonTo; rw [take_snoc hx, List.map_append]; rfl
theorem wonTo_len (t : Int) (xs : List Int) (k : Nat) : (wonTo t xs k).length ≤ xs.length := by unfold wonTo; rw [List.length_map, List.length_take]; omega
def askTo (t : Int) (xs : List Int) (s : Int) (j : Nat) : Bool := (xs.take j).all fun x => settlesB t (whetherL t [x]) s
theorem askTo_next {t s : Int} {xs : List Int} {k : Nat} {x : Int} (hx : Hid (xs[k]? = some x)) : askTo t xs s (k + 1) = (askTo t xs s k && settlesB t (whetherL t [x]) s) := by unfold askTo; rw [take_snoc hx, List.all_append]; simp
theorem whether_len6 {t x : Int} (h : setOkB t x = true) : (whetherL t [x]).length ≤ 300 := by have := (issue_ne (whether_ok (issue_one h))).2; omega
theorem statement_one {t x : Int} (h : setOkB t x = true) : statementL t x = [x] := by unfold statementL; rw [h]; rfl
theorem lSameSelf {xs : List Int} {A B : Option Addr} {nn mm c d : Nat} {w : World} (hn : nn = xs.length) (hm : mm = xs.length) (hl : nn ≤ 1048576) (hl2 : mm ≤ 1048576) (hA : Nums .i64 w A xs) (hB : Nums .i64 w B xs) :
    Calls Try.prog 13 #[.slice A nn c, .slice B mm d] w fun e w' => e = .returned (.bool true) ∧ ∃ n, w' = w.drewN n := lSame6 (xs := xs) (ys := xs) (decide_eq_true rfl) hn hm hl hl2 hA hB
end Go.Proofs.Ytfmknllemhdnaaa

namespace Go.Proofs.Ytfmknllemhdnaaa
open Go.RowKit

theorem top_worlds {t : Int} (h1 : 1 ≤ t) (h3 : t ≤ 3) : worldsOf t = topT t + 1 := by
  have h : t = 1 ∨ t = 2 ∨ t = 3 := by omega
  rcases h with rfl | rfl | rfl <;> rfl
theorem thingsOk_bad {t f : Int} (h : t < 1 ∨ 3 < t ∨ f < 0) : thingsOk t f = false := decide_eq_false (by omega)
def BPost (b : Bool) (w : World) (e : Ending) (w' : World) : Prop := e = .returned (.bool b) ∧ Below w.heap.size w w'
theorem quiet_eq5 {P : Program} {f : FuncId} {args : Array Value} {w : World} {n : Nat} {v : Value} (h : Calls P f args (w.drewN n) fun e w' => e = .returned v ∧ w.drewN n = w') :
    Calls P f args (w.drewN n) fun e w'' => e = .returned v ∧ ∃ m, w'' = w.drewN m := h.mono fun _ _ ⟨he, hm⟩ => ⟨he, n, hm.symm⟩
/-- Two worlds tell the same of the things of f, but not of those of g. -/
def breaksB (v w : Nat) (f g : Int) : Bool := agreeB f v w && !agreeB g v w
theorem bits_xor (v w : Nat) (hv : v < 256) (hw : w < 256) : bits .xor .i64 (v : Int) (w : Int) = ((v ^^^ w : Nat) : Int) := by
  have hx : v ^^^ w < 2 ^ 8 := Nat.xor_lt_two_pow hv hw
  show IntKind.i64.wrap ((BitVec.ofInt 64 (v : Int) ^^^ BitVec.ofInt 64 (w : Int)).toNat : Int) = _
  rw [BitVec.toNat_xor, BitVec.ofInt_natCast, BitVec.ofInt_natCast, BitVec.toNat_ofNat, BitVec.toNat_ofNat, Nat.mod_eq_of_lt (by omega), Nat.mod_eq_of_lt (by omega), IntKind.wrap_i64]
  omega
theorem xor_and (v w f : Nat) : (v ^^^ w) &&& f = 0 ↔ v &&& f = w &&& f := by
  constructor
  · intro h
    apply Nat.eq_of_testBit_eq
    intro i
    have h2 := congrArg (fun x => x.testBit i) h
    simp only [Nat.testBit_and, Nat.testBit_xor, Nat.zero_testBit] at h2
    rw [Nat.testBit_and, Nat.testBit_and]
    revert h2
    cases v.testBit i <;> cases w.testBit i <;> cases f.testBit i <;> simp
  · intro h
    apply Nat.eq_of_testBit_eq
    intro i
    have h2 := congrArg (fun x => x.testBit i) h
    simp only [Nat.testBit_and] at h2
    rw [Nat.testBit_and, Nat.testBit_xor, Nat.zero_testBit]
    revert h2
    cases v.testBit i <;> cases w.testBit i <;> cases f.testBit i <;> simp
theorem and_agree {v w : Nat} {f : Int} (hv : v < 256) (hw : w < 256) (hf : 0 ≤ f) (hf2 : f < 256) : (bits .and .i64 ((v ^^^ w : Nat) : Int) f == 0) = agreeB f v w := by
  have hx : v ^^^ w < 2 ^ 8 := Nat.xor_lt_two_pow hv hw
  rw [bits_and _ f (by omega) (by omega) hf (by omega)]
  unfold agreeB andI
  rw [Bool.eq_iff_iff, beq_iff_eq, decide_eq_true_eq, Int.toNat_natCast, ← xor_and]
  omega
end Go.Proofs.Ytfmknllemhdnaaa

namespace Go.Proofs.Ytfmknllemhdnaaa
open Go.RowKit

/-- No pair of worlds of s so far breaks it: up to k, and of k up to j. -/
def HoldsTo (s f g : Int) (k j : Nat) : Prop := (∀ v u, v < k → u < v → (hasW s v && hasW s u && breaksB v u f g) = false) ∧ (∀ u, u < j → (hasW s k && hasW s u && breaksB k u f g) = false)
section
variable {s f g : Int} {k j : Nat}
theorem HoldsTo.start (s f g : Int) : HoldsTo s f g 0 0 := ⟨fun v u h => by omega, fun u h => by omega⟩
theorem HoldsTo.more (h : HoldsTo s f g k j) (hb : (hasW s k && hasW s j && breaksB k j f g) = false) : HoldsTo s f g k (j + 1) :=
  ⟨h.1, fun u hu => by
    by_cases e : u = j
    · subst e; exact hb
    · exact h.2 u (by omega)⟩
theorem HoldsTo.next (h : HoldsTo s f g k k) : HoldsTo s f g (k + 1) 0 :=
  ⟨fun v u hv hu => by
    by_cases e : v = k
    · subst e; exact h.2 u hu
    · exact h.1 v u (by omega) hu, fun u h => by omega⟩
end
def pairsB (t s f g : Int) : Bool := (List.range (nWorlds t)).all fun v => (List.range v).all fun w => !(hasW s v && hasW s w && agreeB f v w) || agreeB g v w
theorem holdsIn_eq (t s f g : Int) : holdsInB t s f g = (setOkB t s && bondOkB t f g && pairsB t s f g) := rfl
theorem pairs_one {s f g : Int} {v w : Nat} : (!(hasW s v && hasW s w && agreeB f v w) || agreeB g v w) = !(hasW s v && hasW s w && breaksB v w f g) := by
  unfold breaksB
  cases hasW s v <;> cases hasW s w <;> cases agreeB f v w <;> cases agreeB g v w <;> rfl
theorem pairs_end {t s f g : Int} (h : HoldsTo s f g (nWorlds t) 0) : pairsB t s f g = true := by
  unfold pairsB
  rw [List.all_eq_true]
  intro v hv
  rw [List.all_eq_true]
  intro w hw
  rw [pairs_one, h.1 v w (List.mem_range.1 hv) (List.mem_range.1 hw)]; rfl
theorem pairs_miss {t s f g : Int} {v w : Nat} (hv : v < nWorlds t) (hw : w < v) (h : (hasW s v && hasW s w && breaksB v w f g) = true) : pairsB t s f g = false := by
  unfold pairsB
  rw [List.all_eq_false]
  refine ⟨v, List.mem_range.2 hv, ?_⟩
  rw [Bool.not_eq_true, List.all_eq_false]
  exact ⟨w, List.mem_range.2 hw, by rw [pairs_one, h]; simp⟩
theorem two_within {v u : Nat} {s : Int} : withinB (orI (worldS v) (worldS u)) s = (hasW s v && hasW s u) := by
  rw [Bool.eq_iff_iff, Bool.and_eq_true, ← world_within, ← world_within]
  constructor
  · intro h
    exact ⟨within_trans (worldS_nonneg v) (orI_nonneg _ _) (within_or_left _ _ (worldS_nonneg v)) h, within_trans (worldS_nonneg u) (orI_nonneg _ _) (within_or_right _ _ (worldS_nonneg u)) h⟩
  · rintro ⟨h1, h2⟩
    exact or_within (worldS_nonneg v) (worldS_nonneg u) h1 h2
theorem wrap_pow5 {k : Nat} (h : k < 8) : wrap64 ((2 : Int) ^ k) = ((2 ^ k : Nat) : Int) := by
  have : 2 ^ k ≤ 2 ^ 7 := Nat.pow_le_pow_right (by omega) (by omega)
  have e : (2 : Int) ^ k = ((2 ^ k : Nat) : Int) := by push_cast; rfl
  rw [e]
  obtain ⟨p, hp⟩ : ∃ p, 2 ^ k = p := ⟨_, rfl⟩
  rw [hp] at this ⊢
  exact IntWalk.wrap64_in _ ⟨by omega, by omega⟩
theorem wrap_pow6 {k : Nat} (h : k < 8) : IntKind.i64.wrap ((2 : Int) ^ k) = ((2 ^ k : Nat) : Int) := by
  have : 2 ^ k ≤ 2 ^ 7 := Nat.pow_le_pow_right (by omega) (by omega)
  have e : (2 : Int) ^ k = ((2 ^ k : Nat) : Int) := by push_cast; rfl
  rw [e]
  obtain ⟨p, hp⟩ : ∃ p, 2 ^ k = p := ⟨_, rfl⟩
  rw [hp] at this ⊢
  exact IntWalk.i64_in _ (by omega)
theorem two_worlds {k j : Nat} (hk : k < 8) (hj : j < 8) : ∃ m : Int, bits .or .i64 (IntKind.i64.wrap ((2 : Int) ^ k)) (IntKind.i64.wrap ((2 : Int) ^ j)) = m ∧ 0 ≤ m ∧ m < 256 ∧ ∀ s, withinB m s = (hasW s k && hasW s j) := by
  have hp : 2 ^ k ≤ 2 ^ 7 := Nat.pow_le_pow_right (by omega) (by omega)
  have hq : 2 ^ j ≤ 2 ^ 7 := Nat.pow_le_pow_right (by omega) (by omega)
  have e1 := wrap_pow6 hk
  have e2 := wrap_pow6 hj
  rw [e1, e2]
  refine ⟨_, bits_or _ _ ?_ ?_ ?_ ?_, orI_nonneg _ _, orI_lt _ _ ?_ ?_, fun s => two_within (v := k) (u := j)⟩
  all_goals
    clear e1 e2
    generalize 2 ^ k = a at *
    generalize 2 ^ j = b at *
    omega
theorem iWithin_is5 {a b : Int} {v : Bool} (h : Hid (withinB a b = v)) (ha : 0 ≤ a) (ha2 : a < 1024) (hb : 0 ≤ b) (hb2 : b < 1024) (w : World) :
    Calls Try.prog 48 #[.int .i64 a, .int .i64 b] w fun e w' => e = .returned (.bool v) ∧ w = w' :=
  (iWithin a b ha ha2 hb hb2 w).mono fun _ _ ⟨he, hw⟩ => ⟨he.trans (ret_bool h.out), hw⟩
theorem worlds_n5 {t : Int} (h1 : 1 ≤ t) (h3 : t ≤ 3) : worldsOf t = (nWorlds t : Int) ∧ nWorlds t ≤ 8 := by
  have h : t = 1 ∨ t = 2 ∨ t = 3 := by omega
  rcases h with rfl | rfl | rfl <;> exact ⟨rfl, by decide⟩
/-- The cells of a dependence that lies in a variable. -/
theorem two_cells5 (w : World) (u v : Value) (t : TypeId) : (w.alloc (.cells #[u, v] t)).cell? ⟨w.heap.size, 0, none⟩ = some u ∧ (w.alloc (.cells #[u, v] t)).cell? ⟨w.heap.size, 1, none⟩ = some v :=
  ⟨cell_two_new w u v t 0 u rfl, cell_two_new w u v t 1 v rfl⟩
def BoxAt (W : World) (D : Nat) (f g : Int) : Prop := W.cell? ⟨D, 0, none⟩ = some (.int .i64 f) ∧ W.cell? ⟨D, 1, none⟩ = some (.int .i64 g) ∧ D < W.heap.size
theorem BoxAt.new (W : World) (f g : Int) (T : TypeId) : BoxAt (W.alloc (.cells #[.int .i64 f, .int .i64 g] T)) W.heap.size f g :=
  ⟨(two_cells5 W _ _ T).1, (two_cells5 W _ _ T).2, by rw [World.size_alloc]; exact Nat.lt_succ_self _⟩
theorem BoxAt.drew {W : World} {D : Nat} {f g : Int} (h : BoxAt W D f g) : BoxAt W.drew D f g := h
theorem BoxAt.below {W W' : World} {D : Nat} {f g : Int} (h : BoxAt W D f g) (hb : Below W.heap.size W W') : BoxAt W' D f g :=
  ⟨(hb.cell (p := ⟨D, 0, none⟩) h.2.2).trans h.1, (hb.cell (p := ⟨D, 1, none⟩) h.2.2).trans h.2.1, Nat.lt_of_lt_of_le h.2.2 hb.size⟩

end Go.Proofs.Ytfmknllemhdnaaa

namespace Go.Proofs.Ytfmknllemhdnaaa
open Go.RowKit

theorem has_one {m k : Nat} {b : Bool} (h : hasW (m : Int) k = b) : (((m : Int) / 2 ^ k).tmod 2 == 1) = b := by
  have e : (2 : Int) ^ k = ((2 ^ k : Nat) : Int) := by push_cast; rfl
  have e2 : hasW (m : Int) k = decide (m / 2 ^ k % 2 = 1) := by unfold hasW; rw [Int.toNat_natCast, Nat.testBit_eq_decide_div_mod_eq]
  rw [← h, e2, e, show ((m : Int) / ((2 ^ k : Nat) : Int)).tmod 2 = ((m / 2 ^ k % 2 : Nat) : Int) by rw [← Int.natCast_ediv]; rfl]
  rcases Nat.mod_two_eq_zero_or_one (m / 2 ^ k) with h | h <;> rw [h] <;> rfl
theorem and_same {v u : Nat} {f : Int} : (andI (v : Int) f == andI (u : Int) f) = agreeB f v u := by
  unfold agreeB andI
  rw [Bool.eq_iff_iff, beq_iff_eq, decide_eq_true_eq, Int.toNat_natCast, Int.toNat_natCast]
  omega
theorem sBoth5 {a b g : Int} (h : Hid (andI a b = g)) (ha : 0 ≤ a) (ha2 : a < 256) (hb : 0 ≤ b) (hb2 : b < 256) (w : World) :
    Calls Try.prog 52 #[.int .i64 a, .int .i64 b] w fun e w' => e = .returned (.int .i64 g) ∧ ∃ n, w' = w.drewN n := by
  have := sBothS a b ha ha2 hb hb2 w
  rw [h.out] at this; exact this

end Go.Proofs.Ytfmknllemhdnaaa

namespace Go.Proofs.Ytfmknllemhdnaaa
open Go.RowKit Go.Maps

theorem bond_laid : laidOutB Try.prog = true := by kernel_rfl
theorem bool_zero (w : World) : (zeroValue 4).run Try.prog w = .ok (.bool false) w := by kernel_rfl
def bondKey (f g : Int) : Lit := .string (keyBytes [.int .i64 f, .int .i64 g])
theorem plainElem_bool_inv {H : Type} {P : Program} {e : TypeId} (he : P.underlying e = some .bool) {v : Value} {x : DataW H × List MemPlace} (h : plainElem P e v = some x) : ∃ b : Bool, v = .bool b ∧ x = (.lit (.bool b), []) := by
  cases v <;> simp [plainElem, he] at h
  exact ⟨_, rfl, h.symm⟩
theorem wpList_lookup_own_bool {H : Type} {P : Program} (w : World) {ops : Array Oper} {rest : List Oper} {o : Oper} {a : Act} {Q : Exit → Act → World → Prop}
    (hg : o.guard = none) (m x : Operand) (t : TypeId) (hop : o.op = Op.lookup t m x false)
    (k e : TypeId) (K : Keyed P k) (ht : P.underlying t = some (.map k e)) (he : P.underlying e = some .bool) (hz : (zeroValue e).run P w = .ok (.bool false) w) (b n : Nat) (D : DataW H)
    (hm : a.eval m = .map (some b)) (hown : w.ownsMap P k (plainElem P e) b n D) (key : Value) (kl : Lit) (hx : a.eval x = key) (hkey : keyOf P k key = some kl)
    (hK : ∀ c : Bool, D.atKey kl (.lit (.bool false)) = .lit (.bool c) → wpList P ops Q rest (a.put o.dst (.bool c)) w) :
    wpList P ops Q (o :: rest) a w := by
  refine wpList_plain hg fun K' hK' => ?_
  obtain ⟨v, ps, hrun, hv⟩ := hown.lookup K ht hz (plainElem_bool he false) hkey
  obtain ⟨c, rfl, hc⟩ := plainElem_bool_inv he hv
  simp only [Prod.mk.injEq] at hc
  unfold Oper.wp
  simp [execOp, hop, hm, hx, hrun, Result.andThen]
  exact hK' _ _ (hK c hc.1)
theorem int_cells : Try.prog.cellsOf 3 = 1 := by kernel_rfl
end Go.Proofs.Ytfmknllemhdnaaa

namespace Go.Proofs.Ytfmknllemhdnaaa
open Go.RowKit Go.Maps

theorem wf_small {k : Nat} (h : k < 8) : (Lit.int .i64 (k : Int)).wf = true := WalkArith.wf_i64 (by omega)
/-- The map tells of all dependences so far whether they hold. -/
def HeldTo (t s : Int) (N : Nat) (D : DataW Unit) (k j : Nat) : Prop :=
  ∀ f g : Nat, f < N → g < N → D.atKey (bondKey f g) (.lit (.bool false)) = .lit (.bool (decide (f < k ∨ (f = k ∧ g < j)) && pairsB t s f g))
section
variable {t s : Int} {N k j : Nat} {D : DataW Unit}
theorem HeldTo.start (t s : Int) (N : Nat) : HeldTo t s N (.map []) 0 0 := fun f g _ _ => by
  rw [decide_eq_false (by omega)]; rfl
theorem HeldTo.skip (h : HeldTo t s N D k j) (hb : pairsB t s k j = false) : HeldTo t s N D k (j + 1) := fun f g hf hg => by
  rw [h f g hf hg]
  by_cases e : f = k ∧ g = j
  · obtain ⟨rfl, rfl⟩ := e
    rw [hb, Bool.and_false, Bool.and_false]
  · rw [show decide (f < k ∨ (f = k ∧ g < j)) = decide (f < k ∨ (f = k ∧ g < j + 1)) from decide_eq_decide.2 (by omega)]
theorem HeldTo.next (h : HeldTo t s N D k N) : HeldTo t s N D (k + 1) 0 := fun f g hf hg => by
  rw [h f g hf hg, show decide (f < k ∨ (f = k ∧ g < N)) = decide (f < k + 1 ∨ (f = k + 1 ∧ g < 0)) from decide_eq_decide.2 (by omega)]
theorem HeldTo.done (h : HeldTo t s N D N 0) {f g : Nat} (hf : f < N) (hg : g < N) : D.atKey (bondKey f g) (.lit (.bool false)) = .lit (.bool (pairsB t s f g)) := by
  rw [h f g hf hg, decide_eq_true (by omega), Bool.true_and]
end
end Go.Proofs.Ytfmknllemhdnaaa

namespace Go.Proofs.Ytfmknllemhdnaaa
open Go.RowKit Go.Maps

end Go.Proofs.Ytfmknllemhdnaaa

namespace Go.Proofs.Ytfmknllemhdnaaa

theorem key_under {t s : Int} : ∀ (n : Nat) (f : Int), f.toNat ≤ n → holdsInB t s f (topT t) = true → ∃ g, g ∈ keysL t s ∧ withinB g f = true
  | n, f, hn, h => by
    obtain ⟨hs, hb, _⟩ := holdsIn_iff.1 h
    have hb' := hb
    unfold bondOkB at hb'
    rw [Bool.and_eq_true] at hb'
    obtain ⟨h1, h3, h0, h7, _⟩ := thingsOk_of hb'.1
    cases hk : (List.range t.toNat).all fun k => !(f.toNat.testBit k && holdsInB t s (f - ((2 ^ k : Nat) : Int)) (topT t))
    · obtain ⟨k, _, hk2⟩ := List.all_eq_false.1 hk
      have hk2 : (f.toNat.testBit k && holdsInB t s (f - ((2 ^ k : Nat) : Int)) (topT t)) = true := by simpa using hk2
      rw [Bool.and_eq_true] at hk2
      have hge := Nat.ge_two_pow_of_testBit hk2.1
      have hp := Nat.two_pow_pos k
      cases n with
      | zero => omega
      | succ n =>
        obtain ⟨g, hg, hw⟩ := key_under n _ (by omega) hk2.2
        have hg0 := (thingsOk_of (key_of hg).1).2.2.1
        refine ⟨g, hg, (within_iff hg0).2 fun i hi => ?_⟩
        have := (within_iff hg0).1 hw i hi
        rw [show (f - ((2 ^ k : Nat) : Int)).toNat = f.toNat - 2 ^ k by omega, without_bit _ _ hk2.1, Bool.and_eq_true] at this
        exact this.1
    · exact ⟨f, mem_keys.2 ⟨hs, h0, h7, by unfold keyB; rw [h, hk]; rfl⟩, within_refl f h0⟩
def keysTo (t s : Int) (k : Nat) : List Int := ((List.range k).map fun n : Nat => (n : Int)).filter (keyB t s)
theorem keysTo_next (t s : Int) (k : Nat) : keysTo t s (k + 1) = keysTo t s k ++ (if keyB t s k = true then [(k : Int)] else []) := by
  unfold keysTo
  rw [List.range_succ, List.map_append, List.filter_append]
  congr 1
  simp only [List.map_cons, List.map_nil, List.filter_cons, List.filter_nil]
theorem keysTo_len (t s : Int) (k : Nat) : (keysTo t s k).length ≤ k := by
  unfold keysTo
  refine Nat.le_trans (List.length_filter_le _ _) ?_
  rw [List.length_map, List.length_range]; exact Nat.le_refl _
theorem keysTo_mem {t s : Int} {k : Nat} {g : Int} : g ∈ keysTo t s k ↔ 0 ≤ g ∧ g < k ∧ keyB t s g = true := by
  unfold keysTo
  rw [List.mem_filter, List.mem_map]
  constructor
  · rintro ⟨⟨n, hn, rfl⟩, hk⟩
    rw [List.mem_range] at hn
    exact ⟨by omega, by omega, hk⟩
  · rintro ⟨h0, h1, hk⟩
    exact ⟨⟨g.toNat, by rw [List.mem_range]; omega, by omega⟩, hk⟩
theorem key_iff {t s : Int} (hs : setOkB t s = true) {f : Nat} (hf : (f : Int) ≤ topT t) : keyB t s f = (holdsInB t s f (topT t) && (keysTo t s f).all fun g => !withinB g f) := by
  rcases hh : holdsInB t s f (topT t) with _ | _
  · unfold keyB; rw [hh]; rfl
  · rw [Bool.true_and, Bool.eq_iff_iff, List.all_eq_true]
    constructor
    · intro hk g hg
      obtain ⟨h0, h1, hkg⟩ := keysTo_mem.1 hg
      cases hw : withinB g (f : Int)
      · rfl
      · have := law_keys_apart (mem_keys.2 ⟨hs, h0, by omega, hkg⟩) (mem_keys.2 ⟨hs, by omega, hf, hk⟩) hw
        omega
    · intro h
      obtain ⟨g, hg, hw⟩ := key_under _ _ (Nat.le_refl _) hh
      obtain ⟨_, h0, _, hkg⟩ := mem_keys.1 hg
      have hle := within_le hw (by omega)
      by_cases e : g = f
      · rw [← e]; exact hkg
      · have := h g (keysTo_mem.2 ⟨h0, by omega, hkg⟩)
        rw [hw] at this; cases this
theorem keysTo_end {t s : Int} (hs : setOkB t s = true) : keysTo t s ((topT t).toNat + 1) = keysL t s := by unfold keysTo keysL; rw [if_pos hs]
end Go.Proofs.Ytfmknllemhdnaaa

namespace Go.Proofs.Ytfmknllemhdnaaa
open Go.RowKit Go.Maps

theorem apart_take {xs : List Int} {s x : Int} {k : Nat} (hx : Hid (xs[k]? = some x)) : ((xs.take (k + 1)).all fun g => !withinB g s) = (((xs.take k).all fun g => !withinB g s) && !withinB x s) := by
  rw [take_snoc hx, List.all_append]; simp
set_option maxRecDepth 100000 in
set_option maxHeartbeats 2000000 in
theorem iApart (s : Int) (A : Option Addr) (n c : Nat) (xs : List Int) (w : World) (hs : 0 ≤ s) (hs2 : s < 1024) (hr : ∀ x ∈ xs, 0 ≤ x ∧ x < 1024) (ha : Row w A n c xs) :
    Calls Try.prog 43 #[.slice A n c, .int .i64 s] w fun e w' => e = .returned (.bool (xs.all fun g => !withinB g s)) ∧ w = w' := by
  have HA := Lib.hid ha
  obtain rfl := ha.hn
  have hl := ha.hl
  have HR := Lib.hid hr
  obtain ⟨res, HRES⟩ : ∃ b, Hid ((xs.all fun g => !withinB g s) = b) := ⟨_, rfl⟩
  have HM : Hid (∀ x ∈ xs, withinB x s = true → res = false) := fun x hx hw => by
    rw [← HRES.out, List.all_eq_false]; exact ⟨x, hx, by rw [hw]; simp⟩
  rw [HRES.out]
  clear ha hr
  go_enter Try.func43, Try.ntmps43
  go_wp2_with fail
  go_loop [9] (fun i => ∃ k : Nat, k ≤ xs.length ∧ i = .int .i64 k ∧ Hid (((xs.take k).all fun g => !withinB g s) = true)) (fun i => xs.length - (Go.RowKit.intOf i).toNat)
  case atStart => exact ⟨0, Nat.zero_le _, rfl, rfl⟩
  case round =>
    obtain ⟨k, hk, rfl, hso⟩ := hrel
    by_cases hlt : k < xs.length
    · obtain ⟨bb, off, x, rfl, hcell, hx, _⟩ := HA.out.hA.elem hlt
      obtain ⟨hx0, hx1⟩ := HR.out x (elem_mem hx)
      rcases hw : withinB x s with _ | _
      · have HW := Lib.hid hw
        have HN : Hid (((xs.take (k + 1)).all fun g => !withinB g s) = true) := by unfold Hid; rw [apart_take hx, hso.out, hw]; rfl
        clear hw
        go_wp2_with fail
        refine (iWithin_is5 HW hx0 (by omega) hs (by omega) _).mono ?_
        rintro e w' ⟨rfl, rfl⟩
        go_wp2_with fail
        go_round
        case rel => exact ⟨k + 1, by omega, by go_num, HN⟩
        case measure => simp [Go.RowKit.intOf]; omega
      · have HW := Lib.hid hw
        have HF := Lib.hid (HM.out x (elem_mem hx) hw)
        clear hw
        go_wp2_with fail
        refine (iWithin_is5 HW hx0 (by omega) hs (by omega) _).mono ?_
        rintro e w' ⟨rfl, rfl⟩
        go_wp2_with fail
        go_ret
        exact ⟨ret_bool HF.out.symm, rfl⟩
    · obtain rfl : k = xs.length := by omega
      have HF : Hid (res = true) := by unfold Hid; rw [← HRES.out, ← hso.out, List.take_length]
      go_wp2_with fail
      go_ret
      exact ⟨ret_bool HF.out.symm, rfl⟩
theorem iApart_is {s : Int} {xs : List Int} {v : Bool} (h : Hid ((xs.all fun g => !withinB g s) = v)) {A : Option Addr} {n c : Nat} {w : World} (hs : 0 ≤ s) (hs2 : s < 1024) (hr : ∀ x ∈ xs, 0 ≤ x ∧ x < 1024) (ha : Row w A n c xs) :
    Calls Try.prog 43 #[.slice A n c, .int .i64 s] w fun e w' => e = .returned (.bool v) ∧ w = w' :=
  (iApart s A n c xs w hs hs2 hr ha).mono fun _ _ ⟨he, hw⟩ => ⟨he.trans (ret_bool h.out), hw⟩
def KeyPost (l : List Int) (w : World) (e : Ending) (w' : World) : Prop := ∃ v, e = .returned v ∧ Owns w' w.heap.size v l ∧ Below w.heap.size w w'
theorem bondOk_small {t : Int} {f g : Nat} (h1 : 1 ≤ t) (h3 : t ≤ 3) (hf : (f : Int) ≤ topT t) (hg : (g : Int) ≤ topT t) : bondOkB t f g = true := by
  unfold bondOkB thingsOk
  rw [decide_eq_true (by omega), decide_eq_true (by omega)]; rfl
end Go.Proofs.Ytfmknllemhdnaaa

namespace Go.Proofs.Ytfmknllemhdnaaa
open Go.RowKit

set_option maxRecDepth 100000 in
set_option maxHeartbeats 4000000 in
theorem lSameRows {A B : Option Addr} {n m c d b1 b2 : Nat} {vs us : List Value} {xss : List (List Int)} {w : World} (ha : OwnsR w b1 (.slice A n c) vs xss) (hb : OwnsR w b2 (.slice B m d) us xss) (hl : xss.length ≤ 1048576) :
    Calls Try.prog 9 #[.slice A n c, .slice B m d] w fun e w' => e = .returned (.bool true) ∧ ∃ q, w' = w.drewN q := by
  have HA := Lib.hid ha
  have HB := Lib.hid hb
  obtain rfl := ha.size_eq
  obtain rfl := hb.size_eq
  clear ha hb
  go_enter Try.func9, Try.ntmps9
  go_wp2_with fail
  go_loopw [5] (fun i wr => ∃ k : Nat, k ≤ xss.length ∧ i = .int .i64 k ∧ ∃ q, wr = w.drewN q) (fun i _ => xss.length - (Go.RowKit.intOf i).toNat)
  case atStart => exact ⟨0, Nat.zero_le _, rfl, 0, rfl⟩
  case round =>
    obtain ⟨k, hk, rfl, q, rfl⟩ := hrel
    by_cases hlt : k < xss.length
    · obtain ⟨g1, o1, A1, c1, x, rfl, hc1, hx, hr1, _, hx3, _⟩ := HA.out.elemO hlt
      obtain ⟨g2, o2, A2, c2, y, rfl, hc2, hy, hr2, _, _, _⟩ := HB.out.elemO hlt
      obtain rfl : y = x := by have h1 := hx.out; have h2 := hy.out; rw [h1] at h2; exact (Option.some.inj h2).symm
      go_wp2_with fail
      go_quiet ((go_at_call 13; exact quiet_more (lSameSelf (xs := y) rfl rfl (by omega) (by omega) (hr1.out.drewN _).hA (hr2.out.drewN _).hA)))
      go_wp2_with fail
      go_roundw
      case rel => exact ⟨k + 1, by omega, by go_num, _, by first | rfl | rw [World.drewN_drewN]⟩
      case measure => simp [Go.RowKit.intOf]; omega
    · obtain rfl : k = xss.length := by omega
      go_wp2_with fail
      go_ret
      exact ⟨rfl, _, rfl⟩
theorem lEqSelf {xs : List Int} {A B : Option Addr} {nn mm c d : Nat} {w : World} (hn : nn = xs.length) (hm : mm = xs.length) (hl : nn ≤ 1048576) (hl2 : mm ≤ 1048576) (hA : Nums .i64 w A xs) (hB : Nums .i64 w B xs) :
    Calls Try.prog 33 #[.slice A nn c, .slice B mm d] w fun e w' => e = .returned (.bool true) ∧ ∃ n, w' = w.drewN n :=
  (lEqIntS A B nn mm c d xs xs w hn hm hl hl2 hA hB).mono fun _ _ ⟨he, hw⟩ => ⟨he.trans (by simp), hw⟩
set_option maxRecDepth 100000 in
set_option maxHeartbeats 4000000 in
theorem lEqRows {A B : Option Addr} {n m c d b1 b2 : Nat} {vs us : List Value} {xss : List (List Int)} {w : World} (ha : OwnsR w b1 (.slice A n c) vs xss) (hb : OwnsR w b2 (.slice B m d) us xss) (hl : xss.length ≤ 1048576) :
    Calls Try.prog 14 #[.slice A n c, .slice B m d] w fun e w' => e = .returned (.bool true) ∧ ∃ q, w' = w.drewN q := by
  have HA := Lib.hid ha
  have HB := Lib.hid hb
  obtain rfl := ha.size_eq
  obtain rfl := hb.size_eq
  clear ha hb
  go_enter Try.func14, Try.ntmps14
  go_wp2_with fail
  go_loopw [5] (fun i wr => ∃ k : Nat, k ≤ xss.length ∧ i = .int .i64 k ∧ ∃ q, wr = w.drewN q) (fun i _ => xss.length - (Go.RowKit.intOf i).toNat)
  case atStart => exact ⟨0, Nat.zero_le _, rfl, 0, rfl⟩
  case round =>
    obtain ⟨k, hk, rfl, q, rfl⟩ := hrel
    by_cases hlt : k < xss.length
    · obtain ⟨g1, o1, A1, c1, x, rfl, hc1, hx, hr1, _, hx3, _⟩ := HA.out.elemO hlt
      obtain ⟨g2, o2, A2, c2, y, rfl, hc2, hy, hr2, _, _, _⟩ := HB.out.elemO hlt
      obtain rfl : y = x := by have h1 := hx.out; have h2 := hy.out; rw [h1] at h2; exact (Option.some.inj h2).symm
      go_wp2_with fail
      go_quiet ((go_at_call 33; exact quiet_more (lEqSelf (xs := y) rfl rfl (by omega) (by omega) (hr1.out.drewN _).hA (hr2.out.drewN _).hA)))
      go_wp2_with fail
      go_roundw
      case rel => exact ⟨k + 1, by omega, by go_num, _, by first | rfl | rw [World.drewN_drewN]⟩
      case measure => simp [Go.RowKit.intOf]; omega
    · obtain rfl : k = xss.length := by omega
      go_wp2_with fail
      go_ret
      exact ⟨rfl, _, rfl⟩
end Go.Proofs.Ytfmknllemhdnaaa
