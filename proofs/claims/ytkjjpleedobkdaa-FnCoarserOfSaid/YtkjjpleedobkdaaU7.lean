/-
  What the proofs of this seat's statements share (TogI, TogJ, TogK, TogL, TogS, TogT, TogD, TogX, TogL1).
-/
import Derived.Lib.AppendZeros
import Derived.WalkSmall
import Derived.Deep.AppendLies
import Derived.Deep.RegionLaw
import Derived.Test.YtkjjpleedobkdaaU6
import Derived.Test.YtkjjpleedobkdaaU5

namespace Go.Proofs.Ytkjjpleedobkdaa
open Go.RowKit

/-- A slice of numbers that came in: its length, its capacity, what it reads as. -/
structure Row (w : World) (A : Option Addr) (n c : Nat) (xs : List Int) : Prop where
  hn : n = xs.length
  hl : n ≤ 1048576
  hc : n ≤ c
  hm : c ≤ maxLen
  hA : Nums .i64 w A xs
theorem Row.below {w w' : World} {A : Option Addr} {n c : Nat} {xs : List Int} (h : Row w A n c xs) (hb : Below w.heap.size w w') : Row w' A n c xs := ⟨h.hn, h.hl, h.hc, h.hm, h.hA.below hb⟩

theorem Row.drewN {w : World} {A : Option Addr} {n c : Nat} {xs : List Int} (h : Row w A n c xs) (m : Nat) : Row (w.drewN m) A n c xs := ⟨h.hn, h.hl, h.hc, h.hm, h.hA⟩

def okTwo (t : Int) (a b : List Int) : Bool := issueOkB t a && issueOkB t b
set_option maxHeartbeats 1000000 in
theorem iIssuesOk (t : Int) (A B : Option Addr) (na ca nb cb : Nat) (a b : List Int) (w : World) (ha : Row w A na ca a) (hb : Row w B nb cb b) :
    Calls Try.prog 77 #[.int .i64 t, .slice A na ca, .slice B nb cb] w fun e w' => e = .returned (.bool (okTwo t a b)) ∧ ∃ n, w' = w.drewN n := by
  have HA := Lib.hid ha
  have HB := Lib.hid hb
  clear ha hb
  obtain ⟨x, HX⟩ : ∃ x, Hid (issueOkB t a = x) := ⟨_, rfl⟩
  obtain ⟨y, HY⟩ : ∃ y, Hid (issueOkB t b = y) := ⟨_, rfl⟩
  have HF : Hid (okTwo t a b = (x && y)) := by unfold Hid okTwo; rw [HX.out, HY.out]
  cases x
  · go_enter Try.func77, Try.ntmps77
    go_wp2_with fail
    refine (iIssueOk_is HX _ _ _ _ HA.out.hn HA.out.hl HA.out.hc HA.out.hm HA.out.hA).mono ?_
    rintro e w' ⟨rfl, m1, rfl⟩
    go_wp2_with fail
    go_ret
    exact ⟨ret_bool HF.out.symm, _, rfl⟩
  · go_enter Try.func77, Try.ntmps77
    go_wp2_with fail
    refine (iIssueOk_is HX _ _ _ _ HA.out.hn HA.out.hl HA.out.hc HA.out.hm HA.out.hA).mono ?_
    rintro e w' ⟨rfl, m2, rfl⟩
    go_wp2_with fail
    refine (iIssueOk_is HY _ _ _ _ HB.out.hn HB.out.hl HB.out.hc HB.out.hm (by exact HB.out.hA)).mono ?_
    rintro e w' ⟨rfl, m3, rfl⟩
    go_wp2_with fail
    go_ret
    exact ⟨ret_bool (by rw [HF.out]; rfl), _, rfl⟩
theorem iIssuesOk_is {t : Int} {a b : List Int} {x : Bool} (h : Hid (okTwo t a b = x)) {A B : Option Addr} {na ca nb cb : Nat} {w : World} (ha : Row w A na ca a) (hb : Row w B nb cb b) :
    Calls Try.prog 77 #[.int .i64 t, .slice A na ca, .slice B nb cb] w fun e w' => e = .returned (.bool x) ∧ ∃ n, w' = w.drewN n :=
  (iIssuesOk t A B na ca nb cb a b w ha hb).mono fun _ _ ⟨he, hw⟩ => ⟨he.trans (ret_bool h.out), hw⟩
theorem okTwo_ok {t : Int} {a b : List Int} (h : okTwo t a b = true) : issueOkB t a = true ∧ issueOkB t b = true := by unfold okTwo at h; rwa [Bool.and_eq_true] at h

theorem iWithinAny_is {s : Int} {xs : List Int} {v : Bool} (h : Hid (anyWithin s xs = v)) (A : Option Addr) (n c : Nat) (w : World) (hn : n = xs.length) (hs : 0 ≤ s) (hs2 : s < 256) (hr : ∀ x ∈ xs, 0 ≤ x ∧ x < 256) (hl : n ≤ 1048576) (hA : Nums .i64 w A xs) :
    Calls Try.prog 65 #[.int .i64 s, .slice A n c] w fun e w' => e = .returned (.bool v) ∧ w = w' :=
  (iWithinAny s A n c xs w hn hs hs2 hr hl hA).mono fun _ _ ⟨he, hw⟩ => ⟨he.trans (ret_bool h.out), hw⟩

theorem good_nil (b : List Int) (s : Int) : goodB [] b s = true := rfl
theorem good_snoc {a b : List Int} {s x : Int} {k : Nat} (hx : Hid (a[k]? = some x)) : goodB (a.take (k + 1)) b s = (goodB (a.take k) b s && anyWithin (andI s x) b) := by
  unfold goodB; rw [take_snoc hx, List.all_append]; simp
theorem good_miss {a b : List Int} {s x : Int} {k : Nat} (hx : Hid (a[k]? = some x)) (h : anyWithin (andI s x) b = false) : goodB a b s = false := by
  unfold goodB; rw [List.all_eq_false]; exact ⟨x, elem_mem hx, by rw [h]; simp⟩

theorem follows_eq {t : Int} {a b : List Int} : followsB t a b = (okTwo t a b && a.all fun x => anyWithin x b) := rfl
theorem allAny_snoc {a b : List Int} {x : Int} {k : Nat} (hx : Hid (a[k]? = some x)) : ((a.take (k + 1)).all fun x => anyWithin x b) = (((a.take k).all fun x => anyWithin x b) && anyWithin x b) := by
  rw [take_snoc hx, List.all_append]; simp
theorem allAny_miss {a b : List Int} {x : Int} {k : Nat} (hx : Hid (a[k]? = some x)) (h : anyWithin x b = false) : (a.all fun x => anyWithin x b) = false := by
  rw [List.all_eq_false]; exact ⟨x, elem_mem hx, by rw [h]; simp⟩

set_option maxHeartbeats 1000000 in
theorem iFollows (t : Int) (A B : Option Addr) (na ca nb cb : Nat) (a b : List Int) (w : World) (ha : Row w A na ca a) (hb : Row w B nb cb b) :
    Calls Try.prog 35 #[.int .i64 t, .slice A na ca, .slice B nb cb] w fun e w' => e = .returned (.bool (followsB t a b)) ∧ ∃ n, w' = w.drewN n := by
  have HA := Lib.hid ha
  have HB := Lib.hid hb
  obtain rfl := ha.hn
  have hla := ha.hl
  clear ha hb
  obtain ⟨x, HX⟩ : ∃ x, Hid (okTwo t a b = x) := ⟨_, rfl⟩
  have HF : Hid (followsB t a b = (x && a.all fun x => anyWithin x b)) := by unfold Hid; rw [follows_eq, HX.out]
  cases x
  · go_enter Try.func35, Try.ntmps35
    go_wp2_with fail
    refine (iIssuesOk_is HX HA.out HB.out).mono ?_
    rintro e w' ⟨rfl, m1, rfl⟩
    go_wp2_with fail
    go_ret
    exact ⟨ret_bool (by rw [HF.out]; rfl), _, rfl⟩
  · have HRA := Lib.hid (issue_range (okTwo_ok HX.out).1)
    have HRB := Lib.hid (issue_range (okTwo_ok HX.out).2)
    go_enter Try.func35, Try.ntmps35
    go_wp2_with fail
    refine (iIssuesOk_is HX HA.out HB.out).mono ?_
    rintro e w' ⟨rfl, m2, rfl⟩
    go_wp2_with fail
    go_loopw [16] (fun i wr => ∃ k : Nat, k ≤ a.length ∧ i = .int .i64 k ∧ Hid (((a.take k).all fun x => anyWithin x b) = true) ∧ ∃ n, wr = w.drewN n) (fun i _ => a.length - (intOf i).toNat)
    case atStart => exact ⟨0, Nat.zero_le _, rfl, rfl, _, rfl⟩
    case round =>
      obtain ⟨k, hk, rfl, hsofar, n, rfl⟩ := hrel
      by_cases hlt : k < a.length
      · obtain ⟨bb, off, x, rfl, hcell, hx, _⟩ := HA.out.hA.elem hlt
        obtain ⟨he1, he2⟩ := HRA.out x (elem_mem hx)
        rcases hw : anyWithin x b with _ | _
        · have HW := Lib.hid hw
          clear hw
          go_wp2_with fail
          refine (iWithinAny_is HW _ _ _ _ HB.out.hn he1 he2 HRB.out HB.out.hl (by exact HB.out.hA)).mono ?_
          rintro e w' ⟨rfl, rfl⟩
          go_wp2_with fail
          go_ret
          exact ⟨ret_bool (by rw [HF.out, allAny_miss hx HW.out]; rfl), _, rfl⟩
        · have HW := Lib.hid hw
          clear hw
          go_wp2_with fail
          refine (iWithinAny_is HW _ _ _ _ HB.out.hn he1 he2 HRB.out HB.out.hl (by exact HB.out.hA)).mono ?_
          rintro e w' ⟨rfl, rfl⟩
          go_wp2_with fail
          go_roundw
          case rel => exact ⟨k + 1, by omega, by go_num, by unfold Hid; rw [allAny_snoc hx, hsofar.out, HW.out]; rfl, _, rfl⟩
          case measure => simp [intOf]; omega
      · obtain rfl : k = a.length := by omega
        have HN : Hid ((a.all fun x => anyWithin x b) = true) := by unfold Hid; rw [← hsofar.out, List.take_length]
        clear hsofar
        go_wp2
        go_ret
        exact ⟨ret_bool (by rw [HF.out, HN.out]; rfl), _, rfl⟩
end Go.Proofs.Ytkjjpleedobkdaa

namespace Go.Proofs.Ytkjjpleedobkdaa
open Go.RowKit

theorem Owns.row {w : World} {base : Nat} {A : Option Addr} {n c : Nat} {xs : List Int} (h : Owns w base (.slice A n c) xs) (hl : xs.length ≤ 1048576) : Row w A n c xs := by
  obtain ⟨A', c', e, hc, hm, hn, _⟩ := h.form
  simp only [Value.slice.injEq] at e
  obtain ⟨rfl, rfl, rfl⟩ := e
  exact ⟨rfl, hl, hc, hm, hn⟩
def bothTo (a b : List Int) (k j : Nat) : List Int := ((a.take k).flatMap fun x => b.map fun y => andI x y) ++ (match a[k]? with | some x => (b.take j).map fun y => andI x y | none => [])
theorem bothTo_zero (a b : List Int) : bothTo a b 0 0 = [] := by unfold bothTo; cases a[0]? <;> simp
theorem bothTo_in {a b : List Int} {k j : Nat} {x y : Int} (hx : Hid (a[k]? = some x)) (hy : Hid (b[j]? = some y)) : bothTo a b k (j + 1) = bothTo a b k j ++ [andI x y] := by
  unfold bothTo; rw [hx.out]; simp only []; rw [take_snoc hy]; simp
theorem bothTo_out {a b : List Int} {k : Nat} {x : Int} (hx : Hid (a[k]? = some x)) : bothTo a b (k + 1) 0 = bothTo a b k b.length := by
  unfold bothTo; rw [hx.out, take_snoc hx]; simp only [List.take_length, List.take_zero, List.map_nil]
  cases a[k + 1]? <;> simp
theorem bothTo_end (a b : List Int) : bothTo a b a.length 0 = bothX a b := by
  unfold bothTo bothX; rw [List.take_length]; simp
theorem bothX_len (a b : List Int) : (bothX a b).length = a.length * b.length := by
  unfold bothX
  induction a with
  | nil => simp
  | cons x r ih => rw [List.flatMap_cons, List.length_append, ih, List.length_map, List.length_cons, Nat.succ_mul]; omega
theorem bothTo_len (a b : List Int) (k j : Nat) (hk : k ≤ a.length) : (bothTo a b k j).length ≤ (k + 1) * b.length := by
  unfold bothTo
  rw [List.length_append]
  have h1 : ((a.take k).flatMap fun x => b.map fun y => andI x y).length = k * b.length := by
    have := bothX_len (a.take k) b
    unfold bothX at this
    rw [this, List.length_take, Nat.min_eq_left hk]
  rw [h1, Nat.succ_mul]
  refine Nat.add_le_add_left ?_ _
  cases a[k]? with
  | none => simp
  | some x => simp only [List.length_map, List.length_take]; omega
theorem bothTo_small {a b : List Int} (ha : a.length ≤ 70) (hb : b.length ≤ 70) (k j : Nat) (hk : k ≤ a.length) : (bothTo a b k j).length ≤ 4970 :=
  Nat.le_trans (bothTo_len a b k j hk) (Nat.le_trans (Nat.mul_le_mul (show k + 1 ≤ 71 by omega) hb) (by omega))
theorem both_nil {t : Int} {a b : List Int} (h : okTwo t a b = false) : bothL t a b = [] := by
  unfold okTwo at h; unfold bothL; rw [h]; rfl
theorem bel_none {B : Nat} {a w w' : World} (h : Below B a w) (hg : w.grownBy w' none) (hB : B ≤ w.heap.size) : Below B a w' :=
  h.grown hg hB (fun k e => by cases e)

set_option maxRecDepth 100000 in
set_option maxHeartbeats 4000000 in
theorem iBothIssues (t : Int) (A B : Option Addr) (na ca nb cb : Nat) (a b : List Int) (w : World) (ha : Row w A na ca a) (hb : Row w B nb cb b) :
    Calls Try.prog 36 #[.int .i64 t, .slice A na ca, .slice B nb cb] w fun e w' => ∃ v, e = .returned v ∧ Owns w' w.heap.size v (bothL t a b) ∧ Below w.heap.size w w' := by
  have HA := Lib.hid ha
  have HB := Lib.hid hb
  obtain rfl := ha.hn
  obtain rfl := hb.hn
  clear ha hb
  obtain ⟨x, HX⟩ : ∃ x, Hid (okTwo t a b = x) := ⟨_, rfl⟩
  cases x
  · have HF := Lib.hid (both_nil HX.out)
    go_enter Try.func36, Try.ntmps36
    go_wp2_with fail
    refine (iIssuesOk_is HX HA.out HB.out).mono ?_
    rintro e w' ⟨rfl, m1, rfl⟩
    go_wp2_with fail
    go_ret
    exact ⟨_, rfl, by rw [HF.out]; exact Owns.nil _ _, bel_drewN (Below.refl _ _) _⟩
  · obtain ⟨h1, h2⟩ := okTwo_ok HX.out
    obtain ⟨hla, hla2⟩ := issue_ne h1
    obtain ⟨hlb, hlb2⟩ := issue_ne h2
    have HRA := Lib.hid (issue_range h1)
    have HRB := Lib.hid (issue_range h2)
    have HF := Lib.hid (both_eq h1 h2)
    have HS := Lib.hid (sets_range (bothX_sets (b := b) h1))
    obtain ⟨p, hp⟩ : ∃ p, p = a.length * b.length := ⟨_, rfl⟩
    have hp2 : p ≤ 4900 := by rw [hp]; exact Nat.le_trans (Nat.mul_le_mul hla2 hlb2) (by omega)
    have hp1 : 1 ≤ p := by rw [hp]; exact Nat.mul_pos hla hlb
    have HP : Hid ((a.length : Int) * (b.length : Int) = (p : Int)) := by unfold Hid; rw [hp]; push_cast; rfl
    have HP2 : Hid ((bothX a b).length = p) := by unfold Hid; rw [hp]; exact bothX_len a b
    obtain ⟨i0, hi, hz0, hz1, hz2⟩ := info_parts int_info
    clear hp h1 h2
    go_enter Try.func36, Try.ntmps36
    go_wp2_with fail
    refine (iIssuesOk_is HX HA.out HB.out).mono ?_
    rintro e w' ⟨rfl, m2, rfl⟩
    go_wp2_with (at_make; refine wpList_make_own _ rfl _ _ 23 rfl w.heap.size 3 i0 (.int .i64 0) 1 Try.underlying23 hi hz0 hz1 .i64 .i64 _ p rfl rfl (by rw [HP.out]; exact IntWalk.wrap64_in _ ⟨by omega, by omega⟩) (by rw [hz2]; omega) (by unfold maxLen; omega) (Nat.le_refl _) ?_; intro w1 hown1 hgrow1)
    clear hi hz0 hz1 hz2 HP
    have HB1 : Hid (Below w.heap.size w w1) := bel_none (w := w.drewN m2) (bel_drewN (Below.refl _ _) _) hgrow1 (Nat.le_refl _)
    have HO1 : Hid (Owns w1 w.heap.size (.slice (some ⟨w.heap.size, 0, none⟩) 0 p) []) := hown1
    clear hown1 hgrow1
    go_loopw [7, 25] (fun v i wr => ∃ k : Nat, k ≤ a.length ∧ i = .int .i64 k ∧ Owns wr w.heap.size v (bothTo a b k 0) ∧ Below w.heap.size w wr) (fun _ i _ => a.length - (Go.RowKit.intOf i).toNat)
    case atStart => exact ⟨0, Nat.zero_le _, rfl, by rw [bothTo_zero]; exact HO1.out, HB1.out⟩
    case round =>
      obtain ⟨k, hk, rfl, hown, hbel⟩ := hrel
      have HOW := Lib.hid hown
      have HBW := Lib.hid hbel
      clear hown hbel
      by_cases hlt : k < a.length
      · obtain ⟨bb, off, x, rfl, hcell, hx, _⟩ := (HA.out.hA.below HBW.out).elem hlt
        obtain ⟨he1, he2⟩ := HRA.out x (elem_mem hx)
        go_wp2_with fail
        clear hcell
        go_loopw [7, 31] (fun v i wi => ∃ j : Nat, j ≤ b.length ∧ i = .int .i64 j ∧ Owns wi w.heap.size v (bothTo a b k j) ∧ Below w.heap.size w wi) (fun _ i _ => b.length - (Go.RowKit.intOf i).toNat)
        case atStart => exact ⟨0, Nat.zero_le _, rfl, HOW.out, HBW.out⟩
        case round =>
          obtain ⟨j, hj, rfl, hown, hbel⟩ := hrel
          have HOI := Lib.hid hown
          have HBI := Lib.hid hbel
          clear hown hbel
          by_cases hjt : j < b.length
          · obtain ⟨bb2, off2, y, rfl, hcell, hy, _⟩ := (HB.out.hA.below HBI.out).elem hjt
            obtain ⟨hf1, hf2⟩ := HRB.out y (elem_mem hy)
            have HBA := Lib.hid (bits_and x y he1 (by omega) hf1 (by omega))
            have HT := Lib.hid (bothTo_in hx hy)
            have hsm := bothTo_small hla2 hlb2 k j hk
            go_wp2_with (at_builtin; refine wp_append1 (W := wr) rfl _ _ rfl w.heap.size u7 (bothTo a b k j) rfl HOI.out _ rfl (by omega) HBI.out.size ?_; intro v' w' hown' hgrow)
            have hb' := below_append HBI.out HBI.out.size HOI.out (Nat.le_refl _) hgrow
            rw [HBA.out] at hown'
            go_roundw
            case rel => exact ⟨j + 1, by omega, by go_num, by rw [HT.out]; exact hown', hb'⟩
            case measure => simp [Go.RowKit.intOf]; omega
          · obtain rfl : j = b.length := by omega
            have HT := Lib.hid (bothTo_out (b := b) hx)
            go_wp2_with fail
            go_roundw
            case rel => exact ⟨k + 1, by omega, by go_num, by rw [HT.out]; exact HOI.out, HBI.out⟩
            case measure => simp [Go.RowKit.intOf]; omega
      · obtain rfl : k = a.length := by omega
        have HE : Hid (bothTo a b a.length 0 = bothX a b) := bothTo_end a b
        rw [HE.out] at HOW
        obtain ⟨A1, c1, rfl, hc1, hm1, hn1, _⟩ := HOW.out.form
        have HN1 := Lib.hid hn1
        have hpos : 1 ≤ (bothX a b).length := by rw [HP2.out]; exact hp1
        have hle : (bothX a b).length ≤ 1048576 := by rw [HP2.out]; omega
        clear hm1 hn1
        go_wp2_with fail
        refine (iGreatest _ _ _ (bothX a b) _ rfl hpos hle HS.out HN1.out).mono ?_
        rintro e w2 ⟨v, rfl, ho, hb⟩
        have HO2 := Lib.hid ho
        have HB2 := Lib.hid (bel_trans HBW.out hb)
        have hsz := HBW.out.size
        clear ho hb
        go_wp2_with fail
        go_ret
        exact ⟨_, rfl, by rw [HF.out]; exact HO2.out.base hsz, HB2.out⟩
end Go.Proofs.Ytkjjpleedobkdaa

namespace Go.Proofs.Ytkjjpleedobkdaa
open Go.RowKit

theorem wp_appendL {W : World} {ops : Array Oper} {rest : List Oper} {o : Oper} {a : Act} {Q : Exit → Act → World → Prop} (hgd : o.guard = none) (s x : Operand)
    (ho : o.op = .call { callee := .builtin .append, args := #[s, x], argTypes := #[23, 23] }) (base : Nat) (v : Value) (xs : List Int) (hs : a.eval s = v) (hown : Owns W base v xs)
    (ys : List Int) (ad : Option Addr) (m c : Nat) (hx : a.eval x = .slice ad m c) (hm : m = ys.length) (hpos : 1 ≤ m) (hn : Nums .i64 W ad ys) (hl : xs.length + m ≤ 1048576) (hb : base ≤ W.heap.size)
    (h : ∀ v' w', Owns w' base v' (xs ++ ys) → W.grownBy w' v.ownBlock → wpList Try.prog ops Q rest (a.put o.dst v') w') :
    wpList Try.prog ops Q (o :: rest) a W := by
  subst hm
  obtain ⟨i0, hi0, hz0, hz1, hz2⟩ := info_parts int_info
  obtain ⟨b, off, rfl, _, hc⟩ := hn hpos
  refine wpList_append_own _ hgd s x 23 ho base 3 i0 (.int .i64 0) 1 8 Try.underlying23 hi0 hz0 hz1 hz2 rfl (by decide) v xs.length (xs.map (Value.int .i64)) hs hown
    ⟨b, off, none⟩ ys.length c (ys.map (Value.int .i64)) hx (by simp) ?_ (fun u hu => ?_) (by simp only [maxLen]; omega) (by omega) hb ?_
  · intro j u hj
    rw [List.getElem?_map] at hj
    obtain ⟨y, hy, rfl⟩ := Option.map_eq_some_iff.1 hj
    obtain ⟨hlt, he⟩ := List.getElem?_eq_some_iff.1 hy
    have := hc j hlt
    have e : (⟨b, off, none⟩ : Addr).add j = ⟨b, off + j, none⟩ := by unfold Addr.add; split <;> simp_all
    rw [e, this, List.getD_eq_getElem?_getD, hy]; rfl
  · obtain ⟨y, _, rfl⟩ := List.mem_map.1 hu; rfl
  · intro v' w' h1 h2 _
    refine h v' w' ?_ h2
    unfold Owns
    rw [List.map_append, List.length_append]
    exact h1
theorem below_appendL {B : Nat} {a W w' : World} {base : Nat} {v : Value} {xs : List Int} (h : Below B a W) (hB : B ≤ W.heap.size) (hown : Owns W base v xs) (hbase : B ≤ base) (hg : W.grownBy w' v.ownBlock) : Below B a w' :=
  h.grown hg hB fun k e => by have := (World.ownsRow.lt hown k e).1; omega

set_option maxRecDepth 100000 in
set_option maxHeartbeats 1000000 in
theorem iGrow (m : Int) (n : Nat) (hmn : m = (n : Int)) (w : World) (h1 : 1 ≤ n) (hl : n ≤ 1048576) :
    Calls Try.prog 89 #[.slice none 0 0, .int .i64 m] w fun e w' => ∃ v, e = .returned v ∧ Owns w' w.heap.size v [] ∧ Below w.heap.size w w' := by
  subst hmn
  obtain ⟨i0, hi, hz0, hz1, hz2⟩ := info_parts int_info
  have happ := Lib.run_append_nil_zeros (P := Try.prog) w 23 3 23 3 i0 (.int .i64 0) .i64 .i64 Try.underlying23 Try.underlying3 hi hz0 n (by omega) (by omega) (by omega) (by rw [hz2]; omega)
  obtain ⟨cap, hcap⟩ : ∃ c, c = grownCap w n 0 3 := ⟨_, rfl⟩
  have hc1 : n ≤ cap := by rw [hcap]; exact grownCap_ge _ _ _ _
  have hc2 : cap ≤ maxLen := by rw [hcap]; exact grownCap_le_maxLen _ _ _ _ (by simp only [maxLen]; omega)
  rw [← hcap] at happ
  obtain ⟨M, hM⟩ : ∃ M, M = Builtin.zeroCells (Value.int .i64 0).cells n ++ Builtin.zeroCells (Value.int .i64 0).cells (cap - n) := ⟨_, rfl⟩
  have hMs : M.size = cap * 1 := by rw [hM, Array.size_append, size_zeroCells, size_zeroCells]; show n * 1 + (cap - n) * 1 = cap * 1; omega
  rw [← hM] at happ
  have hown : Hid (Owns ((w.drew).alloc (.cells M 3)) w.heap.size (.slice (some ⟨w.heap.size, 0, none⟩) 0 cap) []) := World.ownsRow_made w.drew M cap (Nat.le_refl _) hc2 hMs
  have hbel : Hid (Below w.heap.size w ((w.drew).alloc (.cells M 3))) := (bel_drewN (Below.refl _ w) 1).alloc (Nat.le_refl _) _
  have HAPP := Lib.hid happ
  have hc3 : cap ≤ 9223372036854775807 := by unfold maxLen at hc2; omega
  clear hM hMs hcap happ hi hz0 hz1 hz2 hc2
  go_enter Try.func89, Try.ntmps89
  go_wp2_with (at_builtin; refine Lib.wpList_append_run _ rfl _ _ _ _ rfl _ _ rfl rfl _ _ HAPP.out ?_)
  go_ret
  exact ⟨_, rfl, hown.out, hbel.out⟩

set_option maxRecDepth 100000 in
set_option maxHeartbeats 2000000 in
theorem iConcat (g : Nat) (A B : Option Addr) (na ca nb cb : Nat) (a b : List Int) (w : World) (hg : g < w.heap.size) (h0 : w.cell? ⟨g, 0, none⟩ = some (.slice A na ca)) (h1 : w.cell? ⟨g, 1, none⟩ = some (.slice B nb cb))
    (ha : Row w A na ca a) (hb : Row w B nb cb b) (hla : 1 ≤ na) (hlb : 1 ≤ nb) (hl : na + nb ≤ 1000000) :
    Calls Try.prog 70 #[.slice (some ⟨g, 0, none⟩) 2 2] w fun e w' => ∃ v, e = .returned v ∧ Owns w' w.heap.size v (a ++ b) ∧ Below w.heap.size w w' := by
  have HA := Lib.hid ha
  have HB := Lib.hid hb
  obtain rfl := ha.hn
  obtain rfl := hb.hn
  clear ha hb
  have HG := Lib.hid hg
  have HC : Hid (∀ W, Below w.heap.size w W → W.cell? ⟨g, 0, none⟩ = some (.slice A a.length ca) ∧ W.cell? ⟨g, 1, none⟩ = some (.slice B b.length cb)) := fun W h => ⟨(h.cell (p := ⟨g, 0, none⟩) hg).trans h0, (h.cell (p := ⟨g, 1, none⟩) hg).trans h1⟩
  go_enter Try.func70, Try.ntmps70
  go_wp2_with fail
  refine wp_loop_rounds 3 ?_
  rw [rounds_succ]
  go_wp2_with fail
  rw [rounds_succ]
  go_wp2_with fail
  rw [rounds_succ]
  go_wp2_with fail
  refine (iGrow _ (a.length + b.length) (by omega) _ (by omega) (by omega)).mono ?_
  rintro e w1 ⟨v, rfl, ho, hb⟩
  have HO1 := Lib.hid ho
  have HB1 := Lib.hid hb
  have hsz1 := hb.size
  obtain ⟨hc0, hc1⟩ := HC.out _ hb
  have HN1 := Lib.hid (HA.out.hA.below hb)
  clear ho hb
  go_wp2_with fail
  refine wp_loop_rounds 3 ?_
  rw [rounds_succ]
  go_wp2_with (at_builtin; refine wp_appendL rfl _ _ rfl w.heap.size _ [] rfl HO1.out a A a.length ca rfl rfl hla HN1.out (by simp; omega) (by omega) ?_; intro v2 w2 hown2 hgrow2)
  have HO2 := Lib.hid hown2
  have HB2 := Lib.hid (below_appendL HB1.out hsz1 HO1.out (Nat.le_refl _) hgrow2)
  clear hown2 hgrow2 hc0 hc1
  rw [rounds_succ]
  obtain ⟨hc0, hc1⟩ := HC.out _ HB2.out
  have HN2 := Lib.hid (HB.out.hA.below HB2.out)
  have hsz2 := HB2.out.size
  go_wp2_with (at_builtin; refine wp_appendL rfl _ _ rfl w.heap.size v2 a rfl HO2.out b B b.length cb rfl rfl hlb HN2.out (by omega) (by omega) ?_; intro v3 w3 hown3 hgrow3)
  have HO3 := Lib.hid hown3
  have HB3 := Lib.hid (below_appendL HB2.out hsz2 HO2.out (Nat.le_refl _) hgrow3)
  rw [rounds_succ]
  go_wp2_with fail
  go_ret
  exact ⟨_, rfl, HO3.out, HB3.out⟩
end Go.Proofs.Ytkjjpleedobkdaa

namespace Go.Proofs.Ytkjjpleedobkdaa
open Go.RowKit

theorem either_nil {t : Int} {a b : List Int} (h : okTwo t a b = false) : eitherL t a b = [] := by
  unfold okTwo at h; unfold eitherL; rw [h]; rfl
theorem if_nil {t : Int} {a b : List Int} (h : okTwo t a b = false) : ifL t a b = [] := by
  unfold okTwo at h; unfold ifL; rw [h]; rfl
theorem not_nil {t : Int} {a : List Int} (h : issueOkB t a = false) : notL t a = [] := by unfold notL; rw [h]; rfl
theorem whether_all {t : Int} {a : List Int} : whetherL t a = eitherL t a (notL t a) := by
  unfold whetherL
  cases h : issueOkB t a
  · unfold eitherL; rw [h]; rfl
  · rfl

theorem two_cells (w : World) (u v : Value) (t : TypeId) : (w.alloc (.cells #[u, v] t)).cell? ⟨w.heap.size, 0, none⟩ = some u ∧ (w.alloc (.cells #[u, v] t)).cell? ⟨w.heap.size, 1, none⟩ = some v :=
  ⟨cell_two_new w u v t 0 u rfl, cell_two_new w u v t 1 v rfl⟩
set_option maxRecDepth 100000 in
set_option maxHeartbeats 2000000 in
theorem iEitherIssue (t : Int) (A B : Option Addr) (na ca nb cb : Nat) (a b : List Int) (w : World) (ha : Row w A na ca a) (hb : Row w B nb cb b) :
    Calls Try.prog 62 #[.int .i64 t, .slice A na ca, .slice B nb cb] w fun e w' => ∃ v, e = .returned v ∧ Owns w' w.heap.size v (eitherL t a b) ∧ Below w.heap.size w w' := by
  have HA := Lib.hid ha
  have HB := Lib.hid hb
  obtain rfl := ha.hn
  obtain rfl := hb.hn
  clear ha hb
  obtain ⟨x, HX⟩ : ∃ x, Hid (okTwo t a b = x) := ⟨_, rfl⟩
  cases x
  · have HF := Lib.hid (either_nil HX.out)
    go_enter Try.func62, Try.ntmps62
    go_wp2_with fail
    refine (iIssuesOk_is HX HA.out HB.out).mono ?_
    rintro e w' ⟨rfl, m1, rfl⟩
    go_wp2_with fail
    go_ret
    exact ⟨_, rfl, by rw [HF.out]; exact Owns.nil _ _, bel_drewN (Below.refl _ _) _⟩
  · obtain ⟨h1, h2⟩ := okTwo_ok HX.out
    obtain ⟨hla, hla2⟩ := issue_ne h1
    obtain ⟨hlb, hlb2⟩ := issue_ne h2
    have HF := Lib.hid (either_eq h1 h2)
    have HS := Lib.hid (sets_range (eitherX_sets h1 h2))
    clear h1 h2
    obtain ⟨ab, HAB⟩ : ∃ l, Hid (a ++ b = l) := ⟨_, rfl⟩
    have hpos : 1 ≤ ab.length := by rw [← HAB.out, List.length_append]; omega
    have hle : ab.length ≤ 1048576 := by rw [← HAB.out, List.length_append]; omega
    rw [HAB.out] at HF HS
    go_enter Try.func62, Try.ntmps62
    go_wp2_with fail
    refine (iIssuesOk_is HX HA.out HB.out).mono ?_
    rintro e w' ⟨rfl, m2, rfl⟩
    go_wp2_with fail
    have hbel : ∀ o, Below w.heap.size w ((w.drewN m2).alloc o) := fun o => (bel_drewN (Below.refl _ _) _).alloc (Nat.le_refl _) _
    refine (iConcat w.heap.size A B a.length ca b.length cb a b _ (by rw [World.size_alloc]; exact Nat.lt_succ_self _) (two_cells (w.drewN m2) _ _ _).1 (two_cells (w.drewN m2) _ _ _).2 (HA.out.below (hbel _)) (HB.out.below (hbel _)) hla hlb (by omega)).mono ?_
    rintro e w1 ⟨v, rfl, ho, hb⟩
    rw [HAB.out] at ho
    obtain ⟨A1, c1, rfl, hc1, hm1, hn1, _⟩ := ho.form
    have HN1 := Lib.hid hn1
    have HB1 := Lib.hid (hbel _ |>.trans (hb.mono (by rw [World.size_alloc]; exact Nat.le_succ _)))
    have hsz1 := HB1.out.size
    clear ho hb hm1 hn1 hbel
    go_wp2_with fail
    refine (iGreatest _ _ _ ab _ rfl hpos hle HS.out HN1.out).mono ?_
    rintro e w2 ⟨v, rfl, ho, hb⟩
    have HO2 := Lib.hid ho
    have HB2 := Lib.hid (bel_trans HB1.out hb)
    clear ho hb
    go_wp2_with fail
    go_ret
    exact ⟨_, rfl, by rw [HF.out]; exact HO2.out.base hsz1, HB2.out⟩

theorem if_next (a b : List Int) (k : Nat) : ifTo a b (k + 1) = ifTo a b k ++ (if goodB a b k = true then [(k : Int)] else []) := by
  unfold ifTo
  rw [List.range_succ, List.map_append, List.filter_append]
  simp only [List.map_cons, List.map_nil, List.filter_cons, List.filter_nil]
theorem if_len (a b : List Int) (k : Nat) : (ifTo a b k).length ≤ k := by
  unfold ifTo
  refine Nat.le_trans (List.length_filter_le _ _) (by simp)
theorem if_zero (a b : List Int) : ifTo a b 0 = [] := rfl
theorem ifTo_pos {t : Int} {a b : List Int} (_ : issueOkB t a = true) (hb : issueOkB t b = true) : 1 ≤ (ifTo a b (allOf t + 1).toNat).length := by
  refine List.length_pos_of_mem (a := 0) (mem_ifTo.2 ⟨by omega, by have := allOf_lt t; omega, good_zero hb⟩)
theorem worlds_is {t : Int} (h1 : 1 ≤ t) (h3 : t ≤ 3) : ∃ n : Nat, worldsOf t = n ∧ 1 ≤ n ∧ n ≤ 8 ∧ allOf t + 1 = ((2 ^ n : Nat) : Int) := by
  have : t = 1 ∨ t = 2 ∨ t = 3 := by omega
  rcases this with rfl | rfl | rfl
  · exact ⟨2, rfl, by omega, by omega, rfl⟩
  · exact ⟨4, rfl, by omega, by omega, rfl⟩
  · exact ⟨8, rfl, by omega, by omega, rfl⟩

theorem andNot_rest {n : Nat} {g : Int} (hn : n ≤ 8) (h0 : 0 ≤ g) (h1 : g ≤ ((2 ^ n : Nat) : Int) - 1) : bits .andNot .i64 (((2 ^ n : Nat) : Int) - 1) g = ((2 ^ n : Nat) : Int) - 1 - g := by
  obtain ⟨b, rfl⟩ : ∃ b : Nat, g = b := ⟨g.toNat, by omega⟩
  have hp : 0 < 2 ^ n := Nat.two_pow_pos n
  have hp8 : 2 ^ n ≤ 2 ^ 8 := Nat.pow_le_pow_right (by omega) hn
  have e0 : ((2 ^ n : Nat) : Int) - 1 = ((2 ^ n - 1 : Nat) : Int) := by omega
  rw [e0]
  have e : bits .andNot .i64 ((2 ^ n - 1 : Nat) : Int) (b : Int) = (((2 ^ n - 1) &&& (2 ^ 64 - (b + 1)) : Nat) : Int) := by
    have hx : (2 ^ n - 1) &&& (2 ^ 64 - (b + 1)) ≤ 2 ^ n - 1 := Nat.and_le_left
    show IntKind.i64.wrap ((BitVec.ofInt 64 ((2 ^ n - 1 : Nat) : Int) &&& ~~~BitVec.ofInt 64 (b : Int)).toNat : Int) = _
    rw [BitVec.toNat_and, BitVec.toNat_not, BitVec.ofInt_natCast, BitVec.ofInt_natCast, BitVec.toNat_ofNat, BitVec.toNat_ofNat, Nat.mod_eq_of_lt (by omega), Nat.mod_eq_of_lt (by omega), IntKind.wrap_i64,
      show 2 ^ 64 - 1 - b = 2 ^ 64 - (b + 1) by omega]
    omega
  have hb : b < 2 ^ n := by omega
  have : (2 ^ n - 1) &&& (2 ^ 64 - (b + 1)) = 2 ^ n - (b + 1) := by
    apply Nat.eq_of_testBit_eq
    intro i
    rw [Nat.testBit_and, Nat.testBit_two_pow_sub_succ (show b < 2 ^ 64 by omega), Nat.testBit_two_pow_sub_succ hb, Nat.testBit_two_pow_sub_one]
    by_cases hi : i < n
    · simp [hi, show i < 64 by omega]
    · simp [hi]
  rw [e, this]; omega

theorem not_state {t : Int} {a : List Int} (ha : issueOkB t a = true) : statementL t (allOf t - unionI a) = notL t a := by
  unfold statementL; rw [rest_ok ha, law_not ha]; rfl
theorem iGrantedBy_ok {t : Int} {xs : List Int} {g : Int} (h : Hid (grantedI t xs = g)) (A : Option Addr) (nn c : Nat) (w : World) (ha : Row w A nn c xs) :
    Calls Try.prog 88 #[.int .i64 t, .slice A nn c] w fun e w' => e = .returned (.int .i64 g) ∧ ∃ n, w' = w.drewN n :=
  (iGrantedBy t A nn c xs w ha.hn ha.hl ha.hc ha.hm ha.hA).mono fun _ _ ⟨he, hw⟩ => ⟨he.trans (ret_int h.out), hw⟩
theorem granted_ok {t : Int} {xs : List Int} (h : issueOkB t xs = true) : grantedI t xs = unionI xs := by unfold grantedI; rw [h]; rfl

set_option maxHeartbeats 2000000 in
theorem iNotIssue (t : Int) (A : Option Addr) (na ca : Nat) (a : List Int) (w : World) (ha : Row w A na ca a) :
    Calls Try.prog 63 #[.int .i64 t, .slice A na ca] w fun e w' => ∃ v, e = .returned v ∧ Owns w' w.heap.size v (notL t a) ∧ Below w.heap.size w w' := by
  have HA := Lib.hid ha
  obtain rfl := ha.hn
  clear ha
  obtain ⟨x, HX⟩ : ∃ x, Hid (issueOkB t a = x) := ⟨_, rfl⟩
  cases x
  · have HF := Lib.hid (not_nil HX.out)
    go_enter Try.func63, Try.ntmps63
    go_wp2_with fail
    refine (iIssueOk_is HX _ _ _ _ rfl HA.out.hl HA.out.hc HA.out.hm HA.out.hA).mono ?_
    rintro e w' ⟨rfl, m1, rfl⟩
    go_wp2_with fail
    go_ret
    exact ⟨_, rfl, by rw [HF.out]; exact Owns.nil _ _, bel_drewN (Below.refl _ _) _⟩
  · obtain ⟨ht1, ht3⟩ := issue_things HX.out
    have HG := Lib.hid (granted_ok HX.out)
    have hu := union_all HX.out
    have HS := Lib.hid (not_state HX.out)
    obtain ⟨g, hg⟩ : ∃ g, g = unionI a := ⟨_, rfl⟩
    rw [← hg] at HG HS hu
    have ht : t = 1 ∨ t = 2 ∨ t = 3 := by omega
    clear ht1 ht3 hg
    obtain ⟨hu0, hu1⟩ := hu
    rcases ht with rfl | rfl | rfl
    · have HBN : Hid (bits .andNot .i64 3 g = 3 - g) := andNot_rest (n := 2) (by omega) hu0 hu1
      have HS2 : Hid (statementL 1 (3 - g) = notL 1 a) := HS.out
      clear hu1
      go_enter Try.func63, Try.ntmps63
      go_wp2_with fail
      refine (iIssueOk_is HX _ _ _ _ rfl HA.out.hl HA.out.hc HA.out.hm HA.out.hA).mono ?_
      rintro e w' ⟨rfl, m2, rfl⟩
      go_wp2_with fail
      refine (iWorldsOf _ _).mono ?_
      rintro e w' ⟨rfl, rfl⟩
      simp only [worldsOf]
      go_wp2_with fail
      refine (iGrantedBy_ok HG _ _ _ _ (HA.out.drewN _)).mono ?_
      rintro e w' ⟨rfl, m3, rfl⟩
      go_wp2_with fail
      rw [HBN.out]
      refine (iStatementOf _ _ _).mono ?_
      rintro e w1 ⟨v, rfl, ho, hb⟩
      rw [HS2.out] at ho
      have HO1 := Lib.hid ho
      have HB1 := Lib.hid (bel_trans (bel_drewN (Below.refl _ _) _) hb)
      clear ho hb
      go_wp2_with fail
      go_ret
      exact ⟨_, rfl, HO1.out, HB1.out⟩
    · have HBN : Hid (bits .andNot .i64 15 g = 15 - g) := andNot_rest (n := 4) (by omega) hu0 hu1
      have HS2 : Hid (statementL 2 (15 - g) = notL 2 a) := HS.out
      clear hu1
      go_enter Try.func63, Try.ntmps63
      go_wp2_with fail
      refine (iIssueOk_is HX _ _ _ _ rfl HA.out.hl HA.out.hc HA.out.hm HA.out.hA).mono ?_
      rintro e w' ⟨rfl, m4, rfl⟩
      go_wp2_with fail
      refine (iWorldsOf _ _).mono ?_
      rintro e w' ⟨rfl, rfl⟩
      simp only [worldsOf]
      go_wp2_with fail
      refine (iGrantedBy_ok HG _ _ _ _ (HA.out.drewN _)).mono ?_
      rintro e w' ⟨rfl, m5, rfl⟩
      go_wp2_with fail
      rw [HBN.out]
      refine (iStatementOf _ _ _).mono ?_
      rintro e w1 ⟨v, rfl, ho, hb⟩
      rw [HS2.out] at ho
      have HO1 := Lib.hid ho
      have HB1 := Lib.hid (bel_trans (bel_drewN (Below.refl _ _) _) hb)
      clear ho hb
      go_wp2_with fail
      go_ret
      exact ⟨_, rfl, HO1.out, HB1.out⟩
    · have HBN : Hid (bits .andNot .i64 255 g = 255 - g) := andNot_rest (n := 8) (by omega) hu0 hu1
      have HS2 : Hid (statementL 3 (255 - g) = notL 3 a) := HS.out
      clear hu1
      go_enter Try.func63, Try.ntmps63
      go_wp2_with fail
      refine (iIssueOk_is HX _ _ _ _ rfl HA.out.hl HA.out.hc HA.out.hm HA.out.hA).mono ?_
      rintro e w' ⟨rfl, m6, rfl⟩
      go_wp2_with fail
      refine (iWorldsOf _ _).mono ?_
      rintro e w' ⟨rfl, rfl⟩
      simp only [worldsOf]
      go_wp2_with fail
      refine (iGrantedBy_ok HG _ _ _ _ (HA.out.drewN _)).mono ?_
      rintro e w' ⟨rfl, m7, rfl⟩
      go_wp2_with fail
      rw [HBN.out]
      refine (iStatementOf _ _ _).mono ?_
      rintro e w1 ⟨v, rfl, ho, hb⟩
      rw [HS2.out] at ho
      have HO1 := Lib.hid ho
      have HB1 := Lib.hid (bel_trans (bel_drewN (Below.refl _ _) _) hb)
      clear ho hb
      go_wp2_with fail
      go_ret
      exact ⟨_, rfl, HO1.out, HB1.out⟩

theorem not_len (t : Int) (a : List Int) : (notL t a).length ≤ 70 := by
  cases h : issueOkB t a
  · rw [not_nil h]; simp
  · rw [law_not h]; simp
set_option maxHeartbeats 2000000 in
theorem iWhetherIssue (t : Int) (A : Option Addr) (na ca : Nat) (a : List Int) (w : World) (ha : Row w A na ca a) :
    Calls Try.prog 22 #[.int .i64 t, .slice A na ca] w fun e w' => ∃ v, e = .returned v ∧ Owns w' w.heap.size v (whetherL t a) ∧ Below w.heap.size w w' := by
  have HA := Lib.hid ha
  obtain rfl := ha.hn
  have hnl := not_len t a
  have HW := Lib.hid (whether_all (t := t) (a := a))
  clear ha
  go_enter Try.func22, Try.ntmps22
  go_wp2_with fail
  refine (iNotIssue t A _ ca a _ HA.out).mono ?_
  rintro e w1 ⟨v, rfl, ho, hb⟩
  obtain ⟨A1, c1, rfl, hc1, hm1, hn1, _⟩ := ho.form
  have HR1 := Lib.hid (ho.row (by omega))
  have HB1 := Lib.hid hb
  have hsz1 := hb.size
  clear ho hb hm1 hn1
  go_wp2_with fail
  refine (iEitherIssue t A _ _ _ _ _ a (notL t a) _ (HA.out.below HB1.out) HR1.out).mono ?_
  rintro e w2 ⟨v, rfl, ho, hb⟩
  have HO2 := Lib.hid ho
  have HB2 := Lib.hid (bel_trans HB1.out hb)
  clear ho hb
  go_wp2_with fail
  go_ret
  exact ⟨_, rfl, by rw [HW.out]; exact HO2.out.base hsz1, HB2.out⟩
end Go.Proofs.Ytkjjpleedobkdaa

namespace Go.Proofs.Ytkjjpleedobkdaa
open Go.RowKit

theorem step_append1 {W : World} {ops : Array Oper} {o : Oper} {a : Act} {K : Act → World → Prop} {Q : Exit → Act → World → Prop} {E : Prop} (hgd : o.guard = none) (s x : Operand)
    (ho : o.op = .call { callee := .builtin .append, args := #[s, x], argTypes := #[23, 23] }) (base : Nat) (v : Value) (xs : List Int) (hs : a.eval s = v) (hown : Owns W base v xs)
    (y : Int) (hx : a.eval x = .slice (some ⟨W.heap.size, 0, none⟩) 1 1) (hl : xs.length ≤ 1048576) (hb : base ≤ W.heap.size)
    (h : ∀ v' w', Owns w' base v' (xs ++ [y]) → (W.alloc (.cells #[.int .i64 y] 3)).grownBy w' v.ownBlock → K (a.put o.dst v') w') :
    if Region.wanted o (yielded ops a.tmps) = true then Oper.wp Try.prog o a (W.alloc (.cells #[.int .i64 y] 3)) K Q else E := by
  have hw : Region.wanted o (yielded ops a.tmps) = true := by simp [Region.wanted, hgd]
  rw [if_pos hw]
  obtain ⟨i0, hi0, hz0, hz1, hz2⟩ := info_parts int_info
  refine wp_append_own _ s x 23 ho base 3 i0 (.int .i64 0) 1 8 Try.underlying23 hi0 hz0 hz1 hz2 rfl (by decide) v xs.length (xs.map (Value.int .i64)) hs (World.ownsRow.alloc hown _)
    ⟨W.heap.size, 0, none⟩ 1 1 [.int .i64 y] hx rfl (cell_one_new _ _ _) (fun u hu => by rw [List.mem_singleton] at hu; subst hu; rfl) (by simp only [maxLen]; omega) (by omega) (by rw [World.size_alloc]; omega) ?_
  intro v' w' h1 h2 _
  refine h v' w' ?_ h2
  unfold Owns
  simpa using h1

theorem okTwo_no {t : Int} {a b : List Int} {y : Bool} (h1 : Hid (issueOkB t a = true)) (h2 : Hid (issueOkB t b = y)) : okTwo t a b = y := by unfold okTwo; rw [h1.out, h2.out]; rfl
theorem okTwo_no1 {t : Int} {a b : List Int} (h1 : Hid (issueOkB t a = false)) : okTwo t a b = false := by unfold okTwo; rw [h1.out]; rfl

end Go.Proofs.Ytkjjpleedobkdaa

namespace Go.Proofs.Ytkjjpleedobkdaa
open Go.RowKit

end Go.Proofs.Ytkjjpleedobkdaa

namespace Go.Proofs.Ytkjjpleedobkdaa
open Go.RowKit

def TwoPost (g u : Nat) (w : World) (e : Ending) (w' : World) : Prop :=
  ∃ (t : Int) (v1 : Value) (xs : List Int) (v2 : Value) (ys : List Int), e = .returned (.tuple #[.int .i64 t, v1, v2]) ∧ -1 ≤ t ∧ t ≤ 4 ∧ Owns w' w.heap.size v1 xs ∧ xs.length ≤ 257 ∧ Owns w' w.heap.size v2 ys ∧ ys.length ≤ 257 ∧ Rd w' g (u + 120) ∧ w.grownBy w' (some g)
theorem either_len {t : Int} {a b : List Int} : (eitherL t a b).length ≤ 70 := by
  cases h : okTwo t a b
  · rw [either_nil h]; simp
  · obtain ⟨h1, h2⟩ := okTwo_ok h
    exact (issue_ne (either_ok h1 h2)).2

def DrawTLL (w : World) (e : Ending) (w' : World) : Prop :=
  ∃ (t : Int) (v1 : Value) (xs : List Int) (v2 : Value) (ys : List Int), e = .returned (.tuple #[.int .i64 t, v1, v2]) ∧ -1 ≤ t ∧ t ≤ 4 ∧ Owns w' w.heap.size v1 xs ∧ xs.length ≤ 257 ∧ Owns w' w.heap.size v2 ys ∧ ys.length ≤ 257 ∧ Below w.heap.size w w'
def DrawTL2 (w : World) (e : Ending) (w' : World) : Prop :=
  ∃ (t : Int) (v1 : Value) (xs : List Int), e = .returned (.tuple #[.int .i64 t, v1]) ∧ -1 ≤ t ∧ t ≤ 4 ∧ Owns w' w.heap.size v1 xs ∧ xs.length ≤ 257 ∧ Below w.heap.size w w'

end Go.Proofs.Ytkjjpleedobkdaa

namespace Go.Proofs.Ytkjjpleedobkdaa
open Go.RowKit

theorem Nums.later {k : IntKind} {w w' : World} {A A2 : Option Addr} {n2 c2 : Nat} {xs : List Int} {B : Nat} (h : Nums k w A xs) (hg : w.grownBy w' (Value.slice A2 n2 c2).ownBlock)
    (h1 : ∀ ad, A = some ad → B ≤ ad.block) (h2 : ∀ ad, A2 = some ad → ad.block < B) : Nums k w' A xs := by
  refine h.grown hg fun ad ha e => ?_
  have hb := h1 ad ha
  cases A2 with
  | none => cases e
  | some ad2 =>
    have : ad.block = ad2.block := by simpa [Value.ownBlock] using e
    have := h2 ad2 rfl
    omega
theorem Owns.later {w w' : World} {base : Nat} {v : Value} {A2 : Option Addr} {n2 c2 : Nat} {xs : List Int} (h : Owns w base v xs) (hg : w.grownBy w' (Value.slice A2 n2 c2).ownBlock) (h2 : ∀ ad, A2 = some ad → ad.block < base) : Owns w' base v xs := by
  refine h.kept hg ?_
  cases e : v.ownBlock with
  | none => exact .inl rfl
  | some k =>
    right
    intro e2
    have := (World.ownsRow.lt h k e).1
    cases A2 with
    | none => cases e2
    | some ad2 =>
      have e3 : k = ad2.block := by simpa [Value.ownBlock] using e2
      have := h2 ad2 rfl
      omega
theorem both_len {t : Int} {a b : List Int} : (bothL t a b).length ≤ 70 := by
  cases h : okTwo t a b
  · rw [both_nil h]; simp
  · obtain ⟨h1, h2⟩ := okTwo_ok h
    exact (issue_ne (both_ok h1 h2)).2
theorem if_le {t : Int} {a b : List Int} : (ifL t a b).length ≤ 70 := by
  cases h : okTwo t a b
  · rw [if_nil h]; simp
  · obtain ⟨h1, h2⟩ := okTwo_ok h
    exact (issue_ne (if_ok h1 h2)).2
theorem whether_len {t : Int} {a : List Int} : (whetherL t a).length ≤ 70 := by rw [whether_all]; exact either_len

end Go.Proofs.Ytkjjpleedobkdaa

namespace Go.Proofs.Ytkjjpleedobkdaa
open Go.RowKit

theorem rSettles {t : Int} {xs : List Int} {s : Int} {b : Bool} (h : Hid (settlesB t xs s = b)) {A : Option Addr} {nn c : Nat} {w : World} (r : Row w A nn c xs) :
    Calls Try.prog 25 #[.int .i64 t, .slice A nn c, .int .i64 s] w fun e w' => e = .returned (.bool b) ∧ ∃ n, w' = w.drewN n := iSettles_is h _ _ _ _ r.hn r.hl r.hc r.hm r.hA
theorem rIssueOk {t : Int} {xs : List Int} {b : Bool} (h : Hid (issueOkB t xs = b)) {A : Option Addr} {nn c : Nat} {w : World} (r : Row w A nn c xs) :
    Calls Try.prog 50 #[.int .i64 t, .slice A nn c] w fun e w' => e = .returned (.bool b) ∧ ∃ n, w' = w.drewN n := iIssueOk_is h _ _ _ _ r.hn r.hl r.hc r.hm r.hA
theorem rSIssueOk {t : Int} {xs : List Int} {b : Bool} (h : Hid (issueOkB t xs = b)) {A : Option Addr} {nn c : Nat} {w : World} (r : Row w A nn c xs) :
    Calls Try.prog 16 #[.int .i64 t, .slice A nn c] w fun e w' => e = .returned (.bool b) ∧ ∃ n, w' = w.drewN n := sIssueOk_is h _ _ _ _ r.hn r.hl r.hA
theorem rSame {xs ys : List Int} {v : Bool} (h : Hid (decide (xs = ys) = v)) {A B : Option Addr} {nn c mm d : Nat} {w : World} (r : Row w A nn c xs) (q : Row w B mm d ys) :
    Calls Try.prog 18 #[.slice A nn c, .slice B mm d] w fun e w' => e = .returned (.bool v) ∧ ∃ n, w' = w.drewN n :=
  (lSameInts A B nn mm c d xs ys w r.hn q.hn r.hl q.hl r.hA q.hA).mono fun _ _ ⟨he, hw⟩ => ⟨he.trans (ret_bool h.out), hw⟩
theorem same_self (xs : List Int) : Hid (decide (xs = xs) = true) := decide_eq_true rfl
theorem not_empty {t : Int} {r : List Int} (h : issueOkB t r = true) : ((r.length : Int) == 0) = false := by
  have := (issue_ne h).1
  rw [beq_eq_false_iff_ne]; omega

end Go.Proofs.Ytkjjpleedobkdaa
