/-
  What the proofs of this seat's statements share (TogJ, TogK, TogL).
-/
import Derived.Lib.AppendZeros
import Derived.WalkSmall
import Derived.Test.YtmdogidflaplkaaU6

namespace Go.Proofs.Ytmdogidflaplkaa
open Go.RowKit

theorem Owns.row {w : World} {base : Nat} {A : Option Addr} {n c : Nat} {xs : List Int} (h : Owns w base (.slice A n c) xs) (hl : xs.length ≤ 1048576) : Row w A n c xs := by
  obtain ⟨A', c', e, hc, hm, hn, _⟩ := h.form
  simp only [Value.slice.injEq] at e
  obtain ⟨rfl, rfl, rfl⟩ := e
  exact ⟨rfl, hl, hc, hm, hn⟩
def bothTo (a b : List Int) (k j : Nat) : List Int := ((a.take k).flatMap fun x => b.map fun y => andI x y) ++ (match a[k]? with | some x => (b.take j).map fun y => andI x y | none => [])
theorem bothTo_zero (a b : List Int) : bothTo a b 0 0 = [] := by unfold bothTo; cases a[0]? <;> simp
theorem bothTo_in {a b : List Int} {k j : Nat} {x y : Int} (hx : Hid (a[k]? = some x)) (hy : Hid (b[j]? = some y)) : bothTo a b k (j + 1) = bothTo a b k j ++ [andI x y] := by
  unfold bothTo; rw [hx.out]; simp only []; rw [take_snoc hy]; simp
theorem bothTo_out {a b : List Int} {k : Nat} {x : Int} (hx : Hid (a[k]? = some x)) : bothTo a b (k + 1) 0 = bothTo a b k b.length := by
  unfold bothTo; rw [hx.out, take_snoc hx]; simp only [List.take_length, List.take_zero, List.map_nil]
  cases a[k + 1]? <;> simp
theorem bothTo_end (a b : List Int) : bothTo a b a.length 0 = bothX a b := by
  unfold bothTo bothX; rw [List.take_length]; simp
theorem bothX_len (a b : List Int) : (bothX a b).length = a.length * b.length := by
  unfold bothX
  induction a with
  | nil => simp
  | cons x r ih => rw [List.flatMap_cons, List.length_append, ih, List.length_map, List.length_cons, Nat.succ_mul]; omega
theorem bothTo_len (a b : List Int) (k j : Nat) (hk : k ≤ a.length) : (bothTo a b k j).length ≤ (k + 1) * b.length := by
  unfold bothTo
  rw [List.length_append]
  have h1 : ((a.take k).flatMap fun x => b.map fun y => andI x y).length = k * b.length := by
    have := bothX_len (a.take k) b
    unfold bothX at this
    rw [this, List.length_take, Nat.min_eq_left hk]
  rw [h1, Nat.succ_mul]
  refine Nat.add_le_add_left ?_ _
  cases a[k]? with
  | none => simp
  | some x => simp only [List.length_map, List.length_take]; omega
theorem bothTo_small {a b : List Int} (ha : a.length ≤ 70) (hb : b.length ≤ 70) (k j : Nat) (hk : k ≤ a.length) : (bothTo a b k j).length ≤ 4970 :=
  Nat.le_trans (bothTo_len a b k j hk) (Nat.le_trans (Nat.mul_le_mul (show k + 1 ≤ 71 by omega) hb) (by omega))
theorem both_nil {t : Int} {a b : List Int} (h : okTwo t a b = false) : bothL t a b = [] := by
  unfold okTwo at h; unfold bothL; rw [h]; rfl
theorem bel_none {B : Nat} {a w w' : World} (h : Below B a w) (hg : w.grownBy w' none) (hB : B ≤ w.heap.size) : Below B a w' :=
  h.grown hg hB (fun k e => by cases e)

set_option maxRecDepth 100000 in
set_option maxHeartbeats 4000000 in
theorem iBothIssues (t : Int) (A B : Option Addr) (na ca nb cb : Nat) (a b : List Int) (w : World) (ha : Row w A na ca a) (hb : Row w B nb cb b) :
    Calls Try.prog 77 #[.int .i64 t, .slice A na ca, .slice B nb cb] w fun e w' => ∃ v, e = .returned v ∧ Owns w' w.heap.size v (bothL t a b) ∧ Below w.heap.size w w' := by
  have HA := Lib.hid ha
  have HB := Lib.hid hb
  obtain rfl := ha.hn
  obtain rfl := hb.hn
  clear ha hb
  obtain ⟨x, HX⟩ : ∃ x, Hid (okTwo t a b = x) := ⟨_, rfl⟩
  cases x
  · have HF := Lib.hid (both_nil HX.out)
    go_enter Try.func77, Try.ntmps77
    go_wp2_with fail
    refine (iIssuesOk_is HX HA.out HB.out).mono ?_
    rintro e w' ⟨rfl, m1, rfl⟩
    go_wp2_with fail
    go_ret
    exact ⟨_, rfl, by rw [HF.out]; exact Owns.nil _ _, bel_drewN (Below.refl _ _) _⟩
  · obtain ⟨h1, h2⟩ := okTwo_ok HX.out
    obtain ⟨hla, hla2⟩ := issue_ne h1
    obtain ⟨hlb, hlb2⟩ := issue_ne h2
    have HRA := Lib.hid (issue_range h1)
    have HRB := Lib.hid (issue_range h2)
    have HF := Lib.hid (both_eq h1 h2)
    have HS := Lib.hid (sets_range (bothX_sets (b := b) h1))
    obtain ⟨p, hp⟩ : ∃ p, p = a.length * b.length := ⟨_, rfl⟩
    have hp2 : p ≤ 4900 := by rw [hp]; exact Nat.le_trans (Nat.mul_le_mul hla2 hlb2) (by omega)
    have hp1 : 1 ≤ p := by rw [hp]; exact Nat.mul_pos hla hlb
    have HP : Hid ((a.length : Int) * (b.length : Int) = (p : Int)) := by unfold Hid; rw [hp]; push_cast; rfl
    have HP2 : Hid ((bothX a b).length = p) := by unfold Hid; rw [hp]; exact bothX_len a b
    obtain ⟨i0, hi, hz0, hz1, hz2⟩ := info_parts int_info
    clear hp h1 h2
    go_enter Try.func77, Try.ntmps77
    go_wp2_with fail
    refine (iIssuesOk_is HX HA.out HB.out).mono ?_
    rintro e w' ⟨rfl, m2, rfl⟩
    go_wp2_with (at_make; refine wpList_make_own _ rfl _ _ 59 rfl w.heap.size 3 i0 (.int .i64 0) 1 Try.underlying59 hi hz0 hz1 .i64 .i64 _ p rfl rfl (by rw [HP.out]; exact IntWalk.wrap64_in _ ⟨by omega, by omega⟩) (by rw [hz2]; omega) (by unfold maxLen; omega) (Nat.le_refl _) ?_; intro w1 hown1 hgrow1)
    clear hi hz0 hz1 hz2 HP
    have HB1 : Hid (Below w.heap.size w w1) := bel_none (w := w.drewN m2) (bel_drewN (Below.refl _ _) _) hgrow1 (Nat.le_refl _)
    have HO1 : Hid (Owns w1 w.heap.size (.slice (some ⟨w.heap.size, 0, none⟩) 0 p) []) := hown1
    clear hown1 hgrow1
    go_loopw [7, 25] (fun v i wr => ∃ k : Nat, k ≤ a.length ∧ i = .int .i64 k ∧ Owns wr w.heap.size v (bothTo a b k 0) ∧ Below w.heap.size w wr) (fun _ i _ => a.length - (Go.RowKit.intOf i).toNat)
    case atStart => exact ⟨0, Nat.zero_le _, rfl, by rw [bothTo_zero]; exact HO1.out, HB1.out⟩
    case round =>
      obtain ⟨k, hk, rfl, hown, hbel⟩ := hrel
      have HOW := Lib.hid hown
      have HBW := Lib.hid hbel
      clear hown hbel
      by_cases hlt : k < a.length
      · obtain ⟨bb, off, x, rfl, hcell, hx, _⟩ := (HA.out.hA.below HBW.out).elem hlt
        obtain ⟨he1, he2⟩ := HRA.out x (elem_mem hx)
        go_wp2_with fail
        clear hcell
        go_loopw [7, 31] (fun v i wi => ∃ j : Nat, j ≤ b.length ∧ i = .int .i64 j ∧ Owns wi w.heap.size v (bothTo a b k j) ∧ Below w.heap.size w wi) (fun _ i _ => b.length - (Go.RowKit.intOf i).toNat)
        case atStart => exact ⟨0, Nat.zero_le _, rfl, HOW.out, HBW.out⟩
        case round =>
          obtain ⟨j, hj, rfl, hown, hbel⟩ := hrel
          have HOI := Lib.hid hown
          have HBI := Lib.hid hbel
          clear hown hbel
          by_cases hjt : j < b.length
          · obtain ⟨bb2, off2, y, rfl, hcell, hy, _⟩ := (HB.out.hA.below HBI.out).elem hjt
            obtain ⟨hf1, hf2⟩ := HRB.out y (elem_mem hy)
            have HBA := Lib.hid (bits_and x y he1 (by omega) hf1 (by omega))
            have HT := Lib.hid (bothTo_in hx hy)
            have hsm := bothTo_small hla2 hlb2 k j hk
            go_wp2_with (at_builtin; refine wp_append1 (W := wr) rfl _ _ rfl w.heap.size u7 (bothTo a b k j) rfl HOI.out _ rfl (by omega) HBI.out.size ?_; intro v' w' hown' hgrow)
            have hb' := below_append HBI.out HBI.out.size HOI.out (Nat.le_refl _) hgrow
            rw [HBA.out] at hown'
            go_roundw
            case rel => exact ⟨j + 1, by omega, by go_num, by rw [HT.out]; exact hown', hb'⟩
            case measure => simp [Go.RowKit.intOf]; omega
          · obtain rfl : j = b.length := by omega
            have HT := Lib.hid (bothTo_out (b := b) hx)
            go_wp2_with fail
            go_roundw
            case rel => exact ⟨k + 1, by omega, by go_num, by rw [HT.out]; exact HOI.out, HBI.out⟩
            case measure => simp [Go.RowKit.intOf]; omega
      · obtain rfl : k = a.length := by omega
        have HE : Hid (bothTo a b a.length 0 = bothX a b) := bothTo_end a b
        rw [HE.out] at HOW
        obtain ⟨A1, c1, rfl, hc1, hm1, hn1, _⟩ := HOW.out.form
        have HN1 := Lib.hid hn1
        have hpos : 1 ≤ (bothX a b).length := by rw [HP2.out]; exact hp1
        have hle : (bothX a b).length ≤ 1048576 := by rw [HP2.out]; omega
        clear hm1 hn1
        go_wp2_with fail
        refine (iGreatest _ _ _ (bothX a b) _ rfl hpos hle HS.out HN1.out).mono ?_
        rintro e w2 ⟨v, rfl, ho, hb⟩
        have HO2 := Lib.hid ho
        have HB2 := Lib.hid (bel_trans HBW.out hb)
        have hsz := HBW.out.size
        clear ho hb
        go_wp2_with fail
        go_ret
        exact ⟨_, rfl, by rw [HF.out]; exact HO2.out.base hsz, HB2.out⟩
end Go.Proofs.Ytmdogidflaplkaa

namespace Go.Proofs.Ytmdogidflaplkaa
open Go.RowKit

theorem wp_appendL {W : World} {ops : Array Oper} {rest : List Oper} {o : Oper} {a : Act} {Q : Exit → Act → World → Prop} (hgd : o.guard = none) (s x : Operand)
    (ho : o.op = .call { callee := .builtin .append, args := #[s, x], argTypes := #[59, 59] }) (base : Nat) (v : Value) (xs : List Int) (hs : a.eval s = v) (hown : Owns W base v xs)
    (ys : List Int) (ad : Option Addr) (m c : Nat) (hx : a.eval x = .slice ad m c) (hm : m = ys.length) (hpos : 1 ≤ m) (hn : Nums .i64 W ad ys) (hl : xs.length + m ≤ 1048576) (hb : base ≤ W.heap.size)
    (h : ∀ v' w', Owns w' base v' (xs ++ ys) → W.grownBy w' v.ownBlock → wpList Try.prog ops Q rest (a.put o.dst v') w') :
    wpList Try.prog ops Q (o :: rest) a W := by
  subst hm
  obtain ⟨i0, hi0, hz0, hz1, hz2⟩ := info_parts int_info
  obtain ⟨b, off, rfl, _, hc⟩ := hn hpos
  refine wpList_append_own _ hgd s x 59 ho base 3 i0 (.int .i64 0) 1 8 Try.underlying59 hi0 hz0 hz1 hz2 rfl (by decide) v xs.length (xs.map (Value.int .i64)) hs hown
    ⟨b, off, none⟩ ys.length c (ys.map (Value.int .i64)) hx (by simp) ?_ (fun u hu => ?_) (by simp only [maxLen]; omega) (by omega) hb ?_
  · intro j u hj
    rw [List.getElem?_map] at hj
    obtain ⟨y, hy, rfl⟩ := Option.map_eq_some_iff.1 hj
    obtain ⟨hlt, he⟩ := List.getElem?_eq_some_iff.1 hy
    have := hc j hlt
    have e : (⟨b, off, none⟩ : Addr).add j = ⟨b, off + j, none⟩ := by unfold Addr.add; split <;> simp_all
    rw [e, this, List.getD_eq_getElem?_getD, hy]; rfl
  · obtain ⟨y, _, rfl⟩ := List.mem_map.1 hu; rfl
  · intro v' w' h1 h2 _
    refine h v' w' ?_ h2
    unfold Owns
    rw [List.map_append, List.length_append]
    exact h1
theorem below_appendL {B : Nat} {a W w' : World} {base : Nat} {v : Value} {xs : List Int} (h : Below B a W) (hB : B ≤ W.heap.size) (hown : Owns W base v xs) (hbase : B ≤ base) (hg : W.grownBy w' v.ownBlock) : Below B a w' :=
  h.grown hg hB fun k e => by have := (World.ownsRow.lt hown k e).1; omega

set_option maxRecDepth 100000 in
set_option maxHeartbeats 1000000 in
theorem iGrow (m : Int) (n : Nat) (hmn : m = (n : Int)) (w : World) (h1 : 1 ≤ n) (hl : n ≤ 1048576) :
    Calls Try.prog 97 #[.slice none 0 0, .int .i64 m] w fun e w' => ∃ v, e = .returned v ∧ Owns w' w.heap.size v [] ∧ Below w.heap.size w w' := by
  subst hmn
  obtain ⟨i0, hi, hz0, hz1, hz2⟩ := info_parts int_info
  have happ := Lib.run_append_nil_zeros (P := Try.prog) w 59 3 59 3 i0 (.int .i64 0) .i64 .i64 Try.underlying59 Try.underlying3 hi hz0 n (by omega) (by omega) (by omega) (by rw [hz2]; omega)
  obtain ⟨cap, hcap⟩ : ∃ c, c = grownCap w n 0 3 := ⟨_, rfl⟩
  have hc1 : n ≤ cap := by rw [hcap]; exact grownCap_ge _ _ _ _
  have hc2 : cap ≤ maxLen := by rw [hcap]; exact grownCap_le_maxLen _ _ _ _ (by simp only [maxLen]; omega)
  rw [← hcap] at happ
  obtain ⟨M, hM⟩ : ∃ M, M = Builtin.zeroCells (Value.int .i64 0).cells n ++ Builtin.zeroCells (Value.int .i64 0).cells (cap - n) := ⟨_, rfl⟩
  have hMs : M.size = cap * 1 := by rw [hM, Array.size_append, size_zeroCells, size_zeroCells]; show n * 1 + (cap - n) * 1 = cap * 1; omega
  rw [← hM] at happ
  have hown : Hid (Owns ((w.drew).alloc (.cells M 3)) w.heap.size (.slice (some ⟨w.heap.size, 0, none⟩) 0 cap) []) := World.ownsRow_made w.drew M cap (Nat.le_refl _) hc2 hMs
  have hbel : Hid (Below w.heap.size w ((w.drew).alloc (.cells M 3))) := (bel_drewN (Below.refl _ w) 1).alloc (Nat.le_refl _) _
  have HAPP := Lib.hid happ
  have hc3 : cap ≤ 9223372036854775807 := by unfold maxLen at hc2; omega
  clear hM hMs hcap happ hi hz0 hz1 hz2 hc2
  go_enter Try.func97, Try.ntmps97
  go_wp2_with (at_builtin; refine Lib.wpList_append_run _ rfl _ _ _ _ rfl _ _ rfl rfl _ _ HAPP.out ?_)
  go_ret
  exact ⟨_, rfl, hown.out, hbel.out⟩

set_option maxRecDepth 100000 in
set_option maxHeartbeats 2000000 in
theorem iConcat (g : Nat) (A B : Option Addr) (na ca nb cb : Nat) (a b : List Int) (w : World) (hg : g < w.heap.size) (h0 : w.cell? ⟨g, 0, none⟩ = some (.slice A na ca)) (h1 : w.cell? ⟨g, 1, none⟩ = some (.slice B nb cb))
    (ha : Row w A na ca a) (hb : Row w B nb cb b) (hla : 1 ≤ na) (hlb : 1 ≤ nb) (hl : na + nb ≤ 1000000) :
    Calls Try.prog 91 #[.slice (some ⟨g, 0, none⟩) 2 2] w fun e w' => ∃ v, e = .returned v ∧ Owns w' w.heap.size v (a ++ b) ∧ Below w.heap.size w w' := by
  have HA := Lib.hid ha
  have HB := Lib.hid hb
  obtain rfl := ha.hn
  obtain rfl := hb.hn
  clear ha hb
  have HG := Lib.hid hg
  have HC : Hid (∀ W, Below w.heap.size w W → W.cell? ⟨g, 0, none⟩ = some (.slice A a.length ca) ∧ W.cell? ⟨g, 1, none⟩ = some (.slice B b.length cb)) := fun W h => ⟨(h.cell (p := ⟨g, 0, none⟩) hg).trans h0, (h.cell (p := ⟨g, 1, none⟩) hg).trans h1⟩
  go_enter Try.func91, Try.ntmps91
  go_wp2_with fail
  refine wp_loop_rounds 3 ?_
  rw [rounds_succ]
  go_wp2_with fail
  rw [rounds_succ]
  go_wp2_with fail
  rw [rounds_succ]
  go_wp2_with fail
  refine (iGrow _ (a.length + b.length) (by omega) _ (by omega) (by omega)).mono ?_
  rintro e w1 ⟨v, rfl, ho, hb⟩
  have HO1 := Lib.hid ho
  have HB1 := Lib.hid hb
  have hsz1 := hb.size
  obtain ⟨hc0, hc1⟩ := HC.out _ hb
  have HN1 := Lib.hid (HA.out.hA.below hb)
  clear ho hb
  go_wp2_with fail
  refine wp_loop_rounds 3 ?_
  rw [rounds_succ]
  go_wp2_with (at_builtin; refine wp_appendL rfl _ _ rfl w.heap.size _ [] rfl HO1.out a A a.length ca rfl rfl hla HN1.out (by simp; omega) (by omega) ?_; intro v2 w2 hown2 hgrow2)
  have HO2 := Lib.hid hown2
  have HB2 := Lib.hid (below_appendL HB1.out hsz1 HO1.out (Nat.le_refl _) hgrow2)
  clear hown2 hgrow2 hc0 hc1
  rw [rounds_succ]
  obtain ⟨hc0, hc1⟩ := HC.out _ HB2.out
  have HN2 := Lib.hid (HB.out.hA.below HB2.out)
  have hsz2 := HB2.out.size
  go_wp2_with (at_builtin; refine wp_appendL rfl _ _ rfl w.heap.size v2 a rfl HO2.out b B b.length cb rfl rfl hlb HN2.out (by omega) (by omega) ?_; intro v3 w3 hown3 hgrow3)
  have HO3 := Lib.hid hown3
  have HB3 := Lib.hid (below_appendL HB2.out hsz2 HO2.out (Nat.le_refl _) hgrow3)
  rw [rounds_succ]
  go_wp2_with fail
  go_ret
  exact ⟨_, rfl, HO3.out, HB3.out⟩
end Go.Proofs.Ytmdogidflaplkaa

namespace Go.Proofs.Ytmdogidflaplkaa
open Go.RowKit

theorem either_nil {t : Int} {a b : List Int} (h : okTwo t a b = false) : eitherL t a b = [] := by
  unfold okTwo at h; unfold eitherL; rw [h]; rfl
theorem if_nil {t : Int} {a b : List Int} (h : okTwo t a b = false) : ifL t a b = [] := by
  unfold okTwo at h; unfold ifL; rw [h]; rfl
theorem not_nil {t : Int} {a : List Int} (h : issueOkB t a = false) : notL t a = [] := by unfold notL; rw [h]; rfl
theorem whether_all {t : Int} {a : List Int} : whetherL t a = eitherL t a (notL t a) := by
  unfold whetherL
  cases h : issueOkB t a
  · unfold eitherL; rw [h]; rfl
  · rfl

theorem two_cells (w : World) (u v : Value) (t : TypeId) : (w.alloc (.cells #[u, v] t)).cell? ⟨w.heap.size, 0, none⟩ = some u ∧ (w.alloc (.cells #[u, v] t)).cell? ⟨w.heap.size, 1, none⟩ = some v :=
  ⟨cell_two_new w u v t 0 u rfl, cell_two_new w u v t 1 v rfl⟩
set_option maxRecDepth 100000 in
set_option maxHeartbeats 2000000 in
theorem iEitherIssue (t : Int) (A B : Option Addr) (na ca nb cb : Nat) (a b : List Int) (w : World) (ha : Row w A na ca a) (hb : Row w B nb cb b) :
    Calls Try.prog 78 #[.int .i64 t, .slice A na ca, .slice B nb cb] w fun e w' => ∃ v, e = .returned v ∧ Owns w' w.heap.size v (eitherL t a b) ∧ Below w.heap.size w w' := by
  have HA := Lib.hid ha
  have HB := Lib.hid hb
  obtain rfl := ha.hn
  obtain rfl := hb.hn
  clear ha hb
  obtain ⟨x, HX⟩ : ∃ x, Hid (okTwo t a b = x) := ⟨_, rfl⟩
  cases x
  · have HF := Lib.hid (either_nil HX.out)
    go_enter Try.func78, Try.ntmps78
    go_wp2_with fail
    refine (iIssuesOk_is HX HA.out HB.out).mono ?_
    rintro e w' ⟨rfl, m1, rfl⟩
    go_wp2_with fail
    go_ret
    exact ⟨_, rfl, by rw [HF.out]; exact Owns.nil _ _, bel_drewN (Below.refl _ _) _⟩
  · obtain ⟨h1, h2⟩ := okTwo_ok HX.out
    obtain ⟨hla, hla2⟩ := issue_ne h1
    obtain ⟨hlb, hlb2⟩ := issue_ne h2
    have HF := Lib.hid (either_eq h1 h2)
    have HS := Lib.hid (sets_range (eitherX_sets h1 h2))
    clear h1 h2
    obtain ⟨ab, HAB⟩ : ∃ l, Hid (a ++ b = l) := ⟨_, rfl⟩
    have hpos : 1 ≤ ab.length := by rw [← HAB.out, List.length_append]; omega
    have hle : ab.length ≤ 1048576 := by rw [← HAB.out, List.length_append]; omega
    rw [HAB.out] at HF HS
    go_enter Try.func78, Try.ntmps78
    go_wp2_with fail
    refine (iIssuesOk_is HX HA.out HB.out).mono ?_
    rintro e w' ⟨rfl, m2, rfl⟩
    go_wp2_with fail
    have hbel : ∀ o, Below w.heap.size w ((w.drewN m2).alloc o) := fun o => (bel_drewN (Below.refl _ _) _).alloc (Nat.le_refl _) _
    refine (iConcat w.heap.size A B a.length ca b.length cb a b _ (by rw [World.size_alloc]; exact Nat.lt_succ_self _) (two_cells (w.drewN m2) _ _ _).1 (two_cells (w.drewN m2) _ _ _).2 (HA.out.below (hbel _)) (HB.out.below (hbel _)) hla hlb (by omega)).mono ?_
    rintro e w1 ⟨v, rfl, ho, hb⟩
    rw [HAB.out] at ho
    obtain ⟨A1, c1, rfl, hc1, hm1, hn1, _⟩ := ho.form
    have HN1 := Lib.hid hn1
    have HB1 := Lib.hid (hbel _ |>.trans (hb.mono (by rw [World.size_alloc]; exact Nat.le_succ _)))
    have hsz1 := HB1.out.size
    clear ho hb hm1 hn1 hbel
    go_wp2_with fail
    refine (iGreatest _ _ _ ab _ rfl hpos hle HS.out HN1.out).mono ?_
    rintro e w2 ⟨v, rfl, ho, hb⟩
    have HO2 := Lib.hid ho
    have HB2 := Lib.hid (bel_trans HB1.out hb)
    clear ho hb
    go_wp2_with fail
    go_ret
    exact ⟨_, rfl, by rw [HF.out]; exact HO2.out.base hsz1, HB2.out⟩

theorem if_next (a b : List Int) (k : Nat) : ifTo a b (k + 1) = ifTo a b k ++ (if goodB a b k = true then [(k : Int)] else []) := by
  unfold ifTo
  rw [List.range_succ, List.map_append, List.filter_append]
  simp only [List.map_cons, List.map_nil, List.filter_cons, List.filter_nil]
theorem if_len (a b : List Int) (k : Nat) : (ifTo a b k).length ≤ k := by
  unfold ifTo
  refine Nat.le_trans (List.length_filter_le _ _) (by simp)
theorem if_zero (a b : List Int) : ifTo a b 0 = [] := rfl
theorem ifTo_pos {t : Int} {a b : List Int} (_ : issueOkB t a = true) (hb : issueOkB t b = true) : 1 ≤ (ifTo a b (allOf t + 1).toNat).length := by
  refine List.length_pos_of_mem (a := 0) (mem_ifTo.2 ⟨by omega, by have := allOf_lt t; omega, good_zero hb⟩)
theorem iCarries_is {s : Int} {a b : List Int} {v : Bool} (h : Hid (goodB a b s = v)) (A B : Option Addr) (na ca nb cb : Nat) (w : World) (hs : 0 ≤ s) (hs2 : s < 256) (ha : Row w A na ca a) (hb : Row w B nb cb b) (hra : ∀ x ∈ a, 0 ≤ x ∧ x < 256) (hrb : ∀ x ∈ b, 0 ≤ x ∧ x < 256) :
    Calls Try.prog 92 #[.int .i64 s, .slice A na ca, .slice B nb cb] w fun e w' => e = .returned (.bool v) ∧ w = w' :=
  (iCarries s A B na ca nb cb a b w hs hs2 ha hb hra hrb).mono fun _ _ ⟨he, hw⟩ => ⟨he.trans (ret_bool h.out), hw⟩
theorem worlds_is {t : Int} (h1 : 1 ≤ t) (h3 : t ≤ 3) : ∃ n : Nat, worldsOf t = n ∧ 1 ≤ n ∧ n ≤ 8 ∧ allOf t + 1 = ((2 ^ n : Nat) : Int) := by
  have : t = 1 ∨ t = 2 ∨ t = 3 := by omega
  rcases this with rfl | rfl | rfl
  · exact ⟨2, rfl, by omega, by omega, rfl⟩
  · exact ⟨4, rfl, by omega, by omega, rfl⟩
  · exact ⟨8, rfl, by omega, by omega, rfl⟩

set_option maxRecDepth 100000 in
set_option maxHeartbeats 4000000 in
theorem iIfIssue (t : Int) (A B : Option Addr) (na ca nb cb : Nat) (a b : List Int) (w : World) (ha : Row w A na ca a) (hb : Row w B nb cb b) :
    Calls Try.prog 79 #[.int .i64 t, .slice A na ca, .slice B nb cb] w fun e w' => ∃ v, e = .returned v ∧ Owns w' w.heap.size v (ifL t a b) ∧ Below w.heap.size w w' := by
  have HA := Lib.hid ha
  have HB := Lib.hid hb
  obtain rfl := ha.hn
  obtain rfl := hb.hn
  clear ha hb
  obtain ⟨x, HX⟩ : ∃ x, Hid (okTwo t a b = x) := ⟨_, rfl⟩
  cases x
  · have HF := Lib.hid (if_nil HX.out)
    go_enter Try.func79, Try.ntmps79
    go_wp2_with fail
    refine (iIssuesOk_is HX HA.out HB.out).mono ?_
    rintro e w' ⟨rfl, m1, rfl⟩
    go_wp2_with fail
    go_ret
    exact ⟨_, rfl, by rw [HF.out]; exact Owns.nil _ _, bel_drewN (Below.refl _ _) _⟩
  · obtain ⟨h1, h2⟩ := okTwo_ok HX.out
    have HRA := Lib.hid (issue_range h1)
    have HRB := Lib.hid (issue_range h2)
    have HF := Lib.hid (if_eq h1 h2)
    have HS := Lib.hid (sets_range (ifX_sets (b := b) h1))
    have hpos := ifTo_pos h1 h2
    obtain ⟨ht1, ht3⟩ := issue_things h1
    have ht : t = 1 ∨ t = 2 ∨ t = 3 := by omega
    clear h1 h2 ht1 ht3
    rcases ht with rfl | rfl | rfl
    · have HAL : Hid ((allOf 1 + 1).toNat = 4) := rfl
      rw [HAL.out] at HF HS hpos
      go_enter Try.func79, Try.ntmps79
      go_wp2_with fail
      refine (iIssuesOk_is HX HA.out HB.out).mono ?_
      rintro e w' ⟨rfl, m2, rfl⟩
      go_wp2_with fail
      refine (iWorldsOf _ _).mono ?_
      rintro e w' ⟨rfl, rfl⟩
      simp only [worldsOf]
      go_wp2_with fail
      go_loopw [7, 17] (fun v i wr => ∃ k : Nat, k ≤ 4 ∧ i = .int .i64 k ∧ Owns wr w.heap.size v (ifTo a b k) ∧ Below w.heap.size w wr) (fun _ i _ => 4 - (Go.RowKit.intOf i).toNat)
      case atStart => exact ⟨0, by omega, rfl, by rw [if_zero]; exact Owns.nil _ _, bel_drewN (Below.refl _ _) _⟩
      case round =>
        obtain ⟨k, hk, rfl, hown, hbel⟩ := hrel
        have HOW := Lib.hid hown
        have HBW := Lib.hid hbel
        clear hown hbel
        by_cases hlt : k < 4
        · have hkl := if_len a b k
          rcases hg : goodB a b (k : Int) with _ | _
          · have HG := Lib.hid hg
            have HT : Hid (ifTo a b (k + 1) = ifTo a b k) := by unfold Hid; rw [if_next, hg]; simp
            clear hg
            go_wp2_with fail
            refine (iCarries_is HG _ _ _ _ _ _ _ (by omega) (by omega) (HA.out.below HBW.out) (HB.out.below HBW.out) HRA.out HRB.out).mono ?_
            rintro e w' ⟨rfl, rfl⟩
            go_wp2_with fail
            go_roundw
            case rel => exact ⟨k + 1, by omega, by go_num, by rw [HT.out]; exact HOW.out, HBW.out⟩
            case measure => simp [Go.RowKit.intOf]; omega
          · have HG := Lib.hid hg
            have HT : Hid (ifTo a b (k + 1) = ifTo a b k ++ [(k : Int)]) := by unfold Hid; rw [if_next, hg]; simp
            clear hg
            go_wp2_with fail
            refine (iCarries_is HG _ _ _ _ _ _ _ (by omega) (by omega) (HA.out.below HBW.out) (HB.out.below HBW.out) HRA.out HRB.out).mono ?_
            rintro e w' ⟨rfl, rfl⟩
            go_wp2_with (at_builtin; refine wp_append1 (W := wr) rfl _ _ rfl w.heap.size u7 (ifTo a b k) rfl HOW.out (k : Int) rfl (by omega) HBW.out.size ?_; intro v' w' hown' hgrow)
            have hb' := below_append HBW.out HBW.out.size HOW.out (Nat.le_refl _) hgrow
            go_roundw
            case rel => exact ⟨k + 1, by omega, by go_num, by rw [HT.out]; exact hown', hb'⟩
            case measure => simp [Go.RowKit.intOf]; omega
        · obtain rfl : k = 4 := by omega
          have hle := if_len a b 4
          obtain ⟨A1, c1, rfl, hc1, hm1, hn1, _⟩ := HOW.out.form
          have HN1 := Lib.hid hn1
          clear hm1 hn1
          go_wp2_with fail
          refine (iGreatest _ _ _ (ifTo a b 4) _ rfl hpos (by omega) HS.out HN1.out).mono ?_
          rintro e w2 ⟨v, rfl, ho, hb⟩
          have HO2 := Lib.hid ho
          have HB2 := Lib.hid (bel_trans HBW.out hb)
          have hsz := HBW.out.size
          clear ho hb
          go_wp2_with fail
          go_ret
          exact ⟨_, rfl, by rw [HF.out]; exact HO2.out.base hsz, HB2.out⟩
    · have HAL : Hid ((allOf 2 + 1).toNat = 16) := rfl
      rw [HAL.out] at HF HS hpos
      go_enter Try.func79, Try.ntmps79
      go_wp2_with fail
      refine (iIssuesOk_is HX HA.out HB.out).mono ?_
      rintro e w' ⟨rfl, m3, rfl⟩
      go_wp2_with fail
      refine (iWorldsOf _ _).mono ?_
      rintro e w' ⟨rfl, rfl⟩
      simp only [worldsOf]
      go_wp2_with fail
      go_loopw [7, 17] (fun v i wr => ∃ k : Nat, k ≤ 16 ∧ i = .int .i64 k ∧ Owns wr w.heap.size v (ifTo a b k) ∧ Below w.heap.size w wr) (fun _ i _ => 16 - (Go.RowKit.intOf i).toNat)
      case atStart => exact ⟨0, by omega, rfl, by rw [if_zero]; exact Owns.nil _ _, bel_drewN (Below.refl _ _) _⟩
      case round =>
        obtain ⟨k, hk, rfl, hown, hbel⟩ := hrel
        have HOW := Lib.hid hown
        have HBW := Lib.hid hbel
        clear hown hbel
        by_cases hlt : k < 16
        · have hkl := if_len a b k
          rcases hg : goodB a b (k : Int) with _ | _
          · have HG := Lib.hid hg
            have HT : Hid (ifTo a b (k + 1) = ifTo a b k) := by unfold Hid; rw [if_next, hg]; simp
            clear hg
            go_wp2_with fail
            refine (iCarries_is HG _ _ _ _ _ _ _ (by omega) (by omega) (HA.out.below HBW.out) (HB.out.below HBW.out) HRA.out HRB.out).mono ?_
            rintro e w' ⟨rfl, rfl⟩
            go_wp2_with fail
            go_roundw
            case rel => exact ⟨k + 1, by omega, by go_num, by rw [HT.out]; exact HOW.out, HBW.out⟩
            case measure => simp [Go.RowKit.intOf]; omega
          · have HG := Lib.hid hg
            have HT : Hid (ifTo a b (k + 1) = ifTo a b k ++ [(k : Int)]) := by unfold Hid; rw [if_next, hg]; simp
            clear hg
            go_wp2_with fail
            refine (iCarries_is HG _ _ _ _ _ _ _ (by omega) (by omega) (HA.out.below HBW.out) (HB.out.below HBW.out) HRA.out HRB.out).mono ?_
            rintro e w' ⟨rfl, rfl⟩
            go_wp2_with (at_builtin; refine wp_append1 (W := wr) rfl _ _ rfl w.heap.size u7 (ifTo a b k) rfl HOW.out (k : Int) rfl (by omega) HBW.out.size ?_; intro v' w' hown' hgrow)
            have hb' := below_append HBW.out HBW.out.size HOW.out (Nat.le_refl _) hgrow
            go_roundw
            case rel => exact ⟨k + 1, by omega, by go_num, by rw [HT.out]; exact hown', hb'⟩
            case measure => simp [Go.RowKit.intOf]; omega
        · obtain rfl : k = 16 := by omega
          have hle := if_len a b 16
          obtain ⟨A1, c1, rfl, hc1, hm1, hn1, _⟩ := HOW.out.form
          have HN1 := Lib.hid hn1
          clear hm1 hn1
          go_wp2_with fail
          refine (iGreatest _ _ _ (ifTo a b 16) _ rfl hpos (by omega) HS.out HN1.out).mono ?_
          rintro e w2 ⟨v, rfl, ho, hb⟩
          have HO2 := Lib.hid ho
          have HB2 := Lib.hid (bel_trans HBW.out hb)
          have hsz := HBW.out.size
          clear ho hb
          go_wp2_with fail
          go_ret
          exact ⟨_, rfl, by rw [HF.out]; exact HO2.out.base hsz, HB2.out⟩
    · have HAL : Hid ((allOf 3 + 1).toNat = 256) := rfl
      rw [HAL.out] at HF HS hpos
      go_enter Try.func79, Try.ntmps79
      go_wp2_with fail
      refine (iIssuesOk_is HX HA.out HB.out).mono ?_
      rintro e w' ⟨rfl, m4, rfl⟩
      go_wp2_with fail
      refine (iWorldsOf _ _).mono ?_
      rintro e w' ⟨rfl, rfl⟩
      simp only [worldsOf]
      go_wp2_with fail
      go_loopw [7, 17] (fun v i wr => ∃ k : Nat, k ≤ 256 ∧ i = .int .i64 k ∧ Owns wr w.heap.size v (ifTo a b k) ∧ Below w.heap.size w wr) (fun _ i _ => 256 - (Go.RowKit.intOf i).toNat)
      case atStart => exact ⟨0, by omega, rfl, by rw [if_zero]; exact Owns.nil _ _, bel_drewN (Below.refl _ _) _⟩
      case round =>
        obtain ⟨k, hk, rfl, hown, hbel⟩ := hrel
        have HOW := Lib.hid hown
        have HBW := Lib.hid hbel
        clear hown hbel
        by_cases hlt : k < 256
        · have hkl := if_len a b k
          rcases hg : goodB a b (k : Int) with _ | _
          · have HG := Lib.hid hg
            have HT : Hid (ifTo a b (k + 1) = ifTo a b k) := by unfold Hid; rw [if_next, hg]; simp
            clear hg
            go_wp2_with fail
            refine (iCarries_is HG _ _ _ _ _ _ _ (by omega) (by omega) (HA.out.below HBW.out) (HB.out.below HBW.out) HRA.out HRB.out).mono ?_
            rintro e w' ⟨rfl, rfl⟩
            go_wp2_with fail
            go_roundw
            case rel => exact ⟨k + 1, by omega, by go_num, by rw [HT.out]; exact HOW.out, HBW.out⟩
            case measure => simp [Go.RowKit.intOf]; omega
          · have HG := Lib.hid hg
            have HT : Hid (ifTo a b (k + 1) = ifTo a b k ++ [(k : Int)]) := by unfold Hid; rw [if_next, hg]; simp
            clear hg
            go_wp2_with fail
            refine (iCarries_is HG _ _ _ _ _ _ _ (by omega) (by omega) (HA.out.below HBW.out) (HB.out.below HBW.out) HRA.out HRB.out).mono ?_
            rintro e w' ⟨rfl, rfl⟩
            go_wp2_with (at_builtin; refine wp_append1 (W := wr) rfl _ _ rfl w.heap.size u7 (ifTo a b k) rfl HOW.out (k : Int) rfl (by omega) HBW.out.size ?_; intro v' w' hown' hgrow)
            have hb' := below_append HBW.out HBW.out.size HOW.out (Nat.le_refl _) hgrow
            go_roundw
            case rel => exact ⟨k + 1, by omega, by go_num, by rw [HT.out]; exact hown', hb'⟩
            case measure => simp [Go.RowKit.intOf]; omega
        · obtain rfl : k = 256 := by omega
          have hle := if_len a b 256
          obtain ⟨A1, c1, rfl, hc1, hm1, hn1, _⟩ := HOW.out.form
          have HN1 := Lib.hid hn1
          clear hm1 hn1
          go_wp2_with fail
          refine (iGreatest _ _ _ (ifTo a b 256) _ rfl hpos (by omega) HS.out HN1.out).mono ?_
          rintro e w2 ⟨v, rfl, ho, hb⟩
          have HO2 := Lib.hid ho
          have HB2 := Lib.hid (bel_trans HBW.out hb)
          have hsz := HBW.out.size
          clear ho hb
          go_wp2_with fail
          go_ret
          exact ⟨_, rfl, by rw [HF.out]; exact HO2.out.base hsz, HB2.out⟩

theorem andNot_rest {n : Nat} {g : Int} (hn : n ≤ 8) (h0 : 0 ≤ g) (h1 : g ≤ ((2 ^ n : Nat) : Int) - 1) : bits .andNot .i64 (((2 ^ n : Nat) : Int) - 1) g = ((2 ^ n : Nat) : Int) - 1 - g := by
  obtain ⟨b, rfl⟩ : ∃ b : Nat, g = b := ⟨g.toNat, by omega⟩
  have hp : 0 < 2 ^ n := Nat.two_pow_pos n
  have hp8 : 2 ^ n ≤ 2 ^ 8 := Nat.pow_le_pow_right (by omega) hn
  have e0 : ((2 ^ n : Nat) : Int) - 1 = ((2 ^ n - 1 : Nat) : Int) := by omega
  rw [e0]
  have e : bits .andNot .i64 ((2 ^ n - 1 : Nat) : Int) (b : Int) = (((2 ^ n - 1) &&& (2 ^ 64 - (b + 1)) : Nat) : Int) := by
    have hx : (2 ^ n - 1) &&& (2 ^ 64 - (b + 1)) ≤ 2 ^ n - 1 := Nat.and_le_left
    show IntKind.i64.wrap ((BitVec.ofInt 64 ((2 ^ n - 1 : Nat) : Int) &&& ~~~BitVec.ofInt 64 (b : Int)).toNat : Int) = _
    rw [BitVec.toNat_and, BitVec.toNat_not, BitVec.ofInt_natCast, BitVec.ofInt_natCast, BitVec.toNat_ofNat, BitVec.toNat_ofNat, Nat.mod_eq_of_lt (by omega), Nat.mod_eq_of_lt (by omega), IntKind.wrap_i64,
      show 2 ^ 64 - 1 - b = 2 ^ 64 - (b + 1) by omega]
    omega
  have hb : b < 2 ^ n := by omega
  have : (2 ^ n - 1) &&& (2 ^ 64 - (b + 1)) = 2 ^ n - (b + 1) := by
    apply Nat.eq_of_testBit_eq
    intro i
    rw [Nat.testBit_and, Nat.testBit_two_pow_sub_succ (show b < 2 ^ 64 by omega), Nat.testBit_two_pow_sub_succ hb, Nat.testBit_two_pow_sub_one]
    by_cases hi : i < n
    · simp [hi, show i < 64 by omega]
    · simp [hi]
  rw [e, this]; omega

theorem not_state {t : Int} {a : List Int} (ha : issueOkB t a = true) : statementL t (allOf t - unionI a) = notL t a := by
  unfold statementL; rw [rest_ok ha, law_not ha]; rfl
theorem iGrantedBy_ok {t : Int} {xs : List Int} {g : Int} (h : Hid (grantedI t xs = g)) (A : Option Addr) (nn c : Nat) (w : World) (ha : Row w A nn c xs) :
    Calls Try.prog 88 #[.int .i64 t, .slice A nn c] w fun e w' => e = .returned (.int .i64 g) ∧ ∃ n, w' = w.drewN n :=
  (iGrantedBy t A nn c xs w ha.hn ha.hl ha.hc ha.hm ha.hA).mono fun _ _ ⟨he, hw⟩ => ⟨he.trans (ret_int h.out), hw⟩
theorem granted_ok {t : Int} {xs : List Int} (h : issueOkB t xs = true) : grantedI t xs = unionI xs := by unfold grantedI; rw [h]; rfl

set_option maxHeartbeats 2000000 in
theorem iNotIssue (t : Int) (A : Option Addr) (na ca : Nat) (a : List Int) (w : World) (ha : Row w A na ca a) :
    Calls Try.prog 75 #[.int .i64 t, .slice A na ca] w fun e w' => ∃ v, e = .returned v ∧ Owns w' w.heap.size v (notL t a) ∧ Below w.heap.size w w' := by
  have HA := Lib.hid ha
  obtain rfl := ha.hn
  clear ha
  obtain ⟨x, HX⟩ : ∃ x, Hid (issueOkB t a = x) := ⟨_, rfl⟩
  cases x
  · have HF := Lib.hid (not_nil HX.out)
    go_enter Try.func75, Try.ntmps75
    go_wp2_with fail
    refine (iIssueOk_is HX _ _ _ _ rfl HA.out.hl HA.out.hc HA.out.hm HA.out.hA).mono ?_
    rintro e w' ⟨rfl, m1, rfl⟩
    go_wp2_with fail
    go_ret
    exact ⟨_, rfl, by rw [HF.out]; exact Owns.nil _ _, bel_drewN (Below.refl _ _) _⟩
  · obtain ⟨ht1, ht3⟩ := issue_things HX.out
    have HG := Lib.hid (granted_ok HX.out)
    have hu := union_all HX.out
    have HS := Lib.hid (not_state HX.out)
    obtain ⟨g, hg⟩ : ∃ g, g = unionI a := ⟨_, rfl⟩
    rw [← hg] at HG HS hu
    have ht : t = 1 ∨ t = 2 ∨ t = 3 := by omega
    clear ht1 ht3 hg
    obtain ⟨hu0, hu1⟩ := hu
    rcases ht with rfl | rfl | rfl
    · have HBN : Hid (bits .andNot .i64 3 g = 3 - g) := andNot_rest (n := 2) (by omega) hu0 hu1
      have HS2 : Hid (statementL 1 (3 - g) = notL 1 a) := HS.out
      clear hu1
      go_enter Try.func75, Try.ntmps75
      go_wp2_with fail
      refine (iIssueOk_is HX _ _ _ _ rfl HA.out.hl HA.out.hc HA.out.hm HA.out.hA).mono ?_
      rintro e w' ⟨rfl, m2, rfl⟩
      go_wp2_with fail
      refine (iWorldsOf _ _).mono ?_
      rintro e w' ⟨rfl, rfl⟩
      simp only [worldsOf]
      go_wp2_with fail
      refine (iGrantedBy_ok HG _ _ _ _ (HA.out.drewN _)).mono ?_
      rintro e w' ⟨rfl, m3, rfl⟩
      go_wp2_with fail
      rw [HBN.out]
      refine (iStatementOf _ _ _).mono ?_
      rintro e w1 ⟨v, rfl, ho, hb⟩
      rw [HS2.out] at ho
      have HO1 := Lib.hid ho
      have HB1 := Lib.hid (bel_trans (bel_drewN (Below.refl _ _) _) hb)
      clear ho hb
      go_wp2_with fail
      go_ret
      exact ⟨_, rfl, HO1.out, HB1.out⟩
    · have HBN : Hid (bits .andNot .i64 15 g = 15 - g) := andNot_rest (n := 4) (by omega) hu0 hu1
      have HS2 : Hid (statementL 2 (15 - g) = notL 2 a) := HS.out
      clear hu1
      go_enter Try.func75, Try.ntmps75
      go_wp2_with fail
      refine (iIssueOk_is HX _ _ _ _ rfl HA.out.hl HA.out.hc HA.out.hm HA.out.hA).mono ?_
      rintro e w' ⟨rfl, m4, rfl⟩
      go_wp2_with fail
      refine (iWorldsOf _ _).mono ?_
      rintro e w' ⟨rfl, rfl⟩
      simp only [worldsOf]
      go_wp2_with fail
      refine (iGrantedBy_ok HG _ _ _ _ (HA.out.drewN _)).mono ?_
      rintro e w' ⟨rfl, m5, rfl⟩
      go_wp2_with fail
      rw [HBN.out]
      refine (iStatementOf _ _ _).mono ?_
      rintro e w1 ⟨v, rfl, ho, hb⟩
      rw [HS2.out] at ho
      have HO1 := Lib.hid ho
      have HB1 := Lib.hid (bel_trans (bel_drewN (Below.refl _ _) _) hb)
      clear ho hb
      go_wp2_with fail
      go_ret
      exact ⟨_, rfl, HO1.out, HB1.out⟩
    · have HBN : Hid (bits .andNot .i64 255 g = 255 - g) := andNot_rest (n := 8) (by omega) hu0 hu1
      have HS2 : Hid (statementL 3 (255 - g) = notL 3 a) := HS.out
      clear hu1
      go_enter Try.func75, Try.ntmps75
      go_wp2_with fail
      refine (iIssueOk_is HX _ _ _ _ rfl HA.out.hl HA.out.hc HA.out.hm HA.out.hA).mono ?_
      rintro e w' ⟨rfl, m6, rfl⟩
      go_wp2_with fail
      refine (iWorldsOf _ _).mono ?_
      rintro e w' ⟨rfl, rfl⟩
      simp only [worldsOf]
      go_wp2_with fail
      refine (iGrantedBy_ok HG _ _ _ _ (HA.out.drewN _)).mono ?_
      rintro e w' ⟨rfl, m7, rfl⟩
      go_wp2_with fail
      rw [HBN.out]
      refine (iStatementOf _ _ _).mono ?_
      rintro e w1 ⟨v, rfl, ho, hb⟩
      rw [HS2.out] at ho
      have HO1 := Lib.hid ho
      have HB1 := Lib.hid (bel_trans (bel_drewN (Below.refl _ _) _) hb)
      clear ho hb
      go_wp2_with fail
      go_ret
      exact ⟨_, rfl, HO1.out, HB1.out⟩

theorem not_len (t : Int) (a : List Int) : (notL t a).length ≤ 70 := by
  cases h : issueOkB t a
  · rw [not_nil h]; simp
  · rw [law_not h]; simp
set_option maxHeartbeats 2000000 in
theorem iWhetherIssue (t : Int) (A : Option Addr) (na ca : Nat) (a : List Int) (w : World) (ha : Row w A na ca a) :
    Calls Try.prog 76 #[.int .i64 t, .slice A na ca] w fun e w' => ∃ v, e = .returned v ∧ Owns w' w.heap.size v (whetherL t a) ∧ Below w.heap.size w w' := by
  have HA := Lib.hid ha
  obtain rfl := ha.hn
  have hnl := not_len t a
  have HW := Lib.hid (whether_all (t := t) (a := a))
  clear ha
  go_enter Try.func76, Try.ntmps76
  go_wp2_with fail
  refine (iNotIssue t A _ ca a _ HA.out).mono ?_
  rintro e w1 ⟨v, rfl, ho, hb⟩
  obtain ⟨A1, c1, rfl, hc1, hm1, hn1, _⟩ := ho.form
  have HR1 := Lib.hid (ho.row (by omega))
  have HB1 := Lib.hid hb
  have hsz1 := hb.size
  clear ho hb hm1 hn1
  go_wp2_with fail
  refine (iEitherIssue t A _ _ _ _ _ a (notL t a) _ (HA.out.below HB1.out) HR1.out).mono ?_
  rintro e w2 ⟨v, rfl, ho, hb⟩
  have HO2 := Lib.hid ho
  have HB2 := Lib.hid (bel_trans HB1.out hb)
  clear ho hb
  go_wp2_with fail
  go_ret
  exact ⟨_, rfl, by rw [HW.out]; exact HO2.out.base hsz1, HB2.out⟩
end Go.Proofs.Ytmdogidflaplkaa
