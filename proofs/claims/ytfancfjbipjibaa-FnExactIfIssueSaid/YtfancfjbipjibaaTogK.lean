/-
  Chapter 2: slices.Concat of two issues; the program's EitherIssue.
-/
import Derived.Test.YtfancfjbipjibaaTogJ
import Derived.Lib.AppendZeros
namespace Go.Proofs.Ytfancfjbipjibaa
open Go.RowKit

theorem wp_appendL {W : World} {ops : Array Oper} {rest : List Oper} {o : Oper} {a : Act} {Q : Exit → Act → World → Prop} (hgd : o.guard = none) (s x : Operand)
    (ho : o.op = .call { callee := .builtin .append, args := #[s, x], argTypes := #[23, 23] }) (base : Nat) (v : Value) (xs : List Int) (hs : a.eval s = v) (hown : Owns W base v xs)
    (ys : List Int) (ad : Option Addr) (m c : Nat) (hx : a.eval x = .slice ad m c) (hm : m = ys.length) (hpos : 1 ≤ m) (hn : Nums .i64 W ad ys) (hl : xs.length + m ≤ 1048576) (hb : base ≤ W.heap.size)
    (h : ∀ v' w', Owns w' base v' (xs ++ ys) → W.grownBy w' v.ownBlock → wpList Try.prog ops Q rest (a.put o.dst v') w') :
    wpList Try.prog ops Q (o :: rest) a W := by
  subst hm
  obtain ⟨i0, hi0, hz0, hz1, hz2⟩ := info_parts int_info
  obtain ⟨b, off, rfl, _, hc⟩ := hn hpos
  refine wpList_append_own _ hgd s x 23 ho base 3 i0 (.int .i64 0) 1 8 Try.underlying23 hi0 hz0 hz1 hz2 rfl (by decide) v xs.length (xs.map (Value.int .i64)) hs hown
    ⟨b, off, none⟩ ys.length c (ys.map (Value.int .i64)) hx (by simp) ?_ (fun u hu => ?_) (by simp only [maxLen]; omega) (by omega) hb ?_
  · intro j u hj
    rw [List.getElem?_map] at hj
    obtain ⟨y, hy, rfl⟩ := Option.map_eq_some_iff.1 hj
    obtain ⟨hlt, he⟩ := List.getElem?_eq_some_iff.1 hy
    have := hc j hlt
    have e : (⟨b, off, none⟩ : Addr).add j = ⟨b, off + j, none⟩ := by unfold Addr.add; split <;> simp_all
    rw [e, this, List.getD_eq_getElem?_getD, hy]; rfl
  · obtain ⟨y, _, rfl⟩ := List.mem_map.1 hu; rfl
  · intro v' w' h1 h2 _
    refine h v' w' ?_ h2
    unfold Owns
    rw [List.map_append, List.length_append]
    exact h1
theorem below_appendL {B : Nat} {a W w' : World} {base : Nat} {v : Value} {xs : List Int} (h : Below B a W) (hB : B ≤ W.heap.size) (hown : Owns W base v xs) (hbase : B ≤ base) (hg : W.grownBy w' v.ownBlock) : Below B a w' :=
  h.grown hg hB fun k e => by have := (World.ownsRow.lt hown k e).1; omega

set_option maxHeartbeats 1000000 in
theorem iGrow (m : Int) (n : Nat) (hmn : m = (n : Int)) (w : World) (h1 : 1 ≤ n) (hl : n ≤ 1048576) :
    Calls Try.prog 83 #[.slice none 0 0, .int .i64 m] w fun e w' => ∃ v, e = .returned v ∧ Owns w' w.heap.size v [] ∧ Below w.heap.size w w' := by
  subst hmn
  obtain ⟨i0, hi, hz0, hz1, hz2⟩ := info_parts int_info
  have happ := Lib.run_append_nil_zeros (P := Try.prog) w 23 3 23 3 i0 (.int .i64 0) .i64 .i64 Try.underlying23 Try.underlying3 hi hz0 n (by omega) (by omega) (by omega) (by rw [hz2]; omega)
  obtain ⟨cap, hcap⟩ : ∃ c, c = grownCap w n 0 3 := ⟨_, rfl⟩
  have hc1 : n ≤ cap := by rw [hcap]; exact grownCap_ge _ _ _ _
  have hc2 : cap ≤ maxLen := by rw [hcap]; exact grownCap_le_maxLen _ _ _ _ (by simp only [maxLen]; omega)
  rw [← hcap] at happ
  obtain ⟨M, hM⟩ : ∃ M, M = Builtin.zeroCells (Value.int .i64 0).cells n ++ Builtin.zeroCells (Value.int .i64 0).cells (cap - n) := ⟨_, rfl⟩
  have hMs : M.size = cap * 1 := by rw [hM, Array.size_append, size_zeroCells, size_zeroCells]; show n * 1 + (cap - n) * 1 = cap * 1; omega
  rw [← hM] at happ
  have hown : Hid (Owns ((w.drew).alloc (.cells M 3)) w.heap.size (.slice (some ⟨w.heap.size, 0, none⟩) 0 cap) []) := World.ownsRow_made w.drew M cap (Nat.le_refl _) hc2 hMs
  have hbel : Hid (Below w.heap.size w ((w.drew).alloc (.cells M 3))) := (bel_drewN (Below.refl _ w) 1).alloc (Nat.le_refl _) _
  have HAPP := Lib.hid happ
  have hc3 : cap ≤ 9223372036854775807 := by unfold maxLen at hc2; omega
  clear hM hMs hcap happ hi hz0 hz1 hz2 hc2
  go_enter Try.func83, Try.ntmps83
  go_wp2_with (at_builtin; refine Lib.wpList_append_run _ rfl _ _ _ _ rfl _ _ rfl rfl _ _ HAPP.out ?_)
  go_ret
  exact ⟨_, rfl, hown.out, hbel.out⟩

set_option maxRecDepth 100000 in
set_option maxHeartbeats 2000000 in
theorem iConcat (g : Nat) (A B : Option Addr) (na ca nb cb : Nat) (a b : List Int) (w : World) (hg : g < w.heap.size) (h0 : w.cell? ⟨g, 0, none⟩ = some (.slice A na ca)) (h1 : w.cell? ⟨g, 1, none⟩ = some (.slice B nb cb))
    (ha : Row w A na ca a) (hb : Row w B nb cb b) (hla : 1 ≤ na) (hlb : 1 ≤ nb) (hl : na + nb ≤ 1000000) :
    Calls Try.prog 66 #[.slice (some ⟨g, 0, none⟩) 2 2] w fun e w' => ∃ v, e = .returned v ∧ Owns w' w.heap.size v (a ++ b) ∧ Below w.heap.size w w' := by
  have HA := Lib.hid ha
  have HB := Lib.hid hb
  obtain rfl := ha.hn
  obtain rfl := hb.hn
  clear ha hb
  have HG := Lib.hid hg
  have HC : Hid (∀ W, Below w.heap.size w W → W.cell? ⟨g, 0, none⟩ = some (.slice A a.length ca) ∧ W.cell? ⟨g, 1, none⟩ = some (.slice B b.length cb)) := fun W h => ⟨(h.cell (p := ⟨g, 0, none⟩) hg).trans h0, (h.cell (p := ⟨g, 1, none⟩) hg).trans h1⟩
  go_enter Try.func66, Try.ntmps66
  go_wp2_with fail
  refine wp_loop_rounds 3 ?_
  rw [rounds_succ]
  go_wp2_with fail
  rw [rounds_succ]
  go_wp2_with fail
  rw [rounds_succ]
  go_wp2_with fail
  refine (iGrow _ (a.length + b.length) (by omega) _ (by omega) (by omega)).mono ?_
  rintro e w1 ⟨v, rfl, ho, hb⟩
  have HO1 := Lib.hid ho
  have HB1 := Lib.hid hb
  have hsz1 := hb.size
  obtain ⟨hc0, hc1⟩ := HC.out _ hb
  have HN1 := Lib.hid (HA.out.hA.below hb)
  clear ho hb
  go_wp2_with fail
  refine wp_loop_rounds 3 ?_
  rw [rounds_succ]
  go_wp2_with (at_builtin; refine wp_appendL rfl _ _ rfl w.heap.size _ [] rfl HO1.out a A a.length ca rfl rfl hla HN1.out (by simp; omega) (by omega) ?_; intro v2 w2 hown2 hgrow2)
  have HO2 := Lib.hid hown2
  have HB2 := Lib.hid (below_appendL HB1.out hsz1 HO1.out (Nat.le_refl _) hgrow2)
  clear hown2 hgrow2 hc0 hc1
  rw [rounds_succ]
  obtain ⟨hc0, hc1⟩ := HC.out _ HB2.out
  have HN2 := Lib.hid (HB.out.hA.below HB2.out)
  have hsz2 := HB2.out.size
  go_wp2_with (at_builtin; refine wp_appendL rfl _ _ rfl w.heap.size v2 a rfl HO2.out b B b.length cb rfl rfl hlb HN2.out (by omega) (by omega) ?_; intro v3 w3 hown3 hgrow3)
  have HO3 := Lib.hid hown3
  have HB3 := Lib.hid (below_appendL HB2.out hsz2 HO2.out (Nat.le_refl _) hgrow3)
  rw [rounds_succ]
  go_wp2_with fail
  go_ret
  exact ⟨_, rfl, HO3.out, HB3.out⟩
end Go.Proofs.Ytfancfjbipjibaa
