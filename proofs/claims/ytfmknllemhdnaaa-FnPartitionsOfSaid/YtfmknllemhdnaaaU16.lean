/-
  What the proofs of this seat's statements share (ExtJ, ExtK, LstO, LstX).
-/
import Derived.Maps.OwnIn
import Derived.Test.YtfmknllemhdnaaaU15
import Derived.Test.YtfmknllemhdnaaaU13
import Derived.Test.YtfmknllemhdnaaaU14

namespace Go.Proofs.Ytfmknllemhdnaaa
open Go.RowKit

attribute [local go_sem] Oper.semAt_some

theorem wpListIn_appendR {F : Fence} {nF : Nat} {W : World} {ops : Array Oper} {rest : List Oper} {o : Oper} {a : Act} {Q : Exit → Act → World → Prop} (hgd : o.guard = none) (s x : Operand)
    (ho : o.op = .call { callee := .builtin .append, args := #[s, x], argTypes := #[24, 24] }) (base : Nat) (v : Value) (vs : List Value) (xss : List (List Int)) (hs : a.eval s = v) (hown : OwnsR W base v vs xss)
    (y : Value) (ys : List Int) (hy : Owns W base y ys) (hyl : ys.length ≤ 300) (hyo : y.ownBlock = none ∨ y.ownBlock ≠ v.ownBlock) (hx : a.eval x = .slice (some ⟨W.heap.size, 0, none⟩) 1 1) (hl : xss.length ≤ 1048576) (hb : base ≤ W.heap.size)
    (h : ∀ v' w', OwnsR w' base v' (vs ++ [y]) (xss ++ [ys]) → (W.alloc (.cells #[y] 29)).grownBy w' v.ownBlock → (v'.ownBlock = v.ownBlock ∨ v'.ownBlock = some (W.heap.size + 1)) → wpListIn F nF Try.prog ops Q rest (a.put o.dst v') w') :
    wpListIn F nF Try.prog ops Q (o :: rest) a (W.alloc (.cells #[y] 29)) := by
  obtain ⟨i0, hi0, hz0, hz1, hz2⟩ := info_parts rowrow_info
  obtain ⟨Ay, cy, rfl, _, _, _, hya⟩ := hy.form
  have hlen := hown.len
  refine wpListIn_append_own_at _ hgd s x 24 ho base 29 i0 (.slice none 0 0) 1 24 Try.underlying24 hi0 hz0 hz1 hz2 rfl (by decide) v vs.length vs hs (World.ownsRow.alloc hown.row _)
    ⟨W.heap.size, 0, none⟩ 1 1 [.slice Ay ys.length cy] hx rfl (cell_one_new _ _ _) (fun u hu => by rw [List.mem_singleton] at hu; subst hu; rfl) (by simp only [maxLen]; omega) (by omega) (by rw [World.size_alloc]; omega) ?_
  intro v' w' h1 h2 _ h4
  refine h v' w' ⟨by simpa using h1, by simp [hlen], fun i xs hi => ?_⟩ h2 (by rw [← World.size_alloc W (.cells #[.slice Ay ys.length cy] 29)]; exact h4)
  have hal : ∀ {u : Value} {us : List Int}, Owns W base u us → (u.ownBlock = none ∨ u.ownBlock ≠ v.ownBlock) → Owns w' base u us ∧ (u.ownBlock = none ∨ u.ownBlock ≠ v'.ownBlock) := fun {u us} hu hne => by
    refine ⟨(hu.below ((Below.refl _ _).alloc (Nat.le_refl _) _)).kept h2 hne, ?_⟩
    rcases hne with hn | hn
    · exact .inl hn
    · rcases h4 with h4 | h4
      · rw [h4]; exact .inr hn
      · right
        intro e
        rw [h4, World.size_alloc] at e
        have := (World.ownsRow.lt hu _ e).2
        omega
  by_cases hil : i < xss.length
  · rw [List.getElem?_append_left hil] at hi
    obtain ⟨u, g1, g2, g3, g4⟩ := hown.sees.2 i xs hi
    obtain ⟨g5, g6⟩ := hal g2 g4
    exact ⟨u, by rw [List.getElem?_append_left (by omega)]; exact g1, g5, g3, g6⟩
  · rw [List.getElem?_append_right (by omega)] at hi
    have hi0 : i - xss.length = 0 := by
      rcases Nat.eq_zero_or_pos (i - xss.length) with h | h
      · exact h
      · rw [List.getElem?_eq_none (by simp only [List.length_cons, List.length_nil]; omega)] at hi; cases hi
    rw [hi0] at hi
    cases hi
    obtain ⟨g5, g6⟩ := hal hy hyo
    exact ⟨_, by rw [List.getElem?_append_right (by omega), hlen, hi0]; rfl, g5, hyl, g6⟩

theorem OwnsR.cells {W : World} {base : Nat} {v : Value} {vs : List Value} {xss : List (List Int)} (h : OwnsR W base v vs xss) : ∀ u ∈ v :: vs, ∀ k, u.ownBlock = some k → ∃ o : Obj, W.heap[k]? = some o ∧ o.isCells = true := by
  intro u hu k hk
  rcases List.mem_cons.1 hu with rfl | hu
  · rcases h.row.2 with ⟨rfl, _⟩ | ⟨g, cap, cur, rfl, _, hg, _⟩
    · simp [Value.ownBlock] at hk
    · simp [Value.ownBlock] at hk
      subst hk
      exact ⟨_, hg, rfl⟩
  · obtain ⟨i, hi, rfl⟩ := List.mem_iff_getElem.1 hu
    have hil : i < xss.length := by have := h.len; omega
    obtain ⟨z, h1, h2, _⟩ := h.sees.2 i xss[i] (List.getElem?_eq_getElem hil)
    rw [List.getElem?_eq_getElem hi] at h1
    rw [Option.some.inj h1] at hk
    exact (h2.block_lt hk).2.2
/-- No two rows lie in one block. -/
def Apart (vs : List Value) : Prop := vs.Pairwise fun u z => ∀ b, u.ownBlock = some b → z.ownBlock ≠ some b
/-- Between two rounds: the list in its box. -/
structure LI (base B0 : Nat) (w : World) (G : Nat → Prop) (pre : List (List Int)) (W : World) (v : Value) (vs : List Value) : Prop where
  bx : Boxed W B0 24 v
  own : OwnsR W base v vs pre
  gl : ∀ b, G b → base ≤ b ∧ b ≠ B0 ∧ ∀ u ∈ v :: vs, u.ownBlock ≠ some b
  bel : Below base w W
  ap : Apart vs
  hb : base ≤ w.heap.size ∧ base ≤ B0
theorem li_step {base B0 D : Nat} {w : World} {G G' : Nat → Prop} {pre : List (List Int)} {A B : World} {v : Value} {vs : List Value} {row : Option Nat} (h : LI base B0 w G pre A v vs) (hg : A.grownBy B row) (hD : base ≤ D)
    (hr : ∀ r, row = some r → (G r ∧ ∃ o : Obj, A.heap[r]? = some o ∧ o.isCells = true) ∨ (D ≤ r ∧ ∃ o : Obj, A.heap[r]? = some o ∧ o.isCells = false)) (hG : ∀ b, G' b → G b ∨ A.heap.size ≤ b) : LI base B0 w G' pre B v vs := by
  have hsz := h.bel.size
  have hfar : ∀ u ∈ v :: vs, ∀ k, u.ownBlock = some k → row ≠ some k := fun u hu k hk e => by
    rcases hr k e with ⟨h1, _⟩ | ⟨_, o, h1, h2⟩
    · exact (h.gl k h1).2.2 u hu hk
    · obtain ⟨o', h3, h4⟩ := h.own.cells u hu k hk
      rw [h1] at h3; cases h3; rw [h2] at h4; cases h4
  refine ⟨h.bx.kept hg fun e => ?_, h.own.kept hg fun u hu => ?_, fun b hb => ?_, h.bel.grown hg (by have := h.hb.1; omega) fun k e => ?_, h.ap, h.hb⟩
  · rcases hr _ e.symm with ⟨h1, _⟩ | ⟨_, o, h1, h2⟩
    · exact (h.gl _ h1).2.1 rfl
    · have h3 := h.bx; unfold Boxed at h3; rw [h1] at h3; cases h3; cases h2
  · cases e : u.ownBlock with
    | none => exact .inl rfl
    | some k => exact .inr fun e2 => hfar u hu k e e2.symm
  · rcases hG b hb with hb | hb
    · exact h.gl b hb
    · have := h.hb.1
      refine ⟨by omega, fun e => by have := h.bx.lt; omega, fun u hu e => ?_⟩
      have := (h.own.lt u hu b e).2
      omega
  · rcases hr k e with ⟨h1, _⟩ | ⟨h1, _⟩
    · exact (h.gl k h1).1
    · omega
/-- One row more. -/
theorem li_body {base B0 : Nat} {w : World} {G : Nat → Prop} {pre : List (List Int)} {A w1 : World} {v v' x : Value} {vs : List Value} {xs : List Int} (h : LI base B0 w G pre A v vs) (hlt : ∀ b, G b → b < A.heap.size)
    (hx : ∀ b, x.ownBlock = some b → G b) (ho : OwnsR w1 base v' (vs ++ [x]) (pre ++ [xs])) (hg : (A.alloc (.cells #[x] 29)).grownBy w1 v.ownBlock) (hv' : v'.ownBlock = v.ownBlock ∨ v'.ownBlock = some (A.heap.size + 1)) :
    KeepsOthers A (w1.setCell ⟨B0, 0, none⟩ v') ∧ (∀ G' : Nat → Prop, (∀ b, G' b → G b ∧ x.ownBlock ≠ some b) → ∃ v vs, LI base B0 w G' (pre ++ [xs]) (w1.setCell ⟨B0, 0, none⟩ v') v vs) ∧ (∀ b, G b → (w1.setCell ⟨B0, 0, none⟩ v').heap[b]? = A.heap[b]?) ∧ Boxed w1 B0 24 v := by
  have hsz := h.bel.size
  have hbb := h.hb
  have hrow' := ho.row
  obtain ⟨hv1, hv2, hr2, hk2, hb2⟩ := h.bx.appended (by decide) h.own.row (by omega) hbb.2 hrow' hg
  have hfar : FarFrom (some B0) (v' :: (vs ++ [x])) := fun u hu => by
    right
    rcases List.mem_cons.1 hu with rfl | hu
    · exact fun e => hv1.not_row (by decide) hrow' e.symm
    · obtain ⟨i, hi, rfl⟩ := List.mem_iff_getElem.1 hu
      have hil : i < (pre ++ [xs]).length := by have := ho.len; omega
      obtain ⟨z, h1, h2, _⟩ := ho.sees.2 i (pre ++ [xs])[i] (List.getElem?_eq_getElem hil)
      rw [List.getElem?_eq_getElem hi] at h1
      rw [Option.some.inj h1]
      exact fun e => hv1.not_row (by decide) h2 e.symm
  refine ⟨hk2, fun G' hG' => ⟨v', vs ++ [x], hv2, ho.kept (grownBy_setCell' _ _ _) hfar, fun b hb => ?_, h.bel.trans hb2, ?_, hbb⟩, fun b hb => ?_, hv1⟩
  · obtain ⟨h1, h2⟩ := hG' b hb
    have h3 := h.gl b h1
    refine ⟨h3.1, h3.2.1, fun u hu e => ?_⟩
    rcases List.mem_cons.1 hu with rfl | hu
    · rcases hv' with hv' | hv'
      · rw [hv'] at e; exact h3.2.2 v List.mem_cons_self e
      · rw [hv'] at e; injection e with e; have := hlt b h1; omega
    · rcases List.mem_append.1 hu with hu | hu
      · exact h3.2.2 u (List.mem_cons_of_mem _ hu) e
      · rw [List.mem_singleton] at hu; subst hu; exact h2 e
  · unfold Apart
    rw [List.pairwise_append]
    refine ⟨h.ap, by simp, fun u hu z hz b e e2 => ?_⟩
    rw [List.mem_singleton] at hz
    subst hz
    exact (h.gl b (hx b e2)).2.2 u (List.mem_cons_of_mem _ hu) e
  · have h1 := hlt b hb
    have h2 := h.gl b hb
    rw [Below.heap_setCell _ _ _ _ (fun e => h2.2.1 e), hg.block b (by rw [World.size_alloc]; omega) (fun e => h2.2.2 v List.mem_cons_self e.symm), Below.heap_alloc _ _ _ h1]
end Go.Proofs.Ytfmknllemhdnaaa

namespace Go.Proofs.Ytfmknllemhdnaaa
open Go.RowKit

attribute [local go_sem] Oper.semAt_some

/-- What lies behind the call: the rows, each in memory of its own. -/
def RowsPost (L : List (List Int)) (w : World) (e : Ending) (w' : World) : Prop := ∃ v vs, e = .returned v ∧ OwnsR w' w.heap.size v vs L ∧ Apart vs ∧ Below w.heap.size w w'
theorem grow_len {lim : Nat} (h : lim = 4 ∨ lim = 16) : (growP lim lim []).length ≤ 200 := by
  rcases h with rfl | rfl
  · rw [grow_one]; omega
  · rw [grow_two]; omega

set_option maxRecDepth 100000 in
set_option maxHeartbeats 2000000 in
theorem iIssues4 (w : World) : Calls Try.prog 8 #[.int .i64 1] w (RowsPost (growP 4 4 []) w) := by
  have HL := Lib.hid (grow_len (lim := 4) (by simp))
  have HWO : Hid (Calls Try.prog 25 #[.int .i64 1] (w.alloc (.cells #[.slice none 0 0] 24)) fun e w' => e = .returned (.int .i64 2) ∧ w.alloc (.cells #[.slice none 0 0] 24) = w') := iWorldsOf 1 _
  have bO := Boxed.new w 24 (.slice none 0 0)
  have bN := Boxed.new (w.alloc (.cells #[.slice none 0 0] 24)) 3 (.int .i64 4)
  rw [World.size_alloc] at bN
  have hB0 : Below w.heap.size w ((w.alloc (.cells #[.slice none 0 0] 24)).alloc (.cells #[.int .i64 4] 3)) := ((Below.refl _ w).alloc (Nat.le_refl _) _).alloc (by simp) _
  have HSEQ := Lib.hid (iAnti (5 - 1) 4 (w.heap.size + 1) w.heap.size ((w.alloc (.cells #[.slice none 0 0] 24)).alloc (.cells #[.int .i64 4] 3)) (by decide) (by simp; omega) bN.cell (by simp))
  refine (callsIn_wide (n := 5)).1 ?_
  refine callsIn_of_wp_marks Try.func8 rfl trivial ?_ rfl
  simp only [Try.ntmps8, List.size_toArray, List.length_cons, List.length_nil, Nat.reduceAdd, Nat.reduceSub, Array.replicate_succ, Array.replicate_zero, List.push_toArray, List.append_toArray, List.nil_append, List.cons_append]
  gi_wp2_with (first
    | ((refine ⟨trivial, ?_⟩); gi_at_call 25; refine (callsIn_wide.2 HWO.out).mono ?_; clear HWO; rintro e W1 ⟨rfl, rfl⟩)
    | ((refine ⟨trivial, ?_⟩); gi_at_call 24; refine (iAntichains _ _ _).mono ?_; rintro e W1 ⟨rfl, rfl⟩))
  refine wpIn_range_grow rfl (by decide) (gf := 41) (lb := #[.pointer (some ⟨w.heap.size + 1, 0, none⟩)]) rfl trivial (enters_of Try.func41 (by kernel_rfl) rfl) HSEQ.out (Below.refl _ _) rfl
    (fun G pre W => ∃ v vs, LI w.heap.size w.heap.size w G pre W v vs)
    (fun G G' pre A B row ⟨v, vs, hi⟩ hg hr hG => ⟨v, vs, li_step hi hg (by simp; omega) hr hG⟩)
    (fun b hb => by simp; omega)
    ⟨.slice none 0 0, [], bO.alloc _, OwnsR.nil _ _, fun b hb => ⟨by omega, by omega, fun u hu => by simp at hu; subst hu; simp [Value.ownBlock]⟩, hB0, List.Pairwise.nil, Nat.le_refl _, Nat.le_refl _⟩
    (fun x => { tmps := #[.int .i64 1, undef, .slice none 0 0, .pointer (some ⟨w.heap.size, 0, none⟩), x, .int .i64 1, .bool false, .bool false, .int .i64 1, .bool false, .bool false, .int .i64 1, .int .i64 2, .int .i64 4, .func (.func 41) #[] #[.pointer (some ⟨w.heap.size + 1, 0, none⟩)], x, undef, undef, undef, undef, undef], defers := [] }) ?assign ?body ?done
  case assign =>
    intro l m x W K hK
    gi_wp2
    exact hK
  case body =>
    rintro l m G pre A x xs ⟨v, vs, hi⟩ hlt hox hxG hx1 hx2 hlen
    have HI := Lib.hid hi
    have HLT := Lib.hid hlt
    have HX := Lib.hid hox
    have HXG := Lib.hid hxG
    have hc := hi.bx.cell
    have hpl : pre.length ≤ 1048576 := by have := HL.out; omega
    have hbA : w.heap.size ≤ A.heap.size := hi.bel.size
    have hyo : x.ownBlock = none ∨ x.ownBlock ≠ v.ownBlock := by
      cases e : x.ownBlock with
      | none => exact .inl rfl
      | some k => exact .inr fun e2 => (hi.gl k (hxG k e)).2.2 v List.mem_cons_self e2.symm
    obtain ⟨Ax, nx, cx, rfl⟩ : ∃ A n c, x = .slice A n c := by
      obtain ⟨A', c', e, _⟩ := hox.form
      exact ⟨_, _, _, e⟩
    clear hi hlt hox hxG HSEQ
    gi_wp2_with (gi_at_builtin; refine wpListIn_appendR rfl _ _ rfl w.heap.size v vs pre rfl HI.out.own _ xs HX.out (by omega) hyo rfl hpl hbA ?_; intro v' w1 ho1 hg1 hv1; obtain ⟨Av, nv, cv, rfl⟩ : ∃ A n c, v' = .slice A n c := (by obtain ⟨A', c', e, _⟩ := ho1.form; exact ⟨_, _, _, e⟩); have HB := Lib.hid (li_body HI.out HLT.out HXG.out ho1 hg1 hv1); have hc1 := HB.out.2.2.2.cell; have hf1 := HB.out.2.2.2.frozen; clear ho1 hg1 hv1)
    exact ⟨HB.out.1, HB.out.2.1, HB.out.2.2.1⟩
  case done =>
    rintro D G W hD ⟨v, vs, hi⟩ hK
    have HI := Lib.hid hi
    have hc := hi.bx.cell
    clear hi HSEQ
    gi_wp2
    refine ⟨by simp, .inl ⟨_, _, rfl, run_takeDeferred hK, ?_⟩⟩
    have h2 := li_step (G' := G) HI.out (grownBy_putObj' W D (.deferred none)) (D := w.heap.size) (Nat.le_refl _) (fun r e => by cases e; exact .inr ⟨by simp at hD; omega, _, hK, rfl⟩) (fun b h => .inl h)
    exact ⟨_, results_tmp rfl _ _ _, v, vs, rfl, h2.own, h2.ap, h2.bel⟩
set_option maxRecDepth 100000 in
set_option maxHeartbeats 2000000 in
theorem iIssues16 (w : World) : Calls Try.prog 8 #[.int .i64 2] w (RowsPost (growP 16 16 []) w) := by
  have HL := Lib.hid (grow_len (lim := 16) (by simp))
  have HWO : Hid (Calls Try.prog 25 #[.int .i64 2] (w.alloc (.cells #[.slice none 0 0] 24)) fun e w' => e = .returned (.int .i64 4) ∧ w.alloc (.cells #[.slice none 0 0] 24) = w') := iWorldsOf 2 _
  have bO := Boxed.new w 24 (.slice none 0 0)
  have bN := Boxed.new (w.alloc (.cells #[.slice none 0 0] 24)) 3 (.int .i64 16)
  rw [World.size_alloc] at bN
  have hB0 : Below w.heap.size w ((w.alloc (.cells #[.slice none 0 0] 24)).alloc (.cells #[.int .i64 16] 3)) := ((Below.refl _ w).alloc (Nat.le_refl _) _).alloc (by simp) _
  have HSEQ := Lib.hid (iAnti (5 - 1) 16 (w.heap.size + 1) w.heap.size ((w.alloc (.cells #[.slice none 0 0] 24)).alloc (.cells #[.int .i64 16] 3)) (by decide) (by simp; omega) bN.cell (by simp))
  refine (callsIn_wide (n := 5)).1 ?_
  refine callsIn_of_wp_marks Try.func8 rfl trivial ?_ rfl
  simp only [Try.ntmps8, List.size_toArray, List.length_cons, List.length_nil, Nat.reduceAdd, Nat.reduceSub, Array.replicate_succ, Array.replicate_zero, List.push_toArray, List.append_toArray, List.nil_append, List.cons_append]
  gi_wp2_with (first
    | ((refine ⟨trivial, ?_⟩); gi_at_call 25; refine (callsIn_wide.2 HWO.out).mono ?_; clear HWO; rintro e W1 ⟨rfl, rfl⟩)
    | ((refine ⟨trivial, ?_⟩); gi_at_call 24; refine (iAntichains _ _ _).mono ?_; rintro e W1 ⟨rfl, rfl⟩))
  refine wpIn_range_grow rfl (by decide) (gf := 41) (lb := #[.pointer (some ⟨w.heap.size + 1, 0, none⟩)]) rfl trivial (enters_of Try.func41 (by kernel_rfl) rfl) HSEQ.out (Below.refl _ _) rfl
    (fun G pre W => ∃ v vs, LI w.heap.size w.heap.size w G pre W v vs)
    (fun G G' pre A B row ⟨v, vs, hi⟩ hg hr hG => ⟨v, vs, li_step hi hg (by simp; omega) hr hG⟩)
    (fun b hb => by simp; omega)
    ⟨.slice none 0 0, [], bO.alloc _, OwnsR.nil _ _, fun b hb => ⟨by omega, by omega, fun u hu => by simp at hu; subst hu; simp [Value.ownBlock]⟩, hB0, List.Pairwise.nil, Nat.le_refl _, Nat.le_refl _⟩
    (fun x => { tmps := #[.int .i64 2, undef, .slice none 0 0, .pointer (some ⟨w.heap.size, 0, none⟩), x, .int .i64 2, .bool false, .bool false, .int .i64 2, .bool false, .bool false, .int .i64 2, .int .i64 4, .int .i64 16, .func (.func 41) #[] #[.pointer (some ⟨w.heap.size + 1, 0, none⟩)], x, undef, undef, undef, undef, undef], defers := [] }) ?assign ?body ?done
  case assign =>
    intro l m x W K hK
    gi_wp2
    exact hK
  case body =>
    rintro l m G pre A x xs ⟨v, vs, hi⟩ hlt hox hxG hx1 hx2 hlen
    have HI := Lib.hid hi
    have HLT := Lib.hid hlt
    have HX := Lib.hid hox
    have HXG := Lib.hid hxG
    have hc := hi.bx.cell
    have hpl : pre.length ≤ 1048576 := by have := HL.out; omega
    have hbA : w.heap.size ≤ A.heap.size := hi.bel.size
    have hyo : x.ownBlock = none ∨ x.ownBlock ≠ v.ownBlock := by
      cases e : x.ownBlock with
      | none => exact .inl rfl
      | some k => exact .inr fun e2 => (hi.gl k (hxG k e)).2.2 v List.mem_cons_self e2.symm
    obtain ⟨Ax, nx, cx, rfl⟩ : ∃ A n c, x = .slice A n c := by
      obtain ⟨A', c', e, _⟩ := hox.form
      exact ⟨_, _, _, e⟩
    clear hi hlt hox hxG HSEQ
    gi_wp2_with (gi_at_builtin; refine wpListIn_appendR rfl _ _ rfl w.heap.size v vs pre rfl HI.out.own _ xs HX.out (by omega) hyo rfl hpl hbA ?_; intro v' w1 ho1 hg1 hv1; obtain ⟨Av, nv, cv, rfl⟩ : ∃ A n c, v' = .slice A n c := (by obtain ⟨A', c', e, _⟩ := ho1.form; exact ⟨_, _, _, e⟩); have HB := Lib.hid (li_body HI.out HLT.out HXG.out ho1 hg1 hv1); have hc1 := HB.out.2.2.2.cell; have hf1 := HB.out.2.2.2.frozen; clear ho1 hg1 hv1)
    exact ⟨HB.out.1, HB.out.2.1, HB.out.2.2.1⟩
  case done =>
    rintro D G W hD ⟨v, vs, hi⟩ hK
    have HI := Lib.hid hi
    have hc := hi.bx.cell
    clear hi HSEQ
    gi_wp2
    refine ⟨by simp, .inl ⟨_, _, rfl, run_takeDeferred hK, ?_⟩⟩
    have h2 := li_step (G' := G) HI.out (grownBy_putObj' W D (.deferred none)) (D := w.heap.size) (Nat.le_refl _) (fun r e => by cases e; exact .inr ⟨by simp at hD; omega, _, hK, rfl⟩) (fun b h => .inl h)
    exact ⟨_, results_tmp rfl _ _ _, v, vs, rfl, h2.own, h2.ap, h2.bel⟩
set_option maxRecDepth 100000 in
set_option maxHeartbeats 1000000 in
theorem iIssuesOf (t : Int) (w : World) : Calls Try.prog 8 #[.int .i64 t] w (RowsPost (issuesOfL t) w) := by
  rw [issues_grow]
  by_cases h1 : t = 1
  · subst h1
    exact iIssues4 w
  by_cases h2 : t = 2
  · subst h2
    exact iIssues16 w
  rw [if_neg h1, if_neg h2]
  by_cases h3 : t < 1
  · clear h1 h2
    go_enter Try.func8, Try.ntmps8
    go_wp2_with fail
    go_ret
    exact ⟨_, [], rfl, OwnsR.nil _ _, List.Pairwise.nil, Below.refl _ _⟩
  · have h4 : ¬ (t < 1) := h3
    have h5 : 2 < t := by omega
    clear h1 h2 h3
    go_enter Try.func8, Try.ntmps8
    go_wp2_with fail
    go_ret
    exact ⟨_, [], rfl, OwnsR.nil _ _, List.Pairwise.nil, Below.refl _ _⟩
theorem list_len (t : Int) : (issuesOfL t).length ≤ 200 := by
  rw [issues_grow]
  split
  · exact grow_len (.inl rfl)
  · split
    · exact grow_len (.inr rfl)
    · simp
end Go.Proofs.Ytfmknllemhdnaaa

namespace Go.Proofs.Ytfmknllemhdnaaa
open Go.RowKit

def sumLen (xss : List (List Int)) : Nat := (xss.map List.length).sum
theorem sum_take {xss : List (List Int)} {k : Nat} {x : List Int} (hx : Hid (xss[k]? = some x)) : sumLen (xss.take (k + 1)) = sumLen (xss.take k) + x.length := by
  have h := hx.out
  unfold sumLen
  rw [List.take_add_one, h]
  simp
theorem sum_le (xss : List (List Int)) (k : Nat) : sumLen (xss.take k) ≤ sumLen xss := by
  have h : sumLen xss = sumLen (xss.take k) + sumLen (xss.drop k) := by
    conv => lhs; rw [← List.take_append_drop k xss]
    unfold sumLen
    rw [List.map_append, List.sum_append]
  omega
theorem sum_lens {xss yss : List (List Int)} (h : yss.map List.length = xss.map List.length) (k : Nat) : sumLen (yss.take k) = sumLen (xss.take k) := by
  unfold sumLen
  rw [List.map_take, List.map_take, h]
/-- The first so many rows hold the numbers from k0 on. -/
def MarksTo (zss : List (List Int)) (k0 : Int) (n : Nat) : Prop := ∀ (i : Nat) (x : List Int), i < n → zss[i]? = some x → ∀ (j : Nat) (y : Int), x[j]? = some y → y = k0 + (sumLen (zss.take i) : Int) + (j : Int)
theorem OwnsR.elemA {w : World} {base n c : Nat} {A : Option Addr} {vs : List Value} {xss : List (List Int)} (h : OwnsR w base (.slice A n c) vs xss) {i : Nat} (hi : i < xss.length) :
    ∃ g off Ai ci xs, A = some ⟨g, off, none⟩ ∧ w.cell? ⟨g, off + i, none⟩ = some (.slice Ai xs.length ci) ∧ Hid (xss[i]? = some xs) ∧ Hid (Row w Ai xs.length ci xs) ∧ Hid (Owns w base (.slice Ai xs.length ci) xs) ∧ xs.length ≤ 300 ∧
      Hid (vs[i]? = some (.slice Ai xs.length ci)) := by
  rcases h.row.2 with ⟨hv, hl⟩ | ⟨g, cap, cur, hv, hb, hg, hn, hm, hcs, ht⟩
  · have := h.len; omega
  · simp only [Value.slice.injEq] at hv
    obtain ⟨rfl, _, rfl⟩ := hv
    obtain ⟨v, h1, h2, h3, _⟩ := h.sees.2 i xss[i] (List.getElem?_eq_getElem hi)
    obtain ⟨Ai, ci, rfl, _, _, _, _⟩ := h2.form
    refine ⟨g, 0, Ai, ci, xss[i], rfl, ?_, List.getElem?_eq_getElem hi, Owns.row h2 (by omega), h2, h3, h1⟩
    rw [Nat.mul_one] at ht
    have hil : i < vs.length := by rw [h.len]; exact hi
    have e : cur[i]? = some (.slice Ai xss[i].length ci) := by
      have h4 : (cur.toList.take vs.length)[i]? = vs[i]? := by rw [ht]
      rw [List.getElem?_take_of_lt hil, h1] at h4
      simpa using h4
    simp [World.cell?, hg, e]
theorem OwnsR.mark {w w' : World} {base : Nat} {v vi : Value} {vs : List Value} {xss : List (List Int)} {i : Nat} {xs ys : List Int} (h : OwnsR w base v vs xss) (ha : Apart vs) (hi : vs[i]? = some vi) (hx : xss[i]? = some xs) (hy : ys.length ≤ 300) (ho : Owns w' base vi ys)
    (hg : w.grownBy w' vi.ownBlock) : OwnsR w' base v vs (xss.set i ys) := by
  have hap := List.pairwise_iff_getElem.1 ha
  obtain ⟨hil, hvi⟩ := List.getElem?_eq_some_iff.1 hi
  obtain ⟨z, g1, g2, g3, g4⟩ := h.sees.2 i xs hx
  rw [hi] at g1
  cases g1
  have hvv : v.ownBlock = none ∨ v.ownBlock ≠ vi.ownBlock := by
    cases e : v.ownBlock with
    | none => exact .inl rfl
    | some k =>
      right
      rcases g4 with g4 | g4
      · rw [g4]; simp
      · rw [e] at g4; exact fun e2 => g4 e2.symm
  refine ⟨World.ownsRow.kept h.row hg hvv, by rw [List.length_set]; exact h.len, fun j us hu => ?_⟩
  rw [List.getElem?_set] at hu
  by_cases e : i = j
  · subst e
    rw [if_pos rfl] at hu
    split at hu
    · cases hu
      exact ⟨vi, hi, ho, hy, g4⟩
    · cases hu
  · rw [if_neg e] at hu
    obtain ⟨u, f1, f2, f3, f4⟩ := h.sees.2 j us hu
    obtain ⟨hjl, hvj⟩ := List.getElem?_eq_some_iff.1 f1
    refine ⟨u, f1, f2.kept hg ?_, f3, f4⟩
    cases eu : u.ownBlock with
    | none => exact .inl rfl
    | some k =>
      right
      intro e2
      rcases Nat.lt_or_ge i j with hlt | hge
      · exact hap i j hil hjl hlt k (by rw [hvi]; exact e2.symm) (by rw [hvj]; exact eu)
      · exact hap j i hjl hil (by omega) k (by rw [hvj]; exact eu) (by rw [hvi]; exact e2.symm)
set_option maxRecDepth 100000 in
set_option maxHeartbeats 4000000 in
theorem lHeldSS {A : Option Addr} {n c base : Nat} {vs : List Value} {zss : List (List Int)} {w : World} {k0 : Int} (ha : OwnsR w base (.slice A n c) vs zss) (hl : zss.length ≤ 1048576) (h0 : 0 ≤ k0) (h1 : k0 + (sumLen zss : Int) ≤ 1073741824) (hh : MarksTo zss k0 zss.length) :
    Calls Try.prog 16 #[.slice A n c, .int .i64 k0] w fun e w' => e = .returned (.int .i64 (k0 + (sumLen zss : Int))) ∧ ∃ q, w' = w.drewN q := by
  have HA := Lib.hid ha
  have HH := Lib.hid hh
  obtain rfl := ha.size_eq
  clear ha hh
  go_enter Try.func16, Try.ntmps16
  go_wp2_with fail
  go_loopw [1, 5] (fun q i wr => ∃ k : Nat, k ≤ zss.length ∧ i = .int .i64 k ∧ q = .int .i64 (k0 + (sumLen (zss.take k) : Int)) ∧ ∃ m, wr = w.drewN m) (fun _ i _ => zss.length - (Go.RowKit.intOf i).toNat)
  case atStart => exact ⟨0, Nat.zero_le _, rfl, by simp [sumLen], 0, rfl⟩
  case round =>
    obtain ⟨k, hk, rfl, rfl, m, rfl⟩ := hrel
    by_cases hlt : k < zss.length
    · obtain ⟨g1, o1, A1, c1, x, rfl, hc1, hx, hr1, _, hx3, _⟩ := HA.out.elemA hlt
      have hs := sum_take hx
      have hs1 := sum_le zss (k + 1)
      have HV : Hid (∀ (j : Nat) (y : Int), x[j]? = some y → y = (k0 + (sumLen (zss.take k) : Int)) + (j : Int)) := HH.out k x hlt hx.out
      obtain ⟨s0, HS0⟩ : ∃ s, Hid (sumLen (zss.take k) = s) := ⟨_, rfl⟩
      obtain ⟨s1, HS1⟩ : ∃ s, Hid (sumLen (zss.take (k + 1)) = s) := ⟨_, rfl⟩
      have HS : Hid (s1 = s0 + x.length) := by rw [← HS0.out, ← HS1.out]; exact hs
      have hb1 : s1 ≤ sumLen zss := by rw [← HS1.out]; exact hs1
      rw [HS0.out] at HV ⊢
      clear hs hs1
      have hs0 : s0 + x.length ≤ sumLen zss := by have := HS.out; omega
      go_wp2_with fail
      refine (lHeldIntS _ _ _ x _ _ rfl (by omega) (by omega) (by omega) ((hr1.out.drewN _).hA) HV.out).mono ?_
      rintro e w' ⟨rfl, rfl⟩
      have hge : ¬ (k0 + (s0 : Int) + (x.length : Int) < 0) := by omega
      go_wp2_with fail
      go_roundw
      case rel => exact ⟨k + 1, by omega, by go_num, by rw [HS1.out, HS.out]; congr 1; omega, _, rfl⟩
      case measure => simp [Go.RowKit.intOf]; omega
    · obtain rfl : k = zss.length := by omega
      rw [List.take_length]
      go_wp2_with fail
      go_ret
      exact ⟨rfl, _, rfl⟩
theorem lens_at {xss yss : List (List Int)} (h : yss.map List.length = xss.map List.length) {i : Nat} {x y : List Int} (hx : xss[i]? = some x) (hy : yss[i]? = some y) : y.length = x.length := by
  have e := congrArg (fun l => l[i]?) h
  simp only [List.getElem?_map, hx, hy, Option.map_some] at e
  exact Option.some.inj e
theorem marks_next {zss xss : List (List Int)} {k0 : Int} {k : Nat} {x ys : List Int} (hlen : zss.map List.length = xss.map List.length) (hm : MarksTo zss k0 k) (hx : xss[k]? = some x) (hyl : ys.length = x.length) (hv : ∀ (i : Nat) (y : Int), ys[i]? = some y → y = k0 + (sumLen (xss.take k) : Int) + (i : Int)) :
    (zss.set k ys).map List.length = xss.map List.length ∧ MarksTo (zss.set k ys) k0 (k + 1) := by
  have hl : zss.length = xss.length := by have := congrArg List.length hlen; simpa using this
  obtain ⟨hkl, hxk⟩ := List.getElem?_eq_some_iff.1 hx
  have hlen2 : (zss.set k ys).map List.length = xss.map List.length := by
    rw [List.map_set, hlen, hyl]
    have : (xss.map List.length)[k]? = some x.length := by rw [List.getElem?_map, hx]; rfl
    obtain ⟨h1, h2⟩ := List.getElem?_eq_some_iff.1 this
    rw [← h2, List.set_getElem_self]
  refine ⟨hlen2, fun i z hi hz j y hy => ?_⟩
  rw [sum_lens hlen2]
  rw [List.getElem?_set] at hz
  by_cases e : k = i
  · subst e
    rw [if_pos rfl, if_pos (by omega)] at hz
    cases hz
    exact hv j y hy
  · rw [if_neg e] at hz
    have := hm i z (by omega) hz j y hy
    rw [sum_lens hlen] at this
    exact this
set_option maxRecDepth 100000 in
set_option maxHeartbeats 4000000 in
theorem lMarkSS {A : Option Addr} {n c base : Nat} {vs : List Value} {xss : List (List Int)} {w : World} {k0 : Int} (ha : OwnsR w base (.slice A n c) vs xss) (hap : Apart vs) (hl : xss.length ≤ 1048576) (h0 : 0 ≤ k0) (h1 : k0 + (sumLen xss : Int) ≤ 1073741824) (hbase : base ≤ w.heap.size) :
    Calls Try.prog 15 #[.slice A n c, .int .i64 k0] w fun e w' => e = .returned (.int .i64 (k0 + (sumLen xss : Int))) ∧ ∃ zss, zss.map List.length = xss.map List.length ∧ MarksTo zss k0 zss.length ∧ OwnsR w' base (.slice A n c) vs zss ∧ Below base w w' := by
  have HA := Lib.hid ha
  have HP := Lib.hid hap
  obtain rfl := ha.size_eq
  clear ha hap
  go_enter Try.func15, Try.ntmps15
  go_wp2_with fail
  go_loopw [1, 5] (fun q i wr => ∃ (k : Nat) (zss : List (List Int)), k ≤ xss.length ∧ i = .int .i64 k ∧ q = .int .i64 (k0 + (sumLen (xss.take k) : Int)) ∧ Hid (zss.map List.length = xss.map List.length) ∧ Hid (MarksTo zss k0 k) ∧ Hid (OwnsR wr base (.slice A xss.length c) vs zss) ∧ Hid (Below base w wr)) (fun _ i _ => xss.length - (Go.RowKit.intOf i).toNat)
  case atStart => exact ⟨0, xss, Nat.zero_le _, rfl, by simp [sumLen], rfl, fun i x hi => by omega, HA.out, Below.refl _ _⟩
  case round =>
    obtain ⟨k, zss, hk, rfl, rfl, HLN, HMK, HOW, HBE⟩ := hrel
    have hzl : zss.length = xss.length := by have := congrArg List.length HLN.out; simpa using this
    have HZL := Lib.hid hzl
    by_cases hlt : k < xss.length
    · obtain ⟨g1, o1, A1, c1, x, rfl, hc1, hx, hr1, ho1, hx3, hv1⟩ := HOW.out.elemA (i := k) (by omega)
      obtain ⟨y0, HY0⟩ : ∃ y, Hid (xss[k]? = some y) := ⟨xss[k], List.getElem?_eq_getElem hlt⟩
      have HXY := Lib.hid (lens_at HLN.out HY0.out hx.out)
      have hs := sum_take HY0
      have hs1 := sum_le xss (k + 1)
      obtain ⟨s0, HS0⟩ : ∃ s, Hid (sumLen (xss.take k) = s) := ⟨_, rfl⟩
      obtain ⟨s1, HS1⟩ : ∃ s, Hid (sumLen (xss.take (k + 1)) = s) := ⟨_, rfl⟩
      have HS : Hid (s1 = s0 + x.length) := by rw [HXY.out, ← HS0.out, ← HS1.out]; exact hs
      have hb1 : s1 ≤ sumLen xss := by rw [← HS1.out]; exact hs1
      rw [HS0.out]
      clear hs hs1 hzl
      have hs0 : s0 + x.length ≤ sumLen xss := by have := HS.out; omega
      go_wp2_with fail
      refine (lMarkIntS base _ _ _ x _ _ rfl (by omega) (by omega) (by omega) ho1.out).mono ?_
      rintro e w' ⟨ys, rfl, hyl, hyv, hyo, hyg⟩
      have HN := Lib.hid (marks_next (ys := ys) HLN.out HMK.out HY0.out (by rw [hyl, HXY.out]) (by rw [HS0.out]; exact hyv))
      have HO2 := Lib.hid (HOW.out.mark HP.out hv1.out hx.out (by omega) hyo hyg)
      have HB2 : Hid (Below base w w') := HBE.out.grown hyg (by have := HBE.out.size; omega) (fun k e => (World.ownsRow.lt ho1.out k e).1)
      clear hyl hyv hyo hyg
      go_wp2_with fail
      go_roundw
      case rel => exact ⟨k + 1, zss.set k ys, by omega, by go_num, by rw [HS1.out, HS.out]; congr 1; omega, HN.out.1, HN.out.2, HO2.out, HB2.out⟩
      case measure => simp [Go.RowKit.intOf]; omega
    · obtain rfl : k = xss.length := by omega
      rw [List.take_length]
      clear hzl
      go_wp2_with fail
      go_ret
      exact ⟨rfl, zss, HLN.out, by rw [HZL.out]; exact HMK.out, HOW.out, HBE.out⟩
end Go.Proofs.Ytfmknllemhdnaaa

namespace Go.Proofs.Ytfmknllemhdnaaa
open Go.RowKit

theorem sum_list (t : Int) : sumLen (issuesOfL t) ≤ 2000 := by
  rw [issues_grow]
  split
  · decide +kernel
  · split
    · decide +kernel
    · simp [sumLen]
theorem marks_sum {zss L : List (List Int)} (h : zss.map List.length = L.map List.length) : sumLen zss = sumLen L ∧ zss.length = L.length := by
  unfold sumLen
  rw [h]
  exact ⟨rfl, by have := congrArg List.length h; simpa using this⟩
set_option maxRecDepth 100000 in
set_option maxHeartbeats 4000000 in
theorem wExactIssuesOf (t : Int) (w : World) : Calls Try.prog 4 #[.int .i64 t] w fun e w' => e = .returned (.bool true) ∧ Below w.heap.size w w' := by
  have HIM : Hid (∀ W, Calls Try.prog 8 #[.int .i64 t] W (RowsPost (issuesOfL t) W)) := iIssuesOf t
  have HSP : Hid (∀ W, Calls Try.prog 10 #[.int .i64 t] W (OwnR (issuesOfL t) W)) := sIssuesOf t
  have hl := list_len t
  have hsum := sum_list t
  obtain ⟨L, HL⟩ : ∃ L, Hid (issuesOfL t = L) := ⟨_, rfl⟩
  rw [HL.out] at HIM HSP hl hsum
  obtain ⟨sm, HS⟩ : ∃ s, Hid (sumLen L = s) := ⟨_, rfl⟩
  rw [HS.out] at hsum
  go_enter Try.func4, Try.ntmps4
  go_wp2_with fail
  refine (HSP.out _).mono ?_
  rintro e w1 ⟨v, vs, rfl, ho, hb⟩
  obtain ⟨A1, c1, rfl, _⟩ := ho.form
  have HO1 := Lib.hid ho
  have HB1 := Lib.hid hb
  clear ho hb
  go_wp2_with fail
  refine (HIM.out _).mono ?_
  rintro e w2 ⟨v, us, rfl, ho, hap, hb⟩
  obtain ⟨A2, c2, rfl, _⟩ := ho.form
  have HO2 := Lib.hid ho
  have HAP := Lib.hid hap
  have HC2 := Lib.hid hb
  have hw2 : w1.heap.size ≤ w2.heap.size := hb.size
  clear ho hb hap
  go_wp2_with fail
  refine (lEqRows HO2.out (HO1.out.below HC2.out) (by omega)).mono ?_
  rintro e w' ⟨rfl, q1, rfl⟩
  go_wp2_with fail
  refine (lMarkSS (HO2.out.drewN q1) HAP.out (by omega) (by omega) (by rw [HS.out]; omega) (by exact hw2)).mono ?_
  rintro e w3 ⟨rfl, zss, hzl, hzm, ho3, hb3⟩
  obtain ⟨hz1, hz2⟩ := marks_sum hzl
  have HZ1 : Hid (sumLen zss = sm) := hz1.trans HS.out
  have hz3 : zss.length ≤ 200 := by omega
  have HM := Lib.hid hzm
  have HO3 := Lib.hid ho3
  have HC3 : Hid (Below w1.heap.size w1 w3) := (bel_drewN HC2.out q1).trans hb3
  rw [HS.out]
  clear hzl hz1 hz2 hzm ho3 hb3
  go_wp2_with fail
  refine (lHeldSS (k0 := 1) HO3.out (by omega) (by omega) (by rw [HZ1.out]; omega) HM.out).mono ?_
  rintro e w' ⟨rfl, q2, rfl⟩
  rw [HZ1.out]
  have hn1 : ¬ ((1 : Int) + (sm : Int) < 0) := by omega
  go_wp2_with fail
  refine (HIM.out _).mono ?_
  rintro e w4 ⟨v, us4, rfl, ho, _, hb⟩
  obtain ⟨A4, c4, rfl, _⟩ := ho.form
  have HO4 := Lib.hid ho
  have HO3b := Lib.hid ((HO3.out.drewN q2).below hb)
  have HC4 : Hid (Below w1.heap.size w1 w4) := (bel_drewN HC3.out q2).trans (hb.mono (by have := HC3.out.size; exact this))
  clear ho hb
  go_wp2_with fail
  refine (lEqRows HO4.out (HO1.out.below HC4.out) (by omega)).mono ?_
  rintro e w' ⟨rfl, q3, rfl⟩
  go_wp2_with fail
  refine (lHeldSS (k0 := 1) (HO3b.out.drewN q3) (by omega) (by omega) (by rw [HZ1.out]; omega) HM.out).mono ?_
  rintro e w' ⟨rfl, q4, rfl⟩
  rw [HZ1.out]
  go_wp2_with fail
  go_ret
  exact ⟨rfl, bel_drewN (bel_trans HB1.out HC4.out) (q3 + q4)⟩
end Go.Proofs.Ytfmknllemhdnaaa
