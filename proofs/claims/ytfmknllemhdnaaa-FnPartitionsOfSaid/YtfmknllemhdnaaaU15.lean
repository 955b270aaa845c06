/-
  What the proofs of this seat's statements share (ExtG, ExtH, ExtI).
-/
import Derived.OwnWalkIn
import Derived.TacticsInMore
import Derived.LoopNIn
import Derived.LoopIn
import Derived.Shelf.RegionOpen
import Derived.Laws.OwnMore
import Derived.RangeFuncLeaves
import Derived.RangeFuncBox
import Derived.Test.YtfmknllemhdnaaaU12
import Derived.Test.YtfmknllemhdnaaaU11
import Derived.Test.YtfmknllemhdnaaaU14
import Derived.Test.YtfmknllemhdnaaaU5

namespace Go.Proofs.Ytfmknllemhdnaaa
open Go.RowKit

/-- A row, and the same row with one number more, in the same memory or in new memory. -/
def Longer (B : Nat) (v v' : Value) : Prop :=
  (∃ g n cap, v = .slice (some ⟨g, 0, none⟩) n cap ∧ v' = .slice (some ⟨g, 0, none⟩) (n + 1) cap) ∨ ∃ g n cap, v' = .slice (some ⟨g, 0, none⟩) n cap ∧ B ≤ g
theorem owns_shorter {w : World} {base g n cap : Nat} {xs : List Int} {y : Int} (h : Owns w base (.slice (some ⟨g, 0, none⟩) (n + 1) cap) (xs ++ [y])) (hn : n = xs.length) : Owns w base (.slice (some ⟨g, 0, none⟩) n cap) xs := by
  subst hn
  unfold Owns at h ⊢
  rcases h.2 with ⟨he, _⟩ | ⟨g', cap', cur, he, hb, hg, hnc, hm, hcs, ht⟩
  · cases he
  · simp only [Value.slice.injEq, Option.some.injEq, Addr.mk.injEq, and_true] at he
    obtain ⟨rfl, _, rfl⟩ := he
    rw [List.length_append, List.length_singleton] at hnc
    refine ⟨by simp, .inr ⟨g, cap, cur, rfl, hb, hg, by omega, hm, hcs, ?_⟩⟩
    rw [Nat.mul_one] at ht ⊢
    rw [List.length_append, List.length_singleton] at ht
    have h2 := congrArg (List.take xs.length) ht
    rw [List.take_take, Nat.min_eq_left (by omega), List.map_append, List.take_append_of_le_length (by simp)] at h2
    exact h2.trans (List.take_of_length_le (by simp))
theorem owns_form {w : World} {base : Nat} {v : Value} {xs : List Int} (h : Owns w base v xs) : (v = .slice none 0 0 ∧ xs = []) ∨ ∃ g cap cur, v = .slice (some ⟨g, 0, none⟩) xs.length cap ∧ base ≤ g ∧ w.heap[g]? = some (.cells cur 3 (0, 0)) ∧ xs.length ≤ cap ∧ cap ≤ maxLen ∧ cur.size = cap ∧ cur.toList.take xs.length = xs.map (Value.int .i64) := by
  unfold Owns at h
  rcases h.2 with ⟨rfl, hl⟩ | ⟨g, cap, cur, rfl, hb, hg, hnc, hm, hcs, ht⟩
  · exact .inl ⟨rfl, List.eq_nil_of_length_eq_zero hl⟩
  · exact .inr ⟨g, cap, cur, rfl, hb, hg, hnc, hm, by rw [hcs, Nat.mul_one], by rw [Nat.mul_one] at ht; exact ht⟩
set_option maxHeartbeats 1000000 in
theorem run_grow1 {W : World} {base : Nat} {v : Value} {xs : List Int} (ty : TypeId) (y : Int) (hown : Owns W base v xs) (hl : xs.length ≤ 1000) (hb : base ≤ W.heap.size) :
    ∃ v' w', (Builtin.append_ #[29, 29] ty #[v, .slice (some ⟨W.heap.size, 0, none⟩) 1 1]).run Try.prog (W.alloc (.cells #[.int .i64 y] 3)) = .ok v' w' ∧
      Owns w' base v' (xs ++ [y]) ∧ Owns w' base v xs ∧ (W.alloc (.cells #[.int .i64 y] 3)).grownBy w' v.ownBlock ∧ Longer W.heap.size v v' ∧ (∀ b, v'.ownBlock = some b → v.ownBlock = some b ∨ W.heap.size ≤ b) ∧ v'.ownBlock ≠ none := by
  obtain ⟨i0, hi0, hz0, hz1, hz2⟩ := info_parts int_info
  have hown1 : Owns (W.alloc (.cells #[.int .i64 y] 3)) base v xs := hown.below ((Below.refl _ W).alloc (Nat.le_refl _) _)
  have hsz : (W.alloc (.cells #[.int .i64 y] 3)).heap.size = W.heap.size + 1 := World.size_alloc _ _
  have hnew : ∀ (j : Nat) (u : Value), [Value.int .i64 y][j]? = some u → (W.alloc (.cells #[.int .i64 y] 3)).cell? ((⟨W.heap.size, 0, none⟩ : Addr).add j) = some u := cell_one_new W _ _
  rcases owns_form hown1 with ⟨rfl, rfl⟩ | ⟨g, cap, cur, rfl, hbg, hg, hnc, hm, hcs, ht⟩
  · have hr := run_append_nil (P := Try.prog) (W.alloc (.cells #[.int .i64 y] 3)) 29 ty 3 i0 (.int .i64 0) Try.underlying29 hi0 hz0 ⟨W.heap.size, 0, none⟩ 1 1 [.int .i64 y] (by rw [hz1]; rfl) hnew (by omega) (by omega) (by rw [hz2]; omega)
    obtain ⟨c, hc⟩ : ∃ c, grownCap (W.alloc (.cells #[.int .i64 y] 3)) 1 0 3 = c := ⟨_, rfl⟩
    have hc1 : 1 ≤ c := by rw [← hc]; exact grownCap_ge _ _ _ _
    have hc2 : c ≤ maxLen := by rw [← hc]; exact grownCap_le_maxLen _ _ _ _ (by simp only [maxLen]; omega)
    rw [hc] at hr
    refine ⟨_, _, hr, ?_, Owns.nil _ _, ?_, .inr ⟨_, _, _, rfl, by rw [hsz]; omega⟩, fun b e => ?_, ?_⟩
    · unfold Owns
      refine ⟨rfl, .inr ⟨(W.alloc (.cells #[.int .i64 y] 3)).heap.size, c, _, rfl, by rw [hsz]; omega, heap_alloc_new (W.alloc (.cells #[.int .i64 y] 3)).drew _, hc1, hc2, ?_, ?_⟩⟩
      · simp [size_zeroCells, Value.cells]
        omega
      · simp
    · exact ⟨rfl, rfl, rfl, by simp, fun k hk _ => heap_alloc_old (W.alloc (.cells #[.int .i64 y] 3)).drew _ hk⟩
    · right
      simp [Value.ownBlock] at e
      omega
    · simp [Value.ownBlock]
  · by_cases hfit : xs.length + 1 ≤ cap
    · obtain ⟨w', hr, ho, hgr⟩ := run_append_fits (P := Try.prog) (W.alloc (.cells #[.int .i64 y] 3)) base 29 ty 3 i0 1 Try.underlying29 hi0 hz1 g xs.length cap (xs.map (Value.int .i64)) hown1 ⟨W.heap.size, 0, none⟩ 1 1 [.int .i64 y] rfl hnew (fun u hu => by rw [List.mem_singleton] at hu; subst hu; rfl) hfit
      have ho2 : Owns w' base (.slice (some ⟨g, 0, none⟩) (xs.length + 1) cap) (xs ++ [y]) := by
        unfold Owns
        rw [List.map_append, List.length_append]
        exact ho
      refine ⟨_, w', hr, ho2, owns_shorter ho2 rfl, ?_, .inl ⟨g, xs.length, cap, rfl, rfl⟩, fun b e => ?_, ?_⟩
      · have : (Value.slice (some ⟨g, 0, none⟩) xs.length cap).ownBlock = some g := by simp [Value.ownBlock]
        rw [this]; exact hgr
      · left
        simp [Value.ownBlock] at e ⊢
        first | exact e | omega
      · simp [Value.ownBlock]
    · have hcx : cap = xs.length := by omega
      subst hcx
      have hr := run_append_grow (P := Try.prog) (W.alloc (.cells #[.int .i64 y] 3)) 29 ty 3 i0 (.int .i64 0) Try.underlying29 hi0 hz0 ⟨g, 0, none⟩ xs.length xs.length (xs.map (Value.int .i64)) (by rw [hz1]; simp) (hown1.cells (g := g) rfl) ⟨W.heap.size, 0, none⟩ 1 1 [.int .i64 y] (by rw [hz1]; rfl) hnew (by omega) (by omega) (growslice_fits (by omega) (by rw [hz2]; omega))
      obtain ⟨c, hc⟩ : ∃ c, grownCap (W.alloc (.cells #[.int .i64 y] 3)) (xs.length + 1) xs.length 3 = c := ⟨_, rfl⟩
      have hc1 : xs.length + 1 ≤ c := by rw [← hc]; exact grownCap_ge _ _ _ _
      have hc2 : c ≤ maxLen := by rw [← hc]; exact grownCap_le_maxLen _ _ _ _ (by simp only [maxLen]; omega)
      rw [hc] at hr
      have hg1 : ∀ o row, (W.alloc (.cells #[.int .i64 y] 3)).grownBy ((W.alloc (.cells #[.int .i64 y] 3)).drew.alloc o) row := fun o _ => ⟨rfl, rfl, rfl, by simp, fun k hk _ => heap_alloc_old (W.alloc (.cells #[.int .i64 y] 3)).drew _ hk⟩
      refine ⟨_, _, hr, ?_, hown1.kept (hg1 _ none) (.inr (by simp [Value.ownBlock])), hg1 _ _, .inr ⟨_, _, _, rfl, by rw [hsz]; omega⟩, fun b e => ?_, ?_⟩
      · unfold Owns
        refine ⟨by simp, .inr ⟨(W.alloc (.cells #[.int .i64 y] 3)).heap.size, c, _, by rw [List.length_append, List.length_singleton], by rw [hsz]; omega, heap_alloc_new (W.alloc (.cells #[.int .i64 y] 3)).drew _, by rw [List.length_append, List.length_singleton]; omega, hc2, ?_, ?_⟩⟩
        · simp [size_zeroCells, Value.cells]
          omega
        · simp [List.take_append]
          exact List.take_of_length_le (by simp)
      · right
        simp [Value.ownBlock] at e
        omega
      · simp [Value.ownBlock]

set_option maxHeartbeats 1000000 in
theorem wpListIn_grow1 {F : Fence} {n : Nat} {W : World} {ops : Array Oper} {rest : List Oper} {o : Oper} {a : Act} {Q : Exit → Act → World → Prop} (hgd : o.guard = none) (s x : Operand)
    (ho : o.op = Op.call { callee := Callee.builtin Builtin.append, args := #[s, x], argTypes := #[29, 29] })
    {base : Nat} {v : Value} {xs : List Int} (y : Int) (hs : a.eval s = v) (hx : a.eval x = .slice (some ⟨W.heap.size, 0, none⟩) 1 1) (hown : Owns W base v xs) (hl : xs.length ≤ 1000) (hb : base ≤ W.heap.size)
    (h : ∀ v' w', Owns w' base v' (xs ++ [y]) → Owns w' base v xs → (W.alloc (.cells #[.int .i64 y] 3)).grownBy w' v.ownBlock → Longer W.heap.size v v' → (∀ b, v'.ownBlock = some b → v.ownBlock = some b ∨ W.heap.size ≤ b) → wpListIn F n Try.prog ops Q rest (a.put o.dst v') w') :
    wpListIn F n Try.prog ops Q (o :: rest) a (W.alloc (.cells #[.int .i64 y] 3)) := by
  refine wpListIn_plain hgd fun K hK' => ?_
  obtain ⟨v', w', hrun, r1, r2, r3, r4, r5, _⟩ := run_grow1 o.type y hown hl hb
  unfold Oper.wpIn
  refine ⟨?_, ?_⟩
  · simp [Oper.about, ho, resolve, Target.leads, Sem.run_pure]
  · rw [Oper.semAt_plain F _ _ (by rw [ho]; intro c hc'; cases hc')]
    simp [execOp, ho, resolve, invoke, builtin, hs, hx, hrun, Result.andThen]
    exact hK' _ _ (h v' w' r1 r2 r3 r4 r5)

/-! ### What the walk of one more set leaves -/
theorem Owns.same {w w' : World} {base : Nat} {v : Value} {xs : List Int} (h : Owns w base v xs) (hs : ∀ b, v.ownBlock = some b → w'.heap[b]? = w.heap[b]?) : Owns w' base v xs := by
  unfold Owns at h ⊢
  rcases h with ⟨hl, h | ⟨g, cap, cur, rfl, hb, hg, h2, h3, h4⟩⟩
  · exact ⟨hl, .inl h⟩
  · exact ⟨hl, .inr ⟨g, cap, cur, rfl, hb, (hs g (by simp [Value.ownBlock])).trans hg, h2, h3, h4⟩⟩
theorem Owns.block_lt {w : World} {base : Nat} {v : Value} {xs : List Int} (h : Owns w base v xs) {b : Nat} (hb : v.ownBlock = some b) : base ≤ b ∧ b < w.heap.size ∧ ∃ o : Obj, w.heap[b]? = some o ∧ o.isCells = true := by
  rcases owns_form h with ⟨rfl, _⟩ | ⟨g, cap, cur, rfl, hbg, hg, _⟩
  · simp [Value.ownBlock] at hb
  · simp [Value.ownBlock] at hb
    subst hb
    exact ⟨hbg, (Array.getElem?_eq_some_iff.1 hg).1, _, hg, rfl⟩
theorem growP_at {lim k : Nat} (h : k < lim) (row : List Int) : growP lim (lim - k) row = (if apartR row (k : Int) = true then (row ++ [(k : Int)]) :: growP lim (lim - (k + 1)) (row ++ [(k : Int)]) else []) ++ growP lim (lim - (k + 1)) row := by
  obtain ⟨j, hj⟩ : ∃ j, lim - (k + 1) = j := ⟨_, rfl⟩
  have h1 : lim - k = j + 1 := by omega
  rw [hj, h1]
  have h2 : lim - (j + 1) = k := by omega
  conv => lhs; unfold growP
  rw [h2]
/-- The boxes that the iterator reads: the bound, the round, the function itself. -/
structure Bxs (W : World) (l lim Bl By Be : Nat) : Prop where
  m : W.cell? ⟨Bl, 0, none⟩ = some (.int .i64 (lim : Int))
  y : W.cell? ⟨By, 0, none⟩ = some (.func (.yield l) #[] #[])
  e : W.cell? ⟨Be, 0, none⟩ = some (.func (.func 42) #[] #[.pointer (some ⟨Bl, 0, none⟩), .pointer (some ⟨By, 0, none⟩), .pointer (some ⟨Be, 0, none⟩)])
theorem cell_same {w w' : World} {b : Nat} (h : w'.heap[b]? = w.heap[b]?) : w'.cell? ⟨b, 0, none⟩ = w.cell? ⟨b, 0, none⟩ := by simp [World.cell?, h]
theorem Bxs.same {W W' : World} {l lim Bl By Be : Nat} (h : Bxs W l lim Bl By Be) (h1 : W'.heap[Bl]? = W.heap[Bl]?) (h2 : W'.heap[By]? = W.heap[By]?) (h3 : W'.heap[Be]? = W.heap[Be]?) : Bxs W' l lim Bl By Be :=
  ⟨(cell_same h1).trans h.m, (cell_same h2).trans h.y, (cell_same h3).trans h.e⟩
/-- Between two sets of one call. -/
structure Ext (J : (Nat → Prop) → List (List Int) → World → Prop) (base l lim Bl By Be : Nat) (G : Nat → Prop) (v : Value) (xs : List Int) (pre : List (List Int)) (W : World) : Prop where
  j : J G pre W
  own : Owns W base v xs
  vG : ∀ b, v.ownBlock = some b → G b ∧ b ≠ Bl ∧ b ≠ By ∧ b ≠ Be
  lt : ∀ b, G b → b < W.heap.size
  bG : G Bl ∧ G By ∧ G Be
  bx : Bxs W l lim Bl By Be
  hb : base ≤ W.heap.size
/-- One more set, and the copy that is given out. -/
theorem ext_copy {J : (Nat → Prop) → List (List Int) → World → Prop} {base l lim Bl By Be : Nat} {G : Nat → Prop} {v : Value} {xs : List Int} {pre : List (List Int)} {W w2 w3 : World} {v' v3 : Value} {y : Int}
    (h : Ext J base l lim Bl By Be G v xs pre W) (hS : StepsG J) (hg : (W.alloc (.cells #[.int .i64 y] 3)).grownBy w2 v.ownBlock)
    (hv' : ∀ b, v'.ownBlock = some b → v.ownBlock = some b ∨ W.heap.size ≤ b) (ho3 : Owns w3 w2.heap.size v3 (xs ++ [y])) (hb3 : Below w2.heap.size w2 w3) :
    J (fun b => G b ∨ v'.ownBlock = some b ∨ v3.ownBlock = some b) pre w3 := by
  have h1 : J (fun b => G b ∨ W.heap.size ≤ b) pre (W.alloc (.cells #[.int .i64 y] 3)) := hS _ _ _ _ _ none h.j (World.grownBy_alloc _ _ _) (fun r e => by cases e) (fun b hb => hb)
  have h2 : J (fun b => G b ∨ W.heap.size ≤ b) pre w2 := hS _ _ _ _ _ _ h1 hg (fun r e => by
    have hw := (h.own.below ((Below.refl _ W).alloc (Nat.le_refl _) (.cells #[.int .i64 y] 3))).block_lt e
    exact ⟨.inl (h.vG r e).1, hw.2.2⟩) (fun b hb => .inl hb)
  have hsz : W.heap.size ≤ w2.heap.size := by have := hg.size; rw [World.size_alloc] at this; omega
  refine hS _ _ _ _ _ none h2 ⟨hb3.os, hb3.tape, hb3.output, hb3.size, fun k hk _ => hb3.block k hk⟩ (fun r e => by cases e) ?_
  rintro b (hb | hb | hb)
  · exact .inl (.inl hb)
  · rcases hv' b hb with hb | hb
    · exact .inl (.inl (h.vG b hb).1)
    · exact .inl (.inr hb)
  · exact .inr (ho3.block_lt hb).1
/-- Behind the round: the longer row goes on. -/
theorem ext_round {J : (Nat → Prop) → List (List Int) → World → Prop} {base l lim Bl By Be : Nat} {G : Nat → Prop} {v : Value} {xs : List Int} {pre pre' : List (List Int)} {W w2 w3 w4 : World} {v' v3 : Value} {y : Int}
    (h : Ext J base l lim Bl By Be G v xs pre W) (ho : Owns w2 base v' (xs ++ [y])) (hg : (W.alloc (.cells #[.int .i64 y] 3)).grownBy w2 v.ownBlock)
    (hv' : ∀ b, v'.ownBlock = some b → v.ownBlock = some b ∨ W.heap.size ≤ b) (ho3 : Owns w3 w2.heap.size v3 (xs ++ [y])) (hb3 : Below w2.heap.size w2 w3)
    (h4 : ∀ G' : Nat → Prop, (∀ b, G' b → (G b ∨ v'.ownBlock = some b ∨ v3.ownBlock = some b) ∧ v3.ownBlock ≠ some b) → J G' pre' w4)
    (hk : ∀ b, (G b ∨ v'.ownBlock = some b ∨ v3.ownBlock = some b) → w4.heap[b]? = w3.heap[b]?) (hsz : w3.heap.size ≤ w4.heap.size) :
    Ext J base l lim Bl By Be (fun b => G b ∨ v'.ownBlock = some b) v' (xs ++ [y]) pre' w4 ∧ (∀ b, G b → v.ownBlock ≠ some b → w4.heap[b]? = W.heap[b]?) ∧ W.heap.size ≤ w4.heap.size := by
  have hs1 : W.heap.size + 1 ≤ w2.heap.size := by have := hg.size; rw [World.size_alloc] at this; exact this
  have hs3 := hb3.size
  have hG2 : ∀ b, G b ∨ v'.ownBlock = some b → b < w2.heap.size := by
    rintro b (hb | hb)
    · have := h.lt b hb; omega
    · exact (ho.block_lt hb).2.1
  have hkeep : ∀ b, G b → v.ownBlock ≠ some b → w4.heap[b]? = W.heap[b]? := fun b hb hne => by
    have hlt := h.lt b hb
    rw [hk b (.inl hb), hb3.block b (by omega), hg.block b (by rw [World.size_alloc]; omega) (fun e => hne e.symm), Below.heap_alloc _ _ _ hlt]
  have hne : ∀ b, G b → b = Bl ∨ b = By ∨ b = Be → v.ownBlock ≠ some b := fun b _ hx e => by
    have := (h.vG b e).2
    rcases hx with rfl | rfl | rfl
    · exact this.1 rfl
    · exact this.2.1 rfl
    · exact this.2.2 rfl
  refine ⟨⟨h4 _ fun b hb => ⟨hb.elim .inl (fun h => .inr (.inl h)), fun e => ?_⟩, ?_, fun b hb => ⟨.inr hb, ?_⟩, fun b hb => ?_, ⟨.inl h.bG.1, .inl h.bG.2.1, .inl h.bG.2.2⟩, ?_, ?_⟩, hkeep, by omega⟩
  · have h1 := (ho3.block_lt e).1
    have h2 := hG2 b hb
    omega
  · refine ho.same fun b hb => ?_
    rw [hk b (.inr (.inl hb)), hb3.block b (hG2 b (.inr hb))]
  · have hl := h.lt _ h.bG.1
    have hy := h.lt _ h.bG.2.1
    have he := h.lt _ h.bG.2.2
    rcases hv' b hb with hb | hb
    · exact (h.vG b hb).2
    · exact ⟨by omega, by omega, by omega⟩
  · have := hG2 b hb; omega
  · exact h.bx.same (hkeep _ h.bG.1 (hne _ h.bG.1 (.inl rfl))) (hkeep _ h.bG.2.1 (hne _ h.bG.2.1 (.inr (.inl rfl)))) (hkeep _ h.bG.2.2 (hne _ h.bG.2.2 (.inr (.inr rfl))))
  · have := h.hb; omega
/-- Behind the longer row's own rows: the row itself goes on. -/
theorem ext_back {J : (Nat → Prop) → List (List Int) → World → Prop} {base l lim Bl By Be : Nat} {G : Nat → Prop} {v : Value} {xs : List Int} {pre pre5 : List (List Int)} {W w4 w5 : World} {v' : Value} {y : Int}
    (h : Ext J base l lim Bl By Be G v xs pre W) (hS : StepsG J) (hL : Longer W.heap.size v v') (hlen : ∀ g n cap, v = .slice (some ⟨g, 0, none⟩) n cap → n = xs.length)
    (hk4 : ∀ b, G b → v.ownBlock ≠ some b → w4.heap[b]? = W.heap[b]?) (hs4 : W.heap.size ≤ w4.heap.size) (ho4 : Owns w4 base v xs)
    (hj : J (fun b => G b ∨ v'.ownBlock = some b) pre5 w5) (hk : ∀ b, (G b ∨ v'.ownBlock = some b) → v'.ownBlock ≠ some b → w5.heap[b]? = w4.heap[b]?) (ho : Owns w5 base v' (xs ++ [y])) (hsz : w4.heap.size ≤ w5.heap.size) :
    Ext J base l lim Bl By Be G v xs pre5 w5 ∧ (∀ b, G b → v.ownBlock ≠ some b → w5.heap[b]? = W.heap[b]?) ∧ W.heap.size ≤ w5.heap.size := by
  have hnv : ∀ b, G b → v.ownBlock ≠ some b → v'.ownBlock ≠ some b := fun b hb hne e => by
    rcases hL with ⟨g, n, cap, rfl, rfl⟩ | ⟨g, n, cap, rfl, hB⟩
    · exact hne e
    · simp [Value.ownBlock] at e
      have := h.lt b hb
      omega
  have hkeep : ∀ b, G b → v.ownBlock ≠ some b → w5.heap[b]? = W.heap[b]? := fun b hb hne => by rw [hk b (.inl hb) (hnv b hb hne), hk4 b hb hne]
  have hne : ∀ b, G b → b = Bl ∨ b = By ∨ b = Be → v.ownBlock ≠ some b := fun b _ hx e => by
    have := (h.vG b e).2
    rcases hx with rfl | rfl | rfl
    · exact this.1 rfl
    · exact this.2.1 rfl
    · exact this.2.2 rfl
  refine ⟨⟨hS _ _ _ _ _ none hj (World.grownBy.refl _ _) (fun r e => by cases e) (fun b hb => .inl (.inl hb)), ?_, h.vG, fun b hb => ?_, h.bG, ?_, ?_⟩, hkeep, by omega⟩
  · rcases hL with ⟨g, n, cap, rfl, rfl⟩ | ⟨g, n, cap, rfl, hB⟩
    · exact owns_shorter ho (hlen _ _ _ rfl)
    · refine ho4.same fun b hb => hk b (.inl (h.vG b hb).1) (fun e => ?_)
      simp [Value.ownBlock] at e
      have := h.lt b (h.vG b hb).1
      omega
  · have := h.lt b hb; omega
  · exact h.bx.same (hkeep _ h.bG.1 (hne _ h.bG.1 (.inl rfl))) (hkeep _ h.bG.2.1 (hne _ h.bG.2.1 (.inr (.inl rfl)))) (hkeep _ h.bG.2.2 (hne _ h.bG.2.2 (.inr (.inr rfl))))
  · have := h.hb; omega
/-- The old row behind the round. -/
theorem ext_old {J : (Nat → Prop) → List (List Int) → World → Prop} {base l lim Bl By Be : Nat} {G : Nat → Prop} {v : Value} {xs : List Int} {pre : List (List Int)} {W w2 w3 w4 : World}
    (h : Ext J base l lim Bl By Be G v xs pre W) (ho : Owns w2 base v xs) (hb3 : Below w2.heap.size w2 w3) (hk : ∀ b, G b → w4.heap[b]? = w3.heap[b]?) : Owns w4 base v xs :=
  ho.same fun b hb => by rw [hk b (h.vG b hb).1, hb3.block b (ho.block_lt hb).2.1]
theorem len_of_owns {w : World} {base : Nat} {v : Value} {xs : List Int} (h : Owns w base v xs) : ∀ g n cap, v = .slice (some ⟨g, 0, none⟩) n cap → n = xs.length := fun g n cap e => by
  rcases owns_form h with ⟨rfl, _⟩ | ⟨g', cap', cur, rfl, _⟩
  · cases e
  · simp only [Value.slice.injEq] at e
    exact e.2.1.symm
end Go.Proofs.Ytfmknllemhdnaaa

namespace Go.Proofs.Ytfmknllemhdnaaa
open Go.RowKit

attribute [local go_sem] Oper.semAt_some

theorem iApartO {base : Nat} {v : Value} {xs : List Int} {W : World} {s : Int} {r : Bool} (ho : Owns W base v xs) (hl : xs.length ≤ 1048576) (hr : ∀ x ∈ xs, 0 ≤ x ∧ x < 1024) (h0 : 0 ≤ s) (h1 : s < 1024) (h : apartR xs s = r) :
    Calls Try.prog 43 #[v, .int .i64 s] W fun e w' => e = .returned (.bool r) ∧ W = w' := by
  obtain ⟨A, c, rfl, _⟩ := ho.form
  exact iApart_is h h0 h1 hr (ho.row hl)
theorem iCloneO {base : Nat} {v : Value} {xs : List Int} {W : World} (ho : Owns W base v xs) (h1 : 1 ≤ xs.length) (hl : xs.length ≤ 1048576) :
    Calls Try.prog 44 #[v] W (ClonePost xs W) := by
  obtain ⟨A, c, rfl, _, _, ha, _⟩ := ho.form
  exact iClone A _ c xs W rfl h1 hl ha
theorem apart_range {xs : List Int} {k : Nat} (hr : ∀ x ∈ xs, 0 ≤ x ∧ x < 1024) (hk : k < 1024) : ∀ x ∈ xs ++ [(k : Int)], 0 ≤ x ∧ x < 1024 := fun x hx => by
  rw [List.mem_append, List.mem_singleton] at hx
  rcases hx with hx | rfl
  · exact hr x hx
  · omega

theorem ext_bxs {J : (Nat → Prop) → List (List Int) → World → Prop} {base l lim Bl By Be : Nat} {G : Nat → Prop} {v : Value} {xs : List Int} {pre : List (List Int)} {W w2 : World} {y : Int}
    (h : Ext J base l lim Bl By Be G v xs pre W) (hg : (W.alloc (.cells #[.int .i64 y] 3)).grownBy w2 v.ownBlock) : Bxs w2 l lim Bl By Be := by
  have hs : ∀ b, b < W.heap.size → v.ownBlock ≠ some b → w2.heap[b]? = W.heap[b]? := fun b hlt hne => by
    rw [hg.block b (by rw [World.size_alloc]; omega) (fun e => hne e.symm), Below.heap_alloc _ _ _ hlt]
  refine h.bx.same (hs _ (h.lt _ h.bG.1) fun e => (h.vG _ e).2.1 rfl) (hs _ (h.lt _ h.bG.2.1) fun e => (h.vG _ e).2.2.1 rfl) (hs _ (h.lt _ h.bG.2.2) fun e => (h.vG _ e).2.2.2 rfl)
theorem ext_size {J : (Nat → Prop) → List (List Int) → World → Prop} {base l lim Bl By Be : Nat} {G : Nat → Prop} {v : Value} {xs : List Int} {pre : List (List Int)} {W w2 : World} {y : Int}
    (h : Ext J base l lim Bl By Be G v xs pre W) (hg : (W.alloc (.cells #[.int .i64 y] 3)).grownBy w2 v.ownBlock) : Bl < w2.heap.size ∧ By < w2.heap.size ∧ Be < w2.heap.size ∧ base ≤ w2.heap.size := by
  have := hg.size
  rw [World.size_alloc] at this
  have := h.lt _ h.bG.1
  have := h.lt _ h.bG.2.1
  have := h.lt _ h.bG.2.2
  have := h.hb
  exact ⟨by omega, by omega, by omega, by omega⟩
theorem bxs_below {W W' : World} {l lim Bl By Be B : Nat} (h : Bxs W l lim Bl By Be) (hb : Below B W W') (h1 : Bl < B) (h2 : By < B) (h3 : Be < B) : Bxs W' l lim Bl By Be :=
  h.same (hb.block _ h1) (hb.block _ h2) (hb.block _ h3)
/-- What the walk knows behind the append. -/
structure Ap (base l lim Bl By Be : Nat) (v v2 : Value) (xs : List Int) (k : Nat) (wr w2 : World) : Prop where
  o : Owns w2 base v2 (xs ++ [(k : Int)])
  ov : Owns w2 base v xs
  g : (wr.alloc (.cells #[.int .i64 (k : Int)] 3)).grownBy w2 v.ownBlock
  L : Longer wr.heap.size v v2
  b : ∀ b, v2.ownBlock = some b → v.ownBlock = some b ∨ wr.heap.size ≤ b
  bx : Bxs w2 l lim Bl By Be
  sz : Bl < w2.heap.size ∧ By < w2.heap.size ∧ Be < w2.heap.size ∧ base ≤ w2.heap.size
theorem below_drew {w2 w3 : World} (h : Below w2.drew.heap.size w2.drew w3) : Below w2.heap.size w2 w3 := ⟨h.os, h.tape, h.output, h.size, h.block⟩
/-- The round's promise at the copy. -/
theorem ap_yield {l base N lim Bl By Be k m : Nat} {J : (Nat → Prop) → List (List Int) → World → Prop} {G : Nat → Prop} {v v2 v3 : Value} {xs : List Int} {pre : List (List Int)} {wr w2 w3 : World}
    (hR : RoundG Fence.wide Try.prog l base N J) (hS : StepsG J) (hE : Ext J base l lim Bl By Be G v xs pre wr) (hA : Ap base l lim Bl By Be v v2 xs k wr w2) (ho3 : Owns w3 w2.drew.heap.size v3 (xs ++ [(k : Int)])) (hb3 : Below w2.drew.heap.size w2.drew w3)
    (hl : xs.length ≤ 200) (hN : pre.length < N) :
    YieldAt Fence.wide m Try.prog l #[v3] w3 fun e w4 => e = .returned (.bool true) ∧ Ext J base l lim Bl By Be (fun b => G b ∨ v2.ownBlock = some b) v2 (xs ++ [(k : Int)]) (pre ++ [xs ++ [(k : Int)]]) w4 ∧ Hid ((∀ b, G b → v.ownBlock ≠ some b → w4.heap[b]? = wr.heap[b]?) ∧ wr.heap.size ≤ w4.heap.size) ∧ Owns w4 base v xs := by
  have hb := below_drew hb3
  have ho : Owns w3 w2.heap.size v3 (xs ++ [(k : Int)]) := ho3
  have hlt : ∀ b, (G b ∨ v2.ownBlock = some b ∨ v3.ownBlock = some b) → b < w3.heap.size := by
    have h1 := hb.size
    have h2 := hA.g.size
    rw [World.size_alloc] at h2
    rintro b (h | h | h)
    · have := hE.lt b h; omega
    · have := (hA.o.block_lt h).2.1; omega
    · exact (ho.block_lt h).2.1
  refine YieldAt.mono (hR m _ _ _ v3 (xs ++ [(k : Int)]) (ext_copy hE hS hA.g hA.b ho hb) hlt (ho.base hA.sz.2.2.2) (fun b h => .inr (.inr h)) (by simp) (by simp; omega) hN) ?_
  rintro e w4 ⟨rfl, h4, hk4, hs4⟩
  obtain ⟨h5, h6, h7⟩ := ext_round hE hA.o hA.g hA.b ho hb h4 hk4 hs4
  exact ⟨rfl, h5, ⟨h6, h7⟩, ext_old hE hA.ov hb (fun b h => hk4 b (.inl h))⟩

set_option maxRecDepth 100000 in
set_option maxHeartbeats 1000000 in
theorem iExtend (l base N lim Bl By Be : Nat) (J : (Nat → Prop) → List (List Int) → World → Prop) (hS : StepsG J) (hR : RoundG Fence.wide Try.prog l base N J) (hlim : lim ≤ 200) :
    ∀ (d n f : Nat) (fi : Int) (G : Nat → Prop) (pre : List (List Int)) (W : World) (v : Value) (xs : List Int), fi = (f : Int) → lim - f < d → f ≤ lim → xs.length ≤ f → (∀ x ∈ xs, 0 ≤ x ∧ x < 1024) → Ext J base l lim Bl By Be G v xs pre W → (pre ++ growP lim (lim - f) xs).length ≤ N →
      CallsIn Fence.wide n Try.prog 42 #[v, .int .i64 fi, .pointer (some ⟨Bl, 0, none⟩), .pointer (some ⟨By, 0, none⟩), .pointer (some ⟨Be, 0, none⟩)] W fun e W' =>
        e = .returned (.bool true) ∧ Ext J base l lim Bl By Be G v xs (pre ++ growP lim (lim - f) xs) W' ∧ Hid ((∀ b, G b → v.ownBlock ≠ some b → W'.heap[b]? = W.heap[b]?) ∧ W.heap.size ≤ W'.heap.size) := by
  intro d
  induction d with
  | zero => intro n f fi G pre W v xs _ hd; omega
  | succ d ih =>
    intro n f fi G pre W v xs hfi hd hf hxl hxr hE hN
    subst hfi
    have HE := Lib.hid hE
    have HN := Lib.hid hN
    have HXR := Lib.hid hxr
    have HIH := Lib.hid ih
    have HS := Lib.hid hS
    have HRD := Lib.hid hR
    clear hE hN hxr ih hS hR
    have hmx : Try.prog.follows .mixedOrders = true := by kernel_rfl
    refine callsIn_of_wp Try.func42 rfl trivial ?_ rfl
    simp only [Try.ntmps42, List.size_toArray, List.length_cons, List.length_nil, Nat.reduceAdd, Nat.reduceSub, Array.replicate_succ, Array.replicate_zero, List.push_toArray, List.append_toArray, List.nil_append, List.cons_append]
    gi_wp2
    gi_loopw [8] (fun i wr => ∃ k pre', f ≤ k ∧ k ≤ lim ∧ i = .int .i64 (k : Int) ∧ Hid (pre' ++ growP lim (lim - k) xs = pre ++ growP lim (lim - f) xs) ∧ Hid (Ext J base l lim Bl By Be G v xs pre' wr) ∧ Hid ((∀ b, G b → v.ownBlock ≠ some b → wr.heap[b]? = W.heap[b]?) ∧ W.heap.size ≤ wr.heap.size)) (fun i _ => lim - (Go.RowKit.intOf i).toNat)
    case atStart => exact ⟨f, pre, Nat.le_refl _, hf, rfl, rfl, HE, fun _ _ _ => rfl, Nat.le_refl _⟩
    case round =>
      obtain ⟨k, pre', hfk, hkl, rfl, HQ, HW, HK⟩ := hrel
      have hcl := HW.out.bx.m
      by_cases hlt : k < lim
      · have hltI : (k : Int) < (lim : Int) := by omega
        rcases hap : apartR xs (k : Int) with _ | _
        · have HA := Lib.hid (iApartO HW.out.own (by omega) HXR.out (by omega) (by omega) hap)
          have HQ2 : Hid (pre' ++ growP lim (lim - (k + 1)) xs = pre ++ growP lim (lim - f) xs) := by
            have := HQ.out
            rw [growP_at hlt, hap] at this
            exact (by simpa using this : _ = _)
          clear hap
          gi_wp2_with ((refine ⟨trivial, fun h => (by cases h), ?_⟩); gi_at_call 43; refine (callsIn_wide.2 HA.out).mono ?_; clear HA; rintro e W1 ⟨rfl, rfl⟩)
          go_roundw
          case rel => exact ⟨k + 1, pre', by omega, by omega, by go_num, HQ2, HW, HK⟩
          case measure => simp [Go.RowKit.intOf]; omega
        · have HA := Lib.hid (iApartO HW.out.own (by omega) HXR.out (by omega) (by omega) hap)
          obtain ⟨pre5, hp5⟩ : ∃ p, pre' ++ [xs ++ [(k : Int)]] ++ growP lim (lim - (k + 1)) (xs ++ [(k : Int)]) = p := ⟨_, rfl⟩
          have HQ2 : Hid (pre5 ++ growP lim (lim - (k + 1)) xs = pre ++ growP lim (lim - f) xs) := by
            have := HQ.out
            rw [growP_at hlt, hap] at this
            rw [← hp5]
            have h2 : (pre' ++ [xs ++ [(k : Int)]] ++ growP lim (lim - (k + 1)) (xs ++ [(k : Int)])) ++ growP lim (lim - (k + 1)) xs = pre ++ growP lim (lim - f) xs := by rw [← this]; simp
            exact h2
          have HN5 : Hid (pre5.length ≤ N) := by
            have h1 := congrArg List.length HQ2.out
            have h2 := HN.out
            rw [List.length_append] at h1
            have h3 : pre5.length ≤ N := by omega
            exact h3
          have HN1 : Hid (pre'.length < N) := by
            have h1 := HN5.out
            rw [← hp5] at h1
            simp at h1
            have h3 : pre'.length < N := by omega
            exact h3
          have HP5 := Lib.hid hp5
          have HWK : Hid (IntKind.i64.wrap ((k : Int) + 1) = ((k + 1 : Nat) : Int)) := (wrap_small _ (by omega) (by omega)).trans (by omega)
          clear hap hp5
          gi_wp2_with (first
            | ((refine ⟨trivial, fun h => (by cases h), ?_⟩); gi_at_call 43; refine (callsIn_wide.2 HA.out).mono ?_; clear HA; rintro e W1 ⟨rfl, rfl⟩)
            | (gi_at_builtin; refine wpListIn_grow1 rfl _ _ rfl (k : Int) rfl rfl HW.out.own (by omega) HW.out.hb ?_; intro v2 w2 ho2 hov2 hg2 hL2 hb2; have HAP : Hid (Ap base l lim Bl By Be v v2 xs k wr w2) := ⟨ho2, hov2, hg2, hL2, hb2, ext_bxs HW.out hg2, ext_size HW.out hg2⟩; clear ho2 hov2 hg2 hL2 hb2))
          have hcy2 := HAP.out.bx.y
          have HC := Lib.hid (iCloneO (W := w2.drew) HAP.out.o (by simp) (by simp; omega))
          gi_region_with_o (first
            | ((refine ⟨trivial, fun h => (by cases h), ?_⟩); gi_at_call 44; refine (callsIn_wide.2 HC.out).mono ?_; clear HC; rintro e w3 ⟨v3, rfl, ho3, hb3⟩; have hcy3 := (bxs_below HAP.out.bx (below_drew hb3) HAP.out.sz.1 HAP.out.sz.2.1 HAP.out.sz.2.2.1).y; obtain ⟨fn, tmps, assign, body, hy, hR⟩ := ap_yield (m := n - 1) HRD.out HS.out HW.out HAP.out ho3 hb3 (by omega) HN1.out; clear ho3 hb3)
            | ((try refine ⟨fun h => (by cases h), ?_⟩); refine hR.mono ?_; clear hR; rintro e w4 ⟨rfl, hE4, HK4, ho4⟩; have HE4 := Lib.hid hE4; have HO4 := Lib.hid ho4; have hce4 := hE4.bx.e; have HI := Lib.hid (HIH.out (n - 1) (k + 1) (IntKind.i64.wrap ((k : Int) + 1)) _ _ w4 v2 (xs ++ [(k : Int)]) HWK.out (by omega) (by omega) (by simp; omega) (apart_range HXR.out (by omega)) hE4 (by rw [HP5.out]; exact HN5.out)); clear hE4 ho4 hy)
            | ((refine ⟨trivial, fun h => (by cases h), ?_⟩); gi_at_call 42; refine HI.out.mono ?_; clear HI; rintro e w5 ⟨rfl, hE5, HK5⟩; have HE5 := Lib.hid hE5; clear hE5))
          all_goals
            have HB := Lib.hid (ext_back (y := (k : Int)) HW.out HS.out HAP.out.L (len_of_owns HW.out.own) HK4.out.1 HK4.out.2 HO4.out HE5.out.j HK5.out.1 HE5.out.own HK5.out.2)
            gi_wp2
            go_roundw
            case rel =>
              refine ⟨k + 1, pre5, by omega, by omega, by go_num, HQ2, by rw [← HP5.out]; exact HB.out.1, ?_⟩
              exact ⟨fun b hb hne => (HB.out.2.1 b hb hne).trans (HK.out.1 b hb hne), Nat.le_trans HK.out.2 HB.out.2.2⟩
            case measure => simp [Go.RowKit.intOf]; omega
      · obtain rfl : k = lim := by omega
        gi_wp2
        go_ret
        have hq : pre' = pre ++ growP k (k - f) xs := by
          have := HQ.out
          rw [Nat.sub_self] at this
          rw [← this]; simp [growP]
        rw [← hq]
        exact ⟨rfl, HW.out, HK⟩
end Go.Proofs.Ytfmknllemhdnaaa

namespace Go.Proofs.Ytfmknllemhdnaaa
open Go.RowKit

attribute [local go_sem] Oper.semAt_some

set_option maxRecDepth 100000 in
set_option maxHeartbeats 2000000 in
theorem iAnti (n lim Bl base : Nat) (w : World) (hlim : lim ≤ 200) (hb : base ≤ w.heap.size) (hc : w.cell? ⟨Bl, 0, none⟩ = some (.int .i64 (lim : Int))) (hlt : Bl < w.heap.size) :
    SeqG Fence.wide n Try.prog 41 #[.pointer (some ⟨Bl, 0, none⟩)] base (growP lim lim []) (fun b => b = Bl) w := by
  intro l J W hB hS hR h0
  have hcW : W.cell? ⟨Bl, 0, none⟩ = some (.int .i64 (lim : Int)) := (hB.cell hlt).trans hc
  have hsz := hB.size
  obtain ⟨W1, hW1⟩ : ∃ W1, W.alloc (.cells #[.func (.yield l) #[] #[]] 43) = W1 := ⟨_, rfl⟩
  obtain ⟨W2, hW2⟩ : ∃ W2, W1.alloc (.cells #[Value.nilFunc] 50) = W2 := ⟨_, rfl⟩
  obtain ⟨W3, hW3⟩ : ∃ W3, W2.setCell ⟨W.heap.size + 1, 0, none⟩ (.func (.func 42) #[] #[.pointer (some ⟨Bl, 0, none⟩), .pointer (some ⟨W.heap.size, 0, none⟩), .pointer (some ⟨W.heap.size + 1, 0, none⟩)]) = W3 := ⟨_, rfl⟩
  have hs1 : W1.heap.size = W.heap.size + 1 := by rw [← hW1, World.size_alloc]
  have hs2 : W2.heap.size = W.heap.size + 2 := by rw [← hW2, World.size_alloc, hs1]
  have hs3 : W3.heap.size = W.heap.size + 2 := by rw [← hW3]; simp [hs2]
  have b1 : Boxed W1 W.heap.size 43 (.func (.yield l) #[] #[]) := by rw [← hW1]; exact Boxed.new _ _ _
  have b2 : Boxed W2 (W.heap.size + 1) 50 Value.nilFunc := by rw [← hW2, ← hs1]; exact Boxed.new _ _ _
  have hE : Ext J base l lim Bl W.heap.size (W.heap.size + 1) (fun b => b = Bl ∨ b = W.heap.size ∨ b = W.heap.size + 1) (.slice none 0 0) [] [] W3 := by
    refine ⟨?_, Owns.nil _ _, fun b e => by simp [Value.ownBlock] at e, fun b hb => by rw [hs3]; omega, ⟨.inl rfl, .inr (.inl rfl), .inr (.inr rfl)⟩, ⟨?_, ?_, ?_⟩, by omega⟩
    · rw [← hW3]
      refine hS _ _ _ _ _ (some (W.heap.size + 1)) (hS _ (fun b => b = Bl ∨ b = W.heap.size ∨ b = W.heap.size + 1) _ _ W2 none (hS _ (fun b => b = Bl ∨ b = W.heap.size ∨ b = W.heap.size + 1) _ _ W1 none h0 (by rw [← hW1]; exact World.grownBy_alloc _ _ _) (fun r e => by cases e) (fun b hb => ?_)) (by rw [← hW2]; exact World.grownBy_alloc _ _ _) (fun r e => by cases e) (fun b hb => .inl hb)) (grownBy_setCell' _ _ _) (fun r e => by cases e; exact ⟨.inr (.inr rfl), _, b2, rfl⟩) (fun b hb => .inl hb)
      rcases hb with hb | hb | hb
      · exact .inl hb
      · exact .inr (by omega)
      · exact .inr (by omega)
    · rw [← hW3, World.cell?_of_block (w := W2) (Below.heap_setCell _ _ _ _ (by simp; omega)), ← hW2, World.cell?_of_block (w := W1) (Below.heap_alloc _ _ _ (by simp; omega)), ← hW1, World.cell?_of_block (w := W) (Below.heap_alloc _ _ _ (by simp; omega))]
      exact hcW
    · rw [← hW3, World.cell?_of_block (w := W2) (Below.heap_setCell _ _ _ _ (by simp)), ← hW2, World.cell?_of_block (w := W1) (Below.heap_alloc _ _ _ (by simp; omega))]
      exact b1.cell
    · rw [← hW3]
      exact (b2.set _).cell
  have HX := Lib.hid (iExtend l base _ lim Bl W.heap.size (W.heap.size + 1) J hS hR hlim (lim + 1) (n - 1) 0 0 _ [] W3 (.slice none 0 0) [] rfl (by omega) (by omega) (by simp) (by simp) hE (by simp))
  have hc2 := b2.cell
  have hf2 := b2.frozen
  have hc3 : W3.cell? ⟨W.heap.size + 1, 0, none⟩ = some (.func (.func 42) #[] #[.pointer (some ⟨Bl, 0, none⟩), .pointer (some ⟨W.heap.size, 0, none⟩), .pointer (some ⟨W.heap.size + 1, 0, none⟩)]) := hE.bx.e
  have hst : (store ⟨W.heap.size + 1, 0, none⟩ (.func (.func 42) #[] #[.pointer (some ⟨Bl, 0, none⟩), .pointer (some ⟨W.heap.size, 0, none⟩), .pointer (some ⟨W.heap.size + 1, 0, none⟩)])).run Try.prog W2 = .ok () W3 := by
    rw [run_store _ _ _ _ _ rfl, hc2, hf2, hW3]; rfl
  clear hE hS hR h0 hB b1 b2
  refine callsIn_of_wp Try.func41 rfl trivial ?_ rfl
  simp only [Try.ntmps41, List.size_toArray, List.length_cons, List.length_nil, Nat.reduceAdd, Nat.reduceSub, Array.replicate_succ, Array.replicate_zero, List.push_toArray, List.append_toArray, List.nil_append, List.cons_append]
  gi_wp2_with (((refine ⟨trivial, fun h => (by cases h), ?_⟩); gi_at_call 42; refine HX.out.mono ?_; clear HX; rintro e w5 ⟨rfl, hE5, _⟩))
  go_end0
  exact ⟨⟨_, rfl⟩, _, by simpa using hE5.j⟩

set_option maxRecDepth 100000 in
set_option maxHeartbeats 1000000 in
theorem iAntichains (n : Nat) (s : Int) (w : World) : CallsIn Fence.wide n Try.prog 24 #[.int .i64 s] w fun e w' => e = .returned (.func (.func 41) #[] #[.pointer (some ⟨w.heap.size, 0, none⟩)]) ∧ w' = w.alloc (.cells #[.int .i64 s] 3) := by
  refine callsIn_of_wp Try.func24 rfl trivial ?_ rfl
  simp only [Try.ntmps24, List.size_toArray, List.length_cons, List.length_nil, Nat.reduceAdd, Nat.reduceSub, Array.replicate_succ, Array.replicate_zero, List.push_toArray, List.append_toArray, List.nil_append, List.cons_append]
  gi_wp2
  go_ret
  exact ⟨rfl, rfl⟩
end Go.Proofs.Ytfmknllemhdnaaa
