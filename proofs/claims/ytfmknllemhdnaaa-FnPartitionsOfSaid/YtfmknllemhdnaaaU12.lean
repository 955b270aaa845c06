/-
  What the proofs of this seat's statements share (SeqG, RowS, RowT, RowU).
-/
import Derived.RangeFuncFrom
import Derived.RangeFuncBound
import Derived.RangeFuncNested
import Derived.RangeFuncCalls
import Derived.Test.YtfmknllemhdnaaaU11
import Derived.Test.YtfmknllemhdnaaaU6
import Derived.Test.YtfmknllemhdnaaaU3

namespace Go.Proofs.Ytfmknllemhdnaaa
open Go.RowKit

/-- One step of the iterator: at most one block is turned, one of its own that holds cells; new blocks may be its own. -/
def StepsG (J : (Nat → Prop) → List (List Int) → World → Prop) : Prop :=
  ∀ (G G' : Nat → Prop) (pre : List (List Int)) (A B : World) (row : Option Nat), J G pre A → A.grownBy B row → (∀ r, row = some r → G r ∧ ∃ o : Obj, A.heap[r]? = some o ∧ o.isCells = true) → (∀ b, G' b → G b ∨ A.heap.size ≤ b) → J G' pre B
/-- A round: it takes one of the iterator's slices over, and leaves all the others as they lie. -/
def RoundG (F : Fence) (P : Program) (l base N : Nat) (J : (Nat → Prop) → List (List Int) → World → Prop) : Prop :=
  ∀ (m : Nat) (G : Nat → Prop) (pre : List (List Int)) (A : World) (v : Value) (xs : List Int), J G pre A → (∀ b, G b → b < A.heap.size) → Owns A base v xs → (∀ b, v.ownBlock = some b → G b) → 1 ≤ xs.length → xs.length ≤ 300 → pre.length < N →
    YieldAt F m P l #[v] A fun e W' => e = .returned (.bool true) ∧ (∀ G' : Nat → Prop, (∀ b, G' b → G b ∧ v.ownBlock ≠ some b) → J G' (pre ++ [xs]) W') ∧ (∀ b, G b → W'.heap[b]? = A.heap[b]?) ∧ A.heap.size ≤ W'.heap.size
/-- The iterator's contract: it tells these rows, one after the other. -/
def SeqG (F : Fence) (n : Nat) (P : Program) (gf : Nat) (lb : Array Value) (base : Nat) (ys : List (List Int)) (G0 : Nat → Prop) (w : World) : Prop :=
  ∀ (l : Nat) (J : (Nat → Prop) → List (List Int) → World → Prop) (W : World), Below w.heap.size w W → StepsG J → RoundG F P l base ys.length J → J G0 [] W →
    CallsIn F n P gf (#[.func (.yield l) #[] #[]] ++ lb) W fun e W' => (∃ v, e = .returned v) ∧ ∃ G, J G ys W'
def postG (I : (Nat → Prop) → List (List Int) → World → Prop) (G : Nat → Prop) (v : Value) (xss : List (List Int)) (A : World) : Exit → Act → World → Prop
  | .normal, _, W' => KeepsOthers A W' ∧ (∀ G' : Nat → Prop, (∀ b, G' b → G b ∧ v.ownBlock ≠ some b) → I G' xss W') ∧ (∀ b, G b → W'.heap[b]? = A.heap[b]?)
  | _, _, _ => False

theorem wpIn_range_grow {F : Fence} {n : Nat} {P : Program} {g : Operand} {ps : Array Tmp} {assign body : Code} {Q : Exit → Act → World → Prop} {a : Act} {w : World}
    (hro : F.round = none) (h1 : 1 ≤ n) {gf : Nat} {lb : Array Value} (hg : a.eval g = .func (.func gf) #[] lb) (hFg : F.fn gf) (eg : ∀ args w, (callFunc gf args).run P w = .ok (.enter gf args) w)
    {base : Nat} {ys : List (List Int)} {G0 : Nat → Prop} {w0 : World} (hseq : SeqG F (n - 1) P gf lb base ys G0 w0) (hb0 : Below w0.heap.size w0 w) (hps : ps.size = 1)
    (I : (Nat → Prop) → List (List Int) → World → Prop)
    (hI : ∀ (G G' : Nat → Prop) (pre : List (List Int)) (A B : World) (row : Option Nat), I G pre A → A.grownBy B row → (∀ r, row = some r → (G r ∧ ∃ o : Obj, A.heap[r]? = some o ∧ o.isCells = true) ∨ (w.heap.size ≤ r ∧ ∃ o : Obj, A.heap[r]? = some o ∧ o.isCells = false)) → (∀ b, G' b → G b ∨ A.heap.size ≤ b) → I G' pre B)
    (hG0 : ∀ b, G0 b → b < w.heap.size) (h0 : I G0 [] w) (a₁ : Value → Act)
    (hassign : ∀ (l m : Nat) (v : Value) (W : World) (K : Act → World → Prop), K (a₁ v) W →
      assign.wpIn (F.inRound l) m P (Exit.then K (fun _ _ _ => False)) { tmps := (ps.zip #[v]).foldl (fun t (p, v) => t.setIfInBounds p v) a.tmps, defers := [] } W)
    (hbody : ∀ (l m : Nat) (G : Nat → Prop) (pre : List (List Int)) (A : World) (v : Value) (xs : List Int), I G pre A → (∀ b, G b → b < A.heap.size) → Owns A base v xs → (∀ b, v.ownBlock = some b → G b) → 1 ≤ xs.length → xs.length ≤ 300 → pre.length < ys.length →
      body.wpIn (F.inRound l) m P (postG I G v (pre ++ [xs]) A) (a₁ v) A)
    (hdone : ∀ (D : Nat) (G : Nat → Prop) (W : World), w.heap.size ≤ D → I G ys W → W.heap[D]? = some (.deferred (some [])) → Q .normal { a with defers := { target := .collected D, args := #[] } :: a.defers } W) :
    (Code.rangeFunc g ps assign body).wpIn F n P Q a w := by
  refine wpIn_rangeFunc ?_
  intro fn hfn
  rw [hro]
  obtain ⟨rec, hrec⟩ : ∃ rec : LoopState → Option Code → Loop, rec = fun st pe => { state := st, pending := pe, fn, tmps := a.tmps, params := ps, assign, body, defers := w.heap.size } := ⟨_, rfl⟩
  obtain ⟨W1, hW1⟩ : ∃ W1, (w.alloc (.deferred (some []))).alloc (.loop (rec .ready none)) = W1 := ⟨_, rfl⟩
  have hL1 : W1.heap[w.heap.size + 1]? = some (.loop (rec .ready none)) := by
    rw [← hW1]; have := World.alloc_heap_new (w.alloc (.deferred (some []))) (.loop (rec .ready none)); rwa [World.size_alloc] at this
  have hK1 : W1.heap[w.heap.size]? = some (.deferred (some [])) := by
    rw [← hW1]; exact (Below.heap_alloc _ _ _ (by simp)).trans (World.alloc_heap_new w _)
  have hI1 : I G0 [] W1 := by
    rw [← hW1]
    exact hI G0 G0 [] _ _ none (hI G0 G0 [] _ _ none h0 (World.grownBy_alloc w _ none) (fun r e => by cases e) (fun b h => .inl h)) (World.grownBy_alloc _ _ none) (fun r e => by cases e) (fun b h => .inl h)
  have hb1 : Below w0.heap.size w0 W1 := by
    rw [← hW1]; exact hb0.trans ((((Below.refl _ w).alloc (Nat.le_refl _) _).alloc (by simp) _).mono hb0.size)
  refine ⟨w.heap.size + 1, [{ target := .collected w.heap.size, args := #[] }], W1, { target := .fn (.func gf) lb, args := #[.func (.yield (w.heap.size + 1)) #[] #[]] }, W1, gf,
    #[.func (.yield (w.heap.size + 1)) #[] #[]] ++ lb, W1, ?_, ?_, ?_, ?_, fun _ => h1, ?_⟩
  · rw [← hW1, hrec]; exact run_enterLoop_outer _ _ _ _ _
  · simp only [resolve, hg]
    simp [go_sem]
  · intro f' hf'; simp [Target.leads] at hf'; subst hf'; exact hFg
  · simp [invoke, go_sem, eg]
  · have hkeep : ∀ {A B : World} {row : Option Nat} {k : Nat} {o : Obj}, A.grownBy B row → (∀ r, row = some r → ∃ o : Obj, A.heap[r]? = some o ∧ o.isCells = true) → A.heap[k]? = some o → o.isCells = false → B.heap[k]? = some o := fun hg' hr hk ho => by
      refine (hg'.block _ (Array.getElem?_eq_some_iff.1 hk).1 (fun e => ?_)).trans hk
      obtain ⟨o', h1, h2⟩ := hr _ e.symm
      rw [hk] at h1; cases h1; rw [ho] at h2; cases h2
    refine (hseq (w.heap.size + 1)
      (fun G pre W => I G pre W ∧ W.heap[w.heap.size + 1]? = some (.loop (rec .ready none)) ∧ W.heap[w.heap.size]? = some (.deferred (some [])) ∧ ¬ G (w.heap.size + 1))
      W1 hb1 ?_ ?_ ⟨hI1, hL1, hK1, fun h => by have := hG0 _ h; omega⟩).mono ?_
    · rintro G G' pre A B row ⟨hi, hl, hk, hng⟩ hg' hr hG
      refine ⟨hI G G' pre A B row hi hg' (fun r e => .inl (hr r e)) hG, hkeep hg' (fun r e => (hr r e).2) hl rfl, hkeep hg' (fun r e => (hr r e).2) hk rfl, fun h => ?_⟩
      rcases hG _ h with h | h
      · exact hng h
      · have := (Array.getElem?_eq_some_iff.1 hl).1; omega
    · -- one round
      rintro m G pre W v xs ⟨hi, hl, hk, hng⟩ hGlt hown hvG hx1 hx2 hlen
      have hlt : w.heap.size + 1 < W.heap.size := (Array.getElem?_eq_some_iff.1 hl).1
      have hy := run_yield (P := P) (args := #[v]) hl (by rw [hrec]; exact hps.symm)
      rw [hrec] at hy
      refine ⟨fn, _, assign, body, hy, roundIn_of_wpIn hfn (hassign _ _ v W _ ⟨_, run_beginRound hl (by rw [hrec]), ?_⟩)⟩
      have hl2 : (W.putObj (w.heap.size + 1) (.loop { rec .ready none with state := .busy })).heap[w.heap.size + 1]? = some (.loop { rec .ready none with state := .busy }) := World.putObj_heap_same hlt
      have hk2 : (W.putObj (w.heap.size + 1) (.loop { rec .ready none with state := .busy })).heap[w.heap.size]? = some (.deferred (some [])) := (World.putObj_heap_other (by omega)).trans hk
      have hi2 : I G pre (W.putObj (w.heap.size + 1) (.loop { rec .ready none with state := .busy })) :=
        hI G G pre W _ (some (w.heap.size + 1)) hi (grownBy_putObj' W _ _) (fun r e => by cases e; exact .inr ⟨by omega, _, hl, rfl⟩) (fun b h => .inl h)
      have hown2 : Owns (W.putObj (w.heap.size + 1) (.loop { rec .ready none with state := .busy })) base v xs :=
        hown.kept (grownBy_putObj' W _ _) (by
          rcases hb : v.ownBlock with _ | b
          · exact .inl rfl
          · refine .inr fun e => ?_
            rw [Option.some.inj e] at hb
            exact hng (hvG _ hb))
      refine wpIn_mono (hbody _ _ G pre _ v xs hi2 (fun b hb => by simpa using hGlt b hb) hown2 hvG hx1 hx2 hlen) ?_
      rintro e a3 W3 hp
      cases e with
      | normal =>
        obtain ⟨hk3, hi3, hg3⟩ := hp
        have hl3 := hk3.same _ _ hl2 rfl
        have hr3 := run_endRound (P := P) none hl3
        have hrr : ({ rec .ready none with state := .busy } : Loop) = { state := .busy, pending := none, fn, tmps := a.tmps, params := ps, assign, body, defers := w.heap.size } := by rw [hrec]
        refine ⟨_, _, hr3, rfl, fun G' hG' => ⟨?_, ?_, ?_, fun h => hng (hG' _ h).1⟩, fun b hb => ?_, ?_⟩
        · exact hI G' G' _ W3 _ (some (w.heap.size + 1)) (hi3 G' hG') (grownBy_putObj' W3 _ _) (fun r e => by cases e; exact .inr ⟨by omega, _, hl3, rfl⟩) (fun b h => .inl h)
        · refine (World.putObj_heap_same (Array.getElem?_eq_some_iff.1 hl3).1).trans ?_
          rw [hrec]; rfl
        · exact (World.putObj_heap_other (by omega)).trans (hk3.same _ _ hk2 rfl)
        · have hne : b ≠ w.heap.size + 1 := fun e => hng (e ▸ hb)
          rw [World.putObj_heap_other hne, hg3 b hb, World.putObj_heap_other hne]
        · have := hk3.size
          simp at this ⊢
          omega
      | ret => exact hp.elim
      | exit id => exact hp.elim
      | goto t => exact hp.elim
      | panic ch => exact hp.elim
      | outgrown => exact hp.elim
    · -- behind the iterator
      rintro e W2 ⟨⟨v, rfl⟩, G, hi, hl, hk, hng⟩
      exact ⟨none, _, by have := run_endLoop (P := P) hl (by rw [hrec]; simp); rw [hrec] at this; exact this,
        hdone _ G _ (Nat.le_refl _) (hI G G _ W2 _ (some (w.heap.size + 1)) hi (grownBy_putObj' W2 _ _) (fun r e => by cases e; exact .inr ⟨by omega, _, hl, rfl⟩) (fun b h => .inl h)) ((World.putObj_heap_other (by omega)).trans hk)⟩
end Go.Proofs.Ytfmknllemhdnaaa

namespace Go.Proofs.Ytfmknllemhdnaaa
open Go.RowKit

def OwnR (xss : List (List Int)) (w : World) (e : Ending) (w' : World) : Prop := ∃ v vs, e = .returned v ∧ OwnsR w' w.heap.size v vs xss ∧ Below w.heap.size w w'
set_option maxRecDepth 100000 in
set_option maxHeartbeats 2000000 in
theorem sLess (A B : Option Addr) (na ca nb cb : Nat) (a b : List Int) (w : World) (ha : Row w A na ca a) (hb : Row w B nb cb b) :
    Calls Try.prog 29 #[.slice A na ca, .slice B nb cb] w fun e w' => e = .returned (.bool (lessB a b)) ∧ ∃ n, w' = w.drewN n := by
  have HA := Lib.hid ha
  have HB := Lib.hid hb
  obtain rfl := ha.hn
  obtain rfl := hb.hn
  have hla := ha.hl
  have hlb := hb.hl
  have HAT : Hid (∀ (k : Nat) (x y : Int), a.take k = b.take k → Hid (a[k]? = some x) → Hid (b[k]? = some y) → x ≠ y → lessB a b = decide (x < y)) := fun k x y h hx hy hne => less_at h hx.out hy.out hne
  have HEND : Hid (∀ k, a.take k = b.take k → k = a.length ∨ k = b.length → k ≤ a.length → k ≤ b.length → lessB a b = decide (a.length < b.length)) := fun k h h2 h3 h4 => less_end h h2 h3 h4
  obtain ⟨res, HRES⟩ : ∃ r, Hid (lessB a b = r) := ⟨_, rfl⟩
  rw [HRES.out] at HAT HEND ⊢
  clear ha hb
  go_enter Try.func29, Try.ntmps29
  go_wp2_with fail
  go_loopw [5] (fun i wr => ∃ k : Nat, k ≤ a.length ∧ k ≤ b.length ∧ i = .int .i64 k ∧ Hid (a.take k = b.take k) ∧ ∃ q, wr = w.drewN q) (fun i _ => a.length - (Go.RowKit.intOf i).toNat)
  case atStart => exact ⟨0, Nat.zero_le _, Nat.zero_le _, rfl, rfl, 0, rfl⟩
  case round =>
    obtain ⟨k, hka, hkb, rfl, he, q, rfl⟩ := hrel
    by_cases h1 : k < a.length
    · by_cases h2 : k < b.length
      · obtain ⟨b1, o1, x, rfl, hc1, hx, _⟩ := HA.out.hA.elem h1
        obtain ⟨b2, o2, y, rfl, hc2, hy, _⟩ := HB.out.hA.elem h2
        have hd1 : decide ((k : Int) < (a.length : Int)) = true := decide_eq_true (by omega)
        have hd2 : decide ((k : Int) < (b.length : Int)) = true := decide_eq_true (by omega)
        by_cases hne : x = y
        · have HN : Hid (a.take (k + 1) = b.take (k + 1)) := by unfold Hid; rw [take_snoc hx, take_snoc hy, he.out, hne]
          have hd : (x != y) = false := by rw [hne]; simp
          clear hne
          go_wp2_with fail
          go_quiet (fail)
          go_wp2_with fail
          go_roundw
          case rel => exact ⟨k + 1, by omega, by omega, by go_num, HN, _, rfl⟩
          case measure => simp [Go.RowKit.intOf]; omega
        · have HN := Lib.hid (HAT.out k x y he.out hx hy hne)
          have hd : (x != y) = true := by simpa using hne
          clear hne
          go_wp2_with fail
          go_quiet (fail)
          go_wp2_with fail
          go_quiet (fail)
          go_wp2_with fail
          go_ret
          exact ⟨ret_bool HN.out.symm, _, by rw [World.drewN_drewN, World.drewN_drewN]⟩
      · obtain rfl : k = b.length := by omega
        have HN := Lib.hid (HEND.out _ he.out (.inr rfl) hka (Nat.le_refl _))
        have hd1 : decide ((b.length : Int) < (a.length : Int)) = true := decide_eq_true (by omega)
        go_wp2_with fail
        go_ret
        exact ⟨ret_bool HN.out.symm, _, rfl⟩
    · obtain rfl : k = a.length := by omega
      have HN := Lib.hid (HEND.out _ he.out (.inl rfl) (Nat.le_refl _) hkb)
      go_wp2_with fail
      go_ret
      exact ⟨ret_bool HN.out.symm, _, rfl⟩
theorem sLess_is {a b : List Int} {r : Bool} (h : Hid (lessB a b = r)) {A B : Option Addr} {na ca nb cb : Nat} {w : World} (ha : Row w A na ca a) (hb : Row w B nb cb b) :
    Calls Try.prog 29 #[.slice A na ca, .slice B nb cb] w fun e w' => e = .returned (.bool r) ∧ ∃ n, w' = w.drewN n := by
  have := sLess A B na ca nb cb a b w ha hb
  rw [h.out] at this; exact this

/-- All rows of one slice behind those of another one. -/
theorem wp_appendRR {W : World} {ops : Array Oper} {rest : List Oper} {o : Oper} {a : Act} {Q : Exit → Act → World → Prop} (hgd : o.guard = none) (s x : Operand)
    (ho : o.op = .call { callee := .builtin .append, args := #[s, x], argTypes := #[24, 24] }) (base : Nat) (v : Value) (vs : List Value) (xss : List (List Int)) (hs : a.eval s = v) (hown : OwnsR W base v vs xss)
    (y : Value) (us : List Value) (yss : List (List Int)) (hy : OwnsR W base y us yss) (hyo : ∀ u ∈ us, u.ownBlock = none ∨ u.ownBlock ≠ v.ownBlock) (hpos : 1 ≤ yss.length) (hx : a.eval x = y) (hl : xss.length + yss.length ≤ 1048576) (hb : base ≤ W.heap.size)
    (h : ∀ v' w', OwnsR w' base v' (vs ++ us) (xss ++ yss) → W.grownBy w' v.ownBlock → wpList Try.prog ops Q rest (a.put o.dst v') w') :
    wpList Try.prog ops Q (o :: rest) a W := by
  obtain ⟨i0, hi0, hz0, hz1, hz2⟩ := info_parts rowrow_info
  have hlen := hown.len
  have hlen2 := hy.len
  rcases hy.row.2 with ⟨rfl, hl0⟩ | ⟨g, cap, cur, rfl, hbg, hg, hnc, hm, hcs, ht⟩
  · omega
  rw [Nat.mul_one] at ht
  refine wpList_append_own_at _ hgd s x 24 ho base 29 i0 (.slice none 0 0) 1 24 Try.underlying24 hi0 hz0 hz1 hz2 rfl (by decide) v vs.length vs hs hown.row
    ⟨g, 0, none⟩ us.length cap us hx (by simp) (fun j u hj => ?_) (fun u hu => ?_) (by simp only [maxLen]; omega) (by omega) hb ?_
  · have hjl : j < us.length := (List.getElem?_eq_some_iff.1 hj).1
    have e : cur[j]? = some u := by
      have h4 : (cur.toList.take us.length)[j]? = us[j]? := by rw [ht]
      rw [List.getElem?_take_of_lt hjl, hj] at h4
      simpa using h4
    have e2 : (⟨g, 0, none⟩ : Addr).add j = ⟨g, 0 + j, none⟩ := by unfold Addr.add; split <;> simp_all
    rw [e2]
    simp [World.cell?, hg, e]
  · obtain ⟨i, hi, rfl⟩ := List.mem_iff_getElem.1 hu
    obtain ⟨v, h1, h2, _⟩ := hy.sees.2 i yss[i] (List.getElem?_eq_getElem (by omega))
    obtain ⟨Ai, ci, rfl, _, _, _, _⟩ := h2.form
    rw [List.getElem?_eq_getElem hi] at h1
    rw [Option.some.inj h1]; rfl
  · intro v' w' h1 h2 _ h4
    have hal : ∀ {u : Value} {t : List Int}, Owns W base u t → (u.ownBlock = none ∨ u.ownBlock ≠ v.ownBlock) → Owns w' base u t ∧ (u.ownBlock = none ∨ u.ownBlock ≠ v'.ownBlock) := fun {u t} hu hne => by
      refine ⟨hu.kept h2 hne, ?_⟩
      rcases hne with hn | hn
      · exact .inl hn
      · rcases h4 with h4 | h4
        · rw [h4]; exact .inr hn
        · right
          intro e
          rw [h4] at e
          have := (World.ownsRow.lt hu _ e).2
          omega
    refine h v' w' ⟨by simpa using h1, by simp [hlen, hlen2], fun i xs hi => ?_⟩ h2
    by_cases hil : i < xss.length
    · rw [List.getElem?_append_left hil] at hi
      obtain ⟨u, g1, g2, g3, g4⟩ := hown.sees.2 i xs hi
      obtain ⟨g5, g6⟩ := hal g2 g4
      exact ⟨u, by rw [List.getElem?_append_left (by omega)]; exact g1, g5, g3, g6⟩
    · rw [List.getElem?_append_right (by omega)] at hi
      obtain ⟨u, g1, g2, g3, _⟩ := hy.sees.2 _ xs hi
      obtain ⟨g5, g6⟩ := hal g2 (hyo u (List.mem_of_getElem? g1))
      exact ⟨u, by rw [List.getElem?_append_right (by omega), hlen]; exact g1, g5, g3, g6⟩
theorem below_appendRR {B : Nat} {a W w' : World} {base : Nat} {v : Value} {vs : List Value} {xss : List (List Int)} (h : Below B a W) (hB : B ≤ W.heap.size) (hown : OwnsR W base v vs xss) (hbase : B ≤ base) (hg : W.grownBy w' v.ownBlock) : Below B a w' :=
  h.grown hg hB fun k e => by have := (World.ownsRow.lt hown.row k e).1; omega
/-- A lone row, in a slice of its own. -/
theorem OwnsR.one {W : World} {base : Nat} {v : Value} {xs : List Int} (h : Owns W base v xs) (hb : base ≤ W.heap.size) (hl : xs.length ≤ 300) : OwnsR (W.alloc (.cells #[v] 29)) base (.slice (some ⟨W.heap.size, 0, none⟩) 1 1) [v] [xs] := by
  refine ⟨World.ownsRow_lit (base := base) (e := 29) (size := 1) W #[v] 1 hb (by simp [maxLen]) (by simp), rfl, fun i ys hi => ?_⟩
  have hi0 : i = 0 := by
    rcases Nat.eq_zero_or_pos i with h | h
    · exact h
    · rw [List.getElem?_eq_none (by simp only [List.length_cons, List.length_nil]; omega)] at hi; cases hi
  subst hi0
  cases hi
  refine ⟨v, rfl, h.below ((Below.refl _ _).alloc (Nat.le_refl _) _), hl, ?_⟩
  cases e : v.ownBlock with
  | none => exact .inl rfl
  | some k =>
    right
    have := (World.ownsRow.lt h k e).2
    show some k ≠ some W.heap.size
    simp; omega
end Go.Proofs.Ytfmknllemhdnaaa

namespace Go.Proofs.Ytfmknllemhdnaaa
open Go.RowKit

/-- append of all numbers of a slice that is not nil, none perhaps. -/
theorem wp_appendS {W : World} {ops : Array Oper} {rest : List Oper} {o : Oper} {a : Act} {Q : Exit → Act → World → Prop} (hgd : o.guard = none) (s x : Operand)
    (ho : o.op = .call { callee := .builtin .append, args := #[s, x], argTypes := #[29, 29] }) (base : Nat) (v : Value) (xs : List Int) (hs : a.eval s = v) (hown : Owns W base v xs)
    (ys : List Int) (ad : Option Addr) (m c : Nat) (hx : a.eval x = .slice ad m c) (hm : m = ys.length) (had : ad ≠ none) (hn : Nums .i64 W ad ys) (hl : xs.length + m ≤ 1048576) (hb : base ≤ W.heap.size)
    (h : ∀ v' w', Owns w' base v' (xs ++ ys) → W.grownBy w' v.ownBlock → wpList Try.prog ops Q rest (a.put o.dst v') w') :
    wpList Try.prog ops Q (o :: rest) a W := by
  by_cases hp : 1 ≤ m
  · exact wp_appendL hgd s x ho base v xs hs hown ys ad m c hx hm hp hn hl hb h
  · have hm0 : m = 0 := by omega
    have hy : ys = [] := List.eq_nil_of_length_eq_zero (by omega)
    subst hm0 hy
    obtain ⟨ad, rfl⟩ := Option.ne_none_iff_exists'.1 had
    obtain ⟨i0, hi0, hz0, hz1, hz2⟩ := info_parts int_info
    refine wpList_append_own _ hgd s x 29 ho base 3 i0 (.int .i64 0) 1 8 Try.underlying29 hi0 hz0 hz1 hz2 rfl (by decide) v xs.length (xs.map (Value.int .i64)) hs hown
      ad 0 c [] hx rfl (fun j u hj => by simp at hj) (fun u hu => by cases hu) (by simp only [maxLen]; omega) (by omega) hb ?_
    intro v' w' h1 h2 _
    refine h v' w' ?_ h2
    unfold Owns
    simpa using h1
theorem OwnsR.far {w : World} {base : Nat} {v : Value} {us : List Value} {yss : List (List Int)} (h : OwnsR w base v us yss) {o : Option Nat} (ho : ∀ k, o = some k → k < base) : ∀ u ∈ us, u.ownBlock = none ∨ u.ownBlock ≠ o := by
  intro u hu
  obtain ⟨i, hi, rfl⟩ := List.mem_iff_getElem.1 hu
  have hil : i < yss.length := by have := h.len; omega
  obtain ⟨v, h1, h2, _⟩ := h.sees.2 i yss[i] (List.getElem?_eq_getElem hil)
  rw [List.getElem?_eq_getElem hi] at h1
  rw [Option.some.inj h1]
  cases e : v.ownBlock with
  | none => exact .inl rfl
  | some k =>
    right
    intro e2
    have := (World.ownsRow.lt h2 k e).1
    have := ho k e2.symm
    omega
theorem own_some {w : World} {base n c : Nat} {A : Option Addr} {xs : List Int} (h : Owns w base (.slice A n c) xs) (hp : 0 < xs.length) : A ≠ none := by
  rcases h.2 with ⟨hv, hl⟩ | ⟨g, cap, cur, hv, _⟩
  · omega
  · simp only [Value.slice.injEq] at hv
    rw [hv.1]; simp

def AllHere (S k : Nat) : Prop := ∀ (A : Option Addr) (n c : Nat) (hv : List Int) (w : World), k ≤ S → hv.length + k ≤ S → (∀ x ∈ hv, 0 ≤ x ∧ x < 256) → A ≠ none → Row w A n c hv →
    Calls Try.prog 27 #[.int .i64 S, .int .i64 ((S - k : Nat) : Int), .slice A n c] w (OwnR (issuesM S k hv) w)
set_option maxRecDepth 100000 in
set_option maxHeartbeats 8000000 in
theorem sIssuesZero (S : Nat) (hS : S ≤ 16) : AllHere S 0 := by
  intro A n c hv w _ hlen hr hA0 ha
  have HA := Lib.hid ha
  obtain rfl := ha.hn
  have hlA := ha.hl
  clear ha hr
  rw [Nat.sub_zero]
  by_cases h0 : hv.length = 0
  · have hv0 : hv = [] := List.eq_nil_of_length_eq_zero h0
    subst hv0
    have HF : Hid (issuesM S 0 [] = []) := rfl
    rw [HF.out]
    clear hA0 h0
    go_enter Try.func27, Try.ntmps27
    go_wp2_with fail
    go_ret
    exact ⟨_, _, rfl, OwnsR.lit _ _ (Nat.le_refl _), (Below.refl _ _).alloc (Nat.le_refl _) _⟩
  · have hne : hv ≠ [] := fun e => h0 (by rw [e]; rfl)
    have HF : Hid (issuesM S 0 hv = [hv]) := by unfold Hid issuesM; rw [if_neg hne]
    rw [HF.out]
    have hd : ((hv.length : Int) == 0) = false := by rw [beq_eq_false_iff_ne]; omega
    have HB0 : Hid (Below w.heap.size w (w.alloc (.cells #[] 3))) := (Below.refl _ _).alloc (Nat.le_refl _) _
    have HO0 : Hid (Owns (w.alloc (.cells #[] 3)) w.heap.size (.slice (some ⟨w.heap.size, 0, none⟩) 0 0) []) := Owns.lit w w.heap.size [] (Nat.le_refl _) (by simp [maxLen])
    have hs0 : w.heap.size ≤ (w.alloc (.cells #[] 3)).heap.size := HB0.out.size
    clear h0 hne
    go_enter Try.func27, Try.ntmps27
    go_wp2_with (at_builtin; refine wp_appendS rfl _ _ rfl w.heap.size (.slice (some ⟨w.heap.size, 0, none⟩) 0 0) [] rfl HO0.out hv A hv.length c rfl rfl hA0 (HA.out.hA.below HB0.out) (by simp; omega) hs0 ?_; intro v2 w2 hown2 hgrow2; rw [List.nil_append] at hown2; have HO2 := Lib.hid hown2; have HB2 := Lib.hid (below_appendL HB0.out hs0 HO0.out (Nat.le_refl _) hgrow2); obtain ⟨A2, c2, rfl, _, _, _, _⟩ := hown2.form; clear hown2 hgrow2)
    go_ret
    exact ⟨_, _, rfl, OwnsR.one HO2.out HB2.out.size (by omega), HB2.out.alloc HB2.out.size _⟩
end Go.Proofs.Ytfmknllemhdnaaa

namespace Go.Proofs.Ytfmknllemhdnaaa
open Go.RowKit

set_option maxRecDepth 100000 in
set_option maxHeartbeats 8000000 in
theorem sIssuesSucc (S : Nat) (hS : S ≤ 16) (k : Nat) (ih : AllHere S k) : AllHere S (k + 1) := by
  intro A n c hv w hkS hlen hr hA0 ha
  have HA := Lib.hid ha
  obtain rfl := ha.hn
  have hlA := ha.hl
  have HR := Lib.hid hr
  obtain ⟨f, HFV⟩ : ∃ f, Hid (S - (k + 1) = f) := ⟨_, rfl⟩
  have hf : f + (k + 1) = S := by have := HFV.out; omega
  have HIH : Hid (∀ (A : Option Addr) (n c : Nat) (hv : List Int) (w : World), hv.length + k ≤ S → (∀ x ∈ hv, 0 ≤ x ∧ x < 256) → A ≠ none → Row w A n c hv → Calls Try.prog 27 #[.int .i64 S, .int .i64 ((f : Int) + 1), .slice A n c] w (OwnR (issuesM S k hv) w)) := fun A n c hv w h1 h2 h3 h4 => by
    have := ih A n c hv w (by omega) h1 h2 h3 h4
    rw [show ((S - k : Nat) : Int) = (f : Int) + 1 by omega] at this
    exact this
  have HNO : Hid (freeB hv (f : Int) = false → issuesM S (k + 1) hv = issuesM S k hv) := fun h => by
    show issuesM S k hv ++ (if freeB hv ((S - (k + 1) : Nat) : Int) = true then _ else _) = _
    rw [HFV.out, h]; simp
  have HYES : Hid (freeB hv (f : Int) = true → issuesM S (k + 1) hv = issuesM S k hv ++ issuesM S k (hv ++ [(f : Int)])) := fun h => by
    show issuesM S k hv ++ (if freeB hv ((S - (k + 1) : Nat) : Int) = true then _ else _) = _
    rw [HFV.out, h]; rfl
  have h1len := issuesM_len S k hv
  have h2len := issuesM_len S k (hv ++ [(f : Int)])
  have h2pos := issuesM_some S k (hv ++ [(f : Int)]) (by simp)
  have hp2 : 2 ^ k ≤ 2 ^ 15 := Nat.pow_le_pow_right (by omega) (by omega)
  have hr2 : ∀ x ∈ hv ++ [(f : Int)], 0 ≤ x ∧ x < 256 := fun x hx => by
    rw [List.mem_append, List.mem_singleton] at hx
    rcases hx with h | rfl
    · exact hr x h
    · omega
  have HR2 := Lib.hid hr2
  obtain ⟨res, HRES⟩ : ∃ r, Hid (issuesM S (k + 1) hv = r) := ⟨_, rfl⟩
  obtain ⟨l1, HL1⟩ : ∃ r, Hid (issuesM S k hv = r) := ⟨_, rfl⟩
  obtain ⟨l2, HL2⟩ : ∃ r, Hid (issuesM S k (hv ++ [(f : Int)]) = r) := ⟨_, rfl⟩
  rw [HFV.out, HRES.out]
  rw [HRES.out, HL1.out] at HNO
  rw [HRES.out, HL1.out, HL2.out] at HYES
  rw [HL1.out] at h1len
  rw [HL2.out] at h2len h2pos
  have HC1 := Lib.hid (HIH.out A hv.length c hv w (by omega) hr hA0 ha)
  rw [HL1.out] at HC1
  have HC2 := Lib.hid (fun A n c W h3 h4 => HIH.out A n c (hv ++ [(f : Int)]) W (by rw [List.length_append, List.length_cons, List.length_nil]; omega) hr2 h3 h4)
  rw [HL2.out] at HC2
  have hlen16 : hv.length ≤ 16 := by omega
  have hll1 : l1.length ≤ 32768 := by omega
  have hll2 : l2.length ≤ 32768 := by omega
  have hf16 : f < 16 := by omega
  have hd : ((f : Int) == (S : Int)) = false := by rw [beq_eq_false_iff_ne]; omega
  clear ih ha hr hr2 HIH h1len h2len hp2 hkS hlen hf
  go_enter Try.func27, Try.ntmps27
  go_wp2_with fail
  refine HC1.out.mono ?_
  rintro e w5 ⟨v5, vs5, rfl, ho5, hb5⟩
  obtain ⟨A5, c5, rfl, _, _, ha5⟩ := ho5.form
  have HO5 := Lib.hid ho5
  have HB5 := Lib.hid hb5
  have HA5 : Hid (∀ ad, A5 = some ad → ad.block < w5.heap.size) := fun ad h => (ha5 ad h).2
  have hsz5 : w.heap.size ≤ w5.heap.size := hb5.size
  clear ho5 hb5 ha5
  go_wp2_with fail
  clear hd
  go_loopw [8] (fun i wr => ∃ j : Nat, j ≤ hv.length ∧ i = .int .i64 j ∧ Hid (freeB (hv.take j) (f : Int) = true) ∧ ∃ q, wr = w5.drewN q) (fun i _ => hv.length - (Go.RowKit.intOf i).toNat)
  case atStart => exact ⟨0, Nat.zero_le _, rfl, rfl, 0, rfl⟩
  case round =>
    obtain ⟨j, hj, rfl, hfree, q, rfl⟩ := hrel
    by_cases hjt : j < hv.length
    · obtain ⟨b, off, x, rfl, hcell, hx, _⟩ := (HA.out.hA.below HB5.out).elem hjt
      obtain ⟨hx0, hx1⟩ := HR.out x (elem_mem hx)
      have hsn := free_snoc (f := (f : Int)) hx
      have HMS : Hid ((withinB x (f : Int) || withinB (f : Int) x) = true → freeB hv (f : Int) = false) := fun h => free_miss hx h
      obtain ⟨y1, H1⟩ : ∃ y, Hid (withinB x (f : Int) = y) := ⟨_, rfl⟩
      obtain ⟨y2, H2⟩ : ∃ y, Hid (withinB (f : Int) x = y) := ⟨_, rfl⟩
      rw [H1.out, H2.out, hfree.out] at hsn
      rw [H1.out, H2.out] at HMS
      cases y1
      · cases y2
        · have HN := Lib.hid hsn
          clear hsn
          go_wp2_with fail
          refine (sWithin_is H1 hx0 hx1 (by omega) (by omega) _).mono ?_
          rintro e w' ⟨rfl, q2, rfl⟩
          go_wp2_with fail
          refine (sWithin_is H2 (by omega) (by omega) hx0 hx1 _).mono ?_
          rintro e w' ⟨rfl, q3, rfl⟩
          go_wp2_with fail
          go_roundw
          case rel => exact ⟨j + 1, by omega, by go_num, HN, _, by first | rfl | rw [World.drewN_drewN] | rw [World.drewN_drewN, World.drewN_drewN]⟩
          case measure => simp [Go.RowKit.intOf]; omega
        · have HN := Lib.hid (HNO.out (HMS.out rfl))
          rw [HN.out]
          clear hsn
          go_wp2_with fail
          refine (sWithin_is H1 hx0 hx1 (by omega) (by omega) _).mono ?_
          rintro e w' ⟨rfl, q2, rfl⟩
          go_wp2_with fail
          refine (sWithin_is H2 (by omega) (by omega) hx0 hx1 _).mono ?_
          rintro e w' ⟨rfl, q3, rfl⟩
          go_wp2_with fail
          go_ret
          exact ⟨_, vs5, rfl, HO5.out.drewN _, bel_drewN HB5.out _⟩
      · have HN := Lib.hid (HNO.out (HMS.out rfl))
        rw [HN.out]
        clear hsn
        go_wp2_with fail
        refine (sWithin_is H1 hx0 hx1 (by omega) (by omega) _).mono ?_
        rintro e w' ⟨rfl, q2, rfl⟩
        go_wp2_with fail
        go_ret
        exact ⟨_, vs5, rfl, HO5.out.drewN _, bel_drewN HB5.out _⟩
    · obtain rfl : j = hv.length := by omega
      have hfr := hfree.out
      rw [List.take_length] at hfr
      have HN := Lib.hid (HYES.out hfr)
      rw [HN.out]
      clear hfr
      obtain ⟨W, HW⟩ : ∃ W, W = w5.drewN q := ⟨_, rfl⟩
      have hszW : w5.heap.size = W.heap.size := by rw [HW]; rfl
      have HOW : Hid (OwnsR W w.heap.size (.slice A5 l1.length c5) vs5 l1) := by unfold Hid; rw [HW]; exact HO5.out.drewN _
      have HBW : Hid (Below w.heap.size w W) := by unfold Hid; rw [HW]; exact bel_drewN HB5.out _
      have HNW : Hid (Nums .i64 W A hv) := by unfold Hid; rw [HW]; exact (HA.out.hA.below HB5.out).drewN _
      rw [← HW]
      rw [hszW] at HA5 hsz5
      have HSW := Lib.hid hszW
      clear HW hszW
      have HB0 : Hid (Below W.heap.size W (W.alloc (.cells #[] 3))) := (Below.refl _ _).alloc (Nat.le_refl _) _
      have HO0 : Hid (Owns (W.alloc (.cells #[] 3)) W.heap.size (.slice (some ⟨W.heap.size, 0, none⟩) 0 0) []) := Owns.lit W W.heap.size [] (Nat.le_refl _) (by simp [maxLen])
      have hs0 : W.heap.size ≤ (W.alloc (.cells #[] 3)).heap.size := HB0.out.size
      go_wp2_with (at_builtin; first
        | (refine wp_appendS rfl _ _ rfl W.heap.size (.slice (some ⟨W.heap.size, 0, none⟩) 0 0) [] rfl HO0.out hv A hv.length c rfl rfl hA0 (HNW.out.below HB0.out) (by simp; omega) hs0 ?_; intro v2 w2 hown2 hgrow2; rw [List.nil_append] at hown2; have HO2 := Lib.hid hown2; have HB2 := Lib.hid (below_appendL HB0.out hs0 HO0.out (Nat.le_refl _) hgrow2); have hs2 : W.heap.size ≤ w2.heap.size := HB2.out.size; clear hown2 hgrow2 HO0 HB0)
        | (refine wp_append1 (W := w2) rfl _ _ rfl W.heap.size v2 hv rfl HO2.out (f : Int) rfl (by omega) (by exact hs2) ?_; intro v3 w3 hown3 hgrow3; have HO3 := Lib.hid hown3; have HB3 := Lib.hid (below_append HB2.out hs2 HO2.out (Nat.le_refl _) hgrow3); obtain ⟨A3, c3, rfl, _, _, _, _⟩ := hown3.form; clear hown3 hgrow3))
      have HR3 := Lib.hid (Owns.row HO3.out (by rw [List.length_append, List.length_cons, List.length_nil]; omega))
      rw [List.length_append, List.length_cons, List.length_nil] at HR3
      have hA3 := own_some HO3.out (by simp)
      have hsz3 : W.heap.size ≤ w3.heap.size := HB3.out.size
      refine (HC2.out _ _ _ _ hA3 HR3.out).mono ?_
      rintro e w6 ⟨v6, vs6, rfl, ho6, hb6⟩
      obtain ⟨A6, c6, rfl, _, _, _⟩ := ho6.form
      have HB6 := Lib.hid (bel_trans HB3.out hb6)
      have HO56 := Lib.hid (HOW.out.below HB6.out)
      have HFAR := Lib.hid (ho6.far (o := (Value.slice A5 l1.length c5).ownBlock) (fun k hk => by have := (World.ownsRow.lt HOW.out.row k hk).2; omega))
      have HO6 := Lib.hid (ho6.base (show w.heap.size ≤ w3.heap.size by omega))
      have hsz6 : w.heap.size ≤ w6.heap.size := by have := HB6.out.size; omega
      clear ho6 hb6
      go_wp2_with (at_builtin; refine wp_appendRR rfl _ _ rfl w.heap.size (.slice A5 l1.length c5) vs5 l1 rfl HO56.out (.slice A6 l2.length c6) vs6 l2 HO6.out HFAR.out h2pos rfl (by omega) (by exact hsz6) ?_; intro v7 w7 hown7 hgrow7)
      have hb' := below_appendRR (HBW.out.trans (HB6.out.mono hsz5)) hsz6 HO56.out (Nat.le_refl _) hgrow7
      go_ret
      exact ⟨_, _, rfl, by rw [HN.out]; exact hown7, hb'⟩
theorem sIssuesAll (S : Nat) (hS : S ≤ 16) : ∀ k, AllHere S k
  | 0 => sIssuesZero S hS
  | k + 1 => sIssuesSucc S hS k (sIssuesAll S hS k)
end Go.Proofs.Ytfmknllemhdnaaa
