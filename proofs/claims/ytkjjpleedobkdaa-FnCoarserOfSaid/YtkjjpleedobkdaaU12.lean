/-
  What the proofs of this seat's statements share (LstM, RowR, RowS, RowT, RowU).
-/
import Derived.Test.YtkjjpleedobkdaaU5
import Derived.Test.YtkjjpleedobkdaaU7
import Derived.Test.YtkjjpleedobkdaaU4
import Derived.Test.YtkjjpleedobkdaaU3

namespace Go.Proofs.Ytkjjpleedobkdaa
open Go.RowKit

def lessB : List Int → List Int → Bool
  | [], [] => false
  | [], _ :: _ => true
  | _ :: _, [] => false
  | x :: xs, y :: ys => if x = y then lessB xs ys else decide (x < y)
/-- No set of the row is within the set, or the other way round. -/
def freeB (hv : List Int) (f : Int) : Bool := hv.all fun x => !(withinB x f || withinB f x)
/-- What the model's recursion tells: the issues that begin with hv, of k sets more. -/
def issuesM (S : Nat) : Nat → List Int → List (List Int)
  | 0, hv => if hv = [] then [] else [hv]
  | k + 1, hv => issuesM S k hv ++ if freeB hv ((S - (k + 1) : Nat) : Int) = true then issuesM S k (hv ++ [((S - (k + 1) : Nat) : Int)]) else []
def swapL (zs : List (List Int)) (j : Nat) : List (List Int) := (zs.set (j + 1) (zs.getD j [])).set j (zs.getD (j + 1) [])
/-- One row sinks to its place. -/
def sinkL : Nat → List (List Int) → List (List Int)
  | 0, zs => zs
  | j + 1, zs => if lessB (zs.getD (j + 1) []) (zs.getD j []) = true then sinkL j (swapL zs j) else zs
def sortTo (zs : List (List Int)) : Nat → List (List Int)
  | 0 => zs
  | k + 1 => sinkL (k + 1) (sortTo zs k)
def sortL (zs : List (List Int)) : List (List Int) := sortTo zs (zs.length - 1)
def issuesOfL (t : Int) : List (List Int) := if t = 1 then sortL (issuesM 4 4 []) else if t = 2 then sortL (issuesM 16 16 []) else []
theorem swap_len (zs : List (List Int)) (j : Nat) : (swapL zs j).length = zs.length := by unfold swapL; rw [List.length_set, List.length_set]
theorem sink_len : ∀ (j : Nat) (zs : List (List Int)), (sinkL j zs).length = zs.length
  | 0, _ => rfl
  | j + 1, zs => by
    unfold sinkL; split
    · rw [sink_len j, swap_len]
    · rfl
theorem sortTo_len (zs : List (List Int)) : ∀ k, (sortTo zs k).length = zs.length
  | 0 => rfl
  | k + 1 => by unfold sortTo; rw [sink_len, sortTo_len zs k]
theorem issuesM_len (S : Nat) : ∀ k hv, (issuesM S k hv).length ≤ 2 ^ k
  | 0, hv => by unfold issuesM; split <;> simp
  | k + 1, hv => by
    have h1 := issuesM_len S k hv
    have h2 := issuesM_len S k (hv ++ [((S - (k + 1) : Nat) : Int)])
    unfold issuesM
    rw [List.length_append, Nat.pow_succ]
    split
    · omega
    · simp; omega
/-- Each row is short. -/
theorem issuesM_rows (S : Nat) : ∀ k hv, ∀ r ∈ issuesM S k hv, r.length ≤ hv.length + k
  | 0, hv, r, h => by
    unfold issuesM at h
    split at h
    · cases h
    · rw [List.mem_singleton] at h; rw [h]; omega
  | k + 1, hv, r, h => by
    unfold issuesM at h
    rw [List.mem_append] at h
    rcases h with h | h
    · have := issuesM_rows S k hv r h; omega
    · split at h
      · have := issuesM_rows S k _ r h
        rw [List.length_append, List.length_cons, List.length_nil] at this; omega
      · cases h
/-- Behind a first set there is one at least. -/
theorem issuesM_some (S : Nat) : ∀ k hv, hv ≠ [] → 1 ≤ (issuesM S k hv).length
  | 0, hv, h => by unfold issuesM; rw [if_neg h]; simp
  | k + 1, hv, h => by
    have := issuesM_some S k hv h
    unfold issuesM
    rw [List.length_append]; omega
theorem free_snoc {hv : List Int} {k : Nat} {x f : Int} (hx : Hid (hv[k]? = some x)) : freeB (hv.take (k + 1)) f = (freeB (hv.take k) f && !(withinB x f || withinB f x)) := by
  unfold freeB
  rw [List.take_succ_eq_append_getElem (List.getElem?_eq_some_iff.1 hx.out).1, (List.getElem?_eq_some_iff.1 hx.out).2, List.all_append]; simp
theorem free_miss {hv : List Int} {k : Nat} {x f : Int} (hx : Hid (hv[k]? = some x)) (h : (withinB x f || withinB f x) = true) : freeB hv f = false := by
  unfold freeB
  rw [List.all_eq_false]
  exact ⟨x, List.mem_of_getElem? hx.out, by rw [h]; simp⟩
theorem less_at {xs ys : List Int} {k : Nat} {x y : Int} (he : xs.take k = ys.take k) (hx : xs[k]? = some x) (hy : ys[k]? = some y) (hne : x ≠ y) : lessB xs ys = decide (x < y) := by
  induction k generalizing xs ys with
  | zero =>
    cases xs with
    | nil => simp at hx
    | cons a xs =>
      cases ys with
      | nil => simp at hy
      | cons b ys =>
        simp at hx hy
        subst hx hy
        unfold lessB; rw [if_neg hne]
  | succ k ih =>
    cases xs with
    | nil => simp at hx
    | cons a xs =>
      cases ys with
      | nil => simp at hy
      | cons b ys =>
        simp at hx hy he
        unfold lessB; rw [if_pos he.1]
        exact ih he.2 hx hy
theorem less_end {xs ys : List Int} {k : Nat} (he : xs.take k = ys.take k) (hk : k = xs.length ∨ k = ys.length) (h1 : k ≤ xs.length) (h2 : k ≤ ys.length) : lessB xs ys = decide (xs.length < ys.length) := by
  induction k generalizing xs ys with
  | zero =>
    cases xs with
    | nil => cases ys <;> simp [lessB]
    | cons a xs =>
      cases ys with
      | nil => simp [lessB]
      | cons b ys => rcases hk with h | h <;> simp at h
  | succ k ih =>
    cases xs with
    | nil => simp at h1
    | cons a xs =>
      cases ys with
      | nil => simp at h2
      | cons b ys =>
        simp at he h1 h2
        unfold lessB; rw [if_pos he.1, ih he.2 (by rcases hk with h | h <;> simp at h <;> omega) h1 h2]
        simp
end Go.Proofs.Ytkjjpleedobkdaa

namespace Go.Proofs.Ytkjjpleedobkdaa
open Go.RowKit

/-- The values vs are slices of the call's own that read as xss; none of them lies in block o. -/
def Sees (w : World) (base : Nat) (o : Option Nat) (vs : List Value) (xss : List (List Int)) : Prop :=
  vs.length = xss.length ∧ ∀ (i : Nat) (xs : List Int), xss[i]? = some xs → ∃ v, vs[i]? = some v ∧ Owns w base v xs ∧ xs.length ≤ 300 ∧ (v.ownBlock = none ∨ v.ownBlock ≠ o)
structure OwnsR (w : World) (base : Nat) (v : Value) (vs : List Value) (xss : List (List Int)) : Prop where
  row : w.ownsRow base 23 1 v vs.length vs
  sees : Sees w base v.ownBlock vs xss
theorem rowrow_info : (Try.prog.info? 23).map (fun i => (i.zero, i.size, i.bytes)) = some (some (.slice none 0 0), 1, 24) := by kernel_rfl
theorem OwnsR.nil (w : World) (base : Nat) : OwnsR w base (.slice none 0 0) [] [] := ⟨World.ownsRow_nil w base _ 1, rfl, fun i xs h => by simp at h⟩
theorem OwnsR.lit (w : World) (base : Nat) (hb : base ≤ w.heap.size) : OwnsR (w.alloc (.cells #[] 23)) base (.slice (some ⟨w.heap.size, 0, none⟩) 0 0) [] [] :=
  ⟨World.ownsRow_lit (base := base) (e := 23) (size := 1) w #[] 0 hb (by simp [maxLen]) (by simp), rfl, fun i xs h => by simp at h⟩
theorem Sees.below {w w' : World} {base : Nat} {o : Option Nat} {vs : List Value} {xss : List (List Int)} (h : Sees w base o vs xss) (hb : Below w.heap.size w w') : Sees w' base o vs xss :=
  ⟨h.1, fun i xs hx => by obtain ⟨v, h1, h2, h3⟩ := h.2 i xs hx; exact ⟨v, h1, h2.below hb, h3⟩⟩
theorem OwnsR.below {w w' : World} {base : Nat} {v : Value} {vs : List Value} {xss : List (List Int)} (h : OwnsR w base v vs xss) (hb : Below w.heap.size w w') : OwnsR w' base v vs xss :=
  ⟨World.ownsRow.kept (row := none) h.row ⟨hb.os, hb.tape, hb.output, hb.size, fun k hk _ => hb.block k hk⟩ (by cases v.ownBlock <;> simp), h.sees.below hb⟩
theorem OwnsR.drewN {w : World} {base : Nat} {v : Value} {vs : List Value} {xss : List (List Int)} (h : OwnsR w base v vs xss) (n : Nat) : OwnsR (w.drewN n) base v vs xss := ⟨h.row, h.sees.1, fun i xs hx => by obtain ⟨v, h1, h2, h3⟩ := h.sees.2 i xs hx; exact ⟨v, h1, h2, h3⟩⟩
theorem OwnsR.base {w : World} {base base' : Nat} {v : Value} {vs : List Value} {xss : List (List Int)} (h : OwnsR w base v vs xss) (hb : base' ≤ base) : OwnsR w base' v vs xss := by
  refine ⟨⟨h.row.1, ?_⟩, h.sees.1, fun i xs hx => ?_⟩
  · rcases h.row.2 with h | ⟨g, cap, cur, h1, h2, h3⟩
    · exact .inl h
    · exact .inr ⟨g, cap, cur, h1, by omega, h3⟩
  · obtain ⟨v, h1, h2, h3⟩ := h.sees.2 i xs hx
    exact ⟨v, h1, h2.base hb, h3⟩
theorem OwnsR.len {w : World} {base : Nat} {v : Value} {vs : List Value} {xss : List (List Int)} (h : OwnsR w base v vs xss) : vs.length = xss.length := h.sees.1
/-- The slice's form; what its cells hold. -/
theorem OwnsR.form {w : World} {base : Nat} {v : Value} {vs : List Value} {xss : List (List Int)} (h : OwnsR w base v vs xss) :
    ∃ A c, v = .slice A xss.length c ∧ xss.length ≤ c ∧ c ≤ maxLen ∧ ∀ ad, A = some ad → base ≤ ad.block ∧ ad.block < w.heap.size := by
  rcases h.row.2 with ⟨rfl, hl⟩ | ⟨g, cap, cur, rfl, hb, hg, hn, hm, _, _⟩
  · exact ⟨none, 0, by rw [← h.len, hl], by rw [← h.len, hl]; exact Nat.le_refl _, by simp [maxLen], fun ad h => by cases h⟩
  · have hlt : g < w.heap.size := (Array.getElem?_eq_some_iff.1 hg).1
    exact ⟨some ⟨g, 0, none⟩, cap, by rw [h.len], by rw [← h.len]; exact hn, hm, fun ad h => by cases h; exact ⟨hb, hlt⟩⟩
/-- One row: its address, its cell, how it reads. -/
theorem OwnsR.elem {w : World} {base n c : Nat} {A : Option Addr} {vs : List Value} {xss : List (List Int)} (h : OwnsR w base (.slice A n c) vs xss) {i : Nat} (hi : i < xss.length) :
    ∃ g off Ai ci xs, A = some ⟨g, off, none⟩ ∧ w.cell? ⟨g, off + i, none⟩ = some (.slice Ai xs.length ci) ∧ Hid (xss[i]? = some xs) ∧ Hid (Row w Ai xs.length ci xs) := by
  rcases h.row.2 with ⟨hv, hl⟩ | ⟨g, cap, cur, hv, hb, hg, hn, hm, hcs, ht⟩
  · have := h.len; omega
  · simp only [Value.slice.injEq] at hv
    obtain ⟨rfl, _, rfl⟩ := hv
    obtain ⟨v, h1, h2, h3, _⟩ := h.sees.2 i xss[i] (List.getElem?_eq_getElem hi)
    obtain ⟨Ai, ci, rfl, _, _, _, _⟩ := h2.form
    refine ⟨g, 0, Ai, ci, xss[i], rfl, ?_, List.getElem?_eq_getElem hi, Owns.row h2 (by omega)⟩
    rw [Nat.mul_one] at ht
    have hil : i < vs.length := by rw [h.len]; exact hi
    have e : cur[i]? = some (.slice Ai xss[i].length ci) := by
      have h4 : (cur.toList.take vs.length)[i]? = vs[i]? := by rw [ht]
      rw [List.getElem?_take_of_lt hil, h1] at h4
      simpa using h4
    simp [World.cell?, hg, e]

theorem wp_appendR4 {W : World} {ops : Array Oper} {rest : List Oper} {o : Oper} {a : Act} {Q : Exit → Act → World → Prop} (hgd : o.guard = none) (s x : Operand)
    (ho : o.op = .call { callee := .builtin .append, args := #[s, x], argTypes := #[31, 31] }) (base : Nat) (v : Value) (vs : List Value) (xss : List (List Int)) (hs : a.eval s = v) (hown : OwnsR W base v vs xss)
    (y : Value) (ys : List Int) (hy : Owns W base y ys) (hyl : ys.length ≤ 300) (hyo : y.ownBlock = none ∨ y.ownBlock ≠ v.ownBlock) (hx : a.eval x = .slice (some ⟨W.heap.size, 0, none⟩) 1 1) (hl : xss.length ≤ 1048576) (hb : base ≤ W.heap.size)
    (h : ∀ v' w', OwnsR w' base v' (vs ++ [y]) (xss ++ [ys]) → (W.alloc (.cells #[y] 23)).grownBy w' v.ownBlock → (v'.ownBlock = v.ownBlock ∨ v'.ownBlock = some (W.heap.size + 1)) → wpList Try.prog ops Q rest (a.put o.dst v') w') :
    wpList Try.prog ops Q (o :: rest) a (W.alloc (.cells #[y] 23)) := by
  obtain ⟨i0, hi0, hz0, hz1, hz2⟩ := info_parts rowrow_info
  obtain ⟨Ay, cy, rfl, _, _, _, hya⟩ := hy.form
  have hlen := hown.len
  refine wpList_append_own_at _ hgd s x 31 ho base 23 i0 (.slice none 0 0) 1 24 Try.underlying31 hi0 hz0 hz1 hz2 rfl (by decide) v vs.length vs hs (World.ownsRow.alloc hown.row _)
    ⟨W.heap.size, 0, none⟩ 1 1 [.slice Ay ys.length cy] hx rfl (cell_one_new _ _ _) (fun u hu => by rw [List.mem_singleton] at hu; subst hu; rfl) (by simp only [maxLen]; omega) (by omega) (by rw [World.size_alloc]; omega) ?_
  intro v' w' h1 h2 _ h4
  refine h v' w' ⟨by simpa using h1, by simp [hlen], fun i xs hi => ?_⟩ h2 (by rw [← World.size_alloc W (.cells #[.slice Ay ys.length cy] 23)]; exact h4)
  have hal : ∀ {u : Value} {us : List Int}, Owns W base u us → (u.ownBlock = none ∨ u.ownBlock ≠ v.ownBlock) → Owns w' base u us ∧ (u.ownBlock = none ∨ u.ownBlock ≠ v'.ownBlock) := fun {u us} hu hne => by
    refine ⟨(hu.below ((Below.refl _ _).alloc (Nat.le_refl _) _)).kept h2 hne, ?_⟩
    rcases hne with hn | hn
    · exact .inl hn
    · rcases h4 with h4 | h4
      · rw [h4]; exact .inr hn
      · right
        intro e
        rw [h4, World.size_alloc] at e
        have := (World.ownsRow.lt hu _ e).2
        omega
  by_cases hil : i < xss.length
  · rw [List.getElem?_append_left hil] at hi
    obtain ⟨u, g1, g2, g3, g4⟩ := hown.sees.2 i xs hi
    obtain ⟨g5, g6⟩ := hal g2 g4
    exact ⟨u, by rw [List.getElem?_append_left (by omega)]; exact g1, g5, g3, g6⟩
  · rw [List.getElem?_append_right (by omega)] at hi
    have hi0 : i - xss.length = 0 := by
      rcases Nat.eq_zero_or_pos (i - xss.length) with h | h
      · exact h
      · rw [List.getElem?_eq_none (by simp only [List.length_cons, List.length_nil]; omega)] at hi; cases hi
    rw [hi0] at hi
    cases hi
    obtain ⟨g5, g6⟩ := hal hy hyo
    exact ⟨_, by rw [List.getElem?_append_right (by omega), hlen, hi0]; rfl, g5, hyl, g6⟩
theorem wp_appendR {W : World} {ops : Array Oper} {rest : List Oper} {o : Oper} {a : Act} {Q : Exit → Act → World → Prop} (hgd : o.guard = none) (s x : Operand)
    (ho : o.op = .call { callee := .builtin .append, args := #[s, x], argTypes := #[31, 31] }) (base : Nat) (v : Value) (vs : List Value) (xss : List (List Int)) (hs : a.eval s = v) (hown : OwnsR W base v vs xss)
    (y : Value) (ys : List Int) (hy : Owns W base y ys) (hyl : ys.length ≤ 300) (hyo : y.ownBlock = none ∨ y.ownBlock ≠ v.ownBlock) (hx : a.eval x = .slice (some ⟨W.heap.size, 0, none⟩) 1 1) (hl : xss.length ≤ 1048576) (hb : base ≤ W.heap.size)
    (h : ∀ v' w', OwnsR w' base v' (vs ++ [y]) (xss ++ [ys]) → (W.alloc (.cells #[y] 23)).grownBy w' v.ownBlock → wpList Try.prog ops Q rest (a.put o.dst v') w') :
    wpList Try.prog ops Q (o :: rest) a (W.alloc (.cells #[y] 23)) :=
  wp_appendR4 hgd s x ho base v vs xss hs hown y ys hy hyl hyo hx hl hb fun v' w' h1 h2 _ => h v' w' h1 h2
theorem below_appendR {B : Nat} {a W w' : World} {base : Nat} {v : Value} {vs : List Value} {xss : List (List Int)} {o : Obj} (h : Below B a W) (hB : B ≤ W.heap.size) (hown : OwnsR W base v vs xss) (hbase : B ≤ base) (hg : (W.alloc o).grownBy w' v.ownBlock) : Below B a w' :=
  (h.alloc hB o).grown hg (by simp; omega) fun k e => by have := (World.ownsRow.lt hown.row k e).1; omega
/-- A new row is not in a row's block that was there before. -/
theorem new_row {w w1 : World} {base : Nat} {v y : Value} {vs : List Value} {xss : List (List Int)} {ys : List Int} (h : OwnsR w base v vs xss) (hy : Owns w1 w.heap.size y ys) : y.ownBlock = none ∨ y.ownBlock ≠ v.ownBlock := by
  cases e : y.ownBlock with
  | none => exact .inl rfl
  | some k =>
    right
    intro e2
    have h1 := (World.ownsRow.lt hy k e).1
    have h2 := (World.ownsRow.lt h.row k e2.symm).2
    omega
end Go.Proofs.Ytkjjpleedobkdaa

namespace Go.Proofs.Ytkjjpleedobkdaa
open Go.RowKit

def OwnR (xss : List (List Int)) (w : World) (e : Ending) (w' : World) : Prop := ∃ v vs, e = .returned v ∧ OwnsR w' w.heap.size v vs xss ∧ Below w.heap.size w w'
set_option maxRecDepth 100000 in
set_option maxHeartbeats 2000000 in
theorem sLess (A B : Option Addr) (na ca nb cb : Nat) (a b : List Int) (w : World) (ha : Row w A na ca a) (hb : Row w B nb cb b) :
    Calls Try.prog 91 #[.slice A na ca, .slice B nb cb] w fun e w' => e = .returned (.bool (lessB a b)) ∧ ∃ n, w' = w.drewN n := by
  have HA := Lib.hid ha
  have HB := Lib.hid hb
  obtain rfl := ha.hn
  obtain rfl := hb.hn
  have hla := ha.hl
  have hlb := hb.hl
  have HAT : Hid (∀ (k : Nat) (x y : Int), a.take k = b.take k → Hid (a[k]? = some x) → Hid (b[k]? = some y) → x ≠ y → lessB a b = decide (x < y)) := fun k x y h hx hy hne => less_at h hx.out hy.out hne
  have HEND : Hid (∀ k, a.take k = b.take k → k = a.length ∨ k = b.length → k ≤ a.length → k ≤ b.length → lessB a b = decide (a.length < b.length)) := fun k h h2 h3 h4 => less_end h h2 h3 h4
  obtain ⟨res, HRES⟩ : ∃ r, Hid (lessB a b = r) := ⟨_, rfl⟩
  rw [HRES.out] at HAT HEND ⊢
  clear ha hb
  go_enter Try.func91, Try.ntmps91
  go_wp2_with fail
  go_loopw [5] (fun i wr => ∃ k : Nat, k ≤ a.length ∧ k ≤ b.length ∧ i = .int .i64 k ∧ Hid (a.take k = b.take k) ∧ ∃ q, wr = w.drewN q) (fun i _ => a.length - (Go.RowKit.intOf i).toNat)
  case atStart => exact ⟨0, Nat.zero_le _, Nat.zero_le _, rfl, rfl, 0, rfl⟩
  case round =>
    obtain ⟨k, hka, hkb, rfl, he, q, rfl⟩ := hrel
    by_cases h1 : k < a.length
    · by_cases h2 : k < b.length
      · obtain ⟨b1, o1, x, rfl, hc1, hx, _⟩ := HA.out.hA.elem h1
        obtain ⟨b2, o2, y, rfl, hc2, hy, _⟩ := HB.out.hA.elem h2
        have hd1 : decide ((k : Int) < (a.length : Int)) = true := decide_eq_true (by omega)
        have hd2 : decide ((k : Int) < (b.length : Int)) = true := decide_eq_true (by omega)
        by_cases hne : x = y
        · have HN : Hid (a.take (k + 1) = b.take (k + 1)) := by unfold Hid; rw [take_snoc hx, take_snoc hy, he.out, hne]
          have hd : (x != y) = false := by rw [hne]; simp
          clear hne
          go_wp2_with fail
          go_quiet (fail)
          go_wp2_with fail
          go_roundw
          case rel => exact ⟨k + 1, by omega, by omega, by go_num, HN, _, rfl⟩
          case measure => simp [Go.RowKit.intOf]; omega
        · have HN := Lib.hid (HAT.out k x y he.out hx hy hne)
          have hd : (x != y) = true := by simpa using hne
          clear hne
          go_wp2_with fail
          go_quiet (fail)
          go_wp2_with fail
          go_quiet (fail)
          go_wp2_with fail
          go_ret
          exact ⟨ret_bool HN.out.symm, _, by rw [World.drewN_drewN, World.drewN_drewN]⟩
      · obtain rfl : k = b.length := by omega
        have HN := Lib.hid (HEND.out _ he.out (.inr rfl) hka (Nat.le_refl _))
        have hd1 : decide ((b.length : Int) < (a.length : Int)) = true := decide_eq_true (by omega)
        go_wp2_with fail
        go_ret
        exact ⟨ret_bool HN.out.symm, _, rfl⟩
    · obtain rfl : k = a.length := by omega
      have HN := Lib.hid (HEND.out _ he.out (.inl rfl) (Nat.le_refl _) hkb)
      go_wp2_with fail
      go_ret
      exact ⟨ret_bool HN.out.symm, _, rfl⟩
theorem sLess_is {a b : List Int} {r : Bool} (h : Hid (lessB a b = r)) {A B : Option Addr} {na ca nb cb : Nat} {w : World} (ha : Row w A na ca a) (hb : Row w B nb cb b) :
    Calls Try.prog 91 #[.slice A na ca, .slice B nb cb] w fun e w' => e = .returned (.bool r) ∧ ∃ n, w' = w.drewN n := by
  have := sLess A B na ca nb cb a b w ha hb
  rw [h.out] at this; exact this

/-- All rows of one slice behind those of another one. -/
theorem wp_appendRR {W : World} {ops : Array Oper} {rest : List Oper} {o : Oper} {a : Act} {Q : Exit → Act → World → Prop} (hgd : o.guard = none) (s x : Operand)
    (ho : o.op = .call { callee := .builtin .append, args := #[s, x], argTypes := #[31, 31] }) (base : Nat) (v : Value) (vs : List Value) (xss : List (List Int)) (hs : a.eval s = v) (hown : OwnsR W base v vs xss)
    (y : Value) (us : List Value) (yss : List (List Int)) (hy : OwnsR W base y us yss) (hyo : ∀ u ∈ us, u.ownBlock = none ∨ u.ownBlock ≠ v.ownBlock) (hpos : 1 ≤ yss.length) (hx : a.eval x = y) (hl : xss.length + yss.length ≤ 1048576) (hb : base ≤ W.heap.size)
    (h : ∀ v' w', OwnsR w' base v' (vs ++ us) (xss ++ yss) → W.grownBy w' v.ownBlock → wpList Try.prog ops Q rest (a.put o.dst v') w') :
    wpList Try.prog ops Q (o :: rest) a W := by
  obtain ⟨i0, hi0, hz0, hz1, hz2⟩ := info_parts rowrow_info
  have hlen := hown.len
  have hlen2 := hy.len
  rcases hy.row.2 with ⟨rfl, hl0⟩ | ⟨g, cap, cur, rfl, hbg, hg, hnc, hm, hcs, ht⟩
  · omega
  rw [Nat.mul_one] at ht
  refine wpList_append_own_at _ hgd s x 31 ho base 23 i0 (.slice none 0 0) 1 24 Try.underlying31 hi0 hz0 hz1 hz2 rfl (by decide) v vs.length vs hs hown.row
    ⟨g, 0, none⟩ us.length cap us hx (by simp) (fun j u hj => ?_) (fun u hu => ?_) (by simp only [maxLen]; omega) (by omega) hb ?_
  · have hjl : j < us.length := (List.getElem?_eq_some_iff.1 hj).1
    have e : cur[j]? = some u := by
      have h4 : (cur.toList.take us.length)[j]? = us[j]? := by rw [ht]
      rw [List.getElem?_take_of_lt hjl, hj] at h4
      simpa using h4
    have e2 : (⟨g, 0, none⟩ : Addr).add j = ⟨g, 0 + j, none⟩ := by unfold Addr.add; split <;> simp_all
    rw [e2]
    simp [World.cell?, hg, e]
  · obtain ⟨i, hi, rfl⟩ := List.mem_iff_getElem.1 hu
    obtain ⟨v, h1, h2, _⟩ := hy.sees.2 i yss[i] (List.getElem?_eq_getElem (by omega))
    obtain ⟨Ai, ci, rfl, _, _, _, _⟩ := h2.form
    rw [List.getElem?_eq_getElem hi] at h1
    rw [Option.some.inj h1]; rfl
  · intro v' w' h1 h2 _ h4
    have hal : ∀ {u : Value} {t : List Int}, Owns W base u t → (u.ownBlock = none ∨ u.ownBlock ≠ v.ownBlock) → Owns w' base u t ∧ (u.ownBlock = none ∨ u.ownBlock ≠ v'.ownBlock) := fun {u t} hu hne => by
      refine ⟨hu.kept h2 hne, ?_⟩
      rcases hne with hn | hn
      · exact .inl hn
      · rcases h4 with h4 | h4
        · rw [h4]; exact .inr hn
        · right
          intro e
          rw [h4] at e
          have := (World.ownsRow.lt hu _ e).2
          omega
    refine h v' w' ⟨by simpa using h1, by simp [hlen, hlen2], fun i xs hi => ?_⟩ h2
    by_cases hil : i < xss.length
    · rw [List.getElem?_append_left hil] at hi
      obtain ⟨u, g1, g2, g3, g4⟩ := hown.sees.2 i xs hi
      obtain ⟨g5, g6⟩ := hal g2 g4
      exact ⟨u, by rw [List.getElem?_append_left (by omega)]; exact g1, g5, g3, g6⟩
    · rw [List.getElem?_append_right (by omega)] at hi
      obtain ⟨u, g1, g2, g3, _⟩ := hy.sees.2 _ xs hi
      obtain ⟨g5, g6⟩ := hal g2 (hyo u (List.mem_of_getElem? g1))
      exact ⟨u, by rw [List.getElem?_append_right (by omega), hlen]; exact g1, g5, g3, g6⟩
theorem below_appendRR {B : Nat} {a W w' : World} {base : Nat} {v : Value} {vs : List Value} {xss : List (List Int)} (h : Below B a W) (hB : B ≤ W.heap.size) (hown : OwnsR W base v vs xss) (hbase : B ≤ base) (hg : W.grownBy w' v.ownBlock) : Below B a w' :=
  h.grown hg hB fun k e => by have := (World.ownsRow.lt hown.row k e).1; omega
/-- A lone row, in a slice of its own. -/
theorem OwnsR.one {W : World} {base : Nat} {v : Value} {xs : List Int} (h : Owns W base v xs) (hb : base ≤ W.heap.size) (hl : xs.length ≤ 300) : OwnsR (W.alloc (.cells #[v] 23)) base (.slice (some ⟨W.heap.size, 0, none⟩) 1 1) [v] [xs] := by
  refine ⟨World.ownsRow_lit (base := base) (e := 23) (size := 1) W #[v] 1 hb (by simp [maxLen]) (by simp), rfl, fun i ys hi => ?_⟩
  have hi0 : i = 0 := by
    rcases Nat.eq_zero_or_pos i with h | h
    · exact h
    · rw [List.getElem?_eq_none (by simp only [List.length_cons, List.length_nil]; omega)] at hi; cases hi
  subst hi0
  cases hi
  refine ⟨v, rfl, h.below ((Below.refl _ _).alloc (Nat.le_refl _) _), hl, ?_⟩
  cases e : v.ownBlock with
  | none => exact .inl rfl
  | some k =>
    right
    have := (World.ownsRow.lt h k e).2
    show some k ≠ some W.heap.size
    simp; omega
end Go.Proofs.Ytkjjpleedobkdaa

namespace Go.Proofs.Ytkjjpleedobkdaa
open Go.RowKit

/-- append of all numbers of a slice that is not nil, none perhaps. -/
theorem wp_appendS {W : World} {ops : Array Oper} {rest : List Oper} {o : Oper} {a : Act} {Q : Exit → Act → World → Prop} (hgd : o.guard = none) (s x : Operand)
    (ho : o.op = .call { callee := .builtin .append, args := #[s, x], argTypes := #[23, 23] }) (base : Nat) (v : Value) (xs : List Int) (hs : a.eval s = v) (hown : Owns W base v xs)
    (ys : List Int) (ad : Option Addr) (m c : Nat) (hx : a.eval x = .slice ad m c) (hm : m = ys.length) (had : ad ≠ none) (hn : Nums .i64 W ad ys) (hl : xs.length + m ≤ 1048576) (hb : base ≤ W.heap.size)
    (h : ∀ v' w', Owns w' base v' (xs ++ ys) → W.grownBy w' v.ownBlock → wpList Try.prog ops Q rest (a.put o.dst v') w') :
    wpList Try.prog ops Q (o :: rest) a W := by
  by_cases hp : 1 ≤ m
  · exact wp_appendL hgd s x ho base v xs hs hown ys ad m c hx hm hp hn hl hb h
  · have hm0 : m = 0 := by omega
    have hy : ys = [] := List.eq_nil_of_length_eq_zero (by omega)
    subst hm0 hy
    obtain ⟨ad, rfl⟩ := Option.ne_none_iff_exists'.1 had
    obtain ⟨i0, hi0, hz0, hz1, hz2⟩ := info_parts int_info
    refine wpList_append_own _ hgd s x 23 ho base 3 i0 (.int .i64 0) 1 8 Try.underlying23 hi0 hz0 hz1 hz2 rfl (by decide) v xs.length (xs.map (Value.int .i64)) hs hown
      ad 0 c [] hx rfl (fun j u hj => by simp at hj) (fun u hu => by cases hu) (by simp only [maxLen]; omega) (by omega) hb ?_
    intro v' w' h1 h2 _
    refine h v' w' ?_ h2
    unfold Owns
    simpa using h1
theorem OwnsR.far {w : World} {base : Nat} {v : Value} {us : List Value} {yss : List (List Int)} (h : OwnsR w base v us yss) {o : Option Nat} (ho : ∀ k, o = some k → k < base) : ∀ u ∈ us, u.ownBlock = none ∨ u.ownBlock ≠ o := by
  intro u hu
  obtain ⟨i, hi, rfl⟩ := List.mem_iff_getElem.1 hu
  have hil : i < yss.length := by have := h.len; omega
  obtain ⟨v, h1, h2, _⟩ := h.sees.2 i yss[i] (List.getElem?_eq_getElem hil)
  rw [List.getElem?_eq_getElem hi] at h1
  rw [Option.some.inj h1]
  cases e : v.ownBlock with
  | none => exact .inl rfl
  | some k =>
    right
    intro e2
    have := (World.ownsRow.lt h2 k e).1
    have := ho k e2.symm
    omega
theorem own_some {w : World} {base n c : Nat} {A : Option Addr} {xs : List Int} (h : Owns w base (.slice A n c) xs) (hp : 0 < xs.length) : A ≠ none := by
  rcases h.2 with ⟨hv, hl⟩ | ⟨g, cap, cur, hv, _⟩
  · omega
  · simp only [Value.slice.injEq] at hv
    rw [hv.1]; simp

def AllHere (S k : Nat) : Prop := ∀ (A : Option Addr) (n c : Nat) (hv : List Int) (w : World), k ≤ S → hv.length + k ≤ S → (∀ x ∈ hv, 0 ≤ x ∧ x < 256) → A ≠ none → Row w A n c hv →
    Calls Try.prog 90 #[.int .i64 S, .int .i64 ((S - k : Nat) : Int), .slice A n c] w (OwnR (issuesM S k hv) w)
set_option maxRecDepth 100000 in
set_option maxHeartbeats 8000000 in
theorem sIssuesZero (S : Nat) (hS : S ≤ 16) : AllHere S 0 := by
  intro A n c hv w _ hlen hr hA0 ha
  have HA := Lib.hid ha
  obtain rfl := ha.hn
  have hlA := ha.hl
  clear ha hr
  rw [Nat.sub_zero]
  by_cases h0 : hv.length = 0
  · have hv0 : hv = [] := List.eq_nil_of_length_eq_zero h0
    subst hv0
    have HF : Hid (issuesM S 0 [] = []) := rfl
    rw [HF.out]
    clear hA0 h0
    go_enter Try.func90, Try.ntmps90
    go_wp2_with fail
    go_ret
    exact ⟨_, _, rfl, OwnsR.lit _ _ (Nat.le_refl _), (Below.refl _ _).alloc (Nat.le_refl _) _⟩
  · have hne : hv ≠ [] := fun e => h0 (by rw [e]; rfl)
    have HF : Hid (issuesM S 0 hv = [hv]) := by unfold Hid issuesM; rw [if_neg hne]
    rw [HF.out]
    have hd : ((hv.length : Int) == 0) = false := by rw [beq_eq_false_iff_ne]; omega
    have HB0 : Hid (Below w.heap.size w (w.alloc (.cells #[] 3))) := (Below.refl _ _).alloc (Nat.le_refl _) _
    have HO0 : Hid (Owns (w.alloc (.cells #[] 3)) w.heap.size (.slice (some ⟨w.heap.size, 0, none⟩) 0 0) []) := Owns.lit w w.heap.size [] (Nat.le_refl _) (by simp [maxLen])
    have hs0 : w.heap.size ≤ (w.alloc (.cells #[] 3)).heap.size := HB0.out.size
    clear h0 hne
    go_enter Try.func90, Try.ntmps90
    go_wp2_with (at_builtin; refine wp_appendS rfl _ _ rfl w.heap.size (.slice (some ⟨w.heap.size, 0, none⟩) 0 0) [] rfl HO0.out hv A hv.length c rfl rfl hA0 (HA.out.hA.below HB0.out) (by simp; omega) hs0 ?_; intro v2 w2 hown2 hgrow2; rw [List.nil_append] at hown2; have HO2 := Lib.hid hown2; have HB2 := Lib.hid (below_appendL HB0.out hs0 HO0.out (Nat.le_refl _) hgrow2); obtain ⟨A2, c2, rfl, _, _, _, _⟩ := hown2.form; clear hown2 hgrow2)
    go_ret
    exact ⟨_, _, rfl, OwnsR.one HO2.out HB2.out.size (by omega), HB2.out.alloc HB2.out.size _⟩
end Go.Proofs.Ytkjjpleedobkdaa

namespace Go.Proofs.Ytkjjpleedobkdaa
open Go.RowKit

set_option maxRecDepth 100000 in
set_option maxHeartbeats 8000000 in
theorem sIssuesSucc (S : Nat) (hS : S ≤ 16) (k : Nat) (ih : AllHere S k) : AllHere S (k + 1) := by
  intro A n c hv w hkS hlen hr hA0 ha
  have HA := Lib.hid ha
  obtain rfl := ha.hn
  have hlA := ha.hl
  have HR := Lib.hid hr
  obtain ⟨f, HFV⟩ : ∃ f, Hid (S - (k + 1) = f) := ⟨_, rfl⟩
  have hf : f + (k + 1) = S := by have := HFV.out; omega
  have HIH : Hid (∀ (A : Option Addr) (n c : Nat) (hv : List Int) (w : World), hv.length + k ≤ S → (∀ x ∈ hv, 0 ≤ x ∧ x < 256) → A ≠ none → Row w A n c hv → Calls Try.prog 90 #[.int .i64 S, .int .i64 ((f : Int) + 1), .slice A n c] w (OwnR (issuesM S k hv) w)) := fun A n c hv w h1 h2 h3 h4 => by
    have := ih A n c hv w (by omega) h1 h2 h3 h4
    rw [show ((S - k : Nat) : Int) = (f : Int) + 1 by omega] at this
    exact this
  have HNO : Hid (freeB hv (f : Int) = false → issuesM S (k + 1) hv = issuesM S k hv) := fun h => by
    show issuesM S k hv ++ (if freeB hv ((S - (k + 1) : Nat) : Int) = true then _ else _) = _
    rw [HFV.out, h]; simp
  have HYES : Hid (freeB hv (f : Int) = true → issuesM S (k + 1) hv = issuesM S k hv ++ issuesM S k (hv ++ [(f : Int)])) := fun h => by
    show issuesM S k hv ++ (if freeB hv ((S - (k + 1) : Nat) : Int) = true then _ else _) = _
    rw [HFV.out, h]; rfl
  have h1len := issuesM_len S k hv
  have h2len := issuesM_len S k (hv ++ [(f : Int)])
  have h2pos := issuesM_some S k (hv ++ [(f : Int)]) (by simp)
  have hp2 : 2 ^ k ≤ 2 ^ 15 := Nat.pow_le_pow_right (by omega) (by omega)
  have hr2 : ∀ x ∈ hv ++ [(f : Int)], 0 ≤ x ∧ x < 256 := fun x hx => by
    rw [List.mem_append, List.mem_singleton] at hx
    rcases hx with h | rfl
    · exact hr x h
    · omega
  have HR2 := Lib.hid hr2
  obtain ⟨res, HRES⟩ : ∃ r, Hid (issuesM S (k + 1) hv = r) := ⟨_, rfl⟩
  obtain ⟨l1, HL1⟩ : ∃ r, Hid (issuesM S k hv = r) := ⟨_, rfl⟩
  obtain ⟨l2, HL2⟩ : ∃ r, Hid (issuesM S k (hv ++ [(f : Int)]) = r) := ⟨_, rfl⟩
  rw [HFV.out, HRES.out]
  rw [HRES.out, HL1.out] at HNO
  rw [HRES.out, HL1.out, HL2.out] at HYES
  rw [HL1.out] at h1len
  rw [HL2.out] at h2len h2pos
  have HC1 := Lib.hid (HIH.out A hv.length c hv w (by omega) hr hA0 ha)
  rw [HL1.out] at HC1
  have HC2 := Lib.hid (fun A n c W h3 h4 => HIH.out A n c (hv ++ [(f : Int)]) W (by rw [List.length_append, List.length_cons, List.length_nil]; omega) hr2 h3 h4)
  rw [HL2.out] at HC2
  have hlen16 : hv.length ≤ 16 := by omega
  have hll1 : l1.length ≤ 32768 := by omega
  have hll2 : l2.length ≤ 32768 := by omega
  have hf16 : f < 16 := by omega
  have hd : ((f : Int) == (S : Int)) = false := by rw [beq_eq_false_iff_ne]; omega
  clear ih ha hr hr2 HIH h1len h2len hp2 hkS hlen hf
  go_enter Try.func90, Try.ntmps90
  go_wp2_with fail
  refine HC1.out.mono ?_
  rintro e w5 ⟨v5, vs5, rfl, ho5, hb5⟩
  obtain ⟨A5, c5, rfl, _, _, ha5⟩ := ho5.form
  have HO5 := Lib.hid ho5
  have HB5 := Lib.hid hb5
  have HA5 : Hid (∀ ad, A5 = some ad → ad.block < w5.heap.size) := fun ad h => (ha5 ad h).2
  have hsz5 : w.heap.size ≤ w5.heap.size := hb5.size
  clear ho5 hb5 ha5
  go_wp2_with fail
  clear hd
  go_loopw [8] (fun i wr => ∃ j : Nat, j ≤ hv.length ∧ i = .int .i64 j ∧ Hid (freeB (hv.take j) (f : Int) = true) ∧ ∃ q, wr = w5.drewN q) (fun i _ => hv.length - (Go.RowKit.intOf i).toNat)
  case atStart => exact ⟨0, Nat.zero_le _, rfl, rfl, 0, rfl⟩
  case round =>
    obtain ⟨j, hj, rfl, hfree, q, rfl⟩ := hrel
    by_cases hjt : j < hv.length
    · obtain ⟨b, off, x, rfl, hcell, hx, _⟩ := (HA.out.hA.below HB5.out).elem hjt
      obtain ⟨hx0, hx1⟩ := HR.out x (elem_mem hx)
      have hsn := free_snoc (f := (f : Int)) hx
      have HMS : Hid ((withinB x (f : Int) || withinB (f : Int) x) = true → freeB hv (f : Int) = false) := fun h => free_miss hx h
      obtain ⟨y1, H1⟩ : ∃ y, Hid (withinB x (f : Int) = y) := ⟨_, rfl⟩
      obtain ⟨y2, H2⟩ : ∃ y, Hid (withinB (f : Int) x = y) := ⟨_, rfl⟩
      rw [H1.out, H2.out, hfree.out] at hsn
      rw [H1.out, H2.out] at HMS
      cases y1
      · cases y2
        · have HN := Lib.hid hsn
          clear hsn
          go_wp2_with fail
          refine (sWithin_is H1 hx0 hx1 (by omega) (by omega) _).mono ?_
          rintro e w' ⟨rfl, q2, rfl⟩
          go_wp2_with fail
          refine (sWithin_is H2 (by omega) (by omega) hx0 hx1 _).mono ?_
          rintro e w' ⟨rfl, q3, rfl⟩
          go_wp2_with fail
          go_roundw
          case rel => exact ⟨j + 1, by omega, by go_num, HN, _, by first | rfl | rw [World.drewN_drewN] | rw [World.drewN_drewN, World.drewN_drewN]⟩
          case measure => simp [Go.RowKit.intOf]; omega
        · have HN := Lib.hid (HNO.out (HMS.out rfl))
          rw [HN.out]
          clear hsn
          go_wp2_with fail
          refine (sWithin_is H1 hx0 hx1 (by omega) (by omega) _).mono ?_
          rintro e w' ⟨rfl, q2, rfl⟩
          go_wp2_with fail
          refine (sWithin_is H2 (by omega) (by omega) hx0 hx1 _).mono ?_
          rintro e w' ⟨rfl, q3, rfl⟩
          go_wp2_with fail
          go_ret
          exact ⟨_, vs5, rfl, HO5.out.drewN _, bel_drewN HB5.out _⟩
      · have HN := Lib.hid (HNO.out (HMS.out rfl))
        rw [HN.out]
        clear hsn
        go_wp2_with fail
        refine (sWithin_is H1 hx0 hx1 (by omega) (by omega) _).mono ?_
        rintro e w' ⟨rfl, q2, rfl⟩
        go_wp2_with fail
        go_ret
        exact ⟨_, vs5, rfl, HO5.out.drewN _, bel_drewN HB5.out _⟩
    · obtain rfl : j = hv.length := by omega
      have hfr := hfree.out
      rw [List.take_length] at hfr
      have HN := Lib.hid (HYES.out hfr)
      rw [HN.out]
      clear hfr
      obtain ⟨W, HW⟩ : ∃ W, W = w5.drewN q := ⟨_, rfl⟩
      have hszW : w5.heap.size = W.heap.size := by rw [HW]; rfl
      have HOW : Hid (OwnsR W w.heap.size (.slice A5 l1.length c5) vs5 l1) := by unfold Hid; rw [HW]; exact HO5.out.drewN _
      have HBW : Hid (Below w.heap.size w W) := by unfold Hid; rw [HW]; exact bel_drewN HB5.out _
      have HNW : Hid (Nums .i64 W A hv) := by unfold Hid; rw [HW]; exact (HA.out.hA.below HB5.out).drewN _
      rw [← HW]
      rw [hszW] at HA5 hsz5
      have HSW := Lib.hid hszW
      clear HW hszW
      have HB0 : Hid (Below W.heap.size W (W.alloc (.cells #[] 3))) := (Below.refl _ _).alloc (Nat.le_refl _) _
      have HO0 : Hid (Owns (W.alloc (.cells #[] 3)) W.heap.size (.slice (some ⟨W.heap.size, 0, none⟩) 0 0) []) := Owns.lit W W.heap.size [] (Nat.le_refl _) (by simp [maxLen])
      have hs0 : W.heap.size ≤ (W.alloc (.cells #[] 3)).heap.size := HB0.out.size
      go_wp2_with (at_builtin; first
        | (refine wp_appendS rfl _ _ rfl W.heap.size (.slice (some ⟨W.heap.size, 0, none⟩) 0 0) [] rfl HO0.out hv A hv.length c rfl rfl hA0 (HNW.out.below HB0.out) (by simp; omega) hs0 ?_; intro v2 w2 hown2 hgrow2; rw [List.nil_append] at hown2; have HO2 := Lib.hid hown2; have HB2 := Lib.hid (below_appendL HB0.out hs0 HO0.out (Nat.le_refl _) hgrow2); have hs2 : W.heap.size ≤ w2.heap.size := HB2.out.size; clear hown2 hgrow2 HO0 HB0)
        | (refine wp_append1 (W := w2) rfl _ _ rfl W.heap.size v2 hv rfl HO2.out (f : Int) rfl (by omega) (by exact hs2) ?_; intro v3 w3 hown3 hgrow3; have HO3 := Lib.hid hown3; have HB3 := Lib.hid (below_append HB2.out hs2 HO2.out (Nat.le_refl _) hgrow3); obtain ⟨A3, c3, rfl, _, _, _, _⟩ := hown3.form; clear hown3 hgrow3))
      have HR3 := Lib.hid (Owns.row HO3.out (by rw [List.length_append, List.length_cons, List.length_nil]; omega))
      rw [List.length_append, List.length_cons, List.length_nil] at HR3
      have hA3 := own_some HO3.out (by simp)
      have hsz3 : W.heap.size ≤ w3.heap.size := HB3.out.size
      refine (HC2.out _ _ _ _ hA3 HR3.out).mono ?_
      rintro e w6 ⟨v6, vs6, rfl, ho6, hb6⟩
      obtain ⟨A6, c6, rfl, _, _, _⟩ := ho6.form
      have HB6 := Lib.hid (bel_trans HB3.out hb6)
      have HO56 := Lib.hid (HOW.out.below HB6.out)
      have HFAR := Lib.hid (ho6.far (o := (Value.slice A5 l1.length c5).ownBlock) (fun k hk => by have := (World.ownsRow.lt HOW.out.row k hk).2; omega))
      have HO6 := Lib.hid (ho6.base (show w.heap.size ≤ w3.heap.size by omega))
      have hsz6 : w.heap.size ≤ w6.heap.size := by have := HB6.out.size; omega
      clear ho6 hb6
      go_wp2_with (at_builtin; refine wp_appendRR rfl _ _ rfl w.heap.size (.slice A5 l1.length c5) vs5 l1 rfl HO56.out (.slice A6 l2.length c6) vs6 l2 HO6.out HFAR.out h2pos rfl (by omega) (by exact hsz6) ?_; intro v7 w7 hown7 hgrow7)
      have hb' := below_appendRR (HBW.out.trans (HB6.out.mono hsz5)) hsz6 HO56.out (Nat.le_refl _) hgrow7
      go_ret
      exact ⟨_, _, rfl, by rw [HN.out]; exact hown7, hb'⟩
theorem sIssuesAll (S : Nat) (hS : S ≤ 16) : ∀ k, AllHere S k
  | 0 => sIssuesZero S hS
  | k + 1 => sIssuesSucc S hS k (sIssuesAll S hS k)
end Go.Proofs.Ytkjjpleedobkdaa
