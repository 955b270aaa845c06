/-
  What the proofs of this seat's statements share (AppQ, TlkH, TkrA).
-/
import Derived.Test.YtmdogidflaplkaaGreatU27

namespace Go.Proofs.YtmdogidflaplkaaGreat
open Go.RowKit

theorem spot_app {W : World} {base : Nat} {v : Value} {xs : List ByteArray} (ty : TypeId) (y : ByteArray) (hown : OwnsS W base v xs) (hl : xs.length ≤ 1048576) (hb : base ≤ W.heap.size) :
    ∃ v' w', (Builtin.append_ #[23, 23] ty #[v, .slice (some ⟨W.heap.size, 0, none⟩) 1 1]).run Tryz.prog (W.alloc (.cells #[.string y] 9)) = .ok v' w' ∧ OwnsS w' base v' (xs ++ [y]) ∧ (W.alloc (.cells #[.string y] 9)).grownBy w' v.ownBlock ∧
      ∀ b o u, v.ownBlock = some b → (W.alloc (.cells #[.string y] 9)).cell? ⟨b, o, none⟩ = some u → w'.cell? ⟨b, o, none⟩ = some u ∨ w'.cell? ⟨b, o, none⟩ = some (.string y) := by
  have hown1 : OwnsS (W.alloc (.cells #[.string y] 9)) base v xs := hown.below ((Below.refl _ _).alloc (Nat.le_refl _) _)
  obtain ⟨v', w', hr, h1, h2⟩ := run_appS (ys := [y]) (m := 1) ty hown1 rfl (Nat.le_refl 1) (strs_one W y) (by omega) (by rw [World.size_alloc]; omega)
  refine ⟨v', w', hr, h1, h2, fun b o u hv hc => ?_⟩
  obtain ⟨i0, hi0, hz0, hz1, hz2⟩ := info_parts str_info
  have hnews : ∀ j u, [Value.string y][j]? = some u → (W.alloc (.cells #[.string y] 9)).cell? ((⟨W.heap.size, 0, none⟩ : Addr).add j) = some u := cell_one_new _ _ _
  rcases hown1.2 with ⟨rfl, _⟩ | ⟨g, cap, cur, rfl, hbg, hg, hnc, hcm, hcs, htake⟩
  · cases hv
  · obtain rfl : g = b := by simpa [Value.ownBlock] using hv
    have hcu : cur[o]? = some u := by rw [← cell_of_row _ g o cur _ (0, 0) hg]; exact hc
    by_cases hroom : xs.length + 1 ≤ cap
    · have hr2 := run_append_room (P := Tryz.prog) (W.alloc (.cells #[.string y] 9)) 23 ty 9 i0 Tryz.underlying23 hi0 g xs.length cap cur hg ⟨W.heap.size, 0, none⟩ 1 1 [.string y] (by rw [hz1]; rfl) hnews (fun u hu => by rw [List.mem_singleton] at hu; rw [hu]; rfl) hroom (by rw [hz1, hcs]; simp; omega)
      rw [hr] at hr2
      injection hr2 with e1 e2
      rw [hz1, Nat.mul_one] at e2
      have hh := setRow_heap (W.alloc (.cells #[.string y] 9)) g cur (cur.toList.take xs.length ++ [Value.string y] ++ cur.toList.drop (xs.length + [Value.string y].length)).toArray 9 (0, 0) hg
      rw [← e2] at hh
      rw [cell_of_row w' g o _ _ (0, 0) hh, List.getElem?_toArray, List.append_assoc]
      have hsz : xs.length < cur.size := by rw [hcs]; omega
      have hcl : cur.toList.length = cur.size := Array.length_toList
      have htl : (cur.toList.take xs.length).length = xs.length := by rw [List.length_take, hcl]; omega
      by_cases h3 : o < xs.length
      · left
        rw [List.getElem?_append_left (by omega), List.getElem?_take_of_lt h3, Array.getElem?_toList]
        exact hcu
      · rw [List.getElem?_append_right (by omega), htl]
        by_cases h4 : o = xs.length
        · right
          rw [h4, Nat.sub_self]; rfl
        · left
          have e : xs.length + [Value.string y].length + (o - xs.length - [Value.string y].length) = o := by simp only [List.length_singleton]; omega
          rw [List.getElem?_append_right (by simp only [List.length_singleton]; omega), List.getElem?_drop, Array.getElem?_toList, e]
          exact hcu
    · have holds : ∀ j u, (xs.map Value.string)[j]? = some u → (W.alloc (.cells #[.string y] 9)).cell? ((⟨g, 0, none⟩ : Addr).add j) = some u := World.ownsRow.cells hown1 (g := g) rfl
      have hr2 := run_append_grow (P := Tryz.prog) (W.alloc (.cells #[.string y] 9)) 23 ty 9 i0 _ Tryz.underlying23 hi0 hz0 ⟨g, 0, none⟩ xs.length cap (xs.map Value.string) (by rw [hz1]; simp) holds ⟨W.heap.size, 0, none⟩ 1 1 [.string y] (by rw [hz1]; rfl) hnews (by omega) (by omega) (growslice_fits (by omega) (by rw [hz2]; omega))
      rw [hr] at hr2
      injection hr2 with e1 e2
      left
      have hlt : g < (W.alloc (.cells #[.string y] 9)).heap.size := (Array.getElem?_eq_some_iff.1 hg).1
      rw [e2, World.cell?_of_block (w := (W.alloc (.cells #[.string y] 9)))]
      · exact hc
      · exact Below.heap_alloc (W.alloc (.cells #[.string y] 9)).drew _ g hlt
theorem wpL_appQ {W : World} {ops : Array Oper} {rest : List Oper} {o : Oper} {a : Act} {Q : Exit → Act → World → Prop} (hgd : o.guard = none) (s x : Operand)
    (ho : o.op = .call { callee := .builtin .append, args := #[s, x], argTypes := #[23, 23] }) (base : Nat) (v : Value) (xs : List ByteArray) (y : ByteArray) (hs : a.eval s = v) (hown : OwnsS W base v xs)
    (hx : a.eval x = .slice (some ⟨W.heap.size, 0, none⟩) 1 1) (hl : xs.length ≤ 1048576) (hb : base ≤ W.heap.size)
    (h : ∀ v' w', OwnsS w' base v' (xs ++ [y]) → (W.alloc (.cells #[.string y] 9)).grownBy w' v.ownBlock → (∀ b o u, v.ownBlock = some b → (W.alloc (.cells #[.string y] 9)).cell? ⟨b, o, none⟩ = some u → w'.cell? ⟨b, o, none⟩ = some u ∨ w'.cell? ⟨b, o, none⟩ = some (.string y)) →
      wpList Tryz.prog ops Q rest (a.put o.dst v') w') : wpList Tryz.prog ops Q (o :: rest) a (W.alloc (.cells #[.string y] 9)) := by
  obtain ⟨v', w', hr, h1, h2, h3⟩ := spot_app o.type y hown hl hb
  exact Lib.wpList_append_run _ hgd s x _ _ ho _ _ hs hx v' w' hr (h v' w' h1 h2 h3)

/-- The texts of a slice of which y may lie in some cells of block g. -/
noncomputable def rereadS (w : World) (y : ByteArray) (g : Nat) (A : Option Addr) (xs : List ByteArray) : List ByteArray :=
  xs.mapIdx fun j s => match A with
    | some a => @ite _ (a.block = g ∧ w.cell? ⟨g, a.off + j, none⟩ = some (.string y)) (Classical.propDecidable _) y s
    | none => s
theorem reread_len (w : World) (y : ByteArray) (g : Nat) (A : Option Addr) (xs : List ByteArray) : (rereadS w y g A xs).length = xs.length := by unfold rereadS; rw [List.length_mapIdx]
theorem reread_mem {w : World} {y : ByteArray} {g : Nat} {A : Option Addr} {xs : List ByteArray} {s : ByteArray} (h : s ∈ rereadS w y g A xs) : s = y ∨ s ∈ xs := by
  unfold rereadS at h
  obtain ⟨j, hj⟩ := List.mem_iff_getElem?.1 h
  rw [List.getElem?_mapIdx] at hj
  obtain ⟨x, hx, e⟩ := Option.map_eq_some_iff.1 hj
  have hm := List.mem_of_getElem? hx
  cases A with
  | none => right; simp only at e; rw [← e]; exact hm
  | some a =>
    simp only at e
    split at e
    · exact .inl e.symm
    · right; rw [← e]; exact hm
/-- The slice of a state of before, out of its cell. -/
def sliceAt (w : World) (a : Addr) : Option Addr := match w.cell? a with
  | some (.slice A _ _) => A
  | _ => none
noncomputable def rereadX (w W1 : World) (y : ByteArray) (g b off : Nat) (i : Nat) (x : St ByteArray) : St ByteArray := ⟨x.known, rereadS w y g (sliceAt W1 ⟨b, off + i * 2 + 1, none⟩) x.op⟩
theorem keeps_alloc {lo : Nat} {w : World} (o : Obj) : Keeps lo w (w.alloc o) := Keeps.of_below ((Below.refl _ _).alloc (Nat.le_refl _) o)
theorem tk_app {W w' : World} {lo n c m d n' c' : Nat} {T : TalkV} {A B A' : Option Addr} {y : ByteArray} (h : TkOwn W lo T A n c B m d) (hs : SmallT T) (hy : y.size ≤ 1048576) (hl : T.now.op.length < 1048576)
    (ho : OwnsS w' lo (.slice A' n' c') (T.now.op ++ [y])) (hg : (W.alloc (.cells #[.string y] 9)).grownBy w' (Value.slice A n c).ownBlock)
    (hcell : ∀ b o u, (Value.slice A n c).ownBlock = some b → (W.alloc (.cells #[.string y] 9)).cell? ⟨b, o, none⟩ = some u → w'.cell? ⟨b, o, none⟩ = some u ∨ w'.cell? ⟨b, o, none⟩ = some (.string y)) :
    ∃ past, TkIn w' lo ⟨T.things, ⟨T.now.known, T.now.op ++ [y]⟩, past⟩ A' n' c' B m d ∧ SmallT ⟨T.things, ⟨T.now.known, T.now.op ++ [y]⟩, past⟩ := by
  obtain ⟨hin, hown, hap, hlo⟩ := h
  obtain ⟨W1, hW1⟩ : ∃ W1, W.alloc (.cells #[.string y] 9) = W1 := ⟨_, rfl⟩
  have hin1 : TkIn W1 lo T A n c B m d := by rw [← hW1]; exact hin.keep (keeps_alloc _)
  have hown1 : OwnsS W1 lo (.slice A n c) T.now.op := by rw [← hW1]; exact hown.below ((Below.refl _ _).alloc (Nat.le_refl _) _)
  rw [hW1] at hg hcell
  clear hW1 hin hown
  have hnow : ∀ w2, Keeps lo w' w2 → n' = (T.now.op ++ [y]).length ∧ n' ≤ c' ∧ c' ≤ maxLen ∧ Strs w2 A' (T.now.op ++ [y]) := fun w2 hk => by
    obtain ⟨_, _, e, h1, h2, h3, _⟩ := (ho.keep hk).form
    cases e
    exact ⟨rfl, h1, h2, h3⟩
  have hsm : ∀ past : List (St ByteArray), past.length = T.past.length → (∀ x ∈ past, x.op.length ≤ 1048576 ∧ ∀ s ∈ x.op, s.size ≤ 1048576) → SmallT ⟨T.things, ⟨T.now.known, T.now.op ++ [y]⟩, past⟩ := fun past hpl hps =>
    ⟨by show (T.now.op ++ [y]).length ≤ _; rw [List.length_append]; simp; omega, by show past.length ≤ _; rw [hpl]; exact hs.past, fun s hm => by
      rcases List.mem_append.1 hm with hm | hm
      · exact hs.txt s hm
      · rw [List.mem_singleton] at hm; rw [hm]; exact hy, hps⟩
  cases A with
  | none =>
    refine ⟨T.past, fun w2 hk => ?_, hsm _ rfl hs.ops⟩
    have hk1 : Keeps lo W1 w' := ⟨hg.size, fun b _ h2 => hg.block b h2 (by simp [Value.ownBlock])⟩
    obtain ⟨e1, e2, e3, e4⟩ := hnow w2 hk
    have := hin1 w2 (hk1.trans hk (Nat.le_refl _))
    exact ⟨e1, e2, e3, e4, this.pn, this.pc, this.pm, this.hB⟩
  | some a =>
    obtain ⟨g, hga⟩ : ∃ g, a.block = g := ⟨_, rfl⟩
    have hob : (Value.slice (some a) n c).ownBlock = some g := by simp [Value.ownBlock, hga]
    obtain ⟨hg1, hg2⟩ := hown1.lt hob
    rw [hob] at hg
    have hT1 := hin1.at_
    -- the world with the old block g
    have hback : ∀ w2, Keeps lo w' w2 → ∃ w3, Keeps lo W1 w3 ∧ (∀ b o, b ≠ g → w3.cell? ⟨b, o, none⟩ = w2.cell? ⟨b, o, none⟩) ∧ (∀ o u, w3.cell? ⟨g, o, none⟩ = some u → w2.cell? ⟨g, o, none⟩ = w'.cell? ⟨g, o, none⟩ ∧ W1.cell? ⟨g, o, none⟩ = some u) ∧ w3.heap.size = w2.heap.size := fun w2 hk => by
      have hg2' : g < w'.heap.size := Nat.lt_of_lt_of_le hg2 hg.size
      have hg3 : g < w2.heap.size := Nat.lt_of_lt_of_le hg2' hk.1
      have e1 : ({ w2 with heap := w2.heap.set g W1.heap[g] hg3 } : World).heap[g]? = W1.heap[g]? := by
        show (w2.heap.set g W1.heap[g] hg3)[g]? = _
        rw [Array.getElem?_set_self, Array.getElem?_eq_getElem hg2]
      have e2 : ∀ b, b ≠ g → ({ w2 with heap := w2.heap.set g W1.heap[g] hg3 } : World).heap[b]? = w2.heap[b]? := fun b hb => by
        show (w2.heap.set g W1.heap[g] hg3)[b]? = _
        rw [Array.getElem?_set_ne hg3 (fun e => hb e.symm)]
      have e3 : ({ w2 with heap := w2.heap.set g W1.heap[g] hg3 } : World).heap.size = w2.heap.size := Array.size_set hg3
      refine ⟨{ w2 with heap := w2.heap.set g W1.heap[g] hg3 }, ⟨by rw [e3]; exact Nat.le_trans hg.size hk.1, fun b h1 h2 => ?_⟩, fun b o hb => World.cell?_of_block (e2 b hb), fun o u hu => ⟨World.cell?_of_block (hk.2 g hg1 hg2'), ?_⟩, e3⟩
      · by_cases hb : b = g
        · rw [hb]; exact e1
        · rw [e2 b hb, hk.2 b h1 (Nat.lt_of_lt_of_le h2 hg.size)]
          exact hg.block b h2 (fun e => hb (Option.some.inj e))
      · rw [World.cell?_of_block (w := W1) e1] at hu; exact hu
    by_cases hp0 : T.past.length = 0
    · refine ⟨T.past, fun w2 hk => ?_, hsm _ rfl hs.ops⟩
      obtain ⟨e1, e2, e3, e4⟩ := hnow w2 hk
      exact ⟨e1, e2, e3, e4, hT1.pn, hT1.pc, hT1.pm, fun h => absurd h (by show ¬ 0 < T.past.length; omega)⟩
    obtain ⟨b, off, rfl, hbl, _⟩ := hT1.hB (by omega)
    have hbg : b ≠ g := fun e => hap a ⟨b, off, none⟩ rfl rfl (by rw [hga]; exact e.symm)
    have hblo : lo ≤ b := hlo ⟨b, off, none⟩ rfl
    have hnew : ∀ i, (T.past.mapIdx (rereadX w' W1 y g b off))[i]? = (T.past[i]?).map (rereadX w' W1 y g b off i) := fun i => List.getElem?_mapIdx
    refine ⟨T.past.mapIdx (rereadX w' W1 y g b off), fun w2 hk => ?_, hsm _ (by rw [List.length_mapIdx]) fun x hx => ?_⟩
    · obtain ⟨e1, e2, e3, e4⟩ := hnow w2 hk
      obtain ⟨w3, hk3, hf, hgc, hsz⟩ := hback w2 hk
      have hT3 := hin1 w3 hk3
      refine ⟨e1, e2, e3, e4, by show m = (List.mapIdx _ _).length; rw [List.length_mapIdx]; exact hT1.pn, hT1.pc, hT1.pm, fun _ => ⟨b, off, rfl, by rw [← hsz]; exact Nat.lt_of_lt_of_le hbl hk3.1, fun i x hx => ?_⟩⟩
      have hx : (T.past.mapIdx (rereadX w' W1 y g b off))[i]? = some x := hx
      rw [hnew] at hx
      obtain ⟨x0, hx0, rfl⟩ := Option.map_eq_some_iff.1 hx
      obtain ⟨b', off', e, hlt', hc3⟩ := hT3.hB (by omega)
      cases e
      obtain ⟨Ai, ci, hc4, hc5, hc6, hc7, hc8⟩ := hc3 i x0 hx0
      have hsa : sliceAt W1 ⟨b, off + i * 2 + 1, none⟩ = Ai := by
        unfold sliceAt
        rw [← World.cell?_of_block (w := W1) (w' := w3) (a := ⟨b, off + i * 2 + 1, none⟩) (hk3.2 b hblo hbl), hc5]
      have hrx : rereadX w' W1 y g b off i x0 = ⟨x0.known, rereadS w' y g Ai x0.op⟩ := by unfold rereadX; rw [hsa]
      rw [hrx]
      refine ⟨Ai, ci, (hf b _ hbg).symm.trans hc4, ?_, ?_, hc7, fun hpos => ?_⟩
      · show w2.cell? _ = some (.slice Ai (rereadS w' y g Ai x0.op).length ci)
        rw [reread_len]; exact (hf b _ hbg).symm.trans hc5
      · show (rereadS w' y g Ai x0.op).length ≤ ci
        rw [reread_len]; exact hc6
      · have hpos : 0 < (rereadS w' y g Ai x0.op).length := hpos
        rw [reread_len] at hpos
        obtain ⟨ba, oa, rfl, hba, hcs⟩ := hc8 hpos
        refine ⟨ba, oa, rfl, by rw [← hsz]; exact hba, fun j hj => ?_⟩
        have hj : j < (rereadS w' y g (some ⟨ba, oa, none⟩) x0.op).length := hj
        rw [reread_len] at hj
        have hv := hcs j hj
        have hre : (rereadS w' y g (some ⟨ba, oa, none⟩) x0.op).getD j ByteArray.empty = @ite _ (ba = g ∧ w'.cell? ⟨g, oa + j, none⟩ = some (.string y)) (Classical.propDecidable _) y (x0.op.getD j ByteArray.empty) := by
          rw [List.getD_eq_getElem?_getD, List.getD_eq_getElem?_getD]
          unfold rereadS
          rw [List.getElem?_mapIdx, List.getElem?_eq_getElem hj]
          rfl
        show w2.cell? ⟨ba, oa + j, none⟩ = some (.string ((rereadS w' y g (some ⟨ba, oa, none⟩) x0.op).getD j ByteArray.empty))
        rw [hre]
        by_cases hb : ba = g
        · subst hb
          obtain ⟨h1, h2⟩ := hgc _ _ hv
          rw [h1]
          by_cases hw : w'.cell? ⟨ba, oa + j, none⟩ = some (.string y)
          · rw [if_pos ⟨rfl, hw⟩]; exact hw
          · rw [if_neg fun h => hw h.2]
            rcases hcell ba _ _ hob h2 with h | h
            · exact h
            · exact absurd h hw
        · rw [if_neg fun h => hb h.1, ← hf ba _ hb]; exact hv
    · obtain ⟨i, hi⟩ := List.mem_iff_getElem?.1 hx
      rw [hnew] at hi
      obtain ⟨x0, hx0, rfl⟩ := Option.map_eq_some_iff.1 hi
      obtain ⟨h1, h2⟩ := hs.ops x0 (List.mem_of_getElem? hx0)
      refine ⟨by show (rereadS _ _ _ _ _).length ≤ _; rw [reread_len]; exact h1, fun s hm => ?_⟩
      rcases reread_mem hm with rfl | hm
      · exact hy
      · exact h2 s hm
theorem TkIn.same {w : World} {lo n c m d : Nat} {T : TalkV} {A B : Option Addr} (h : TkIn w lo T A n c B m d) (t k : Int) : TkIn w lo ⟨t, ⟨k, T.now.op⟩, T.past⟩ A n c B m d := fun w2 hk => by
  have := h w2 hk
  exact ⟨this.hn, this.hc, this.hm, this.hA, this.pn, this.pc, this.pm, this.hB⟩
theorem SmallT.same {T : TalkV} (h : SmallT T) (t k : Int) : SmallT ⟨t, ⟨k, T.now.op⟩, T.past⟩ := ⟨h.op, h.past, h.txt, h.ops⟩
end Go.Proofs.YtmdogidflaplkaaGreat

namespace Go.Proofs.YtmdogidflaplkaaGreat
open Go.RowKit

set_option maxRecDepth 100000 in
set_option maxHeartbeats 4000000 in
theorem iCopied (k : Int) (A : Option Addr) (n c : Nat) (xs : List ByteArray) (w : World) (hn : n = xs.length) (hc : n ≤ c) (hl : n ≤ 1048576) (hA : Strs w A xs) :
    Calls Tryz.prog 75 #[.agg #[.int .i64 k, .slice A n c]] w fun e w' => ∃ v, e = .returned (.agg #[.int .i64 k, v]) ∧ OwnsS w' w.heap.size v xs ∧ Below w.heap.size w w' := by
  subst hn
  have HX : Hid (Box ((w.alloc (.cells #[.int .i64 k, .slice A xs.length c] 25)).alloc (.cells #[.int .i64 0, .slice none 0 0] 25)) w.heap.size 25 [.int .i64 k, .slice A xs.length c]) := (Box.new w _ [.int .i64 k, .slice A xs.length c]).alloc _
  have HZ : Hid (Box ((w.alloc (.cells #[.int .i64 k, .slice A xs.length c] 25)).alloc (.cells #[.int .i64 0, .slice none 0 0] 25)) (w.heap.size + 1) 25 [.int .i64 0, .slice none 0 0]) := by
    have := Box.new (w.alloc (.cells #[.int .i64 k, .slice A xs.length c] 25)) 25 [.int .i64 0, .slice none 0 0]
    rw [World.size_alloc] at this
    exact this
  have HB : Hid (Below w.heap.size w ((w.alloc (.cells #[.int .i64 k, .slice A xs.length c] 25)).alloc (.cells #[.int .i64 0, .slice none 0 0] 25))) := ((Below.refl _ _).alloc (Nat.le_refl _) _).alloc (by rw [World.size_alloc]; omega) _
  have HA := Lib.hid (hA.below HB.out)
  have HL : Hid (([] : List ByteArray).length + xs.length ≤ 4194304) := by unfold Hid; simp; omega
  clear hA
  go_enter Tryz.func75, Tryz.ntmps75
  go_upto_region 1 with fail
  obtain ⟨W0, hW0⟩ : ∃ W, (w.alloc (.cells #[.int .i64 k, .slice A xs.length c] 25)).alloc (.cells #[.int .i64 0, .slice none 0 0] 25) = W := ⟨_, rfl⟩
  rw [hW0] at HX HZ HB HA ⊢
  clear hW0
  have hc0 := HX.out.cell (i := 0) (v := .int .i64 k) rfl
  have hc1 := HX.out.cell (i := 1) (v := .slice A xs.length c) rfl
  have HA0 : Hid (Strs W0.drew A xs) := HA.out.drewN 1
  have HO0 : Hid (OwnsS W0.drew W0.heap.size (.slice none 0 0) []) := OwnsS.nil _ _
  have HS0 : Hid (W0.heap.size ≤ W0.drew.heap.size) := Nat.le_refl _
  -- behind the append
  have HF : Hid (∀ (w1 : World) (v1 : Value), OwnsS w1 W0.heap.size v1 ([] ++ xs) → W0.drew.grownBy w1 (Value.slice none 0 0).ownBlock →
      ∃ A1 c1, v1 = .slice A1 xs.length c1 ∧ Box w1 w.heap.size 25 [.int .i64 k, .slice A xs.length c] ∧ ((w1.cell? ⟨w.heap.size + 1, 0, none⟩ = some (.int .i64 0) ∧ w1.cell? ⟨w.heap.size + 1, 1, none⟩ = some (.slice none 0 0) ∧ w1.frozen? ⟨w.heap.size + 1, 0, none⟩ = false ∧ w1.frozen? ⟨w.heap.size + 1, 1, none⟩ = false) ∧
        ((w1.setCell ⟨w.heap.size + 1, 0, none⟩ (.int .i64 k)).cell? ⟨w.heap.size + 1, 1, none⟩ = some (.slice none 0 0) ∧ (w1.setCell ⟨w.heap.size + 1, 0, none⟩ (.int .i64 k)).frozen? ⟨w.heap.size + 1, 1, none⟩ = false)) ∧
        Box ((w1.setCell ⟨w.heap.size + 1, 0, none⟩ (.int .i64 k)).setCell ⟨w.heap.size + 1, 1, none⟩ (.slice A1 xs.length c1)) w.heap.size 25 [.int .i64 k, .slice A xs.length c] ∧
        Hid (Box ((w1.setCell ⟨w.heap.size + 1, 0, none⟩ (.int .i64 k)).setCell ⟨w.heap.size + 1, 1, none⟩ (.slice A1 xs.length c1)) (w.heap.size + 1) 25 [.int .i64 k, .slice A1 xs.length c1]) ∧
        OwnsS ((w1.setCell ⟨w.heap.size + 1, 0, none⟩ (.int .i64 k)).setCell ⟨w.heap.size + 1, 1, none⟩ (.slice A1 xs.length c1)) w.heap.size (.slice A1 xs.length c1) xs ∧ Below w.heap.size w ((w1.setCell ⟨w.heap.size + 1, 0, none⟩ (.int .i64 k)).setCell ⟨w.heap.size + 1, 1, none⟩ (.slice A1 xs.length c1))) := fun w1 v1 h1 hg => by
    obtain ⟨A1, c1, rfl, _⟩ := h1.form
    have hx : Box w1 w.heap.size 25 [.int .i64 k, .slice A xs.length c] := (Box.drew HX.out).grownO hg (fun j e => by cases e)
    have hz : Box w1 (w.heap.size + 1) 25 [.int .i64 0, .slice none 0 0] := (Box.drew HZ.out).grownO hg (fun j e => by cases e)
    have hzl := HZ.out.lt
    obtain ⟨h2, h3, h4⟩ := hz.store2 (.int .i64 k) (.slice A1 xs.length c1)
    have hb : Below w.heap.size w w1 := (bel_drewN HB.out 1).grown hg HB.out.size fun j e => by cases e
    have hset : ∀ (W : World) (i : Nat) (v : Value), Keeps W0.heap.size W (W.setCell ⟨w.heap.size + 1, i, none⟩ v) := fun W i v => Keeps.set hzl
    exact ⟨A1, c1, rfl, hx, ⟨h2, h3⟩, hx.other2 (by omega) _ _, h4, (h1.keep ((hset w1 0 _).trans (hset _ 1 _) (Nat.le_refl _))).base HB.out.size, bel_set2 hb (by omega) _ _⟩
  go_region_held3 (fun w' => w'.cell? ⟨w.heap.size, 0, none⟩ = some (.int .i64 k) ∧ w'.cell? ⟨w.heap.size, 1, none⟩ = some (.slice A xs.length c))
    (first | exact HK2.out | exact HK1.out | exact ⟨hc0, hc1⟩ | go_keep)
    (first
      | (refine step_appS rfl _ _ rfl W0.heap.size (.slice none 0 0) [] xs rfl HO0.out A xs.length c rfl rfl hc HA0.out HL.out HS0.out ?_; intro v1 w1 ho1 hg1; obtain ⟨A1, c1, rfl, hx1, ⟨⟨hz0, hz1, hz2, hz3⟩, ⟨hz4, hz5⟩⟩, hx2, HOUT, hown, hbel⟩ := HF.out w1 v1 ho1 hg1; have HK1 := Lib.hid (And.intro (hx1.cell (i := 0) (v := .int .i64 k) rfl) (hx1.cell (i := 1) (v := .slice A xs.length c) rfl)); have HK2 := Lib.hid (And.intro (hx2.cell (i := 0) (v := .int .i64 k) rfl) (hx2.cell (i := 1) (v := .slice A xs.length c) rfl)); have HFIN := Lib.hid (And.intro hown hbel); clear ho1 hg1 hx1 hx2 hown hbel))
  all_goals
    go_wp2_with fail
    refine bodyPost_ret_by (results_state (b := w.heap.size + 1) rfl rfl HOUT) rfl ⟨_, rfl, HFIN.out⟩
end Go.Proofs.YtmdogidflaplkaaGreat

namespace Go.Proofs.YtmdogidflaplkaaGreat
open Go.RowKit

/-- The cells of a list of states: their slices of texts lie in w. -/
def PairsX (w : World) (vs : List (Int × Value)) (xs : List (St ByteArray)) : Prop := vs.length = xs.length ∧ ∀ (i : Nat) (x : St ByteArray), xs[i]? = some x → ∃ A c, vs[i]? = some (x.known, .slice A x.op.length c) ∧ x.op.length ≤ c ∧ c ≤ maxLen ∧ Strs w A x.op
theorem PairsX.below {w w' : World} {vs : List (Int × Value)} {xs : List (St ByteArray)} (h : PairsX w vs xs) (hb : Below w.heap.size w w') : PairsX w' vs xs :=
  ⟨h.1, fun i x hx => by obtain ⟨A, c, h1, h2, h3, h4⟩ := h.2 i x hx; exact ⟨A, c, h1, h2, h3, h4.below hb⟩⟩
theorem PairsX.nil (w : World) : PairsX w [] [] := ⟨rfl, fun i x h => by simp at h⟩
theorem PairsX.snoc {w : World} {vs : List (Int × Value)} {xs : List (St ByteArray)} {x : St ByteArray} {A : Option Addr} {c : Nat} (h : PairsX w vs xs) (h1 : x.op.length ≤ c) (h2 : c ≤ maxLen) (h3 : Strs w A x.op) : PairsX w (vs ++ [(x.known, .slice A x.op.length c)]) (xs ++ [x]) := by
  refine ⟨by rw [List.length_append, List.length_append, h.1]; rfl, fun i y hy => ?_⟩
  by_cases hi : i < xs.length
  · rw [List.getElem?_append_left hi] at hy
    obtain ⟨A', c', a1, a2⟩ := h.2 i y hy
    exact ⟨A', c', by rw [List.getElem?_append_left (by rw [h.1]; exact hi)]; exact a1, a2⟩
  · have hi2 : i = xs.length := by
      have := (List.getElem?_eq_some_iff.1 hy).1
      simp at this; omega
    subst hi2
    rw [List.getElem?_append_right (Nat.le_refl _), Nat.sub_self] at hy
    cases hy
    exact ⟨A, c, by rw [List.getElem?_append_right (by rw [h.1]; exact Nat.le_refl _), h.1, Nat.sub_self]; rfl, h1, h2, h3⟩
theorem PairsX.one {w : World} {vs : List (Int × Value)} {xs : List (St ByteArray)} (h : PairsX w vs xs) : ∀ u ∈ cellsX vs, u.oneCell' = true := by
  intro u hu
  unfold cellsX at hu
  obtain ⟨v, hv, hm⟩ := List.mem_flatMap.1 hu
  obtain ⟨i, hi⟩ := List.mem_iff_getElem?.1 hv
  have hil : i < xs.length := by rw [← h.1]; exact (List.getElem?_eq_some_iff.1 hi).1
  obtain ⟨A, c, h1, _⟩ := h.2 i xs[i] (List.getElem?_eq_getElem hil)
  rw [hi] at h1
  cases h1
  rw [List.mem_cons, List.mem_singleton] at hm
  rcases hm with rfl | rfl <;> rfl
theorem pairs_of_row {w : World} {B : Option Addr} {xs : List (St ByteArray)} (h : StaRow w B xs) : ∃ vs, PairsX w vs xs ∧ ∀ b off, B = some ⟨b, off, none⟩ → ∀ (j : Nat) (u : Value), (cellsX vs)[j]? = some u → w.cell? ⟨b, off + j, none⟩ = some u := by
  by_cases hp : 0 < xs.length
  · obtain ⟨b, off, rfl, hlt, hc⟩ := h hp
    refine ⟨xs.mapIdx fun i x => (x.known, (w.cell? ⟨b, off + i * 2 + 1, none⟩).getD undef), ⟨by rw [List.length_mapIdx], fun i x hx => ?_⟩, fun b' off' e j u hj => ?_⟩
    · obtain ⟨A, c, h1, h2, h3, h4, h5⟩ := hc i x hx
      exact ⟨A, c, by rw [List.getElem?_mapIdx, hx]; simp only [Option.map_some]; rw [h2]; rfl, h3, h4, h5⟩
    · cases e
      have hjl : j < xs.length * 2 := by
        have := (List.getElem?_eq_some_iff.1 hj).1
        rw [cellsX_len, List.length_mapIdx] at this; exact this
      obtain ⟨i, hi, hpar⟩ : ∃ i, i < xs.length ∧ (j = i * 2 ∨ j = i * 2 + 1) := ⟨j / 2, by omega, by omega⟩
      have hx : xs[i]? = some xs[i] := List.getElem?_eq_getElem hi
      obtain ⟨A, c, h1, h2, _⟩ := hc i _ hx
      have hv : (xs.mapIdx fun i x => ((x.known, (w.cell? ⟨b, off + i * 2 + 1, none⟩).getD undef) : Int × Value))[i]? = some (xs[i].known, .slice A xs[i].op.length c) := by
        rw [List.getElem?_mapIdx, hx]; simp only [Option.map_some]; rw [h2]; rfl
      obtain ⟨e1, e2⟩ := cellsX_get _ _ _ hv
      rcases hpar with rfl | rfl
      · rw [e1] at hj
        cases hj
        exact h1
      · rw [e2] at hj
        cases hj
        rw [← Nat.add_assoc]; exact h2
  · have hn : xs = [] := List.eq_nil_of_length_eq_zero (by omega)
    subst hn
    exact ⟨[], PairsX.nil w, fun b off _ j u hj => by simp [cellsX] at hj⟩
/-- A kind of worlds that growing memory does not leave. -/
def Fwd (R : World → Prop) : Prop := ∀ W W', R W → Below W.heap.size W W' → R W'
/-- A talk that reads so, at the same cells, in every world of the kind. -/
structure TkR (R : World → Prop) (T : TalkV) (A : Option Addr) (n c : Nat) (B : Option Addr) (m d : Nat) : Prop where
  hn : n = T.now.op.length
  hc : n ≤ c
  hm : c ≤ maxLen
  hA : ∀ W, R W → Strs W A T.now.op
  pn : m = T.past.length
  pc : m ≤ d
  pm : d ≤ maxLen
  hP : ∃ vs, (∀ W, R W → PairsX W vs T.past) ∧ (∀ W, R W → 0 < T.past.length → ∃ b off, B = some ⟨b, off, none⟩ ∧ b < W.heap.size ∧ ∀ (j : Nat) (u : Value), (cellsX vs)[j]? = some u → W.cell? ⟨b, off + j, none⟩ = some u)
  fw : Fwd R
theorem sta_pairs {W : World} {B : Option Addr} {vs : List (Int × Value)} {xs : List (St ByteArray)} (hp : PairsX W vs xs) (hc : 0 < xs.length → ∃ b off, B = some ⟨b, off, none⟩ ∧ b < W.heap.size ∧ ∀ (j : Nat) (u : Value), (cellsX vs)[j]? = some u → W.cell? ⟨b, off + j, none⟩ = some u) : StaRow W B xs := by
  intro hpos
  obtain ⟨b, off, e, hlt, hcc⟩ := hc hpos
  refine ⟨b, off, e, hlt, fun i x hx => ?_⟩
  obtain ⟨A, c, h1, h2, h3, h4⟩ := hp.2 i x hx
  obtain ⟨e1, e2⟩ := cellsX_get vs i _ h1
  exact ⟨A, c, hcc _ _ e1, by rw [Nat.add_assoc]; exact hcc _ _ e2, h2, h3, h4⟩
section
variable {R : World → Prop} {T : TalkV} {A B : Option Addr} {n c m d : Nat} {W : World}
theorem TkR.at_ (h : TkR R T A n c B m d) (hr : R W) : TkAt W T A n c B m d := by
  obtain ⟨vs, h1, h2⟩ := h.hP
  exact ⟨h.hn, h.hc, h.hm, h.hA W hr, h.pn, h.pc, h.pm, sta_pairs (h1 W hr) (h2 W hr)⟩
/-- Its last state of before, put back. -/
theorem TkR.last (h : TkR R T A n c B m d) {W0 : World} (hr0 : R W0) {j : Nat} {x : St ByteArray} (hj : T.past.length = j + 1) (hx : T.past[j]? = some x) :
    ∃ Ai ci b off, B = some ⟨b, off, none⟩ ∧ x.op.length ≤ ci ∧ ci ≤ maxLen ∧ ∀ W, R W → b < W.heap.size ∧ W.cell? ⟨b, off + j * 2, none⟩ = some (.int .i64 x.known) ∧ W.cell? ⟨b, off + j * 2 + 1, none⟩ = some (.slice Ai x.op.length ci) ∧ TkAt W ⟨T.things, x, T.past.dropLast⟩ Ai x.op.length ci (some ⟨b, off, none⟩) j d := by
  obtain ⟨vs, h1, h2⟩ := h.hP
  obtain ⟨Ai, ci, a1, a2, a3, _⟩ := (h1 W0 hr0).2 j x hx
  obtain ⟨b, off, e, _⟩ := h2 W0 hr0 (by omega)
  refine ⟨Ai, ci, b, off, e, a2, a3, fun W hr => ?_⟩
  obtain ⟨b', off', e', hlt, hcc⟩ := h2 W hr (by omega)
  rw [e] at e'
  cases e'
  obtain ⟨Ai', ci', b1, _, _, b4⟩ := (h1 W hr).2 j x hx
  rw [a1] at b1
  cases b1
  obtain ⟨e1, e2⟩ := cellsX_get vs j _ a1
  have hB := (h.at_ hr).hB
  rw [e] at hB
  have hpc := h.pc
  have hpn := h.pn
  exact ⟨hlt, hcc _ _ e1, by rw [Nat.add_assoc]; exact hcc _ _ e2, ⟨rfl, a2, a3, b4, by show j = T.past.dropLast.length; rw [List.length_dropLast]; omega, by omega, h.pm, by show StaRow _ _ T.past.dropLast; rw [List.dropLast_eq_take]; exact hB.take _⟩⟩
end

/-! All blocks but one stand. -/
def Exc (h : Nat) (w0 W : World) : Prop := w0.heap.size ≤ W.heap.size ∧ ∀ k, k < w0.heap.size → k ≠ h → W.heap[k]? = w0.heap[k]?
theorem Exc.refl (h : Nat) (w : World) : Exc h w w := ⟨Nat.le_refl _, fun _ _ _ => rfl⟩
theorem Exc.trans {h : Nat} {w w1 w2 : World} (h1 : Exc h w w1) (h2 : Exc h w1 w2) : Exc h w w2 := ⟨Nat.le_trans h1.1 h2.1, fun k hk hn => (h2.2 k (Nat.lt_of_lt_of_le hk h1.1) hn).trans (h1.2 k hk hn)⟩
theorem Exc.of_below {h : Nat} {w w1 : World} (hb : Below w.heap.size w w1) : Exc h w w1 := ⟨hb.size, fun k hk _ => hb.block k hk⟩
theorem Exc.set (h i : Nat) (w : World) (v : Value) : Exc h w (w.setCell ⟨h, i, none⟩ v) := ⟨by rw [show (w.setCell ⟨h, i, none⟩ v).heap.size = w.heap.size by simp [World.setCell]]; exact Nat.le_refl _, fun k _ hn => Below.heap_setCell w ⟨h, i, none⟩ v k (fun e => hn (by simpa using e))⟩
theorem Exc.fwd (h : Nat) (w0 : World) : Fwd (Exc h w0) := fun _ _ h1 h2 => h1.trans (Exc.of_below h2)
theorem tkR_of_exc {w0 : World} {h : Nat} {T : TalkV} {A B : Option Addr} {n c m d : Nat} (H : ∀ W, Exc h w0 W → TkAt W T A n c B m d) : TkR (Exc h w0) T A n c B m d := by
  have h0 := H w0 (Exc.refl h w0)
  obtain ⟨vs, hp, hc⟩ := pairs_of_row h0.hB
  refine ⟨h0.hn, h0.hc, h0.hm, fun W hr => (H W hr).hA, h0.pn, h0.pc, h0.pm, ?_, Exc.fwd h w0⟩
  by_cases hpos : 0 < T.past.length
  · obtain ⟨b, off, e, hlt, _⟩ := h0.hB hpos
    have hne : b ≠ h := by
      intro hbh
      subst hbh
      have hx : Exc b w0 { w0 with heap := w0.heap.setIfInBounds b (.cells #[] 0) } := ⟨by simp, fun k hk hn => by simp [Ne.symm hn]⟩
      obtain ⟨b', off', e', _, hcc⟩ := (H _ hx).hB hpos
      rw [e] at e'
      cases e'
      obtain ⟨Ai, ci, f1, _⟩ := hcc 0 T.past[0] (List.getElem?_eq_getElem hpos)
      simp [World.cell?, hlt] at f1
    have hcell : ∀ W, Exc h w0 W → ∀ (j : Nat) (u : Value), (cellsX vs)[j]? = some u → W.cell? ⟨b, off + j, none⟩ = some u := fun W hr j u hj =>
      (World.cell?_of_block (a := ⟨b, off + j, none⟩) (hr.2 b hlt hne)).trans (hc b off e j u hj)
    refine ⟨vs, fun W hr => ⟨hp.1, fun i x hx => ?_⟩, fun W hr _ => ⟨b, off, e, Nat.lt_of_lt_of_le hlt hr.1, hcell W hr⟩⟩
    obtain ⟨A0, c0, a1, a2, a3, _⟩ := hp.2 i x hx
    refine ⟨A0, c0, a1, a2, a3, ?_⟩
    obtain ⟨b', off', e', _, hcc⟩ := (H W hr).hB hpos
    rw [e] at e'
    cases e'
    obtain ⟨Ai, ci, _, f2, _, _, f5⟩ := hcc i x hx
    have g2 := hcell W hr _ _ (cellsX_get vs i _ a1).2
    rw [← Nat.add_assoc, f2] at g2
    cases g2
    exact f5
  · have hn : T.past = [] := List.eq_nil_of_length_eq_zero (by omega)
    refine ⟨[], fun W _ => by rw [hn]; exact PairsX.nil W, fun W _ h => absurd h hpos⟩
end Go.Proofs.YtmdogidflaplkaaGreat
