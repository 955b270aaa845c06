/-
  What the proofs of this seat's statements share (BldI, RdS, JnT).
-/
import Derived.Lib.Builder
import Derived.Test.YtobgnbgmpcilgaaU18
import Derived.Test.YtobgnbgmpcilgaaU5

namespace Go.Proofs.Ytobgnbgmpcilgaa
open Go.RowKit

theorem bld_size : (Try.prog.info? 71).map (·.size) = some 2 := by kernel_rfl
theorem bld_lies : liesAt Try.prog Try.prog.depth 71 (2 / Try.prog.cellsOf 71) 0 71 1 = true := by kernel_rfl
theorem byte_info : (Try.prog.info? 5).map (fun i => (i.zero, i.size, i.bytes)) = some (some (.int .u8 0), 1, 1) := by kernel_rfl
abbrev BldAt := Lib.BuilderAt 71 5
abbrev IsBld := Lib.IsBuilder 71 5
set_option maxRecDepth 100000 in
theorem iCopyCheckU (b : Nat) (w : World) (h0 : w.cell? ⟨b, 0, none⟩ = some (.pointer (some ⟨b, 0, none⟩))) :
    Calls Try.prog 65 #[.pointer (some ⟨b, 0, none⟩)] w fun e w' => e = .returned (.tuple #[]) ∧ w' = w := by
  obtain ⟨j, hj, _⟩ := Option.map_eq_some_iff.1 bld_size
  go_enter Try.func65, Try.ntmps65
  go_wp2
  rw [Lib.run_neq_ptr_same w _ Try.underlying69 hj]
  go_wp2
  go_end0
  exact ⟨rfl, rfl⟩
set_option maxRecDepth 100000 in
theorem iCopyCheckF (b : Nat) (w : World) (h0 : w.cell? ⟨b, 0, none⟩ = some (.pointer none)) (hsh : w.shape? b = some (71, 2)) (hfz : w.frozen? ⟨b, 0, none⟩ = false) :
    Calls Try.prog 65 #[.pointer (some ⟨b, 0, none⟩)] w fun e w' => e = .returned (.tuple #[]) ∧ w' = w.setCell ⟨b, 0, none⟩ (.pointer (some ⟨b, 0, none⟩)) := by
  obtain ⟨j, hj, hjs⟩ := Option.map_eq_some_iff.1 bld_size
  go_enter Try.func65, Try.ntmps65
  go_wp2
  rw [Lib.run_to_unsafe w ⟨b, 0, none⟩ Try.underlying69 Try.underlying105 hj (by rw [hjs]; decide) hsh (Nat.zero_lt_succ 1)]
  simp only [Result.andThen]
  rw [Oper.upon_value]
  go_wp2
  rw [run_callFunc_extern (by exact Try.func79) (by kernel_rfl) (by kernel_rfl) (by kernel_rfl) (e := Extern.AbiNoEscape.same) (by kernel_rfl)]
  rw [Lib.run_noEscape]
  simp only [Result.andThen]
  rw [Oper.upon_value]
  go_wp2
  rw [Lib.run_from_unsafe w ⟨b, 0, none⟩ Try.underlying105 Try.underlying69 hj hsh bld_lies]
  simp only [Result.andThen]
  rw [Oper.upon_value]
  go_wp2
  go_end0
  exact ⟨rfl, rfl⟩
theorem iCopyCheck (B b : Nat) (bs : List Value) (w : World) (h : IsBld B b bs w) :
    Calls Try.prog 65 #[.pointer (some ⟨b, 0, none⟩)] w fun e w' => e = .returned (.tuple #[]) ∧ BldAt B b (.pointer (some ⟨b, 0, none⟩)) bs w' ∧ Below B w w' := by
  rcases h with h | h
  · refine (iCopyCheckF b w h.cell0 h.shape h.frozen0).mono ?_
    rintro e w' ⟨rfl, rfl⟩
    exact ⟨rfl, h.used _, (Below.refl B w).setCell (p := ⟨b, 0, none⟩) h.1 _⟩
  · refine (iCopyCheckU b w h.cell0).mono ?_
    rintro e w' ⟨rfl, rfl⟩
    exact ⟨rfl, h, Below.refl B _⟩
set_option maxHeartbeats 2000000 in
set_option maxRecDepth 100000 in
theorem iWriteString (B b : Nat) (bs : List Value) (s : ByteArray) (w : World) (h : IsBld B b bs w) (hlen : bs.length + s.size ≤ 140737488355328) (hBw : B ≤ w.heap.size) :
    Calls Try.prog 49 #[.pointer (some ⟨b, 0, none⟩), .string s] w fun e w' => e = .returned (.tuple #[.int .i64 s.size, .nilIface]) ∧ BldAt B b (.pointer (some ⟨b, 0, none⟩)) (bs ++ Lib.strCells s) w' ∧ Below B w w' := by
  obtain ⟨i0, hi, hz0, hz1, hz2⟩ := info_parts byte_info
  go_enter Try.func49, Try.ntmps49
  go_wp2_with fail
  refine (iCopyCheck B b bs _ h).mono ?_
  rintro e w1 ⟨rfl, h1, hb1⟩
  obtain ⟨hB, v, hbk, hown, hne⟩ := h1
  have c0 : w1.cell? ⟨b, 0, none⟩ = some (.pointer (some ⟨b, 0, none⟩)) := by rw [Lib.cell_of_heap hbk]; rfl
  have c1 : w1.cell? ⟨b, 1, none⟩ = some v := by rw [Lib.cell_of_heap hbk]; rfl
  go_wp2_with (at_builtin; refine Lib.wpList_append_own_string _ rfl _ _ 22 9 rfl B 5 i0 Try.underlying22 Try.underlying9 hi hz0 hz1 hz2 _ _ _ rfl hown s rfl ?c3 ?c4 ?c5 ?_)
  case c3 => unfold maxLen; omega
  case c4 => omega
  case c5 => have := hb1.size; omega
  intro v' w2 hown' hgrow _
  have hlt : b < w1.heap.size := (Array.getElem?_eq_some_iff.1 hbk).1
  have hb2 : w2.heap[b]? = some (.cells #[.pointer (some ⟨b, 0, none⟩), v] 71 (0, 0)) := by
    rw [hgrow.block b hlt (fun e => hne e.symm)]
    exact hbk
  have d0 : w2.cell? ⟨b, 0, none⟩ = some (.pointer (some ⟨b, 0, none⟩)) := by rw [Lib.cell_of_heap hb2]; rfl
  have d1 : w2.cell? ⟨b, 1, none⟩ = some v := by rw [Lib.cell_of_heap hb2]; rfl
  have f1 : w2.frozen? ⟨b, 1, none⟩ = false := Lib.frozen_of_heap hb2 1
  obtain ⟨ao, n', cap, rfl⟩ : ∃ ao n' cap, v' = .slice ao n' cap := by
    rcases hown'.2 with ⟨hv, _⟩ | ⟨g, cap, cur, hv, _⟩
    · exact ⟨_, _, _, hv⟩
    · exact ⟨_, _, _, hv⟩
  go_wp2
  go_ret2
  refine ⟨rfl, ?_, ?_⟩
  · exact Lib.BuilderAt.put (T := 71) (e := 5) hB hb2 (bs' := bs ++ Lib.strCells s) (by simpa [Lib.strCells_length] using hown') (by decide)
  · exact (hb1.grown hgrow (by have := hb1.size; omega) (fun k hk => (hown.lt k hk).1)).setCell (p := ⟨b, 1, none⟩) hB _
/-- A builder in a block of its own holds the bytes l. -/
def Bld (B b : Nat) (l : List UInt8) (w : World) : Prop := IsBld B b (Lib.byteCells l) w
theorem iWrite {B b : Nat} {l : List UInt8} {w : World} (s : ByteArray) (h : Bld B b l w) (hlen : l.length + s.size ≤ 140737488355328) (hBw : B ≤ w.heap.size) :
    Calls Try.prog 49 #[.pointer (some ⟨b, 0, none⟩), .string s] w fun e w' => e = .returned (.tuple #[.int .i64 s.size, .nilIface]) ∧ Bld B b (l ++ s.data.toList) w' ∧ Below B w w' := by
  refine (iWriteString B b (Lib.byteCells l) s w h (by rw [Lib.byteCells_length]; exact hlen) hBw).mono ?_
  rintro e w' ⟨rfl, h1, h2⟩
  refine ⟨rfl, Or.inr ?_, h2⟩
  have : Lib.byteCells (l ++ s.data.toList) = Lib.byteCells l ++ Lib.strCells s := by simp [Lib.byteCells, Lib.strCells]
  rw [this]; exact h1
theorem iString {B b : Nat} {l : List UInt8} {w : World} (h : Bld B b l w) (hBw : B ≤ w.heap.size) :
    Calls Try.prog 50 #[.pointer (some ⟨b, 0, none⟩)] w fun e w' => e = .returned (.string ⟨l.toArray⟩) ∧ Below B w w' := Try.Builder_String_any B b l w h hBw
theorem Bld.new (w : World) : Bld w.heap.size w.heap.size [] (w.alloc (.cells #[.pointer none, .slice none 0 0] 71)) :=
  Or.inl ⟨Nat.le_refl _, .slice none 0 0, World.alloc_heap_new w _, by have := World.ownsRow_nil (w.alloc (.cells #[.pointer none, .slice none 0 0] 71)) w.heap.size 5 1; exact this, by simp [Value.ownBlock]⟩
theorem Bld.below {B b : Nat} {l : List UInt8} {w w' : World} (h : Bld B b l w) (hb : Below w.heap.size w w') : Bld B b l w' := by
  have key : ∀ p, BldAt B b p (Lib.byteCells l) w → BldAt B b p (Lib.byteCells l) w' := by
    rintro p ⟨h1, v, h2, h3, h4⟩
    exact ⟨h1, v, (hb.block b (Array.getElem?_eq_some_iff.1 h2).1).trans h2, World.ownsRow.kept (row := none) h3 ⟨hb.os, hb.tape, hb.output, hb.size, fun k hk _ => hb.block k hk⟩ (by cases v.ownBlock <;> simp), h4⟩
  rcases h with h | h
  · exact Or.inl (key _ h)
  · exact Or.inr (key _ h)
end Go.Proofs.Ytobgnbgmpcilgaa

namespace Go.Proofs.Ytobgnbgmpcilgaa
open Go.RowKit

/-- What the model tries, one after another. -/
def triesL (s : ByteArray) : List DeedV :=
  ([(2, ⟨#[]⟩)] ++ (if 5 < s.size then [(0, ofL ((bL s).drop 5))] else [])) ++ (if 4 < s.size then [(1, ofL ((bL s).drop 4))] else [])
theorem cand_tried {s : ByteArray} (h : deedB (candI s) = s) : candI s ∈ triesL s := by
  have key : ∀ n, 0 < ((bL s).drop n).length → n < s.size := fun n h => by rw [List.length_drop, bL_size] at h; omega
  have pl : ∀ l : List UInt8, plainU l = true → 0 < l.length := fun l h => by cases l with | nil => cases h | cons _ _ => simp
  by_cases h5 : (bL s).take 5 = tellU
  · have e : candI s = (0, ofL ((bL s).drop 5)) := by unfold candI; rw [if_pos h5]
    rw [e] at h ⊢
    have hp : plainU ((bL s).drop 5) = true := by
      cases hp : plainU ((bL s).drop 5) with
      | true => rfl
      | false =>
        exfalso
        rw [deed_none (fun h => by rw [bL_of, hp] at h; exact absurd h.2 (by decide)) (fun h => by omega)] at h
        rw [← h] at h5; exact absurd h5 (by decide)
    have h5' := key 5 (pl _ hp)
    unfold triesL
    rw [if_pos h5']
    simp
  by_cases h4 : (bL s).take 4 = askU
  · have e : candI s = (1, ofL ((bL s).drop 4)) := by unfold candI; rw [if_neg h5, if_pos h4]
    rw [e] at h ⊢
    have hp : plainU ((bL s).drop 4) = true := by
      cases hp : plainU ((bL s).drop 4) with
      | true => rfl
      | false =>
        exfalso
        rw [deed_none (fun h => by rw [bL_of, hp] at h; exact absurd h.2 (by decide)) (fun h => by omega)] at h
        rw [← h] at h4; exact absurd h4 (by decide)
    have h4' := key 4 (pl _ hp)
    unfold triesL
    rw [if_pos h4']
    simp
  · have e : candI s = (2, ⟨#[]⟩) := by unfold candI; rw [if_neg h5, if_neg h4]; rfl
    rw [e]
    exact List.mem_append_left _ (List.mem_append_left _ (by simp))
/-- So far none of them was it. -/
def NotYet (s : ByteArray) (k : Nat) : Prop := ∀ j d, j < k → (triesL s)[j]? = some d → ¬ (s ≠ ⟨#[]⟩ ∧ deedB d = s)
theorem tries_end {s : ByteArray} (h : NotYet s (triesL s).length) : rdV s = (0, ⟨#[]⟩) ∧ rdOk s = false := by
  by_cases hc : deedB (candI s) = s
  · exfalso
    obtain ⟨j, hj⟩ := List.mem_iff_getElem?.1 (cand_tried hc)
    refine h j _ (List.getElem?_eq_some_iff.1 hj).1 hj ⟨?_, hc⟩
    have := (readB_iff (d := candI s)).1 (by rw [read_cand, if_pos hc])
    rintro rfl
    exact this.2 rfl
  · exact rd_no hc
theorem tries_hit {s : ByteArray} {d : DeedV} (hs : s ≠ ⟨#[]⟩) (h : deedB d = s) : rdV s = d ∧ rdOk s = true := by
  have : readB s = some d := readB_iff.2 ⟨h, fun e => hs (bL_inj e)⟩
  unfold rdV rdOk; rw [this]; exact ⟨rfl, rfl⟩
theorem tries_size {s : ByteArray} {d : DeedV} (h : d ∈ triesL s) : d.2.size ≤ s.size := by
  unfold triesL at h
  rcases List.mem_append.1 h with h | h
  · rcases List.mem_append.1 h with h | h
    · rw [List.mem_singleton.1 h]; exact Nat.zero_le _
    · split at h
      · rw [List.mem_singleton.1 h]; exact drop_size s 5
      · cases h
  · split at h
    · rw [List.mem_singleton.1 h]; exact drop_size s 4
    · cases h
theorem tries_len (s : ByteArray) : (triesL s).length ≤ 3 := by
  unfold triesL; split <;> split <;> simp
theorem extract_drop (s : ByteArray) (n : Nat) : s.extract n s.size = ofL ((bL s).drop n) := by
  apply bL_inj
  rw [bL_of]
  unfold bL
  rw [ByteArray.data_extract, Array.toList_extract, List.extract_eq_take_drop]
  rw [List.take_of_length_le]
  rw [List.length_drop]
  exact Nat.le_refl _
/-- The list's beginning: the result's variable, a literal of one deed. -/
theorem tries_start (w : World) : ∃ W, (w.alloc (.cells #[.int .i64 0, .string ⟨#[]⟩] 24)).alloc (.cells #[.int .i64 2, .string ⟨#[]⟩] 24) = W ∧ OwnsD W (w.heap.size + 1) (.slice (some ⟨w.heap.size + 1, 0, none⟩) 1 1) [(2, ⟨#[]⟩)] ∧ Box W w.heap.size 24 [.int .i64 0, .string ⟨#[]⟩] ∧ Below w.heap.size w W ∧ w.heap.size + 1 ≤ W.heap.size ∧ Hid (W.heap.size = w.heap.size + 1 + 1) := by
  refine ⟨_, rfl, ?_, (Box.new w _ [.int .i64 0, .string ⟨#[]⟩]).alloc _, ((Below.refl _ _).alloc (Nat.le_refl _) _).alloc (by rw [World.size_alloc]; omega) _, ?_, by unfold Hid; rw [World.size_alloc, World.size_alloc]⟩
  · have := OwnsD.lit1 (w.alloc (.cells #[.int .i64 0, .string ⟨#[]⟩] 24)) (w.heap.size + 1) (by rw [World.size_alloc]; exact Nat.le_refl _) 2 ⟨#[]⟩
    rw [World.size_alloc] at this
    exact this
  · rw [World.size_alloc, World.size_alloc]; omega
set_option maxRecDepth 100000 in
set_option maxHeartbeats 8000000 in
theorem sReadDeed (s : ByteArray) (w : World) (hs : s.size ≤ 1048576) :
    Calls Try.prog 17 #[.string s] w fun e w' => e = .returned (.tuple #[.agg #[.int .i64 (rdV s).1, .string (rdV s).2], .bool (rdOk s)]) ∧ Below w.heap.size w w' := by
  by_cases hse : s = ⟨#[]⟩
  · subst hse
    obtain ⟨W, hW, ho, hz, hbel, _, _⟩ := tries_start w
    obtain ⟨⟨hz0, hz1, hz2, hz3⟩, ⟨hz4, hz5⟩, HZ2⟩ := hz.store2 (.int .i64 0) (.string ⟨#[]⟩)
    have HB := Lib.hid hbel
    clear ho hbel hz
    go_enter Try.func17, Try.ntmps17
    go_wp2_with fail
    clear hW
    refine wp_loop_rounds 2 ?_
    rw [rounds_succ]
    go_wp2_with fail
    rw [rounds_succ]
    go_wp2_with fail
    refine bodyPost_ret_by (results_deedB (b := w.heap.size) (v := .bool false) rfl rfl rfl HZ2) rfl ⟨rfl, bel_set2 HB.out (Nat.le_refl _) _ _⟩
  obtain ⟨hn1, hn2, hn3, hn4, hn5⟩ := text_full hse
  have HHIT : Hid (∀ d : DeedV, deedB d = s → rdV s = d ∧ rdOk s = true) := fun d h => tries_hit hse h
  have HEND := Lib.hid (tries_end (s := s))
  have HTS : Hid (∀ d ∈ triesL s, d.2.size ≤ s.size) := fun d h => tries_size h
  have hl3 := tries_len s
  obtain ⟨L, HL⟩ : ∃ L, Hid (triesL s = L) := ⟨_, rfl⟩
  rw [HL.out] at HEND HTS hl3
  replace hl3 : L.length ≤ 1048576 := by omega
  obtain ⟨W, hW, ho0, hz0, hbel0, hsz0, HSE⟩ := tries_start w
  have HO0 := Lib.hid ho0
  have HZ0 := Lib.hid hz0
  have HB0 := Lib.hid hbel0
  clear hse ho0 hz0 hbel0
  have hd4 : decide ((4 : Int) < (s.size : Int)) = decide (4 < s.size) := by rw [Bool.eq_iff_iff, decide_eq_true_iff, decide_eq_true_iff]; omega
  have hd5 : decide ((5 : Int) < (s.size : Int)) = decide (5 < s.size) := by rw [Bool.eq_iff_iff, decide_eq_true_iff, decide_eq_true_iff]; omega
  by_cases h4 : 4 < s.size
  · rw [decide_eq_true h4] at hd4
    by_cases h5 : 5 < s.size
    · rw [decide_eq_true h5] at hd5
      have HLL : Hid (L = ([(2, ⟨#[]⟩)] ++ [(0, s.extract 5 s.size)]) ++ [(1, s.extract 4 s.size)]) := by
        unfold Hid
        rw [extract_drop, extract_drop, ← HL.out]; unfold triesL; rw [if_pos h4, if_pos h5]
      have h4i : (4 : Int) ≤ (s.size : Int) := by omega
      have h5i : (5 : Int) ≤ (s.size : Int) := by omega
      clear h4 h5
      go_enter Try.func17, Try.ntmps17
      go_wp2_with (first
        | (at_builtin; refine wp_append1D (W := W) rfl _ _ rfl (w.heap.size + 1) (.slice (some ⟨w.heap.size + 1, 0, none⟩) 1 1) [(2, ⟨#[]⟩)] rfl HO0.out 0 (s.extract 5 s.size) (by rw [HSE.out]; rfl) (by simp) hsz0 ?_; intro v1 w1 ho1 hg1; have HZ1 := Lib.hid ((HZ0.out.alloc _).grownO hg1 (fun k e => by have := (World.ownsRow.lt HO0.out k e).1; omega)); have HB1 := Lib.hid (below_appendD HB0.out (by omega) HO0.out (by omega) hg1); have hsz1 : w.heap.size + 1 ≤ w1.heap.size := (by have := hg1.size; rw [World.size_alloc] at this; omega); have HO1 := Lib.hid ho1; clear ho1 hg1 hW)
        | (at_builtin; refine wp_append1D (W := w1) rfl _ _ rfl (w.heap.size + 1) v1 _ rfl HO1.out 1 (s.extract 4 s.size) rfl (by simp) hsz1 ?_; intro v2 w2 ho hg2))
      have hz := (HZ1.out.alloc _).grownO hg2 (fun k e => by have := (World.ownsRow.lt HO1.out k e).1; omega)
      have hbel := below_appendD HB1.out (by omega) HO1.out (by omega) hg2
      rw [← HLL.out] at ho
      clear hg2 hsz0 hsz1 hd4 hd5 h4i h5i
      obtain ⟨A, c, rfl, _, _, _, _⟩ := ho.form
      have HO := Lib.hid ho
      have HZ := Lib.hid hz
      have HB := Lib.hid hbel
      clear ho hz hbel
      go_wp2_with fail
      go_loopw [5] (fun i wr => ∃ k : Nat, k ≤ L.length ∧ i = .int .i64 k ∧ Hid (NotYet s k) ∧ Hid (OwnsD wr (w.heap.size + 1) (.slice A L.length c) L) ∧ Hid (Box wr w.heap.size 24 [.int .i64 0, .string ⟨#[]⟩]) ∧ Hid (Below w.heap.size w wr)) (fun i _ => L.length - (Go.RowKit.intOf i).toNat)
      case atStart => exact ⟨0, Nat.zero_le _, rfl, (fun j d h => by omega), HO, HZ, HB⟩
      case round =>
        obtain ⟨k, hk, rfl, hny, hO, hZ, hB⟩ := hrel
        by_cases hlt : k < L.length
        · obtain ⟨b, off, f, g, rfl, hc0, hc1, hx, hbl⟩ := ((OwnsD.row hO.out hl3).hA).elem hlt
          have hgs : g.size ≤ 1048576 := Nat.le_trans (HTS.out (f, g) (elem_memD hx)) hs
          by_cases he : deedB (f, g) = s
          · have H12 := Lib.hid (HHIT.out (f, g) he)
            have HDT : Hid (∀ W : World, Calls Try.prog 13 #[.agg #[.int .i64 f, .string g]] W fun e w' => e = .returned (.string s) ∧ Below W.heap.size W w') := fun W => by
              have := sDeedText f g W hgs
              rw [he] at this; exact this
            clear he
            go_wp2_with (go_at_call 13; refine (HDT.out _).mono ?_; rintro e w2 ⟨rfl, hb⟩; have hB2 := Lib.hid (bel_trans hB.out hb); obtain ⟨⟨hz0, hz1, hz2, hz3⟩, ⟨hz4, hz5⟩, HZ2⟩ := (hZ.out.below hb).store2 (.int .i64 f) (.string g); have hd0 := ((Below.cell hb (p := ⟨b, off + k * 2, none⟩)) hbl.out).trans hc0; have hd1 := ((Below.cell hb (p := ⟨b, off + k * 2 + 1, none⟩)) hbl.out).trans hc1; clear hb hc0 hc1)
            refine bodyPost_ret_by (results_deedB (b := w.heap.size) (v := .bool true) rfl rfl rfl HZ2) rfl ⟨by rw [H12.out.1, H12.out.2], bel_set2 hB2.out (Nat.le_refl _) _ _⟩
          · have hne : ((deedB (f, g)).toList == s.toList) = false := str_ne he
            have HNX : Hid (NotYet s (k + 1)) := by
              intro j d hj hd hh
              by_cases e : j = k
              · subst e
                have := hx.out
                rw [HL.out] at hd
                rw [this] at hd
                cases hd
                exact he hh.2
              · exact hny.out j d (by omega) hd hh
            clear he
            go_wp2_with (go_at_call 13; refine (sDeedText f g _ hgs).mono ?_; rintro e w2 ⟨rfl, hb⟩; have hO2 := Lib.hid (hO.out.below hb); have hZ2 := Lib.hid (hZ.out.below hb); have hB2 := Lib.hid (bel_trans hB.out hb); clear hb hc0 hc1)
            go_roundw
            case rel => exact ⟨k + 1, by omega, by go_num, HNX, hO2, hZ2, hB2⟩
            case measure => simp [Go.RowKit.intOf]; omega
        · obtain rfl : k = L.length := by omega
          have H12 := Lib.hid (HEND.out hny.out)
          obtain ⟨⟨hz0, hz1, hz2, hz3⟩, ⟨hz4, hz5⟩, HZ2⟩ := hZ.out.store2 (.int .i64 0) (.string ⟨#[]⟩)
          go_wp2_with fail
          refine bodyPost_ret_by (results_deedB (b := w.heap.size) (v := .bool false) rfl rfl rfl HZ2) rfl ⟨by rw [H12.out.1, H12.out.2], bel_set2 hB.out (Nat.le_refl _) _ _⟩
    · rw [decide_eq_false h5] at hd5
      have HLL : Hid (L = [(2, ⟨#[]⟩)] ++ [(1, s.extract 4 s.size)]) := by
        unfold Hid
        rw [extract_drop, ← HL.out]; unfold triesL; rw [if_pos h4, if_neg h5]; rfl
      have h4i : (4 : Int) ≤ (s.size : Int) := by omega
      clear h4 h5
      go_enter Try.func17, Try.ntmps17
      go_wp2_with (at_builtin; refine wp_append1D (W := W) rfl _ _ rfl (w.heap.size + 1) (.slice (some ⟨w.heap.size + 1, 0, none⟩) 1 1) [(2, ⟨#[]⟩)] rfl HO0.out 1 (s.extract 4 s.size) (by rw [HSE.out]; rfl) (by simp) hsz0 ?_; intro v1 w1 ho hg1)
      have hz := (HZ0.out.alloc _).grownO hg1 (fun k e => by have := (World.ownsRow.lt HO0.out k e).1; omega)
      have hbel := below_appendD HB0.out (by omega) HO0.out (by omega) hg1
      rw [← HLL.out] at ho
      clear hg1 hsz0 hd4 hd5 h4i hW
      obtain ⟨A, c, rfl, _, _, _, _⟩ := ho.form
      have HO := Lib.hid ho
      have HZ := Lib.hid hz
      have HB := Lib.hid hbel
      clear ho hz hbel
      go_wp2_with fail
      go_loopw [5] (fun i wr => ∃ k : Nat, k ≤ L.length ∧ i = .int .i64 k ∧ Hid (NotYet s k) ∧ Hid (OwnsD wr (w.heap.size + 1) (.slice A L.length c) L) ∧ Hid (Box wr w.heap.size 24 [.int .i64 0, .string ⟨#[]⟩]) ∧ Hid (Below w.heap.size w wr)) (fun i _ => L.length - (Go.RowKit.intOf i).toNat)
      case atStart => exact ⟨0, Nat.zero_le _, rfl, (fun j d h => by omega), HO, HZ, HB⟩
      case round =>
        obtain ⟨k, hk, rfl, hny, hO, hZ, hB⟩ := hrel
        by_cases hlt : k < L.length
        · obtain ⟨b, off, f, g, rfl, hc0, hc1, hx, hbl⟩ := ((OwnsD.row hO.out hl3).hA).elem hlt
          have hgs : g.size ≤ 1048576 := Nat.le_trans (HTS.out (f, g) (elem_memD hx)) hs
          by_cases he : deedB (f, g) = s
          · have H12 := Lib.hid (HHIT.out (f, g) he)
            have HDT : Hid (∀ W : World, Calls Try.prog 13 #[.agg #[.int .i64 f, .string g]] W fun e w' => e = .returned (.string s) ∧ Below W.heap.size W w') := fun W => by
              have := sDeedText f g W hgs
              rw [he] at this; exact this
            clear he
            go_wp2_with (go_at_call 13; refine (HDT.out _).mono ?_; rintro e w2 ⟨rfl, hb⟩; have hB2 := Lib.hid (bel_trans hB.out hb); obtain ⟨⟨hz0, hz1, hz2, hz3⟩, ⟨hz4, hz5⟩, HZ2⟩ := (hZ.out.below hb).store2 (.int .i64 f) (.string g); have hd0 := ((Below.cell hb (p := ⟨b, off + k * 2, none⟩)) hbl.out).trans hc0; have hd1 := ((Below.cell hb (p := ⟨b, off + k * 2 + 1, none⟩)) hbl.out).trans hc1; clear hb hc0 hc1)
            refine bodyPost_ret_by (results_deedB (b := w.heap.size) (v := .bool true) rfl rfl rfl HZ2) rfl ⟨by rw [H12.out.1, H12.out.2], bel_set2 hB2.out (Nat.le_refl _) _ _⟩
          · have hne : ((deedB (f, g)).toList == s.toList) = false := str_ne he
            have HNX : Hid (NotYet s (k + 1)) := by
              intro j d hj hd hh
              by_cases e : j = k
              · subst e
                have := hx.out
                rw [HL.out] at hd
                rw [this] at hd
                cases hd
                exact he hh.2
              · exact hny.out j d (by omega) hd hh
            clear he
            go_wp2_with (go_at_call 13; refine (sDeedText f g _ hgs).mono ?_; rintro e w2 ⟨rfl, hb⟩; have hO2 := Lib.hid (hO.out.below hb); have hZ2 := Lib.hid (hZ.out.below hb); have hB2 := Lib.hid (bel_trans hB.out hb); clear hb hc0 hc1)
            go_roundw
            case rel => exact ⟨k + 1, by omega, by go_num, HNX, hO2, hZ2, hB2⟩
            case measure => simp [Go.RowKit.intOf]; omega
        · obtain rfl : k = L.length := by omega
          have H12 := Lib.hid (HEND.out hny.out)
          obtain ⟨⟨hz0, hz1, hz2, hz3⟩, ⟨hz4, hz5⟩, HZ2⟩ := hZ.out.store2 (.int .i64 0) (.string ⟨#[]⟩)
          go_wp2_with fail
          refine bodyPost_ret_by (results_deedB (b := w.heap.size) (v := .bool false) rfl rfl rfl HZ2) rfl ⟨by rw [H12.out.1, H12.out.2], bel_set2 hB.out (Nat.le_refl _) _ _⟩
  · rw [decide_eq_false h4] at hd4
    have h5 : ¬ 5 < s.size := by omega
    rw [decide_eq_false h5] at hd5
    have HLL : Hid (L = [(2, ⟨#[]⟩)]) := by
      unfold Hid
      rw [← HL.out]; unfold triesL; rw [if_neg h4, if_neg h5]; rfl
    have hL1 : (triesL s).length = 1 := by rw [HL.out, HLL.out]; rfl
    have HNOT : Hid (deedB (2, ⟨#[]⟩) ≠ s → rdV s = (0, ⟨#[]⟩) ∧ rdOk s = false) := fun hne => HEND.out fun j d hj hd hh => by
      rw [HLL.out] at hj
      have e0 : j = 0 := by simp at hj; exact hj
      rw [HL.out, HLL.out, e0] at hd
      cases hd
      exact hne hh.2
    have hbox : Box W (w.heap.size + 1) 24 [.int .i64 2, .string ⟨#[]⟩] := by
      rw [← hW]
      have := Box.new (w.alloc (.cells #[.int .i64 0, .string ⟨#[]⟩] 24)) 24 [.int .i64 2, .string ⟨#[]⟩]
      rw [World.size_alloc] at this
      exact this
    have HX := Lib.hid hbox
    clear h4 h5 hbox hL1
    obtain ⟨hc0, hc1⟩ : W.cell? ⟨w.heap.size + 1, 0, none⟩ = some (.int .i64 2) ∧ W.cell? ⟨w.heap.size + 1, 1, none⟩ = some (.string ⟨#[]⟩) := ⟨HX.out.cell rfl, HX.out.cell rfl⟩
    by_cases he : deedB (2, ⟨#[]⟩) = s
    · have H12 := Lib.hid (HHIT.out (2, ⟨#[]⟩) he)
      have HDT : Hid (∀ W : World, Calls Try.prog 13 #[.agg #[.int .i64 2, .string ⟨#[]⟩]] W fun e w' => e = .returned (.string s) ∧ Below W.heap.size W w') := fun W => by
        have := sDeedText 2 ⟨#[]⟩ W (Nat.zero_le _)
        rw [he] at this; exact this
      clear he
      go_enter Try.func17, Try.ntmps17
      go_wp2_with fail
      clear hW
      refine wp_loop_rounds 1 ?_
      rw [rounds_succ]
      go_wp2_with (go_at_call 13; refine (HDT.out _).mono ?_; rintro e w2 ⟨rfl, hb⟩; have hB2 := Lib.hid (bel_trans HB0.out hb); obtain ⟨⟨hz0, hz1, hz2, hz3⟩, ⟨hz4, hz5⟩, HZ2⟩ := (HZ0.out.below hb).store2 (.int .i64 2) (.string ⟨#[]⟩); have HX2 := HX.out.below hb; have hd0 := HX2.cell (i := 0) (v := .int .i64 2) rfl; have hd1 := HX2.cell (i := 1) (v := .string ⟨#[]⟩) rfl; clear hb hc0 hc1 HX2)
      refine bodyPost_ret_by (results_deedB (b := w.heap.size) (v := .bool true) rfl rfl rfl HZ2) rfl ⟨by rw [H12.out.1, H12.out.2], bel_set2 hB2.out (Nat.le_refl _) _ _⟩
    · have hne : ((deedB (2, ⟨#[]⟩)).toList == s.toList) = false := str_ne he
      have H12 := Lib.hid (HNOT.out he)
      clear he
      go_enter Try.func17, Try.ntmps17
      go_wp2_with fail
      clear hW
      refine wp_loop_rounds 2 ?_
      rw [rounds_succ]
      go_wp2_with (go_at_call 13; refine (sDeedText 2 ⟨#[]⟩ _ (Nat.zero_le _)).mono ?_; rintro e w2 ⟨rfl, hb⟩; have hB2 := Lib.hid (bel_trans HB0.out hb); obtain ⟨⟨hz0, hz1, hz2, hz3⟩, ⟨hz4, hz5⟩, HZ2⟩ := (HZ0.out.below hb).store2 (.int .i64 0) (.string ⟨#[]⟩); clear hb hc0 hc1)
      rw [rounds_succ]
      go_wp2_with fail
      refine bodyPost_ret_by (results_deedB (b := w.heap.size) (v := .bool false) rfl rfl rfl HZ2) rfl ⟨by rw [H12.out.1, H12.out.2], bel_set2 hB2.out (Nat.le_refl _) _ _⟩
end Go.Proofs.Ytobgnbgmpcilgaa

namespace Go.Proofs.Ytobgnbgmpcilgaa
open Go.RowKit

def ddU (d : DeedV) : Dd := ⟨d.1, bL d.2⟩
theorem deedB_of (d : DeedV) : bL (deedB d) = deedU (ddU d) := rfl
def linesB (ds : List DeedV) : List UInt8 := linesU (ds.map ddU)
def jourB (ds : List DeedV) : ByteArray := ofL (journalU (ds.map ddU))
theorem linesB_nil : linesB [] = [] := rfl
theorem linesB_snoc {ds : List DeedV} {k : Nat} {d : DeedV} (h : Hid (ds[k]? = some d)) : linesB (ds.take (k + 1)) = linesB (ds.take k) ++ (bL (deedB d) ++ [10]) := by
  unfold linesB
  rw [takeD_snoc h, List.map_append, List.map_cons, List.map_nil, lines_snoc]; rfl
theorem jour_none {ds : List DeedV} {d : DeedV} (h : d ∈ ds) (he : deedB d = ⟨#[]⟩) : jourB ds = ⟨#[]⟩ := by
  unfold jourB journalU
  rw [if_pos]
  · rfl
  · refine List.any_eq_true.2 ⟨ddU d, List.mem_map_of_mem h, ?_⟩
    rw [← deedB_of, he]; rfl
/-- The deeds so far have texts. -/
def TextsTo (ds : List DeedV) (k : Nat) : Prop := ∀ j d, j < k → ds[j]? = some d → deedB d ≠ ⟨#[]⟩
theorem TextsTo.next {ds : List DeedV} {k : Nat} {d : DeedV} (h : TextsTo ds k) (hx : Hid (ds[k]? = some d)) (hd : deedB d ≠ ⟨#[]⟩) : TextsTo ds (k + 1) := by
  intro j x hj hx2
  by_cases e : j = k
  · subst e
    rw [hx.out] at hx2; cases hx2; exact hd
  · exact h j x (by omega) hx2
theorem jour_end {ds : List DeedV} (h : TextsTo ds ds.length) : jourB ds = ofL (linesB ds) := by
  unfold jourB linesB
  rw [journal_lines]
  intro d hd he
  obtain ⟨x, hx, rfl⟩ := List.mem_map.1 hd
  obtain ⟨j, hj⟩ := List.mem_iff_getElem?.1 hx
  exact h j x (List.getElem?_eq_some_iff.1 hj).1 hj (bL_inj (by rw [deedB_of]; exact he))
theorem deed_size (d : DeedV) : (deedB d).size ≤ d.2.size + 5 := by
  rw [← bL_size]
  unfold deedB
  rw [bL_of]
  unfold deedU
  split
  · rw [List.length_append]; show 5 + (bL d.2).length ≤ _; rw [bL_size]; omega
  split
  · rw [List.length_append]; show 4 + (bL d.2).length ≤ _; rw [bL_size]; omega
  split
  · show 4 ≤ _; omega
  · exact Nat.zero_le _
theorem lines_size {ds : List DeedV} (hs : ∀ d ∈ ds, d.2.size ≤ 1048576) : ∀ k, k ≤ ds.length → (linesB (ds.take k)).length ≤ k * 1048582
  | 0, _ => by rw [List.take_zero]; exact Nat.zero_le _
  | k + 1, h => by
    have ih := lines_size hs k (by omega)
    have hx : Hid (ds[k]? = some ds[k]) := List.getElem?_eq_getElem (by omega)
    rw [linesB_snoc hx, List.length_append, List.length_append, bL_size]
    have := deed_size ds[k]
    have := hs ds[k] (List.getElem_mem _)
    show _ + (_ + 1) ≤ _
    omega
theorem append_bL (l : List UInt8) (s u : ByteArray) : l ++ (s ++ u).data.toList = l ++ (bL s ++ bL u) := by
  show l ++ bL (s ++ u) = _
  rw [bL_append]

set_option maxRecDepth 100000 in
set_option maxHeartbeats 4000000 in
theorem iJournalText (A : Option Addr) (n c : Nat) (ds : List DeedV) (w : World) (ha : DRow w A n c ds) (hs : ∀ d ∈ ds, d.2.size ≤ 1048576) :
    Calls Try.prog 19 #[.slice A n c] w fun e w' => e = .returned (.string (jourB ds)) ∧ Below w.heap.size w w' := by
  have HA := Lib.hid ha
  obtain rfl := ha.hn
  have hl := ha.hl
  have HS := Lib.hid hs
  have HSZ := Lib.hid (lines_size hs)
  have HNO : Hid (∀ d ∈ ds, deedB d = ⟨#[]⟩ → jourB ds = ⟨#[]⟩) := fun d hd he => jour_none hd he
  have HEND := Lib.hid (jour_end (ds := ds))
  obtain ⟨J, HJ⟩ : ∃ J, Hid (jourB ds = J) := ⟨_, rfl⟩
  rw [HJ.out] at HNO HEND ⊢
  have HBD : Hid (Bld w.heap.size w.heap.size [] (w.alloc (.cells #[.pointer none, .slice none 0 0] 71))) := Bld.new w
  clear ha hs
  go_enter Try.func19, Try.ntmps19
  go_wp2_with fail
  go_loopw [9] (fun i wr => ∃ k : Nat, k ≤ ds.length ∧ i = .int .i64 k ∧ Hid (TextsTo ds k) ∧ Hid (Bld w.heap.size w.heap.size (linesB (ds.take k)) wr) ∧ Hid (Below w.heap.size w wr)) (fun i _ => ds.length - (Go.RowKit.intOf i).toNat)
  case atStart => exact ⟨0, Nat.zero_le _, rfl, (fun j d h => by omega), HBD, (Below.refl _ _).alloc (Nat.le_refl _) _⟩
  case round =>
    obtain ⟨k, hk, rfl, hT, hBl, hB⟩ := hrel
    by_cases hlt : k < ds.length
    · obtain ⟨b, off, f, g, rfl, hc0, hc1, hx, hbl⟩ := (HA.out.hA.below hB.out).elem hlt
      have hgs : g.size ≤ 1048576 := HS.out (f, g) (elem_memD hx)
      have hds := deed_size (f, g)
      have HD : Hid (∀ W : World, Calls Try.prog 12 #[.agg #[.int .i64 f, .string g]] W fun e w' => e = .returned (.string (deedB (f, g))) ∧ Below W.heap.size W w') := fun W => iDeedText f g W hgs
      have HNX : Hid (deedB (f, g) ≠ ⟨#[]⟩ → TextsTo ds (k + 1)) := fun h => hT.out.next hx h
      have HL := Lib.hid (linesB_snoc hx)
      have HNK := Lib.hid (HNO.out (f, g) (elem_memD hx))
      obtain ⟨x, hxe⟩ : ∃ x, deedB (f, g) = x := ⟨_, rfl⟩
      rw [hxe] at HD HNX HL HNK hds
      clear hxe
      have hxz : x.size ≤ 1048581 := Nat.le_trans hds (by show g.size + 5 ≤ _; omega)
      clear hds
      by_cases he : x = ⟨#[]⟩
      · have HJE := Lib.hid (HNK.out he)
        subst he
        go_wp2_with (go_at_call 12; refine (HD.out _).mono ?_; rintro e w2 ⟨rfl, hb⟩; have hB2 := Lib.hid (bel_trans (hB.out.alloc hB.out.size _) hb); clear hb hc0 hc1)
        go_ret
        exact ⟨by rw [HJE.out] <;> rfl, hB2.out⟩
      · have HN2 := Lib.hid (HNX.out he)
        obtain ⟨hn1, hn2, hn3, hn4, hn5⟩ := text_full he
        have hz : (9223372036854775807 < x.size + 1) = False := by simp; omega
        have HSK := Lib.hid (HSZ.out k hk)
        clear he
        go_wp2_with (first
          | (go_at_call 12; refine (HD.out _).mono ?_; rintro e w2 ⟨rfl, hb⟩; have hB2 := Lib.hid (bel_trans (hB.out.alloc hB.out.size _) hb); have hBl2 := Lib.hid ((hBl.out.below ((Below.refl _ _).alloc (Nat.le_refl _) _)).below hb); clear hb hc0 hc1)
          | (go_at_call 49; refine (iWrite _ hBl2.out (by have := HSK.out; have : (x ++ ⟨#[10]⟩ : ByteArray).size = x.size + 1 := ByteArray.size_append; omega) hB2.out.size).mono ?_; rintro e w3 ⟨rfl, hBl3, hb⟩; have hB3 := Lib.hid (hB2.out.trans hb); have HB3 := Lib.hid hBl3; clear hb hBl3))
        go_roundw
        case rel => exact ⟨k + 1, by omega, by go_num, HN2, (by unfold Hid; rw [HL.out]; have := HB3.out; rw [append_bL] at this; exact this), hB3⟩
        case measure => simp [Go.RowKit.intOf]; omega
    · obtain rfl : k = ds.length := by omega
      have HJE := Lib.hid (HEND.out hT.out)
      have HBE := Lib.hid hBl.out
      rw [List.take_length] at HBE
      go_wp2_with (go_at_call 50; refine (iString HBE.out hB.out.size).mono ?_; rintro e w2 ⟨rfl, hb⟩; have hB2 := Lib.hid (hB.out.trans hb); clear hb)
      go_ret
      exact ⟨by rw [HJE.out] <;> rfl, hB2.out⟩

set_option maxRecDepth 100000 in
set_option maxHeartbeats 4000000 in
theorem sJournalText (A : Option Addr) (n c : Nat) (ds : List DeedV) (w : World) (ha : DRow w A n c ds) (hs : ∀ d ∈ ds, d.2.size ≤ 1048576) :
    Calls Try.prog 20 #[.slice A n c] w fun e w' => e = .returned (.string (jourB ds)) ∧ Below w.heap.size w w' := by
  have HA := Lib.hid ha
  obtain rfl := ha.hn
  have hl := ha.hl
  have HS := Lib.hid hs
  have HSZ := Lib.hid (lines_size hs)
  have HNO : Hid (∀ d ∈ ds, deedB d = ⟨#[]⟩ → jourB ds = ⟨#[]⟩) := fun d hd he => jour_none hd he
  have HEND := Lib.hid (jour_end (ds := ds))
  obtain ⟨J, HJ⟩ : ∃ J, Hid (jourB ds = J) := ⟨_, rfl⟩
  rw [HJ.out] at HNO HEND ⊢
  clear ha hs
  go_enter Try.func20, Try.ntmps20
  go_wp2_with fail
  go_loopw [3, 4] (fun o i wr => ∃ (k : Nat) (u : ByteArray), k ≤ ds.length ∧ i = .int .i64 k ∧ o = .string u ∧ Hid (bL u = linesB (ds.take k)) ∧ u.size ≤ k * 1048582 ∧ Hid (TextsTo ds k) ∧ Hid (Below w.heap.size w wr)) (fun _ i _ => ds.length - (Go.RowKit.intOf i).toNat)
  case atStart => exact ⟨0, ⟨#[]⟩, Nat.zero_le _, rfl, rfl, rfl, Nat.zero_le _, (fun j d h => by omega), Below.refl _ _⟩
  case round =>
    obtain ⟨k, u, hk, rfl, rfl, hU, hus, hT, hB⟩ := hrel
    by_cases hlt : k < ds.length
    · obtain ⟨b, off, f, g, rfl, hc0, hc1, hx, hbl⟩ := (HA.out.hA.below hB.out).elem hlt
      have hgs : g.size ≤ 1048576 := HS.out (f, g) (elem_memD hx)
      have hds := deed_size (f, g)
      have HD : Hid (∀ W : World, Calls Try.prog 13 #[.agg #[.int .i64 f, .string g]] W fun e w' => e = .returned (.string (deedB (f, g))) ∧ Below W.heap.size W w') := fun W => sDeedText f g W hgs
      have HNX : Hid (deedB (f, g) ≠ ⟨#[]⟩ → TextsTo ds (k + 1)) := fun h => hT.out.next hx h
      have HL := Lib.hid (linesB_snoc hx)
      have HNK := Lib.hid (HNO.out (f, g) (elem_memD hx))
      obtain ⟨x, hxe⟩ : ∃ x, deedB (f, g) = x := ⟨_, rfl⟩
      rw [hxe] at HD HNX HL HNK hds
      clear hxe
      have hxz : x.size ≤ 1048581 := Nat.le_trans hds (by show g.size + 5 ≤ _; omega)
      clear hds
      by_cases he : x = ⟨#[]⟩
      · have HJE := Lib.hid (HNK.out he)
        subst he
        go_wp2_with (go_at_call 13; refine (HD.out _).mono ?_; rintro e w2 ⟨rfl, hb⟩; have hB2 := Lib.hid (bel_trans hB.out hb); clear hb hc0 hc1)
        go_ret
        exact ⟨by rw [HJE.out] <;> rfl, hB2.out⟩
      · have HN2 := Lib.hid (HNX.out he)
        obtain ⟨hn1, hn2, hn3, hn4, hn5⟩ := text_full he
        have hz : (9223372036854775807 < u.size + x.size) = False := by simp; omega
        have hz2 : (9223372036854775807 < u.size + x.size + 1) = False := by simp; omega
        have HUN : Hid (bL ((u ++ x) ++ ⟨#[10]⟩) = linesB (ds.take (k + 1))) := by
          unfold Hid
          rw [HL.out, bL_append, bL_append, hU.out, List.append_assoc]; rfl
        have hsz : ((u ++ x) ++ ⟨#[10]⟩ : ByteArray).size ≤ (k + 1) * 1048582 := by
          rw [ByteArray.size_append, ByteArray.size_append]
          show u.size + x.size + 1 ≤ _
          omega
        have hsz2 := Lib.hid hsz
        clear he hsz
        go_wp2_with (go_at_call 13; refine (HD.out _).mono ?_; rintro e w2 ⟨rfl, hb⟩; have hB := Lib.hid (bel_trans hB.out hb); replace hc0 := ((Below.cell hb (p := ⟨b, off + k * 2, none⟩)) hbl.out).trans hc0; replace hc1 := ((Below.cell hb (p := ⟨b, off + k * 2 + 1, none⟩)) hbl.out).trans hc1; replace hbl := Lib.hid (Nat.lt_of_lt_of_le hbl.out hb.size); clear hb)
        go_roundw
        case rel => exact ⟨k + 1, _, by omega, by go_num, rfl, HUN, hsz2.out, HN2, by assumption⟩
        case measure => simp [Go.RowKit.intOf]; omega
    · obtain rfl : k = ds.length := by omega
      have HJE := Lib.hid (HEND.out hT.out)
      rw [List.take_length] at hU
      go_wp2_with fail
      go_ret
      exact ⟨by rw [HJE.out, ← hU.out, of_bL] <;> rfl, hB.out⟩
end Go.Proofs.Ytobgnbgmpcilgaa
