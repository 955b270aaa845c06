/-
  What the proofs of this seat's statements share (DdL, DdM, FrmD, TlkS).
-/
import Derived.Deep.RegionHeld3
import Derived.WalkKit
import Derived.ProofKit
import Derived.OpenShut
import Derived.ChangeOld
import Derived.Deep.SlicePairs
import Derived.Deep.QuietTactic
import Derived.Test.YtmdogidflaplkaaGreatU17
import Derived.Test.YtmdogidflaplkaaGreatU8

namespace Go.Proofs.YtmdogidflaplkaaGreat
open Go.RowKit

theorem results_deed2 {fn : Func} {r : Tmp} (h : fn.results = #[.cell r 30]) {tmps : Array Value} {w : World} {b : Nat} {x y : Value} (ht : tmps.getD r undef = .pointer (some ⟨b, 0, none⟩))
   (hc0 : w.cell? ⟨b, 0, none⟩ = some x) (hc1 : w.cell? ⟨b, 1, none⟩ = some y) : (results fn tmps).run Tryz.prog w = .ok (.agg #[x, y]) w := by
  have ht : tmps[r]?.getD undef = .pointer (some ⟨b, 0, none⟩) := by simpa using ht
  simp [results, h, ht, go_sem, hc0, hc1]
theorem bel_boxD {W : World} {T : TypeId} {a b : Value} : Below W.heap.size W (W.alloc (.cells #[a, b] T)) := (Below.refl _ _).alloc (Nat.le_refl _) _
theorem lToDeed (f : Int) (g : ByteArray) (w : World) :
    Calls Tryz.prog 24 #[.agg #[.int .i64 f, .string g]] w fun e w' => e = .returned (.agg #[.int .i64 f, .string g]) ∧ Below w.heap.size w w' := by
  go_enter Tryz.func24, Tryz.ntmps24
  go_wp2_with fail
  refine bodyPost_ret_by (results_deed2 (b := w.heap.size + 1) (x := .int .i64 f) (y := .string g) rfl rfl (by simp [go_sem]) (by simp [go_sem])) rfl ⟨rfl, ?_⟩
  exact ((bel_boxD).alloc (by rw [World.size_alloc]; omega) _).alloc (by rw [World.size_alloc, World.size_alloc]; omega) _
theorem lEqDeed (f : Int) (g : ByteArray) (w : World) :
    Calls Tryz.prog 67 #[.agg #[.int .i64 f, .string g], .agg #[.int .i64 f, .string g]] w fun e w' => e = .returned (.bool true) ∧ Below w.heap.size w w' := by
  have hd : (f != f) = false := by simp
  have hd2 := str_eq g
  go_enter Tryz.func67, Tryz.ntmps67
  go_wp2_with fail
  go_ret
  exact ⟨rfl, ((Below.refl _ _).alloc (Nat.le_refl _) _).alloc (by rw [World.size_alloc]; omega) _⟩
set_option maxHeartbeats 2000000 in
theorem lEqDeedS (A B : Option Addr) (n m c d : Nat) (ds : List DeedV) (w : World) (ha : DRow w A n c ds) (hb : DRow w B m d ds) :
    Calls Tryz.prog 30 #[.slice A n c, .slice B m d] w fun e w' => e = .returned (.bool true) ∧ Below w.heap.size w w' := by
  have HA := Lib.hid ha
  have HB := Lib.hid hb
  obtain rfl := ha.hn
  obtain rfl := hb.hn
  have hl := ha.hl
  have hd : ((ds.length : Int) != (ds.length : Int)) = false := by simp
  clear ha hb
  go_enter Tryz.func30, Tryz.ntmps30
  go_wp2_with fail
  clear hd
  go_loopw [5] (fun i wr => ∃ k : Nat, k ≤ ds.length ∧ i = .int .i64 k ∧ Below w.heap.size w wr) (fun i _ => ds.length - (Go.RowKit.intOf i).toNat)
  case atStart => exact ⟨0, Nat.zero_le _, rfl, Below.refl _ _⟩
  case round =>
    obtain ⟨k, hk, rfl, hbel⟩ := hrel
    have HBW := Lib.hid hbel
    clear hbel
    by_cases hlt : k < ds.length
    · obtain ⟨b, off, f, g, rfl, hc0, hc1, hx, hb1⟩ := (HA.out.hA.below HBW.out).elem hlt
      obtain ⟨b', off', f', g', rfl, hc0', hc1', hx', hb2⟩ := (HB.out.hA.below HBW.out).elem hlt
      have e := hx.out.symm.trans hx'.out
      simp only [Option.some.injEq, Prod.mk.injEq] at e
      obtain ⟨rfl, rfl⟩ := e
      go_wp2_with fail
      go_region_held3 (fun w' => w'.cell? ⟨b, off + k * 2, none⟩ = some (.int .i64 f) ∧ w'.cell? ⟨b, off + k * 2 + 1, none⟩ = some (.string g) ∧ w'.cell? ⟨b', off' + k * 2, none⟩ = some (.int .i64 f) ∧ w'.cell? ⟨b', off' + k * 2 + 1, none⟩ = some (.string g))
        (first | go_keep | exact ⟨hc0, hc1, hc0', hc1'⟩ | exact HKEEP.out)
        (first | (go_at_call 67; refine (lEqDeed f g _).mono ?_; rintro e w1 ⟨rfl, hb⟩; have HKEEP := Lib.hid (And.intro (((Below.cell hb (p := ⟨b, off + k * 2, none⟩)) hb1.out).trans hc0) (And.intro (((Below.cell hb (p := ⟨b, off + k * 2 + 1, none⟩)) hb1.out).trans hc1) (And.intro (((Below.cell hb (p := ⟨b', off' + k * 2, none⟩)) hb2.out).trans hc0') (((Below.cell hb (p := ⟨b', off' + k * 2 + 1, none⟩)) hb2.out).trans hc1')))); have HB2 := Lib.hid (bel_trans (bel_drewN HBW.out 1) hb); clear hb))
      all_goals
        go_wp2_with fail
        go_roundw
        case rel => exact ⟨k + 1, by omega, by go_num, HB2.out⟩
        case measure => simp [Go.RowKit.intOf]; omega
    · obtain rfl : k = ds.length := by omega
      go_wp2_with fail
      go_ret
      exact ⟨rfl, HBW.out⟩

/-! How long they are. -/
theorem lSzDeed (f : Int) (g : ByteArray) (l : Int) (w : World) (hl0 : 0 ≤ l) (hl1 : l ≤ 1048576) (hg : g.size ≤ 9223372036854775807) :
    Calls Tryz.prog 22 #[.agg #[.int .i64 f, .string g], .int .i64 l] w fun e w' => ∃ q : Int, e = .returned (.int .i64 q) ∧ q ≤ l ∧ (0 ≤ q → g.size ≤ 1048576) ∧ -1 ≤ q ∧ Below w.heap.size w w' := by
  by_cases h : l - (g.size : Int) < 0
  · have hd : decide (l - (g.size : Int) < 0) = true := decide_eq_true h
    go_enter Tryz.func22, Tryz.ntmps22
    go_wp2_with fail
    go_ret
    exact ⟨-1, rfl, by omega, by omega, by omega, (Below.refl _ _).alloc (Nat.le_refl _) _⟩
  · have hd : decide (l - (g.size : Int) < 0) = false := decide_eq_false h
    go_enter Tryz.func22, Tryz.ntmps22
    go_wp2_with fail
    go_ret
    exact ⟨l - (g.size : Int), rfl, by omega, by omega, by omega, (Below.refl _ _).alloc (Nat.le_refl _) _⟩
set_option maxHeartbeats 2000000 in
theorem lSzDeedS (A : Option Addr) (n c : Nat) (ds : List DeedV) (l : Int) (w : World) (hn : n = ds.length) (hc : n ≤ c) (hm : c ≤ maxLen) (hA : Deeds w A ds) (hs : ∀ d ∈ ds, d.2.size ≤ maxLen) (hl0 : 0 ≤ l) (hl1 : l ≤ 1048576) :
    Calls Tryz.prog 28 #[.slice A n c, .int .i64 l] w fun e w' => ∃ q : Int, e = .returned (.int .i64 q) ∧ q ≤ l ∧ (0 ≤ q → n ≤ 1048576 ∧ ∀ d ∈ ds, d.2.size ≤ 1048576) ∧ -1 ≤ q ∧ Below w.heap.size w w' := by
  subst hn
  have hm' : ds.length ≤ 9223372036854775807 := by unfold maxLen at hm; omega
  have HA := Lib.hid hA
  have HS := Lib.hid hs
  clear hA hs hc hm
  by_cases hl : l - (ds.length : Int) < 0
  · have hd : decide (l - (ds.length : Int) < 0) = true := decide_eq_true hl
    go_enter Tryz.func28, Tryz.ntmps28
    go_wp2_with fail
    go_ret
    exact ⟨-1, rfl, by omega, by omega, by omega, Below.refl _ _⟩
  have hd : decide (l - (ds.length : Int) < 0) = false := decide_eq_false hl
  go_enter Tryz.func28, Tryz.ntmps28
  go_wp2_with fail
  clear hd
  go_loopw [1, 5] (fun q i wr => ∃ (k : Nat) (v : Int), k ≤ ds.length ∧ i = .int .i64 k ∧ q = .int .i64 v ∧ 0 ≤ v ∧ v ≤ l ∧ Hid (∀ j d, j < k → ds[j]? = some d → d.2.size ≤ 1048576) ∧ Hid (Below w.heap.size w wr)) (fun _ i _ => ds.length - (Go.RowKit.intOf i).toNat)
  case atStart => exact ⟨0, _, Nat.zero_le _, rfl, rfl, by omega, by omega, (fun j d h => by omega), Below.refl _ _⟩
  case round =>
    obtain ⟨k, v, hk, rfl, rfl, hv0, hv1, HSO, HB⟩ := hrel
    by_cases hlt : k < ds.length
    · obtain ⟨b, off, f, g, rfl, hc0, hc1, hx, _⟩ := (HA.out.below HB.out).elem hlt
      have hg := HS.out (f, g) (elem_memD hx)
      go_wp2_with fail
      refine (lSzDeed f g v _ hv0 (by omega) (by unfold maxLen at hg; exact hg)).mono ?_
      rintro e w2 ⟨q, rfl, hq1, hq2, hq3, hb⟩
      have HB2 := Lib.hid (bel_trans HB.out hb)
      have HQ := Lib.hid hq2
      clear hb hq2
      by_cases hq : q < 0
      · have hd : decide (q < 0) = true := decide_eq_true hq
        go_wp2_with fail
        go_ret
        exact ⟨-1, rfl, by omega, by omega, by omega, HB2.out⟩
      · have hd : decide (q < 0) = false := decide_eq_false hq
        have HSN : Hid (∀ j d, j < k + 1 → ds[j]? = some d → d.2.size ≤ 1048576) := by
          intro j d hj hdj
          by_cases e : j = k
          · subst e
            rw [hx.out] at hdj; cases hdj; exact HQ.out (by omega)
          · exact HSO.out j d (by omega) hdj
        go_wp2_with fail
        go_roundw
        case rel => exact ⟨k + 1, q, by omega, by go_num, rfl, by omega, by omega, HSN, HB2⟩
        case measure => simp [Go.RowKit.intOf]; omega
    · obtain rfl : k = ds.length := by omega
      have HALL : Hid (∀ d ∈ ds, d.2.size ≤ 1048576) := fun d hd => by
        obtain ⟨j, hj⟩ := List.mem_iff_getElem?.1 hd
        exact HSO.out j d (List.getElem?_eq_some_iff.1 hj).1 hj
      go_wp2_with fail
      go_ret
      exact ⟨v, rfl, by omega, fun _ => ⟨by omega, HALL.out⟩, by omega, HB.out⟩
end Go.Proofs.YtmdogidflaplkaaGreat

namespace Go.Proofs.YtmdogidflaplkaaGreat
open Go.RowKit

/-- The marks of n deeds from k on. -/
def marksD (k : Nat) (n : Nat) : List DeedV := (List.range n).map fun i : Nat => (((k + 2 * i : Nat) : Int), markB (k + 2 * i + 1))
theorem marksD_len (k : Nat) (n : Nat) : (marksD k n).length = n := by unfold marksD; simp
theorem flatD_set0 : ∀ (es : List DeedV) (k : Nat) (a : Int) {d : DeedV}, es[k]? = some d → (flatD es).set (k * 2) (.int .i64 a) = flatD (es.set k (a, d.2))
  | [], k, a, d, h => by simp at h
  | x :: es, 0, a, d, h => by cases h; rfl
  | x :: es, k + 1, a, d, h => by
    rw [List.getElem?_cons_succ] at h
    rw [flatD_cons, show (k + 1) * 2 = k * 2 + 1 + 1 by omega, List.set_cons_succ, List.set_cons_succ, List.set_cons_succ, flatD_cons, flatD_set0 es k a h]
theorem flatD_set1 : ∀ (es : List DeedV) (k : Nat) (b : ByteArray) {d : DeedV}, es[k]? = some d → (flatD es).set (k * 2 + 1) (.string b) = flatD (es.set k (d.1, b))
  | [], k, b, d, h => by simp at h
  | x :: es, 0, b, d, h => by cases h; rfl
  | x :: es, k + 1, b, d, h => by
    rw [List.getElem?_cons_succ] at h
    rw [flatD_cons, show (k + 1) * 2 + 1 = (k * 2 + 1) + 1 + 1 by omega, List.set_cons_succ, List.set_cons_succ, List.set_cons_succ, flatD_cons, flatD_set1 es k b h]
theorem grownB {w w' : World} (hb : Below w.heap.size w w') (row : Option Nat) : w.grownBy w' row := ⟨hb.os, hb.tape, hb.output, hb.size, fun k hk _ => hb.block k hk⟩
/-- The row that the copying loop fills. -/
def partD (ds : List DeedV) (k : Nat) : Nat → Value := fun j => if j < k * 2 then ((flatD ds)[j]?).getD (.int .i64 0) else (if j % 2 = 0 then .int .i64 0 else .string ⟨#[]⟩)
theorem made_twoD (m : Nat) : ∀ i, i < (madeCells #[Value.int .i64 0, .string ⟨#[]⟩] (m * 2)).size → (madeCells #[Value.int .i64 0, .string ⟨#[]⟩] (m * 2))[i]? = some (if i % 2 = 0 then .int .i64 0 else .string ⟨#[]⟩) := by
  intro i hi
  rw [size_madeCells] at hi
  have h2 : i % 2 = 0 ∨ i % 2 = 1 := by omega
  unfold madeCells
  rw [Array.getElem?_map, Array.getElem?_range, if_pos hi]
  rcases h2 with h | h <;> simp [h]
theorem rowD_made (w : World) (n : Nat) (ds : List DeedV) : (w.alloc (.cells (madeCells #[Value.int .i64 0, .string ⟨#[]⟩] (n * 2)) 30)).rowIs w.heap.size 30 (n * 2) (partD ds 0) := by
  have := World.rowIs_alloc w (madeCells #[Value.int .i64 0, .string ⟨#[]⟩] (n * 2)) 30 (partD ds 0) (fun i hi => by rw [made_twoD _ i hi]; unfold partD; rw [if_neg (show ¬ i < 0 * 2 by omega)])
  rwa [size_madeCells] at this
theorem partD_next {w : World} {g : Nat} {ds : List DeedV} {k : Nat} {a : Int} {b : ByteArray} (h : w.rowIs g 30 (ds.length * 2) (partD ds k)) (hx : Hid (ds[k]? = some (a, b))) :
    ((w.setCell ⟨g, k * 2, none⟩ (.int .i64 a)).setCell ⟨g, k * 2 + 1, none⟩ (.string b)).rowIs g 30 (ds.length * 2) (partD ds (k + 1)) := by
  obtain ⟨e1, e2⟩ := flatD_at hx.out
  refine ((h.set (k * 2) _).set (k * 2 + 1) _).congr fun j hj => ?_
  unfold partD
  by_cases e : j = k * 2 + 1
  · subst e
    rw [if_pos rfl, if_pos (by omega), e2]; rfl
  · rw [if_neg e]
    by_cases e' : j = k * 2
    · subst e'
      rw [if_pos rfl, if_pos (by omega), e1]; rfl
    · rw [if_neg e']
      by_cases h1 : j < k * 2
      · rw [if_pos h1, if_pos (by omega)]
      · rw [if_neg h1, if_neg (show ¬ j < (k + 1) * 2 by omega)]
theorem owns_of_rowD {w : World} {base g : Nat} {ds : List DeedV} (h : w.rowIs g 30 (ds.length * 2) (partD ds ds.length)) (hb : base ≤ g) (hm : ds.length ≤ maxLen) : OwnsD w base (.slice (some ⟨g, 0, none⟩) ds.length ds.length) ds := by
  obtain ⟨c, hg, hn, hc⟩ := h
  refine ⟨flatD_len ds, .inr ⟨g, ds.length, c, rfl, hb, hg, Nat.le_refl _, hm, by omega, ?_⟩⟩
  apply List.ext_getElem?
  intro i
  rw [List.getElem?_take]
  by_cases hi : i < ds.length * 2
  · rw [if_pos (by omega), Array.getElem?_toList, hc i hi]
    unfold partD
    rw [if_pos hi, List.getElem?_eq_getElem (by rw [flatD_len]; exact hi)]; rfl
  · rw [if_neg (by omega), List.getElem?_eq_none (by rw [flatD_len]; omega)]
theorem run_make_D (n : Nat) (hn : n ≤ 1048576) (W : World) : (Instr.makeSlice 42 (.int .i64 (n : Int)) (.int .i64 (n : Int))).run Tryz.prog W = .ok (.slice (some ⟨W.heap.size, 0, none⟩) n n) (W.alloc (.cells (madeCells #[Value.int .i64 0, .string ⟨#[]⟩] (n * 2)) 30)) := by
  obtain ⟨i0, hi0, hz0, hz1, hz2⟩ := info_parts deed_info
  have h := run_make (P := Tryz.prog) W 42 30 i0 _ Tryz.underlying42 hi0 hz0 .i64 .i64 (n : Int) (n : Int) (by omega) (Int.le_refl _) (by rw [hz2]; omega) (by omega)
  rw [hz1, Int.toNat_natCast] at h
  exact h
set_option maxHeartbeats 2000000 in
theorem lToDeedS (A : Option Addr) (n c : Nat) (ds : List DeedV) (w : World) (hn : n = ds.length) (hl : n ≤ 1048576) (hA : Deeds w A ds) :
    Calls Tryz.prog 29 #[.slice A n c] w fun e w' => ∃ v, e = .returned v ∧ OwnsD w' w.heap.size v ds ∧ Below w.heap.size w w' := by
  subst hn
  have HA := Lib.hid hA
  clear hA
  have hmk := fun W => run_make_D ds.length hl W
  go_enter Tryz.func29, Tryz.ntmps29
  go_wp2_with fail
  clear hmk
  go_loopw [4] (fun i wr => ∃ k : Nat, k ≤ ds.length ∧ i = .int .i64 k ∧ Hid (wr.rowIs w.heap.size 30 (ds.length * 2) (partD ds k)) ∧ Hid (Below w.heap.size w wr)) (fun i _ => ds.length - (Go.RowKit.intOf i).toNat)
  case atStart => exact ⟨0, Nat.zero_le _, rfl, rowD_made _ _ _, (Below.refl _ _).alloc (Nat.le_refl _) _⟩
  case round =>
    obtain ⟨k, hk, rfl, HW, HB⟩ := hrel
    by_cases hlt : k < ds.length
    · obtain ⟨b, off, f, g, rfl, hc0, hc1, hx, _⟩ := (HA.out.below HB.out).elem hlt
      go_wp2_with fail
      refine (lToDeed f g _).mono ?_
      rintro e w1 ⟨rfl, hb⟩
      have HB2 := Lib.hid (bel_trans HB.out hb)
      have HW2 := Lib.hid (HW.out.of_block (hb.block _ HW.out.lt))
      have hd1 := HW2.out.cell (i := k * 2) (by omega)
      have hf1 := HW2.out.frozen (k * 2)
      have hd2 := HW2.out.cell (i := k * 2 + 1) (by omega)
      have hf2 := HW2.out.frozen (k * 2 + 1)
      unfold partD at hd1 hd2
      rw [if_neg (show ¬ k * 2 < k * 2 by omega), if_pos (show k * 2 % 2 = 0 by omega)] at hd1
      rw [if_neg (show ¬ k * 2 + 1 < k * 2 by omega), if_neg (show ¬ (k * 2 + 1) % 2 = 0 by omega)] at hd2
      clear hb hc0 hc1
      go_wp2_with fail
      go_roundw
      case rel => exact ⟨k + 1, by omega, by go_num, partD_next HW2.out hx, (HB2.out.setCell (Nat.le_refl _) _).setCell (Nat.le_refl _) _⟩
      case measure => simp [Go.RowKit.intOf]; omega
    · obtain rfl : k = ds.length := by omega
      go_wp2_with fail
      go_ret
      exact ⟨_, rfl, owns_of_rowD HW.out (Nat.le_refl _) (by unfold maxLen; omega), HB.out⟩
end Go.Proofs.YtmdogidflaplkaaGreat

namespace Go.Proofs.YtmdogidflaplkaaGreat
open Go.ChangeShapes Go.WideShapes Go.ChangeAt Go.RowKit Go.Deep

theorem cells_deed : Tryz.prog.cellsOf 51 = 2 := by kernel_rfl
theorem cells_numD : Tryz.prog.cellsOf 3 = 1 := by kernel_rfl
theorem cells_strD : Tryz.prog.cellsOf 9 = 1 := by kernel_rfl
section
variable {H : Type} {enc : TypeId × Value → H} {w : World} {base : Nat} {spare : Nat → Bool} {held : Bool}
set_option maxRecDepth 100000 in
theorem deed_of_trod {r : Reach} {b0 : Nat} {v : Value} {d : DataW H} {ps : List MemPlace} (hval : Value.okWide Tryz.prog w r b0 51 v) (h : DataW.Trod enc Tryz.prog w base spare held 51 v d ps) :
    ∃ (f : Int) (g : ByteArray), v = .agg #[.int .i64 f, .string g] ∧ g.size ≤ maxLen := by
  obtain ⟨cs, rfl, hs⟩ := okWide_struct Tryz.underlying51 hval
  obtain ⟨fuel, hf⟩ := h
  obtain ⟨y0, y1, n, _, hl, h0, h1⟩ := trod_struct2 Tryz.underlying51 hf
  rw [cells_deed] at hs
  obtain ⟨l⟩ := cs
  match l, hs with
  | [c0, c1], _ =>
    simp only [cells_numD, cells_strD] at h0 h1
    obtain ⟨k0, e0, _, _⟩ := DataW.trod_int Tryz.underlying3 h0
    obtain ⟨k1, e1, _, hsz⟩ := DataW.trod_string Tryz.underlying9 h1
    simp [Value.cells] at e0 e1
    exact ⟨k0, k1, by rw [e0, e1], hsz⟩
def numVD : Value → Int
  | .int _ n => n
  | _ => 0
def strVD : Value → ByteArray
  | .string s => s
  | _ => ByteArray.empty
set_option maxRecDepth 100000 in
theorem deeds_of_trod {A : Option Addr} {len cap : Nat} {d : DataW H} {ps : List MemPlace} (h : DataW.Trod enc Tryz.prog w base spare held 58 (.slice A len cap) d ps) :
    ∃ ds : List DeedV, len = ds.length ∧ len ≤ cap ∧ cap ≤ maxLen ∧ Deeds w A ds ∧ ∀ d ∈ ds, d.2.size ≤ maxLen := by
  obtain ⟨fuel, hf⟩ := h
  rcases open_slice_pairs Tryz.underlying58 Tryz.underlying51 cells_deed rfl rfl cells_numD cells_strD hf with ⟨hcs, _⟩ | ⟨a, l, c, m, n, V0, V1, D0, D1, P0, P1, hcs, _, hl, hm, hmm, _, hx⟩
  · simp [Value.cells] at hcs
    obtain ⟨rfl, rfl, rfl⟩ := hcs
    exact ⟨[], rfl, Nat.le_refl _, Nat.zero_le _, (fun h => absurd h (Nat.lt_irrefl 0)), fun d h => by cases h⟩
  · simp [Value.cells] at hcs
    obtain ⟨rfl, rfl, rfl⟩ := hcs
    have hlm : len ≤ m := by rw [hmm]; split <;> omega
    have each : ∀ i, i < len → ∃ (k : Int) (s : ByteArray), V0 i = .int .i64 k ∧ V1 i = .string s ∧ s.size ≤ maxLen := fun i hi => by
      obtain ⟨_, _, t0, t1⟩ := hx i (by omega)
      obtain ⟨k0, e0, _, _⟩ := DataW.trod_int Tryz.underlying3 t0
      obtain ⟨k1, e1, _, hsz⟩ := DataW.trod_string Tryz.underlying9 t1
      exact ⟨k0, k1, by simpa [Value.cells] using e0, by simpa [Value.cells] using e1, hsz⟩
    refine ⟨(List.range len).map fun i => (numVD (V0 i), strVD (V1 i)), by simp, hl, hm, fun hp => ?_, fun d hd => ?_⟩
    · simp only [List.length_map, List.length_range] at hp
      have hsp : a.spot = none := by
        have := (hx 0 (by omega)).1
        have := World.cell?_spot this
        simpa [Addr.add] using this
      obtain ⟨b, off, spot⟩ := a
      subst hsp
      refine ⟨b, off, rfl, ?_, fun i d hd => ?_⟩
      · have := (hx 0 (by omega)).1
        exact World.block_lt_of_cell? w _ this
      · have hi : i < len := Classical.byContradiction fun hn => by
          rw [List.getElem?_eq_none (by simp only [List.length_map, List.length_range]; omega)] at hd; cases hd
        rw [List.getElem?_map, List.getElem?_range hi] at hd
        obtain rfl := Option.some.inj hd
        obtain ⟨c0, c1, _, _⟩ := hx i (by omega)
        obtain ⟨k0, k1, f0, f1, _⟩ := each i hi
        rw [add_plain] at c0 c1
        rw [f0] at c0
        rw [f1] at c1
        refine ⟨?_, ?_⟩
        · rw [c0]; show some (Value.int .i64 k0) = some (Value.int .i64 (numVD (V0 i))); rw [f0]; rfl
        · rw [Nat.add_assoc, c1]; show some (Value.string k1) = some (Value.string (strVD (V1 i))); rw [f1]; rfl
    · obtain ⟨i, hi, rfl⟩ := List.mem_map.1 hd
      rw [List.mem_range] at hi
      obtain ⟨_, s, _, f1, hsz⟩ := each i hi
      show (strVD (V1 i)).size ≤ maxLen
      rw [f1]; exact hsz
end
end Go.Proofs.YtmdogidflaplkaaGreat

namespace Go.Proofs.YtmdogidflaplkaaGreat
open Go.RowKit

theorem sett_is {t k : Int} {s : ByteArray} : asksT.sett t k s = anyWithin k (issueT t s) := rfl
set_option maxRecDepth 100000 in
theorem sSettled9 {t k : Int} {s : ByteArray} {b : Bool} (hx : Hid (asksT.isS t s = true)) (hb : Hid (asksT.sett t k s = b)) (w : World) (hk : 0 ≤ k) (hk2 : k < 256) :
    Calls Tryz.prog 43 #[.int .i64 t, .int .i64 k, .string s] w fun e w' => e = .returned (.bool b) ∧ Below w.heap.size w w' := by
  obtain ⟨x, hx⟩ := isS_some.1 hx.out
  have HX := Lib.hid hx
  have hi := (issueT_some hx).1
  have hlen := issueT_len t s
  rw [sett_is, hi] at hb
  rw [hi] at hlen
  have HOK : Hid (∀ y ∈ issueS t x, 0 ≤ y ∧ y < 256) := by have := issue_range (issueT_ok hx); rw [hi] at this; exact this
  obtain ⟨l, HL⟩ : ∃ l, Hid (issueS t x = l) := ⟨_, rfl⟩
  rw [HL.out] at hb hlen HOK
  clear hx hi
  go_enter Tryz.func43, Tryz.ntmps43
  go_wp2_with fail
  refine (sRead_some HX.out _).mono ?_
  rintro e w1 ⟨v, a2, rfl, _, _, ho, hbel⟩
  rw [HL.out] at ho
  obtain ⟨A, c, rfl, _, _, _, _⟩ := ho.form
  have HR := Lib.hid (Owns.row ho (by omega))
  have HB := Lib.hid hbel
  clear ho hbel
  go_wp2_with fail
  refine (sL2Settles_is hb A l.length c _ rfl hk hk2 HOK.out (by omega) (by exact HR.out.hA)).mono ?_
  rintro e w2 ⟨rfl, n, rfl⟩
  go_wp2_with fail
  go_ret
  exact ⟨rfl, bel_drewN HB.out _⟩

/-- No two of them equal, all of them open. -/
def goodTo (t k : Int) (xs : List ByteArray) : Bool := xs.all (fun s => asksT.isS t s && !asksT.sett t k s) && decide xs.Nodup
theorem good_snocS {t k : Int} {xs : List ByteArray} {x : ByteArray} (h : goodTo t k xs = true) (h1 : asksT.isS t x = true) (h2 : asksT.sett t k x = false) (h3 : x ∉ xs) : goodTo t k (xs ++ [x]) = true := by
  unfold goodTo at *
  rw [Bool.and_eq_true, decide_eq_true_eq] at *
  refine ⟨?_, ?_⟩
  · rw [List.all_append, h.1]; simp [h1, h2]
  · rw [List.nodup_append]
    exact ⟨h.2, by simp, fun a ha b hb e => by rw [List.mem_singleton] at hb; rw [e, hb] at ha; exact h3 ha⟩
theorem bad_state {t k : Int} {xs : List ByteArray} {x : ByteArray} (hm : x ∈ xs) (h : asksT.isS t x = false ∨ asksT.sett t k x = true) : stateOk asksT t ⟨k, xs⟩ = false := by
  cases hs : stateOk asksT t ⟨k, xs⟩ with
  | false => rfl
  | true =>
    obtain ⟨_, _, _, h4, _⟩ := (state_parts asksT).1 hs
    obtain ⟨h5, h6⟩ := h4 x hm
    rcases h with h | h
    · rw [h] at h5; cases h5
    · rw [h] at h6; cases h6
theorem bad_twice {t k : Int} {xs : List ByteArray} {i j : Nat} {x : ByteArray} (hi : xs[i]? = some x) (hj : xs[j]? = some x) (hne : j < i) : stateOk asksT t ⟨k, xs⟩ = false := by
  cases hs : stateOk asksT t ⟨k, xs⟩ with
  | false => rfl
  | true =>
    obtain ⟨_, _, _, _, h5⟩ := (state_parts asksT).1 hs
    obtain ⟨hi1, hi2⟩ := List.getElem?_eq_some_iff.1 hi
    obtain ⟨hj1, hj2⟩ := List.getElem?_eq_some_iff.1 hj
    exact absurd (by show xs[j] = xs[i]; rw [hj2, hi2]) (List.pairwise_iff_getElem.1 h5 j i hj1 hi1 hne)
theorem state_end {t k : Int} {xs : List ByteArray} (h : goodTo t k xs = true) : stateOk asksT t ⟨k, xs⟩ = (setOkB t k && decide (k ≠ 0) && decide (xs.length ≤ 4)) := by
  unfold goodTo at h
  rw [Bool.and_eq_true] at h
  unfold stateOk
  show (setOkB t k && decide (k ≠ 0) && decide (xs.length ≤ 4) && (xs.all fun s => asksT.isS t s && !asksT.sett t k s) && decide xs.Nodup) = _
  rw [h.1, h.2, Bool.and_true, Bool.and_true]
theorem settled_bad {t k : Int} {xs : List ByteArray} (h : setOkB t k = false) : stateOk asksT t ⟨k, xs⟩ = false := by
  unfold stateOk
  show (setOkB t k && decide (k ≠ 0) && _ && _ && _) = false
  rw [h]; rfl
/-! The same for sets that are none. -/
set_option maxHeartbeats 400000 in
theorem sBothAny (a b : Int) (w : World) : Calls Tryz.prog 41 #[.int .i64 a, .int .i64 b] w fun e w' => (∃ v : Int, e = .returned (.int .i64 v)) ∧ ∃ n, w' = w.drewN n := by
  go_enter Tryz.func41, Tryz.ntmps41
  go_wp2
  go_loopw [5, 6] (fun t i wr => ∃ (k : Nat) (v : Int), k ≤ 8 ∧ i = .int .i64 k ∧ t = .int .i64 v ∧ ∃ n, wr = w.drewN n) (fun _ i _ => 8 - (Go.RowKit.intOf i).toNat)
  case atStart => exact ⟨0, 0, by omega, rfl, rfl, 0, rfl⟩
  case round =>
    obtain ⟨k, v, hk, rfl, rfl, n, rfl⟩ := hrel
    by_cases hlt : k < 8
    · go_wp2
      go_quiet (fail)
      go_wp2
      go_roundw
      case rel => exact ⟨k + 1, _, by omega, by go_num, rfl, _, rfl⟩
      case measure => simp [Go.RowKit.intOf]; omega
    · obtain rfl : k = 8 := by omega
      go_wp2
      go_ret
      exact ⟨⟨_, rfl⟩, _, rfl⟩
theorem sWithinAny (a b : Int) (w : World) : Calls Tryz.prog 44 #[.int .i64 a, .int .i64 b] w fun e w' => (∃ v : Bool, e = .returned (.bool v)) ∧ ∃ n, w' = w.drewN n := by
  go_enter Tryz.func44, Tryz.ntmps44
  go_wp2_with fail
  refine (sBothAny a b _).mono ?_
  rintro e w' ⟨⟨v, rfl⟩, n, rfl⟩
  go_wp2_with fail
  go_ret
  exact ⟨⟨_, rfl⟩, _, rfl⟩
set_option maxHeartbeats 1000000 in
theorem sL2SettlesAny (A : Option Addr) (n c : Nat) (xs : List Int) (s : Int) (w : World) (hn : n = xs.length) (hl : n ≤ 1048576) (hA : Nums .i64 w A xs) :
    Calls Tryz.prog 78 #[.slice A n c, .int .i64 s] w fun e w' => (∃ v : Bool, e = .returned (.bool v)) ∧ ∃ n, w' = w.drewN n := by
  subst hn
  have HA := Lib.hid hA
  clear hA
  go_enter Tryz.func78, Tryz.ntmps78
  go_wp2
  go_loopw [5] (fun i wr => ∃ k : Nat, k ≤ xs.length ∧ i = .int .i64 k ∧ ∃ n, wr = w.drewN n) (fun i _ => xs.length - (Go.RowKit.intOf i).toNat)
  case atStart => exact ⟨0, Nat.zero_le _, rfl, 0, rfl⟩
  case round =>
    obtain ⟨k, hk, rfl, n, rfl⟩ := hrel
    by_cases hlt : k < xs.length
    · obtain ⟨b, off, x, rfl, hcell, hx, _⟩ := HA.out.elem hlt
      go_wp2_with fail
      refine (sWithinAny s x _).mono ?_
      rintro e w' ⟨⟨v, rfl⟩, m, rfl⟩
      cases v
      · go_wp2_with fail
        go_roundw
        case rel => exact ⟨k + 1, by omega, by go_num, _, rfl⟩
        case measure => simp [Go.RowKit.intOf]; omega
      · go_wp2_with fail
        go_ret
        exact ⟨⟨_, rfl⟩, _, rfl⟩
    · obtain rfl : k = xs.length := by omega
      go_wp2
      go_ret
      exact ⟨⟨_, rfl⟩, _, rfl⟩
set_option maxRecDepth 100000 in
theorem sSettledAny {t k : Int} {s : ByteArray} (hx : Hid (asksT.isS t s = true)) (w : World) :
    Calls Tryz.prog 43 #[.int .i64 t, .int .i64 k, .string s] w fun e w' => ∃ b : Bool, e = .returned (.bool b) ∧ (setOkB t k = true → b = asksT.sett t k s) ∧ Below w.heap.size w w' := by
  by_cases hk : setOkB t k = true
  · obtain ⟨_, _, h0, _, h256⟩ := setOkB_lt hk
    refine (sSettled9 hx (b := asksT.sett t k s) rfl w h0 h256).mono ?_
    rintro e w' ⟨rfl, hb⟩
    exact ⟨_, rfl, fun _ => rfl, hb⟩
  obtain ⟨x, hx⟩ := isS_some.1 hx.out
  have HX := Lib.hid hx
  have hi := (issueT_some hx).1
  have hlen := issueT_len t s
  rw [hi] at hlen
  obtain ⟨l, HL⟩ : ∃ l, Hid (issueS t x = l) := ⟨_, rfl⟩
  rw [HL.out] at hlen
  have HK := Lib.hid hk
  clear hx hi hk
  go_enter Tryz.func43, Tryz.ntmps43
  go_wp2_with fail
  refine (sRead_some HX.out _).mono ?_
  rintro e w1 ⟨v, a2, rfl, _, _, ho, hbel⟩
  rw [HL.out] at ho
  obtain ⟨A, c, rfl, _, _, _, _⟩ := ho.form
  have HR := Lib.hid (Owns.row ho (by omega))
  have HB := Lib.hid hbel
  clear ho hbel
  go_wp2_with fail
  refine (sL2SettlesAny A l.length c l k _ rfl (by omega) (by exact HR.out.hA)).mono ?_
  rintro e w2 ⟨⟨b, rfl⟩, n, rfl⟩
  go_wp2_with fail
  go_ret
  exact ⟨b, rfl, fun h => absurd h HK.out, bel_drewN HB.out _⟩
end Go.Proofs.YtmdogidflaplkaaGreat
