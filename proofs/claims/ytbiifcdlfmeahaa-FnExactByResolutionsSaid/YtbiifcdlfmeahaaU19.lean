/-
  What the proofs of this seat's statements share (ResJ, ResK).
-/
import Derived.Test.YtbiifcdlfmeahaaU18
import Derived.Test.YtbiifcdlfmeahaaU15

namespace Go.Proofs.Ytbiifcdlfmeahaa
open Go.RowKit

def OncePost (base : Nat) (A : Option Addr) (nn c : Nat) (xs : List Int) (w : World) (e : Ending) (w' : World) : Prop :=
  ∃ m d, e = .returned (.slice A m d) ∧ Owns w' base (.slice A m d) (setL xs) ∧ w.grownBy w' (Value.slice A nn c).ownBlock
set_option maxRecDepth 100000 in
set_option maxHeartbeats 4000000 in
theorem iEachOnce (base : Nat) (A : Option Addr) (nn c : Nat) (xs : List Int) (w : World) (hn : nn = xs.length) (h1 : 1 ≤ nn) (hl : nn ≤ 1048576) (hr : ∀ x ∈ xs, 0 ≤ x ∧ x < 256) (hO : Owns w base (.slice A nn c) xs) :
    Calls Try.prog 66 #[.slice A nn c] w (OncePost base A nn c xs w) := by
  have HO := Lib.hid hO
  have HR := Lib.hid hr
  have HN := Lib.hid hn
  clear hO hr hn
  go_enter Try.func66, Try.ntmps66
  go_wp2_with fail
  refine (iSort base A nn c xs _ HN.out h1 hl HO.out).mono ?_
  rintro e w1 ⟨rfl, ys, hs, hm, hylen, ho, hg⟩
  have HYL := Lib.hid hylen
  clear hylen
  have HS := Lib.hid hs
  have HM := Lib.hid hm
  have HO1 := Lib.hid ho
  have HG := Lib.hid hg
  clear hs hm ho hg
  go_wp2_with fail
  refine (iCompact base A nn c ys _ HYL.out.symm h1 hl HO1.out).mono ?_
  rintro e w2 ⟨m, rfl, ho, hg⟩
  rw [compact_set HS.out HM.out HR.out] at ho
  have HO2 := Lib.hid ho
  have HG2 := Lib.hid (HG.out.trans hg)
  clear ho hg
  go_wp2_with fail
  go_ret
  exact ⟨m, c, rfl, HO2.out, HG2.out⟩
theorem below_once {B : Nat} {a w w' : World} {base : Nat} {v : Value} {xs : List Int} (h : Below B a w) (hB : B ≤ w.heap.size) (hown : Owns w base v xs) (hbase : B ≤ base) (hg : w.grownBy w' v.ownBlock) : Below B a w' := below_appendL h hB hown hbase hg

/-- A row of an elder block stays where a later one grows. -/
theorem Owns.aside {W : World} {base : Nat} {u v : Value} {xs : List Int} (hv : Owns W base v xs) (hu : ∀ q, u.ownBlock = some q → q < base) : u.ownBlock = none ∨ u.ownBlock ≠ v.ownBlock := by
  cases e : u.ownBlock with
  | none => exact .inl rfl
  | some q =>
    right
    intro e2
    have h1 := (World.ownsRow.lt hv q e2.symm).1
    have h2 := hu q e
    omega
theorem Owns.past {W w' : World} {base b2 : Nat} {u v : Value} {xs ys : List Int} {o : Obj} (h : Owns W b2 u ys) (hg : (W.alloc o).grownBy w' v.ownBlock) (hv : Owns W base v xs) (hu : ∀ q, u.ownBlock = some q → q < base) : Owns w' b2 u ys :=
  (h.below ((Below.refl _ W).alloc (Nat.le_refl _) o)).kept hg (Owns.aside hv hu)

/-- The choices made behind k sets. -/
def chooseTo (t : Int) (b a : List Int) (k : Nat) : List Int := (a.take k).foldl (fun out x => setL (bothX out (b.map fun y => orI (allOf t - x) y))) [allOf t]
theorem chooseTo_next {t : Int} {a b : List Int} {k : Nat} {x : Int} (hx : Hid (a[k]? = some x)) : chooseTo t b a (k + 1) = setL (bothX (chooseTo t b a k) (b.map fun y => orI (allOf t - x) y)) := by
  unfold chooseTo; rw [take_snoc hx, List.foldl_append]; rfl
theorem chooseTo_end (t : Int) (a b : List Int) : chooseTo t b a a.length = chooseX t a b := by unfold chooseTo chooseX; rw [List.take_length]
theorem chooseTo_good {t : Int} {a b : List Int} (h1 : 1 ≤ t) (h3 : t ≤ 3) (hb : Good t b) (ha : ∀ x ∈ a, setOkB t x = true) (k : Nat) : Good t (chooseTo t b a k) :=
  (choose_fold hb (a.take k) (take_sets ha k) _ (Good.one (setOk_of h1 h3 (allOf_lt t).1 (Int.le_refl _)))).1
theorem chooseTo_len (t : Int) (a b : List Int) (k : Nat) : (chooseTo t b a k).length ≤ 256 := by
  unfold chooseTo
  suffices ∀ (l : List Int) (out : List Int), out.length ≤ 256 → (l.foldl (fun out x => setL (bothX out (b.map fun y => orI (allOf t - x) y))) out).length ≤ 256 from this _ _ (by simp)
  intro l
  induction l with
  | nil => exact fun out h => h
  | cons z r ih => exact fun out _ => ih _ (setL_len _)
theorem bothX_setL {a b : List Int} (hb : ∀ y ∈ b, 0 ≤ y ∧ y < 256) : setL (bothX a (setL b)) = setL (bothX a b) := by
  refine setL_congr fun s => ?_
  rw [mem_bothX, mem_bothX]
  refine exists_congr fun x => and_congr_right fun _ => exists_congr fun y => and_congr_left fun _ => setL_mem hb y
/-- One choice more, beside what the condition leaves out. -/
def outTo (t x : Int) (b : List Int) (j : Nat) : List Int := (b.take j).map fun y => orI (allOf t - x) y
theorem outTo_next {t x : Int} {b : List Int} {j : Nat} {y : Int} (hy : Hid (b[j]? = some y)) : outTo t x b (j + 1) = outTo t x b j ++ [orI (allOf t - x) y] := by
  unfold outTo; rw [take_snoc hy, List.map_append]; rfl
theorem outTo_end (t x : Int) (b : List Int) : outTo t x b b.length = b.map fun y => orI (allOf t - x) y := by unfold outTo; rw [List.take_length]
theorem outTo_len (t x : Int) (b : List Int) (j : Nat) : (outTo t x b j).length ≤ b.length := by unfold outTo; rw [List.length_map, List.length_take]; omega
theorem union_single {x : Int} (h : 0 ≤ x) : unionI [x] = x := union_one h

set_option maxRecDepth 100000 in
set_option maxHeartbeats 8000000 in
theorem iByChoices (t : Int) (A B : Option Addr) (na ca nb cb : Nat) (a b : List Int) (w : World) (h1 : 1 ≤ t) (h3 : t ≤ 3) (hsa : ∀ x ∈ a, setOkB t x = true) (hgb : Good t b) (hlb : b.length ≤ 256) (ha : Row w A na ca a) (hb : Row w B nb cb b) :
    Calls Try.prog 69 #[.int .i64 t, .slice A na ca, .slice B nb cb] w (OwnPost (chooseX t a b) w) := by
  have HA := Lib.hid ha
  have HB := Lib.hid hb
  obtain rfl := ha.hn
  obtain rfl := hb.hn
  have hla := ha.hl
  have hpb : 1 ≤ b.length := List.length_pos_iff.2 hgb.1
  have hal := allOf_lt t
  have HSA := Lib.hid hsa
  have HAL : Hid (allOf t - unionI [] = allOf t) := by unfold Hid unionI; simp
  have HGO := Lib.hid (chooseTo_good h1 h3 hgb hsa)
  have HL := Lib.hid (chooseTo_len t a b)
  have HST : Hid (∀ x, x ∈ a → setOkB t (allOf t - x) = true ∧ allOf t - unionI [x] = allOf t - x ∧ ∀ y ∈ b.map (fun y => orI (allOf t - x) y), 0 ≤ y ∧ y < 256) := fun x hx => by
    have hx2 := setOkB_lt (hsa x hx)
    refine ⟨setOk_of h1 h3 (by omega) (by omega), by rw [union_one hx2.2.2.1], fun z hz => ?_⟩
    obtain ⟨y, hy, rfl⟩ := List.mem_map.1 hz
    have hy2 := hgb.range y hy
    exact ⟨orI_nonneg _ _, orI_lt _ _ (by omega) hy2.2⟩
  have HRB := Lib.hid hgb.range
  have H1 := Lib.hid h1
  have H3 := Lib.hid h3
  obtain ⟨i0, hi, hz0, hz1, hz2⟩ := info_parts int_info
  have HMK : Hid (∃ i0, Try.prog.info? 3 = some i0 ∧ i0.zero = some (.int .i64 0) ∧ i0.size = 1 ∧ i0.bytes = 8) := ⟨i0, hi, hz0, hz1, hz2⟩
  clear ha hb hsa hgb h1 h3 hi hz0 hz1 hz2 i0
  have HB0 : Hid (Below w.heap.size w w) := Below.refl _ _
  go_enter Try.func69, Try.ntmps69
  go_wp2_with fail
  refine (iInNone_is HAL H1.out H3.out (by simp) ⟨rfl, by simp, Nat.le_refl _, by simp [maxLen], Nums.nil _ _ _⟩).mono ?_
  rintro e w' ⟨rfl, rfl⟩
  go_wp2_with fail
  go_loopw [7, 19] (fun v i wr => ∃ k : Nat, k ≤ a.length ∧ i = .int .i64 k ∧ Owns wr w.heap.size v (chooseTo t b a k) ∧ Below w.heap.size w wr) (fun _ i _ => a.length - (Go.RowKit.intOf i).toNat)
  case atStart => exact ⟨0, Nat.zero_le _, rfl, Owns.lit w w.heap.size [allOf t] (Nat.le_refl _) (by simp [maxLen]), (Below.refl _ _).alloc (Nat.le_refl _) _⟩
  case round =>
    obtain ⟨k, hk, rfl, hown, hbel⟩ := hrel
    obtain ⟨lk, HLK⟩ : ∃ l, Hid (chooseTo t b a k = l) := ⟨_, rfl⟩
    have hlk : lk.length ≤ 256 := by rw [← HLK.out]; exact HL.out k
    have hgk : Good t lk := by rw [← HLK.out]; exact HGO.out k
    rw [HLK.out] at hown
    have HGK := Lib.hid hgk
    have HOW := Lib.hid hown
    have HBW := Lib.hid hbel
    clear hown hbel hgk
    by_cases hlt : k < a.length
    · obtain ⟨bb, off, x, rfl, hcell, hx, _⟩ := (HA.out.hA.below HBW.out).elem hlt
      have hsx := setOkB_lt (HSA.out x (elem_mem hx))
      have hx0 := hsx.2.2.1
      have hx1 := hsx.2.2.2.1
      obtain ⟨hso, hun, hra⟩ := HST.out x (elem_mem hx)
      have HUN := Lib.hid hun
      have HNX := Lib.hid (chooseTo_next (t := t) (b := b) hx)
      have HSX : Hid (∀ z ∈ [x], setOkB t z = true) := fun z hz => by rw [List.mem_singleton] at hz; subst hz; exact HSA.out _ (elem_mem hx)
      obtain ⟨ys, HYS⟩ : ∃ l, Hid ((b.map fun y => orI (allOf t - x) y) = l) := ⟨_, rfl⟩
      have hyl : ys.length = b.length := by rw [← HYS.out, List.length_map]
      have hy1 : 1 ≤ ys.length := by omega
      have hy2 : ys.length ≤ 256 := by omega
      clear hyl
      rw [HYS.out] at hra HNX
      rw [HLK.out] at HNX
      have HRA := Lib.hid hra
      have HOE : Hid (outTo t x b b.length = ys) := by unfold Hid; rw [outTo_end, HYS.out]
      have HO1 : Hid (Owns (wr.alloc (.cells #[.int .i64 x] 3)) wr.heap.size (.slice (some ⟨wr.heap.size, 0, none⟩) 1 1) [x]) := Owns.lit wr wr.heap.size [x] (Nat.le_refl _) (by simp [maxLen])
      have HB1 : Hid (Below w.heap.size w (wr.alloc (.cells #[.int .i64 x] 3))) := HBW.out.alloc HBW.out.size _
      have HOW1 := Lib.hid (HOW.out.below ((Below.refl _ wr).alloc (Nat.le_refl _) (.cells #[.int .i64 x] 3)))
      have hszw := HBW.out.size
      clear hso hun hra hsx
      go_wp2_with fail
      refine (iInNone_is HUN H1.out H3.out HSX.out (Owns.row HO1.out (by simp))).mono ?_
      rintro e w' ⟨rfl, rfl⟩
      obtain ⟨i0, hi, hz0, hz1, hz2⟩ := HMK.out
      obtain ⟨B0, hB0⟩ : ∃ n : Nat, wr.heap.size + 1 = n := ⟨_, rfl⟩
      have HSZ0 : Hid ((wr.alloc (.cells #[.int .i64 x] 3)).heap.size = B0) := by unfold Hid; rw [World.size_alloc]; exact hB0
      go_wp2_with (at_make; refine wpList_make_own _ rfl _ _ 25 rfl B0 3 i0 (.int .i64 0) 1 Try.underlying25 hi hz0 hz1 .i64 .i64 _ b.length rfl rfl rfl (by rw [hz2]; omega) (by unfold maxLen; omega) (by rw [HSZ0.out]; exact Nat.le_refl _) ?_; intro w1 hown1 hgrow1)
      clear hi hz0 hz1 hz2
      have HB2 : Hid (Below w.heap.size w w1) := bel_none HB1.out hgrow1 HB1.out.size
      have HOW2 : Hid (Owns w1 w.heap.size u7 lk) := Owns.kept HOW1.out hgrow1 (by cases u7.ownBlock <;> simp)
      have HO2 : Hid (Owns w1 B0 (.slice (some ⟨B0, 0, none⟩) 0 b.length) (outTo t x b 0)) := by have h2 := hown1; rw [HSZ0.out] at h2; exact h2
      have hB1 : w.heap.size ≤ B0 := by omega
      have hsz1 : B0 ≤ w1.heap.size := by have := hgrow1.size; rw [HSZ0.out] at this; exact this
      have HLT7 : Hid (∀ q, u7.ownBlock = some q → q < B0) := fun q e => by have := (World.ownsRow.lt HOW.out q e).2; omega
      clear hown1 hgrow1
      go_loopw [11, 32] (fun v i wi => ∃ j : Nat, j ≤ b.length ∧ i = .int .i64 j ∧ Owns wi B0 v (outTo t x b j) ∧ Owns wi w.heap.size u7 lk ∧ Below w.heap.size w wi ∧ B0 ≤ wi.heap.size) (fun _ i _ => b.length - (Go.RowKit.intOf i).toNat)
      case atStart => exact ⟨0, Nat.zero_le _, rfl, HO2.out, HOW2.out, HB2.out, hsz1⟩
      case round =>
        obtain ⟨j, hj, rfl, hown, hown7, hbel, hszi⟩ := hrel
        have HOI := Lib.hid hown
        have HO7 := Lib.hid hown7
        have HBI := Lib.hid hbel
        clear hown hbel hown7
        by_cases hjt : j < b.length
        · obtain ⟨bb2, off2, y, rfl, hcell, hy, _⟩ := (HB.out.hA.below HBI.out).elem hjt
          obtain ⟨hy0, hy1⟩ := HRB.out y (elem_mem hy)
          have HBO := Lib.hid (bits_or y (allOf t - x) hy0 (by omega) (by omega) (by omega))
          have HT := Lib.hid (outTo_next (t := t) (x := x) hy)
          have hol := outTo_len t x b j
          go_wp2_with (at_builtin; refine wp_append1 (W := wr) rfl _ _ rfl B0 u11 (outTo t x b j) rfl HOI.out _ rfl (by omega) hszi ?_; intro v' w' hown' hgrow)
          have hb' := below_append HBI.out HBI.out.size HOI.out hB1 hgrow
          have ho7 : Owns w' w.heap.size u7 lk := Owns.past HO7.out hgrow HOI.out HLT7.out
          have hsz' : B0 ≤ w'.heap.size := by have := hgrow.size; rw [World.size_alloc] at this; omega
          rw [HBO.out, orI_comm] at hown'
          go_roundw
          case rel => exact ⟨j + 1, by omega, by go_num, by rw [HT.out]; exact hown', ho7, hb', hsz'⟩
          case measure => simp [Go.RowKit.intOf]; omega
        · obtain rfl : j = b.length := by omega
          rw [HOE.out] at HOI
          obtain ⟨A3, c3, rfl, _, _, _, _⟩ := HOI.out.form
          obtain ⟨A7, c7, rfl, _, _, _, _⟩ := HO7.out.form
          go_wp2_with fail
          refine (iEachOnce B0 A3 _ c3 ys _ rfl hy1 (by omega) HRA.out HOI.out).mono ?_
          rintro e w2 ⟨m, d, rfl, ho, hg⟩
          have HO8 : Hid (Owns w2 w.heap.size (.slice A7 lk.length c7) lk) := Owns.kept HO7.out hg (Owns.aside HOI.out HLT7.out)
          have HB3 := Lib.hid (below_once HBI.out HBI.out.size HOI.out hB1 hg)
          have HR3 := Lib.hid (Owns.row ho (Nat.le_trans (setL_len ys) (by omega)))
          have hsz3 := HB3.out.size
          clear ho hg
          go_wp2_with fail
          refine (iInBoth t _ _ _ _ _ _ lk (setL ys) _ H1.out H3.out HGK.out.2 (setL_range ys) (Owns.row HO8.out (by omega)) HR3.out).mono ?_
          rintro e w3 ⟨v, rfl, ho, hb⟩
          rw [bothX_setL HRA.out, ← HNX.out] at ho
          have HO9 := Lib.hid (ho.base hsz3)
          have HB4 := Lib.hid (bel_trans HB3.out hb)
          clear ho hb
          go_wp2_with fail
          go_roundw
          case rel => exact ⟨k + 1, by omega, by go_num, HO9.out, HB4.out⟩
          case measure => simp [Go.RowKit.intOf]; omega
    · obtain rfl : k = a.length := by omega
      have HE : Hid (lk = chooseX t a b) := by unfold Hid; rw [← HLK.out, chooseTo_end]
      rw [HE.out] at HOW
      go_wp2_with fail
      go_ret
      exact ⟨_, rfl, HOW.out, HBW.out⟩
end Go.Proofs.Ytbiifcdlfmeahaa

namespace Go.Proofs.Ytbiifcdlfmeahaa
open Go.RowKit

def ResCalls (t : Int) (q : Option Addr) (a : List Int) (W : World) : Prop := Calls Try.prog 39 #[.int .i64 t, .pointer q] W (OwnPost a W)
set_option maxRecDepth 100000 in
set_option maxHeartbeats 4000000 in
theorem iResNo (t : Int) (b : Nat) (q r : Option Addr) (w : World) (a : List Int) (h1 : 1 ≤ t) (h3 : t ≤ 3) (hg : Good t a) (ha : a.length ≤ 256) (hn : NodeAt w b 33 q r) (hk : ∀ W, Below w.heap.size w W → ResCalls t q a W) :
    Calls Try.prog 39 #[.int .i64 t, .pointer (some ⟨b, 0, none⟩)] w (OwnPost [allOf t - unionI a] w) := by
  obtain ⟨hc0, hc1, hc2, hlt⟩ := node_cells hn
  have HK := Lib.hid hk
  have HG := Lib.hid hg
  have hc0 : w.cell? ⟨b, 0, none⟩ = some (.int .u8 33) := hc0
  obtain ⟨g, HV⟩ : ∃ g, Hid (allOf t - unionI a = g) := ⟨_, rfl⟩
  rw [HV.out]
  clear hk hn hg
  go_enter Try.func39, Try.ntmps39
  go_wp2_with fail
  refine (HK.out _ (Below.refl _ _)).mono ?_
  rintro e w1 ⟨v, rfl, ho, hb⟩
  obtain ⟨A1, c1, rfl, _, _, _, _⟩ := ho.form
  have HR := Lib.hid (Owns.row ho (by omega))
  have HB := Lib.hid hb
  clear ho hb
  go_wp2_with fail
  refine (iInNone_is HV h1 h3 HG.out.2 HR.out).mono ?_
  rintro e w' ⟨rfl, rfl⟩
  go_wp2_with fail
  go_ret
  exact ⟨_, rfl, Owns.lit w1 w.heap.size [g] HB.out.size (by simp [maxLen]), HB.out.alloc HB.out.size _⟩
set_option maxRecDepth 100000 in
set_option maxHeartbeats 4000000 in
theorem iResAsk (t : Int) (b : Nat) (q r : Option Addr) (w : World) (a : List Int) (h1 : 1 ≤ t) (h3 : t ≤ 3) (hg : Good t a) (ha : a.length ≤ 256) (hn : NodeAt w b 63 q r) (hk : ∀ W, Below w.heap.size w W → ResCalls t q a W) :
    Calls Try.prog 39 #[.int .i64 t, .pointer (some ⟨b, 0, none⟩)] w (OwnPost (setL (a ++ [allOf t - unionI a])) w) := by
  obtain ⟨hc0, hc1, hc2, hlt⟩ := node_cells hn
  have HK := Lib.hid hk
  have HG := Lib.hid hg
  have hr := hg.rest
  have HRA : Hid (∀ x ∈ a ++ [allOf t - unionI a], 0 ≤ x ∧ x < 256) := (Good.append hg (Good.one hr).2).range
  have hc0 : w.cell? ⟨b, 0, none⟩ = some (.int .u8 63) := hc0
  obtain ⟨g, HV⟩ : ∃ g, Hid (allOf t - unionI a = g) := ⟨_, rfl⟩
  rw [HV.out] at HRA ⊢
  clear hk hn hg hr
  obtain ⟨l, HL⟩ : ∃ l, Hid (a ++ [g] = l) := ⟨_, rfl⟩
  have hll : l.length = a.length + 1 := by rw [← HL.out]; simp
  have hl1 : 1 ≤ l.length := by omega
  have hl2 : l.length ≤ 512 := by omega
  clear hll
  rw [HL.out] at HRA ⊢
  go_enter Try.func39, Try.ntmps39
  go_wp2_with fail
  refine (HK.out _ (Below.refl _ _)).mono ?_
  rintro e w1 ⟨v, rfl, ho, hb⟩
  obtain ⟨A1, c1, rfl, _, _, _, _⟩ := ho.form
  have HR := Lib.hid (Owns.row ho (by omega))
  have HO := Lib.hid ho
  have HB := Lib.hid hb
  clear ho hb
  go_wp2_with fail
  refine (iInNone_is HV h1 h3 HG.out.2 HR.out).mono ?_
  rintro e w' ⟨rfl, rfl⟩
  go_wp2_with (at_builtin; refine wp_append1 (W := w1) rfl _ _ rfl w.heap.size (.slice A1 a.length c1) a rfl HO.out g rfl (by omega) HB.out.size ?_; intro v' w' hown' hgrow)
  have HB2 := Lib.hid (below_append HB.out HB.out.size HO.out (Nat.le_refl _) hgrow)
  rw [HL.out] at hown'
  obtain ⟨A2, c2, rfl, _, _, _, _⟩ := hown'.form
  have HO2 := Lib.hid hown'
  clear hown' hgrow
  go_wp2_with fail
  refine (iEachOnce w.heap.size A2 _ c2 l _ rfl hl1 (by omega) HRA.out HO2.out).mono ?_
  rintro e w3 ⟨m, d, rfl, ho, hg⟩
  have HO3 := Lib.hid ho
  have HB3 := Lib.hid (below_once HB2.out HB2.out.size HO2.out (Nat.le_refl _) hg)
  clear ho hg
  go_wp2_with fail
  go_ret
  exact ⟨_, rfl, HO3.out, HB3.out⟩
set_option maxRecDepth 100000 in
set_option maxHeartbeats 4000000 in
theorem iResAnd (t : Int) (b : Nat) (q r : Option Addr) (w : World) (a c : List Int) (h1 : 1 ≤ t) (h3 : t ≤ 3) (hga : Good t a) (hgc : Good t c) (ha : a.length ≤ 256) (hlc : c.length ≤ 256) (hn : NodeAt w b 38 q r)
    (hk : ∀ W, Below w.heap.size w W → ResCalls t q a W) (hk2 : ∀ W, Below w.heap.size w W → ResCalls t r c W) :
    Calls Try.prog 39 #[.int .i64 t, .pointer (some ⟨b, 0, none⟩)] w (OwnPost (setL (bothX a c)) w) := by
  obtain ⟨hc0, hc1, hc2, hlt⟩ := node_cells hn
  have HK : Hid (∀ W, Below w.heap.size w W → Calls Try.prog 39 #[.int .i64 t, .pointer q] W (OwnPost a W)) := hk
  have HK2 : Hid (∀ W, Below w.heap.size w W → Calls Try.prog 39 #[.int .i64 t, .pointer r] W (OwnPost c W)) := hk2
  have HN := Lib.hid hn
  have HGA := Lib.hid hga
  have HGC := Lib.hid hgc
  have hc0 : w.cell? ⟨b, 0, none⟩ = some (.int .u8 38) := hc0
  have HBd : Hid (Below w.heap.size w w.drew) := bel_drewN (Below.refl _ w) 1
  clear hk hn hk2 hga hgc
  go_enter Try.func39, Try.ntmps39
  go_wp2_with fail
  go_region_held3 (fun w' => w'.cell? ⟨b, 1, none⟩ = some (.pointer q) ∧ w'.cell? ⟨b, 2, none⟩ = some (.pointer r))
    (first | go_keep | exact node_cells_below HN.out HB3.out | exact node_cells_below HN.out HB2.out | exact node_cells_below HN.out HB1.out)
    (first
      | (go_at_call 39; ((with_reducible refine (HK.out w.drew HBd.out).mono ?_)); rintro e w1 ⟨v, rfl, ho, hb⟩; obtain ⟨A1, c1, rfl, _, _, _, _⟩ := ho.form; have HR1 := Lib.hid (Owns.row ho (by omega)); have HB1 : Hid (Below w.heap.size w w1) := bel_trans HBd.out hb; clear ho hb HK HBd)
      | (go_at_call 39; ((with_reducible refine (HK2.out _ HB1.out).mono ?_)); rintro e w2 ⟨v, rfl, ho, hb⟩; obtain ⟨A2, c2, rfl, _, _, _, _⟩ := ho.form; have HR2 := Lib.hid (Owns.row ho (by omega)); replace HR1 := Lib.hid (HR1.out.below hb); have HB2 : Hid (Below w.heap.size w w2) := bel_trans HB1.out hb; clear ho hb HK2 HB1)
      | (go_at_call 67; refine (iInBoth t _ _ _ _ _ _ a c _ h1 h3 HGA.out.2 HGC.out.range HR1.out HR2.out).mono ?_; rintro e w3 ⟨v, rfl, ho, hb⟩; have HO := Lib.hid (ho.base HB2.out.size); have HB3 : Hid (Below w.heap.size w w3) := bel_trans HB2.out hb; clear ho hb))
  go_wp2_with fail
  go_ret
  exact ⟨_, rfl, HO.out, HB3.out⟩
set_option maxRecDepth 100000 in
set_option maxHeartbeats 4000000 in
theorem iResIf (t : Int) (b : Nat) (q r : Option Addr) (w : World) (a c : List Int) (h1 : 1 ≤ t) (h3 : t ≤ 3) (hga : Good t a) (hgc : Good t c) (ha : a.length ≤ 256) (hlc : c.length ≤ 256) (hn : NodeAt w b 62 q r)
    (hk : ∀ W, Below w.heap.size w W → ResCalls t q a W) (hk2 : ∀ W, Below w.heap.size w W → ResCalls t r c W) :
    Calls Try.prog 39 #[.int .i64 t, .pointer (some ⟨b, 0, none⟩)] w (OwnPost (chooseX t a c) w) := by
  obtain ⟨hc0, hc1, hc2, hlt⟩ := node_cells hn
  have HK : Hid (∀ W, Below w.heap.size w W → Calls Try.prog 39 #[.int .i64 t, .pointer q] W (OwnPost a W)) := hk
  have HK2 : Hid (∀ W, Below w.heap.size w W → Calls Try.prog 39 #[.int .i64 t, .pointer r] W (OwnPost c W)) := hk2
  have HN := Lib.hid hn
  have HGA := Lib.hid hga
  have HGC := Lib.hid hgc
  have hc0 : w.cell? ⟨b, 0, none⟩ = some (.int .u8 62) := hc0
  have HBd : Hid (Below w.heap.size w w.drew) := bel_drewN (Below.refl _ w) 1
  clear hk hn hk2 hga hgc
  go_enter Try.func39, Try.ntmps39
  go_wp2_with fail
  go_region_held3 (fun w' => w'.cell? ⟨b, 1, none⟩ = some (.pointer q) ∧ w'.cell? ⟨b, 2, none⟩ = some (.pointer r))
    (first | go_keep | exact node_cells_below HN.out HB3.out | exact node_cells_below HN.out HB2.out | exact node_cells_below HN.out HB1.out)
    (first
      | (go_at_call 39; ((with_reducible refine (HK.out w.drew HBd.out).mono ?_)); rintro e w1 ⟨v, rfl, ho, hb⟩; obtain ⟨A1, c1, rfl, _, _, _, _⟩ := ho.form; have HR1 := Lib.hid (Owns.row ho (by omega)); have HB1 : Hid (Below w.heap.size w w1) := bel_trans HBd.out hb; clear ho hb HK HBd)
      | (go_at_call 39; ((with_reducible refine (HK2.out _ HB1.out).mono ?_)); rintro e w2 ⟨v, rfl, ho, hb⟩; obtain ⟨A2, c2, rfl, _, _, _, _⟩ := ho.form; have HR2 := Lib.hid (Owns.row ho (by omega)); replace HR1 := Lib.hid (HR1.out.below hb); have HB2 : Hid (Below w.heap.size w w2) := bel_trans HB1.out hb; clear ho hb HK2 HB1)
      | (go_at_call 69; refine (iByChoices t _ _ _ _ _ _ a c _ h1 h3 HGA.out.2 HGC.out hlc HR1.out HR2.out).mono ?_; rintro e w3 ⟨v, rfl, ho, hb⟩; have HO := Lib.hid (ho.base HB2.out.size); have HB3 : Hid (Below w.heap.size w w3) := bel_trans HB2.out hb; clear ho hb))
  go_wp2_with fail
  go_ret
  exact ⟨_, rfl, HO.out, HB3.out⟩
set_option maxRecDepth 100000 in
set_option maxHeartbeats 4000000 in
theorem iResOr (t : Int) (b : Nat) (q r : Option Addr) (w : World) (a c : List Int) (hga : Good t a) (hgc : Good t c) (ha : a.length ≤ 256) (hlc : c.length ≤ 256) (hn : NodeAt w b 124 q r)
    (hk : ∀ W, Below w.heap.size w W → ResCalls t q a W) (hk2 : ∀ W, Below w.heap.size w W → ResCalls t r c W) :
    Calls Try.prog 39 #[.int .i64 t, .pointer (some ⟨b, 0, none⟩)] w (OwnPost (setL (a ++ c)) w) := by
  obtain ⟨hc0, hc1, hc2, hlt⟩ := node_cells hn
  have HK : Hid (∀ W, Below w.heap.size w W → Calls Try.prog 39 #[.int .i64 t, .pointer q] W (OwnPost a W)) := hk
  have HK2 : Hid (∀ W, Below w.heap.size w W → Calls Try.prog 39 #[.int .i64 t, .pointer r] W (OwnPost c W)) := hk2
  have HN := Lib.hid hn
  have HRAC : Hid (∀ x ∈ a ++ c, 0 ≤ x ∧ x < 256) := (hga.append hgc.2).range
  have hpa : 1 ≤ a.length := List.length_pos_iff.2 hga.1
  have hpc : 1 ≤ c.length := List.length_pos_iff.2 hgc.1
  obtain ⟨l, HL⟩ : ∃ l, Hid (a ++ c = l) := ⟨_, rfl⟩
  have hll : l.length = a.length + c.length := by rw [← HL.out]; simp
  have hl1 : 1 ≤ l.length := by omega
  have hl2 : l.length ≤ 512 := by omega
  clear hll
  rw [HL.out] at HRAC ⊢
  have hc0 : w.cell? ⟨b, 0, none⟩ = some (.int .u8 124) := hc0
  have HBd : Hid (Below w.heap.size w w.drew) := bel_drewN (Below.refl _ w) 1
  clear hk hn hk2 hga hgc
  go_enter Try.func39, Try.ntmps39
  go_wp2_with fail
  go_region_held3 (fun w' => w'.cell? ⟨b, 1, none⟩ = some (.pointer q) ∧ w'.cell? ⟨b, 2, none⟩ = some (.pointer r))
    (first | go_keep | exact node_cells_below HN.out HB5.out | exact node_cells_below HN.out HB4.out | exact node_cells_below HN.out (HB2.out.alloc HB2.out.size _) | exact node_cells_below HN.out HB2.out | exact node_cells_below HN.out HB1.out)
    (first
      | (go_at_call 39; ((with_reducible refine (HK.out w.drew HBd.out).mono ?_)); rintro e w1 ⟨v, rfl, ho, hb⟩; obtain ⟨A1, c1, rfl, _, _, _, _⟩ := ho.form; have HR1 := Lib.hid (Owns.row ho (by omega)); have HB1 : Hid (Below w.heap.size w w1) := bel_trans HBd.out hb; clear ho hb HK HBd)
      | (go_at_call 39; ((with_reducible refine (HK2.out _ HB1.out).mono ?_)); rintro e w2 ⟨v, rfl, ho, hb⟩; obtain ⟨A2, c2, rfl, _, _, _, _⟩ := ho.form; have HR2 := Lib.hid (Owns.row ho (by omega)); replace HR1 := Lib.hid (HR1.out.below hb); have HB2 : Hid (Below w.heap.size w w2) := bel_trans HB1.out hb; clear ho hb HK2 HB1)
      | (go_at_call 68; refine (iConcat w2.heap.size A1 A2 a.length c1 c.length c2 a c _ (by rw [World.size_alloc]; exact Nat.lt_succ_self _) (two_cells w2 _ _ _).1 (two_cells w2 _ _ _).2 (HR1.out.below ((Below.refl _ w2).alloc (Nat.le_refl _) _)) (HR2.out.below ((Below.refl _ w2).alloc (Nat.le_refl _) _)) hpa hpc (by omega)).mono ?_; rintro e w4 ⟨v, rfl, ho, hb⟩; rw [HL.out] at ho; obtain ⟨A4, c4, rfl, _, _, _, _⟩ := ho.form; have HO4 := Lib.hid (ho.base (Nat.le_trans HB2.out.size (by rw [World.size_alloc]; exact Nat.le_succ _))); have HB4 : Hid (Below w.heap.size w w4) := bel_trans (HB2.out.alloc HB2.out.size _) hb; clear ho hb)
      | (go_at_call 66; refine (iEachOnce w.heap.size A4 _ c4 l _ rfl hl1 (by omega) HRAC.out HO4.out).mono ?_; rintro e w5 ⟨m, d, rfl, ho, hg⟩; have HO5 := Lib.hid ho; have HB5 : Hid (Below w.heap.size w w5) := below_once HB4.out HB4.out.size HO4.out (Nat.le_refl _) hg; clear ho hg))
  go_wp2_with fail
  go_ret
  exact ⟨_, rfl, HO5.out, HB5.out⟩
set_option maxRecDepth 100000 in
set_option maxHeartbeats 4000000 in
theorem iResWord (t : Int) (b c : Nat) (q r : Option Addr) (w : World) (h1 : 1 ≤ t) (h3 : t ≤ 3) (hc : isWord c) (hn : NodeAt w b c q r) :
    Calls Try.prog 39 #[.int .i64 t, .pointer (some ⟨b, 0, none⟩)] w (OwnPost [(wordTo c (nWorlds t) : Int)] w) := by
  obtain ⟨hc0, hc1, hc2, hlt⟩ := node_cells hn
  obtain ⟨hw, hw8⟩ := worlds_n h1 h3
  have HW := Lib.hid hw
  have HC := Lib.hid hc
  obtain ⟨n, HNW⟩ : ∃ n, Hid (nWorlds t = n) := ⟨_, rfl⟩
  clear hn hw
  rw [HNW.out] at hw8 HW ⊢
  obtain ⟨g, HG⟩ : ∃ g : Nat, Hid (wordTo c n = g) := ⟨_, rfl⟩
  rw [HG.out]
  rcases hc with rfl | rfl | rfl | rfl | rfl
  all_goals
    go_enter Try.func39, Try.ntmps39
    go_wp2_with fail
    refine (iWorldsOfWord _ _ HW.out hw8 _ _ HC.out).mono ?_
    rintro e w' ⟨rfl, rfl⟩
    rw [HG.out]
    go_wp2_with fail
    go_ret
    exact ⟨_, rfl, Owns.lit w w.heap.size [(g : Int)] (Nat.le_refl _) (by simp [maxLen]), (Below.refl _ _).alloc (Nat.le_refl _) _⟩
theorem iResS (t : Int) (h1 : 1 ≤ t) (h3 : t ≤ 3) : ∀ (x : Sen) (p : Option Addr) (lo : Nat) (w : World), senOk t x = true → SenAt w lo x p → ResCalls t p (resS t x) w
  | .no a, _, lo, w, hx, ⟨b, q, rfl, _, hn, h⟩ => iResNo t b q none w _ h1 h3 (res_main h1 h3 a).1 (res_len t a) hn (fun W hb => iResS t h1 h3 a q lo W hx (h.below hb))
  | .ask a, _, lo, w, hx, ⟨b, q, rfl, _, hn, h⟩ => iResAsk t b q none w _ h1 h3 (res_main h1 h3 a).1 (res_len t a) hn (fun W hb => iResS t h1 h3 a q lo W hx (h.below hb))
  | .and_ a c, _, lo, w, hx, ⟨b, q, r, rfl, _, hn, h, h2⟩ => by
    unfold senOk at hx
    rw [Bool.and_eq_true] at hx
    exact iResAnd t b q r w _ _ h1 h3 (res_main h1 h3 a).1 (res_main h1 h3 c).1 (res_len t a) (res_len t c) hn (fun W hb => iResS t h1 h3 a q lo W hx.1 (h.below hb)) (fun W hb => iResS t h1 h3 c r lo W hx.2 (h2.below hb))
  | .or_ a c, _, lo, w, hx, ⟨b, q, r, rfl, _, hn, h, h2⟩ => by
    unfold senOk at hx
    rw [Bool.and_eq_true] at hx
    exact iResOr t b q r w _ _ (res_main h1 h3 a).1 (res_main h1 h3 c).1 (res_len t a) (res_len t c) hn (fun W hb => iResS t h1 h3 a q lo W hx.1 (h.below hb)) (fun W hb => iResS t h1 h3 c r lo W hx.2 (h2.below hb))
  | .if_ a c, _, lo, w, hx, ⟨b, q, r, rfl, _, hn, h, h2⟩ => by
    unfold senOk at hx
    rw [Bool.and_eq_true] at hx
    exact iResIf t b q r w _ _ h1 h3 (res_main h1 h3 a).1 (res_main h1 h3 c).1 (res_len t a) (res_len t c) hn (fun W hb => iResS t h1 h3 a q lo W hx.1 (h.below hb)) (fun W hb => iResS t h1 h3 c r lo W hx.2 (h2.below hb))
  | .one, _, _, w, hx, ⟨b, rfl, _, hn⟩ => by
    have := iResWord t b 49 none none w h1 h3 (.inr (.inl rfl)) hn
    rw [word_one h1 h3] at this
    exact this
  | .zero, _, _, w, hx, ⟨b, rfl, _, hn⟩ => by
    have := iResWord t b 48 none none w h1 h3 (.inl rfl) hn
    rw [word_zero h1 h3] at this
    exact this
  | .thing i, _, _, w, hx, ⟨b, rfl, _, hn⟩ => by
    have hi : (i : Int) < t := of_decide_eq_true hx
    have := iResWord t b (97 + i) none none w h1 h3 (by unfold isWord; omega) hn
    rw [word_thing h1 h3 hi] at this
    exact this
end Go.Proofs.Ytbiifcdlfmeahaa
