/-
  The laws' helpers over slices: copies, comparisons, marks.
-/
import Derived.Test.YtfancfjbipjibaaRow
import Derived.Deep.OwnRows
import Derived.OwnWalk
namespace Go.Proofs.Ytfancfjbipjibaa
open Go.RowKit

theorem int_info : (Try.prog.info? 3).map (fun i => (i.zero, i.size, i.bytes)) = some (some (.int .i64 0), 1, 8) := by kernel_rfl

/-- The row that a loop fills: behind k rounds the first k places hold what they shall. -/
def part (xs : List Int) (k : Nat) : Nat → Value := fun j => if j < k then .int .i64 (xs.getD j 0) else .int .i64 0
theorem part_next {w : World} {g : Nat} {xs : List Int} {k : Nat} {x : Int} (h : w.rowIs g 3 xs.length (part xs k)) (hx : Hid (xs[k]? = some x)) : (w.setCell ⟨g, k, none⟩ (.int .i64 x)).rowIs g 3 xs.length (part xs (k + 1)) := by
  refine (h.set k _).congr fun j hj => ?_
  unfold part
  by_cases e : j = k
  · subst e
    rw [if_pos rfl, if_pos (by omega), List.getD_eq_getElem?_getD, hx.out]; rfl
  · rw [if_neg e]
    by_cases h1 : j < k
    · rw [if_pos h1, if_pos (by omega)]
    · rw [if_neg h1, if_neg (by omega)]
theorem owns_of_row {w : World} {base g : Nat} {xs : List Int} (h : w.rowIs g 3 xs.length (part xs xs.length)) (hb : base ≤ g) (hm : xs.length ≤ maxLen) : Owns w base (.slice (some ⟨g, 0, none⟩) xs.length xs.length) xs := by
  obtain ⟨c, hg, hn, hc⟩ := h
  refine ⟨by simp, .inr ⟨g, xs.length, c, rfl, hb, hg, Nat.le_refl _, hm, by omega, ?_⟩⟩
  apply List.ext_getElem?
  intro i
  rw [List.getElem?_take, List.getElem?_map]
  by_cases hi : i < xs.length
  · rw [if_pos (by omega), Array.getElem?_toList, hc i hi]
    simp [part, hi]
  · rw [if_neg (by omega), List.getElem?_eq_none (by omega)]; rfl

set_option maxHeartbeats 400000 in
theorem lToIntS (A : Option Addr) (nn c : Nat) (xs : List Int) (w : World) (hn : nn = xs.length) (hl : nn ≤ 1048576) (hA : Nums .i64 w A xs) :
    Calls Try.prog 44 #[.slice A nn c] w fun e w' => ∃ v, e = .returned v ∧ Owns w' w.heap.size v xs ∧ Below w.heap.size w w' := by
  subst hn
  have HA := Lib.hid hA
  clear hA
  have hmk := fun W => run_make_row' (P := Try.prog) 23 3 (.int .i64 0) 8 Try.underlying23 int_info rfl .i64 .i64 xs.length (by omega) (by omega) W
  go_enter Try.func44, Try.ntmps44
  go_wp2_with fail
  clear hmk
  go_loopw [4] (fun i wr => ∃ k : Nat, k ≤ xs.length ∧ i = .int .i64 k ∧ wr.rowIs w.heap.size 3 xs.length (part xs k) ∧ Below w.heap.size w wr) (fun i _ => xs.length - (intOf i).toNat)
  case atStart => exact ⟨0, Nat.zero_le _, rfl, World.rowIs_made _ _ _ _, (Below.refl _ _).alloc (Nat.le_refl _) _⟩
  case round =>
    obtain ⟨k, hk, rfl, hrow, hbel⟩ := hrel
    have HB := Lib.hid hbel
    have HW := Lib.hid hrow
    clear hbel hrow
    by_cases hlt : k < xs.length
    · obtain ⟨b, off, x, rfl, hcell, hx, _⟩ := (HA.out.below HB.out).elem hlt
      have hc1 := HW.out.cell hlt
      have hf1 := HW.out.frozen k
      unfold part at hc1
      rw [if_neg (by omega)] at hc1
      go_wp2
      go_roundw
      case rel => exact ⟨k + 1, by omega, by go_num, part_next HW.out hx, HB.out.setCell (Nat.le_refl _) _⟩
      case measure => simp [intOf]; omega
    · obtain rfl : k = xs.length := by omega
      go_wp2
      go_ret
      exact ⟨_, rfl, owns_of_row HW.out (Nat.le_refl _) (by unfold maxLen; omega), HB.out⟩

set_option maxHeartbeats 400000 in
theorem lEqIntS (A B : Option Addr) (nn mm c d : Nat) (xs ys : List Int) (w : World) (hn : nn = xs.length) (hm : mm = ys.length) (hl : nn ≤ 1048576) (hl2 : mm ≤ 1048576) (hA : Nums .i64 w A xs) (hB : Nums .i64 w B ys) :
    Calls Try.prog 45 #[.slice A nn c, .slice B mm d] w fun e w' => e = .returned (.bool (decide (xs = ys))) ∧ ∃ n, w' = w.drewN n := by
  subst hn hm
  have HA := Lib.hid hA
  have HB := Lib.hid hB
  clear hA hB
  by_cases hlen : xs.length = ys.length
  · have hd : ((xs.length : Int) != (ys.length : Int)) = false := by simp; omega
    have HL := Lib.hid hlen
    have hle1 : xs.length ≤ ys.length := by omega
    have hle2 : ys.length ≤ xs.length := by omega
    clear hlen
    go_enter Try.func45, Try.ntmps45
    go_wp2
    go_loopw [5] (fun i wr => ∃ k : Nat, k ≤ xs.length ∧ i = .int .i64 k ∧ Hid (xs.take k = ys.take k) ∧ ∃ n, wr = w.drewN n) (fun i _ => xs.length - (intOf i).toNat)
    case atStart => exact ⟨0, Nat.zero_le _, rfl, rfl, 0, rfl⟩
    case round =>
      obtain ⟨k, hk, rfl, hsofar, n, rfl⟩ := hrel
      by_cases hlt : k < xs.length
      · have hlt2 : k < ys.length := by omega
        obtain ⟨b, off, x, rfl, hcell, hx, _⟩ := HA.out.elem hlt
        obtain ⟨b', off', y, rfl, hcell', hy, _⟩ := HB.out.elem hlt2
        by_cases hxy : x = y
        · have hxy' : (x != y) = false := by simp [hxy]
          have HXY := Lib.hid hxy
          clear hxy
          go_wp2
          go_quiet (fail)
          go_wp2
          go_roundw
          case rel => exact ⟨k + 1, by omega, by go_num, by unfold Hid; rw [take_snoc hx, take_snoc hy, hsofar.out, HXY.out], _, rfl⟩
          case measure => simp [intOf]; omega
        · have hxy' : (x != y) = true := by simp [hxy]
          have HXY := Lib.hid hxy
          clear hxy
          go_wp2
          go_quiet (fail)
          go_wp2
          go_ret
          exact ⟨ret_bool (by symm; apply decide_eq_false; intro e; subst e; have := hx.out.symm.trans hy.out; cases this; exact HXY.out rfl), _, World.drewN_drewN _ _ _⟩
      · obtain rfl : k = xs.length := by omega
        have HE : Hid (xs = ys) := by
          have := hsofar.out
          rw [List.take_length, HL.out, List.take_length] at this
          exact this
        clear hsofar
        go_wp2
        go_ret
        exact ⟨ret_bool (by rw [decide_eq_true HE.out]), _, rfl⟩
  · have hd : ((xs.length : Int) != (ys.length : Int)) = true := by simp; omega
    have HL := Lib.hid hlen
    clear hlen
    go_enter Try.func45, Try.ntmps45
    go_wp2
    go_ret
    exact ⟨ret_bool (by symm; apply decide_eq_false; intro e; exact HL.out (by rw [e])), 0, rfl⟩

set_option maxHeartbeats 400000 in
theorem lHeldIntS (A : Option Addr) (nn c : Nat) (xs : List Int) (k0 : Int) (w : World) (hn : nn = xs.length) (hl : nn ≤ 1048576) (hk : 0 ≤ k0) (hk2 : k0 ≤ 1073741824) (hA : Nums .i64 w A xs) (hv : ∀ (i : Nat) (x : Int), xs[i]? = some x → x = k0 + (i : Int)) :
    Calls Try.prog 47 #[.slice A nn c, .int .i64 k0] w fun e w' => e = .returned (.int .i64 (k0 + xs.length)) ∧ w = w' := by
  subst hn
  have HA := Lib.hid hA
  have HV := Lib.hid hv
  clear hv hA
  go_enter Try.func47, Try.ntmps47
  go_wp2
  go_loop [1, 5] (fun q i => ∃ k : Nat, k ≤ xs.length ∧ i = .int .i64 k ∧ q = .int .i64 (k0 + k)) (fun _ i => xs.length - (intOf i).toNat)
  case atStart => exact ⟨0, Nat.zero_le _, rfl, by simp⟩
  case round =>
    obtain ⟨k, hk', rfl, rfl⟩ := hrel
    by_cases hlt : k < xs.length
    · obtain ⟨b, off, x, rfl, hcell, hx, _⟩ := HA.out.elem hlt
      have hxe : (x != k0 + (k : Int)) = false := by rw [HV.out k x hx.out]; simp
      go_wp2
      go_round
      case rel => exact ⟨k + 1, by omega, by go_num, by go_num⟩
      case measure => simp [intOf]; omega
    · obtain rfl : k = xs.length := by omega
      go_wp2
      go_ret
      exact ⟨rfl, rfl⟩

theorem grown_set {w0 w : World} {g : Nat} (h : w0.grownBy w (some g)) (i : Nat) (u : Value) : w0.grownBy (w.setCell ⟨g, i, none⟩ u) (some g) :=
  ⟨h.os, h.tape, h.output, by simpa [World.setCell] using h.size, fun k hk hne => (Below.heap_setCell w ⟨g, i, none⟩ u k (fun e => hne (by rw [e]))).trans (h.block k hk hne)⟩

set_option maxHeartbeats 400000 in
theorem lMarkIntS (base : Nat) (A : Option Addr) (nn c : Nat) (xs : List Int) (k0 : Int) (w : World) (hn : nn = xs.length) (hl : nn ≤ 1048576) (hk : 0 ≤ k0) (hk2 : k0 ≤ 1073741824) (hO : Owns w base (.slice A nn c) xs) :
    Calls Try.prog 46 #[.slice A nn c, .int .i64 k0] w fun e w' => ∃ ys : List Int, e = .returned (.int .i64 (k0 + nn)) ∧ ys.length = nn ∧ (∀ (i : Nat) (y : Int), ys[i]? = some y → y = k0 + (i : Int)) ∧
      Owns w' base (.slice A nn c) ys ∧ w.grownBy w' (Value.slice A nn c).ownBlock := by
  subst hn
  have HO := Lib.hid hO
  rcases hO.2 with ⟨hv, hz⟩ | ⟨g, cap, cur, hv, hb, hg, hnc, hcm, hcs, _⟩
  · simp only [Value.slice.injEq] at hv
    obtain ⟨rfl, _, rfl⟩ := hv
    obtain rfl : xs = [] := List.eq_nil_of_length_eq_zero (by omega)
    clear hO hz
    go_enter Try.func46, Try.ntmps46
    go_wp2
    refine wp_loop_rounds 1 ?_
    rw [rounds_succ]
    go_wp2
    go_ret
    exact ⟨[], by simp, rfl, by simp, HO.out, World.grownBy.refl w _⟩
  · simp only [Value.slice.injEq] at hv
    obtain ⟨rfl, _, rfl⟩ := hv
    clear hO hg hcs
    go_enter Try.func46, Try.ntmps46
    go_wp2
    go_loopw [1, 5] (fun q i wr => ∃ (k : Nat) (ys : List Int), k ≤ xs.length ∧ i = .int .i64 k ∧ q = .int .i64 (k0 + k) ∧ Hid (ys.length = xs.length) ∧ Hid (∀ (i : Nat) (y : Int), i < k → ys[i]? = some y → y = k0 + (i : Int)) ∧
      wr.ownsRow base 3 1 (.slice (some ⟨g, 0, none⟩) xs.length c) xs.length (ys.map (Value.int .i64)) ∧ w.grownBy wr (some g)) (fun _ i _ => xs.length - (intOf i).toNat)
    case atStart => exact ⟨0, xs, Nat.zero_le _, rfl, by simp, rfl, fun i y h => by omega, HO.out, World.grownBy.refl w _⟩
    case round =>
      obtain ⟨k, ys, hk', rfl, rfl, hlen, hso, hown, hgr⟩ := hrel
      have HW := Lib.hid hown
      have HG := Lib.hid hgr
      clear hown hgr
      by_cases hlt : k < xs.length
      · have hc1 := HW.out.cellAt k (by omega)
        have hf1 := HW.out.frozenAt k
        rw [List.getElem?_map, List.getElem?_eq_getElem (by rw [hlen.out]; exact hlt)] at hc1
        simp only [Option.map_some] at hc1
        generalize ys[k]'(by rw [hlen.out]; exact hlt) = y0 at hc1
        go_wp2
        go_roundw
        case rel =>
          have hst := HW.out.stored k (.int .i64 (k0 + k))
          refine ⟨k + 1, ys.set k (k0 + k), by omega, by go_num, by go_num, by unfold Hid; rw [List.length_set]; exact hlen.out, ?_, by rw [List.map_set]; exact hst.1, grown_set HG.out k _⟩
          intro i y hi hy
          rw [List.getElem?_set] at hy
          by_cases e : k = i
          · subst e
            rw [if_pos rfl, if_pos (by rw [hlen.out]; exact hlt)] at hy
            cases hy; rfl
          · rw [if_neg e] at hy
            exact hso.out i y (by omega) hy
        case measure => simp [intOf]; omega
      · obtain rfl : k = xs.length := by omega
        go_wp2
        go_ret
        refine ⟨ys, rfl, hlen.out, fun i y hy => hso.out i y (by rw [← hlen.out]; exact (List.getElem?_eq_some_iff.1 hy).1) hy, ?_, HG.out⟩
        have := HW.out
        rw [← hlen.out] at this
        unfold Owns
        rw [← hlen.out]
        exact this
end Go.Proofs.Ytfancfjbipjibaa
