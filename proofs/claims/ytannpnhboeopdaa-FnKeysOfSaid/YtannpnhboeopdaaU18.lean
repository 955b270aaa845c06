/-
  What the proofs of this seat's statements share (BndV, FrmB).
-/
import Derived.WalkKit
import Derived.ProofKit
import Derived.OpenShut
import Derived.ChangeOld
import Derived.Deep.SlicePairs
import Derived.Test.YtannpnhboeopdaaU15
import Derived.Test.YtannpnhboeopdaaU16
import Derived.Test.YtannpnhboeopdaaU6
import Derived.Test.YtannpnhboeopdaaU9

namespace Go.Proofs.Ytannpnhboeopdaa
open Go.RowKit

def hereTo (t : Int) (s : Nat) (ds : List (Int × Int)) (k : Nat) : Bool := (ds.take k).all fun d => holdsInB t s d.1 d.2
theorem here_zero (t : Int) (s : Nat) (ds : List (Int × Int)) : hereTo t s ds 0 = true := rfl
theorem hereP_next {t : Int} {s : Nat} {ds : List (Int × Int)} {k : Nat} {f g : Int} (h : Hid (ds[k]? = some (f, g))) : hereTo t s ds (k + 1) = (hereTo t s ds k && holdsInB t s f g) := by
  unfold hereTo; rw [takeP_snoc h, List.all_append]; simp
def allTo (t : Int) (ds : List (Int × Int)) (f g : Int) (n : Nat) : Bool := (List.range n).all fun s => !(hereTo t s ds ds.length) || holdsInB t (s : Int) f g
theorem allTo_next (t : Int) (ds : List (Int × Int)) (f g : Int) (n : Nat) : allTo t ds f g (n + 1) = (allTo t ds f g n && (!(hereTo t n ds ds.length) || holdsInB t (n : Int) f g)) := by
  unfold allTo; rw [List.range_succ, List.all_append]; simp
theorem allTo_end {t : Int} {ds : List (Int × Int)} {f g : Int} (hb : bondOkB t f g = true) (hl : bondsOkB t ds = true) {al : Nat} (ha : allOf t = al) : allTo t ds f g (al + 1) = bondFollowsB t ds f g := by
  obtain ⟨h8, ho⟩ := bonds_list hl
  rw [Bool.eq_iff_iff, law_follows hb h8 ho]
  unfold allTo hereTo
  rw [List.all_eq_true, List.take_length]
  constructor
  · intro h s h0 hs hall
    have := h s.toNat (List.mem_range.2 (by omega))
    rw [show ((s.toNat : Nat) : Int) = s by omega, List.all_eq_true.2 hall] at this
    simpa using this
  · intro h n hn
    rw [List.mem_range] at hn
    cases hh : ds.all fun d => holdsInB t (n : Int) d.1 d.2
    · rfl
    · rw [h (n : Int) (by omega) (by omega) (List.all_eq_true.1 hh)]; rfl
theorem follows_no {t : Int} {ds : List (Int × Int)} {f g : Int} (h : bondOkB t f g = false ∨ bondsOkB t ds = false) : bondFollowsB t ds f g = false := by
  rw [follows_eq5]
  rcases h with h | h <;> rw [h] <;> simp
theorem many_no {t : Int} {ds : List (Int × Int)} (h : 8 < ds.length) : bondsOkB t ds = false := by
  unfold bondsOkB; rw [decide_eq_false (by omega)]; rfl
def okTo (t : Int) (ds : List (Int × Int)) (k : Nat) : Bool := (ds.take k).all fun d => bondOkB t d.1 d.2
theorem okTo_end {t : Int} {ds : List (Int × Int)} (h : ds.length ≤ 8) : okTo t ds ds.length = bondsOkB t ds := by
  unfold okTo bondsOkB; rw [List.take_length, decide_eq_true h]; rfl
set_option maxRecDepth 100000 in
set_option maxHeartbeats 8000000 in
theorem wBondFollows (A : Option Addr) (nn c : Nat) (zs : List Int) (w : World) (hn : nn = zs.length) (hc : nn ≤ c) (hm : c ≤ maxLen) (hr : ∀ z ∈ zs, 0 ≤ z ∧ z ≤ 255) (hA : Nums .u8 w A zs) :
    Calls Try.prog 5 #[.slice A nn c] w fun e w' => e = .returned (.bool true) ∧ Below w.heap.size w w' := by
  have HO := Lib.hid (drawBondFollows_any A nn c zs w hn hc hm hr hA)
  have hm' : nn ≤ 9223372036854775807 := by unfold maxLen at hm; omega
  clear hn hc hm hr hA
  by_cases hl : 1048576 < nn
  · have hd : decide ((1048576 : Int) < (nn : Int)) = true := decide_eq_true (by omega)
    go_enter Try.func5, Try.ntmps5
    go_wp2_with fail
    go_ret
    exact ⟨rfl, Below.refl _ _⟩
  have hd : decide ((1048576 : Int) < (nn : Int)) = false := decide_eq_false (by omega)
  clear hl
  go_enter Try.func5, Try.ntmps5
  go_wp2_with fail
  refine HO.out.mono ?_
  rintro e w1 ⟨t, f, g, ds, v, rfl, ho, hlen, hb⟩
  obtain ⟨A1, c1, rfl, _, _, _, _⟩ := ho.form
  have HX : Hid (BoxAt (w1.alloc (.cells #[.int .i64 f, .int .i64 g] 24)) w1.heap.size f g) := BoxAt.new w1 f g _
  have HR : Hid (BRow (w1.alloc (.cells #[.int .i64 f, .int .i64 g] 24)) A1 ds.length c1 ds) := (OwnsP.row ho (by omega)).below bel_box
  have HB : Hid (Below w.heap.size w (w1.alloc (.cells #[.int .i64 f, .int .i64 g] 24))) := hb.alloc hb.size _
  obtain ⟨b, HT⟩ : ∃ b, Hid (bondFollowsB t ds f g = b) := ⟨_, rfl⟩
  have hbn : (b != b) = false := by cases b <;> rfl
  clear hb HO hd ho
  go_wp2_with fail
  refine (iBondFollows_is HT HR.out).mono ?_
  rintro e w2 ⟨rfl, hb⟩
  replace HX := Lib.hid (HX.out.below hb)
  replace HR := Lib.hid (HR.out.below hb)
  replace HB := Lib.hid (bel_trans HB.out hb)
  obtain ⟨hc0, hc1, _⟩ := HX.out
  clear hb
  go_wp2_with fail
  clear hc0 hc1
  refine (sBondFollows_is HT HR.out).mono ?_
  rintro e w3 ⟨rfl, hb⟩
  replace HX := Lib.hid (HX.out.below hb)
  replace HR := Lib.hid (HR.out.below hb)
  replace HB := Lib.hid (bel_trans HB.out hb)
  obtain ⟨hc0, hc1, _⟩ := HX.out
  clear hb
  have hwy : bondOkB t f g = false ∨ (bondOkB t f g = true ∧ 8 < ds.length) ∨ (bondOkB t f g = true ∧ ds.length ≤ 8) := by
    cases bondOkB t f g
    · exact .inl rfl
    · rcases Nat.lt_or_ge 8 ds.length with h | h
      · exact .inr (.inl ⟨rfl, h⟩)
      · exact .inr (.inr ⟨rfl, h⟩)
  rcases hwy with h1 | ⟨h1, h8⟩ | ⟨h1, h8⟩
  · have H1 := Lib.hid h1
    have hT := HT.out
    skip
    rw [follows_no (.inl (h1))] at hT
    subst hT
    clear h1 hbn
    go_wp2_with fail
    refine (sBondOk_is H1 _).mono ?_
    rintro e w4 ⟨rfl, hb⟩
    replace HR := Lib.hid (HR.out.below hb)
    replace HB := Lib.hid (bel_trans HB.out hb)
    clear hb hc0 hc1
    go_wp2_with fail
    go_loopw [7, 8] (fun gv i wr => ∃ k : Nat, k ≤ ds.length ∧ i = .int .i64 k ∧ gv = .bool false ∧ wr = w4) (fun _ i _ => ds.length - (Go.RowKit.intOf i).toNat)
    case atStart => exact ⟨0, Nat.zero_le _, rfl, rfl, rfl⟩
    case round =>
      obtain ⟨k, hk, rfl, rfl, rfl⟩ := hrel
      by_cases hlt : k < ds.length
      · go_wp2_with fail
        go_roundw
        case rel => exact ⟨k + 1, by omega, by go_num, rfl, by first | rfl | trivial⟩
        case measure => simp [Go.RowKit.intOf]; omega
      · obtain rfl : k = ds.length := by omega
        go_wp2_with fail
        refine (lAlive _).mono ?_
        rintro e w' ⟨rfl, rfl⟩
        go_wp2_with fail
        go_ret
        exact ⟨rfl, HB.out⟩
  · have H1 := Lib.hid h1
    have hT := HT.out
    have h8m := many_no (t := t) h8
    have h88 : decide ((ds.length : Int) ≤ 8) = false := decide_eq_false (by omega)
    rw [follows_no (.inr (h8m))] at hT
    subst hT
    clear h1 hbn
    go_wp2_with fail
    refine (sBondOk_is H1 _).mono ?_
    rintro e w4 ⟨rfl, hb⟩
    replace HR := Lib.hid (HR.out.below hb)
    replace HB := Lib.hid (bel_trans HB.out hb)
    clear hb hc0 hc1
    go_wp2_with fail
    go_loopw [7, 8] (fun gv i wr => ∃ k : Nat, k ≤ ds.length ∧ i = .int .i64 k ∧ gv = .bool false ∧ wr = w4) (fun _ i _ => ds.length - (Go.RowKit.intOf i).toNat)
    case atStart => exact ⟨0, Nat.zero_le _, rfl, rfl, rfl⟩
    case round =>
      obtain ⟨k, hk, rfl, rfl, rfl⟩ := hrel
      by_cases hlt : k < ds.length
      · go_wp2_with fail
        go_roundw
        case rel => exact ⟨k + 1, by omega, by go_num, rfl, by first | rfl | trivial⟩
        case measure => simp [Go.RowKit.intOf]; omega
      · obtain rfl : k = ds.length := by omega
        go_wp2_with fail
        refine (lAlive _).mono ?_
        rintro e w' ⟨rfl, rfl⟩
        go_wp2_with fail
        go_ret
        exact ⟨rfl, HB.out⟩
  · have H1 := Lib.hid h1
    have HOE := Lib.hid (okTo_end (t := t) h8)
    obtain ⟨h1t, h3t, _⟩ := thingsOk_of (show thingsOk t f = true by unfold bondOkB at h1; rw [Bool.and_eq_true] at h1; exact h1.1)
    obtain ⟨al, HAL⟩ : ∃ n : Nat, Hid (allOf t = (n : Int)) := ⟨(allOf t).toNat, by have := allOf_lt t; show _ = _; omega⟩
    have hal : al < 256 := by have := (allOf_lt t).2; rw [HAL.out] at this; omega
    have HEND : Hid (bondsOkB t ds = true → allTo t ds f g (al + 1) = b) := fun h => (allTo_end h1 h HAL.out).trans HT.out
    have HNO : Hid (bondsOkB t ds = false → b = false) := fun h => by rw [← HT.out]; exact follows_no (.inr h)
    have h88 : decide ((ds.length : Int) ≤ 8) = true := decide_eq_true (by omega)
    clear h1
    go_wp2_with fail
    refine (sBondOk_is H1 _).mono ?_
    rintro e w4 ⟨rfl, hb⟩
    replace HX := Lib.hid (HX.out.below hb)
    replace HR := Lib.hid (HR.out.below hb)
    replace HB := Lib.hid (bel_trans HB.out hb)
    clear hb hc0 hc1
    go_wp2_with fail
    clear h88
    go_loopw [7, 8] (fun gv i wr => ∃ k : Nat, k ≤ ds.length ∧ i = .int .i64 k ∧ gv = .bool (okTo t ds k) ∧ Below w4.heap.size w4 wr) (fun _ i _ => ds.length - (Go.RowKit.intOf i).toNat)
    case atStart => exact ⟨0, Nat.zero_le _, rfl, rfl, Below.refl _ _⟩
    case round =>
      obtain ⟨k, hk, rfl, rfl, hbel⟩ := hrel
      have HBW := Lib.hid hbel
      clear hbel
      by_cases hlt : k < ds.length
      · obtain ⟨bb, off, f1, g1, hA1, hc0, hc1, hx, _⟩ := (HR.out.hA.below HBW.out).elem hlt
        subst hA1
        have hnx := allP_snoc (t := t) hx
        rcases hy : okTo t ds k with _ | _
        · have HN : Hid (okTo t ds (k + 1) = false) := by unfold okTo at hy; unfold Hid okTo; rw [hnx, hy]; rfl
          clear hnx hy hc0 hc1
          go_wp2_with fail
          go_roundw
          case rel => exact ⟨k + 1, by omega, by go_num, by rw [HN.out], HBW.out⟩
          case measure => simp [Go.RowKit.intOf]; omega
        · obtain ⟨z, HZ⟩ : ∃ z, Hid (bondOkB t f1 g1 = z) := ⟨_, rfl⟩
          have HN : Hid (okTo t ds (k + 1) = z) := by unfold okTo at hy; unfold Hid okTo; rw [hnx, hy, HZ.out]; rfl
          clear hnx hy
          go_wp2_with fail
          refine (sBondOk_is HZ _).mono ?_
          rintro e w5 ⟨rfl, hb⟩
          have HB5 := Lib.hid (bel_trans HBW.out hb)
          clear hb hc0 hc1
          go_wp2_with fail
          go_roundw
          case rel => exact ⟨k + 1, by omega, by go_num, by rw [HN.out], HB5.out⟩
          case measure => simp [Go.RowKit.intOf]; omega
      · obtain rfl : k = ds.length := by omega
        rw [HOE.out]
        rcases hok : bondsOkB t ds with _ | _
        · obtain rfl := HNO.out hok
          clear hok
          go_wp2_with fail
          refine (lAlive _).mono ?_
          rintro e w' ⟨rfl, rfl⟩
          go_wp2_with fail
          go_ret
          exact ⟨rfl, bel_trans HB.out HBW.out⟩
        · have HE := Lib.hid (HEND.out hok)
          have hbb : (b == b) = true := by cases b <;> rfl
          have HBB := Lib.hid hbb
          clear hok hbb
          go_wp2_with fail
          go_loopw [9, 10] (fun av i wr => ∃ n : Nat, n ≤ al + 1 ∧ i = .int .i64 n ∧ av = .bool (allTo t ds f g n) ∧ Below w4.heap.size w4 wr) (fun _ i _ => al + 1 - (Go.RowKit.intOf i).toNat)
          case atStart => exact ⟨0, Nat.zero_le _, rfl, rfl, HBW.out⟩
          case round =>
            obtain ⟨n, hn, rfl, rfl, hbel⟩ := hrel
            have HBN := Lib.hid hbel
            clear hbel
            go_wp2_with fail
            refine (lWhole_is HAL h1t h3t _).mono ?_
            rintro e w' ⟨rfl, rfl⟩
            by_cases hnt : n ≤ al
            · have hle : (n : Int) ≤ (al : Int) := by omega
              have hdn : decide ((n : Int) ≤ (al : Int)) = true := decide_eq_true hle
              have HNX := Lib.hid (allTo_next t ds f g n)
              go_wp2_with fail
              clear hdn
              go_loopw [11, 12] (fun hv i wi => ∃ k : Nat, k ≤ ds.length ∧ i = .int .i64 k ∧ hv = .bool (hereTo t n ds k) ∧ Below w4.heap.size w4 wi) (fun _ i _ => ds.length - (Go.RowKit.intOf i).toNat)
              case atStart => exact ⟨0, Nat.zero_le _, rfl, rfl, HBN.out⟩
              case round =>
                obtain ⟨k, hk, rfl, rfl, hbel⟩ := hrel
                have HBI := Lib.hid hbel
                clear hbel
                by_cases hkt : k < ds.length
                · obtain ⟨bb, off, f1, g1, hA1, hc0, hc1, hx, _⟩ := (HR.out.hA.below HBI.out).elem hkt
                  subst hA1
                  have hnx := hereP_next (t := t) (s := n) hx
                  rcases hy : hereTo t n ds k with _ | _
                  · have HN : Hid (hereTo t n ds (k + 1) = false) := by unfold Hid; rw [hnx, hy]; rfl
                    clear hnx hy hc0 hc1
                    go_wp2_with fail
                    go_roundw
                    case rel => exact ⟨k + 1, by omega, by go_num, by rw [HN.out], HBI.out⟩
                    case measure => simp [Go.RowKit.intOf]; omega
                  · obtain ⟨z, HZ⟩ : ∃ z, Hid (holdsInB t (n : Int) f1 g1 = z) := ⟨_, rfl⟩
                    have HN : Hid (hereTo t n ds (k + 1) = z) := by unfold Hid; rw [hnx, hy, HZ.out]; rfl
                    clear hnx hy
                    go_wp2_with fail
                    refine (iHoldsIn_is HZ _).mono ?_
                    rintro e w5 ⟨rfl, hb⟩
                    have HB5 := Lib.hid (bel_trans HBI.out hb)
                    clear hb hc0 hc1
                    go_wp2_with fail
                    go_roundw
                    case rel => exact ⟨k + 1, by omega, by go_num, by rw [HN.out], HB5.out⟩
                    case measure => simp [Go.RowKit.intOf]; omega
                · obtain rfl : k = ds.length := by omega
                  obtain ⟨y1, HY1⟩ : ∃ y, Hid (allTo t ds f g n = y) := ⟨_, rfl⟩
                  obtain ⟨y2, HY2⟩ : ∃ y, Hid (hereTo t n ds ds.length = y) := ⟨_, rfl⟩
                  obtain ⟨y3, HY3⟩ : ∃ y, Hid (holdsInB t (n : Int) f g = y) := ⟨_, rfl⟩
                  rw [HY1.out, HY2.out, HY3.out] at HNX
                  rw [HY1.out, HY2.out]
                  obtain ⟨hc0, hc1, _⟩ := HX.out.below HBI.out
                  cases y1
                  · have HN : Hid (allTo t ds f g (n + 1) = false) := HNX.out
                    clear hc0 hc1
                    go_wp2_with fail
                    go_roundw
                    case rel => exact ⟨n + 1, by omega, by go_num, by rw [HN.out], HBI.out⟩
                    case measure => simp [Go.RowKit.intOf]; omega
                  · cases y2
                    · have HN : Hid (allTo t ds f g (n + 1) = true) := HNX.out
                      clear hc0 hc1
                      go_wp2_with fail
                      go_roundw
                      case rel => exact ⟨n + 1, by omega, by go_num, by rw [HN.out], HBI.out⟩
                      case measure => simp [Go.RowKit.intOf]; omega
                    · have HN : Hid (allTo t ds f g (n + 1) = y3) := HNX.out
                      go_wp2_with fail
                      refine (iHoldsIn_is HY3 _).mono ?_
                      rintro e w5 ⟨rfl, hb⟩
                      have HB5 := Lib.hid (bel_trans HBI.out hb)
                      clear hb hc0 hc1
                      go_wp2_with fail
                      go_roundw
                      case rel => exact ⟨n + 1, by omega, by go_num, by rw [HN.out], HB5.out⟩
                      case measure => simp [Go.RowKit.intOf]; omega
            · obtain rfl : n = al + 1 := by omega
              rw [HE.out]
              have hbb := HBB.out
              have hdn : decide (((al + 1 : Nat) : Int) ≤ (al : Int)) = false := decide_eq_false (by omega)
              go_wp2_with fail
              go_ret
              exact ⟨rfl, bel_trans HB.out HBN.out⟩
end Go.Proofs.Ytannpnhboeopdaa

namespace Go.Proofs.Ytannpnhboeopdaa
open Go.ChangeShapes Go.WideShapes Go.ChangeAt Go.RowKit Go.Deep

theorem cells_bond : Try.prog.cellsOf 48 = 2 := by kernel_rfl
theorem cells_num : Try.prog.cellsOf 3 = 1 := by kernel_rfl
section
variable {H : Type} {enc : TypeId × Value → H} {w : World} {base : Nat} {spare : Nat → Bool} {held : Bool}
theorem box_of_trod {r : Reach} {b0 : Nat} {v : Value} {d : DataW H} {ps : List MemPlace} (hval : Value.okWide Try.prog w r b0 48 v) (h : DataW.Trod enc Try.prog w base spare held 48 v d ps) :
    ∃ f g : Int, v = .agg #[.int .i64 f, .int .i64 g] := by
  obtain ⟨cs, rfl, hs⟩ := okWide_struct Try.underlying48 hval
  obtain ⟨fuel, hf⟩ := h
  obtain ⟨y0, y1, n, _, hl, h0, h1⟩ := trod_struct2 Try.underlying48 hf
  rw [cells_bond] at hs
  obtain ⟨l⟩ := cs
  match l, hs with
  | [c0, c1], _ =>
    simp only [cells_num] at h0 h1
    obtain ⟨k0, e0, _, _⟩ := DataW.trod_int Try.underlying3 h0
    obtain ⟨k1, e1, _, _⟩ := DataW.trod_int Try.underlying3 h1
    simp [Value.cells] at e0 e1
    exact ⟨k0, k1, by rw [e0, e1]⟩
def numV : Value → Int
  | .int _ n => n
  | _ => 0
theorem bonds_of_trod {A : Option Addr} {len cap : Nat} {d : DataW H} {ps : List MemPlace} (h : DataW.Trod enc Try.prog w base spare held 52 (.slice A len cap) d ps) :
    ∃ ds : List (Int × Int), len = ds.length ∧ len ≤ cap ∧ cap ≤ maxLen ∧ Bonds w A ds := by
  obtain ⟨fuel, hf⟩ := h
  rcases open_slice_pairs Try.underlying52 Try.underlying48 cells_bond rfl rfl cells_num cells_num hf with ⟨hcs, _⟩ | ⟨a, l, c, m, n, V0, V1, D0, D1, P0, P1, hcs, _, hl, hm, hmm, _, hx⟩
  · simp [Value.cells] at hcs
    obtain ⟨rfl, rfl, rfl⟩ := hcs
    exact ⟨[], rfl, Nat.le_refl _, Nat.zero_le _, fun h => absurd h (Nat.lt_irrefl 0)⟩
  · simp [Value.cells] at hcs
    obtain ⟨rfl, rfl, rfl⟩ := hcs
    have hlm : len ≤ m := by rw [hmm]; split <;> omega
    refine ⟨(List.range len).map fun i => (numV (V0 i), numV (V1 i)), by simp, hl, hm, fun hp => ?_⟩
    simp only [List.length_map, List.length_range] at hp
    have hsp : a.spot = none := by
      have := (hx 0 (by omega)).1
      have := World.cell?_spot this
      simpa [Addr.add] using this
    obtain ⟨b, off, spot⟩ := a
    subst hsp
    refine ⟨b, off, rfl, ?_, fun i d hd => ?_⟩
    · have := (hx 0 (by omega)).1
      exact World.block_lt_of_cell? w _ this
    · have hi : i < len := Classical.byContradiction fun hn => by
        rw [List.getElem?_eq_none (by simp only [List.length_map, List.length_range]; omega)] at hd; cases hd
      rw [List.getElem?_map, List.getElem?_range hi] at hd
      obtain rfl := Option.some.inj hd
      obtain ⟨c0, c1, t0, t1⟩ := hx i (by omega)
      obtain ⟨k0, e0, _, _⟩ := DataW.trod_int Try.underlying3 t0
      obtain ⟨k1, e1, _, _⟩ := DataW.trod_int Try.underlying3 t1
      have f0 : V0 i = .int .i64 k0 := by simpa [Value.cells] using e0
      have f1 : V1 i = .int .i64 k1 := by simpa [Value.cells] using e1
      rw [add_plain] at c0 c1
      rw [f0] at c0
      rw [f1] at c1
      refine ⟨?_, ?_⟩
      · rw [c0]; show some (Value.int .i64 k0) = some (Value.int .i64 (numV (V0 i))); rw [f0]; rfl
      · rw [Nat.add_assoc, c1]; show some (Value.int .i64 k1) = some (Value.int .i64 (numV (V1 i))); rw [f1]; rfl
end
end Go.Proofs.Ytannpnhboeopdaa
