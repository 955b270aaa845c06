/-
  What the proofs of this seat's statements share (DdL, DdM, DdX, FrmD).
-/
import Derived.Deep.RegionHeld3
import Derived.WalkKit
import Derived.ProofKit
import Derived.OpenShut
import Derived.ChangeOld
import Derived.Deep.SlicePairs
import Derived.Test.YtobgnbgmpcilgaaU9
import Derived.Test.YtobgnbgmpcilgaaU8
import Derived.Test.YtobgnbgmpcilgaaU11
import Derived.Test.YtobgnbgmpcilgaaU7

namespace Go.Proofs.Ytobgnbgmpcilgaa
open Go.RowKit

theorem results_deed2 {fn : Func} {r : Tmp} (h : fn.results = #[.cell r 24]) {tmps : Array Value} {w : World} {b : Nat} {x y : Value} (ht : tmps.getD r undef = .pointer (some ⟨b, 0, none⟩))
   (hc0 : w.cell? ⟨b, 0, none⟩ = some x) (hc1 : w.cell? ⟨b, 1, none⟩ = some y) : (results fn tmps).run Try.prog w = .ok (.agg #[x, y]) w := by
  have ht : tmps[r]?.getD undef = .pointer (some ⟨b, 0, none⟩) := by simpa using ht
  simp [results, h, ht, go_sem, hc0, hc1]
theorem bel_boxD {W : World} {T : TypeId} {a b : Value} : Below W.heap.size W (W.alloc (.cells #[a, b] T)) := (Below.refl _ _).alloc (Nat.le_refl _) _
theorem lToDeed (f : Int) (g : ByteArray) (w : World) :
    Calls Try.prog 29 #[.agg #[.int .i64 f, .string g]] w fun e w' => e = .returned (.agg #[.int .i64 f, .string g]) ∧ Below w.heap.size w w' := by
  go_enter Try.func29, Try.ntmps29
  go_wp2_with fail
  refine bodyPost_ret_by (results_deed2 (b := w.heap.size + 1) (x := .int .i64 f) (y := .string g) rfl rfl (by simp [go_sem]) (by simp [go_sem])) rfl ⟨rfl, ?_⟩
  exact ((bel_boxD).alloc (by rw [World.size_alloc]; omega) _).alloc (by rw [World.size_alloc, World.size_alloc]; omega) _
theorem lEqDeed (f : Int) (g : ByteArray) (w : World) :
    Calls Try.prog 30 #[.agg #[.int .i64 f, .string g], .agg #[.int .i64 f, .string g]] w fun e w' => e = .returned (.bool true) ∧ Below w.heap.size w w' := by
  have hd : (f != f) = false := by simp
  have hd2 := str_eq g
  go_enter Try.func30, Try.ntmps30
  go_wp2_with fail
  go_ret
  exact ⟨rfl, ((Below.refl _ _).alloc (Nat.le_refl _) _).alloc (by rw [World.size_alloc]; omega) _⟩
set_option maxHeartbeats 2000000 in
theorem lSameDeeds (A B : Option Addr) (n m c d : Nat) (ds : List DeedV) (w : World) (ha : DRow w A n c ds) (hb : DRow w B m d ds) :
    Calls Try.prog 22 #[.slice A n c, .slice B m d] w fun e w' => e = .returned (.bool true) ∧ ∃ n, w' = w.drewN n := by
  have HA := Lib.hid ha
  have HB := Lib.hid hb
  obtain rfl := ha.hn
  obtain rfl := hb.hn
  have hl := ha.hl
  have hd : ((ds.length : Int) != (ds.length : Int)) = false := by simp
  clear ha hb
  go_enter Try.func22, Try.ntmps22
  go_wp2_with fail
  go_loopw [5] (fun i wr => ∃ k : Nat, k ≤ ds.length ∧ i = .int .i64 k ∧ ∃ n, wr = w.drewN n) (fun i _ => ds.length - (Go.RowKit.intOf i).toNat)
  case atStart => exact ⟨0, Nat.zero_le _, rfl, 0, rfl⟩
  case round =>
    obtain ⟨k, hk, rfl, n, rfl⟩ := hrel
    by_cases hlt : k < ds.length
    · obtain ⟨b, off, f, g, rfl, hc0, hc1, hx, _⟩ := HA.out.hA.elem hlt
      obtain ⟨b', off', f', g', rfl, hc0', hc1', hx', _⟩ := HB.out.hA.elem hlt
      have e := hx.out.symm.trans hx'.out
      simp only [Option.some.injEq, Prod.mk.injEq] at e
      obtain ⟨rfl, rfl⟩ := e
      have hd2 := str_eq g
      go_wp2_with fail
      go_quiet (fail)
      go_wp2_with fail
      go_roundw
      case rel => exact ⟨k + 1, by omega, by go_num, _, rfl⟩
      case measure => simp [Go.RowKit.intOf]; omega
    · obtain rfl : k = ds.length := by omega
      go_wp2_with fail
      go_ret
      exact ⟨rfl, _, rfl⟩
set_option maxHeartbeats 2000000 in
theorem lEqDeedS (A B : Option Addr) (n m c d : Nat) (ds : List DeedV) (w : World) (ha : DRow w A n c ds) (hb : DRow w B m d ds) :
    Calls Try.prog 33 #[.slice A n c, .slice B m d] w fun e w' => e = .returned (.bool true) ∧ Below w.heap.size w w' := by
  have HA := Lib.hid ha
  have HB := Lib.hid hb
  obtain rfl := ha.hn
  obtain rfl := hb.hn
  have hl := ha.hl
  have hd : ((ds.length : Int) != (ds.length : Int)) = false := by simp
  clear ha hb
  go_enter Try.func33, Try.ntmps33
  go_wp2_with fail
  clear hd
  go_loopw [5] (fun i wr => ∃ k : Nat, k ≤ ds.length ∧ i = .int .i64 k ∧ Below w.heap.size w wr) (fun i _ => ds.length - (Go.RowKit.intOf i).toNat)
  case atStart => exact ⟨0, Nat.zero_le _, rfl, Below.refl _ _⟩
  case round =>
    obtain ⟨k, hk, rfl, hbel⟩ := hrel
    have HBW := Lib.hid hbel
    clear hbel
    by_cases hlt : k < ds.length
    · obtain ⟨b, off, f, g, rfl, hc0, hc1, hx, hb1⟩ := (HA.out.hA.below HBW.out).elem hlt
      obtain ⟨b', off', f', g', rfl, hc0', hc1', hx', hb2⟩ := (HB.out.hA.below HBW.out).elem hlt
      have e := hx.out.symm.trans hx'.out
      simp only [Option.some.injEq, Prod.mk.injEq] at e
      obtain ⟨rfl, rfl⟩ := e
      go_wp2_with fail
      go_region_held3 (fun w' => w'.cell? ⟨b, off + k * 2, none⟩ = some (.int .i64 f) ∧ w'.cell? ⟨b, off + k * 2 + 1, none⟩ = some (.string g) ∧ w'.cell? ⟨b', off' + k * 2, none⟩ = some (.int .i64 f) ∧ w'.cell? ⟨b', off' + k * 2 + 1, none⟩ = some (.string g))
        (first | go_keep | exact ⟨hc0, hc1, hc0', hc1'⟩ | exact HKEEP.out)
        (first | (go_at_call 30; refine (lEqDeed f g _).mono ?_; rintro e w1 ⟨rfl, hb⟩; have HKEEP := Lib.hid (And.intro (((Below.cell hb (p := ⟨b, off + k * 2, none⟩)) hb1.out).trans hc0) (And.intro (((Below.cell hb (p := ⟨b, off + k * 2 + 1, none⟩)) hb1.out).trans hc1) (And.intro (((Below.cell hb (p := ⟨b', off' + k * 2, none⟩)) hb2.out).trans hc0') (((Below.cell hb (p := ⟨b', off' + k * 2 + 1, none⟩)) hb2.out).trans hc1')))); have HB2 := Lib.hid (bel_trans (bel_drewN HBW.out 1) hb); clear hb))
      all_goals
        go_wp2_with fail
        go_roundw
        case rel => exact ⟨k + 1, by omega, by go_num, HB2.out⟩
        case measure => simp [Go.RowKit.intOf]; omega
    · obtain rfl : k = ds.length := by omega
      go_wp2_with fail
      go_ret
      exact ⟨rfl, HBW.out⟩

/-! How long they are. -/
theorem lSzDeed (f : Int) (g : ByteArray) (l : Int) (w : World) (hl0 : 0 ≤ l) (hl1 : l ≤ 1048576) (hg : g.size ≤ 9223372036854775807) :
    Calls Try.prog 28 #[.agg #[.int .i64 f, .string g], .int .i64 l] w fun e w' => ∃ q : Int, e = .returned (.int .i64 q) ∧ q ≤ l ∧ (0 ≤ q → g.size ≤ 1048576) ∧ -1 ≤ q ∧ Below w.heap.size w w' := by
  by_cases h : l - (g.size : Int) < 0
  · have hd : decide (l - (g.size : Int) < 0) = true := decide_eq_true h
    go_enter Try.func28, Try.ntmps28
    go_wp2_with fail
    go_ret
    exact ⟨-1, rfl, by omega, by omega, by omega, (Below.refl _ _).alloc (Nat.le_refl _) _⟩
  · have hd : decide (l - (g.size : Int) < 0) = false := decide_eq_false h
    go_enter Try.func28, Try.ntmps28
    go_wp2_with fail
    go_ret
    exact ⟨l - (g.size : Int), rfl, by omega, by omega, by omega, (Below.refl _ _).alloc (Nat.le_refl _) _⟩
set_option maxHeartbeats 2000000 in
theorem lSzDeedS (A : Option Addr) (n c : Nat) (ds : List DeedV) (l : Int) (w : World) (hn : n = ds.length) (hc : n ≤ c) (hm : c ≤ maxLen) (hA : Deeds w A ds) (hs : ∀ d ∈ ds, d.2.size ≤ maxLen) (hl0 : 0 ≤ l) (hl1 : l ≤ 1048576) :
    Calls Try.prog 31 #[.slice A n c, .int .i64 l] w fun e w' => ∃ q : Int, e = .returned (.int .i64 q) ∧ q ≤ l ∧ (0 ≤ q → n ≤ 1048576 ∧ ∀ d ∈ ds, d.2.size ≤ 1048576) ∧ -1 ≤ q ∧ Below w.heap.size w w' := by
  subst hn
  have hm' : ds.length ≤ 9223372036854775807 := by unfold maxLen at hm; omega
  have HA := Lib.hid hA
  have HS := Lib.hid hs
  clear hA hs hc hm
  by_cases hl : l - (ds.length : Int) < 0
  · have hd : decide (l - (ds.length : Int) < 0) = true := decide_eq_true hl
    go_enter Try.func31, Try.ntmps31
    go_wp2_with fail
    go_ret
    exact ⟨-1, rfl, by omega, by omega, by omega, Below.refl _ _⟩
  have hd : decide (l - (ds.length : Int) < 0) = false := decide_eq_false hl
  go_enter Try.func31, Try.ntmps31
  go_wp2_with fail
  clear hd
  go_loopw [1, 5] (fun q i wr => ∃ (k : Nat) (v : Int), k ≤ ds.length ∧ i = .int .i64 k ∧ q = .int .i64 v ∧ 0 ≤ v ∧ v ≤ l ∧ Hid (∀ j d, j < k → ds[j]? = some d → d.2.size ≤ 1048576) ∧ Hid (Below w.heap.size w wr)) (fun _ i _ => ds.length - (Go.RowKit.intOf i).toNat)
  case atStart => exact ⟨0, _, Nat.zero_le _, rfl, rfl, by omega, by omega, (fun j d h => by omega), Below.refl _ _⟩
  case round =>
    obtain ⟨k, v, hk, rfl, rfl, hv0, hv1, HSO, HB⟩ := hrel
    by_cases hlt : k < ds.length
    · obtain ⟨b, off, f, g, rfl, hc0, hc1, hx, _⟩ := (HA.out.below HB.out).elem hlt
      have hg := HS.out (f, g) (elem_memD hx)
      go_wp2_with fail
      refine (lSzDeed f g v _ hv0 (by omega) (by unfold maxLen at hg; exact hg)).mono ?_
      rintro e w2 ⟨q, rfl, hq1, hq2, hq3, hb⟩
      have HB2 := Lib.hid (bel_trans HB.out hb)
      have HQ := Lib.hid hq2
      clear hb hq2
      by_cases hq : q < 0
      · have hd : decide (q < 0) = true := decide_eq_true hq
        go_wp2_with fail
        go_ret
        exact ⟨-1, rfl, by omega, by omega, by omega, HB2.out⟩
      · have hd : decide (q < 0) = false := decide_eq_false hq
        have HSN : Hid (∀ j d, j < k + 1 → ds[j]? = some d → d.2.size ≤ 1048576) := by
          intro j d hj hdj
          by_cases e : j = k
          · subst e
            rw [hx.out] at hdj; cases hdj; exact HQ.out (by omega)
          · exact HSO.out j d (by omega) hdj
        go_wp2_with fail
        go_roundw
        case rel => exact ⟨k + 1, q, by omega, by go_num, rfl, by omega, by omega, HSN, HB2⟩
        case measure => simp [Go.RowKit.intOf]; omega
    · obtain rfl : k = ds.length := by omega
      have HALL : Hid (∀ d ∈ ds, d.2.size ≤ 1048576) := fun d hd => by
        obtain ⟨j, hj⟩ := List.mem_iff_getElem?.1 hd
        exact HSO.out j d (List.getElem?_eq_some_iff.1 hj).1 hj
      go_wp2_with fail
      go_ret
      exact ⟨v, rfl, by omega, fun _ => ⟨by omega, HALL.out⟩, by omega, HB.out⟩
end Go.Proofs.Ytobgnbgmpcilgaa

namespace Go.Proofs.Ytobgnbgmpcilgaa
open Go.RowKit

/-- The marks of n deeds from k on. -/
def marksD (k : Nat) (n : Nat) : List DeedV := (List.range n).map fun i : Nat => (((k + 2 * i : Nat) : Int), markB (k + 2 * i + 1))
theorem marksD_len (k : Nat) (n : Nat) : (marksD k n).length = n := by unfold marksD; simp
theorem marksD_at {k n i : Nat} {f : Int} {g : ByteArray} (h : Hid ((marksD k n)[i]? = some (f, g))) : f = ((k + 2 * i : Nat) : Int) ∧ g = markB (k + 2 * i + 1) := by
  have h := h.out
  unfold marksD at h
  rw [List.getElem?_map] at h
  by_cases hi : i < n
  · rw [List.getElem?_range hi] at h
    simp only [Option.map_some, Option.some.injEq, Prod.mk.injEq] at h
    exact ⟨h.1.symm, h.2.symm⟩
  · rw [List.getElem?_eq_none (by simp; omega)] at h
    cases h
set_option maxHeartbeats 2000000 in
theorem lHeldDeedS (A : Option Addr) (n c : Nat) (k0 : Nat) (w : World) (hk : 1 ≤ k0) (hk2 : k0 ≤ 4194304) (m : Nat) (ha : DRow w A n c (marksD k0 m)) :
    Calls Try.prog 36 #[.slice A n c, .int .i64 k0] w fun e w' => e = .returned (.int .i64 ((k0 + 2 * m : Nat) : Int)) ∧ Below w.heap.size w w' := by
  have HA := Lib.hid ha
  have hn := ha.hn
  have hl := ha.hl
  rw [marksD_len] at hn
  subst hn
  clear ha
  go_enter Try.func36, Try.ntmps36
  go_wp2_with fail
  go_loopw [1, 5] (fun q i wr => ∃ k : Nat, k ≤ n ∧ i = .int .i64 k ∧ q = .int .i64 ((k0 + 2 * k : Nat) : Int) ∧ Hid (Below w.heap.size w wr)) (fun _ i _ => n - (Go.RowKit.intOf i).toNat)
  case atStart => exact ⟨0, Nat.zero_le _, rfl, by simp, Below.refl _ _⟩
  case round =>
    obtain ⟨k, hk', rfl, rfl, HB⟩ := hrel
    by_cases hlt : k < n
    · obtain ⟨b, off, f, g, rfl, hc0, hc1, hx, hbl⟩ := (HA.out.hA.below HB.out).elem (i := k) (by rw [marksD_len]; exact hlt)
      obtain ⟨rfl, hgm⟩ := marksD_at hx
      have HGM := Lib.hid hgm
      clear hgm hx
      have he1 : (((k0 + 2 * k : Nat) : Int) != ((k0 + 2 * k : Nat) : Int)) = false := by simp
      have hd2 := str_eq g
      obtain ⟨p, HP⟩ : ∃ p : Nat, Hid (p = k0 + 2 * k) := ⟨_, rfl⟩
      have hp1 : 1 ≤ p := by rw [HP.out]; omega
      have hp2 : p ≤ 4194304 + 2 * 1048576 := by rw [HP.out]; omega
      have hpe : ((k0 + 2 * k : Nat) : Int) = (p : Int) := by rw [HP.out]
      rw [hpe] at hc0 he1 ⊢
      have HM : Hid (∀ W : World, Calls Try.prog 60 #[.int .i64 ((p : Int) + 1)] W fun e w' => e = .returned (.string g) ∧ Below W.heap.size W w') := fun W => by
        have := lMarkText (p + 1) (by omega) (by omega) W
        rw [show ((p + 1 : Nat) : Int) = (p : Int) + 1 by omega, HP.out, ← HGM.out] at this
        rw [HP.out]; exact this
      clear hpe
      go_wp2_with fail
      go_region_held3 (fun w' => w'.cell? ⟨b, off + k * 2 + 1, none⟩ = some (.string g))
        (first | go_keep | exact hc1 | exact HKEEP.out)
        (first | (go_at_call 60; refine (HM.out _).mono ?_; rintro e w1 ⟨rfl, hb⟩; have HKEEP := Lib.hid (((Below.cell hb (p := ⟨b, off + k * 2 + 1, none⟩)) hbl.out).trans hc1); have HB2 := Lib.hid (bel_trans (bel_drewN HB.out 1) hb); clear hb))
      all_goals
        go_wp2_with fail
        go_roundw
        case rel => exact ⟨k + 1, by omega, by go_num, by rw [show k0 + 2 * (k + 1) = p + 2 by rw [HP.out]; omega]; go_num, HB2⟩
        case measure => simp [Go.RowKit.intOf]; omega
    · obtain rfl : k = n := by omega
      go_wp2_with fail
      go_ret
      exact ⟨rfl, HB.out⟩
theorem flatD_set0 : ∀ (es : List DeedV) (k : Nat) (a : Int) {d : DeedV}, es[k]? = some d → (flatD es).set (k * 2) (.int .i64 a) = flatD (es.set k (a, d.2))
  | [], k, a, d, h => by simp at h
  | x :: es, 0, a, d, h => by cases h; rfl
  | x :: es, k + 1, a, d, h => by
    rw [List.getElem?_cons_succ] at h
    rw [flatD_cons, show (k + 1) * 2 = k * 2 + 1 + 1 by omega, List.set_cons_succ, List.set_cons_succ, List.set_cons_succ, flatD_cons, flatD_set0 es k a h]
theorem flatD_set1 : ∀ (es : List DeedV) (k : Nat) (b : ByteArray) {d : DeedV}, es[k]? = some d → (flatD es).set (k * 2 + 1) (.string b) = flatD (es.set k (d.1, b))
  | [], k, b, d, h => by simp at h
  | x :: es, 0, b, d, h => by cases h; rfl
  | x :: es, k + 1, b, d, h => by
    rw [List.getElem?_cons_succ] at h
    rw [flatD_cons, show (k + 1) * 2 + 1 = (k * 2 + 1) + 1 + 1 by omega, List.set_cons_succ, List.set_cons_succ, List.set_cons_succ, flatD_cons, flatD_set1 es k b h]
theorem grownB {w w' : World} (hb : Below w.heap.size w w') (row : Option Nat) : w.grownBy w' row := ⟨hb.os, hb.tape, hb.output, hb.size, fun k hk _ => hb.block k hk⟩
set_option maxHeartbeats 4000000 in
theorem lMarkDeedS (base : Nat) (A : Option Addr) (n c : Nat) (ds : List DeedV) (k0 : Nat) (w : World) (hn : n = ds.length) (hl : n ≤ 1048576) (hk : 1 ≤ k0) (hk2 : k0 ≤ 4194304) (hO : OwnsD w base (.slice A n c) ds) :
    Calls Try.prog 35 #[.slice A n c, .int .i64 k0] w fun e w' => e = .returned (.int .i64 ((k0 + 2 * n : Nat) : Int)) ∧ OwnsD w' base (.slice A n c) (marksD k0 n) ∧ w.grownBy w' (Value.slice A n c).ownBlock := by
  subst hn
  have HO := Lib.hid hO
  rcases hO.2 with ⟨hv, hz⟩ | ⟨g, cap, cur, hv, hb, hg, hnc, hcm, hcs, _⟩
  · simp only [Value.slice.injEq] at hv
    obtain ⟨rfl, _, rfl⟩ := hv
    obtain rfl : ds = [] := List.eq_nil_of_length_eq_zero (by omega)
    clear hO hz
    go_enter Try.func35, Try.ntmps35
    go_wp2_with fail
    refine wp_loop_rounds 1 ?_
    rw [rounds_succ]
    go_wp2_with fail
    go_ret
    exact ⟨by simp, HO.out, World.grownBy.refl w _⟩
  · simp only [Value.slice.injEq] at hv
    obtain ⟨rfl, _, rfl⟩ := hv
    have hgl : g < w.heap.size := (Array.getElem?_eq_some_iff.1 hg).1
    clear hO hg hcs
    go_enter Try.func35, Try.ntmps35
    go_wp2_with fail
    go_loopw [1, 5] (fun q i wr => ∃ (k : Nat) (es : List DeedV), k ≤ ds.length ∧ i = .int .i64 k ∧ q = .int .i64 ((k0 + 2 * k : Nat) : Int) ∧ Hid (es.length = ds.length) ∧ Hid (∀ (i : Nat) (d : DeedV), i < k → es[i]? = some d → d = (((k0 + 2 * i : Nat) : Int), markB (k0 + 2 * i + 1))) ∧
      Hid (wr.ownsRow base 24 2 (.slice (some ⟨g, 0, none⟩) ds.length c) ds.length (flatD es)) ∧ Hid (w.grownBy wr (some g))) (fun _ i _ => ds.length - (Go.RowKit.intOf i).toNat)
    case atStart => exact ⟨0, ds, Nat.zero_le _, rfl, by simp, rfl, (fun i y h => by omega), HO.out, World.grownBy.refl w _⟩
    case round =>
      obtain ⟨k, es, hk', rfl, rfl, hlen, hso, HW, HG⟩ := hrel
      by_cases hlt : k < ds.length
      · obtain ⟨d, hd⟩ : ∃ d, es[k]? = some d := ⟨_, List.getElem?_eq_getElem (by rw [hlen.out]; exact hlt)⟩
        have HD := Lib.hid hd
        obtain ⟨e1, e2⟩ := flatD_at hd
        have hc1 := HW.out.cellAt (k * 2) (by omega)
        have hf1 := HW.out.frozenAt (k * 2)
        rw [e1] at hc1
        obtain ⟨p, HP⟩ : ∃ p : Nat, Hid (k0 + 2 * k = p) := ⟨_, rfl⟩
        have hp1 : 1 ≤ p := by rw [← HP.out]; omega
        have hp2 : p ≤ 4194304 + 2 * 1048576 := by rw [← HP.out]; omega
        rw [HP.out]
        have HW2 : Hid ((World.setCell wr ⟨g, k * 2, none⟩ (.int .i64 (p : Int))).ownsRow base 24 2 (.slice (some ⟨g, 0, none⟩) ds.length c) ds.length (flatD (es.set k ((p : Int), d.2)))) := by
          have := (HW.out.stored (k * 2) (.int .i64 (p : Int))).1
          rw [flatD_set0 es k _ hd] at this
          exact this
        have HM : Hid (∀ W : World, Calls Try.prog 60 #[.int .i64 ((p : Int) + 1)] W fun e w' => e = .returned (.string (markB (p + 1))) ∧ Below W.heap.size W w') := fun W => by
          have := lMarkText (p + 1) (by omega) (by omega) W
          rw [show ((p + 1 : Nat) : Int) = (p : Int) + 1 by omega] at this
          exact this
        clear e1 e2 hd
        go_wp2_with fail
        refine (HM.out _).mono ?_
        rintro e w2 ⟨rfl, hb⟩
        have HG2 := Lib.hid ((grown_set HG.out (k * 2) (.int .i64 (p : Int))).trans (grownB hb _))
        have HW3 : Hid (w2.ownsRow base 24 2 (.slice (some ⟨g, 0, none⟩) ds.length c) ds.length (flatD (es.set k ((p : Int), d.2)))) := World.ownsRow.kept HW2.out (grownB hb none) (Or.inr (by simp [Value.ownBlock]))
        have hget : (es.set k ((p : Int), d.2))[k]? = some ((p : Int), d.2) := by rw [List.getElem?_set_self (by rw [hlen.out]; exact hlt)]
        have hc2 := HW3.out.cellAt (k * 2 + 1) (by omega)
        have hf2 := HW3.out.frozenAt (k * 2 + 1)
        rw [(flatD_at hget).2] at hc2
        have HGET := Lib.hid hget
        clear hget hb hc1 hf1
        go_wp2_with fail
        go_roundw
        case rel =>
          have hst := (HW3.out.stored (k * 2 + 1) (.string (markB (p + 1)))).1
          rw [flatD_set1 _ k _ HGET.out, List.set_set] at hst
          refine ⟨k + 1, es.set k ((p : Int), markB (p + 1)), by omega, by go_num, by rw [show k0 + 2 * (k + 1) = p + 2 by rw [← HP.out]; omega]; go_num, by unfold Hid; rw [List.length_set]; exact hlen.out, ?_, hst, grown_set HG2.out _ _⟩
          intro i y hi hy
          rw [List.getElem?_set] at hy
          by_cases e : k = i
          · subst e
            rw [if_pos rfl, if_pos (by rw [hlen.out]; exact hlt)] at hy
            cases hy
            rw [HP.out]
          · rw [if_neg e] at hy
            exact hso.out i y (by omega) hy
        case measure => simp [Go.RowKit.intOf]; omega
      · obtain rfl : k = ds.length := by omega
        have HE : Hid (es = marksD k0 ds.length) := by
          unfold Hid
          apply List.ext_getElem?
          intro i
          by_cases hi : i < ds.length
          · obtain ⟨d, hd⟩ : ∃ d, es[i]? = some d := ⟨_, List.getElem?_eq_getElem (by rw [hlen.out]; exact hi)⟩
            rw [hd, hso.out i d hi hd]
            unfold marksD
            rw [List.getElem?_map, List.getElem?_range hi]; rfl
          · rw [List.getElem?_eq_none (by rw [hlen.out]; omega), List.getElem?_eq_none (by rw [marksD_len]; omega)]
        rw [HE.out] at HW
        go_wp2_with fail
        go_ret
        refine ⟨rfl, ?_, HG.out⟩
        have := HW.out
        unfold OwnsD
        rw [marksD_len]
        exact this
/-- The row that the copying loop fills. -/
def partD (ds : List DeedV) (k : Nat) : Nat → Value := fun j => if j < k * 2 then ((flatD ds)[j]?).getD (.int .i64 0) else (if j % 2 = 0 then .int .i64 0 else .string ⟨#[]⟩)
theorem made_twoD (m : Nat) : ∀ i, i < (madeCells #[Value.int .i64 0, .string ⟨#[]⟩] (m * 2)).size → (madeCells #[Value.int .i64 0, .string ⟨#[]⟩] (m * 2))[i]? = some (if i % 2 = 0 then .int .i64 0 else .string ⟨#[]⟩) := by
  intro i hi
  rw [size_madeCells] at hi
  have h2 : i % 2 = 0 ∨ i % 2 = 1 := by omega
  unfold madeCells
  rw [Array.getElem?_map, Array.getElem?_range, if_pos hi]
  rcases h2 with h | h <;> simp [h]
theorem rowD_made (w : World) (n : Nat) (ds : List DeedV) : (w.alloc (.cells (madeCells #[Value.int .i64 0, .string ⟨#[]⟩] (n * 2)) 24)).rowIs w.heap.size 24 (n * 2) (partD ds 0) := by
  have := World.rowIs_alloc w (madeCells #[Value.int .i64 0, .string ⟨#[]⟩] (n * 2)) 24 (partD ds 0) (fun i hi => by rw [made_twoD _ i hi]; unfold partD; rw [if_neg (show ¬ i < 0 * 2 by omega)])
  rwa [size_madeCells] at this
theorem partD_next {w : World} {g : Nat} {ds : List DeedV} {k : Nat} {a : Int} {b : ByteArray} (h : w.rowIs g 24 (ds.length * 2) (partD ds k)) (hx : Hid (ds[k]? = some (a, b))) :
    ((w.setCell ⟨g, k * 2, none⟩ (.int .i64 a)).setCell ⟨g, k * 2 + 1, none⟩ (.string b)).rowIs g 24 (ds.length * 2) (partD ds (k + 1)) := by
  obtain ⟨e1, e2⟩ := flatD_at hx.out
  refine ((h.set (k * 2) _).set (k * 2 + 1) _).congr fun j hj => ?_
  unfold partD
  by_cases e : j = k * 2 + 1
  · subst e
    rw [if_pos rfl, if_pos (by omega), e2]; rfl
  · rw [if_neg e]
    by_cases e' : j = k * 2
    · subst e'
      rw [if_pos rfl, if_pos (by omega), e1]; rfl
    · rw [if_neg e']
      by_cases h1 : j < k * 2
      · rw [if_pos h1, if_pos (by omega)]
      · rw [if_neg h1, if_neg (show ¬ j < (k + 1) * 2 by omega)]
theorem owns_of_rowD {w : World} {base g : Nat} {ds : List DeedV} (h : w.rowIs g 24 (ds.length * 2) (partD ds ds.length)) (hb : base ≤ g) (hm : ds.length ≤ maxLen) : OwnsD w base (.slice (some ⟨g, 0, none⟩) ds.length ds.length) ds := by
  obtain ⟨c, hg, hn, hc⟩ := h
  refine ⟨flatD_len ds, .inr ⟨g, ds.length, c, rfl, hb, hg, Nat.le_refl _, hm, by omega, ?_⟩⟩
  apply List.ext_getElem?
  intro i
  rw [List.getElem?_take]
  by_cases hi : i < ds.length * 2
  · rw [if_pos (by omega), Array.getElem?_toList, hc i hi]
    unfold partD
    rw [if_pos hi, List.getElem?_eq_getElem (by rw [flatD_len]; exact hi)]; rfl
  · rw [if_neg (by omega), List.getElem?_eq_none (by rw [flatD_len]; omega)]
theorem run_make_D (n : Nat) (hn : n ≤ 1048576) (W : World) : (Instr.makeSlice 32 (.int .i64 (n : Int)) (.int .i64 (n : Int))).run Try.prog W = .ok (.slice (some ⟨W.heap.size, 0, none⟩) n n) (W.alloc (.cells (madeCells #[Value.int .i64 0, .string ⟨#[]⟩] (n * 2)) 24)) := by
  obtain ⟨i0, hi0, hz0, hz1, hz2⟩ := info_parts deed_info
  have h := run_make (P := Try.prog) W 32 24 i0 _ Try.underlying32 hi0 hz0 .i64 .i64 (n : Int) (n : Int) (by omega) (Int.le_refl _) (by rw [hz2]; omega) (by omega)
  rw [hz1, Int.toNat_natCast] at h
  exact h
set_option maxHeartbeats 2000000 in
theorem lToDeedS (A : Option Addr) (n c : Nat) (ds : List DeedV) (w : World) (hn : n = ds.length) (hl : n ≤ 1048576) (hA : Deeds w A ds) :
    Calls Try.prog 32 #[.slice A n c] w fun e w' => ∃ v, e = .returned v ∧ OwnsD w' w.heap.size v ds ∧ Below w.heap.size w w' := by
  subst hn
  have HA := Lib.hid hA
  clear hA
  have hmk := fun W => run_make_D ds.length hl W
  go_enter Try.func32, Try.ntmps32
  go_wp2_with fail
  clear hmk
  go_loopw [4] (fun i wr => ∃ k : Nat, k ≤ ds.length ∧ i = .int .i64 k ∧ Hid (wr.rowIs w.heap.size 24 (ds.length * 2) (partD ds k)) ∧ Hid (Below w.heap.size w wr)) (fun i _ => ds.length - (Go.RowKit.intOf i).toNat)
  case atStart => exact ⟨0, Nat.zero_le _, rfl, rowD_made _ _ _, (Below.refl _ _).alloc (Nat.le_refl _) _⟩
  case round =>
    obtain ⟨k, hk, rfl, HW, HB⟩ := hrel
    by_cases hlt : k < ds.length
    · obtain ⟨b, off, f, g, rfl, hc0, hc1, hx, _⟩ := (HA.out.below HB.out).elem hlt
      go_wp2_with fail
      refine (lToDeed f g _).mono ?_
      rintro e w1 ⟨rfl, hb⟩
      have HB2 := Lib.hid (bel_trans HB.out hb)
      have HW2 := Lib.hid (HW.out.of_block (hb.block _ HW.out.lt))
      have hd1 := HW2.out.cell (i := k * 2) (by omega)
      have hf1 := HW2.out.frozen (k * 2)
      have hd2 := HW2.out.cell (i := k * 2 + 1) (by omega)
      have hf2 := HW2.out.frozen (k * 2 + 1)
      unfold partD at hd1 hd2
      rw [if_neg (show ¬ k * 2 < k * 2 by omega), if_pos (show k * 2 % 2 = 0 by omega)] at hd1
      rw [if_neg (show ¬ k * 2 + 1 < k * 2 by omega), if_neg (show ¬ (k * 2 + 1) % 2 = 0 by omega)] at hd2
      clear hb hc0 hc1
      go_wp2_with fail
      go_roundw
      case rel => exact ⟨k + 1, by omega, by go_num, partD_next HW2.out hx, (HB2.out.setCell (Nat.le_refl _) _).setCell (Nat.le_refl _) _⟩
      case measure => simp [Go.RowKit.intOf]; omega
    · obtain rfl : k = ds.length := by omega
      go_wp2_with fail
      go_ret
      exact ⟨_, rfl, owns_of_rowD HW.out (Nat.le_refl _) (by unfold maxLen; omega), HB.out⟩
end Go.Proofs.Ytobgnbgmpcilgaa

namespace Go.Proofs.Ytobgnbgmpcilgaa
open Go.RowKit

set_option maxRecDepth 100000 in
set_option maxHeartbeats 4000000 in
theorem wExactDeedText (k : Int) (s : ByteArray) (w : World) (hs : s.size ≤ maxLen) :
    Calls Try.prog 7 #[.agg #[.int .i64 k, .string s]] w fun e w' => e = .returned (.bool true) ∧ Below w.heap.size w w' := by
  have HX : Hid (Box (w.alloc (.cells #[.int .i64 k, .string s] 48)) w.heap.size 48 [.int .i64 k, .string s]) := Box.new w _ _
  have HB : Hid (Below w.heap.size w (w.alloc (.cells #[.int .i64 k, .string s] 48))) := bel_boxD
  unfold maxLen at hs
  go_enter Try.func7, Try.ntmps7
  go_wp2_with fail
  refine (lSzDeed k s 1048576 _ (by omega) (by omega) hs).mono ?_
  rintro e w1 ⟨q, rfl, hq1, hq2, hq3, hb⟩
  replace HX := Lib.hid (HX.out.below hb)
  replace HB := Lib.hid (bel_trans HB.out hb)
  have HQ := Lib.hid hq2
  clear hb hq2
  by_cases hq : q < 0
  · have hd : decide (q < 0) = true := decide_eq_true hq
    go_wp2_with fail
    go_ret
    exact ⟨rfl, HB.out⟩
  have hd : decide (q < 0) = false := decide_eq_false hq
  have hsz : s.size ≤ 1048576 := HQ.out (by omega)
  have hc0 := HX.out.cell (i := 0) (v := .int .i64 k) rfl
  have hc1 := HX.out.cell (i := 1) (v := .string s) rfl
  go_wp2_with fail
  refine (lToDeed _ _ _).mono ?_
  rintro e w2 ⟨rfl, hb⟩
  replace HX := Lib.hid (HX.out.below hb)
  replace HB := Lib.hid (bel_trans HB.out hb)
  clear hb hc0 hc1 hd
  go_wp2_with fail
  refine (sDeedText k s _ hsz).mono ?_
  rintro e w3 ⟨rfl, hb⟩
  replace HX := Lib.hid (HX.out.below hb)
  replace HB := Lib.hid (bel_trans HB.out hb)
  clear hb
  have hc0 := HX.out.cell (i := 0) (v := .int .i64 k) rfl
  have hc1 := HX.out.cell (i := 1) (v := .string s) rfl
  go_wp2_with fail
  refine (lToDeed _ _ _).mono ?_
  rintro e w4 ⟨rfl, hb⟩
  replace HB := Lib.hid (bel_trans HB.out hb)
  clear hb hc0 hc1
  go_wp2_with fail
  refine (iDeedText k s _ hsz).mono ?_
  rintro e w5 ⟨rfl, hb⟩
  replace HB := Lib.hid (bel_trans HB.out hb)
  have hne := str_eq (deedB (k, s))
  clear hb
  go_wp2_with fail
  go_ret
  exact ⟨rfl, HB.out⟩
set_option maxRecDepth 100000 in
set_option maxHeartbeats 4000000 in
theorem wExactReadDeed (s : ByteArray) (w : World) (hs : s.size ≤ maxLen) :
    Calls Try.prog 8 #[.string s] w fun e w' => e = .returned (.bool true) ∧ Below w.heap.size w w' := by
  unfold maxLen at hs
  by_cases hl : 1048576 < s.size
  · have hd : decide ((1048576 : Int) < (s.size : Int)) = true := decide_eq_true (by omega)
    go_enter Try.func8, Try.ntmps8
    go_wp2_with fail
    go_ret
    exact ⟨rfl, Below.refl _ _⟩
  have hd : decide ((1048576 : Int) < (s.size : Int)) = false := decide_eq_false (by omega)
  have hsz : s.size ≤ 1048576 := by omega
  obtain ⟨f, g, ok, HI, HS⟩ : ∃ f g ok, Hid (∀ W : World, Calls Try.prog 15 #[.string s] W fun e w' => e = .returned (.tuple #[.agg #[.int .i64 f, .string g], .bool ok]) ∧ Below W.heap.size W w') ∧
      Hid (∀ W : World, Calls Try.prog 17 #[.string s] W fun e w' => e = .returned (.tuple #[.agg #[.int .i64 f, .string g], .bool ok]) ∧ Below W.heap.size W w') :=
    ⟨_, _, _, fun W => iReadDeed s W hsz, fun W => sReadDeed s W hsz⟩
  clear hl
  go_enter Try.func8, Try.ntmps8
  go_wp2_with fail
  refine (HS.out _).mono ?_
  rintro e w1 ⟨rfl, hb⟩
  have HB := Lib.hid (hb.alloc hb.size (.cells #[.int .i64 f, .string g] 24))
  have HX : Hid (Box (w1.alloc (.cells #[.int .i64 f, .string g] 24)) w1.heap.size 24 [.int .i64 f, .string g]) := Box.new w1 _ _
  clear hb hd
  go_wp2_with fail
  refine (HI.out _).mono ?_
  rintro e w2 ⟨rfl, hb⟩
  replace HX := Lib.hid (HX.out.below hb)
  replace HB := Lib.hid (bel_trans HB.out hb)
  have hc0 := HX.out.cell (i := 0) (v := .int .i64 f) rfl
  have hc1 := HX.out.cell (i := 1) (v := .string g) rfl
  have HX2 := Lib.hid (HX.out.alloc (.cells #[.int .i64 f, .string g] 24))
  have hd0 := HX2.out.cell (i := 0) (v := .int .i64 f) rfl
  have hd1 := HX2.out.cell (i := 1) (v := .string g) rfl
  replace HB := Lib.hid (HB.out.alloc HB.out.size (.cells #[.int .i64 f, .string g] 24))
  clear hb
  go_wp2_with fail
  refine (lEqDeed f g _).mono ?_
  rintro e w3 ⟨rfl, hb⟩
  replace HB := Lib.hid (bel_trans HB.out hb)
  clear hb hc0 hc1 hd0 hd1
  go_wp2_with fail
  go_ret
  exact ⟨rfl, HB.out⟩
set_option maxRecDepth 100000 in
set_option maxHeartbeats 4000000 in
theorem wExactJournalText (A : Option Addr) (n c : Nat) (ds : List DeedV) (w : World) (hn : n = ds.length) (hc : n ≤ c) (hm : c ≤ maxLen) (hA : Deeds w A ds) (hs : ∀ d ∈ ds, d.2.size ≤ maxLen) :
    Calls Try.prog 9 #[.slice A n c] w fun e w' => e = .returned (.bool true) ∧ Below w.heap.size w w' := by
  subst hn
  have HA := Lib.hid hA
  have HSZ := Lib.hid (lSzDeedS A ds.length c ds 1048576 w rfl hc hm hA hs (by omega) (by omega))
  clear hA hs hc hm
  go_enter Try.func9, Try.ntmps9
  go_wp2_with fail
  refine HSZ.out.mono ?_
  rintro e w1 ⟨q, rfl, hq1, hq2, hq3, hb⟩
  have HB := Lib.hid hb
  have HQ := Lib.hid hq2
  clear hb hq2
  by_cases hq : q < 0
  · have hd : decide (q < 0) = true := decide_eq_true hq
    go_wp2_with fail
    go_ret
    exact ⟨rfl, HB.out⟩
  have hd : decide (q < 0) = false := decide_eq_false hq
  have hle : ds.length ≤ 1048576 := (HQ.out (by omega)).1
  have HS := Lib.hid (HQ.out (by omega)).2
  obtain ⟨J, HJ⟩ : ∃ J, Hid (jourB ds = J) := ⟨_, rfl⟩
  go_wp2_with fail
  refine (lToDeedS _ _ _ ds _ rfl hle (HA.out.below HB.out)).mono ?_
  rintro e w2 ⟨v2, rfl, ho, hb⟩
  obtain ⟨A2, c2, rfl, _, _, _, _⟩ := ho.form
  have HR2 := Lib.hid (OwnsD.row ho hle)
  replace HB := Lib.hid (bel_trans HB.out hb)
  clear ho hb hd
  go_wp2_with fail
  refine (sJournalText _ _ _ ds _ HR2.out HS.out).mono ?_
  rintro e w3 ⟨rfl, hb⟩
  rw [HJ.out]
  replace HB := Lib.hid (bel_trans HB.out hb)
  clear hb
  go_wp2_with fail
  refine (lToDeedS _ _ _ ds _ rfl hle (HA.out.below HB.out)).mono ?_
  rintro e w4 ⟨v4, rfl, ho, hb⟩
  obtain ⟨A4, c4, rfl, _, _, _, _⟩ := ho.form
  have HR4 := Lib.hid (OwnsD.row ho hle)
  replace HB := Lib.hid (bel_trans HB.out hb)
  clear ho hb
  go_wp2_with fail
  refine (iJournalText _ _ _ ds _ HR4.out HS.out).mono ?_
  rintro e w5 ⟨rfl, hb⟩
  rw [HJ.out]
  replace HR4 := Lib.hid (HR4.out.below hb)
  replace HB := Lib.hid (bel_trans HB.out hb)
  have hne := str_eq J
  clear hb
  go_wp2_with fail
  refine (lToDeedS _ _ _ ds _ rfl hle (HA.out.below HB.out)).mono ?_
  rintro e w6 ⟨v6, rfl, ho, hb⟩
  obtain ⟨A6, c6, rfl, _, _, _, _⟩ := ho.form
  have HR6 := Lib.hid (OwnsD.row ho hle)
  replace HR4 := Lib.hid (HR4.out.below hb)
  replace HB := Lib.hid (bel_trans HB.out hb)
  clear ho hb hne
  go_wp2_with fail
  refine (lEqDeedS _ _ _ _ _ _ ds _ HR4.out HR6.out).mono ?_
  rintro e w7 ⟨rfl, hb⟩
  replace HB := Lib.hid (bel_trans HB.out hb)
  clear hb
  go_wp2_with fail
  go_ret
  exact ⟨rfl, HB.out⟩
theorem rj_len (s : ByteArray) : (rjV s).1.length ≤ s.size ∧ (rjV s).2 ≤ s.size := by
  unfold rjV
  have h := readJ_text (bL s)
  have hl : (linesU (readJ (bL s)).1).length ≤ s.size := by
    have := (jTo_lines (bL s) (bL s).length).1
    show (linesU (jTo (bL s) (bL s).length).1).length ≤ _
    rw [this, List.length_take, bL_size]; omega
  have key : ∀ ds : List Dd, ds.length ≤ (linesU ds).length := by
    intro ds
    induction ds with
    | nil => exact Nat.le_refl _
    | cons d ds ih =>
      have : linesU (d :: ds) = (deedU d ++ [10]) ++ linesU ds := rfl
      rw [this, List.length_append, List.length_append]
      simp only [List.length_cons, List.length_nil]; omega
  refine ⟨?_, by have := h.2; rw [bL_size] at this; exact this⟩
  rw [List.length_map]
  exact Nat.le_trans (key _) hl
set_option maxRecDepth 100000 in
set_option maxHeartbeats 4000000 in
theorem wExactReadJournal (s : ByteArray) (w : World) (hs : s.size ≤ maxLen) :
    Calls Try.prog 10 #[.string s] w fun e w' => e = .returned (.bool true) ∧ Below w.heap.size w w' := by
  unfold maxLen at hs
  by_cases hl : 1048576 < s.size
  · have hd : decide ((1048576 : Int) < (s.size : Int)) = true := decide_eq_true (by omega)
    go_enter Try.func10, Try.ntmps10
    go_wp2_with fail
    go_ret
    exact ⟨rfl, Below.refl _ _⟩
  have hd : decide ((1048576 : Int) < (s.size : Int)) = false := decide_eq_false (by omega)
  have hsz : s.size ≤ 1048576 := by omega
  have hlen := rj_len s
  have HI := Lib.hid (fun W => iReadJournal s W hsz)
  have HS := Lib.hid (fun W => sReadJournal s W hsz)
  obtain ⟨ds, hds⟩ : ∃ ds, (rjV s).1 = ds := ⟨_, rfl⟩
  obtain ⟨m, hm⟩ : ∃ m, (rjV s).2 = m := ⟨_, rfl⟩
  rw [hds, hm] at hlen
  rw [hds, hm] at HI HS
  have hle : ds.length ≤ 1048576 := by omega
  have hne : ((m : Int) != (m : Int)) = false := by simp
  clear hl hds hm hlen
  go_enter Try.func10, Try.ntmps10
  go_wp2_with fail
  refine (HS.out _).mono ?_
  rintro e w1 ⟨v1, rfl, ho, hb⟩
  obtain ⟨A1, c1, rfl, _, _, _, ha1⟩ := ho.form
  have HR1 := Lib.hid (OwnsD.row ho hle)
  have HA1 := Lib.hid ha1
  have HB := Lib.hid hb
  have hlb : w.heap.size ≤ w1.heap.size := hb.size
  clear ho hb hd ha1
  go_wp2_with fail
  refine (HI.out _).mono ?_
  rintro e w2 ⟨v2, rfl, ho, hb⟩
  obtain ⟨A2, c2, rfl, _, _, _, ha2⟩ := ho.form
  replace HR1 := Lib.hid (HR1.out.below hb)
  have HO2 := Lib.hid ho
  have HA2 := Lib.hid ha2
  replace HB := Lib.hid (bel_trans HB.out hb)
  have hsz12 : w1.heap.size ≤ w2.heap.size := hb.size
  clear ho hb ha2
  go_wp2_with fail
  refine (lEqDeedS _ _ _ _ _ _ ds _ (OwnsD.row HO2.out hle) HR1.out).mono ?_
  rintro e w3 ⟨rfl, hb⟩
  replace HR1 := Lib.hid (HR1.out.below hb)
  replace HO2 := Lib.hid (HO2.out.below hb)
  replace HB := Lib.hid (bel_trans HB.out hb)
  clear hb
  go_wp2_with fail
  refine (lMarkDeedS _ _ _ _ ds 1 _ rfl hle (by omega) (by omega) HO2.out).mono ?_
  rintro e w4 ⟨rfl, ho, hg⟩
  obtain ⟨q, HQ⟩ : ∃ q : Nat, Hid (1 + 2 * ds.length = q) := ⟨_, rfl⟩
  rw [HQ.out]
  replace HR1 : Hid (DRow w4 A1 ds.length c1 ds) := ⟨HR1.out.hn, HR1.out.hl, HR1.out.hc, HR1.out.hm, HR1.out.hA.grown hg (fun ad h e => by
    cases A2 with
    | none => cases e
    | some ad2 =>
      have h1 := (HA1.out ad h).2
      have h2 := (HA2.out ad2 rfl).1
      simp only [Value.ownBlock, Option.some.injEq] at e
      omega)⟩
  replace HB : Hid (Below w.heap.size w w4) := HB.out.grown hg HB.out.size (fun k e => by
    cases A2 with
    | none => cases e
    | some ad2 =>
      have h2 := (HA2.out ad2 rfl).1
      simp only [Value.ownBlock, Option.some.injEq] at e
      omega)
  have HR2 := Lib.hid (OwnsD.row ho (by rw [marksD_len]; exact hle))
  clear ho hg HO2
  go_wp2_with fail
  refine (lHeldDeedS _ _ _ 1 _ (by omega) (by omega) ds.length HR2.out).mono ?_
  rintro e w5 ⟨rfl, hb⟩
  replace HR1 := Lib.hid (HR1.out.below hb)
  replace HR2 := Lib.hid (HR2.out.below hb)
  replace HB := Lib.hid (bel_trans HB.out hb)
  rw [HQ.out]
  have hneg : decide ((q : Int) < 0) = false := decide_eq_false (by omega)
  have hne2 : ((q : Int) != (q : Int)) = false := by simp
  clear hb
  go_wp2_with fail
  refine (HI.out _).mono ?_
  rintro e w6 ⟨v6, rfl, ho, hb⟩
  obtain ⟨A6, c6, rfl, _, _, _, _⟩ := ho.form
  have HR6 := Lib.hid (OwnsD.row ho hle)
  replace HR1 := Lib.hid (HR1.out.below hb)
  replace HR2 := Lib.hid (HR2.out.below hb)
  replace HB := Lib.hid (bel_trans HB.out hb)
  clear ho hb
  go_wp2_with fail
  refine (lEqDeedS _ _ _ _ _ _ ds _ HR6.out HR1.out).mono ?_
  rintro e w7 ⟨rfl, hb⟩
  replace HR2 := Lib.hid (HR2.out.below hb)
  replace HB := Lib.hid (bel_trans HB.out hb)
  clear hb
  go_wp2_with fail
  refine (lHeldDeedS _ _ _ 1 _ (by omega) (by omega) ds.length HR2.out).mono ?_
  rintro e w8 ⟨rfl, hb⟩
  replace HB := Lib.hid (bel_trans HB.out hb)
  rw [HQ.out]
  clear hb
  go_wp2_with fail
  go_ret
  exact ⟨rfl, HB.out⟩
end Go.Proofs.Ytobgnbgmpcilgaa

namespace Go.Proofs.Ytobgnbgmpcilgaa
open Go.ChangeShapes Go.WideShapes Go.ChangeAt Go.RowKit Go.Deep

theorem cells_deed : Try.prog.cellsOf 48 = 2 := by kernel_rfl
theorem cells_numD : Try.prog.cellsOf 3 = 1 := by kernel_rfl
theorem cells_strD : Try.prog.cellsOf 9 = 1 := by kernel_rfl
section
variable {H : Type} {enc : TypeId × Value → H} {w : World} {base : Nat} {spare : Nat → Bool} {held : Bool}
set_option maxRecDepth 100000 in
theorem deed_of_trod {r : Reach} {b0 : Nat} {v : Value} {d : DataW H} {ps : List MemPlace} (hval : Value.okWide Try.prog w r b0 48 v) (h : DataW.Trod enc Try.prog w base spare held 48 v d ps) :
    ∃ (f : Int) (g : ByteArray), v = .agg #[.int .i64 f, .string g] ∧ g.size ≤ maxLen := by
  obtain ⟨cs, rfl, hs⟩ := okWide_struct Try.underlying48 hval
  obtain ⟨fuel, hf⟩ := h
  obtain ⟨y0, y1, n, _, hl, h0, h1⟩ := trod_struct2 Try.underlying48 hf
  rw [cells_deed] at hs
  obtain ⟨l⟩ := cs
  match l, hs with
  | [c0, c1], _ =>
    simp only [cells_numD, cells_strD] at h0 h1
    obtain ⟨k0, e0, _, _⟩ := DataW.trod_int Try.underlying3 h0
    obtain ⟨k1, e1, _, hsz⟩ := DataW.trod_string Try.underlying9 h1
    simp [Value.cells] at e0 e1
    exact ⟨k0, k1, by rw [e0, e1], hsz⟩
def numVD : Value → Int
  | .int _ n => n
  | _ => 0
def strVD : Value → ByteArray
  | .string s => s
  | _ => ByteArray.empty
set_option maxRecDepth 100000 in
theorem deeds_of_trod {A : Option Addr} {len cap : Nat} {d : DataW H} {ps : List MemPlace} (h : DataW.Trod enc Try.prog w base spare held 54 (.slice A len cap) d ps) :
    ∃ ds : List DeedV, len = ds.length ∧ len ≤ cap ∧ cap ≤ maxLen ∧ Deeds w A ds ∧ ∀ d ∈ ds, d.2.size ≤ maxLen := by
  obtain ⟨fuel, hf⟩ := h
  rcases open_slice_pairs Try.underlying54 Try.underlying48 cells_deed rfl rfl cells_numD cells_strD hf with ⟨hcs, _⟩ | ⟨a, l, c, m, n, V0, V1, D0, D1, P0, P1, hcs, _, hl, hm, hmm, _, hx⟩
  · simp [Value.cells] at hcs
    obtain ⟨rfl, rfl, rfl⟩ := hcs
    exact ⟨[], rfl, Nat.le_refl _, Nat.zero_le _, (fun h => absurd h (Nat.lt_irrefl 0)), fun d h => by cases h⟩
  · simp [Value.cells] at hcs
    obtain ⟨rfl, rfl, rfl⟩ := hcs
    have hlm : len ≤ m := by rw [hmm]; split <;> omega
    have each : ∀ i, i < len → ∃ (k : Int) (s : ByteArray), V0 i = .int .i64 k ∧ V1 i = .string s ∧ s.size ≤ maxLen := fun i hi => by
      obtain ⟨_, _, t0, t1⟩ := hx i (by omega)
      obtain ⟨k0, e0, _, _⟩ := DataW.trod_int Try.underlying3 t0
      obtain ⟨k1, e1, _, hsz⟩ := DataW.trod_string Try.underlying9 t1
      exact ⟨k0, k1, by simpa [Value.cells] using e0, by simpa [Value.cells] using e1, hsz⟩
    refine ⟨(List.range len).map fun i => (numVD (V0 i), strVD (V1 i)), by simp, hl, hm, fun hp => ?_, fun d hd => ?_⟩
    · simp only [List.length_map, List.length_range] at hp
      have hsp : a.spot = none := by
        have := (hx 0 (by omega)).1
        have := World.cell?_spot this
        simpa [Addr.add] using this
      obtain ⟨b, off, spot⟩ := a
      subst hsp
      refine ⟨b, off, rfl, ?_, fun i d hd => ?_⟩
      · have := (hx 0 (by omega)).1
        exact World.block_lt_of_cell? w _ this
      · have hi : i < len := Classical.byContradiction fun hn => by
          rw [List.getElem?_eq_none (by simp only [List.length_map, List.length_range]; omega)] at hd; cases hd
        rw [List.getElem?_map, List.getElem?_range hi] at hd
        obtain rfl := Option.some.inj hd
        obtain ⟨c0, c1, _, _⟩ := hx i (by omega)
        obtain ⟨k0, k1, f0, f1, _⟩ := each i hi
        rw [add_plain] at c0 c1
        rw [f0] at c0
        rw [f1] at c1
        refine ⟨?_, ?_⟩
        · rw [c0]; show some (Value.int .i64 k0) = some (Value.int .i64 (numVD (V0 i))); rw [f0]; rfl
        · rw [Nat.add_assoc, c1]; show some (Value.string k1) = some (Value.string (strVD (V1 i))); rw [f1]; rfl
    · obtain ⟨i, hi, rfl⟩ := List.mem_map.1 hd
      rw [List.mem_range] at hi
      obtain ⟨_, s, _, f1, hsz⟩ := each i hi
      show (strVD (V1 i)).size ≤ maxLen
      rw [f1]; exact hsz
end
end Go.Proofs.Ytobgnbgmpcilgaa
