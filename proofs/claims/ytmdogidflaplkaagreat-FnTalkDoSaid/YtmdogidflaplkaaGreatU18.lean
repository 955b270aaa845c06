/-
  What the proofs of this seat's statements share (DdM, FrmD, TlkS, TlkT).
-/
import Derived.WalkKit
import Derived.ProofKit
import Derived.OpenShut
import Derived.ChangeOld
import Derived.Deep.SlicePairs
import Derived.Deep.QuietTactic
import Derived.Deep.RegionHeld3
import Derived.Test.YtmdogidflaplkaaGreatU17

namespace Go.Proofs.YtmdogidflaplkaaGreat
open Go.RowKit

theorem grownB {w w' : World} (hb : Below w.heap.size w w') (row : Option Nat) : w.grownBy w' row := ⟨hb.os, hb.tape, hb.output, hb.size, fun k hk _ => hb.block k hk⟩
end Go.Proofs.YtmdogidflaplkaaGreat

namespace Go.Proofs.YtmdogidflaplkaaGreat
open Go.ChangeShapes Go.WideShapes Go.ChangeAt Go.RowKit Go.Deep

theorem cells_deed : Tryz.prog.cellsOf 51 = 2 := by kernel_rfl
theorem cells_numD : Tryz.prog.cellsOf 3 = 1 := by kernel_rfl
theorem cells_strD : Tryz.prog.cellsOf 9 = 1 := by kernel_rfl
section
variable {H : Type} {enc : TypeId × Value → H} {w : World} {base : Nat} {spare : Nat → Bool} {held : Bool}
set_option maxRecDepth 100000 in
theorem deed_of_trod {r : Reach} {b0 : Nat} {v : Value} {d : DataW H} {ps : List MemPlace} (hval : Value.okWide Tryz.prog w r b0 51 v) (h : DataW.Trod enc Tryz.prog w base spare held 51 v d ps) :
    ∃ (f : Int) (g : ByteArray), v = .agg #[.int .i64 f, .string g] ∧ g.size ≤ maxLen := by
  obtain ⟨cs, rfl, hs⟩ := okWide_struct Tryz.underlying51 hval
  obtain ⟨fuel, hf⟩ := h
  obtain ⟨y0, y1, n, _, hl, h0, h1⟩ := trod_struct2 Tryz.underlying51 hf
  rw [cells_deed] at hs
  obtain ⟨l⟩ := cs
  match l, hs with
  | [c0, c1], _ =>
    simp only [cells_numD, cells_strD] at h0 h1
    obtain ⟨k0, e0, _, _⟩ := DataW.trod_int Tryz.underlying3 h0
    obtain ⟨k1, e1, _, hsz⟩ := DataW.trod_string Tryz.underlying9 h1
    simp [Value.cells] at e0 e1
    exact ⟨k0, k1, by rw [e0, e1], hsz⟩
def numVD : Value → Int
  | .int _ n => n
  | _ => 0
def strVD : Value → ByteArray
  | .string s => s
  | _ => ByteArray.empty
set_option maxRecDepth 100000 in
theorem deeds_of_trod {A : Option Addr} {len cap : Nat} {d : DataW H} {ps : List MemPlace} (h : DataW.Trod enc Tryz.prog w base spare held 58 (.slice A len cap) d ps) :
    ∃ ds : List DeedV, len = ds.length ∧ len ≤ cap ∧ cap ≤ maxLen ∧ Deeds w A ds ∧ ∀ d ∈ ds, d.2.size ≤ maxLen := by
  obtain ⟨fuel, hf⟩ := h
  rcases open_slice_pairs Tryz.underlying58 Tryz.underlying51 cells_deed rfl rfl cells_numD cells_strD hf with ⟨hcs, _⟩ | ⟨a, l, c, m, n, V0, V1, D0, D1, P0, P1, hcs, _, hl, hm, hmm, _, hx⟩
  · simp [Value.cells] at hcs
    obtain ⟨rfl, rfl, rfl⟩ := hcs
    exact ⟨[], rfl, Nat.le_refl _, Nat.zero_le _, (fun h => absurd h (Nat.lt_irrefl 0)), fun d h => by cases h⟩
  · simp [Value.cells] at hcs
    obtain ⟨rfl, rfl, rfl⟩ := hcs
    have hlm : len ≤ m := by rw [hmm]; split <;> omega
    have each : ∀ i, i < len → ∃ (k : Int) (s : ByteArray), V0 i = .int .i64 k ∧ V1 i = .string s ∧ s.size ≤ maxLen := fun i hi => by
      obtain ⟨_, _, t0, t1⟩ := hx i (by omega)
      obtain ⟨k0, e0, _, _⟩ := DataW.trod_int Tryz.underlying3 t0
      obtain ⟨k1, e1, _, hsz⟩ := DataW.trod_string Tryz.underlying9 t1
      exact ⟨k0, k1, by simpa [Value.cells] using e0, by simpa [Value.cells] using e1, hsz⟩
    refine ⟨(List.range len).map fun i => (numVD (V0 i), strVD (V1 i)), by simp, hl, hm, fun hp => ?_, fun d hd => ?_⟩
    · simp only [List.length_map, List.length_range] at hp
      have hsp : a.spot = none := by
        have := (hx 0 (by omega)).1
        have := World.cell?_spot this
        simpa [Addr.add] using this
      obtain ⟨b, off, spot⟩ := a
      subst hsp
      refine ⟨b, off, rfl, ?_, fun i d hd => ?_⟩
      · have := (hx 0 (by omega)).1
        exact World.block_lt_of_cell? w _ this
      · have hi : i < len := Classical.byContradiction fun hn => by
          rw [List.getElem?_eq_none (by simp only [List.length_map, List.length_range]; omega)] at hd; cases hd
        rw [List.getElem?_map, List.getElem?_range hi] at hd
        obtain rfl := Option.some.inj hd
        obtain ⟨c0, c1, _, _⟩ := hx i (by omega)
        obtain ⟨k0, k1, f0, f1, _⟩ := each i hi
        rw [add_plain] at c0 c1
        rw [f0] at c0
        rw [f1] at c1
        refine ⟨?_, ?_⟩
        · rw [c0]; show some (Value.int .i64 k0) = some (Value.int .i64 (numVD (V0 i))); rw [f0]; rfl
        · rw [Nat.add_assoc, c1]; show some (Value.string k1) = some (Value.string (strVD (V1 i))); rw [f1]; rfl
    · obtain ⟨i, hi, rfl⟩ := List.mem_map.1 hd
      rw [List.mem_range] at hi
      obtain ⟨_, s, _, f1, hsz⟩ := each i hi
      show (strVD (V1 i)).size ≤ maxLen
      rw [f1]; exact hsz
end
end Go.Proofs.YtmdogidflaplkaaGreat

namespace Go.Proofs.YtmdogidflaplkaaGreat
open Go.RowKit

theorem sett_is {t k : Int} {s : ByteArray} : asksT.sett t k s = anyWithin k (issueT t s) := rfl
set_option maxRecDepth 100000 in
theorem sSettled9 {t k : Int} {s : ByteArray} {b : Bool} (hx : Hid (asksT.isS t s = true)) (hb : Hid (asksT.sett t k s = b)) (w : World) (hk : 0 ≤ k) (hk2 : k < 256) :
    Calls Tryz.prog 43 #[.int .i64 t, .int .i64 k, .string s] w fun e w' => e = .returned (.bool b) ∧ Below w.heap.size w w' := by
  obtain ⟨x, hx⟩ := isS_some.1 hx.out
  have HX := Lib.hid hx
  have hi := (issueT_some hx).1
  have hlen := issueT_len t s
  rw [sett_is, hi] at hb
  rw [hi] at hlen
  have HOK : Hid (∀ y ∈ issueS t x, 0 ≤ y ∧ y < 256) := by have := issue_range (issueT_ok hx); rw [hi] at this; exact this
  obtain ⟨l, HL⟩ : ∃ l, Hid (issueS t x = l) := ⟨_, rfl⟩
  rw [HL.out] at hb hlen HOK
  clear hx hi
  go_enter Tryz.func43, Tryz.ntmps43
  go_wp2_with fail
  refine (sRead_some HX.out _).mono ?_
  rintro e w1 ⟨v, a2, rfl, _, _, ho, hbel⟩
  rw [HL.out] at ho
  obtain ⟨A, c, rfl, _, _, _, _⟩ := ho.form
  have HR := Lib.hid (Owns.row ho (by omega))
  have HB := Lib.hid hbel
  clear ho hbel
  go_wp2_with fail
  refine (sL2Settles_is hb A l.length c _ rfl hk hk2 HOK.out (by omega) (by exact HR.out.hA)).mono ?_
  rintro e w2 ⟨rfl, n, rfl⟩
  go_wp2_with fail
  go_ret
  exact ⟨rfl, bel_drewN HB.out _⟩

/-- No two of them equal, all of them open. -/
def goodTo (t k : Int) (xs : List ByteArray) : Bool := xs.all (fun s => asksT.isS t s && !asksT.sett t k s) && decide xs.Nodup
theorem good_snocS {t k : Int} {xs : List ByteArray} {x : ByteArray} (h : goodTo t k xs = true) (h1 : asksT.isS t x = true) (h2 : asksT.sett t k x = false) (h3 : x ∉ xs) : goodTo t k (xs ++ [x]) = true := by
  unfold goodTo at *
  rw [Bool.and_eq_true, decide_eq_true_eq] at *
  refine ⟨?_, ?_⟩
  · rw [List.all_append, h.1]; simp [h1, h2]
  · rw [List.nodup_append]
    exact ⟨h.2, by simp, fun a ha b hb e => by rw [List.mem_singleton] at hb; rw [e, hb] at ha; exact h3 ha⟩
theorem bad_state {t k : Int} {xs : List ByteArray} {x : ByteArray} (hm : x ∈ xs) (h : asksT.isS t x = false ∨ asksT.sett t k x = true) : stateOk asksT t ⟨k, xs⟩ = false := by
  cases hs : stateOk asksT t ⟨k, xs⟩ with
  | false => rfl
  | true =>
    obtain ⟨_, _, _, h4, _⟩ := (state_parts asksT).1 hs
    obtain ⟨h5, h6⟩ := h4 x hm
    rcases h with h | h
    · rw [h] at h5; cases h5
    · rw [h] at h6; cases h6
theorem bad_twice {t k : Int} {xs : List ByteArray} {i j : Nat} {x : ByteArray} (hi : xs[i]? = some x) (hj : xs[j]? = some x) (hne : j < i) : stateOk asksT t ⟨k, xs⟩ = false := by
  cases hs : stateOk asksT t ⟨k, xs⟩ with
  | false => rfl
  | true =>
    obtain ⟨_, _, _, _, h5⟩ := (state_parts asksT).1 hs
    obtain ⟨hi1, hi2⟩ := List.getElem?_eq_some_iff.1 hi
    obtain ⟨hj1, hj2⟩ := List.getElem?_eq_some_iff.1 hj
    exact absurd (by show xs[j] = xs[i]; rw [hj2, hi2]) (List.pairwise_iff_getElem.1 h5 j i hj1 hi1 hne)
theorem state_end {t k : Int} {xs : List ByteArray} (h : goodTo t k xs = true) : stateOk asksT t ⟨k, xs⟩ = (setOkB t k && decide (k ≠ 0) && decide (xs.length ≤ 4)) := by
  unfold goodTo at h
  rw [Bool.and_eq_true] at h
  unfold stateOk
  show (setOkB t k && decide (k ≠ 0) && decide (xs.length ≤ 4) && (xs.all fun s => asksT.isS t s && !asksT.sett t k s) && decide xs.Nodup) = _
  rw [h.1, h.2, Bool.and_true, Bool.and_true]
theorem settled_bad {t k : Int} {xs : List ByteArray} (h : setOkB t k = false) : stateOk asksT t ⟨k, xs⟩ = false := by
  unfold stateOk
  show (setOkB t k && decide (k ≠ 0) && _ && _ && _) = false
  rw [h]; rfl
/-! The same for sets that are none. -/
set_option maxHeartbeats 400000 in
theorem sBothAny (a b : Int) (w : World) : Calls Tryz.prog 41 #[.int .i64 a, .int .i64 b] w fun e w' => (∃ v : Int, e = .returned (.int .i64 v)) ∧ ∃ n, w' = w.drewN n := by
  go_enter Tryz.func41, Tryz.ntmps41
  go_wp2
  go_loopw [5, 6] (fun t i wr => ∃ (k : Nat) (v : Int), k ≤ 8 ∧ i = .int .i64 k ∧ t = .int .i64 v ∧ ∃ n, wr = w.drewN n) (fun _ i _ => 8 - (Go.RowKit.intOf i).toNat)
  case atStart => exact ⟨0, 0, by omega, rfl, rfl, 0, rfl⟩
  case round =>
    obtain ⟨k, v, hk, rfl, rfl, n, rfl⟩ := hrel
    by_cases hlt : k < 8
    · go_wp2
      go_quiet (fail)
      go_wp2
      go_roundw
      case rel => exact ⟨k + 1, _, by omega, by go_num, rfl, _, rfl⟩
      case measure => simp [Go.RowKit.intOf]; omega
    · obtain rfl : k = 8 := by omega
      go_wp2
      go_ret
      exact ⟨⟨_, rfl⟩, _, rfl⟩
theorem sWithinAny (a b : Int) (w : World) : Calls Tryz.prog 44 #[.int .i64 a, .int .i64 b] w fun e w' => (∃ v : Bool, e = .returned (.bool v)) ∧ ∃ n, w' = w.drewN n := by
  go_enter Tryz.func44, Tryz.ntmps44
  go_wp2_with fail
  refine (sBothAny a b _).mono ?_
  rintro e w' ⟨⟨v, rfl⟩, n, rfl⟩
  go_wp2_with fail
  go_ret
  exact ⟨⟨_, rfl⟩, _, rfl⟩
set_option maxHeartbeats 1000000 in
theorem sL2SettlesAny (A : Option Addr) (n c : Nat) (xs : List Int) (s : Int) (w : World) (hn : n = xs.length) (hl : n ≤ 1048576) (hA : Nums .i64 w A xs) :
    Calls Tryz.prog 78 #[.slice A n c, .int .i64 s] w fun e w' => (∃ v : Bool, e = .returned (.bool v)) ∧ ∃ n, w' = w.drewN n := by
  subst hn
  have HA := Lib.hid hA
  clear hA
  go_enter Tryz.func78, Tryz.ntmps78
  go_wp2
  go_loopw [5] (fun i wr => ∃ k : Nat, k ≤ xs.length ∧ i = .int .i64 k ∧ ∃ n, wr = w.drewN n) (fun i _ => xs.length - (Go.RowKit.intOf i).toNat)
  case atStart => exact ⟨0, Nat.zero_le _, rfl, 0, rfl⟩
  case round =>
    obtain ⟨k, hk, rfl, n, rfl⟩ := hrel
    by_cases hlt : k < xs.length
    · obtain ⟨b, off, x, rfl, hcell, hx, _⟩ := HA.out.elem hlt
      go_wp2_with fail
      refine (sWithinAny s x _).mono ?_
      rintro e w' ⟨⟨v, rfl⟩, m, rfl⟩
      cases v
      · go_wp2_with fail
        go_roundw
        case rel => exact ⟨k + 1, by omega, by go_num, _, rfl⟩
        case measure => simp [Go.RowKit.intOf]; omega
      · go_wp2_with fail
        go_ret
        exact ⟨⟨_, rfl⟩, _, rfl⟩
    · obtain rfl : k = xs.length := by omega
      go_wp2
      go_ret
      exact ⟨⟨_, rfl⟩, _, rfl⟩
set_option maxRecDepth 100000 in
theorem sSettledAny {t k : Int} {s : ByteArray} (hx : Hid (asksT.isS t s = true)) (w : World) :
    Calls Tryz.prog 43 #[.int .i64 t, .int .i64 k, .string s] w fun e w' => ∃ b : Bool, e = .returned (.bool b) ∧ (setOkB t k = true → b = asksT.sett t k s) ∧ Below w.heap.size w w' := by
  by_cases hk : setOkB t k = true
  · obtain ⟨_, _, h0, _, h256⟩ := setOkB_lt hk
    refine (sSettled9 hx (b := asksT.sett t k s) rfl w h0 h256).mono ?_
    rintro e w' ⟨rfl, hb⟩
    exact ⟨_, rfl, fun _ => rfl, hb⟩
  obtain ⟨x, hx⟩ := isS_some.1 hx.out
  have HX := Lib.hid hx
  have hi := (issueT_some hx).1
  have hlen := issueT_len t s
  rw [hi] at hlen
  obtain ⟨l, HL⟩ : ∃ l, Hid (issueS t x = l) := ⟨_, rfl⟩
  rw [HL.out] at hlen
  have HK := Lib.hid hk
  clear hx hi hk
  go_enter Tryz.func43, Tryz.ntmps43
  go_wp2_with fail
  refine (sRead_some HX.out _).mono ?_
  rintro e w1 ⟨v, a2, rfl, _, _, ho, hbel⟩
  rw [HL.out] at ho
  obtain ⟨A, c, rfl, _, _, _, _⟩ := ho.form
  have HR := Lib.hid (Owns.row ho (by omega))
  have HB := Lib.hid hbel
  clear ho hbel
  go_wp2_with fail
  refine (sL2SettlesAny A l.length c l k _ rfl (by omega) (by exact HR.out.hA)).mono ?_
  rintro e w2 ⟨⟨b, rfl⟩, n, rfl⟩
  go_wp2_with fail
  go_ret
  exact ⟨b, rfl, fun h => absurd h HK.out, bel_drewN HB.out _⟩
end Go.Proofs.YtmdogidflaplkaaGreat

namespace Go.Proofs.YtmdogidflaplkaaGreat
open Go.RowKit

theorem take_good {t k : Int} {xs : List ByteArray} {j : Nat} {x : ByteArray} (h : goodTo t k (xs.take j) = true) (hx : Hid (xs[j]? = some x)) (h1 : asksT.isS t x = true) (h2 : asksT.sett t k x = false) (h3 : ∀ i, i < j → xs[i]? ≠ some x) : goodTo t k (xs.take (j + 1)) = true := by
  rw [take_snocS hx]
  refine good_snocS h h1 h2 fun hm => ?_
  obtain ⟨i, hi⟩ := List.mem_iff_getElem?.1 hm
  have hlt : i < j := by
    have := (List.getElem?_eq_some_iff.1 hi).1
    rw [List.length_take] at this; omega
  rw [List.getElem?_take_of_lt hlt] at hi
  exact h3 i hlt hi
set_option maxRecDepth 100000 in
set_option maxHeartbeats 8000000 in
theorem sState9 (t k : Int) (A : Option Addr) (n c : Nat) (xs : List ByteArray) (w : World) (hn : n = xs.length) (hl : n ≤ 1048576) (hA : Strs w A xs) (hs : ∀ s ∈ xs, s.size ≤ 1048576) :
    Calls Tryz.prog 45 #[.int .i64 t, .agg #[.int .i64 k, .slice A n c]] w fun e w' => e = .returned (.bool (stateOk asksT t ⟨k, xs⟩)) ∧ Below w.heap.size w w' := by
  subst hn
  have HX0 : Hid (Box (w.alloc (.cells #[.int .i64 k, .slice A xs.length c] 25)) w.heap.size 25 [.int .i64 k, .slice A xs.length c]) := Box.new w _ _
  have HB0 : Hid (Below w.heap.size w (w.alloc (.cells #[.int .i64 k, .slice A xs.length c] 25))) := (Below.refl _ _).alloc (Nat.le_refl _) _
  have HA := Lib.hid hA
  have HS := Lib.hid hs
  have HBS : Hid (∀ x ∈ xs, asksT.isS t x = false → stateOk asksT t ⟨k, xs⟩ = false) := fun x hx h => bad_state hx (.inl h)
  have HBT : Hid (∀ x ∈ xs, (setOkB t k = true → asksT.sett t k x = true) → stateOk asksT t ⟨k, xs⟩ = false) := fun x hx h => by
    by_cases hk : setOkB t k = true
    · exact bad_state hx (.inr (h hk))
    · exact settled_bad (by simpa using hk)
  have HBW : Hid (∀ (i j : Nat) (x : ByteArray), xs[i]? = some x → xs[j]? = some x → j < i → stateOk asksT t ⟨k, xs⟩ = false) := fun i j x h1 h2 h3 => bad_twice h1 h2 h3
  have HEND : Hid (goodTo t k xs = true → stateOk asksT t ⟨k, xs⟩ = (setOkB t k && decide (k ≠ 0) && decide (xs.length ≤ 4))) := state_end
  have HBK : Hid (setOkB t k = false → stateOk asksT t ⟨k, xs⟩ = false) := settled_bad
  obtain ⟨R, HR⟩ : ∃ R, Hid (stateOk asksT t ⟨k, xs⟩ = R) := ⟨_, rfl⟩
  rw [HR.out] at HBS HBT HBW HEND HBK ⊢
  clear hA hs
  go_enter Tryz.func45, Tryz.ntmps45
  go_wp2_with fail
  obtain ⟨W0, hW0⟩ : ∃ W, w.alloc (.cells #[.int .i64 k, .slice A xs.length c] 25) = W := ⟨_, rfl⟩
  rw [hW0] at HX0 HB0 ⊢
  clear hW0
  go_loopw [5] (fun i wr => ∃ j : Nat, j ≤ xs.length ∧ i = .int .i64 j ∧ Hid (setOkB t k = true → goodTo t k (xs.take j) = true) ∧ Hid (Box wr w.heap.size 25 [.int .i64 k, .slice A xs.length c]) ∧ Hid (Below w.heap.size w wr)) (fun i _ => xs.length - (Go.RowKit.intOf i).toNat)
  case atStart => exact ⟨0, Nat.zero_le _, rfl, (fun _ => rfl), HX0, HB0⟩
  case round =>
    obtain ⟨j, hj, rfl, HG, HX, HB⟩ := hrel
    have hc0 := HX.out.cell (i := 0) (v := .int .i64 k) rfl
    have hc1 := HX.out.cell (i := 1) (v := .slice A xs.length c) rfl
    by_cases hlt : j < xs.length
    · obtain ⟨b, off, x, rfl, hcx, hx, hbl⟩ := (HA.out.below HB.out).elem hlt
      have hxs : x.size ≤ 9223372036854775807 := Nat.le_trans (HS.out x (elem_memS hx)) (by omega)
      cases hS : asksT.isS t x with
      | false =>
        have HRF := Lib.hid (HBS.out x (elem_memS hx) hS)
        have HIS : Hid (isT t x = false) := hS
        clear hS
        go_wp2_with fail
        refine wp_region_held_drew (S := fun _ => True) (by kernel_rfl) trivial (fun _ => ?_)
        refine wpAnyH_take (i := 0) (v := .int .i64 t) rfl (by kernel_rfl) (by kernel_rfl) (by kernel_rfl) (fun _ _ _ h => h) (Or.inl ⟨by rfl, fun w _ => by rfl⟩) trivial ?_
        simp only [List.getElem_toArray, List.getElem_cons_zero, Act.put, List.setIfInBounds_toArray, List.set_cons_zero, List.set_cons_succ]
        refine wpAnyH_take (i := 1) (v := .pointer (some ⟨w.heap.size, 1, none⟩)) rfl (by kernel_rfl) (by kernel_rfl) (by kernel_rfl) (fun _ _ _ h => h) (Or.inl ⟨by rfl, fun w _ => by rfl⟩) trivial ?_
        simp only [List.getElem_toArray, List.getElem_cons_succ, List.getElem_cons_zero, Act.put, List.setIfInBounds_toArray, List.set_cons_zero, List.set_cons_succ]
        refine wpAnyH_take (i := 3) (v := .int .i64 j) rfl (by kernel_rfl) (by kernel_rfl) (by kernel_rfl) (fun _ _ _ h => h) (Or.inl ⟨by rfl, fun w _ => by rfl⟩) trivial ?_
        simp only [List.getElem_toArray, List.getElem_cons_succ, List.getElem_cons_zero, Act.put, List.setIfInBounds_toArray, List.set_cons_zero, List.set_cons_succ]
        refine wpAnyH_ready (rs := [2]) (by kernel_rfl) (by simp) ?_
        refine AllReadyH.cons rfl (fun K hK => ?_) AllReadyH.nil
        go_simp
        try go_simp
        refine hK.out _ _ trivial (fun _ => ?_)
        clear hK K
        try simp only [List.getElem_toArray, List.getElem_cons_succ, List.getElem_cons_zero, Act.put, List.setIfInBounds_toArray, List.set_cons_zero, List.set_cons_succ]
        refine wpAnyH_ready (rs := [4]) (by kernel_rfl) (by simp) ?_
        refine AllReadyH.cons rfl (fun K hK => ?_) AllReadyH.nil
        go_simp
        try go_simp
        refine hK.out _ _ trivial (fun _ => ?_)
        clear hK K
        try simp only [List.getElem_toArray, List.getElem_cons_succ, List.getElem_cons_zero, Act.put, List.setIfInBounds_toArray, List.set_cons_zero, List.set_cons_succ]
        refine wpAnyH_ready (rs := [5]) (by kernel_rfl) (by simp) ?_
        refine AllReadyH.cons rfl (fun K hK => ?_) AllReadyH.nil
        go_simp
        try go_simp
        refine hK.out _ _ trivial (fun _ => ?_)
        clear hK K
        try simp only [List.getElem_toArray, List.getElem_cons_succ, List.getElem_cons_zero, Act.put, List.setIfInBounds_toArray, List.set_cons_zero, List.set_cons_succ]
        refine wpAnyH_ready (rs := [6]) (by kernel_rfl) (by simp) ?_
        refine AllReadyH.cons rfl (fun K hK => ?_) AllReadyH.nil
        go_simp
        go_at_call 40
        refine (sSentence_is HIS _ hxs).mono ?_
        rintro e w1 ⟨rfl, hb⟩
        have HB1 := Lib.hid (bel_trans (bel_drewN HB.out 1) hb)
        clear hb
        try go_simp
        refine hK.out _ _ trivial (fun _ => ?_)
        clear hK K
        try simp only [List.getElem_toArray, List.getElem_cons_succ, List.getElem_cons_zero, Act.put, List.setIfInBounds_toArray, List.set_cons_zero, List.set_cons_succ]
        refine wpAnyH_take (i := 7) (v := .bool true) rfl (by kernel_rfl) (by kernel_rfl) (by kernel_rfl) (fun _ _ _ h => h) (Or.inl ⟨by rfl, fun w _ => by rfl⟩) trivial ?_
        simp only [List.getElem_toArray, List.getElem_cons_succ, List.getElem_cons_zero, Act.put, List.setIfInBounds_toArray, List.set_cons_zero, List.set_cons_succ]
        refine wpAnyH_take (i := 8) (v := .bool true) rfl (by kernel_rfl) (by kernel_rfl) (by kernel_rfl) (fun _ _ _ h => h) (Or.inl ⟨by rfl, fun w _ => by rfl⟩) trivial ?_
        simp only [List.getElem_toArray, List.getElem_cons_succ, List.getElem_cons_zero, Act.put, List.setIfInBounds_toArray, List.set_cons_zero, List.set_cons_succ]
        refine wpAnyH_take (i := 9) (v := undef) rfl (by kernel_rfl) (by kernel_rfl) (by kernel_rfl) (fun _ _ _ h => h) (Or.inr ⟨by rfl, rfl⟩) trivial ?_
        simp only [List.getElem_toArray, List.getElem_cons_succ, List.getElem_cons_zero, Act.put, List.setIfInBounds_toArray, List.set_cons_zero, List.set_cons_succ]
        refine wpAnyH_take (i := 10) (v := undef) rfl (by kernel_rfl) (by kernel_rfl) (by kernel_rfl) (fun _ _ _ h => h) (Or.inr ⟨by rfl, rfl⟩) trivial ?_
        simp only [List.getElem_toArray, List.getElem_cons_succ, List.getElem_cons_zero, Act.put, List.setIfInBounds_toArray, List.set_cons_zero, List.set_cons_succ]
        refine wpAnyH_take (i := 11) (v := undef) rfl (by kernel_rfl) (by kernel_rfl) (by kernel_rfl) (fun _ _ _ h => h) (Or.inr ⟨by rfl, rfl⟩) trivial ?_
        simp only [List.getElem_toArray, List.getElem_cons_succ, List.getElem_cons_zero, Act.put, List.setIfInBounds_toArray, List.set_cons_zero, List.set_cons_succ]
        refine wpAnyH_take (i := 12) (v := undef) rfl (by kernel_rfl) (by kernel_rfl) (by kernel_rfl) (fun _ _ _ h => h) (Or.inr ⟨by rfl, rfl⟩) trivial ?_
        simp only [List.getElem_toArray, List.getElem_cons_succ, List.getElem_cons_zero, Act.put, List.setIfInBounds_toArray, List.set_cons_zero, List.set_cons_succ]
        refine wpAnyH_take (i := 13) (v := undef) rfl (by kernel_rfl) (by kernel_rfl) (by kernel_rfl) (fun _ _ _ h => h) (Or.inr ⟨by rfl, rfl⟩) trivial ?_
        simp only [List.getElem_toArray, List.getElem_cons_succ, List.getElem_cons_zero, Act.put, List.setIfInBounds_toArray, List.set_cons_zero, List.set_cons_succ]
        refine wpAnyH_take (i := 14) (v := undef) rfl (by kernel_rfl) (by kernel_rfl) (by kernel_rfl) (fun _ _ _ h => h) (Or.inr ⟨by rfl, rfl⟩) trivial ?_
        simp only [List.getElem_toArray, List.getElem_cons_succ, List.getElem_cons_zero, Act.put, List.setIfInBounds_toArray, List.set_cons_zero, List.set_cons_succ]
        refine wpAnyH_take (i := 15) (v := undef) rfl (by kernel_rfl) (by kernel_rfl) (by kernel_rfl) (fun _ _ _ h => h) (Or.inr ⟨by rfl, rfl⟩) trivial ?_
        simp only [List.getElem_toArray, List.getElem_cons_succ, List.getElem_cons_zero, Act.put, List.setIfInBounds_toArray, List.set_cons_zero, List.set_cons_succ]
        refine wpAnyH_take (i := 16) (v := undef) rfl (by kernel_rfl) (by kernel_rfl) (by kernel_rfl) (fun _ _ _ h => h) (Or.inr ⟨by rfl, rfl⟩) trivial ?_
        simp only [List.getElem_toArray, List.getElem_cons_succ, List.getElem_cons_zero, Act.put, List.setIfInBounds_toArray, List.set_cons_zero, List.set_cons_succ]
        refine wpAnyH_take (i := 17) (v := undef) rfl (by kernel_rfl) (by kernel_rfl) (by kernel_rfl) (fun _ _ _ h => h) (Or.inr ⟨by rfl, rfl⟩) trivial ?_
        simp only [List.getElem_toArray, List.getElem_cons_succ, List.getElem_cons_zero, Act.put, List.setIfInBounds_toArray, List.set_cons_zero, List.set_cons_succ]
        refine wpAnyH_take (i := 18) (v := .bool true) rfl (by kernel_rfl) (by kernel_rfl) (by kernel_rfl) (fun _ _ _ h => h) (Or.inl ⟨by rfl, fun w _ => by rfl⟩) trivial ?_
        simp only [List.getElem_toArray, List.getElem_cons_succ, List.getElem_cons_zero, Act.put, List.setIfInBounds_toArray, List.set_cons_zero, List.set_cons_succ]
        refine wpAnyH_done (by kernel_rfl) ?_ _
        go_wp2_with fail
        go_ret
        exact ⟨by rw [HRF.out] <;> rfl, HB1.out⟩
      | true =>
        have HS1 := Lib.hid hS
        have HIS : Hid (isT t x = true) := hS
        have HST := Lib.hid (HBT.out x (elem_memS hx))
        have HSE : Hid (∀ W : World, Calls Tryz.prog 43 #[.int .i64 t, .int .i64 k, .string x] W fun e w' => ∃ b : Bool, e = .returned (.bool b) ∧ (setOkB t k = true → b = asksT.sett t k x) ∧ Below W.heap.size W w') := fun W => sSettledAny HS1 W
        clear hS
        go_wp2_with fail
        go_region_held3 (fun w' => w'.cell? ⟨w.heap.size, 0, none⟩ = some (.int .i64 k) ∧ w'.cell? ⟨w.heap.size, 1, none⟩ = some (.slice (some ⟨b, off, none⟩) xs.length c) ∧ w'.cell? ⟨b, off + j, none⟩ = some (.string x))
          (first | go_keep | exact ⟨hc0, hc1, hcx⟩ | exact HK1.out | exact HK2.out)
          (first
            | (go_at_call 40; refine (sSentence_is HIS _ hxs).mono ?_; rintro e w1 ⟨rfl, hb⟩; have HX1 := Lib.hid (Box.below (by exact Box.drew HX.out) hb); have HK1 := Lib.hid (And.intro (HX1.out.cell (i := 0) (v := .int .i64 k) rfl) (And.intro (HX1.out.cell (i := 1) (v := .slice (some ⟨b, off, none⟩) xs.length c) rfl) (((Below.cell hb (p := ⟨b, off + j, none⟩)) hbl.out).trans hcx))); have HB1 := Lib.hid (bel_trans (bel_drewN HB.out 1) hb); have hbl1 := Lib.hid (Nat.lt_of_lt_of_le hbl.out hb.size); clear hb)
            | (go_at_call 43; refine (HSE.out _).mono ?_; rintro e w2 ⟨v, rfl, hv, hb⟩; have HX2 := Lib.hid (HX1.out.below hb); have HK2 := Lib.hid (And.intro (HX2.out.cell (i := 0) (v := .int .i64 k) rfl) (And.intro (HX2.out.cell (i := 1) (v := .slice (some ⟨b, off, none⟩) xs.length c) rfl) (((Below.cell hb (p := ⟨b, off + j, none⟩)) hbl1.out).trans HK1.out.2.2))); have HB2 := Lib.hid (bel_trans HB1.out hb); have HV := Lib.hid hv; clear hb hv))
        all_goals
          cases v
          · obtain ⟨hd0, hd1, hd2⟩ := HK2.out
            clear hc0 hc1 hcx
            go_wp2_with fail
            go_loopw [6] (fun i wr => ∃ m : Nat, m ≤ j ∧ i = .int .i64 m ∧ Hid (∀ i, i < m → xs[i]? ≠ some x) ∧ ∃ n, wr = w2.drewN n) (fun i _ => j - (Go.RowKit.intOf i).toNat)
            case atStart => exact ⟨0, Nat.zero_le _, rfl, (fun i h => by omega), 0, rfl⟩
            case round =>
              obtain ⟨m, hm, rfl, HNO, n, rfl⟩ := hrel
              by_cases hml : m < j
              · have hmx : m < xs.length := by omega
                obtain ⟨b2, off2, y, hA2, hcy, hy, _⟩ := (HA.out.below HB2.out).elem hmx
                cases hA2
                by_cases hxy : y = x
                · subst hxy
                  have HRF := Lib.hid (HBW.out j m y hx.out hy.out hml)
                  have he := str_eq y
                  go_wp2_with fail
                  go_quiet (fail)
                  go_wp2_with fail
                  go_ret
                  exact ⟨by rw [HRF.out] <;> rfl, bel_drewN (bel_drewN HB2.out _) _⟩
                · have he := str_ne hxy
                  have HNN : Hid (∀ i, i < m + 1 → xs[i]? ≠ some x) := by
                    intro i hi e
                    by_cases h : i = m
                    · subst h
                      rw [hy.out] at e; exact hxy (Option.some.inj e)
                    · exact HNO.out i (by omega) e
                  clear hxy
                  go_wp2_with fail
                  go_quiet (fail)
                  go_wp2_with fail
                  go_roundw
                  case rel => exact ⟨m + 1, by omega, by go_num, HNN, _, rfl⟩
                  case measure => simp [Go.RowKit.intOf]; omega
              · obtain rfl : m = j := by omega
                have HGN : Hid (setOkB t k = true → goodTo t k (xs.take (m + 1)) = true) := fun h => take_good (HG.out h) hx HS1.out (HV.out h).symm HNO.out
                go_wp2_with fail
                go_roundw
                case rel => exact ⟨m + 1, by omega, by go_num, HGN, Box.drewN HX2.out _, bel_drewN HB2.out _⟩
                case measure => simp [Go.RowKit.intOf]; omega
          · have HRF := Lib.hid (HST.out fun h => (HV.out h).symm)
            clear hc0 hc1 hcx
            go_wp2_with fail
            go_ret
            exact ⟨by rw [HRF.out] <;> rfl, HB2.out⟩
    · obtain rfl : j = xs.length := by omega
      rw [List.take_length] at HG
      cases hset : setOkB t k with
      | false =>
        have HRF := Lib.hid (HBK.out hset)
        have HSO := Lib.hid hset
        clear hset
        go_wp2_with (go_at_call 79; refine (sSetOk_is HSO _).mono ?_; rintro e w1 ⟨rfl, rfl⟩)
        go_ret
        exact ⟨by rw [HRF.out] <;> rfl, HB.out⟩
      | true =>
        have HRF := Lib.hid (HEND.out (HG.out hset))
        rw [hset, Bool.true_and] at HRF
        have HSO := Lib.hid hset
        clear hset
        by_cases hk0 : k = 0
        · subst hk0
          go_wp2_with (go_at_call 79; refine (sSetOk_is HSO _).mono ?_; rintro e w1 ⟨rfl, rfl⟩)
          go_ret
          exact ⟨by rw [HRF.out] <;> rfl, HB.out⟩
        · have hk1 : (k != 0) = true := by rw [bne_iff_ne]; exact hk0
          have hk2 : (k == 0) = false := by rw [beq_eq_false_iff_ne]; exact hk0
          have HN4 : Hid (decide ((xs.length : Int) ≤ 4) = decide (xs.length ≤ 4)) := by unfold Hid; rw [Bool.eq_iff_iff, decide_eq_true_iff, decide_eq_true_iff]; omega
          rw [decide_eq_true hk0, Bool.true_and] at HRF
          clear hk0
          go_wp2_with (go_at_call 79; refine (sSetOk_is HSO _).mono ?_; rintro e w1 ⟨rfl, rfl⟩)
          go_ret
          exact ⟨ret_bool (by rw [HRF.out, ← HN4.out]), HB.out⟩
end Go.Proofs.YtmdogidflaplkaaGreat
