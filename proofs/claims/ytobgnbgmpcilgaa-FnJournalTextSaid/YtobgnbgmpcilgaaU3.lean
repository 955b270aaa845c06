/-
  What the proofs of this seat's statements share (Read, Draw, Laws3, Both, Laws4, Tidy, DrawL).
-/
import Derived.BigQuiet
import Derived.Deep.QuietTactic
import Derived.OwnWalk
import Derived.OpenShut
import Derived.Test.YtobgnbgmpcilgaaU2

namespace Go.Proofs.Ytobgnbgmpcilgaa
open Go.RowKit

/-- Block g is a reader that has drawn at most u numbers. -/
def Rd (w : World) (g : Nat) (u : Nat) : Prop :=
  ∃ (A : Option Addr) (c : Nat) (zs : List Int) (p : Nat), w.heap[g]? = some (.cells #[.slice A zs.length c, .int .i64 p] 86 (0, 0)) ∧ Nums .u8 w A zs ∧ zs.length ≤ 2000 ∧ p ≤ u ∧
    (∀ z ∈ zs, 0 ≤ z ∧ z ≤ 255) ∧ (∀ ad, 0 < zs.length → A = some ad → ad.block < g)

theorem Rd.more {w : World} {g u v : Nat} (h : Rd w g u) (hv : u ≤ v) : Rd w g v := by
  obtain ⟨A, c, zs, p, h1, h2, h3, h4, h5, h6⟩ := h
  exact ⟨A, c, zs, p, h1, h2, h3, by omega, h5, h6⟩
theorem Rd.below {w w' : World} {g u : Nat} (h : Rd w g u) (hb : Below w.heap.size w w') : Rd w' g u := by
  obtain ⟨A, c, zs, p, h1, h2, h3, h4, h5, h6⟩ := h
  exact ⟨A, c, zs, p, (hb.block g (Array.getElem?_eq_some_iff.1 h1).1).trans h1, h2.below hb, h3, h4, h5, h6⟩
theorem Rd.drewN {w : World} {g u : Nat} (h : Rd w g u) (n : Nat) : Rd (w.drewN n) g u := h
theorem Rd.lt {w : World} {g u : Nat} (h : Rd w g u) : g < w.heap.size := by
  obtain ⟨A, c, zs, p, h1, _⟩ := h
  exact (Array.getElem?_eq_some_iff.1 h1).1

theorem grown_drewN {a w : World} {row : Option Nat} (h : a.grownBy w row) (n : Nat) : a.grownBy (w.drewN n) row := ⟨h.os, h.tape, h.output, h.size, h.block⟩
/-- What a draw leaves: a number of its range; the reader has drawn one more; nothing else has turned. -/
def PickPost (g u : Nat) (n : Int) (w : World) (e : Ending) (w' : World) : Prop := ∃ k : Int, e = .returned (.int .i64 k) ∧ 0 ≤ k ∧ (1 ≤ n → k < n) ∧ Rd w' g (u + 1) ∧ w.grownBy w' (some g)
theorem rd_step {w : World} {g u p c : Nat} {A : Option Addr} {zs : List Int} (h1 : w.heap[g]? = some (.cells #[.slice A zs.length c, .int .i64 p] 86 (0, 0))) (h2 : Nums .u8 w A zs) (h3 : zs.length ≤ 2000) (h4 : p ≤ u)
    (h5 : ∀ z ∈ zs, 0 ≤ z ∧ z ≤ 255) (h6 : ∀ ad, 0 < zs.length → A = some ad → ad.block < g) (n : Nat) :
    Rd ((w.setCell ⟨g, 1, none⟩ (.int .i64 ((p : Int) + 1))).drewN n) g (u + 1) ∧ w.grownBy ((w.setCell ⟨g, 1, none⟩ (.int .i64 ((p : Int) + 1))).drewN n) (some g) := by
  have hg : w.grownBy (w.setCell ⟨g, 1, none⟩ (.int .i64 ((p : Int) + 1))) (some g) := grown_set (World.grownBy.refl w _) 1 _
  refine ⟨⟨A, c, zs, p + 1, ?_, (fun hp => (h2.grown hg (fun ad ha e => by have := h6 ad hp ha; injection e; omega) : Nums .u8 (w.setCell ⟨g, 1, none⟩ (.int .i64 ((p : Int) + 1))) A zs) hp), h3, by omega, h5, h6⟩, grown_drewN hg n⟩
  show (w.setCell ⟨g, 1, none⟩ (.int .i64 ((p : Int) + 1))).heap[g]? = _
  simp [World.setCell, Array.getElem?_modify, h1]

theorem bits_xor_nonneg (a b : Int) (ha : 0 ≤ a) (ha2 : a < 1073741824) (hb : 0 ≤ b) (hb2 : b < 1073741824) : 0 ≤ bits .xor .i64 a b := by
  obtain ⟨a, rfl⟩ := Int.eq_ofNat_of_zero_le ha
  obtain ⟨b, rfl⟩ := Int.eq_ofNat_of_zero_le hb
  have hx : a ^^^ b < 2 ^ 30 := Nat.xor_lt_two_pow (by omega) (by omega)
  show 0 ≤ IntKind.i64.wrap ((BitVec.ofInt 64 (a : Int) ^^^ BitVec.ofInt 64 (b : Int)).toNat : Int)
  rw [BitVec.toNat_xor, BitVec.ofInt_natCast, BitVec.ofInt_natCast, BitVec.toNat_ofNat, BitVec.toNat_ofNat, Nat.mod_eq_of_lt (by omega), Nat.mod_eq_of_lt (by omega), IntKind.wrap_i64]
  omega

set_option maxHeartbeats 1000000 in
theorem pick_any (g u : Nat) (n : Int) (w : World) (hn : n ≤ 1048576) (hn0 : -1048576 ≤ n) (hu : u ≤ 1048576) (hR : Rd w g u) :
    Calls Try.prog 45 #[.pointer (some ⟨g, 0, none⟩), .int .i64 n] w fun e w' => PickPost g u n w e w' := by
  obtain ⟨A, c, zs, p, h1, h2, h3, h4, h5, h6⟩ := hR
  have hc0 : w.cell? ⟨g, 0, none⟩ = some (.slice A zs.length c) := by simp [World.cell?, h1]
  have hc1 : w.cell? ⟨g, 1, none⟩ = some (.int .i64 p) := by simp [World.cell?, h1]
  have hf1 : w.frozen? ⟨g, 1, none⟩ = false := by simp [World.frozen?, h1]
  have hf1' : (w.setCell ⟨g, 1, none⟩ (.int .i64 ((p : Int) + 1))).cell? ⟨g, 1, none⟩ = some (.int .i64 ((p : Int) + 1)) := by simp [World.cell?, World.setCell, Array.getElem?_modify, h1]
  have HF := Lib.hid (rd_step h1 h2 h3 h4 h5 h6)
  have HN := Lib.hid h2
  have H5 := Lib.hid h5
  have H6 := Lib.hid h6
  clear h1 h2 h5 h6
  by_cases hn1 : n < 1
  · go_enter Try.func45, Try.ntmps45
    go_wp2
    go_ret
    exact ⟨0, rfl, by omega, by omega, HF.out 0⟩
  · by_cases hz : zs.length = 0
    · have hz' : ((zs.length : Int) == 0) = true := by simp [hz]
      have HZ := Lib.hid hz
      clear hz
      go_enter Try.func45, Try.ntmps45
      go_wp2
      go_ret
      exact ⟨0, rfl, by omega, by omega, HF.out 0⟩
    · have hz' : ((zs.length : Int) == 0) = false := by simp; intro e; subst e; exact hz rfl
      by_cases hlt : p < zs.length
      · obtain ⟨b, off, z, rfl, hcell, hx, _⟩ := HN.out.elem hlt
        obtain ⟨hz1, hz2⟩ := H5.out z (elem_mem hx)
        have hne : b ≠ g := Nat.ne_of_lt (H6.out _ (by omega) rfl)
        go_enter Try.func45, Try.ntmps45
        go_wp2
        go_ret
        exact ⟨_, rfl, Int.emod_nonneg _ (by omega), fun _ => Int.emod_lt_of_pos _ (by omega), HF.out 0⟩
      · obtain ⟨r1, hr1⟩ : ∃ r, r = p % zs.length := ⟨_, rfl⟩
        obtain ⟨r2, hr2⟩ : ∃ r, r = (p * 7 + 3) % zs.length := ⟨_, rfl⟩
        obtain ⟨d, hd⟩ : ∃ d, d = p / zs.length := ⟨_, rfl⟩
        have hb1 : r1 < zs.length := by rw [hr1]; exact Nat.mod_lt _ (by omega)
        have hb2 : r2 < zs.length := by rw [hr2]; exact Nat.mod_lt _ (by omega)
        have hbd : d ≤ p := by rw [hd]; exact Nat.div_le_self _ _
        have t1 : (p : Int).tmod (zs.length : Int) = (r1 : Int) := by rw [hr1]; exact Int.ofNat_tmod _ _ |>.symm
        have t2 : ((p : Int) * 7 + 3).tmod (zs.length : Int) = (r2 : Int) := by rw [hr2]; exact (Int.ofNat_tmod (p * 7 + 3) _).symm
        have t3 : (p : Int).tdiv (zs.length : Int) = (d : Int) := by rw [hd]; exact Int.ofNat_tdiv _ _ |>.symm
        clear hr1 hr2 hd
        obtain ⟨b, off, z, rfl, hcell, hx, _⟩ := HN.out.elem (i := r1) hb1
        obtain ⟨b', off', y, hAA, hcell2, hy, _⟩ := HN.out.elem (i := r2) hb2
        cases hAA
        obtain ⟨hz1, hz2⟩ := H5.out z (elem_mem hx)
        obtain ⟨hy1, hy2⟩ := H5.out y (elem_mem hy)
        have hne : b ≠ g := Nat.ne_of_lt (H6.out _ (by omega) rfl)
        have hL : (0 : Int) < (zs.length : Int) := by omega
        have hb1' : (r1 : Int) < (zs.length : Int) := by omega
        have hb2' : (r2 : Int) < (zs.length : Int) := by omega
        have e1 : IntKind.i64.wrap (z * 131) = z * 131 := IntWalk.i64_in _ (by omega)
        have e2 : IntKind.i64.wrap (y * 1117) = y * 1117 := IntWalk.i64_in _ (by omega)
        have e3 : IntKind.i64.wrap (z * 131 + y * 1117) = z * 131 + y * 1117 := IntWalk.i64_in _ (by omega)
        have e4 : IntKind.i64.wrap ((p : Int) * 29) = (p : Int) * 29 := IntWalk.i64_in _ (by omega)
        have e5 : IntKind.i64.wrap (z * 131 + y * 1117 + (p : Int) * 29) = z * 131 + y * 1117 + (p : Int) * 29 := IntWalk.i64_in _ (by omega)
        have e6 : IntKind.i64.wrap (d : Int) = (d : Int) := IntWalk.i64_in _ (by omega)
        have e7 : IntKind.i64.wrap ((d : Int) * 53) = (d : Int) * 53 := IntWalk.i64_in _ (by omega)
        have e8 : IntKind.i64.wrap (z * 131 + y * 1117 + (p : Int) * 29 + (d : Int) * 53) = z * 131 + y * 1117 + (p : Int) * 29 + (d : Int) * 53 := IntWalk.i64_in _ (by omega)
        have m1 : IntKind.i64.wrap ((p : Int) * 7) = (p : Int) * 7 := IntWalk.i64_in _ (by omega)
        have m2 : IntKind.i64.wrap ((p : Int) * 7 + 3) = (p : Int) * 7 + 3 := IntWalk.i64_in _ (by omega)
        have e9 : IntKind.i64.wrap z = z := IntWalk.i64_in _ (by omega)
        have e10 : IntKind.i64.wrap y = y := IntWalk.i64_in _ (by omega)
        go_enter Try.func45, Try.ntmps45
        go_wp2
        go_quiet (fail)
        clear t1 t2 t3 e1 e2 e3 e4 e5 e6 e7 e8 m1 m2 e9 e10
        have hd0 : (0 : Int) ≤ (d : Int) := by omega
        have hx0 := bits_xor_nonneg (z * 131 + y * 1117 + (p : Int) * 29 + (d : Int) * 53) ((z * 131 + y * 1117 + (p : Int) * 29 + (d : Int) * 53) / 64) (by omega) (by omega) (by omega) (by omega)
        go_wp2
        go_ret
        exact ⟨_, rfl, Int.emod_nonneg _ (by omega), fun _ => Int.emod_lt_of_pos _ (by omega), HF.out _⟩
end Go.Proofs.Ytobgnbgmpcilgaa

namespace Go.Proofs.Ytobgnbgmpcilgaa
open Go.RowKit

theorem Rd.alloc {w : World} {g u : Nat} (h : Rd w g u) (o : Obj) : Rd (w.alloc o) g u := h.below ((Below.refl _ _).alloc (Nat.le_refl _) o)
theorem grown_alloc {a w : World} {row : Option Nat} (h : a.grownBy w row) (o : Obj) : a.grownBy (w.alloc o) row :=
  ⟨h.os, h.tape, h.output, Nat.le_trans h.size (by simp), fun i hi hne => (Below.heap_alloc w o i (Nat.lt_of_lt_of_le hi h.size)).trans (h.block i hi hne)⟩
theorem grown_below {a w w' : World} {row : Option Nat} (h : a.grownBy w row) (hb : Below w.heap.size w w') : a.grownBy w' row :=
  ⟨hb.os.trans h.os, hb.tape.trans h.tape, hb.output.trans h.output, Nat.le_trans h.size hb.size, fun i hi hn => (hb.block i (Nat.lt_of_lt_of_le hi h.size)).trans (h.block i hi hn)⟩
/-- What is written into a block that is newer than a is no change of a's. -/
theorem grown_fresh {a w w' : World} {row : Option Nat} {r : Option Nat} (h : a.grownBy w row) (hg : w.grownBy w' r) (hr : ∀ k, r = some k → a.heap.size ≤ k) : a.grownBy w' row :=
  ⟨hg.os.trans h.os, hg.tape.trans h.tape, hg.output.trans h.output, Nat.le_trans h.size hg.size, fun i hi hn => (hg.block i (Nat.lt_of_lt_of_le hi h.size) (fun e => by have := hr i e.symm; omega)).trans (h.block i hi hn)⟩

/-- A new row of numbers is still there behind a draw. -/
theorem lit_cell {w w' : World} {g : Nat} (xs : List Int) {t : TypeId} (hg : (w.alloc (.cells (xs.map (Value.int .i64)).toArray t)).grownBy w' (some g)) (hne : g < w.heap.size) {k : Int} (h0 : 0 ≤ k) (hk : k < xs.length) :
    ∃ x : Int, x ∈ xs ∧ w'.cell? ⟨w.heap.size, k.toNat, none⟩ = some (.int .i64 x) := by
  have hb : w'.heap[w.heap.size]? = (w.alloc (.cells (xs.map (Value.int .i64)).toArray t)).heap[w.heap.size]? := hg.block w.heap.size (by simp) (fun e => by injection e; omega)
  have hi : k.toNat < xs.length := by omega
  refine ⟨xs[k.toNat], List.getElem_mem hi, ?_⟩
  have h2 : (w.alloc (.cells (xs.map (Value.int .i64)).toArray t)).heap[w.heap.size]? = some (.cells (xs.map (Value.int .i64)).toArray t (0, 0)) := heap_alloc_new w _
  rw [h2] at hb
  rw [cell_of_row w' w.heap.size k.toNat _ t (0, 0) hb]
  simp [hi]

def NumPost (lo hi : Int) (g u : Nat) (w : World) (e : Ending) (w' : World) : Prop := ∃ k : Int, e = .returned (.int .i64 k) ∧ lo ≤ k ∧ k ≤ hi ∧ Rd w' g u ∧ w.grownBy w' (some g)
def BoolPost (g u : Nat) (w : World) (e : Ending) (w' : World) : Prop := ∃ b : Bool, e = .returned (.bool b) ∧ Rd w' g u ∧ w.grownBy w' (some g)

set_option maxHeartbeats 400000 in
theorem odd_any (g u : Nat) (n : Int) (w : World) (hn : n ≤ 1048576) (hn0 : 0 ≤ n) (hu : u ≤ 1048576) (hR : Rd w g u) :
    Calls Try.prog 48 #[.pointer (some ⟨g, 0, none⟩), .int .i64 n] w (BoolPost g (u + 1) w) := by
  have HR := Lib.hid hR
  clear hR
  by_cases h0 : 0 < n
  · go_enter Try.func48, Try.ntmps48
    go_wp2_with fail
    refine (pick_any g u n _ hn (by omega) hu HR.out).mono ?_
    rintro e w1 ⟨k, rfl, hk0, hk1, hr, hg⟩
    have HP := Lib.hid (And.intro hr hg)
    clear hr hg hk1
    go_wp2_with fail
    go_ret
    exact ⟨_, rfl, HP.out⟩
  · have HP : Hid (Rd w g (u + 1) ∧ w.grownBy w (some g)) := ⟨HR.out.more (by omega), World.grownBy.refl w _⟩
    go_enter Try.func48, Try.ntmps48
    go_wp2_with fail
    go_ret
    exact ⟨_, rfl, HP.out⟩

/-- What the opening of a reader leaves. -/
def OpenPost (w : World) (e : Ending) (w' : World) : Prop := e = .returned (.pointer (some ⟨w.heap.size, 0, none⟩)) ∧ Rd w' w.heap.size 0 ∧ Below w.heap.size w w'
theorem open_rd {w : World} {A : Option Addr} {c : Nat} {zs : List Int} (h : Nums .u8 w A zs) (hl : zs.length ≤ 2000) (hr : ∀ z ∈ zs, 0 ≤ z ∧ z ≤ 255) :
    Rd (w.alloc (.cells #[.slice A zs.length c, .int .i64 0] 86)) w.heap.size 0 := by
  refine ⟨A, c, zs, 0, heap_alloc_new w _, h.alloc _, hl, Nat.le_refl _, hr, fun ad hp ha => ?_⟩
  obtain ⟨b, off, hA, hb, _⟩ := h hp
  rw [hA] at ha
  cases ha
  exact hb

set_option maxHeartbeats 400000 in
theorem open_any (A : Option Addr) (nn c : Nat) (zs : List Int) (w : World) (hn : nn = zs.length) (hc : nn ≤ c) (hm : c ≤ maxLen) (hr : ∀ z ∈ zs, 0 ≤ z ∧ z ≤ 255) (hA : Nums .u8 w A zs) :
    Calls Try.prog 37 #[.slice A nn c] w (OpenPost w) := by
  subst hn
  have hm' : c ≤ 9223372036854775807 := by unfold maxLen at hm; omega
  have HB : Hid (∀ o, Below w.heap.size w (w.alloc o)) := fun o => (Below.refl _ _).alloc (Nat.le_refl _) o
  by_cases hl : 2000 < zs.length
  · have hd : decide ((2000 : Int) < (zs.length : Int)) = true := by simp; omega
    have hlen : (zs.take 2000).length = 2000 := by rw [List.length_take]; omega
    have HR : Hid (Rd (w.alloc (.cells #[.slice A 2000 c, .int .i64 0] 86)) w.heap.size 0) := by
      have := open_rd (c := c) (hA.take 2000) (by omega) (fun z hz => hr z (List.mem_of_mem_take hz))
      rw [hlen] at this
      exact this
    clear hA hr hlen hm
    go_enter Try.func37, Try.ntmps37
    go_wp2
    go_ret
    exact ⟨rfl, HR.out, HB.out _⟩
  · have hd : decide ((2000 : Int) < (zs.length : Int)) = false := by simp; omega
    have HR := Lib.hid (open_rd (c := c) hA (by omega) hr)
    clear hA hr hm
    go_enter Try.func37, Try.ntmps37
    go_wp2
    go_ret
    exact ⟨rfl, HR.out, HB.out _⟩

/-- The greatest set that may be drawn for a number of things. -/
def topOf (t : Int) : Int := if 1 ≤ t ∧ t ≤ 3 then allOf t else 1
theorem topOf_range (t : Int) : 1 ≤ topOf t ∧ topOf t ≤ 255 := by
  unfold topOf allOf; split
  · rename_i h
    have : t = 1 ∨ t = 2 ∨ t = 3 := by omega
    rcases this with rfl | rfl | rfl <;> simp
  · omega

/-- The end of a set's drawing, from the greatest set on. -/
theorem range_set {all x : Int} (h1 : 1 ≤ all) (h2 : all ≤ 255) (hx : x = -1 ∨ x = all + 1) : -1 ≤ x ∧ x ≤ 256 := by omega

end Go.Proofs.Ytobgnbgmpcilgaa

namespace Go.Proofs.Ytobgnbgmpcilgaa
open Go.RowKit

theorem bytes_range {xs : List Int} (h : ∀ x ∈ xs, (Lit.int .u8 x).wf = true) : ∀ z ∈ xs, 0 ≤ z ∧ z ≤ 255 := fun z hz => bounds_u8 (h z hz)
def Draw1 (lo hi : Int) (w : World) (e : Ending) (w' : World) : Prop := ∃ k : Int, e = .returned (.int .i64 k) ∧ lo ≤ k ∧ k ≤ hi ∧ Below w.heap.size w w'
def Draw2 (w : World) (e : Ending) (w' : World) : Prop := ∃ t s : Int, e = .returned (.tuple #[.int .i64 t, .int .i64 s]) ∧ -1 ≤ t ∧ t ≤ 4 ∧ -1 ≤ s ∧ s ≤ 256 ∧ Below w.heap.size w w'

end Go.Proofs.Ytobgnbgmpcilgaa

namespace Go.Proofs.Ytobgnbgmpcilgaa
open Go.RowKit

theorem bit_zero (a b k : Nat) (h : a / 2 ^ k % 2 = 0 ∨ b / 2 ^ k % 2 = 0) : (a &&& b) % 2 ^ (k + 1) = (a &&& b) % 2 ^ k := by
  rw [bit_step a b k]
  rcases h with h | h <;> rw [h] <;> simp
theorem bit_one (a b k : Nat) (h1 : a / 2 ^ k % 2 = 1) (h2 : b / 2 ^ k % 2 = 1) (hk : k < 8) :
    wrap64 (↑(a &&& b) % 2 ^ k + wrap64 (2 ^ k)) = (((a &&& b) % 2 ^ (k + 1) : Nat) : Int) := by
  have hp : 2 ^ k ≤ 128 := by
    have : 2 ^ k ≤ 2 ^ 7 := Nat.pow_le_pow_right (by omega) (by omega)
    omega
  have hm : (a &&& b) % 2 ^ k < 2 ^ k := Nat.mod_lt _ (Nat.two_pow_pos k)
  have e4 : (2 : Int) ^ k = ((2 ^ k : Nat) : Int) := by push_cast; rfl
  rw [bit_step a b k, h1, h2, e4, ← Int.natCast_emod, IntWalk.wrap64_in ((2 ^ k : Nat) : Int) ⟨by omega, by omega⟩, IntWalk.wrap64_in _ ⟨by omega, by omega⟩]
  omega

end Go.Proofs.Ytobgnbgmpcilgaa

namespace Go.Proofs.Ytobgnbgmpcilgaa
open Go.RowKit

theorem setOk_of {t k : Int} (h1 : 1 ≤ t) (h3 : t ≤ 3) (h0 : 0 ≤ k) (hk : k ≤ allOf t) : setOkB t k = true := by
  unfold setOkB; apply decide_eq_true; exact ⟨h1, h3, h0, hk⟩
theorem issue_one {t s : Int} (h : setOkB t s = true) : issueOkB t [s] = true := by
  unfold issueOkB partsOkB pairB; simp [h]
theorem settles_one {t s k : Int} (h : setOkB t s = true) (hk : setOkB t k = true) : settlesB t [s] k = withinB k s := by
  unfold settlesB; rw [issue_one h, hk]; simp [anyWithin]
theorem granted_one {t s : Int} (h : setOkB t s = true) : grantedI t [s] = s := by
  have := setOkB_lt h
  unfold grantedI unionI; rw [issue_one h]; simp [orI]; omega

end Go.Proofs.Ytobgnbgmpcilgaa

namespace Go.Proofs.Ytobgnbgmpcilgaa
open Go.RowKit

theorem wp_append1 {W : World} {ops : Array Oper} {rest : List Oper} {o : Oper} {a : Act} {Q : Exit → Act → World → Prop} (hgd : o.guard = none) (s x : Operand)
    (ho : o.op = .call { callee := .builtin .append, args := #[s, x], argTypes := #[87, 87] }) (base : Nat) (v : Value) (xs : List Int) (hs : a.eval s = v) (hown : Owns W base v xs)
    (y : Int) (hx : a.eval x = .slice (some ⟨W.heap.size, 0, none⟩) 1 1) (hl : xs.length ≤ 1048576) (hb : base ≤ W.heap.size)
    (h : ∀ v' w', Owns w' base v' (xs ++ [y]) → (W.alloc (.cells #[.int .i64 y] 3)).grownBy w' v.ownBlock → wpList Try.prog ops Q rest (a.put o.dst v') w') :
    wpList Try.prog ops Q (o :: rest) a (W.alloc (.cells #[.int .i64 y] 3)) := by
  obtain ⟨i0, hi0, hz0, hz1, hz2⟩ := info_parts int_info
  refine wpList_append_own _ hgd s x 87 ho base 3 i0 (.int .i64 0) 1 8 Try.underlying87 hi0 hz0 hz1 hz2 rfl (by decide) v xs.length (xs.map (Value.int .i64)) hs (World.ownsRow.alloc hown _)
    ⟨W.heap.size, 0, none⟩ 1 1 [.int .i64 y] hx rfl (cell_one_new _ _ _) (fun u hu => by rw [List.mem_singleton] at hu; subst hu; rfl) (by simp only [maxLen]; omega) (by omega) (by rw [World.size_alloc]; omega) ?_
  intro v' w' h1 h2 _
  refine h v' w' ?_ h2
  unfold Owns
  simpa using h1
/-- What an append of the call's own row leaves below a block that is older than the row. -/
theorem below_append {B : Nat} {a W w' : World} {base : Nat} {v : Value} {xs : List Int} {o : Obj} (h : Below B a W) (hB : B ≤ W.heap.size) (hown : Owns W base v xs) (hbase : B ≤ base) (hg : (W.alloc o).grownBy w' v.ownBlock) : Below B a w' :=
  (h.alloc hB o).grown hg (by simp; omega) fun k e => by have := (World.ownsRow.lt hown k e).1; omega

def hereB (xs : List Int) (s : Int) (j : Nat) : Bool := decide (s ∈ xs.take j)
def topB (xs : List Int) (s : Int) (j : Nat) : Bool := (xs.take j).all (fun x => decide (x = s) || !withinB s x)
def keepB (xs : List Int) (s : Int) : Bool := decide (s ∈ xs) && xs.all (fun x => decide (x = s) || !withinB s x)
def tidyTo (xs : List Int) (k : Nat) : List Int := ((List.range k).map (fun n : Nat => (n : Int))).filter (keepB xs)
def tidyL (xs : List Int) : List Int := tidyTo xs 256
theorem here_next {xs : List Int} {s x : Int} {j : Nat} {b : Bool} (h : Hid (hereB xs s j = b)) (hx : Hid (xs[j]? = some x)) : hereB xs s (j + 1) = (b || decide (x = s)) := by
  rw [← h.out]; unfold hereB; rw [take_snoc hx, Bool.eq_iff_iff]; simp only [List.mem_append, List.mem_singleton, Bool.or_eq_true, decide_eq_true_eq]; exact or_congr Iff.rfl eq_comm
theorem top_next {xs : List Int} {s x : Int} {j : Nat} {b : Bool} (h : Hid (topB xs s j = b)) (hx : Hid (xs[j]? = some x)) : topB xs s (j + 1) = (b && (decide (x = s) || !withinB s x)) := by
  rw [← h.out]; unfold topB; rw [take_snoc hx, List.all_append]; simp
theorem keep_of {xs : List Int} {s : Int} {b1 b2 : Bool} (h1 : Hid (hereB xs s xs.length = b1)) (h2 : Hid (topB xs s xs.length = b2)) : keepB xs s = (b1 && b2) := by
  rw [← h1.out, ← h2.out]; unfold keepB hereB topB; rw [List.take_length]
theorem tidy_next (xs : List Int) (k : Nat) : tidyTo xs (k + 1) = tidyTo xs k ++ (if keepB xs k = true then [(k : Int)] else []) := by
  unfold tidyTo
  rw [List.range_succ, List.map_append, List.filter_append]
  simp only [List.map_cons, List.map_nil, List.filter_cons, List.filter_nil]
theorem tidy_len (xs : List Int) (k : Nat) : (tidyTo xs k).length ≤ k := by
  unfold tidyTo
  refine Nat.le_trans (List.length_filter_le _ _) (by simp)

set_option maxRecDepth 100000 in
set_option maxHeartbeats 4000000 in
theorem sTidy (A : Option Addr) (nn c : Nat) (xs : List Int) (w : World) (hn : nn = xs.length) (hl : nn ≤ 1048576) (hr : ∀ x ∈ xs, 0 ≤ x ∧ x < 256) (hA : Nums .i64 w A xs) :
    Calls Try.prog 98 #[.slice A nn c] w fun e w' => ∃ v, e = .returned v ∧ Owns w' w.heap.size v (tidyL xs) ∧ Below w.heap.size w w' := by
  subst hn
  have HA := Lib.hid hA
  have HR := Lib.hid hr
  clear hr hA
  go_enter Try.func98, Try.ntmps98
  go_wp2
  go_loopw [3, 4] (fun v i wr => ∃ k : Nat, k ≤ 256 ∧ i = .int .i64 k ∧ Owns wr w.heap.size v (tidyTo xs k) ∧ Below w.heap.size w wr) (fun _ i _ => 256 - (Go.RowKit.intOf i).toNat)
  case atStart => exact ⟨0, by omega, rfl, Owns.lit _ _ [] (Nat.le_refl _) (by simp [maxLen]), (Below.refl _ _).alloc (Nat.le_refl _) _⟩
  case round =>
    obtain ⟨k, hk, rfl, hown, hbel⟩ := hrel
    have HOW := Lib.hid hown
    have HB := Lib.hid hbel
    clear hown hbel
    by_cases hlt : k < 256
    · have hd256 : decide ((k : Int) < 256) = true := decide_eq_true (by omega)
      go_wp2
      clear hd256
      go_loopw [5, 6, 7] (fun h g j wi => ∃ (i : Nat) (b1 b2 : Bool), i ≤ xs.length ∧ j = .int .i64 i ∧ h = .bool b1 ∧ g = .bool b2 ∧ Hid (hereB xs k i = b1) ∧ Hid (topB xs k i = b2) ∧ ∃ m, wi = wr.drewN m) (fun _ _ j _ => xs.length - (Go.RowKit.intOf j).toNat)
      case atStart => exact ⟨0, false, true, Nat.zero_le _, rfl, rfl, rfl, by unfold Hid hereB; simp, rfl, 0, rfl⟩
      case round =>
        obtain ⟨i, b1, b2, hi, rfl, rfl, rfl, hh, ht, m, rfl⟩ := hrel
        by_cases hil : i < xs.length
        · obtain ⟨b, off, x, rfl, hcell, hx, _⟩ := (HA.out.below HB.out).elem hil
          obtain ⟨hx0, hx1⟩ := HR.out x (elem_mem hx)
          by_cases hxs : x = (k : Int)
          · have hq1 : (x == (k : Int)) = true := by simp [hxs]
            have hq2 : (x != (k : Int)) = false := by simp [hxs]
            have HH : Hid (hereB xs k (i + 1) = true) := by unfold Hid; rw [here_next hh hx, decide_eq_true hxs]; simp
            have HT : Hid (topB xs k (i + 1) = b2) := by unfold Hid; rw [top_next ht hx, decide_eq_true hxs]; simp
            clear hxs
            cases b1
            · go_wp2_with fail
              go_roundw
              case rel => exact ⟨i + 1, true, b2, by omega, by go_num, rfl, rfl, HH, HT, _, rfl⟩
              case measure => simp [Go.RowKit.intOf]; omega
            · go_wp2_with fail
              go_roundw
              case rel => exact ⟨i + 1, true, b2, by omega, by go_num, rfl, rfl, HH, HT, _, rfl⟩
              case measure => simp [Go.RowKit.intOf]; omega
          · have hq1 : (x == (k : Int)) = false := by simp [hxs]
            have hq2 : (x != (k : Int)) = true := by simp [hxs]
            have HH : Hid (hereB xs k (i + 1) = b1) := by unfold Hid; rw [here_next hh hx, decide_eq_false hxs]; simp
            obtain ⟨wb, HW⟩ : ∃ wb, Hid (withinB (k : Int) x = wb) := ⟨_, rfl⟩
            have HT : Hid (topB xs k (i + 1) = (b2 && !wb)) := by unfold Hid; rw [top_next ht hx, decide_eq_false hxs, HW.out]; simp
            clear hxs
            cases b1
            · cases wb
              · go_wp2_with fail
                refine (sWithin_is HW (by omega) (by omega) hx0 hx1 _).mono ?_
                rintro e w' ⟨rfl, m2, rfl⟩
                go_wp2_with fail
                go_roundw
                case rel => exact ⟨i + 1, false, b2, by omega, by go_num, rfl, rfl, HH, by unfold Hid; rw [HT.out]; simp, _, rfl⟩
                case measure => simp [Go.RowKit.intOf]; omega
              · go_wp2_with fail
                refine (sWithin_is HW (by omega) (by omega) hx0 hx1 _).mono ?_
                rintro e w' ⟨rfl, m2, rfl⟩
                go_wp2_with fail
                go_roundw
                case rel => exact ⟨i + 1, false, false, by omega, by go_num, rfl, rfl, HH, by unfold Hid; rw [HT.out]; simp, _, rfl⟩
                case measure => simp [Go.RowKit.intOf]; omega
            · cases wb
              · go_wp2_with fail
                refine (sWithin_is HW (by omega) (by omega) hx0 hx1 _).mono ?_
                rintro e w' ⟨rfl, m2, rfl⟩
                go_wp2_with fail
                go_roundw
                case rel => exact ⟨i + 1, true, b2, by omega, by go_num, rfl, rfl, HH, by unfold Hid; rw [HT.out]; simp, _, rfl⟩
                case measure => simp [Go.RowKit.intOf]; omega
              · go_wp2_with fail
                refine (sWithin_is HW (by omega) (by omega) hx0 hx1 _).mono ?_
                rintro e w' ⟨rfl, m2, rfl⟩
                go_wp2_with fail
                go_roundw
                case rel => exact ⟨i + 1, true, false, by omega, by go_num, rfl, rfl, HH, by unfold Hid; rw [HT.out]; simp, _, rfl⟩
                case measure => simp [Go.RowKit.intOf]; omega
        · obtain rfl : i = xs.length := by omega
          have HK := Lib.hid (keep_of hh ht)
          have HN := Lib.hid (tidy_next xs k)
          have hlen := tidy_len xs k
          clear hh ht
          cases b1
          · have HN2 : Hid (tidyTo xs (k + 1) = tidyTo xs k) := by unfold Hid; rw [HN.out, HK.out]; simp
            go_wp2_with fail
            go_roundw
            case rel => exact ⟨k + 1, by omega, by go_num, by rw [HN2.out]; exact HOW.out, bel_drewN HB.out m⟩
            case measure => simp [Go.RowKit.intOf]; omega
          · cases b2
            · have HN2 : Hid (tidyTo xs (k + 1) = tidyTo xs k) := by unfold Hid; rw [HN.out, HK.out]; simp
              go_wp2_with fail
              go_roundw
              case rel => exact ⟨k + 1, by omega, by go_num, by rw [HN2.out]; exact HOW.out, bel_drewN HB.out m⟩
              case measure => simp [Go.RowKit.intOf]; omega
            · have HN2 : Hid (tidyTo xs (k + 1) = tidyTo xs k ++ [(k : Int)]) := by unfold Hid; rw [HN.out, HK.out]; simp
              have HOW2 : Hid (Owns (wr.drewN m) w.heap.size u3 (tidyTo xs k)) := HOW.out
              have HB2 := Lib.hid (bel_drewN HB.out m)
              go_wp2_with (at_builtin; refine wp_append1 (W := wr.drewN m) rfl _ _ rfl w.heap.size u3 (tidyTo xs k) rfl HOW2.out (k : Int) rfl (by omega) HB2.out.size ?_; intro v' w' hown' hgrow)
              have hb' := below_append HB2.out HB2.out.size HOW2.out (Nat.le_refl _) hgrow
              go_roundw
              case rel => exact ⟨k + 1, by omega, by go_num, by rw [HN2.out]; exact hown', hb'⟩
              case measure => simp [Go.RowKit.intOf]; omega
    · obtain rfl : k = 256 := by omega
      go_wp2
      go_ret
      exact ⟨_, rfl, HOW.out, HB.out⟩

def issueFromL (t : Int) (xs : List Int) : List Int := if partsOkB t xs = true then tidyL xs else []
theorem from_bad {t : Int} {xs : List Int} (h : partsOkB t xs = false) : issueFromL t xs = [] := by unfold issueFromL; rw [h]; rfl
theorem from_ok {t : Int} {xs : List Int} (h : partsOkB t xs = true) : issueFromL t xs = tidyL xs := by unfold issueFromL; rw [h]; rfl
theorem parts_end {t : Int} {xs : List Int} (h : Hid ((xs.take xs.length).all (setOkB t) = true)) : partsOkB t xs = (inB t 1 3 && inB (xs.length : Int) 1 70) := by
  have h := h.out
  rw [List.take_length] at h
  unfold partsOkB inB
  rw [h, Bool.and_true, Bool.eq_iff_iff]
  simp only [Bool.and_eq_true, decide_eq_true_eq]
  cases xs with
  | nil => simp
  | cons x r =>
    rw [List.all_eq_true] at h
    have := setOkB_lt (h x (by simp))
    simp only [List.length_cons]
    omega
theorem sIn_is {n a b : Int} {v : Bool} (h : Hid (inB n a b = v)) (w : World) : Calls Try.prog 41 #[.int .i64 n, .int .i64 a, .int .i64 b] w fun e w' => e = .returned (.bool v) ∧ w = w' :=
  (sIn n a b w).mono fun _ _ ⟨he, hw⟩ => ⟨he.trans (ret_bool h.out), hw⟩

end Go.Proofs.Ytobgnbgmpcilgaa

namespace Go.Proofs.Ytobgnbgmpcilgaa
open Go.RowKit

theorem owns_grown {w w' : World} {base g : Nat} {v : Value} {xs : List Int} (h : Owns w base v xs) (hg : w.grownBy w' (some g)) (hb : g < base) : Owns w' base v xs := by
  refine h.kept hg ?_
  cases e : v.ownBlock with
  | none => exact .inl rfl
  | some k =>
    right
    intro e2
    have := (World.ownsRow.lt h k e).1
    injection e2
    omega
theorem rd_append {w W w' : World} {base g u : Nat} {v : Value} {xs : List Int} {o : Obj} (hR : Rd W g u) (hG : w.grownBy W (some g)) (hown : Owns W base v xs) (hb : w.heap.size ≤ base) (hlt : g < w.heap.size)
    (hg : (W.alloc o).grownBy w' v.ownBlock) : Rd w' g u ∧ w.grownBy w' (some g) := by
  have hk : ∀ k, v.ownBlock = some k → w.heap.size ≤ k ∧ k < W.heap.size := fun k e => by have := World.ownsRow.lt hown k e; omega
  have h1 := hR.alloc o
  refine ⟨?_, grown_fresh (grown_alloc hG o) hg fun k e => (hk k e).1⟩
  obtain ⟨A, c, zs, p, a1, a2, a3, a4, a5, a6⟩ := hR
  have hgl : g < W.heap.size := (Array.getElem?_eq_some_iff.1 a1).1
  have a1' : (W.alloc o).heap[g]? = W.heap[g]? := Below.heap_alloc W o g hgl
  refine ⟨A, c, zs, p, (hg.block g (by simp; omega) (fun e => by have := hk g e.symm; omega)).trans (a1'.trans a1), ?_, a3, a4, a5, a6⟩
  exact fun hp => (a2.alloc o).grown hg (fun ad ha e => by have := a6 ad hp ha; have := hk ad.block e.symm; omega) hp

def ListPost (m g u : Nat) (w : World) (e : Ending) (w' : World) : Prop :=
  ∃ (v : Value) (xs : List Int), e = .returned v ∧ Owns w' w.heap.size v xs ∧ xs.length ≤ m ∧ (∀ x ∈ xs, -1 ≤ x ∧ x ≤ 256) ∧ Rd w' g u ∧ w.grownBy w' (some g)

theorem tidyTo_range (xs : List Int) (k : Nat) : ∀ x ∈ tidyTo xs k, 0 ≤ x ∧ x < k := by
  intro x hx
  unfold tidyTo at hx
  rw [List.mem_filter, List.mem_map] at hx
  obtain ⟨⟨n, hn, rfl⟩, _⟩ := hx
  rw [List.mem_range] at hn
  omega
theorem issueFrom_range (t : Int) (xs : List Int) : (issueFromL t xs).length ≤ 256 ∧ ∀ x ∈ issueFromL t xs, -1 ≤ x ∧ x ≤ 256 := by
  unfold issueFromL
  split
  · exact ⟨tidy_len xs 256, fun x hx => by have := tidyTo_range xs 256 x hx; omega⟩
  · simp

/-- What a drawing of a number of things and an issue leaves. -/
def DrawTL (w : World) (e : Ending) (w' : World) : Prop :=
  ∃ (t : Int) (v : Value) (xs : List Int), e = .returned (.tuple #[.int .i64 t, v]) ∧ -1 ≤ t ∧ t ≤ 4 ∧ Owns w' w.heap.size v xs ∧ xs.length ≤ 257 ∧ (∀ x ∈ xs, -1 ≤ x ∧ x ≤ 256) ∧ Below w.heap.size w w'
def DrawTLS (w : World) (e : Ending) (w' : World) : Prop :=
  ∃ (t : Int) (v : Value) (xs : List Int) (s : Int), e = .returned (.tuple #[.int .i64 t, v, .int .i64 s]) ∧ -1 ≤ t ∧ t ≤ 4 ∧ Owns w' w.heap.size v xs ∧ xs.length ≤ 257 ∧ (∀ x ∈ xs, -1 ≤ x ∧ x ≤ 256) ∧ -1 ≤ s ∧ s ≤ 256 ∧ Below w.heap.size w w'

end Go.Proofs.Ytobgnbgmpcilgaa
