/-
  The reader that draws numbers out of bytes: whatever it draws lies in its range, and only the reader's own block turns.
-/
import Derived.Test.YtfancfjbipjibaaCopies
import Derived.BigQuiet
import Derived.Deep.QuietTactic
namespace Go.Proofs.Ytfancfjbipjibaa
open Go.RowKit

/-- Block g is a reader that has drawn at most u numbers. -/
def Rd (w : World) (g : Nat) (u : Nat) : Prop :=
  ∃ (A : Option Addr) (c : Nat) (zs : List Int) (p : Nat), w.heap[g]? = some (.cells #[.slice A zs.length c, .int .i64 p] 65 (0, 0)) ∧ Nums .u8 w A zs ∧ zs.length ≤ 2000 ∧ p ≤ u ∧
    (∀ z ∈ zs, 0 ≤ z ∧ z ≤ 255) ∧ (∀ ad, 0 < zs.length → A = some ad → ad.block < g)

theorem Rd.more {w : World} {g u v : Nat} (h : Rd w g u) (hv : u ≤ v) : Rd w g v := by
  obtain ⟨A, c, zs, p, h1, h2, h3, h4, h5, h6⟩ := h
  exact ⟨A, c, zs, p, h1, h2, h3, by omega, h5, h6⟩
theorem Rd.below {w w' : World} {g u : Nat} (h : Rd w g u) (hb : Below w.heap.size w w') : Rd w' g u := by
  obtain ⟨A, c, zs, p, h1, h2, h3, h4, h5, h6⟩ := h
  exact ⟨A, c, zs, p, (hb.block g (Array.getElem?_eq_some_iff.1 h1).1).trans h1, h2.below hb, h3, h4, h5, h6⟩
theorem Rd.drewN {w : World} {g u : Nat} (h : Rd w g u) (n : Nat) : Rd (w.drewN n) g u := h
theorem Rd.lt {w : World} {g u : Nat} (h : Rd w g u) : g < w.heap.size := by
  obtain ⟨A, c, zs, p, h1, _⟩ := h
  exact (Array.getElem?_eq_some_iff.1 h1).1

theorem grown_drewN {a w : World} {row : Option Nat} (h : a.grownBy w row) (n : Nat) : a.grownBy (w.drewN n) row := ⟨h.os, h.tape, h.output, h.size, h.block⟩
/-- What a draw leaves: a number of its range; the reader has drawn one more; nothing else has turned. -/
def PickPost (g u : Nat) (n : Int) (w : World) (e : Ending) (w' : World) : Prop := ∃ k : Int, e = .returned (.int .i64 k) ∧ 0 ≤ k ∧ (1 ≤ n → k < n) ∧ Rd w' g (u + 1) ∧ w.grownBy w' (some g)
theorem rd_step {w : World} {g u p c : Nat} {A : Option Addr} {zs : List Int} (h1 : w.heap[g]? = some (.cells #[.slice A zs.length c, .int .i64 p] 65 (0, 0))) (h2 : Nums .u8 w A zs) (h3 : zs.length ≤ 2000) (h4 : p ≤ u)
    (h5 : ∀ z ∈ zs, 0 ≤ z ∧ z ≤ 255) (h6 : ∀ ad, 0 < zs.length → A = some ad → ad.block < g) (n : Nat) :
    Rd ((w.setCell ⟨g, 1, none⟩ (.int .i64 ((p : Int) + 1))).drewN n) g (u + 1) ∧ w.grownBy ((w.setCell ⟨g, 1, none⟩ (.int .i64 ((p : Int) + 1))).drewN n) (some g) := by
  have hg : w.grownBy (w.setCell ⟨g, 1, none⟩ (.int .i64 ((p : Int) + 1))) (some g) := grown_set (World.grownBy.refl w _) 1 _
  refine ⟨⟨A, c, zs, p + 1, ?_, (fun hp => (h2.grown hg (fun ad ha e => by have := h6 ad hp ha; injection e; omega) : Nums .u8 (w.setCell ⟨g, 1, none⟩ (.int .i64 ((p : Int) + 1))) A zs) hp), h3, by omega, h5, h6⟩, grown_drewN hg n⟩
  show (w.setCell ⟨g, 1, none⟩ (.int .i64 ((p : Int) + 1))).heap[g]? = _
  simp [World.setCell, Array.getElem?_modify, h1]

theorem bits_xor_nonneg (a b : Int) (ha : 0 ≤ a) (ha2 : a < 1073741824) (hb : 0 ≤ b) (hb2 : b < 1073741824) : 0 ≤ bits .xor .i64 a b := by
  obtain ⟨a, rfl⟩ := Int.eq_ofNat_of_zero_le ha
  obtain ⟨b, rfl⟩ := Int.eq_ofNat_of_zero_le hb
  have hx : a ^^^ b < 2 ^ 30 := Nat.xor_lt_two_pow (by omega) (by omega)
  show 0 ≤ IntKind.i64.wrap ((BitVec.ofInt 64 (a : Int) ^^^ BitVec.ofInt 64 (b : Int)).toNat : Int)
  rw [BitVec.toNat_xor, BitVec.ofInt_natCast, BitVec.ofInt_natCast, BitVec.toNat_ofNat, BitVec.toNat_ofNat, Nat.mod_eq_of_lt (by omega), Nat.mod_eq_of_lt (by omega), IntKind.wrap_i64]
  omega

set_option maxHeartbeats 1000000 in
theorem pick_any (g u : Nat) (n : Int) (w : World) (hn : n ≤ 1048576) (hn0 : -1048576 ≤ n) (hu : u ≤ 1048576) (hR : Rd w g u) :
    Calls Try.prog 73 #[.pointer (some ⟨g, 0, none⟩), .int .i64 n] w fun e w' => PickPost g u n w e w' := by
  obtain ⟨A, c, zs, p, h1, h2, h3, h4, h5, h6⟩ := hR
  have hc0 : w.cell? ⟨g, 0, none⟩ = some (.slice A zs.length c) := by simp [World.cell?, h1]
  have hc1 : w.cell? ⟨g, 1, none⟩ = some (.int .i64 p) := by simp [World.cell?, h1]
  have hf1 : w.frozen? ⟨g, 1, none⟩ = false := by simp [World.frozen?, h1]
  have hf1' : (w.setCell ⟨g, 1, none⟩ (.int .i64 ((p : Int) + 1))).cell? ⟨g, 1, none⟩ = some (.int .i64 ((p : Int) + 1)) := by simp [World.cell?, World.setCell, Array.getElem?_modify, h1]
  have HF := Lib.hid (rd_step h1 h2 h3 h4 h5 h6)
  have HN := Lib.hid h2
  have H5 := Lib.hid h5
  have H6 := Lib.hid h6
  clear h1 h2 h5 h6
  by_cases hn1 : n < 1
  · go_enter Try.func73, Try.ntmps73
    go_wp2
    go_ret
    exact ⟨0, rfl, by omega, by omega, HF.out 0⟩
  · by_cases hz : zs.length = 0
    · have hz' : ((zs.length : Int) == 0) = true := by simp [hz]
      have HZ := Lib.hid hz
      clear hz
      go_enter Try.func73, Try.ntmps73
      go_wp2
      go_ret
      exact ⟨0, rfl, by omega, by omega, HF.out 0⟩
    · have hz' : ((zs.length : Int) == 0) = false := by simp; intro e; subst e; exact hz rfl
      by_cases hlt : p < zs.length
      · obtain ⟨b, off, z, rfl, hcell, hx, _⟩ := HN.out.elem hlt
        obtain ⟨hz1, hz2⟩ := H5.out z (elem_mem hx)
        have hne : b ≠ g := Nat.ne_of_lt (H6.out _ (by omega) rfl)
        go_enter Try.func73, Try.ntmps73
        go_wp2
        go_ret
        exact ⟨_, rfl, Int.emod_nonneg _ (by omega), fun _ => Int.emod_lt_of_pos _ (by omega), HF.out 0⟩
      · obtain ⟨r1, hr1⟩ : ∃ r, r = p % zs.length := ⟨_, rfl⟩
        obtain ⟨r2, hr2⟩ : ∃ r, r = (p * 7 + 3) % zs.length := ⟨_, rfl⟩
        obtain ⟨d, hd⟩ : ∃ d, d = p / zs.length := ⟨_, rfl⟩
        have hb1 : r1 < zs.length := by rw [hr1]; exact Nat.mod_lt _ (by omega)
        have hb2 : r2 < zs.length := by rw [hr2]; exact Nat.mod_lt _ (by omega)
        have hbd : d ≤ p := by rw [hd]; exact Nat.div_le_self _ _
        have t1 : (p : Int).tmod (zs.length : Int) = (r1 : Int) := by rw [hr1]; exact Int.ofNat_tmod _ _ |>.symm
        have t2 : ((p : Int) * 7 + 3).tmod (zs.length : Int) = (r2 : Int) := by rw [hr2]; exact (Int.ofNat_tmod (p * 7 + 3) _).symm
        have t3 : (p : Int).tdiv (zs.length : Int) = (d : Int) := by rw [hd]; exact Int.ofNat_tdiv _ _ |>.symm
        clear hr1 hr2 hd
        obtain ⟨b, off, z, rfl, hcell, hx, _⟩ := HN.out.elem (i := r1) hb1
        obtain ⟨b', off', y, hAA, hcell2, hy, _⟩ := HN.out.elem (i := r2) hb2
        cases hAA
        obtain ⟨hz1, hz2⟩ := H5.out z (elem_mem hx)
        obtain ⟨hy1, hy2⟩ := H5.out y (elem_mem hy)
        have hne : b ≠ g := Nat.ne_of_lt (H6.out _ (by omega) rfl)
        have hL : (0 : Int) < (zs.length : Int) := by omega
        have hb1' : (r1 : Int) < (zs.length : Int) := by omega
        have hb2' : (r2 : Int) < (zs.length : Int) := by omega
        have e1 : IntKind.i64.wrap (z * 131) = z * 131 := IntWalk.i64_in _ (by omega)
        have e2 : IntKind.i64.wrap (y * 1117) = y * 1117 := IntWalk.i64_in _ (by omega)
        have e3 : IntKind.i64.wrap (z * 131 + y * 1117) = z * 131 + y * 1117 := IntWalk.i64_in _ (by omega)
        have e4 : IntKind.i64.wrap ((p : Int) * 29) = (p : Int) * 29 := IntWalk.i64_in _ (by omega)
        have e5 : IntKind.i64.wrap (z * 131 + y * 1117 + (p : Int) * 29) = z * 131 + y * 1117 + (p : Int) * 29 := IntWalk.i64_in _ (by omega)
        have e6 : IntKind.i64.wrap (d : Int) = (d : Int) := IntWalk.i64_in _ (by omega)
        have e7 : IntKind.i64.wrap ((d : Int) * 53) = (d : Int) * 53 := IntWalk.i64_in _ (by omega)
        have e8 : IntKind.i64.wrap (z * 131 + y * 1117 + (p : Int) * 29 + (d : Int) * 53) = z * 131 + y * 1117 + (p : Int) * 29 + (d : Int) * 53 := IntWalk.i64_in _ (by omega)
        have m1 : IntKind.i64.wrap ((p : Int) * 7) = (p : Int) * 7 := IntWalk.i64_in _ (by omega)
        have m2 : IntKind.i64.wrap ((p : Int) * 7 + 3) = (p : Int) * 7 + 3 := IntWalk.i64_in _ (by omega)
        have e9 : IntKind.i64.wrap z = z := IntWalk.i64_in _ (by omega)
        have e10 : IntKind.i64.wrap y = y := IntWalk.i64_in _ (by omega)
        go_enter Try.func73, Try.ntmps73
        go_wp2
        go_quiet (fail)
        clear t1 t2 t3 e1 e2 e3 e4 e5 e6 e7 e8 m1 m2 e9 e10
        have hd0 : (0 : Int) ≤ (d : Int) := by omega
        have hx0 := bits_xor_nonneg (z * 131 + y * 1117 + (p : Int) * 29 + (d : Int) * 53) ((z * 131 + y * 1117 + (p : Int) * 29 + (d : Int) * 53) / 64) (by omega) (by omega) (by omega) (by omega)
        go_wp2
        go_ret
        exact ⟨_, rfl, Int.emod_nonneg _ (by omega), fun _ => Int.emod_lt_of_pos _ (by omega), HF.out _⟩
end Go.Proofs.Ytfancfjbipjibaa
