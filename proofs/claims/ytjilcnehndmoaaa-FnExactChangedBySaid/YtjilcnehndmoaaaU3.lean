/-
  What the proofs of this seat's statements share (Draw, Laws3, Both, Laws4, Tidy, DrawL).
-/
import Derived.OwnWalk
import Derived.OpenShut
import Derived.Test.YtjilcnehndmoaaaU2

namespace Go.Proofs.Ytjilcnehndmoaaa
open Go.RowKit

theorem Rd.alloc {w : World} {g u : Nat} (h : Rd w g u) (o : Obj) : Rd (w.alloc o) g u := h.below ((Below.refl _ _).alloc (Nat.le_refl _) o)
theorem grown_alloc {a w : World} {row : Option Nat} (h : a.grownBy w row) (o : Obj) : a.grownBy (w.alloc o) row :=
  ⟨h.os, h.tape, h.output, Nat.le_trans h.size (by simp), fun i hi hne => (Below.heap_alloc w o i (Nat.lt_of_lt_of_le hi h.size)).trans (h.block i hi hne)⟩
theorem grown_below {a w w' : World} {row : Option Nat} (h : a.grownBy w row) (hb : Below w.heap.size w w') : a.grownBy w' row :=
  ⟨hb.os.trans h.os, hb.tape.trans h.tape, hb.output.trans h.output, Nat.le_trans h.size hb.size, fun i hi hn => (hb.block i (Nat.lt_of_lt_of_le hi h.size)).trans (h.block i hi hn)⟩
/-- What is written into a block that is newer than a is no change of a's. -/
theorem grown_fresh {a w w' : World} {row : Option Nat} {r : Option Nat} (h : a.grownBy w row) (hg : w.grownBy w' r) (hr : ∀ k, r = some k → a.heap.size ≤ k) : a.grownBy w' row :=
  ⟨hg.os.trans h.os, hg.tape.trans h.tape, hg.output.trans h.output, Nat.le_trans h.size hg.size, fun i hi hn => (hg.block i (Nat.lt_of_lt_of_le hi h.size) (fun e => by have := hr i e.symm; omega)).trans (h.block i hi hn)⟩

/-- A new row of numbers is still there behind a draw. -/
theorem lit_cell {w w' : World} {g : Nat} (xs : List Int) {t : TypeId} (hg : (w.alloc (.cells (xs.map (Value.int .i64)).toArray t)).grownBy w' (some g)) (hne : g < w.heap.size) {k : Int} (h0 : 0 ≤ k) (hk : k < xs.length) :
    ∃ x : Int, x ∈ xs ∧ w'.cell? ⟨w.heap.size, k.toNat, none⟩ = some (.int .i64 x) := by
  have hb : w'.heap[w.heap.size]? = (w.alloc (.cells (xs.map (Value.int .i64)).toArray t)).heap[w.heap.size]? := hg.block w.heap.size (by simp) (fun e => by injection e; omega)
  have hi : k.toNat < xs.length := by omega
  refine ⟨xs[k.toNat], List.getElem_mem hi, ?_⟩
  have h2 : (w.alloc (.cells (xs.map (Value.int .i64)).toArray t)).heap[w.heap.size]? = some (.cells (xs.map (Value.int .i64)).toArray t (0, 0)) := heap_alloc_new w _
  rw [h2] at hb
  rw [cell_of_row w' w.heap.size k.toNat _ t (0, 0) hb]
  simp [hi]

def NumPost (lo hi : Int) (g u : Nat) (w : World) (e : Ending) (w' : World) : Prop := ∃ k : Int, e = .returned (.int .i64 k) ∧ lo ≤ k ∧ k ≤ hi ∧ Rd w' g u ∧ w.grownBy w' (some g)
def BoolPost (g u : Nat) (w : World) (e : Ending) (w' : World) : Prop := ∃ b : Bool, e = .returned (.bool b) ∧ Rd w' g u ∧ w.grownBy w' (some g)

set_option maxHeartbeats 400000 in
theorem odd_any (g u : Nat) (n : Int) (w : World) (hn : n ≤ 1048576) (hn0 : 0 ≤ n) (hu : u ≤ 1048576) (hR : Rd w g u) :
    Calls Try.prog 52 #[.pointer (some ⟨g, 0, none⟩), .int .i64 n] w (BoolPost g (u + 1) w) := by
  have HR := Lib.hid hR
  clear hR
  by_cases h0 : 0 < n
  · go_enter Try.func52, Try.ntmps52
    go_wp2_with fail
    refine (pick_any g u n _ hn (by omega) hu HR.out).mono ?_
    rintro e w1 ⟨k, rfl, hk0, hk1, hr, hg⟩
    have HP := Lib.hid (And.intro hr hg)
    clear hr hg hk1
    go_wp2_with fail
    go_ret
    exact ⟨_, rfl, HP.out⟩
  · have HP : Hid (Rd w g (u + 1) ∧ w.grownBy w (some g)) := ⟨HR.out.more (by omega), World.grownBy.refl w _⟩
    go_enter Try.func52, Try.ntmps52
    go_wp2_with fail
    go_ret
    exact ⟨_, rfl, HP.out⟩

set_option maxHeartbeats 1000000 in
theorem things_any (g u : Nat) (n : Int) (w : World) (hn : n ≤ 1048576) (hn0 : 0 ≤ n) (hu : u ≤ 1000000) (hR : Rd w g u) :
    Calls Try.prog 50 #[.pointer (some ⟨g, 0, none⟩), .int .i64 n] w (NumPost (-1) 4 g (u + 2) w) := by
  have HR := Lib.hid hR
  have hlt := hR.lt
  clear hR
  go_enter Try.func50, Try.ntmps50
  go_wp2_with fail
  refine (odd_any g u n _ hn hn0 (by omega) HR.out).mono ?_
  rintro e w1 ⟨b, rfl, hr, hg⟩
  have hsz := hg.size
  have HR1 := Lib.hid hr
  have HG1 := Lib.hid hg
  clear hr hg
  cases b
  · go_wp2_with fail
    refine (pick_any g (u + 1) _ _ (by omega) (by omega) (by omega) (HR1.out.alloc _)).mono ?_
    rintro e w2 ⟨k, rfl, hk0, hk1, hr, hg⟩
    obtain ⟨x, hx, hcell⟩ := lit_cell [1, 2, 2, 3, 3] hg (by omega) hk0 (hk1 (by omega))
    have hk5 := hk1 (by omega)
    have HP : Hid (Rd w2 g (u + 2) ∧ w.grownBy w2 (some g)) := ⟨hr, (grown_alloc HG1.out _).trans hg⟩
    have HX : Hid (-1 ≤ x ∧ x ≤ 4) := by unfold Hid; simp only [List.mem_cons, List.not_mem_nil, or_false] at hx; omega
    clear hr hg hx hk1
    go_wp2_with fail
    go_ret
    exact ⟨_, rfl, HX.out.1, HX.out.2, HP.out⟩
  · go_wp2_with fail
    refine (pick_any g (u + 1) _ _ (by omega) (by omega) (by omega) (HR1.out.alloc _)).mono ?_
    rintro e w2 ⟨k, rfl, hk0, hk1, hr, hg⟩
    obtain ⟨x, hx, hcell⟩ := lit_cell [0, 4, -1] hg (by omega) hk0 (hk1 (by omega))
    have hk5 := hk1 (by omega)
    have HP : Hid (Rd w2 g (u + 2) ∧ w.grownBy w2 (some g)) := ⟨hr, (grown_alloc HG1.out _).trans hg⟩
    have HX : Hid (-1 ≤ x ∧ x ≤ 4) := by unfold Hid; simp only [List.mem_cons, List.not_mem_nil, or_false] at hx; omega
    clear hr hg hx hk1
    go_wp2_with fail
    go_ret
    exact ⟨_, rfl, HX.out.1, HX.out.2, HP.out⟩

/-- What the opening of a reader leaves. -/
def OpenPost (w : World) (e : Ending) (w' : World) : Prop := e = .returned (.pointer (some ⟨w.heap.size, 0, none⟩)) ∧ Rd w' w.heap.size 0 ∧ Below w.heap.size w w'
theorem open_rd {w : World} {A : Option Addr} {c : Nat} {zs : List Int} (h : Nums .u8 w A zs) (hl : zs.length ≤ 2000) (hr : ∀ z ∈ zs, 0 ≤ z ∧ z ≤ 255) :
    Rd (w.alloc (.cells #[.slice A zs.length c, .int .i64 0] 62)) w.heap.size 0 := by
  refine ⟨A, c, zs, 0, heap_alloc_new w _, h.alloc _, hl, Nat.le_refl _, hr, fun ad hp ha => ?_⟩
  obtain ⟨b, off, hA, hb, _⟩ := h hp
  rw [hA] at ha
  cases ha
  exact hb

set_option maxHeartbeats 400000 in
theorem open_any (A : Option Addr) (nn c : Nat) (zs : List Int) (w : World) (hn : nn = zs.length) (hc : nn ≤ c) (hm : c ≤ maxLen) (hr : ∀ z ∈ zs, 0 ≤ z ∧ z ≤ 255) (hA : Nums .u8 w A zs) :
    Calls Try.prog 36 #[.slice A nn c] w (OpenPost w) := by
  subst hn
  have hm' : c ≤ 9223372036854775807 := by unfold maxLen at hm; omega
  have HB : Hid (∀ o, Below w.heap.size w (w.alloc o)) := fun o => (Below.refl _ _).alloc (Nat.le_refl _) o
  by_cases hl : 2000 < zs.length
  · have hd : decide ((2000 : Int) < (zs.length : Int)) = true := by simp; omega
    have hlen : (zs.take 2000).length = 2000 := by rw [List.length_take]; omega
    have HR : Hid (Rd (w.alloc (.cells #[.slice A 2000 c, .int .i64 0] 62)) w.heap.size 0) := by
      have := open_rd (c := c) (hA.take 2000) (by omega) (fun z hz => hr z (List.mem_of_mem_take hz))
      rw [hlen] at this
      exact this
    clear hA hr hlen hm
    go_enter Try.func36, Try.ntmps36
    go_wp2
    go_ret
    exact ⟨rfl, HR.out, HB.out _⟩
  · have hd : decide ((2000 : Int) < (zs.length : Int)) = false := by simp; omega
    have HR := Lib.hid (open_rd (c := c) hA (by omega) hr)
    clear hA hr hm
    go_enter Try.func36, Try.ntmps36
    go_wp2
    go_ret
    exact ⟨rfl, HR.out, HB.out _⟩

/-- The greatest set that may be drawn for a number of things. -/
def topOf (t : Int) : Int := if 1 ≤ t ∧ t ≤ 3 then allOf t else 1
theorem topOf_range (t : Int) : 1 ≤ topOf t ∧ topOf t ≤ 255 := by
  unfold topOf allOf; split
  · rename_i h
    have : t = 1 ∨ t = 2 ∨ t = 3 := by omega
    rcases this with rfl | rfl | rfl <;> simp
  · omega

/-- The end of a set's drawing, from the greatest set on. -/
theorem range_set {all x : Int} (h1 : 1 ≤ all) (h2 : all ≤ 255) (hx : x = -1 ∨ x = all + 1) : -1 ≤ x ∧ x ≤ 256 := by omega

set_option maxHeartbeats 2000000 in
theorem set_any (g u : Nat) (t n : Int) (w : World) (hn : n ≤ 1048576) (hn0 : 0 ≤ n) (hu : u ≤ 1000000) (hR : Rd w g u) :
    Calls Try.prog 41 #[.pointer (some ⟨g, 0, none⟩), .int .i64 t, .int .i64 n] w (NumPost (-1) 256 g (u + 8) w) := by
  have HR := Lib.hid hR
  have hlt := hR.lt
  clear hR
  by_cases ht : 1 ≤ t ∧ t ≤ 3
  · obtain ⟨all, HA⟩ : ∃ a, Hid (allOf t = a) := ⟨_, rfl⟩
    have h1 : 1 ≤ all := by
      rw [← HA.out]; unfold allOf
      have : t = 1 ∨ t = 2 ∨ t = 3 := by omega
      rcases this with rfl | rfl | rfl <;> simp
    have h2 : all ≤ 255 := by rw [← HA.out]; have := allOf_lt t; omega
    obtain ⟨ht1, ht2⟩ := ht
    go_enter Try.func41, Try.ntmps41
    go_wp2_with fail
    refine (sIn_yes _ _ _ _ ht1 ht2).mono ?_
    rintro e w' ⟨rfl, rfl⟩
    go_wp2_with fail
    refine (sAll _ _ ht1 ht2).mono ?_
    rintro e w' ⟨rfl, rfl⟩
    rw [HA.out]
    go_wp2_with fail
    refine (odd_any g u n _ hn hn0 (by omega) HR.out).mono ?_
    rintro e w1 ⟨b, rfl, hr, hg⟩
    have hsz := hg.size
    have HR1 := Lib.hid hr
    have HG1 := Lib.hid hg
    clear hr hg
    cases b
    · go_wp2_with fail
      refine (pick_any g (u + 1) _ _ (by omega) (by omega) (by omega) HR1.out).mono ?_
      rintro e w2 ⟨k1, rfl, ha0, ha1, hr, hg⟩
      have hka := ha1 (by omega)
      have HR2 := Lib.hid hr
      have HG2 := Lib.hid (HG1.out.trans hg)
      clear hr hg ha1
      go_wp2_with fail
      refine (pick_any g (u + 2) _ _ (by omega) (by omega) (by omega) HR2.out).mono ?_
      rintro e w3 ⟨k2, rfl, hb0, hb1, hr, hg⟩
      have hkb := hb1 (by omega)
      have HR3 := Lib.hid hr
      have HG3 := Lib.hid (HG2.out.trans hg)
      clear hr hg hb1
      go_wp2_with fail
      refine (pick_any g (u + 3) _ _ (by omega) (by omega) (by omega) HR3.out).mono ?_
      rintro e w4 ⟨k3, rfl, hc0, hc1, hr, hg⟩
      have hkc := hc1 (by omega)
      have HR4 := Lib.hid hr
      have HG4 := Lib.hid (HG3.out.trans hg)
      clear hr hg hc1
      go_wp2_with fail
      refine (sBothS k2 k3 hb0 hkb hc0 hkc _).mono ?_
      rintro e w5 ⟨rfl, n5, rfl⟩
      have hd0 := andI_nonneg k2 k3
      have hd1 := andI_le k2 k3 hb0
      generalize andI k2 k3 = kd at hd0 hd1 ⊢
      go_wp2_with fail
      refine (pick_any g (u + 4) _ _ (by omega) (by omega) (by omega) (by exact HR4.out.drewN n5)).mono ?_
      rintro e w6 ⟨k4, rfl, he0, he1, hr, hg⟩
      have hke := he1 (by omega)
      have HR6 := Lib.hid hr
      have HG6 := Lib.hid ((grown_drewN HG4.out n5).trans hg)
      clear hr hg he1
      go_wp2_with fail
      refine (pick_any g (u + 5) _ _ (by omega) (by omega) (by omega) HR6.out).mono ?_
      rintro e w7 ⟨k5, rfl, hf0, hf1, hr, hg⟩
      have hkf := hf1 (by omega)
      have HR7 := Lib.hid hr
      have HG7 := Lib.hid (HG6.out.trans hg)
      clear hr hg hf1
      go_wp2_with fail
      refine (sEither k4 k5 he0 hke hf0 hkf _).mono ?_
      rintro e w8 ⟨rfl, n8, rfl⟩
      have hg0 := orI_nonneg k4 k5
      have hg1 := orI_lt k4 k5 hke hkf
      generalize orI k4 k5 = kg at hg0 hg1 ⊢
      have hs7 : Hid (w.heap.size ≤ w7.heap.size) := HG7.out.size
      go_wp2_with fail
      refine (pick_any g (u + 6) _ _ (by omega) (by omega) (by omega) (by exact (HR7.out.drewN n8).alloc _)).mono ?_
      rintro e w9 ⟨k, rfl, hk0, hk1, hr, hg⟩
      obtain ⟨x, hx, hcell⟩ := lit_cell (w := w7.drewN n8) [k1, kd, kg] hg (by have := hs7.out; exact Nat.lt_of_lt_of_le hlt this) hk0 (hk1 (by omega))
      have hcell : w9.cell? ⟨w7.heap.size, k.toNat, none⟩ = some (.int .i64 x) := hcell
      have hk5 := hk1 (by omega)
      have HP : Hid (Rd w9 g (u + 8) ∧ w.grownBy w9 (some g)) := ⟨hr.more (by omega), (grown_alloc (grown_drewN HG7.out n8) _).trans hg⟩
      have hx0 : 0 ≤ x := by simp only [List.mem_cons, List.not_mem_nil, or_false] at hx; omega
      have hx1 : x ≤ 255 := by simp only [List.mem_cons, List.not_mem_nil, or_false] at hx; omega
      clear hr hg hx hk1
      go_wp2_with fail
      go_ret
      refine ⟨_, rfl, ?_, ?_, HP.out⟩
      · have := Int.emod_nonneg x (show all + 1 ≠ 0 by omega); omega
      · have := Int.emod_lt_of_pos x (show 0 < all + 1 by omega); omega
    · go_wp2_with fail
      refine (pick_any g (u + 1) _ _ (by omega) (by omega) (by omega) (HR1.out.alloc _)).mono ?_
      rintro e w2 ⟨k, rfl, hk0, hk1, hr, hg⟩
      obtain ⟨x, hx, hcell⟩ := lit_cell [-1, all + 1] hg (by omega) hk0 (hk1 (by omega))
      have hk5 := hk1 (by omega)
      have HP : Hid (Rd w2 g (u + 8) ∧ w.grownBy w2 (some g)) := ⟨hr.more (by omega), (grown_alloc HG1.out _).trans hg⟩
      have HX : Hid (-1 ≤ x ∧ x ≤ 256) := by unfold Hid; simp only [List.mem_cons, List.not_mem_nil, or_false] at hx; omega
      clear hr hg hx hk1
      go_wp2_with fail
      go_ret
      exact ⟨_, rfl, HX.out.1, HX.out.2, HP.out⟩
  · have ht' : t < 1 ∨ 3 < t := by omega
    clear ht
    go_enter Try.func41, Try.ntmps41
    go_wp2_with fail
    refine (sIn_no _ _ _ _ ht').mono ?_
    rintro e w' ⟨rfl, rfl⟩
    go_wp2_with fail
    refine (odd_any g u n _ hn hn0 (by omega) HR.out).mono ?_
    rintro e w1 ⟨b, rfl, hr, hg⟩
    have hsz := hg.size
    have HR1 := Lib.hid hr
    have HG1 := Lib.hid hg
    clear hr hg
    cases b
    · go_wp2_with fail
      refine (pick_any g (u + 1) _ _ (by omega) (by omega) (by omega) HR1.out).mono ?_
      rintro e w2 ⟨k1, rfl, ha0, ha1, hr, hg⟩
      have hka := ha1 (by omega)
      have HR2 := Lib.hid hr
      have HG2 := Lib.hid (HG1.out.trans hg)
      clear hr hg ha1
      go_wp2_with fail
      refine (pick_any g (u + 2) _ _ (by omega) (by omega) (by omega) HR2.out).mono ?_
      rintro e w3 ⟨k2, rfl, hb0, hb1, hr, hg⟩
      have hkb := hb1 (by omega)
      have HR3 := Lib.hid hr
      have HG3 := Lib.hid (HG2.out.trans hg)
      clear hr hg hb1
      go_wp2_with fail
      refine (pick_any g (u + 3) _ _ (by omega) (by omega) (by omega) HR3.out).mono ?_
      rintro e w4 ⟨k3, rfl, hc0, hc1, hr, hg⟩
      have hkc := hc1 (by omega)
      have HR4 := Lib.hid hr
      have HG4 := Lib.hid (HG3.out.trans hg)
      clear hr hg hc1
      go_wp2_with fail
      refine (sBothS k2 k3 hb0 hkb hc0 hkc _).mono ?_
      rintro e w5 ⟨rfl, n5, rfl⟩
      have hd0 := andI_nonneg k2 k3
      have hd1 := andI_le k2 k3 hb0
      generalize andI k2 k3 = kd at hd0 hd1 ⊢
      go_wp2_with fail
      refine (pick_any g (u + 4) _ _ (by omega) (by omega) (by omega) (by exact HR4.out.drewN n5)).mono ?_
      rintro e w6 ⟨k4, rfl, he0, he1, hr, hg⟩
      have hke := he1 (by omega)
      have HR6 := Lib.hid hr
      have HG6 := Lib.hid ((grown_drewN HG4.out n5).trans hg)
      clear hr hg he1
      go_wp2_with fail
      refine (pick_any g (u + 5) _ _ (by omega) (by omega) (by omega) HR6.out).mono ?_
      rintro e w7 ⟨k5, rfl, hf0, hf1, hr, hg⟩
      have hkf := hf1 (by omega)
      have HR7 := Lib.hid hr
      have HG7 := Lib.hid (HG6.out.trans hg)
      clear hr hg hf1
      go_wp2_with fail
      refine (sEither k4 k5 he0 hke hf0 hkf _).mono ?_
      rintro e w8 ⟨rfl, n8, rfl⟩
      have hg0 := orI_nonneg k4 k5
      have hg1 := orI_lt k4 k5 hke hkf
      generalize orI k4 k5 = kg at hg0 hg1 ⊢
      have hs7 : Hid (w.heap.size ≤ w7.heap.size) := HG7.out.size
      go_wp2_with fail
      refine (pick_any g (u + 6) _ _ (by omega) (by omega) (by omega) (by exact (HR7.out.drewN n8).alloc _)).mono ?_
      rintro e w9 ⟨k, rfl, hk0, hk1, hr, hg⟩
      obtain ⟨x, hx, hcell⟩ := lit_cell (w := w7.drewN n8) [k1, kd, kg] hg (by have := hs7.out; exact Nat.lt_of_lt_of_le hlt this) hk0 (hk1 (by omega))
      have hcell : w9.cell? ⟨w7.heap.size, k.toNat, none⟩ = some (.int .i64 x) := hcell
      have hk5 := hk1 (by omega)
      have HP : Hid (Rd w9 g (u + 8) ∧ w.grownBy w9 (some g)) := ⟨hr.more (by omega), (grown_alloc (grown_drewN HG7.out n8) _).trans hg⟩
      have hx0 : 0 ≤ x := by simp only [List.mem_cons, List.not_mem_nil, or_false] at hx; omega
      have hx1 : x ≤ 255 := by simp only [List.mem_cons, List.not_mem_nil, or_false] at hx; omega
      clear hr hg hx hk1
      go_wp2_with fail
      go_ret
      refine ⟨_, rfl, ?_, ?_, HP.out⟩
      · have := Int.emod_nonneg x (show 1 + 1 ≠ 0 by omega); omega
      · have := Int.emod_lt_of_pos x (show 0 < 1 + 1 by omega); omega
    · go_wp2_with fail
      refine (pick_any g (u + 1) _ _ (by omega) (by omega) (by omega) (HR1.out.alloc _)).mono ?_
      rintro e w2 ⟨k, rfl, hk0, hk1, hr, hg⟩
      obtain ⟨x, hx, hcell⟩ := lit_cell [-1, 2] hg (by omega) hk0 (hk1 (by omega))
      have hk5 := hk1 (by omega)
      have HP : Hid (Rd w2 g (u + 8) ∧ w.grownBy w2 (some g)) := ⟨hr.more (by omega), (grown_alloc HG1.out _).trans hg⟩
      have HX : Hid (-1 ≤ x ∧ x ≤ 256) := by unfold Hid; simp only [List.mem_cons, List.not_mem_nil, or_false] at hx; omega
      clear hr hg hx hk1
      go_wp2_with fail
      go_ret
      exact ⟨_, rfl, HX.out.1, HX.out.2, HP.out⟩

end Go.Proofs.Ytjilcnehndmoaaa

namespace Go.Proofs.Ytjilcnehndmoaaa
open Go.RowKit

theorem bytes_range {xs : List Int} (h : ∀ x ∈ xs, (Lit.int .u8 x).wf = true) : ∀ z ∈ xs, 0 ≤ z ∧ z ≤ 255 := fun z hz => bounds_u8 (h z hz)
def Draw1 (lo hi : Int) (w : World) (e : Ending) (w' : World) : Prop := ∃ k : Int, e = .returned (.int .i64 k) ∧ lo ≤ k ∧ k ≤ hi ∧ Below w.heap.size w w'
def Draw2 (w : World) (e : Ending) (w' : World) : Prop := ∃ t s : Int, e = .returned (.tuple #[.int .i64 t, .int .i64 s]) ∧ -1 ≤ t ∧ t ≤ 4 ∧ -1 ≤ s ∧ s ≤ 256 ∧ Below w.heap.size w w'

end Go.Proofs.Ytjilcnehndmoaaa

namespace Go.Proofs.Ytjilcnehndmoaaa
open Go.RowKit

theorem bit_zero (a b k : Nat) (h : a / 2 ^ k % 2 = 0 ∨ b / 2 ^ k % 2 = 0) : (a &&& b) % 2 ^ (k + 1) = (a &&& b) % 2 ^ k := by
  rw [bit_step a b k]
  rcases h with h | h <;> rw [h] <;> simp
theorem bit_one (a b k : Nat) (h1 : a / 2 ^ k % 2 = 1) (h2 : b / 2 ^ k % 2 = 1) (hk : k < 8) :
    wrap64 (↑(a &&& b) % 2 ^ k + wrap64 (2 ^ k)) = (((a &&& b) % 2 ^ (k + 1) : Nat) : Int) := by
  have hp : 2 ^ k ≤ 128 := by
    have : 2 ^ k ≤ 2 ^ 7 := Nat.pow_le_pow_right (by omega) (by omega)
    omega
  have hm : (a &&& b) % 2 ^ k < 2 ^ k := Nat.mod_lt _ (Nat.two_pow_pos k)
  have e4 : (2 : Int) ^ k = ((2 ^ k : Nat) : Int) := by push_cast; rfl
  rw [bit_step a b k, h1, h2, e4, ← Int.natCast_emod, IntWalk.wrap64_in ((2 ^ k : Nat) : Int) ⟨by omega, by omega⟩, IntWalk.wrap64_in _ ⟨by omega, by omega⟩]
  omega

set_option maxHeartbeats 1000000 in
theorem lBothN (a b : Nat) (w : World) : Calls Try.prog 23 #[.int .i64 a, .int .i64 b] w fun e w' => e = .returned (.int .i64 ((a &&& b) % 256 : Nat)) ∧ w = w' := by
  go_enter Try.func23, Try.ntmps23
  go_wp2
  go_loop [5, 6] (fun t i => ∃ k : Nat, k ≤ 8 ∧ i = .int .i64 k ∧ t = .int .i64 ((a &&& b) % 2 ^ k : Nat)) (fun _ i => 8 - (Go.RowKit.intOf i).toNat)
  case atStart => exact ⟨0, by omega, rfl, by simp [Nat.mod_one]⟩
  case round =>
    obtain ⟨k, hk, rfl, rfl⟩ := hrel
    by_cases hlt : k < 8
    · have e4 : (2 : Int) ^ k = ((2 ^ k : Nat) : Int) := by push_cast; rfl
      have ea : ((a : Int) / 2 ^ k).tmod 2 = ((a / 2 ^ k % 2 : Nat) : Int) := by rw [e4]; exact tmod2_nat _ _
      have eb : ((b : Int) / 2 ^ k).tmod 2 = ((b / 2 ^ k % 2 : Nat) : Int) := by rw [e4]; exact tmod2_nat _ _
      rcases Nat.mod_two_eq_zero_or_one (a / 2 ^ k) with h1 | h1
      · have HB := Lib.hid (bit_zero a b k (.inl h1))
        have ha : (((a : Int) / 2 ^ k).tmod 2 == 1) = false := by rw [ea, h1]; rfl
        clear e4 ea eb h1
        go_wp2
        go_round
        case rel => exact ⟨k + 1, by omega, by go_num, by rw [HB.out]⟩
        case measure => simp [Go.RowKit.intOf]; omega
      · have ha : (((a : Int) / 2 ^ k).tmod 2 == 1) = true := by rw [ea, h1]; rfl
        rcases Nat.mod_two_eq_zero_or_one (b / 2 ^ k) with h2 | h2
        · have HB := Lib.hid (bit_zero a b k (.inr h2))
          have hb : (((b : Int) / 2 ^ k).tmod 2 == 1) = false := by rw [eb, h2]; rfl
          clear e4 ea eb h1 h2
          go_wp2
          go_round
          case rel => exact ⟨k + 1, by omega, by go_num, by rw [HB.out]⟩
          case measure => simp [Go.RowKit.intOf]; omega
        · have HB := Lib.hid (bit_one a b k h1 h2 hlt)
          have hb : (((b : Int) / 2 ^ k).tmod 2 == 1) = true := by rw [eb, h2]; rfl
          clear e4 ea eb h1 h2
          go_wp2
          go_round
          case rel => exact ⟨k + 1, by omega, by go_num, by first | rw [← HB.out] | (rw [← HB.out]; rfl)⟩
          case measure => simp [Go.RowKit.intOf]; omega
    · obtain rfl : k = 8 := by omega
      go_wp2
      go_ret
      exact ⟨rfl, rfl⟩

theorem lBoth (a b : Int) (ha : 0 ≤ a) (ha2 : a < 256) (hb : 0 ≤ b) (w : World) :
    Calls Try.prog 23 #[.int .i64 a, .int .i64 b] w fun e w' => e = .returned (.int .i64 (andI a b)) ∧ w = w' := by
  have hm := andI_mod a b ha ha2
  obtain ⟨a, rfl⟩ := Int.eq_ofNat_of_zero_le ha
  obtain ⟨b, rfl⟩ := Int.eq_ofNat_of_zero_le hb
  exact (lBothN a b w).mono fun e w' ⟨he, hw⟩ => ⟨he.trans (ret_int (by rw [← hm, andI_nat]; omega)), hw⟩

set_option maxHeartbeats 400000 in
theorem lWithin (a b : Int) (ha : 0 ≤ a) (ha2 : a < 256) (hb : 0 ≤ b) (w : World) :
    Calls Try.prog 22 #[.int .i64 a, .int .i64 b] w fun e w' => e = .returned (.bool (withinB a b)) ∧ w = w' := by
  go_enter Try.func22, Try.ntmps22
  go_wp2_with fail
  refine (lBoth a b ha ha2 hb _).mono ?_
  rintro e w' ⟨rfl, rfl⟩
  go_wp2_with fail
  go_ret
  exact ⟨ret_bool (by unfold withinB; rw [Bool.eq_iff_iff]; simp), rfl⟩
end Go.Proofs.Ytjilcnehndmoaaa

namespace Go.Proofs.Ytjilcnehndmoaaa
open Go.RowKit

theorem lWithin_is {a b : Int} {v : Bool} (h : Hid (withinB a b = v)) (ha : 0 ≤ a) (ha2 : a < 256) (hb : 0 ≤ b) (w : World) :
    Calls Try.prog 22 #[.int .i64 a, .int .i64 b] w fun e w' => e = .returned (.bool v) ∧ w = w' :=
  (lWithin a b ha ha2 hb w).mono fun _ _ ⟨he, hw⟩ => ⟨he.trans (ret_bool h.out), hw⟩
theorem lWhole_is {t al : Int} (h : Hid (allOf t = al)) (h1 : 1 ≤ t) (h3 : t ≤ 3) (w : World) : Calls Try.prog 28 #[.int .i64 t] w fun e w' => e = .returned (.int .i64 al) ∧ w = w' :=
  (lWhole t w h1 h3).mono fun _ _ ⟨he, hw⟩ => ⟨he.trans (ret_int h.out), hw⟩
theorem setOk_of {t k : Int} (h1 : 1 ≤ t) (h3 : t ≤ 3) (h0 : 0 ≤ k) (hk : k ≤ allOf t) : setOkB t k = true := by
  unfold setOkB; apply decide_eq_true; exact ⟨h1, h3, h0, hk⟩
theorem issue_one {t s : Int} (h : setOkB t s = true) : issueOkB t [s] = true := by
  unfold issueOkB partsOkB pairB; simp [h]
theorem settles_one {t s k : Int} (h : setOkB t s = true) (hk : setOkB t k = true) : settlesB t [s] k = withinB k s := by
  unfold settlesB; rw [issue_one h, hk]; simp [anyWithin]
theorem granted_one {t s : Int} (h : setOkB t s = true) : grantedI t [s] = s := by
  have := setOkB_lt h
  unfold grantedI unionI; rw [issue_one h]; simp [orI]; omega

end Go.Proofs.Ytjilcnehndmoaaa

namespace Go.Proofs.Ytjilcnehndmoaaa
open Go.RowKit

theorem wp_append1 {W : World} {ops : Array Oper} {rest : List Oper} {o : Oper} {a : Act} {Q : Exit → Act → World → Prop} (hgd : o.guard = none) (s x : Operand)
    (ho : o.op = .call { callee := .builtin .append, args := #[s, x], argTypes := #[66, 66] }) (base : Nat) (v : Value) (xs : List Int) (hs : a.eval s = v) (hown : Owns W base v xs)
    (y : Int) (hx : a.eval x = .slice (some ⟨W.heap.size, 0, none⟩) 1 1) (hl : xs.length ≤ 1048576) (hb : base ≤ W.heap.size)
    (h : ∀ v' w', Owns w' base v' (xs ++ [y]) → (W.alloc (.cells #[.int .i64 y] 3)).grownBy w' v.ownBlock → wpList Try.prog ops Q rest (a.put o.dst v') w') :
    wpList Try.prog ops Q (o :: rest) a (W.alloc (.cells #[.int .i64 y] 3)) := by
  obtain ⟨i0, hi0, hz0, hz1, hz2⟩ := info_parts int_info
  refine wpList_append_own _ hgd s x 66 ho base 3 i0 (.int .i64 0) 1 8 Try.underlying66 hi0 hz0 hz1 hz2 rfl (by decide) v xs.length (xs.map (Value.int .i64)) hs (World.ownsRow.alloc hown _)
    ⟨W.heap.size, 0, none⟩ 1 1 [.int .i64 y] hx rfl (cell_one_new _ _ _) (fun u hu => by rw [List.mem_singleton] at hu; subst hu; rfl) (by simp only [maxLen]; omega) (by omega) (by rw [World.size_alloc]; omega) ?_
  intro v' w' h1 h2 _
  refine h v' w' ?_ h2
  unfold Owns
  simpa using h1
/-- What an append of the call's own row leaves below a block that is older than the row. -/
theorem below_append {B : Nat} {a W w' : World} {base : Nat} {v : Value} {xs : List Int} {o : Obj} (h : Below B a W) (hB : B ≤ W.heap.size) (hown : Owns W base v xs) (hbase : B ≤ base) (hg : (W.alloc o).grownBy w' v.ownBlock) : Below B a w' :=
  (h.alloc hB o).grown hg (by simp; omega) fun k e => by have := (World.ownsRow.lt hown k e).1; omega

def hereB (xs : List Int) (s : Int) (j : Nat) : Bool := decide (s ∈ xs.take j)
def topB (xs : List Int) (s : Int) (j : Nat) : Bool := (xs.take j).all (fun x => decide (x = s) || !withinB s x)
def keepB (xs : List Int) (s : Int) : Bool := decide (s ∈ xs) && xs.all (fun x => decide (x = s) || !withinB s x)
def tidyTo (xs : List Int) (k : Nat) : List Int := ((List.range k).map (fun n : Nat => (n : Int))).filter (keepB xs)
def tidyL (xs : List Int) : List Int := tidyTo xs 256
theorem here_next {xs : List Int} {s x : Int} {j : Nat} {b : Bool} (h : Hid (hereB xs s j = b)) (hx : Hid (xs[j]? = some x)) : hereB xs s (j + 1) = (b || decide (x = s)) := by
  rw [← h.out]; unfold hereB; rw [take_snoc hx, Bool.eq_iff_iff]; simp only [List.mem_append, List.mem_singleton, Bool.or_eq_true, decide_eq_true_eq]; exact or_congr Iff.rfl eq_comm
theorem top_next {xs : List Int} {s x : Int} {j : Nat} {b : Bool} (h : Hid (topB xs s j = b)) (hx : Hid (xs[j]? = some x)) : topB xs s (j + 1) = (b && (decide (x = s) || !withinB s x)) := by
  rw [← h.out]; unfold topB; rw [take_snoc hx, List.all_append]; simp
theorem keep_of {xs : List Int} {s : Int} {b1 b2 : Bool} (h1 : Hid (hereB xs s xs.length = b1)) (h2 : Hid (topB xs s xs.length = b2)) : keepB xs s = (b1 && b2) := by
  rw [← h1.out, ← h2.out]; unfold keepB hereB topB; rw [List.take_length]
theorem tidy_next (xs : List Int) (k : Nat) : tidyTo xs (k + 1) = tidyTo xs k ++ (if keepB xs k = true then [(k : Int)] else []) := by
  unfold tidyTo
  rw [List.range_succ, List.map_append, List.filter_append]
  simp only [List.map_cons, List.map_nil, List.filter_cons, List.filter_nil]
theorem tidy_len (xs : List Int) (k : Nat) : (tidyTo xs k).length ≤ k := by
  unfold tidyTo
  refine Nat.le_trans (List.length_filter_le _ _) (by simp)

def issueFromL (t : Int) (xs : List Int) : List Int := if partsOkB t xs = true then tidyL xs else []
theorem from_bad {t : Int} {xs : List Int} (h : partsOkB t xs = false) : issueFromL t xs = [] := by unfold issueFromL; rw [h]; rfl
theorem from_ok {t : Int} {xs : List Int} (h : partsOkB t xs = true) : issueFromL t xs = tidyL xs := by unfold issueFromL; rw [h]; rfl
theorem parts_end {t : Int} {xs : List Int} (h : Hid ((xs.take xs.length).all (setOkB t) = true)) : partsOkB t xs = (inB t 1 3 && inB (xs.length : Int) 1 70) := by
  have h := h.out
  rw [List.take_length] at h
  unfold partsOkB inB
  rw [h, Bool.and_true, Bool.eq_iff_iff]
  simp only [Bool.and_eq_true, decide_eq_true_eq]
  cases xs with
  | nil => simp
  | cons x r =>
    rw [List.all_eq_true] at h
    have := setOkB_lt (h x (by simp))
    simp only [List.length_cons]
    omega
theorem sIn_is {n a b : Int} {v : Bool} (h : Hid (inB n a b = v)) (w : World) : Calls Try.prog 38 #[.int .i64 n, .int .i64 a, .int .i64 b] w fun e w' => e = .returned (.bool v) ∧ w = w' :=
  (sIn n a b w).mono fun _ _ ⟨he, hw⟩ => ⟨he.trans (ret_bool h.out), hw⟩

end Go.Proofs.Ytjilcnehndmoaaa

namespace Go.Proofs.Ytjilcnehndmoaaa
open Go.RowKit

theorem owns_grown {w w' : World} {base g : Nat} {v : Value} {xs : List Int} (h : Owns w base v xs) (hg : w.grownBy w' (some g)) (hb : g < base) : Owns w' base v xs := by
  refine h.kept hg ?_
  cases e : v.ownBlock with
  | none => exact .inl rfl
  | some k =>
    right
    intro e2
    have := (World.ownsRow.lt h k e).1
    injection e2
    omega
theorem rd_append {w W w' : World} {base g u : Nat} {v : Value} {xs : List Int} {o : Obj} (hR : Rd W g u) (hG : w.grownBy W (some g)) (hown : Owns W base v xs) (hb : w.heap.size ≤ base) (hlt : g < w.heap.size)
    (hg : (W.alloc o).grownBy w' v.ownBlock) : Rd w' g u ∧ w.grownBy w' (some g) := by
  have hk : ∀ k, v.ownBlock = some k → w.heap.size ≤ k ∧ k < W.heap.size := fun k e => by have := World.ownsRow.lt hown k e; omega
  have h1 := hR.alloc o
  refine ⟨?_, grown_fresh (grown_alloc hG o) hg fun k e => (hk k e).1⟩
  obtain ⟨A, c, zs, p, a1, a2, a3, a4, a5, a6⟩ := hR
  have hgl : g < W.heap.size := (Array.getElem?_eq_some_iff.1 a1).1
  have a1' : (W.alloc o).heap[g]? = W.heap[g]? := Below.heap_alloc W o g hgl
  refine ⟨A, c, zs, p, (hg.block g (by simp; omega) (fun e => by have := hk g e.symm; omega)).trans (a1'.trans a1), ?_, a3, a4, a5, a6⟩
  exact fun hp => (a2.alloc o).grown hg (fun ad ha e => by have := a6 ad hp ha; have := hk ad.block e.symm; omega) hp

def ListPost (m g u : Nat) (w : World) (e : Ending) (w' : World) : Prop :=
  ∃ (v : Value) (xs : List Int), e = .returned v ∧ Owns w' w.heap.size v xs ∧ xs.length ≤ m ∧ (∀ x ∈ xs, -1 ≤ x ∧ x ≤ 256) ∧ Rd w' g u ∧ w.grownBy w' (some g)

theorem tidyTo_range (xs : List Int) (k : Nat) : ∀ x ∈ tidyTo xs k, 0 ≤ x ∧ x < k := by
  intro x hx
  unfold tidyTo at hx
  rw [List.mem_filter, List.mem_map] at hx
  obtain ⟨⟨n, hn, rfl⟩, _⟩ := hx
  rw [List.mem_range] at hn
  omega
theorem issueFrom_range (t : Int) (xs : List Int) : (issueFromL t xs).length ≤ 256 ∧ ∀ x ∈ issueFromL t xs, -1 ≤ x ∧ x ≤ 256 := by
  unfold issueFromL
  split
  · exact ⟨tidy_len xs 256, fun x hx => by have := tidyTo_range xs 256 x hx; omega⟩
  · simp

/-- What a drawing of a number of things and an issue leaves. -/
def DrawTL (w : World) (e : Ending) (w' : World) : Prop :=
  ∃ (t : Int) (v : Value) (xs : List Int), e = .returned (.tuple #[.int .i64 t, v]) ∧ -1 ≤ t ∧ t ≤ 4 ∧ Owns w' w.heap.size v xs ∧ xs.length ≤ 257 ∧ (∀ x ∈ xs, -1 ≤ x ∧ x ≤ 256) ∧ Below w.heap.size w w'
def DrawTLS (w : World) (e : Ending) (w' : World) : Prop :=
  ∃ (t : Int) (v : Value) (xs : List Int) (s : Int), e = .returned (.tuple #[.int .i64 t, v, .int .i64 s]) ∧ -1 ≤ t ∧ t ≤ 4 ∧ Owns w' w.heap.size v xs ∧ xs.length ≤ 257 ∧ (∀ x ∈ xs, -1 ≤ x ∧ x ≤ 256) ∧ -1 ≤ s ∧ s ≤ 256 ∧ Below w.heap.size w w'

end Go.Proofs.Ytjilcnehndmoaaa
