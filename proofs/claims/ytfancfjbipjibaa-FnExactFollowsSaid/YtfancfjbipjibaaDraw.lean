/-
  What is drawn: numbers of things, sets, lists of sets.
-/
import Derived.Test.YtfancfjbipjibaaRead
import Derived.OwnWalk
namespace Go.Proofs.Ytfancfjbipjibaa
open Go.RowKit

theorem Rd.alloc {w : World} {g u : Nat} (h : Rd w g u) (o : Obj) : Rd (w.alloc o) g u := h.below ((Below.refl _ _).alloc (Nat.le_refl _) o)
theorem grown_alloc {a w : World} {row : Option Nat} (h : a.grownBy w row) (o : Obj) : a.grownBy (w.alloc o) row :=
  ⟨h.os, h.tape, h.output, Nat.le_trans h.size (by simp), fun i hi hne => (Below.heap_alloc w o i (Nat.lt_of_lt_of_le hi h.size)).trans (h.block i hi hne)⟩
theorem grown_below {a w w' : World} {row : Option Nat} (h : a.grownBy w row) (hb : Below w.heap.size w w') : a.grownBy w' row :=
  ⟨hb.os.trans h.os, hb.tape.trans h.tape, hb.output.trans h.output, Nat.le_trans h.size hb.size, fun i hi hn => (hb.block i (Nat.lt_of_lt_of_le hi h.size)).trans (h.block i hi hn)⟩
/-- What is written into a block that is newer than a is no change of a's. -/
theorem grown_fresh {a w w' : World} {row : Option Nat} {r : Option Nat} (h : a.grownBy w row) (hg : w.grownBy w' r) (hr : ∀ k, r = some k → a.heap.size ≤ k) : a.grownBy w' row :=
  ⟨hg.os.trans h.os, hg.tape.trans h.tape, hg.output.trans h.output, Nat.le_trans h.size hg.size, fun i hi hn => (hg.block i (Nat.lt_of_lt_of_le hi h.size) (fun e => by have := hr i e.symm; omega)).trans (h.block i hi hn)⟩

/-- A new row of numbers is still there behind a draw. -/
theorem lit_cell {w w' : World} {g : Nat} (xs : List Int) {t : TypeId} (hg : (w.alloc (.cells (xs.map (Value.int .i64)).toArray t)).grownBy w' (some g)) (hne : g < w.heap.size) {k : Int} (h0 : 0 ≤ k) (hk : k < xs.length) :
    ∃ x : Int, x ∈ xs ∧ w'.cell? ⟨w.heap.size, k.toNat, none⟩ = some (.int .i64 x) := by
  have hb : w'.heap[w.heap.size]? = (w.alloc (.cells (xs.map (Value.int .i64)).toArray t)).heap[w.heap.size]? := hg.block w.heap.size (by simp) (fun e => by injection e; omega)
  have hi : k.toNat < xs.length := by omega
  refine ⟨xs[k.toNat], List.getElem_mem hi, ?_⟩
  have h2 : (w.alloc (.cells (xs.map (Value.int .i64)).toArray t)).heap[w.heap.size]? = some (.cells (xs.map (Value.int .i64)).toArray t (0, 0)) := heap_alloc_new w _
  rw [h2] at hb
  rw [cell_of_row w' w.heap.size k.toNat _ t (0, 0) hb]
  simp [hi]

def NumPost (lo hi : Int) (g u : Nat) (w : World) (e : Ending) (w' : World) : Prop := ∃ k : Int, e = .returned (.int .i64 k) ∧ lo ≤ k ∧ k ≤ hi ∧ Rd w' g u ∧ w.grownBy w' (some g)
def BoolPost (g u : Nat) (w : World) (e : Ending) (w' : World) : Prop := ∃ b : Bool, e = .returned (.bool b) ∧ Rd w' g u ∧ w.grownBy w' (some g)

set_option maxHeartbeats 400000 in
theorem odd_any (g u : Nat) (n : Int) (w : World) (hn : n ≤ 1048576) (hn0 : 0 ≤ n) (hu : u ≤ 1048576) (hR : Rd w g u) :
    Calls Try.prog 87 #[.pointer (some ⟨g, 0, none⟩), .int .i64 n] w (BoolPost g (u + 1) w) := by
  have HR := Lib.hid hR
  clear hR
  by_cases h0 : 0 < n
  · go_enter Try.func87, Try.ntmps87
    go_wp2_with fail
    refine (pick_any g u n _ hn (by omega) hu HR.out).mono ?_
    rintro e w1 ⟨k, rfl, hk0, hk1, hr, hg⟩
    have HP := Lib.hid (And.intro hr hg)
    clear hr hg hk1
    go_wp2_with fail
    go_ret
    exact ⟨_, rfl, HP.out⟩
  · have HP : Hid (Rd w g (u + 1) ∧ w.grownBy w (some g)) := ⟨HR.out.more (by omega), World.grownBy.refl w _⟩
    go_enter Try.func87, Try.ntmps87
    go_wp2_with fail
    go_ret
    exact ⟨_, rfl, HP.out⟩

set_option maxHeartbeats 1000000 in
theorem things_any (g u : Nat) (n : Int) (w : World) (hn : n ≤ 1048576) (hn0 : 0 ≤ n) (hu : u ≤ 1000000) (hR : Rd w g u) :
    Calls Try.prog 77 #[.pointer (some ⟨g, 0, none⟩), .int .i64 n] w (NumPost (-1) 4 g (u + 2) w) := by
  have HR := Lib.hid hR
  have hlt := hR.lt
  clear hR
  go_enter Try.func77, Try.ntmps77
  go_wp2_with fail
  refine (odd_any g u n _ hn hn0 (by omega) HR.out).mono ?_
  rintro e w1 ⟨b, rfl, hr, hg⟩
  have hsz := hg.size
  have HR1 := Lib.hid hr
  have HG1 := Lib.hid hg
  clear hr hg
  cases b
  · go_wp2_with fail
    refine (pick_any g (u + 1) _ _ (by omega) (by omega) (by omega) (HR1.out.alloc _)).mono ?_
    rintro e w2 ⟨k, rfl, hk0, hk1, hr, hg⟩
    obtain ⟨x, hx, hcell⟩ := lit_cell [1, 2, 2, 3, 3] hg (by omega) hk0 (hk1 (by omega))
    have hk5 := hk1 (by omega)
    have HP : Hid (Rd w2 g (u + 2) ∧ w.grownBy w2 (some g)) := ⟨hr, (grown_alloc HG1.out _).trans hg⟩
    have HX : Hid (-1 ≤ x ∧ x ≤ 4) := by unfold Hid; simp only [List.mem_cons, List.not_mem_nil, or_false] at hx; omega
    clear hr hg hx hk1
    go_wp2_with fail
    go_ret
    exact ⟨_, rfl, HX.out.1, HX.out.2, HP.out⟩
  · go_wp2_with fail
    refine (pick_any g (u + 1) _ _ (by omega) (by omega) (by omega) (HR1.out.alloc _)).mono ?_
    rintro e w2 ⟨k, rfl, hk0, hk1, hr, hg⟩
    obtain ⟨x, hx, hcell⟩ := lit_cell [0, 4, -1] hg (by omega) hk0 (hk1 (by omega))
    have hk5 := hk1 (by omega)
    have HP : Hid (Rd w2 g (u + 2) ∧ w.grownBy w2 (some g)) := ⟨hr, (grown_alloc HG1.out _).trans hg⟩
    have HX : Hid (-1 ≤ x ∧ x ≤ 4) := by unfold Hid; simp only [List.mem_cons, List.not_mem_nil, or_false] at hx; omega
    clear hr hg hx hk1
    go_wp2_with fail
    go_ret
    exact ⟨_, rfl, HX.out.1, HX.out.2, HP.out⟩

/-- What the opening of a reader leaves. -/
def OpenPost (w : World) (e : Ending) (w' : World) : Prop := e = .returned (.pointer (some ⟨w.heap.size, 0, none⟩)) ∧ Rd w' w.heap.size 0 ∧ Below w.heap.size w w'
theorem open_rd {w : World} {A : Option Addr} {c : Nat} {zs : List Int} (h : Nums .u8 w A zs) (hl : zs.length ≤ 2000) (hr : ∀ z ∈ zs, 0 ≤ z ∧ z ≤ 255) :
    Rd (w.alloc (.cells #[.slice A zs.length c, .int .i64 0] 65)) w.heap.size 0 := by
  refine ⟨A, c, zs, 0, heap_alloc_new w _, h.alloc _, hl, Nat.le_refl _, hr, fun ad hp ha => ?_⟩
  obtain ⟨b, off, hA, hb, _⟩ := h hp
  rw [hA] at ha
  cases ha
  exact hb

set_option maxHeartbeats 400000 in
theorem open_any (A : Option Addr) (nn c : Nat) (zs : List Int) (w : World) (hn : nn = zs.length) (hc : nn ≤ c) (hm : c ≤ maxLen) (hr : ∀ z ∈ zs, 0 ≤ z ∧ z ≤ 255) (hA : Nums .u8 w A zs) :
    Calls Try.prog 56 #[.slice A nn c] w (OpenPost w) := by
  subst hn
  have hm' : c ≤ 9223372036854775807 := by unfold maxLen at hm; omega
  have HB : Hid (∀ o, Below w.heap.size w (w.alloc o)) := fun o => (Below.refl _ _).alloc (Nat.le_refl _) o
  by_cases hl : 2000 < zs.length
  · have hd : decide ((2000 : Int) < (zs.length : Int)) = true := by simp; omega
    have hlen : (zs.take 2000).length = 2000 := by rw [List.length_take]; omega
    have HR : Hid (Rd (w.alloc (.cells #[.slice A 2000 c, .int .i64 0] 65)) w.heap.size 0) := by
      have := open_rd (c := c) (hA.take 2000) (by omega) (fun z hz => hr z (List.mem_of_mem_take hz))
      rw [hlen] at this
      exact this
    clear hA hr hlen hm
    go_enter Try.func56, Try.ntmps56
    go_wp2
    go_ret
    exact ⟨rfl, HR.out, HB.out _⟩
  · have hd : decide ((2000 : Int) < (zs.length : Int)) = false := by simp; omega
    have HR := Lib.hid (open_rd (c := c) hA (by omega) hr)
    clear hA hr hm
    go_enter Try.func56, Try.ntmps56
    go_wp2
    go_ret
    exact ⟨rfl, HR.out, HB.out _⟩

/-- The greatest set that may be drawn for a number of things. -/
def topOf (t : Int) : Int := if 1 ≤ t ∧ t ≤ 3 then allOf t else 1
theorem topOf_range (t : Int) : 1 ≤ topOf t ∧ topOf t ≤ 255 := by
  unfold topOf allOf; split
  · rename_i h
    have : t = 1 ∨ t = 2 ∨ t = 3 := by omega
    rcases this with rfl | rfl | rfl <;> simp
  · omega

/-- The end of a set's drawing, from the greatest set on. -/
theorem range_set {all x : Int} (h1 : 1 ≤ all) (h2 : all ≤ 255) (hx : x = -1 ∨ x = all + 1) : -1 ≤ x ∧ x ≤ 256 := by omega

set_option maxHeartbeats 2000000 in
theorem set_any (g u : Nat) (t n : Int) (w : World) (hn : n ≤ 1048576) (hn0 : 0 ≤ n) (hu : u ≤ 1000000) (hR : Rd w g u) :
    Calls Try.prog 93 #[.pointer (some ⟨g, 0, none⟩), .int .i64 t, .int .i64 n] w (NumPost (-1) 256 g (u + 8) w) := by
  have HR := Lib.hid hR
  have hlt := hR.lt
  clear hR
  by_cases ht : 1 ≤ t ∧ t ≤ 3
  · obtain ⟨all, HA⟩ : ∃ a, Hid (allOf t = a) := ⟨_, rfl⟩
    have h1 : 1 ≤ all := by
      rw [← HA.out]; unfold allOf
      have : t = 1 ∨ t = 2 ∨ t = 3 := by omega
      rcases this with rfl | rfl | rfl <;> simp
    have h2 : all ≤ 255 := by rw [← HA.out]; have := allOf_lt t; omega
    obtain ⟨ht1, ht2⟩ := ht
    go_enter Try.func93, Try.ntmps93
    go_wp2_with fail
    refine (sIn_yes _ _ _ _ ht1 ht2).mono ?_
    rintro e w' ⟨rfl, rfl⟩
    go_wp2_with fail
    refine (sAll _ _ ht1 ht2).mono ?_
    rintro e w' ⟨rfl, rfl⟩
    rw [HA.out]
    go_wp2_with fail
    refine (odd_any g u n _ hn hn0 (by omega) HR.out).mono ?_
    rintro e w1 ⟨b, rfl, hr, hg⟩
    have hsz := hg.size
    have HR1 := Lib.hid hr
    have HG1 := Lib.hid hg
    clear hr hg
    cases b
    · go_wp2_with fail
      refine (pick_any g (u + 1) _ _ (by omega) (by omega) (by omega) HR1.out).mono ?_
      rintro e w2 ⟨k1, rfl, ha0, ha1, hr, hg⟩
      have hka := ha1 (by omega)
      have HR2 := Lib.hid hr
      have HG2 := Lib.hid (HG1.out.trans hg)
      clear hr hg ha1
      go_wp2_with fail
      refine (pick_any g (u + 2) _ _ (by omega) (by omega) (by omega) HR2.out).mono ?_
      rintro e w3 ⟨k2, rfl, hb0, hb1, hr, hg⟩
      have hkb := hb1 (by omega)
      have HR3 := Lib.hid hr
      have HG3 := Lib.hid (HG2.out.trans hg)
      clear hr hg hb1
      go_wp2_with fail
      refine (pick_any g (u + 3) _ _ (by omega) (by omega) (by omega) HR3.out).mono ?_
      rintro e w4 ⟨k3, rfl, hc0, hc1, hr, hg⟩
      have hkc := hc1 (by omega)
      have HR4 := Lib.hid hr
      have HG4 := Lib.hid (HG3.out.trans hg)
      clear hr hg hc1
      go_wp2_with fail
      refine (sBothS k2 k3 hb0 hkb hc0 hkc _).mono ?_
      rintro e w5 ⟨rfl, n5, rfl⟩
      have hd0 := andI_nonneg k2 k3
      have hd1 := andI_le k2 k3 hb0
      generalize andI k2 k3 = kd at hd0 hd1 ⊢
      go_wp2_with fail
      refine (pick_any g (u + 4) _ _ (by omega) (by omega) (by omega) (by exact HR4.out.drewN n5)).mono ?_
      rintro e w6 ⟨k4, rfl, he0, he1, hr, hg⟩
      have hke := he1 (by omega)
      have HR6 := Lib.hid hr
      have HG6 := Lib.hid ((grown_drewN HG4.out n5).trans hg)
      clear hr hg he1
      go_wp2_with fail
      refine (pick_any g (u + 5) _ _ (by omega) (by omega) (by omega) HR6.out).mono ?_
      rintro e w7 ⟨k5, rfl, hf0, hf1, hr, hg⟩
      have hkf := hf1 (by omega)
      have HR7 := Lib.hid hr
      have HG7 := Lib.hid (HG6.out.trans hg)
      clear hr hg hf1
      go_wp2_with fail
      refine (sEither k4 k5 he0 hke hf0 hkf _).mono ?_
      rintro e w8 ⟨rfl, n8, rfl⟩
      have hg0 := orI_nonneg k4 k5
      have hg1 := orI_lt k4 k5 hke hkf
      generalize orI k4 k5 = kg at hg0 hg1 ⊢
      have hs7 : Hid (w.heap.size ≤ w7.heap.size) := HG7.out.size
      go_wp2_with fail
      refine (pick_any g (u + 6) _ _ (by omega) (by omega) (by omega) (by exact (HR7.out.drewN n8).alloc _)).mono ?_
      rintro e w9 ⟨k, rfl, hk0, hk1, hr, hg⟩
      obtain ⟨x, hx, hcell⟩ := lit_cell (w := w7.drewN n8) [k1, kd, kg] hg (by have := hs7.out; exact Nat.lt_of_lt_of_le hlt this) hk0 (hk1 (by omega))
      have hcell : w9.cell? ⟨w7.heap.size, k.toNat, none⟩ = some (.int .i64 x) := hcell
      have hk5 := hk1 (by omega)
      have HP : Hid (Rd w9 g (u + 8) ∧ w.grownBy w9 (some g)) := ⟨hr.more (by omega), (grown_alloc (grown_drewN HG7.out n8) _).trans hg⟩
      have hx0 : 0 ≤ x := by simp only [List.mem_cons, List.not_mem_nil, or_false] at hx; omega
      have hx1 : x ≤ 255 := by simp only [List.mem_cons, List.not_mem_nil, or_false] at hx; omega
      clear hr hg hx hk1
      go_wp2_with fail
      go_ret
      refine ⟨_, rfl, ?_, ?_, HP.out⟩
      · have := Int.emod_nonneg x (show all + 1 ≠ 0 by omega); omega
      · have := Int.emod_lt_of_pos x (show 0 < all + 1 by omega); omega
    · go_wp2_with fail
      refine (pick_any g (u + 1) _ _ (by omega) (by omega) (by omega) (HR1.out.alloc _)).mono ?_
      rintro e w2 ⟨k, rfl, hk0, hk1, hr, hg⟩
      obtain ⟨x, hx, hcell⟩ := lit_cell [-1, all + 1] hg (by omega) hk0 (hk1 (by omega))
      have hk5 := hk1 (by omega)
      have HP : Hid (Rd w2 g (u + 8) ∧ w.grownBy w2 (some g)) := ⟨hr.more (by omega), (grown_alloc HG1.out _).trans hg⟩
      have HX : Hid (-1 ≤ x ∧ x ≤ 256) := by unfold Hid; simp only [List.mem_cons, List.not_mem_nil, or_false] at hx; omega
      clear hr hg hx hk1
      go_wp2_with fail
      go_ret
      exact ⟨_, rfl, HX.out.1, HX.out.2, HP.out⟩
  · have ht' : t < 1 ∨ 3 < t := by omega
    clear ht
    go_enter Try.func93, Try.ntmps93
    go_wp2_with fail
    refine (sIn_no _ _ _ _ ht').mono ?_
    rintro e w' ⟨rfl, rfl⟩
    go_wp2_with fail
    refine (odd_any g u n _ hn hn0 (by omega) HR.out).mono ?_
    rintro e w1 ⟨b, rfl, hr, hg⟩
    have hsz := hg.size
    have HR1 := Lib.hid hr
    have HG1 := Lib.hid hg
    clear hr hg
    cases b
    · go_wp2_with fail
      refine (pick_any g (u + 1) _ _ (by omega) (by omega) (by omega) HR1.out).mono ?_
      rintro e w2 ⟨k1, rfl, ha0, ha1, hr, hg⟩
      have hka := ha1 (by omega)
      have HR2 := Lib.hid hr
      have HG2 := Lib.hid (HG1.out.trans hg)
      clear hr hg ha1
      go_wp2_with fail
      refine (pick_any g (u + 2) _ _ (by omega) (by omega) (by omega) HR2.out).mono ?_
      rintro e w3 ⟨k2, rfl, hb0, hb1, hr, hg⟩
      have hkb := hb1 (by omega)
      have HR3 := Lib.hid hr
      have HG3 := Lib.hid (HG2.out.trans hg)
      clear hr hg hb1
      go_wp2_with fail
      refine (pick_any g (u + 3) _ _ (by omega) (by omega) (by omega) HR3.out).mono ?_
      rintro e w4 ⟨k3, rfl, hc0, hc1, hr, hg⟩
      have hkc := hc1 (by omega)
      have HR4 := Lib.hid hr
      have HG4 := Lib.hid (HG3.out.trans hg)
      clear hr hg hc1
      go_wp2_with fail
      refine (sBothS k2 k3 hb0 hkb hc0 hkc _).mono ?_
      rintro e w5 ⟨rfl, n5, rfl⟩
      have hd0 := andI_nonneg k2 k3
      have hd1 := andI_le k2 k3 hb0
      generalize andI k2 k3 = kd at hd0 hd1 ⊢
      go_wp2_with fail
      refine (pick_any g (u + 4) _ _ (by omega) (by omega) (by omega) (by exact HR4.out.drewN n5)).mono ?_
      rintro e w6 ⟨k4, rfl, he0, he1, hr, hg⟩
      have hke := he1 (by omega)
      have HR6 := Lib.hid hr
      have HG6 := Lib.hid ((grown_drewN HG4.out n5).trans hg)
      clear hr hg he1
      go_wp2_with fail
      refine (pick_any g (u + 5) _ _ (by omega) (by omega) (by omega) HR6.out).mono ?_
      rintro e w7 ⟨k5, rfl, hf0, hf1, hr, hg⟩
      have hkf := hf1 (by omega)
      have HR7 := Lib.hid hr
      have HG7 := Lib.hid (HG6.out.trans hg)
      clear hr hg hf1
      go_wp2_with fail
      refine (sEither k4 k5 he0 hke hf0 hkf _).mono ?_
      rintro e w8 ⟨rfl, n8, rfl⟩
      have hg0 := orI_nonneg k4 k5
      have hg1 := orI_lt k4 k5 hke hkf
      generalize orI k4 k5 = kg at hg0 hg1 ⊢
      have hs7 : Hid (w.heap.size ≤ w7.heap.size) := HG7.out.size
      go_wp2_with fail
      refine (pick_any g (u + 6) _ _ (by omega) (by omega) (by omega) (by exact (HR7.out.drewN n8).alloc _)).mono ?_
      rintro e w9 ⟨k, rfl, hk0, hk1, hr, hg⟩
      obtain ⟨x, hx, hcell⟩ := lit_cell (w := w7.drewN n8) [k1, kd, kg] hg (by have := hs7.out; exact Nat.lt_of_lt_of_le hlt this) hk0 (hk1 (by omega))
      have hcell : w9.cell? ⟨w7.heap.size, k.toNat, none⟩ = some (.int .i64 x) := hcell
      have hk5 := hk1 (by omega)
      have HP : Hid (Rd w9 g (u + 8) ∧ w.grownBy w9 (some g)) := ⟨hr.more (by omega), (grown_alloc (grown_drewN HG7.out n8) _).trans hg⟩
      have hx0 : 0 ≤ x := by simp only [List.mem_cons, List.not_mem_nil, or_false] at hx; omega
      have hx1 : x ≤ 255 := by simp only [List.mem_cons, List.not_mem_nil, or_false] at hx; omega
      clear hr hg hx hk1
      go_wp2_with fail
      go_ret
      refine ⟨_, rfl, ?_, ?_, HP.out⟩
      · have := Int.emod_nonneg x (show 1 + 1 ≠ 0 by omega); omega
      · have := Int.emod_lt_of_pos x (show 0 < 1 + 1 by omega); omega
    · go_wp2_with fail
      refine (pick_any g (u + 1) _ _ (by omega) (by omega) (by omega) (HR1.out.alloc _)).mono ?_
      rintro e w2 ⟨k, rfl, hk0, hk1, hr, hg⟩
      obtain ⟨x, hx, hcell⟩ := lit_cell [-1, 2] hg (by omega) hk0 (hk1 (by omega))
      have hk5 := hk1 (by omega)
      have HP : Hid (Rd w2 g (u + 8) ∧ w.grownBy w2 (some g)) := ⟨hr.more (by omega), (grown_alloc HG1.out _).trans hg⟩
      have HX : Hid (-1 ≤ x ∧ x ≤ 256) := by unfold Hid; simp only [List.mem_cons, List.not_mem_nil, or_false] at hx; omega
      clear hr hg hx hk1
      go_wp2_with fail
      go_ret
      exact ⟨_, rfl, HX.out.1, HX.out.2, HP.out⟩

end Go.Proofs.Ytfancfjbipjibaa
