/-
  What the proofs of this seat's statements share (Drs, Drt, Shl, MathJ).
-/
import Derived.Deep.RegionWith
import Derived.IntWalk
import Derived.Test.YtobgnbgmpcilgaaU13
import Derived.Test.YtobgnbgmpcilgaaU7
import Derived.Test.YtobgnbgmpcilgaaU9

namespace Go.Proofs.Ytobgnbgmpcilgaa
open Go.RowKit

/-- A new row of strings is still there behind a draw. -/
theorem lit_str {w w' : World} {g : Nat} (xs : List ByteArray) {t : TypeId} (hg : (w.alloc (.cells (xs.map Value.string).toArray t)).grownBy w' (some g)) (hne : g < w.heap.size) {k : Int} (h0 : 0 ≤ k) (hk : k < xs.length) :
    ∃ x : ByteArray, x ∈ xs ∧ w'.cell? ⟨w.heap.size, k.toNat, none⟩ = some (.string x) := by
  have hb : w'.heap[w.heap.size]? = (w.alloc (.cells (xs.map Value.string).toArray t)).heap[w.heap.size]? := hg.block w.heap.size (by simp) (fun e => by injection e; omega)
  have hi : k.toNat < xs.length := by omega
  refine ⟨xs[k.toNat], List.getElem_mem hi, ?_⟩
  have h2 : (w.alloc (.cells (xs.map Value.string).toArray t)).heap[w.heap.size]? = some (.cells (xs.map Value.string).toArray t (0, 0)) := heap_alloc_new w _
  rw [h2] at hb
  rw [cell_of_row w' w.heap.size k.toNat _ t (0, 0) hb]
  simp [hi]
def StrPost (hi : Nat) (g u : Nat) (w : World) (e : Ending) (w' : World) : Prop := ∃ s : ByteArray, e = .returned (.string s) ∧ 1 ≤ s.size ∧ s.size ≤ hi ∧ Rd w' g u ∧ w.grownBy w' (some g)

def words6 : List ByteArray := [⟨#[97]⟩, ⟨#[98]⟩, ⟨#[99]⟩, ⟨#[97]⟩, ⟨#[48]⟩, ⟨#[49]⟩]
theorem words6_size {x : ByteArray} (h : x ∈ words6) : x.size = 1 := by
  simp only [words6, List.mem_cons, List.not_mem_nil, or_false] at h
  rcases h with rfl | rfl | rfl | rfl | rfl | rfl <;> rfl
def words5 : List ByteArray := [⟨#[]⟩, ⟨#[99]⟩, ⟨#[40]⟩, ⟨#[38]⟩, ⟨#[33]⟩]
theorem words5_size {x : ByteArray} (h : x ∈ words5) : x.size ≤ 1 := by
  simp only [words5, List.mem_cons, List.not_mem_nil, or_false] at h
  rcases h with rfl | rfl | rfl | rfl | rfl <;> decide

theorem one_size (b : UInt8) : (ByteArray.mk #[b]).size = 1 := rfl

/-- What the drawing of a word comes to, from the list of words on. -/
def Leaf (deep : Int) (g u : Nat) (t : Int) (w : World) : Prop := Calls Try.prog 61 #[.pointer (some ⟨g, 0, none⟩), .int .i64 t, .int .i64 deep] w (StrPost 1 g (u + 3) w)

set_option maxRecDepth 100000 in
set_option maxHeartbeats 4000000 in
theorem leaf_any (g u : Nat) (t : Int) (w : World) (hu : u ≤ 1000000) (hR : Rd w g u) : Leaf 0 g u t w := by
  have HR := Lib.hid hR
  have hlt := hR.lt
  obtain ⟨m, hm⟩ : ∃ m, max (min t 3) 1 = m := ⟨_, rfl⟩
  have hm1 : 1 ≤ m := by omega
  have hm3 : m ≤ 3 := by omega
  unfold Leaf
  clear hR
  go_enter Try.func61, Try.ntmps61
  go_wp2_with fail
  refine (pick_any g u _ _ (by omega) (by omega) (by omega) (HR.out.alloc _)).mono ?_
  rintro e w1 ⟨k, rfl, hk0, hk1, hr, hg⟩
  have hk8 := hk1 (by omega)
  have hsz : w.heap.size < w1.heap.size := by have := hg.size; simp at this; omega
  obtain ⟨q, hq⟩ : ∃ q, k / 7 = q := ⟨_, rfl⟩
  have hq0 : 0 ≤ q := by omega
  have hq1 : q ≤ 1 := by omega
  have HR1 := Lib.hid hr
  have HG1 := Lib.hid hg
  clear hr hg hk1
  go_wp2_with fail
  refine (pick_any g (u + 1) _ _ (by omega) (by omega) (by omega) HR1.out).mono ?_
  rintro e w2 ⟨k2, rfl, hk20, hk21, hr, hg⟩
  have hk26 := hk21 (by omega)
  obtain ⟨x, hx, hcell⟩ := lit_str words6 (HG1.out.trans hg) hlt hk20 (by simp [words6]; omega)
  have HS := Lib.hid (words6_size hx)
  have hk6 : k2 < 6 := by omega
  have HP : Hid (Rd w2 g (u + 3) ∧ w.grownBy w2 (some g)) := ⟨hr.more (by omega), (grown_alloc (World.grownBy.refl w _) _).trans (HG1.out.trans hg)⟩
  clear hr hg hx hk21
  go_wp2_with fail
  go_ret
  exact ⟨x, rfl, by rw [HS.out]; omega, by rw [HS.out]; omega, HP.out⟩
theorem str_more {hi hi' : Nat} {g u u' : Nat} {w : World} {e : Ending} {w' : World} (h : StrPost hi g u w e w') (h1 : hi ≤ hi') (h2 : u ≤ u') : StrPost hi' g u' w e w' := by
  obtain ⟨s, he, h3, h4, hr, hg⟩ := h
  exact ⟨s, he, h3, by omega, hr.more h2, hg⟩
/-- The drawing of a sentence of some depth: at most so many bytes, so many draws, from so many on. -/
def SentAny (d : Int) (hi us b : Nat) : Prop := ∀ (g u : Nat) (t : Int) (w : World), u ≤ b → Rd w g u → Calls Try.prog 61 #[.pointer (some ⟨g, 0, none⟩), .int .i64 t, .int .i64 d] w (StrPost hi g (u + us) w)
theorem sent0_any : SentAny 0 1 3 1000000 := fun g u t w hu hR => leaf_any g u t w (by omega) hR

set_option maxRecDepth 100000 in
set_option maxHeartbeats 8000000 in
theorem sent1_any : SentAny 1 5 11 950000 := by
  intro g u t w hu hR
  have HR := Lib.hid hR
  have hlt := hR.lt
  clear hR
  obtain ⟨m, hm⟩ : ∃ m, max (min t 3) 1 = m := ⟨_, rfl⟩
  have hm1 : 1 ≤ m := by omega
  have hm3 : m ≤ 3 := by omega
  go_enter Try.func61, Try.ntmps61
  go_wp2_with fail
  refine (pick_any g u _ _ (by omega) (by omega) (by omega) HR.out).mono ?_
  rintro e w0 ⟨k0, rfl, hk00, hk01, hr, hg⟩
  have hk04 := hk01 (by omega)
  have hlt0 : g < w0.heap.size := hr.lt
  have HR0 := Lib.hid hr
  have HG0 := Lib.hid hg
  clear hr hg hk01
  by_cases hz : k0 = 0
  · subst hz
    go_wp2_with fail
    refine (pick_any g (u + 1) _ _ (by omega) (by omega) (by omega) (HR0.out.alloc _)).mono ?_
    rintro e w1 ⟨k, rfl, hk0, hk1, hr, hg⟩
    have hk8 := hk1 (by omega)
    have hsz : w0.heap.size < w1.heap.size := by have := hg.size; simp at this; omega
    obtain ⟨q, hq⟩ : ∃ q, k / 7 = q := ⟨_, rfl⟩
    have hq0 : 0 ≤ q := by omega
    have hq1 : q ≤ 1 := by omega
    have HR1 := Lib.hid hr
    have HG1 := Lib.hid hg
    clear hr hg hk1
    go_wp2_with fail
    refine (pick_any g (u + 2) _ _ (by omega) (by omega) (by omega) HR1.out).mono ?_
    rintro e w2 ⟨k2, rfl, hk20, hk21, hr, hg⟩
    have hk26 := hk21 (by omega)
    obtain ⟨x, hx, hcell⟩ := lit_str words6 (HG1.out.trans hg) hlt0 hk20 (by simp [words6]; omega)
    have HS := Lib.hid (words6_size hx)
    have hk6 : k2 < 6 := by omega
    have HP : Hid (Rd w2 g (u + 11) ∧ w.grownBy w2 (some g)) := ⟨hr.more (by omega), (grown_alloc HG0.out _).trans (HG1.out.trans hg)⟩
    clear hr hg hx hk21
    go_wp2_with fail
    go_ret
    exact ⟨x, rfl, by rw [HS.out]; omega, by rw [HS.out]; omega, HP.out⟩
  · have hzb : (k0 == 0) = false := by rw [beq_eq_false_iff_ne]; exact hz
    clear hz
    go_wp2_with fail
    refine (pick_any g (u + 1) _ _ (by omega) (by omega) (by omega) HR0.out).mono ?_
    rintro e w1 ⟨k, rfl, hk0, hk1, hr, hg⟩
    have hk6 := hk1 (by omega)
    have HR1 := Lib.hid hr
    have HG1 := Lib.hid (HG0.out.trans hg)
    clear hr hg hk1
    have h6 : k = 0 ∨ k = 1 ∨ k = 2 ∨ k = 3 ∨ k = 4 ∨ k = 5 := by omega
    clear hk0 hk6
    rcases h6 with rfl | rfl | rfl | rfl | rfl | rfl
    · go_wp2_with fail
      refine (sent0_any g (u + 2) t _ (by omega) HR1.out).mono ?_
      rintro e w2 ⟨s1, rfl, hs1, hs2, hr, hg⟩
      have HP : Hid (Rd w2 g (u + 11) ∧ w.grownBy w2 (some g)) := ⟨hr.more (by omega), HG1.out.trans hg⟩
      clear hr hg
      go_wp2_with fail
      go_ret
      exact ⟨_, rfl, by simp only [ByteArray.size_append, one_size]; omega, by simp only [ByteArray.size_append, one_size]; omega, HP.out⟩
    · go_wp2_with fail
      refine (sent0_any g (u + 2) t _ (by omega) HR1.out).mono ?_
      rintro e w2 ⟨s1, rfl, hs1, hs2, hr, hg⟩
      have HP : Hid (Rd w2 g (u + 11) ∧ w.grownBy w2 (some g)) := ⟨hr.more (by omega), HG1.out.trans hg⟩
      clear hr hg
      go_wp2_with fail
      go_ret
      exact ⟨_, rfl, by simp only [ByteArray.size_append, one_size]; omega, by simp only [ByteArray.size_append, one_size]; omega, HP.out⟩
    · go_wp2_with fail
      refine (sent0_any g (u + 2) t _ (by omega) HR1.out).mono ?_
      rintro e w2 ⟨s1, rfl, hs1, hs2, hr, hg⟩
      have HR2 := Lib.hid hr
      have HG2 := Lib.hid (HG1.out.trans hg)
      clear hr hg
      go_wp2_with fail
      refine (sent0_any g (u + 2 + 3) t _ (by omega) HR2.out).mono ?_
      rintro e w3 ⟨s2, rfl, hs3, hs4, hr, hg⟩
      have HP : Hid (Rd w3 g (u + 11) ∧ w.grownBy w3 (some g)) := ⟨hr.more (by omega), HG2.out.trans hg⟩
      clear hr hg
      go_wp2_with fail
      go_ret
      exact ⟨_, rfl, by simp only [ByteArray.size_append, one_size]; omega, by simp only [ByteArray.size_append, one_size]; omega, HP.out⟩
    · go_wp2_with fail
      refine (sent0_any g (u + 2) t _ (by omega) HR1.out).mono ?_
      rintro e w2 ⟨s1, rfl, hs1, hs2, hr, hg⟩
      have HR2 := Lib.hid hr
      have HG2 := Lib.hid (HG1.out.trans hg)
      clear hr hg
      go_wp2_with fail
      refine (sent0_any g (u + 2 + 3) t _ (by omega) HR2.out).mono ?_
      rintro e w3 ⟨s2, rfl, hs3, hs4, hr, hg⟩
      have HP : Hid (Rd w3 g (u + 11) ∧ w.grownBy w3 (some g)) := ⟨hr.more (by omega), HG2.out.trans hg⟩
      clear hr hg
      go_wp2_with fail
      go_ret
      exact ⟨_, rfl, by simp only [ByteArray.size_append, one_size]; omega, by simp only [ByteArray.size_append, one_size]; omega, HP.out⟩
    · go_wp2_with fail
      refine (sent0_any g (u + 2) t _ (by omega) HR1.out).mono ?_
      rintro e w2 ⟨s1, rfl, hs1, hs2, hr, hg⟩
      have HR2 := Lib.hid hr
      have HG2 := Lib.hid (HG1.out.trans hg)
      clear hr hg
      go_wp2_with fail
      refine (sent0_any g (u + 2 + 3) t _ (by omega) HR2.out).mono ?_
      rintro e w3 ⟨s2, rfl, hs3, hs4, hr, hg⟩
      have HP : Hid (Rd w3 g (u + 11) ∧ w.grownBy w3 (some g)) := ⟨hr.more (by omega), HG2.out.trans hg⟩
      clear hr hg
      go_wp2_with fail
      go_ret
      exact ⟨_, rfl, by simp only [ByteArray.size_append, one_size]; omega, by simp only [ByteArray.size_append, one_size]; omega, HP.out⟩
    · go_wp2_with fail
      refine (sent0_any g (u + 2) t _ (by omega) HR1.out).mono ?_
      rintro e w2 ⟨s1, rfl, hs1, hs2, hr, hg⟩
      have HR2 := Lib.hid hr
      have HG2 := Lib.hid (HG1.out.trans hg)
      clear hr hg
      go_wp2_with fail
      refine (sent0_any g (u + 2 + 3) t _ (by omega) HR2.out).mono ?_
      rintro e w3 ⟨s2, rfl, hs3, hs4, hr, hg⟩
      have HP : Hid (Rd w3 g (u + 11) ∧ w.grownBy w3 (some g)) := ⟨hr.more (by omega), HG2.out.trans hg⟩
      clear hr hg
      go_wp2_with fail
      go_ret
      exact ⟨_, rfl, by simp only [ByteArray.size_append, one_size]; omega, by simp only [ByteArray.size_append, one_size]; omega, HP.out⟩
set_option maxRecDepth 100000 in
set_option maxHeartbeats 8000000 in
theorem sent2_any : SentAny 2 13 27 900000 := by
  intro g u t w hu hR
  have HR := Lib.hid hR
  have hlt := hR.lt
  clear hR
  obtain ⟨m, hm⟩ : ∃ m, max (min t 3) 1 = m := ⟨_, rfl⟩
  have hm1 : 1 ≤ m := by omega
  have hm3 : m ≤ 3 := by omega
  go_enter Try.func61, Try.ntmps61
  go_wp2_with fail
  refine (pick_any g u _ _ (by omega) (by omega) (by omega) HR.out).mono ?_
  rintro e w0 ⟨k0, rfl, hk00, hk01, hr, hg⟩
  have hk04 := hk01 (by omega)
  have hlt0 : g < w0.heap.size := hr.lt
  have HR0 := Lib.hid hr
  have HG0 := Lib.hid hg
  clear hr hg hk01
  by_cases hz : k0 = 0
  · subst hz
    go_wp2_with fail
    refine (pick_any g (u + 1) _ _ (by omega) (by omega) (by omega) (HR0.out.alloc _)).mono ?_
    rintro e w1 ⟨k, rfl, hk0, hk1, hr, hg⟩
    have hk8 := hk1 (by omega)
    have hsz : w0.heap.size < w1.heap.size := by have := hg.size; simp at this; omega
    obtain ⟨q, hq⟩ : ∃ q, k / 7 = q := ⟨_, rfl⟩
    have hq0 : 0 ≤ q := by omega
    have hq1 : q ≤ 1 := by omega
    have HR1 := Lib.hid hr
    have HG1 := Lib.hid hg
    clear hr hg hk1
    go_wp2_with fail
    refine (pick_any g (u + 2) _ _ (by omega) (by omega) (by omega) HR1.out).mono ?_
    rintro e w2 ⟨k2, rfl, hk20, hk21, hr, hg⟩
    have hk26 := hk21 (by omega)
    obtain ⟨x, hx, hcell⟩ := lit_str words6 (HG1.out.trans hg) hlt0 hk20 (by simp [words6]; omega)
    have HS := Lib.hid (words6_size hx)
    have hk6 : k2 < 6 := by omega
    have HP : Hid (Rd w2 g (u + 27) ∧ w.grownBy w2 (some g)) := ⟨hr.more (by omega), (grown_alloc HG0.out _).trans (HG1.out.trans hg)⟩
    clear hr hg hx hk21
    go_wp2_with fail
    go_ret
    exact ⟨x, rfl, by rw [HS.out]; omega, by rw [HS.out]; omega, HP.out⟩
  · have hzb : (k0 == 0) = false := by rw [beq_eq_false_iff_ne]; exact hz
    clear hz
    go_wp2_with fail
    refine (pick_any g (u + 1) _ _ (by omega) (by omega) (by omega) HR0.out).mono ?_
    rintro e w1 ⟨k, rfl, hk0, hk1, hr, hg⟩
    have hk6 := hk1 (by omega)
    have HR1 := Lib.hid hr
    have HG1 := Lib.hid (HG0.out.trans hg)
    clear hr hg hk1
    have h6 : k = 0 ∨ k = 1 ∨ k = 2 ∨ k = 3 ∨ k = 4 ∨ k = 5 := by omega
    clear hk0 hk6
    rcases h6 with rfl | rfl | rfl | rfl | rfl | rfl
    · go_wp2_with fail
      refine (sent1_any g (u + 2) t _ (by omega) HR1.out).mono ?_
      rintro e w2 ⟨s1, rfl, hs1, hs2, hr, hg⟩
      have HP : Hid (Rd w2 g (u + 27) ∧ w.grownBy w2 (some g)) := ⟨hr.more (by omega), HG1.out.trans hg⟩
      clear hr hg
      go_wp2_with fail
      go_ret
      exact ⟨_, rfl, by simp only [ByteArray.size_append, one_size]; omega, by simp only [ByteArray.size_append, one_size]; omega, HP.out⟩
    · go_wp2_with fail
      refine (sent1_any g (u + 2) t _ (by omega) HR1.out).mono ?_
      rintro e w2 ⟨s1, rfl, hs1, hs2, hr, hg⟩
      have HP : Hid (Rd w2 g (u + 27) ∧ w.grownBy w2 (some g)) := ⟨hr.more (by omega), HG1.out.trans hg⟩
      clear hr hg
      go_wp2_with fail
      go_ret
      exact ⟨_, rfl, by simp only [ByteArray.size_append, one_size]; omega, by simp only [ByteArray.size_append, one_size]; omega, HP.out⟩
    · go_wp2_with fail
      refine (sent1_any g (u + 2) t _ (by omega) HR1.out).mono ?_
      rintro e w2 ⟨s1, rfl, hs1, hs2, hr, hg⟩
      have HR2 := Lib.hid hr
      have HG2 := Lib.hid (HG1.out.trans hg)
      clear hr hg
      go_wp2_with fail
      refine (sent1_any g (u + 2 + 11) t _ (by omega) HR2.out).mono ?_
      rintro e w3 ⟨s2, rfl, hs3, hs4, hr, hg⟩
      have HP : Hid (Rd w3 g (u + 27) ∧ w.grownBy w3 (some g)) := ⟨hr.more (by omega), HG2.out.trans hg⟩
      clear hr hg
      go_wp2_with fail
      go_ret
      exact ⟨_, rfl, by simp only [ByteArray.size_append, one_size]; omega, by simp only [ByteArray.size_append, one_size]; omega, HP.out⟩
    · go_wp2_with fail
      refine (sent1_any g (u + 2) t _ (by omega) HR1.out).mono ?_
      rintro e w2 ⟨s1, rfl, hs1, hs2, hr, hg⟩
      have HR2 := Lib.hid hr
      have HG2 := Lib.hid (HG1.out.trans hg)
      clear hr hg
      go_wp2_with fail
      refine (sent1_any g (u + 2 + 11) t _ (by omega) HR2.out).mono ?_
      rintro e w3 ⟨s2, rfl, hs3, hs4, hr, hg⟩
      have HP : Hid (Rd w3 g (u + 27) ∧ w.grownBy w3 (some g)) := ⟨hr.more (by omega), HG2.out.trans hg⟩
      clear hr hg
      go_wp2_with fail
      go_ret
      exact ⟨_, rfl, by simp only [ByteArray.size_append, one_size]; omega, by simp only [ByteArray.size_append, one_size]; omega, HP.out⟩
    · go_wp2_with fail
      refine (sent1_any g (u + 2) t _ (by omega) HR1.out).mono ?_
      rintro e w2 ⟨s1, rfl, hs1, hs2, hr, hg⟩
      have HR2 := Lib.hid hr
      have HG2 := Lib.hid (HG1.out.trans hg)
      clear hr hg
      go_wp2_with fail
      refine (sent1_any g (u + 2 + 11) t _ (by omega) HR2.out).mono ?_
      rintro e w3 ⟨s2, rfl, hs3, hs4, hr, hg⟩
      have HP : Hid (Rd w3 g (u + 27) ∧ w.grownBy w3 (some g)) := ⟨hr.more (by omega), HG2.out.trans hg⟩
      clear hr hg
      go_wp2_with fail
      go_ret
      exact ⟨_, rfl, by simp only [ByteArray.size_append, one_size]; omega, by simp only [ByteArray.size_append, one_size]; omega, HP.out⟩
    · go_wp2_with fail
      refine (sent1_any g (u + 2) t _ (by omega) HR1.out).mono ?_
      rintro e w2 ⟨s1, rfl, hs1, hs2, hr, hg⟩
      have HR2 := Lib.hid hr
      have HG2 := Lib.hid (HG1.out.trans hg)
      clear hr hg
      go_wp2_with fail
      refine (sent1_any g (u + 2 + 11) t _ (by omega) HR2.out).mono ?_
      rintro e w3 ⟨s2, rfl, hs3, hs4, hr, hg⟩
      have HP : Hid (Rd w3 g (u + 27) ∧ w.grownBy w3 (some g)) := ⟨hr.more (by omega), HG2.out.trans hg⟩
      clear hr hg
      go_wp2_with fail
      go_ret
      exact ⟨_, rfl, by simp only [ByteArray.size_append, one_size]; omega, by simp only [ByteArray.size_append, one_size]; omega, HP.out⟩
end Go.Proofs.Ytobgnbgmpcilgaa

namespace Go.Proofs.Ytobgnbgmpcilgaa
open Go.RowKit

def TextPost (g u : Nat) (w : World) (e : Ending) (w' : World) : Prop := ∃ (t : Int) (s : ByteArray), e = .returned (.tuple #[.int .i64 t, .string s]) ∧ -1 ≤ t ∧ t ≤ 4 ∧ s.size ≤ 20 ∧ Rd w' g (u + 40) ∧ w.grownBy w' (some g)
theorem lit_here {k : Int} (h0 : 0 ≤ k) (hk : k < 5) : ∃ x : ByteArray, x ∈ words5 ∧ ∀ h, [Value.string ⟨#[]⟩, .string ⟨#[99]⟩, .string ⟨#[40]⟩, .string ⟨#[38]⟩, .string ⟨#[33]⟩][k.toNat]'h = .string x := by
  have h5 : k = 0 ∨ k = 1 ∨ k = 2 ∨ k = 3 ∨ k = 4 := by omega
  rcases h5 with rfl | rfl | rfl | rfl | rfl
  · exact ⟨_, List.mem_cons_self, fun _ => rfl⟩
  · exact ⟨_, List.mem_cons_of_mem _ List.mem_cons_self, fun _ => rfl⟩
  · exact ⟨_, List.mem_cons_of_mem _ (List.mem_cons_of_mem _ List.mem_cons_self), fun _ => rfl⟩
  · exact ⟨_, List.mem_cons_of_mem _ (List.mem_cons_of_mem _ (List.mem_cons_of_mem _ List.mem_cons_self)), fun _ => rfl⟩
  · exact ⟨_, List.mem_cons_of_mem _ (List.mem_cons_of_mem _ (List.mem_cons_of_mem _ (List.mem_cons_of_mem _ List.mem_cons_self))), fun _ => rfl⟩
theorem lit_drew {w w' : World} {g : Nat} (xs : List ByteArray) {t : TypeId} (hg : (w.alloc (.cells (xs.map Value.string).toArray t)).drew.grownBy w' (some g)) (hne : g < w.heap.size) {k : Int} (h0 : 0 ≤ k) (hk : k < xs.length) :
    ∃ x : ByteArray, x ∈ xs ∧ w'.cell? ⟨w.heap.size, k.toNat, none⟩ = some (.string x) := by
  have hg' : (w.alloc (.cells (xs.map Value.string).toArray t)).grownBy w' (some g) := (grown_drewN (World.grownBy.refl _ _) 1).trans hg
  exact lit_str xs hg' hne h0 hk
theorem text_last {w w4 w' : World} {g u u' : Nat} {o : Obj} (h : w.grownBy w4 (some g)) (hr : Rd w' g u) (hg : (w4.alloc o).drew.grownBy w' (some g)) (hu : u ≤ u') : Rd w' g u' ∧ w.grownBy w' (some g) :=
  ⟨hr.more hu, (grown_drewN (grown_alloc h _) 1).trans hg⟩
theorem text_last2 {w w4 w' : World} {g u u' : Nat} (h : w.grownBy w4 (some g)) (hr : Rd w' g u) (hg : w4.drew.grownBy w' (some g)) (hu : u ≤ u') (o : Obj) : Rd (w'.alloc o) g u' ∧ w.grownBy (w'.alloc o) (some g) :=
  ⟨(hr.more hu).alloc o, grown_alloc ((grown_drewN h 1).trans hg) o⟩

end Go.Proofs.Ytobgnbgmpcilgaa

namespace Go.Proofs.Ytobgnbgmpcilgaa
open Go.RowKit

theorem bytesN_append (a b : ByteArray) : bytesN (a ++ b) = bytesN a ++ bytesN b := by
  unfold bytesN
  rw [ByteArray.data_append, Array.toList_append, List.map_append]
theorem bytesN_lit (l : List UInt8) : bytesN ⟨l.toArray⟩ = l.map UInt8.toNat := rfl
theorem senT_of {t : Int} {s : ByteArray} {x : Sen} (h1 : 1 ≤ t) (h3 : t ≤ 3) (hl : s.size ≤ 60) (hx : senOk t x = true) (hb : bytesN s = textS x) : senT t s = some x :=
  senOf_iff.2 ⟨h1, h3, by rw [bytesN_len]; exact hl, hx, hb⟩
theorem size1 (b : UInt8) : (ByteArray.mk #[b]).size = 1 := rfl
theorem size2 (b c : UInt8) : (ByteArray.mk #[b, c]).size = 2 := rfl
theorem senT_no {t : Int} {s : ByteArray} {x : Sen} (h : senT t s = some x) (hl : s.size < 60) : senT t (⟨#[33]⟩ ++ s) = some (.no x) := by
  obtain ⟨h1, h3, _, hx, hb⟩ := senT_ok h
  refine senT_of h1 h3 (by rw [ByteArray.size_append, size1]; omega) hx ?_
  rw [bytesN_append, hb]; rfl
theorem senT_nono {t : Int} {s : ByteArray} {x : Sen} (h : senT t s = some x) (hl : s.size < 59) : senT t (⟨#[33, 33]⟩ ++ s) = some (.no (.no x)) := by
  obtain ⟨h1, h3, _, hx, hb⟩ := senT_ok h
  refine senT_of h1 h3 (by rw [ByteArray.size_append, size2]; omega) hx ?_
  rw [bytesN_append, hb]; rfl
theorem senT_ask {t : Int} {s : ByteArray} {x : Sen} (h : senT t s = some x) (hl : s.size < 60) : senT t (⟨#[63]⟩ ++ s) = some (.ask x) := by
  obtain ⟨h1, h3, _, hx, hb⟩ := senT_ok h
  refine senT_of h1 h3 (by rw [ByteArray.size_append, size1]; omega) hx ?_
  rw [bytesN_append, hb]; rfl
theorem senT_if {t : Int} {s u : ByteArray} {x y : Sen} (h : senT t s = some x) (hu : senT t u = some y) (hl : s.size + u.size < 58) : senT t (⟨#[40]⟩ ++ s ++ ⟨#[62]⟩ ++ u ++ ⟨#[41]⟩) = some (.if_ x y) := by
  obtain ⟨h1, h3, _, hx, hb⟩ := senT_ok h
  obtain ⟨_, _, _, hy, hc⟩ := senT_ok hu
  refine senT_of h1 h3 (by simp only [ByteArray.size_append, size1]; omega) (by unfold senOk; rw [hx, hy]; rfl) ?_
  simp only [bytesN_append, hb, hc, textS, List.append_assoc]; rfl

theorem issueT_ok {t : Int} {s : ByteArray} {x : Sen} (h : senT t s = some x) : issueOkB t (issueT t s) = true := by
  obtain ⟨h1, h3, _, _, _⟩ := senT_ok h
  rw [(issueT_some h).1]; exact sen_issue h1 h3 x
theorem issueT_len (t : Int) (s : ByteArray) : (issueT t s).length ≤ 70 := by
  rcases h : senT t s with _ | x
  · rw [(issueT_none h).1]; simp
  · exact (issue_ne (issueT_ok h)).2
theorem issueT_nono {t : Int} {s : ByteArray} {x : Sen} (h : senT t s = some x) (hl : s.size < 59) : issueT t (⟨#[33, 33]⟩ ++ s) = [unionI (issueT t s)] := by
  rw [(issueT_some (senT_nono h hl)).1, (issueT_some h).1]
  obtain ⟨h1, h3, _, _, _⟩ := senT_ok h
  exact law_notnot (sen_issue h1 h3 x)
theorem issueT_ask {t : Int} {s : ByteArray} {x : Sen} (h : senT t s = some x) (hl : s.size < 60) : grantedI t (issueT t (⟨#[63]⟩ ++ s)) = allOf t := by
  rw [granted_ok (issueT_ok (senT_ask h hl)), (issueT_some (senT_ask h hl)).1]
  obtain ⟨h1, h3, _, _, _⟩ := senT_ok h
  exact law_whether_all (sen_issue h1 h3 x)
theorem statement_union {t : Int} {xs : List Int} (h : issueOkB t xs = true) : statementL t (unionI xs) = [unionI xs] := by
  unfold statementL; rw [union_ok h]; rfl
theorem supports_settles {t k : Int} {s : ByteArray} {x : Sen} (h : senT t s = some x) (hk : setOkB t k = true) : settlesB t (issueT t s) k = supportsT t k s := by
  obtain ⟨h1, h3, _, _, _⟩ := senT_ok h
  obtain ⟨_, _, h0, ha, _⟩ := setOkB_lt hk
  rw [settles_any (issueT_ok h) h0 ha, (issueT_some h).1, ← support_settle h1 h3 x k h0 ha]
  unfold supportsT
  rw [h]; simp only [hk, Bool.true_and]
theorem supports_down {t k : Int} {s : ByteArray} (h : supportsT t k s = true) (b : Int) : supportsT t (andI k b) s = true := by
  rcases hx : senT t s with _ | x
  · unfold supportsT at h; rw [hx] at h; cases h
  obtain ⟨h1, h3, _, _, _⟩ := senT_ok hx
  have hk : setOkB t k = true := by unfold supportsT at h; rw [hx] at h; simp only [Bool.and_eq_true] at h; exact h.1
  obtain ⟨_, _, h0, ha, _⟩ := setOkB_lt hk
  have hk2 : setOkB t (andI k b) = true := andI_ok hk
  obtain ⟨_, _, g0, ga, _⟩ := setOkB_lt hk2
  rw [← supports_settles hx hk, settles_any (issueT_ok hx) h0 ha] at h
  rw [← supports_settles hx hk2, settles_any (issueT_ok hx) g0 ga]
  exact any_down g0 h0 (within_andI_left k b) h
theorem plain_some {t : Int} {s : ByteArray} (h : plainT t s = true) : ∃ x, senT t s = some x ∧ plainS x = true := by
  unfold plainT at h
  rcases hx : senT t s with _ | x
  · rw [hx] at h; cases h
  · rw [hx] at h; exact ⟨x, rfl, h⟩
theorem trueT_some {t : Int} {s : ByteArray} {x : Sen} (h : senT t s = some x) : trueT t s = unionI (issueT t s) := by
  obtain ⟨h1, h3, _, _, _⟩ := senT_ok h
  unfold trueT; rw [h, (issueT_some h).1]; exact true_granted h1 h3 x
theorem trueT_none {t : Int} {s : ByteArray} (h : senT t s = none) : trueT t s = -1 := by unfold trueT; rw [h]
theorem plain_law {t : Int} {s : ByteArray} (h : plainT t s = true) : statementL t (trueT t s) = issueT t s := by
  obtain ⟨x, hx, hp⟩ := plain_some h
  obtain ⟨h1, h3, _, _, _⟩ := senT_ok hx
  rw [trueT_some hx, statement_union (issueT_ok hx), (issueT_some hx).1]
  exact (plain_granted h1 h3 hp).symm
theorem true_no {t : Int} {s : ByteArray} {x : Sen} (h : senT t s = some x) (hl : s.size < 60) : trueT t (⟨#[33]⟩ ++ s) = allOf t - trueT t s := by
  obtain ⟨h1, h3, _, _, _⟩ := senT_ok h
  have hi := sen_issue h1 h3 x
  rw [trueT_some h, trueT_some (senT_no h hl), (issueT_some (senT_no h hl)).1, (issueT_some h).1]
  show unionI (notL t (issueS t x)) = _
  have := union_all hi
  rw [law_not hi, union_one (by omega)]
theorem true_range {t : Int} {s : ByteArray} {x : Sen} (h : senT t s = some x) : 0 ≤ trueT t s ∧ trueT t s ≤ allOf t := by
  rw [trueT_some h]; exact union_all (issueT_ok h)
theorem entails_some {t : Int} {s u : ByteArray} {x y : Sen} (h : senT t s = some x) (hu : senT t u = some y) : entailsT t s u = followsB t (issueT t s) (issueT t u) := by
  unfold entailsT; rw [h, hu, (issueT_some h).1, (issueT_some hu).1]
theorem entails_within {t : Int} {s u : ByteArray} (h : entailsT t s u = true) : withinB (trueT t s) (trueT t u) = true := by
  rcases hx : senT t s with _ | x
  · unfold entailsT at h; rw [hx] at h; cases h
  rcases hy : senT t u with _ | y
  · unfold entailsT at h; rw [hx, hy] at h; cases h
  rw [entails_some hx hy] at h
  rw [trueT_some hx, trueT_some hy]
  exact follows_union (issueT_ok hx) (issueT_ok hy) h
theorem entails_supports {t : Int} {s u : ByteArray} {x y : Sen} (h : senT t s = some x) (hu : senT t u = some y) (hl : s.size + u.size < 58) :
    supportsT t (allOf t) (⟨#[40]⟩ ++ s ++ ⟨#[62]⟩ ++ u ++ ⟨#[41]⟩) = entailsT t s u := by
  obtain ⟨h1, h3, _, _, _⟩ := senT_ok h
  unfold supportsT
  rw [senT_if h hu hl]
  show (setOkB t (allOf t) && holdsS t (.if_ x y) (allOf t)) = _
  rw [setOk_of h1 h3 (allOf_lt t).1 (Int.le_refl _), Bool.true_and, entails_if h1 h3, entails_some h hu, (issueT_some h).1, (issueT_some hu).1]
theorem entails_no {t : Int} {s u : ByteArray} (h : senT t s = none ∨ senT t u = none) : entailsT t s u = false := by
  unfold entailsT
  rcases h with h | h
  · rw [h]
  · rw [h]; cases senT t s <;> rfl

theorem sSupportsT_is {t k : Int} {s : ByteArray} {b : Bool} (h : Hid (supportsT t k s = b)) (w : World) (hs : s.size ≤ 9223372036854775807) :
    Calls Try.prog 82 #[.int .i64 t, .int .i64 k, .string s] w fun e w' => e = .returned (.bool b) ∧ Below w.heap.size w w' := by
  have := sSupportsT t k s w hs
  rw [h.out] at this; exact this
theorem sTrueIn_is {t : Int} {s : ByteArray} {b : Int} (h : Hid (trueT t s = b)) (w : World) (hs : s.size ≤ 9223372036854775807) :
    Calls Try.prog 74 #[.int .i64 t, .string s] w fun e w' => e = .returned (.int .i64 b) ∧ Below w.heap.size w w' := by
  have := sTrueIn t s w hs
  rw [h.out] at this; exact this
end Go.Proofs.Ytobgnbgmpcilgaa

namespace Go.Proofs.Ytobgnbgmpcilgaa
open Go.RowKit

abbrev WS := Nat → Bool
def yesF (s q : WS) : WS := fun w => s w && q w
def noF (s q : WS) : WS := fun w => s w && !q w
def subF (s t : WS) : Prop := ∀ w, s w = true → t w = true
theorem yes_sub {s t : WS} (h : subF s t) (q : WS) : subF (yesF s q) (yesF t q) := fun w hw => by
  unfold yesF at *
  rw [Bool.and_eq_true] at hw ⊢
  exact ⟨h w hw.1, hw.2⟩
theorem no_sub {s t : WS} (h : subF s t) (q : WS) : subF (noF s q) (noF t q) := fun w hw => by
  unfold noF at *
  rw [Bool.and_eq_true] at hw ⊢
  exact ⟨h w hw.1, hw.2⟩
theorem yes_less (s q : WS) : subF (yesF s q) s := fun w hw => by unfold yesF at hw; rw [Bool.and_eq_true] at hw; exact hw.1
theorem no_less (s q : WS) : subF (noF s q) s := fun w hw => by unfold noF at hw; rw [Bool.and_eq_true] at hw; exact hw.1
theorem yes_yes (s q : WS) : yesF (yesF s q) q = yesF s q := by funext w; simp only [yesF]; cases s w <;> cases q w <;> rfl
theorem no_no (s q : WS) : noF (noF s q) q = noF s q := by funext w; simp only [noF]; cases s w <;> cases q w <;> rfl
theorem yes_swap (s p q : WS) : yesF (yesF s p) q = yesF (yesF s q) p := by funext w; simp only [yesF]; cases s w <;> cases p w <;> cases q w <;> rfl
theorem no_swap (s p q : WS) : noF (noF s p) q = noF (noF s q) p := by funext w; simp only [noF]; cases s w <;> cases p w <;> cases q w <;> rfl
theorem yes_no (s p q : WS) : noF (yesF s p) q = yesF (noF s q) p := by funext w; simp only [yesF, noF]; cases s w <;> cases p w <;> cases q w <;> rfl

section
variable (St : WS → Prop) (asks : List WS)
/-- So many questions settle it, whatever the answers are. -/
def canF : Nat → WS → Prop
  | 0, s => St s
  | d + 1, s => St s ∨ ∃ q ∈ asks, canF d (yesF s q) ∧ canF d (noF s q)
/-- All questions of a list, one behind the other, settle it. -/
def allF : List WS → WS → Prop
  | [], s => St s
  | q :: qs, s => allF qs (yesF s q) ∧ allF qs (noF s q)
end
section
variable {St : WS → Prop} {asks : List WS}
theorem can_step : ∀ {d : Nat} {s : WS}, canF St asks d s → canF St asks (d + 1) s
  | 0, _, h => .inl h
  | d + 1, s, h => by
    rcases h with h | ⟨q, hq, h1, h2⟩
    · exact .inl h
    · exact .inr ⟨q, hq, can_step h1, can_step h2⟩
theorem can_le {d e : Nat} (hde : d ≤ e) {s : WS} (h : canF St asks d s) : canF St asks e s := by
  induction hde with
  | refl => exact h
  | step _ ih => exact can_step ih
theorem can_sub (hdown : ∀ s t, subF s t → St t → St s) : ∀ {d : Nat} {s t : WS}, subF s t → canF St asks d t → canF St asks d s
  | 0, s, t, hs, h => hdown s t hs h
  | d + 1, s, t, hs, h => by
    rcases h with h | ⟨q, hq, h1, h2⟩
    · exact .inl (hdown s t hs h)
    · exact .inr ⟨q, hq, can_sub hdown (yes_sub hs q) h1, can_sub hdown (no_sub hs q) h2⟩
theorem can_more {asks' : List WS} (ha : ∀ q ∈ asks, q ∈ asks') : ∀ {d : Nat} {s : WS}, canF St asks d s → canF St asks' d s
  | 0, _, h => h
  | d + 1, s, h => by
    rcases h with h | ⟨q, hq, h1, h2⟩
    · exact .inl h
    · exact .inr ⟨q, ha q hq, can_more ha h1, can_more ha h2⟩
theorem all_of_settled (hdown : ∀ s t, subF s t → St t → St s) : ∀ (qs : List WS) {s : WS}, St s → allF St qs s
  | [], _, h => h
  | q :: qs, s, h => ⟨all_of_settled hdown qs (hdown _ s (yes_less s q) h), all_of_settled hdown qs (hdown _ s (no_less s q) h)⟩
theorem all_join : ∀ (qs : List WS) {s q : WS}, q ∈ qs → allF St qs (yesF s q) → allF St qs (noF s q) → allF St qs s
  | [], _, _, hq, _, _ => by cases hq
  | p :: ps, s, q, hq, h1, h2 => by
    obtain ⟨a1, a2⟩ := h1
    obtain ⟨b1, b2⟩ := h2
    by_cases hp : q ∈ ps
    · exact ⟨all_join ps hp (by rw [yes_swap]; exact a1) (by rw [yes_no]; exact b1), all_join ps hp (by rw [← yes_no]; exact a2) (by rw [no_swap]; exact b2)⟩
    · obtain rfl : q = p := by
        rcases List.mem_cons.1 hq with h | h
        · exact h
        · exact absurd h hp
      rw [yes_yes] at a1
      rw [no_no] at b2
      exact ⟨a1, b2⟩
theorem all_of_can (hdown : ∀ s t, subF s t → St t → St s) : ∀ {d : Nat} {s : WS}, canF St asks d s → allF St asks s
  | 0, _, h => all_of_settled hdown asks h
  | d + 1, s, h => by
    rcases h with h | ⟨q, hq, h1, h2⟩
    · exact all_of_settled hdown asks h
    · exact all_join asks hq (all_of_can hdown h1) (all_of_can hdown h2)
theorem can_of_all : ∀ (qs : List WS), (∀ q ∈ qs, q ∈ asks) → ∀ {s : WS}, allF St qs s → canF St asks qs.length s
  | [], _, _, h => h
  | q :: qs, ha, _, h => .inr ⟨q, ha q List.mem_cons_self, can_of_all qs (fun p hp => ha p (List.mem_cons_of_mem _ hp)) h.1, can_of_all qs (fun p hp => ha p (List.mem_cons_of_mem _ hp)) h.2⟩
/-- More questions than there are never help. -/
theorem can_bound (hdown : ∀ s t, subF s t → St t → St s) {d : Nat} {s : WS} (h : canF St asks d s) : canF St asks asks.length s :=
  can_of_all asks (fun _ h => h) (all_of_can hdown h)
end

/-- The least one of what is told of a list's elements, where it is told. -/
def leastOf (v : Int → Int) (b q : Int) : Int := if 0 ≤ v q ∧ (b < 0 ∨ v q < b) then v q else b
theorem least_fold (v : Int → Int) : ∀ (qs : List Int) (b : Int), (qs.foldl (leastOf v) b = b ∨ ∃ q ∈ qs, qs.foldl (leastOf v) b = v q ∧ 0 ≤ v q) ∧ (∀ q ∈ qs, 0 ≤ v q → 0 ≤ qs.foldl (leastOf v) b ∧ qs.foldl (leastOf v) b ≤ v q) ∧
    (0 ≤ b → 0 ≤ qs.foldl (leastOf v) b ∧ qs.foldl (leastOf v) b ≤ b)
  | [], b => ⟨.inl rfl, (fun q h => absurd h List.not_mem_nil), fun h => ⟨h, Int.le_refl _⟩⟩
  | q :: qs, b => by
    obtain ⟨h1, h2, h3⟩ := least_fold v qs (leastOf v b q)
    rw [List.foldl_cons]
    generalize hr : qs.foldl (leastOf v) (leastOf v b q) = r at *
    unfold leastOf at h1 h3
    refine ⟨?_, ?_, ?_⟩
    · rcases h1 with h1 | ⟨p, hp, hpv, hp0⟩
      · by_cases hc : 0 ≤ v q ∧ (b < 0 ∨ v q < b)
        · rw [if_pos hc] at h1; exact .inr ⟨q, List.mem_cons_self, h1, hc.1⟩
        · rw [if_neg hc] at h1; exact .inl h1
      · exact .inr ⟨p, List.mem_cons_of_mem _ hp, hpv, hp0⟩
    · intro p hp hp0
      rcases List.mem_cons.1 hp with rfl | hp
      · by_cases hc : 0 ≤ v p ∧ (b < 0 ∨ v p < b)
        · rw [if_pos hc] at h3; exact h3 hc.1
        · rw [if_neg hc] at h3
          have hb : 0 ≤ b ∧ b ≤ v p := by
            constructor <;> (apply Classical.byContradiction; intro hn; apply hc; omega)
          have := h3 hb.1; omega
      · exact h2 p hp hp0
    · intro hb
      by_cases hc : 0 ≤ v q ∧ (b < 0 ∨ v q < b)
      · rw [if_pos hc] at h3; have := h3 hc.1; omega
      · rw [if_neg hc] at h3; exact h3 hb
theorem sub_bit : ∀ (i n m : Nat), (n - (n &&& m)).testBit i = (n.testBit i && !m.testBit i)
  | 0, n, m => by
    have h := @Nat.and_mod_two_eq_one n m
    have hle : n &&& m ≤ n := Nat.and_le_left
    rw [Nat.testBit_zero, Nat.testBit_zero, Nat.testBit_zero]
    generalize n &&& m = k at *
    rw [Bool.eq_iff_iff]
    simp only [decide_eq_true_eq, Bool.and_eq_true, Bool.not_eq_true', decide_eq_false_iff_not]
    omega
  | i + 1, n, m => by
    have h := @Nat.and_mod_two_eq_one n m
    have hle : n &&& m ≤ n := Nat.and_le_left
    have hd : (n &&& m) / 2 = n / 2 &&& m / 2 := Nat.and_div_two
    have e : (n - (n &&& m)) / 2 = n / 2 - (n / 2 &&& m / 2) := by
      rw [← hd]
      generalize n &&& m = k at *
      omega
    rw [Nat.testBit_succ, Nat.testBit_succ, Nat.testBit_succ, e]
    exact sub_bit i (n / 2) (m / 2)
theorem has_sub {s q : Int} (w : Nat) (hs : 0 ≤ s) : hasW (s - andI s q) w = (hasW s w && !hasW q w) := by
  unfold hasW andI
  have hle : s.toNat &&& q.toNat ≤ s.toNat := Nat.and_le_left
  rw [show (s - ((s.toNat &&& q.toNat : Nat) : Int)).toNat = s.toNat - (s.toNat &&& q.toNat) by omega]
  exact sub_bit w s.toNat q.toNat
theorem sub_pos {s q : Int} (hs : 0 ≤ s) : 0 ≤ s - andI s q := by
  unfold andI
  have hle : s.toNat &&& q.toNat ≤ s.toNat := Nat.and_le_left
  omega
end Go.Proofs.Ytobgnbgmpcilgaa
