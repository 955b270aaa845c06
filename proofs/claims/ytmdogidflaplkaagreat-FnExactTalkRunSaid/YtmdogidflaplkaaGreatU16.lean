/-
  What the proofs of this seat's statements share (Drs, Drt, Shl, MathJ, MathO, MathQ, MathR, MathS, MathT, MathW, MathX, MathY, StrO).
-/
import Derived.Deep.RegionWith
import Derived.IntWalk
import Derived.Test.YtmdogidflaplkaaGreatU15
import Derived.Test.YtmdogidflaplkaaGreatU8
import Derived.Test.YtmdogidflaplkaaGreatU10
import Derived.Test.YtmdogidflaplkaaGreatU6
import Derived.Test.YtmdogidflaplkaaGreatU2
import Derived.Test.YtmdogidflaplkaaGreatU4

namespace Go.Proofs.YtmdogidflaplkaaGreat
open Go.RowKit

/-- A new row of strings is still there behind a draw. -/
theorem lit_str {w w' : World} {g : Nat} (xs : List ByteArray) {t : TypeId} (hg : (w.alloc (.cells (xs.map Value.string).toArray t)).grownBy w' (some g)) (hne : g < w.heap.size) {k : Int} (h0 : 0 ≤ k) (hk : k < xs.length) :
    ∃ x : ByteArray, x ∈ xs ∧ w'.cell? ⟨w.heap.size, k.toNat, none⟩ = some (.string x) := by
  have hb : w'.heap[w.heap.size]? = (w.alloc (.cells (xs.map Value.string).toArray t)).heap[w.heap.size]? := hg.block w.heap.size (by simp) (fun e => by injection e; omega)
  have hi : k.toNat < xs.length := by omega
  refine ⟨xs[k.toNat], List.getElem_mem hi, ?_⟩
  have h2 : (w.alloc (.cells (xs.map Value.string).toArray t)).heap[w.heap.size]? = some (.cells (xs.map Value.string).toArray t (0, 0)) := heap_alloc_new w _
  rw [h2] at hb
  rw [cell_of_row w' w.heap.size k.toNat _ t (0, 0) hb]
  simp [hi]
def StrPost (hi : Nat) (g u : Nat) (w : World) (e : Ending) (w' : World) : Prop := ∃ s : ByteArray, e = .returned (.string s) ∧ 1 ≤ s.size ∧ s.size ≤ hi ∧ Rd w' g u ∧ w.grownBy w' (some g)

def words6 : List ByteArray := [⟨#[97]⟩, ⟨#[98]⟩, ⟨#[99]⟩, ⟨#[97]⟩, ⟨#[48]⟩, ⟨#[49]⟩]
theorem words6_size {x : ByteArray} (h : x ∈ words6) : x.size = 1 := by
  simp only [words6, List.mem_cons, List.not_mem_nil, or_false] at h
  rcases h with rfl | rfl | rfl | rfl | rfl | rfl <;> rfl
theorem one_size (b : UInt8) : (ByteArray.mk #[b]).size = 1 := rfl

/-- What the drawing of a word comes to, from the list of words on. -/
def Leaf (deep : Int) (g u : Nat) (t : Int) (w : World) : Prop := Calls Tryz.prog 71 #[.pointer (some ⟨g, 0, none⟩), .int .i64 t, .int .i64 deep] w (StrPost 1 g (u + 3) w)

set_option maxRecDepth 100000 in
set_option maxHeartbeats 4000000 in
theorem leaf_any (g u : Nat) (t : Int) (w : World) (hu : u ≤ 1000000) (hR : Rd w g u) : Leaf 0 g u t w := by
  have HR := Lib.hid hR
  have hlt := hR.lt
  obtain ⟨m, hm⟩ : ∃ m, max (min t 3) 1 = m := ⟨_, rfl⟩
  have hm1 : 1 ≤ m := by omega
  have hm3 : m ≤ 3 := by omega
  unfold Leaf
  clear hR
  go_enter Tryz.func71, Tryz.ntmps71
  go_wp2_with fail
  refine (pick_any g u _ _ (by omega) (by omega) (by omega) (HR.out.alloc _)).mono ?_
  rintro e w1 ⟨k, rfl, hk0, hk1, hr, hg⟩
  have hk8 := hk1 (by omega)
  have hsz : w.heap.size < w1.heap.size := by have := hg.size; simp at this; omega
  obtain ⟨q, hq⟩ : ∃ q, k / 7 = q := ⟨_, rfl⟩
  have hq0 : 0 ≤ q := by omega
  have hq1 : q ≤ 1 := by omega
  have HR1 := Lib.hid hr
  have HG1 := Lib.hid hg
  clear hr hg hk1
  go_wp2_with fail
  refine (pick_any g (u + 1) _ _ (by omega) (by omega) (by omega) HR1.out).mono ?_
  rintro e w2 ⟨k2, rfl, hk20, hk21, hr, hg⟩
  have hk26 := hk21 (by omega)
  obtain ⟨x, hx, hcell⟩ := lit_str words6 (HG1.out.trans hg) hlt hk20 (by simp [words6]; omega)
  have HS := Lib.hid (words6_size hx)
  have hk6 : k2 < 6 := by omega
  have HP : Hid (Rd w2 g (u + 3) ∧ w.grownBy w2 (some g)) := ⟨hr.more (by omega), (grown_alloc (World.grownBy.refl w _) _).trans (HG1.out.trans hg)⟩
  clear hr hg hx hk21
  go_wp2_with fail
  go_ret
  exact ⟨x, rfl, by rw [HS.out]; omega, by rw [HS.out]; omega, HP.out⟩
/-- The drawing of a sentence of some depth: at most so many bytes, so many draws, from so many on. -/
def SentAny (d : Int) (hi us b : Nat) : Prop := ∀ (g u : Nat) (t : Int) (w : World), u ≤ b → Rd w g u → Calls Tryz.prog 71 #[.pointer (some ⟨g, 0, none⟩), .int .i64 t, .int .i64 d] w (StrPost hi g (u + us) w)
theorem sent0_any : SentAny 0 1 3 1000000 := fun g u t w hu hR => leaf_any g u t w (by omega) hR

set_option maxRecDepth 100000 in
set_option maxHeartbeats 8000000 in
theorem sent1_any : SentAny 1 5 11 950000 := by
  intro g u t w hu hR
  have HR := Lib.hid hR
  have hlt := hR.lt
  clear hR
  obtain ⟨m, hm⟩ : ∃ m, max (min t 3) 1 = m := ⟨_, rfl⟩
  have hm1 : 1 ≤ m := by omega
  have hm3 : m ≤ 3 := by omega
  go_enter Tryz.func71, Tryz.ntmps71
  go_wp2_with fail
  refine (pick_any g u _ _ (by omega) (by omega) (by omega) HR.out).mono ?_
  rintro e w0 ⟨k0, rfl, hk00, hk01, hr, hg⟩
  have hk04 := hk01 (by omega)
  have hlt0 : g < w0.heap.size := hr.lt
  have HR0 := Lib.hid hr
  have HG0 := Lib.hid hg
  clear hr hg hk01
  by_cases hz : k0 = 0
  · subst hz
    go_wp2_with fail
    refine (pick_any g (u + 1) _ _ (by omega) (by omega) (by omega) (HR0.out.alloc _)).mono ?_
    rintro e w1 ⟨k, rfl, hk0, hk1, hr, hg⟩
    have hk8 := hk1 (by omega)
    have hsz : w0.heap.size < w1.heap.size := by have := hg.size; simp at this; omega
    obtain ⟨q, hq⟩ : ∃ q, k / 7 = q := ⟨_, rfl⟩
    have hq0 : 0 ≤ q := by omega
    have hq1 : q ≤ 1 := by omega
    have HR1 := Lib.hid hr
    have HG1 := Lib.hid hg
    clear hr hg hk1
    go_wp2_with fail
    refine (pick_any g (u + 2) _ _ (by omega) (by omega) (by omega) HR1.out).mono ?_
    rintro e w2 ⟨k2, rfl, hk20, hk21, hr, hg⟩
    have hk26 := hk21 (by omega)
    obtain ⟨x, hx, hcell⟩ := lit_str words6 (HG1.out.trans hg) hlt0 hk20 (by simp [words6]; omega)
    have HS := Lib.hid (words6_size hx)
    have hk6 : k2 < 6 := by omega
    have HP : Hid (Rd w2 g (u + 11) ∧ w.grownBy w2 (some g)) := ⟨hr.more (by omega), (grown_alloc HG0.out _).trans (HG1.out.trans hg)⟩
    clear hr hg hx hk21
    go_wp2_with fail
    go_ret
    exact ⟨x, rfl, by rw [HS.out]; omega, by rw [HS.out]; omega, HP.out⟩
  · have hzb : (k0 == 0) = false := by rw [beq_eq_false_iff_ne]; exact hz
    clear hz
    go_wp2_with fail
    refine (pick_any g (u + 1) _ _ (by omega) (by omega) (by omega) HR0.out).mono ?_
    rintro e w1 ⟨k, rfl, hk0, hk1, hr, hg⟩
    have hk6 := hk1 (by omega)
    have HR1 := Lib.hid hr
    have HG1 := Lib.hid (HG0.out.trans hg)
    clear hr hg hk1
    have h6 : k = 0 ∨ k = 1 ∨ k = 2 ∨ k = 3 ∨ k = 4 ∨ k = 5 := by omega
    clear hk0 hk6
    rcases h6 with rfl | rfl | rfl | rfl | rfl | rfl
    · go_wp2_with fail
      refine (sent0_any g (u + 2) t _ (by omega) HR1.out).mono ?_
      rintro e w2 ⟨s1, rfl, hs1, hs2, hr, hg⟩
      have HP : Hid (Rd w2 g (u + 11) ∧ w.grownBy w2 (some g)) := ⟨hr.more (by omega), HG1.out.trans hg⟩
      clear hr hg
      go_wp2_with fail
      go_ret
      exact ⟨_, rfl, by simp only [ByteArray.size_append, one_size]; omega, by simp only [ByteArray.size_append, one_size]; omega, HP.out⟩
    · go_wp2_with fail
      refine (sent0_any g (u + 2) t _ (by omega) HR1.out).mono ?_
      rintro e w2 ⟨s1, rfl, hs1, hs2, hr, hg⟩
      have HP : Hid (Rd w2 g (u + 11) ∧ w.grownBy w2 (some g)) := ⟨hr.more (by omega), HG1.out.trans hg⟩
      clear hr hg
      go_wp2_with fail
      go_ret
      exact ⟨_, rfl, by simp only [ByteArray.size_append, one_size]; omega, by simp only [ByteArray.size_append, one_size]; omega, HP.out⟩
    · go_wp2_with fail
      refine (sent0_any g (u + 2) t _ (by omega) HR1.out).mono ?_
      rintro e w2 ⟨s1, rfl, hs1, hs2, hr, hg⟩
      have HR2 := Lib.hid hr
      have HG2 := Lib.hid (HG1.out.trans hg)
      clear hr hg
      go_wp2_with fail
      refine (sent0_any g (u + 2 + 3) t _ (by omega) HR2.out).mono ?_
      rintro e w3 ⟨s2, rfl, hs3, hs4, hr, hg⟩
      have HP : Hid (Rd w3 g (u + 11) ∧ w.grownBy w3 (some g)) := ⟨hr.more (by omega), HG2.out.trans hg⟩
      clear hr hg
      go_wp2_with fail
      go_ret
      exact ⟨_, rfl, by simp only [ByteArray.size_append, one_size]; omega, by simp only [ByteArray.size_append, one_size]; omega, HP.out⟩
    · go_wp2_with fail
      refine (sent0_any g (u + 2) t _ (by omega) HR1.out).mono ?_
      rintro e w2 ⟨s1, rfl, hs1, hs2, hr, hg⟩
      have HR2 := Lib.hid hr
      have HG2 := Lib.hid (HG1.out.trans hg)
      clear hr hg
      go_wp2_with fail
      refine (sent0_any g (u + 2 + 3) t _ (by omega) HR2.out).mono ?_
      rintro e w3 ⟨s2, rfl, hs3, hs4, hr, hg⟩
      have HP : Hid (Rd w3 g (u + 11) ∧ w.grownBy w3 (some g)) := ⟨hr.more (by omega), HG2.out.trans hg⟩
      clear hr hg
      go_wp2_with fail
      go_ret
      exact ⟨_, rfl, by simp only [ByteArray.size_append, one_size]; omega, by simp only [ByteArray.size_append, one_size]; omega, HP.out⟩
    · go_wp2_with fail
      refine (sent0_any g (u + 2) t _ (by omega) HR1.out).mono ?_
      rintro e w2 ⟨s1, rfl, hs1, hs2, hr, hg⟩
      have HR2 := Lib.hid hr
      have HG2 := Lib.hid (HG1.out.trans hg)
      clear hr hg
      go_wp2_with fail
      refine (sent0_any g (u + 2 + 3) t _ (by omega) HR2.out).mono ?_
      rintro e w3 ⟨s2, rfl, hs3, hs4, hr, hg⟩
      have HP : Hid (Rd w3 g (u + 11) ∧ w.grownBy w3 (some g)) := ⟨hr.more (by omega), HG2.out.trans hg⟩
      clear hr hg
      go_wp2_with fail
      go_ret
      exact ⟨_, rfl, by simp only [ByteArray.size_append, one_size]; omega, by simp only [ByteArray.size_append, one_size]; omega, HP.out⟩
    · go_wp2_with fail
      refine (sent0_any g (u + 2) t _ (by omega) HR1.out).mono ?_
      rintro e w2 ⟨s1, rfl, hs1, hs2, hr, hg⟩
      have HR2 := Lib.hid hr
      have HG2 := Lib.hid (HG1.out.trans hg)
      clear hr hg
      go_wp2_with fail
      refine (sent0_any g (u + 2 + 3) t _ (by omega) HR2.out).mono ?_
      rintro e w3 ⟨s2, rfl, hs3, hs4, hr, hg⟩
      have HP : Hid (Rd w3 g (u + 11) ∧ w.grownBy w3 (some g)) := ⟨hr.more (by omega), HG2.out.trans hg⟩
      clear hr hg
      go_wp2_with fail
      go_ret
      exact ⟨_, rfl, by simp only [ByteArray.size_append, one_size]; omega, by simp only [ByteArray.size_append, one_size]; omega, HP.out⟩
set_option maxRecDepth 100000 in
set_option maxHeartbeats 8000000 in
theorem sent2_any : SentAny 2 13 27 900000 := by
  intro g u t w hu hR
  have HR := Lib.hid hR
  have hlt := hR.lt
  clear hR
  obtain ⟨m, hm⟩ : ∃ m, max (min t 3) 1 = m := ⟨_, rfl⟩
  have hm1 : 1 ≤ m := by omega
  have hm3 : m ≤ 3 := by omega
  go_enter Tryz.func71, Tryz.ntmps71
  go_wp2_with fail
  refine (pick_any g u _ _ (by omega) (by omega) (by omega) HR.out).mono ?_
  rintro e w0 ⟨k0, rfl, hk00, hk01, hr, hg⟩
  have hk04 := hk01 (by omega)
  have hlt0 : g < w0.heap.size := hr.lt
  have HR0 := Lib.hid hr
  have HG0 := Lib.hid hg
  clear hr hg hk01
  by_cases hz : k0 = 0
  · subst hz
    go_wp2_with fail
    refine (pick_any g (u + 1) _ _ (by omega) (by omega) (by omega) (HR0.out.alloc _)).mono ?_
    rintro e w1 ⟨k, rfl, hk0, hk1, hr, hg⟩
    have hk8 := hk1 (by omega)
    have hsz : w0.heap.size < w1.heap.size := by have := hg.size; simp at this; omega
    obtain ⟨q, hq⟩ : ∃ q, k / 7 = q := ⟨_, rfl⟩
    have hq0 : 0 ≤ q := by omega
    have hq1 : q ≤ 1 := by omega
    have HR1 := Lib.hid hr
    have HG1 := Lib.hid hg
    clear hr hg hk1
    go_wp2_with fail
    refine (pick_any g (u + 2) _ _ (by omega) (by omega) (by omega) HR1.out).mono ?_
    rintro e w2 ⟨k2, rfl, hk20, hk21, hr, hg⟩
    have hk26 := hk21 (by omega)
    obtain ⟨x, hx, hcell⟩ := lit_str words6 (HG1.out.trans hg) hlt0 hk20 (by simp [words6]; omega)
    have HS := Lib.hid (words6_size hx)
    have hk6 : k2 < 6 := by omega
    have HP : Hid (Rd w2 g (u + 27) ∧ w.grownBy w2 (some g)) := ⟨hr.more (by omega), (grown_alloc HG0.out _).trans (HG1.out.trans hg)⟩
    clear hr hg hx hk21
    go_wp2_with fail
    go_ret
    exact ⟨x, rfl, by rw [HS.out]; omega, by rw [HS.out]; omega, HP.out⟩
  · have hzb : (k0 == 0) = false := by rw [beq_eq_false_iff_ne]; exact hz
    clear hz
    go_wp2_with fail
    refine (pick_any g (u + 1) _ _ (by omega) (by omega) (by omega) HR0.out).mono ?_
    rintro e w1 ⟨k, rfl, hk0, hk1, hr, hg⟩
    have hk6 := hk1 (by omega)
    have HR1 := Lib.hid hr
    have HG1 := Lib.hid (HG0.out.trans hg)
    clear hr hg hk1
    have h6 : k = 0 ∨ k = 1 ∨ k = 2 ∨ k = 3 ∨ k = 4 ∨ k = 5 := by omega
    clear hk0 hk6
    rcases h6 with rfl | rfl | rfl | rfl | rfl | rfl
    · go_wp2_with fail
      refine (sent1_any g (u + 2) t _ (by omega) HR1.out).mono ?_
      rintro e w2 ⟨s1, rfl, hs1, hs2, hr, hg⟩
      have HP : Hid (Rd w2 g (u + 27) ∧ w.grownBy w2 (some g)) := ⟨hr.more (by omega), HG1.out.trans hg⟩
      clear hr hg
      go_wp2_with fail
      go_ret
      exact ⟨_, rfl, by simp only [ByteArray.size_append, one_size]; omega, by simp only [ByteArray.size_append, one_size]; omega, HP.out⟩
    · go_wp2_with fail
      refine (sent1_any g (u + 2) t _ (by omega) HR1.out).mono ?_
      rintro e w2 ⟨s1, rfl, hs1, hs2, hr, hg⟩
      have HP : Hid (Rd w2 g (u + 27) ∧ w.grownBy w2 (some g)) := ⟨hr.more (by omega), HG1.out.trans hg⟩
      clear hr hg
      go_wp2_with fail
      go_ret
      exact ⟨_, rfl, by simp only [ByteArray.size_append, one_size]; omega, by simp only [ByteArray.size_append, one_size]; omega, HP.out⟩
    · go_wp2_with fail
      refine (sent1_any g (u + 2) t _ (by omega) HR1.out).mono ?_
      rintro e w2 ⟨s1, rfl, hs1, hs2, hr, hg⟩
      have HR2 := Lib.hid hr
      have HG2 := Lib.hid (HG1.out.trans hg)
      clear hr hg
      go_wp2_with fail
      refine (sent1_any g (u + 2 + 11) t _ (by omega) HR2.out).mono ?_
      rintro e w3 ⟨s2, rfl, hs3, hs4, hr, hg⟩
      have HP : Hid (Rd w3 g (u + 27) ∧ w.grownBy w3 (some g)) := ⟨hr.more (by omega), HG2.out.trans hg⟩
      clear hr hg
      go_wp2_with fail
      go_ret
      exact ⟨_, rfl, by simp only [ByteArray.size_append, one_size]; omega, by simp only [ByteArray.size_append, one_size]; omega, HP.out⟩
    · go_wp2_with fail
      refine (sent1_any g (u + 2) t _ (by omega) HR1.out).mono ?_
      rintro e w2 ⟨s1, rfl, hs1, hs2, hr, hg⟩
      have HR2 := Lib.hid hr
      have HG2 := Lib.hid (HG1.out.trans hg)
      clear hr hg
      go_wp2_with fail
      refine (sent1_any g (u + 2 + 11) t _ (by omega) HR2.out).mono ?_
      rintro e w3 ⟨s2, rfl, hs3, hs4, hr, hg⟩
      have HP : Hid (Rd w3 g (u + 27) ∧ w.grownBy w3 (some g)) := ⟨hr.more (by omega), HG2.out.trans hg⟩
      clear hr hg
      go_wp2_with fail
      go_ret
      exact ⟨_, rfl, by simp only [ByteArray.size_append, one_size]; omega, by simp only [ByteArray.size_append, one_size]; omega, HP.out⟩
    · go_wp2_with fail
      refine (sent1_any g (u + 2) t _ (by omega) HR1.out).mono ?_
      rintro e w2 ⟨s1, rfl, hs1, hs2, hr, hg⟩
      have HR2 := Lib.hid hr
      have HG2 := Lib.hid (HG1.out.trans hg)
      clear hr hg
      go_wp2_with fail
      refine (sent1_any g (u + 2 + 11) t _ (by omega) HR2.out).mono ?_
      rintro e w3 ⟨s2, rfl, hs3, hs4, hr, hg⟩
      have HP : Hid (Rd w3 g (u + 27) ∧ w.grownBy w3 (some g)) := ⟨hr.more (by omega), HG2.out.trans hg⟩
      clear hr hg
      go_wp2_with fail
      go_ret
      exact ⟨_, rfl, by simp only [ByteArray.size_append, one_size]; omega, by simp only [ByteArray.size_append, one_size]; omega, HP.out⟩
    · go_wp2_with fail
      refine (sent1_any g (u + 2) t _ (by omega) HR1.out).mono ?_
      rintro e w2 ⟨s1, rfl, hs1, hs2, hr, hg⟩
      have HR2 := Lib.hid hr
      have HG2 := Lib.hid (HG1.out.trans hg)
      clear hr hg
      go_wp2_with fail
      refine (sent1_any g (u + 2 + 11) t _ (by omega) HR2.out).mono ?_
      rintro e w3 ⟨s2, rfl, hs3, hs4, hr, hg⟩
      have HP : Hid (Rd w3 g (u + 27) ∧ w.grownBy w3 (some g)) := ⟨hr.more (by omega), HG2.out.trans hg⟩
      clear hr hg
      go_wp2_with fail
      go_ret
      exact ⟨_, rfl, by simp only [ByteArray.size_append, one_size]; omega, by simp only [ByteArray.size_append, one_size]; omega, HP.out⟩
end Go.Proofs.YtmdogidflaplkaaGreat

namespace Go.Proofs.YtmdogidflaplkaaGreat
open Go.RowKit

end Go.Proofs.YtmdogidflaplkaaGreat

namespace Go.Proofs.YtmdogidflaplkaaGreat
open Go.RowKit

theorem issueT_ok {t : Int} {s : ByteArray} {x : Sen} (h : senT t s = some x) : issueOkB t (issueT t s) = true := by
  obtain ⟨h1, h3, _, _, _⟩ := senT_ok h
  rw [(issueT_some h).1]; exact sen_issue h1 h3 x
theorem issueT_len (t : Int) (s : ByteArray) : (issueT t s).length ≤ 70 := by
  rcases h : senT t s with _ | x
  · rw [(issueT_none h).1]; simp
  · exact (issue_ne (issueT_ok h)).2
theorem trueT_some {t : Int} {s : ByteArray} {x : Sen} (h : senT t s = some x) : trueT t s = unionI (issueT t s) := by
  obtain ⟨h1, h3, _, _, _⟩ := senT_ok h
  unfold trueT; rw [h, (issueT_some h).1]; exact true_granted h1 h3 x
theorem true_range {t : Int} {s : ByteArray} {x : Sen} (h : senT t s = some x) : 0 ≤ trueT t s ∧ trueT t s ≤ allOf t := by
  rw [trueT_some h]; exact union_all (issueT_ok h)
theorem iIssueOf_is {t : Int} {s : ByteArray} {r : List Int} {b : Bool} (h : Hid (issueT t s = r)) (h2 : Hid (isT t s = b)) (w : World) (hs : s.size ≤ 9223372036854775807) :
    Calls Tryz.prog 95 #[.int .i64 t, .string s] w (IssueOfPost r b w) := by
  have := iIssueOf t s w hs
  rw [h.out, h2.out] at this; exact this
end Go.Proofs.YtmdogidflaplkaaGreat

namespace Go.Proofs.YtmdogidflaplkaaGreat
open Go.RowKit

abbrev WS := Nat → Bool
section
variable (St : WS → Prop) (asks : List WS)
end
section
variable {St : WS → Prop} {asks : List WS}
end

end Go.Proofs.YtmdogidflaplkaaGreat

namespace Go.Proofs.YtmdogidflaplkaaGreat
open Go.RowKit

end Go.Proofs.YtmdogidflaplkaaGreat

namespace Go.Proofs.YtmdogidflaplkaaGreat
open Go.RowKit

end Go.Proofs.YtmdogidflaplkaaGreat

namespace Go.Proofs.YtmdogidflaplkaaGreat
open Go.RowKit

section
variable {t : Int} (h1 : 1 ≤ t) (h3 : t ≤ 3)
include h1 h3
end
end Go.Proofs.YtmdogidflaplkaaGreat

namespace Go.Proofs.YtmdogidflaplkaaGreat
open Go.RowKit

end Go.Proofs.YtmdogidflaplkaaGreat

namespace Go.Proofs.YtmdogidflaplkaaGreat
open Go.RowKit

end Go.Proofs.YtmdogidflaplkaaGreat

namespace Go.Proofs.YtmdogidflaplkaaGreat
open Go.RowKit

structure Dd where
  kind : Int
  text : List UInt8
  deriving DecidableEq
def tellU : List UInt8 := [116, 101, 108, 108, 32]
def askU : List UInt8 := [97, 115, 107, 32]
def backU : List UInt8 := [98, 97, 99, 107]
/-- A byte from the space on up to the tilde. -/
def inkU (c : UInt8) : Bool := decide (32 ≤ c) && decide (c ≤ 126)
def plainU (l : List UInt8) : Bool := !l.isEmpty && l.all inkU
/-- The text of a deed; nothing where there is none. -/
def deedU (d : Dd) : List UInt8 :=
  if d.kind = 0 ∧ plainU d.text = true then tellU ++ d.text
  else if d.kind = 1 ∧ plainU d.text = true then askU ++ d.text
  else if d = ⟨2, []⟩ then backU else []
/-! Journals. -/
end Go.Proofs.YtmdogidflaplkaaGreat

namespace Go.Proofs.YtmdogidflaplkaaGreat
open Go.RowKit

structure St (α : Type) where
  known : Int
  op : List α
structure Tk (α : Type) where
  things : Int
  now : St α
  past : List (St α)
/-- What is asked of texts. -/
structure Asks (α : Type) where
  isS : Int → α → Bool
  sett : Int → Int → α → Bool
  tru : Int → α → Int
  none : α
section
variable {α : Type} [DecidableEq α] (Q : Asks α)

def stateOk (t : Int) (x : St α) : Bool :=
  setOkB t x.known && decide (x.known ≠ 0) && decide (x.op.length ≤ 4) && x.op.all (fun s => Q.isS t s && !Q.sett t x.known s) && decide x.op.Nodup
def talkOk (T : Tk α) : Bool := stateOk Q T.things T.now && decide (T.past.length ≤ 10) && T.past.all (stateOk Q T.things)
def keep10 (l : List (St α)) : List (St α) := if 10 < l.length then l.tail else l
def pushT (T : Tk α) (x : St α) : Tk α := ⟨T.things, x, keep10 (T.past ++ [T.now])⟩
/-- A talk after a deed; none where it cannot be done. -/
def talkDo (T : Tk α) (kind : Int) (text : α) : Option (Tk α) :=
  if kind = 2 then
    if text = Q.none then
      match T.past.getLast? with
      | some x => some ⟨T.things, x, T.past.dropLast⟩
      | Option.none => Option.none
    else Option.none
  else if kind = 0 then
    if Q.isS T.things text = true then
      let k := andI T.now.known (Q.tru T.things text)
      if k = 0 ∨ k = T.now.known then Option.none else some (pushT T ⟨k, T.now.op.filter fun s => !Q.sett T.things k s⟩)
    else Option.none
  else if kind = 1 then
    if Q.isS T.things text = true then
      if withinB T.now.known (Q.tru T.things text) = true ∧ stateOk Q T.things ⟨T.now.known, T.now.op ++ [text]⟩ = true then some (pushT T ⟨T.now.known, T.now.op ++ [text]⟩) else Option.none
    else Option.none
  else Option.none
theorem state_parts {t : Int} {x : St α} : stateOk Q t x = true ↔ setOkB t x.known = true ∧ x.known ≠ 0 ∧ x.op.length ≤ 4 ∧ (∀ s ∈ x.op, Q.isS t s = true ∧ Q.sett t x.known s = false) ∧ x.op.Nodup := by
  unfold stateOk
  simp only [Bool.and_eq_true, decide_eq_true_eq, List.all_eq_true, Bool.not_eq_true']
  constructor
  · rintro ⟨⟨⟨⟨a, b⟩, c⟩, d⟩, e⟩; exact ⟨a, b, c, d, e⟩
  · rintro ⟨a, b, c, d, e⟩; exact ⟨⟨⟨⟨a, b⟩, c⟩, d⟩, e⟩
theorem talk_parts {T : Tk α} : talkOk Q T = true ↔ stateOk Q T.things T.now = true ∧ T.past.length ≤ 10 ∧ ∀ x ∈ T.past, stateOk Q T.things x = true := by
  unfold talkOk
  simp only [Bool.and_eq_true, decide_eq_true_eq, List.all_eq_true]
  exact and_assoc
theorem push_ok {T : Tk α} {x : St α} (h : talkOk Q T = true) (hx : stateOk Q T.things x = true) : talkOk Q (pushT T x) = true := by
  obtain ⟨h1, h2, h3⟩ := (talk_parts Q).1 h
  have hall : ∀ y ∈ T.past ++ [T.now], stateOk Q T.things y = true := fun y hy => by
    rcases List.mem_append.1 hy with hy | hy
    · exact h3 y hy
    · obtain rfl := List.mem_singleton.1 hy; exact h1
  refine (talk_parts Q).2 ⟨hx, ?_, fun y hy => ?_⟩
  · show (keep10 (T.past ++ [T.now])).length ≤ 10
    unfold keep10
    split
    · rw [List.length_tail, List.length_append]; simp; omega
    · omega
  · have hy : y ∈ keep10 (T.past ++ [T.now]) := hy
    unfold keep10 at hy
    split at hy
    · exact hall y (List.mem_of_mem_tail hy)
    · exact hall y hy
/-- What a tell leaves of the open questions. -/
theorem tell_state {T : Tk α} {k : Int} (h : talkOk Q T = true) (hk : setOkB T.things k = true) (h0 : k ≠ 0) : stateOk Q T.things ⟨k, T.now.op.filter fun s => !Q.sett T.things k s⟩ = true := by
  obtain ⟨h1, _, _⟩ := (talk_parts Q).1 h
  obtain ⟨_, _, c, d, e⟩ := (state_parts Q).1 h1
  refine (state_parts Q).2 ⟨hk, h0, Nat.le_trans (List.length_filter_le _ _) c, fun s hs => ?_, e.filter _⟩
  obtain ⟨hs1, hs2⟩ := List.mem_filter.1 hs
  exact ⟨(d s hs1).1, by simpa using hs2⟩
theorem and_set {t k : Int} (q : Int) (h : setOkB t k = true) : setOkB t (andI k q) = true := by
  obtain ⟨h1, h3, h0, ha, _⟩ := setOkB_lt h
  have := andI_le k q h0
  have := andI_nonneg k q
  exact decide_eq_true ⟨h1, h3, by omega, by omega⟩
/-- Whatever is done, it is a talk. -/
theorem do_ok {T X : Tk α} {kind : Int} {text : α} (h : talkOk Q T = true) (hd : talkDo Q T kind text = some X) : talkOk Q X = true ∧ X.things = T.things := by
  obtain ⟨h1, h2, h3⟩ := (talk_parts Q).1 h
  unfold talkDo at hd
  split at hd
  · split at hd
    · split at hd
      · rename_i x hx
        cases hd
        have hm := List.mem_of_getLast? hx
        refine ⟨(talk_parts Q).2 ⟨h3 x hm, ?_, fun y hy => h3 y ((List.dropLast_sublist _).subset hy)⟩, rfl⟩
        show T.past.dropLast.length ≤ 10
        rw [List.length_dropLast]; omega
      · cases hd
    · cases hd
  split at hd
  · split at hd
    · simp only at hd
      split at hd
      · cases hd
      · rename_i hk
        cases hd
        exact ⟨push_ok Q h (tell_state Q h (and_set _ ((state_parts Q).1 h1).1) fun e => hk (.inl e)), rfl⟩
    · cases hd
  split at hd
  · split at hd
    · split at hd
      · rename_i hk
        cases hd
        exact ⟨push_ok Q h hk.2, rfl⟩
      · cases hd
    · cases hd
  · cases hd
/-- A talk after deeds, and how many were done. -/
def runStep (p : Tk α × Nat) (d : Int × α) : Tk α × Nat := match talkDo Q p.1 d.1 d.2 with | some X => (X, p.2 + 1) | Option.none => p
def talkRun (T : Tk α) (l : List (Int × α)) : Tk α × Nat := l.foldl (runStep Q) (T, 0)
theorem step_ok {p : Tk α × Nat} (d : Int × α) (h : talkOk Q p.1 = true) : talkOk Q (runStep Q p d).1 = true ∧ (runStep Q p d).1.things = p.1.things := by
  unfold runStep
  cases hd : talkDo Q p.1 d.1 d.2 with
  | none => exact ⟨h, rfl⟩
  | some X => exact do_ok Q h hd
theorem steps_ok : ∀ (l : List (Int × α)) {p : Tk α × Nat}, talkOk Q p.1 = true → talkOk Q (l.foldl (runStep Q) p).1 = true ∧ (l.foldl (runStep Q) p).1.things = p.1.things
  | [], _, h => ⟨h, rfl⟩
  | d :: l, p, h => by
    obtain ⟨a, b⟩ := step_ok Q d h
    obtain ⟨c, e⟩ := steps_ok l a
    exact ⟨c, e.trans b⟩
theorem run_ok (l : List (Int × α)) {T : Tk α} (h : talkOk Q T = true) : talkOk Q (talkRun Q T l).1 = true ∧ (talkRun Q T l).1.things = T.things := steps_ok Q l (p := (T, 0)) h
theorem step_shift (T : Tk α) (n m : Nat) (d : Int × α) : runStep Q (T, n + m) d = ((runStep Q (T, m) d).1, n + (runStep Q (T, m) d).2) := by
  unfold runStep
  simp only
  cases talkDo Q T d.1 d.2 <;> rfl
theorem steps_shift : ∀ (l : List (Int × α)) (T : Tk α) (n m : Nat), l.foldl (runStep Q) (T, n + m) = ((l.foldl (runStep Q) (T, m)).1, n + (l.foldl (runStep Q) (T, m)).2)
  | [], _, _, _ => rfl
  | d :: l, T, n, m => by
    show l.foldl (runStep Q) (runStep Q (T, n + m) d) = ((l.foldl (runStep Q) (runStep Q (T, m) d)).1, n + (l.foldl (runStep Q) (runStep Q (T, m) d)).2)
    rw [step_shift]
    exact steps_shift l _ n _
/-- In two parts, one after the other, it is the same. -/
theorem run_append (a b : List (Int × α)) (T : Tk α) : talkRun Q T (a ++ b) = ((talkRun Q (talkRun Q T a).1 b).1, (talkRun Q T a).2 + (talkRun Q (talkRun Q T a).1 b).2) := by
  unfold talkRun
  rw [List.foldl_append]
  exact steps_shift Q b (a.foldl (runStep Q) (T, 0)).1 (a.foldl (runStep Q) (T, 0)).2 0
theorem run_snoc (l : List (Int × α)) (d : Int × α) (T : Tk α) : talkRun Q T (l ++ [d]) = runStep Q (talkRun Q T l) d := by
  unfold talkRun
  rw [List.foldl_append]; rfl
end
end Go.Proofs.YtmdogidflaplkaaGreat

namespace Go.Proofs.YtmdogidflaplkaaGreat
open Go.RowKit

def bL (s : ByteArray) : List UInt8 := s.data.toList
def ofL (l : List UInt8) : ByteArray := ⟨l.toArray⟩
theorem bL_of (l : List UInt8) : bL (ofL l) = l := rfl
theorem of_bL (s : ByteArray) : ofL (bL s) = s := rfl
theorem bL_inj {s u : ByteArray} (h : bL s = bL u) : s = u := by rw [← of_bL s, h, of_bL]
/-- The text of a deed, the deed of a text. -/
def deedB (d : Int × ByteArray) : ByteArray := ofL (deedU ⟨d.1, bL d.2⟩)
def numU (n : Nat) : List UInt8 := if n < 10 then [(48 + n).toUInt8] else numU (n / 10) ++ [(48 + n % 10).toUInt8]
section
variable (Q : Asks ByteArray) (isL : Int → ByteArray → Bool) (sense : Int → Int → ByteArray → Bool)
end
end Go.Proofs.YtmdogidflaplkaaGreat

namespace Go.Proofs.YtmdogidflaplkaaGreat
open Go.RowKit

theorem str_info : (Tryz.prog.info? 9).map (fun i => (i.zero, i.size, i.bytes)) = some (some (.string ByteArray.empty), 1, 16) := by kernel_rfl
/-- The slice at A reads as the texts xs. -/
def Strs (w : World) (A : Option Addr) (xs : List ByteArray) : Prop :=
  0 < xs.length → ∃ b off, A = some ⟨b, off, none⟩ ∧ b < w.heap.size ∧ ∀ i, i < xs.length → w.cell? ⟨b, off + i, none⟩ = some (.string (xs.getD i ByteArray.empty))

theorem Strs.nil (w : World) (A : Option Addr) : Strs w A [] := fun h => absurd h (by simp)
theorem Strs.keep {w w' : World} {A : Option Addr} {xs : List ByteArray} (h : Strs w A xs) (hs : w.heap.size ≤ w'.heap.size) (hk : ∀ b, b < w.heap.size → (∀ ad, A = some ad → ad.block = b → w'.heap[b]? = w.heap[b]?)) : Strs w' A xs := by
  intro hn
  obtain ⟨b, off, rfl, hb, hc⟩ := h hn
  exact ⟨b, off, rfl, by omega, fun i hi => (World.cell?_of_block (hk b hb _ rfl rfl)).trans (hc i hi)⟩
theorem Strs.below {w w' : World} {A : Option Addr} {xs : List ByteArray} (h : Strs w A xs) (hb : Below w.heap.size w w') : Strs w' A xs :=
  h.keep hb.size fun b hlt _ _ _ => hb.block b hlt
theorem Strs.drewN {w : World} {A : Option Addr} {xs : List ByteArray} (h : Strs w A xs) (n : Nat) : Strs (w.drewN n) A xs := h
theorem Strs.alloc {w : World} {A : Option Addr} {xs : List ByteArray} (h : Strs w A xs) (o : Obj) : Strs (w.alloc o) A xs :=
  h.below ((Below.refl _ _).alloc (Nat.le_refl _) o)
theorem Strs.grown {w w' : World} {A : Option Addr} {xs : List ByteArray} {row : Option Nat} (h : Strs w A xs) (hg : w.grownBy w' row) (hr : ∀ ad, A = some ad → some ad.block ≠ row) : Strs w' A xs :=
  h.keep hg.size fun b hlt ad ha hab => hg.block b hlt (by rw [← hab]; exact hr ad ha)
theorem Strs.drop {w : World} {A : Option Addr} {xs : List ByteArray} (h : Strs w A xs) {j c : Nat} (hc : xs.length ≤ c) :
    Strs w (if c = j then A else A.map (·.add j)) (xs.drop j) := by
  intro hn
  rw [List.length_drop] at hn
  obtain ⟨b, off, rfl, hb, hcell⟩ := h (by omega)
  rw [if_neg (by omega)]
  refine ⟨b, off + j, by simp only [Option.map_some, Addr.add]; split <;> simp_all, hb, fun i hi => ?_⟩
  rw [List.length_drop] at hi
  rw [Nat.add_assoc, hcell (j + i) (by omega)]
  simp [List.getElem?_drop]
theorem Strs.from_ {w : World} {b off : Nat} {xs : List ByteArray} (h : Strs w (some ⟨b, off, none⟩) xs) (j : Nat) : Strs w (some ⟨b, off + j, none⟩) (xs.drop j) := by
  intro hn
  rw [List.length_drop] at hn
  obtain ⟨b', off', hA, hb, hcell⟩ := h (by omega)
  cases hA
  refine ⟨b, off + j, rfl, hb, fun i hi => ?_⟩
  rw [List.length_drop] at hi
  rw [Nat.add_assoc, hcell (j + i) (by omega)]
  simp [List.getElem?_drop]
theorem Strs.none_ {w : World} {A : Option Addr} {xs : List ByteArray} (h : xs.length = 0) : Strs w A xs := fun hn => by omega
theorem Strs.take {w : World} {A : Option Addr} {xs : List ByteArray} (h : Strs w A xs) (j : Nat) : Strs w A (xs.take j) := by
  intro hn
  rw [List.length_take] at hn
  obtain ⟨b, off, rfl, hb, hcell⟩ := h (by omega)
  refine ⟨b, off, rfl, hb, fun i hi => ?_⟩
  rw [List.length_take] at hi
  rw [hcell i (by omega)]
  simp [show i < j by omega]

/-- A slice of the call's own: the value v, from block 'base' on, holds the texts xs. -/
def OwnsS (w : World) (base : Nat) (v : Value) (xs : List ByteArray) : Prop := w.ownsRow base 9 1 v xs.length (xs.map (Value.string))

theorem OwnsS.form {w : World} {base : Nat} {v : Value} {xs : List ByteArray} (h : OwnsS w base v xs) :
    ∃ A c, v = .slice A xs.length c ∧ xs.length ≤ c ∧ c ≤ maxLen ∧ Strs w A xs ∧ (∀ ad, A = some ad → base ≤ ad.block ∧ ad.block < w.heap.size) := by
  have hcells := fun g => World.ownsRow.cells h (g := g)
  rcases h.2 with ⟨rfl, hl⟩ | ⟨g, cap, cur, rfl, hb, hg, hn, hm, _, _⟩
  · exact ⟨none, 0, by rw [hl], by omega, by simp [maxLen], fun hp => absurd hp (by omega), fun ad h => by cases h⟩
  · have hlt : g < w.heap.size := (Array.getElem?_eq_some_iff.1 hg).1
    refine ⟨some ⟨g, 0, none⟩, cap, rfl, hn, hm, fun hp => ⟨g, 0, rfl, hlt, fun i hi => ?_⟩, fun ad h => by cases h; exact ⟨hb, hlt⟩⟩
    have hi2 : (xs.map (Value.string))[i]? = some (.string (xs.getD i ByteArray.empty)) := by simp [hi]
    have := hcells g rfl i _ hi2
    have e : (⟨g, 0, none⟩ : Addr).add i = ⟨g, 0 + i, none⟩ := by unfold Addr.add; split <;> simp_all
    rw [e] at this
    exact this
theorem OwnsS.kept {w w' : World} {base : Nat} {v : Value} {xs : List ByteArray} (h : OwnsS w base v xs) {row : Option Nat} (hg : w.grownBy w' row) (hne : v.ownBlock = none ∨ v.ownBlock ≠ row) : OwnsS w' base v xs :=
  World.ownsRow.kept h hg hne
theorem OwnsS.below {w w' : World} {base : Nat} {v : Value} {xs : List ByteArray} (h : OwnsS w base v xs) (hb : Below w.heap.size w w') : OwnsS w' base v xs :=
  World.ownsRow.kept (row := none) h ⟨hb.os, hb.tape, hb.output, hb.size, fun k hk _ => hb.block k hk⟩ (by cases v.ownBlock <;> simp)
theorem OwnsS.base {w : World} {base base' : Nat} {v : Value} {xs : List ByteArray} (h : OwnsS w base v xs) (hb : base' ≤ base) : OwnsS w base' v xs := by
  refine ⟨h.1, ?_⟩
  rcases h.2 with h | ⟨g, cap, cur, h1, h2, h3⟩
  · exact .inl h
  · exact .inr ⟨g, cap, cur, h1, by omega, h3⟩
theorem OwnsS.nil (w : World) (base : Nat) : OwnsS w base (.slice none 0 0) [] := World.ownsRow_nil w base _ 1

theorem OwnsS.lit (w : World) (base : Nat) (xs : List ByteArray) (hb : base ≤ w.heap.size) (hm : xs.length ≤ maxLen) :
    OwnsS (w.alloc (.cells (xs.map (Value.string)).toArray 9)) base (.slice (some ⟨w.heap.size, 0, none⟩) xs.length xs.length) xs := by
  have h := World.ownsRow_lit (base := base) (e := 9) (size := 1) w (xs.map (Value.string)).toArray xs.length hb hm (by simp)
  simpa [OwnsS] using h

theorem wp_appendS {W : World} {ops : Array Oper} {rest : List Oper} {o : Oper} {a : Act} {Q : Exit → Act → World → Prop} (hgd : o.guard = none) (s x : Operand)
    (ho : o.op = .call { callee := .builtin .append, args := #[s, x], argTypes := #[23, 23] }) (base : Nat) (v : Value) (xs : List ByteArray) (hs : a.eval s = v) (hown : OwnsS W base v xs)
    (y : ByteArray) (hx : a.eval x = .slice (some ⟨W.heap.size, 0, none⟩) 1 1) (hl : xs.length ≤ 1048576) (hb : base ≤ W.heap.size)
    (h : ∀ v' w', OwnsS w' base v' (xs ++ [y]) → (W.alloc (.cells #[.string y] 9)).grownBy w' v.ownBlock → wpList Tryz.prog ops Q rest (a.put o.dst v') w') :
    wpList Tryz.prog ops Q (o :: rest) a (W.alloc (.cells #[.string y] 9)) := by
  obtain ⟨i0, hi0, hz0, hz1, hz2⟩ := info_parts str_info
  refine wpList_append_own _ hgd s x 23 ho base 9 i0 (.string ByteArray.empty) 1 16 Tryz.underlying23 hi0 hz0 hz1 hz2 rfl (by decide) v xs.length (xs.map (Value.string)) hs (World.ownsRow.alloc hown _)
    ⟨W.heap.size, 0, none⟩ 1 1 [.string y] hx rfl (cell_one_new _ _ _) (fun u hu => by rw [List.mem_singleton] at hu; subst hu; rfl) (by simp only [maxLen]; omega) (by omega) (by rw [World.size_alloc]; omega) ?_
  intro v' w' h1 h2 _
  refine h v' w' ?_ h2
  unfold OwnsS
  simpa using h1
/-- What an append of the call's own row leaves below a block that is older than the row. -/
theorem below_appendS {B : Nat} {a W w' : World} {base : Nat} {v : Value} {xs : List ByteArray} {o : Obj} (h : Below B a W) (hB : B ≤ W.heap.size) (hown : OwnsS W base v xs) (hbase : B ≤ base) (hg : (W.alloc o).grownBy w' v.ownBlock) : Below B a w' :=
  (h.alloc hB o).grown hg (by simp; omega) fun k e => by have := (World.ownsRow.lt hown k e).1; omega

theorem below_appendLS {B : Nat} {a W w' : World} {base : Nat} {v : Value} {xs : List ByteArray} (h : Below B a W) (hB : B ≤ W.heap.size) (hown : OwnsS W base v xs) (hbase : B ≤ base) (hg : W.grownBy w' v.ownBlock) : Below B a w' :=
  h.grown hg hB fun k e => by have := (World.ownsRow.lt hown k e).1; omega

/-- One element: its address, its cell, and (hidden from the walk) that it is the element. -/
theorem Strs.elem {w : World} {A : Option Addr} {xs : List ByteArray} (h : Strs w A xs) {i : Nat} (hi : i < xs.length) :
    ∃ b off x, A = some ⟨b, off, none⟩ ∧ w.cell? ⟨b, off + i, none⟩ = some (.string x) ∧ Hid (xs[i]? = some x) ∧ Hid (b < w.heap.size) := by
  obtain ⟨b, off, hA, hb, hc⟩ := h (by omega)
  exact ⟨b, off, _, hA, hc i hi, by show _ = _; simp [hi], hb⟩
theorem elem_memS {xs : List ByteArray} {i : Nat} {x : ByteArray} (h : Hid (xs[i]? = some x)) : x ∈ xs := List.mem_of_getElem? h.out
theorem elem_ltS {xs : List ByteArray} {i : Nat} {x : ByteArray} (h : Hid (xs[i]? = some x)) : i < xs.length := (List.getElem?_eq_some_iff.1 h.out).1
theorem take_snocS {xs : List ByteArray} {i : Nat} {x : ByteArray} (h : Hid (xs[i]? = some x)) : xs.take (i + 1) = xs.take i ++ [x] := by
  rw [List.take_succ_eq_append_getElem (elem_ltS h), (List.getElem?_eq_some_iff.1 h.out).2]
end Go.Proofs.YtmdogidflaplkaaGreat
