/-
  Lists of sets and issues that are drawn.
-/
import Derived.Test.YtfancfjbipjibaaDraw
import Derived.Test.YtfancfjbipjibaaTidy
namespace Go.Proofs.Ytfancfjbipjibaa
open Go.RowKit

theorem owns_grown {w w' : World} {base g : Nat} {v : Value} {xs : List Int} (h : Owns w base v xs) (hg : w.grownBy w' (some g)) (hb : g < base) : Owns w' base v xs := by
  refine h.kept hg ?_
  cases e : v.ownBlock with
  | none => exact .inl rfl
  | some k =>
    right
    intro e2
    have := (World.ownsRow.lt h k e).1
    injection e2
    omega
theorem rd_append {w W w' : World} {base g u : Nat} {v : Value} {xs : List Int} {o : Obj} (hR : Rd W g u) (hG : w.grownBy W (some g)) (hown : Owns W base v xs) (hb : w.heap.size ≤ base) (hlt : g < w.heap.size)
    (hg : (W.alloc o).grownBy w' v.ownBlock) : Rd w' g u ∧ w.grownBy w' (some g) := by
  have hk : ∀ k, v.ownBlock = some k → w.heap.size ≤ k ∧ k < W.heap.size := fun k e => by have := World.ownsRow.lt hown k e; omega
  have h1 := hR.alloc o
  refine ⟨?_, grown_fresh (grown_alloc hG o) hg fun k e => (hk k e).1⟩
  obtain ⟨A, c, zs, p, a1, a2, a3, a4, a5, a6⟩ := hR
  have hgl : g < W.heap.size := (Array.getElem?_eq_some_iff.1 a1).1
  have a1' : (W.alloc o).heap[g]? = W.heap[g]? := Below.heap_alloc W o g hgl
  refine ⟨A, c, zs, p, (hg.block g (by simp; omega) (fun e => by have := hk g e.symm; omega)).trans (a1'.trans a1), ?_, a3, a4, a5, a6⟩
  exact fun hp => (a2.alloc o).grown hg (fun ad ha e => by have := a6 ad hp ha; have := hk ad.block e.symm; omega) hp

def ListPost (m g u : Nat) (w : World) (e : Ending) (w' : World) : Prop :=
  ∃ (v : Value) (xs : List Int), e = .returned v ∧ Owns w' w.heap.size v xs ∧ xs.length ≤ m ∧ (∀ x ∈ xs, -1 ≤ x ∧ x ≤ 256) ∧ Rd w' g u ∧ w.grownBy w' (some g)

set_option maxHeartbeats 1000000 in
theorem sets_any (g u : Nat) (t n : Int) (w : World) (hn : n ≤ 1048576) (hn0 : 0 ≤ n) (hu : u ≤ 900000) (hR : Rd w g u) :
    Calls Try.prog 89 #[.pointer (some ⟨g, 0, none⟩), .int .i64 t, .int .i64 n] w (ListPost 4 g (u + 40) w) := by
  have HR := Lib.hid hR
  have hlt := hR.lt
  have HLT := Lib.hid hlt
  have HL := Lib.hid (Owns.lit w w.heap.size [] (Nat.le_refl _) (by simp [maxLen]))
  clear hR
  go_enter Try.func89, Try.ntmps89
  go_wp2_with fail
  refine (pick_any g u _ _ (by omega) (by omega) (by omega) (by exact HR.out.alloc _)).mono ?_
  rintro e w1 ⟨k0, rfl, hk0, hk1, hr, hg⟩
  have hkk := hk1 (by omega)
  have HR1 := Lib.hid hr
  have HG1 := Lib.hid ((grown_alloc (World.grownBy.refl w (some g)) _).trans hg)
  have HO1 := Lib.hid (owns_grown HL.out hg HLT.out)
  clear hr hg hk1 HL
  go_wp2_with fail
  go_loopw [7, 8] (fun v q wr => ∃ (k : Nat) (ys : List Int), k ≤ 4 ∧ q = .int .i64 k ∧ Hid (ys.length + k ≤ 4) ∧ Owns wr w.heap.size v ys ∧ Hid (∀ x ∈ ys, -1 ≤ x ∧ x ≤ 256) ∧ Rd wr g (u + 1 + 8 * ys.length) ∧ w.grownBy wr (some g)) (fun _ q _ => (intOf q).toNat)
  case atStart => exact ⟨(1 + k0).toNat, [], by omega, by rw [show (((1 + k0).toNat : Nat) : Int) = 1 + k0 by omega], by unfold Hid; simp; omega, HO1.out, by unfold Hid; simp, HR1.out, HG1.out⟩
  case round =>
    obtain ⟨k, ys, hk, rfl, hlen, hown, hrange, hrd, hgr⟩ := hrel
    have HOW := Lib.hid hown
    have HRD := Lib.hid hrd
    have HGR := Lib.hid hgr
    clear hown hrd hgr
    by_cases hpos : 0 < k
    · have hlen2 := hlen.out
      have hgt : decide ((0 : Int) < (k : Int)) = true := by simp; omega
      go_wp2_with fail
      refine (set_any g _ t n _ hn hn0 (by omega) HRD.out).mono ?_
      rintro e w2 ⟨x, rfl, hx0, hx1, hr, hg⟩
      have HR2 := Lib.hid hr
      have HG2 := Lib.hid (HGR.out.trans hg)
      have HO2 := Lib.hid (owns_grown HOW.out hg HLT.out)
      have hs2 : w.heap.size ≤ w2.heap.size := HG2.out.size
      clear hr hg
      go_wp2_with (at_builtin; refine wp_append1 (W := w2) rfl _ _ rfl w.heap.size u7 ys rfl HO2.out x rfl (by omega) hs2 ?_; intro v' w' hown' hgrow)
      have hfin := rd_append HR2.out HG2.out HO2.out (Nat.le_refl _) HLT.out hgrow
      go_roundw
      case rel =>
        refine ⟨k - 1, ys ++ [x], by omega, by rw [show ((k - 1 : Nat) : Int) = (k : Int) - 1 by omega], by unfold Hid; simp; omega, hown', ?_, ?_, hfin.2⟩
        · intro y hy
          rw [List.mem_append, List.mem_singleton] at hy
          rcases hy with hy | rfl
          · exact hrange.out y hy
          · exact ⟨hx0, hx1⟩
        · exact hfin.1.more (by simp; omega)
      case measure => simp [intOf]; omega
    · obtain rfl : k = 0 := by omega
      have hlen2 := hlen.out
      go_wp2
      go_ret
      exact ⟨_, ys, rfl, HOW.out, by omega, hrange.out, HRD.out.more (by omega), HGR.out⟩

theorem tidyTo_range (xs : List Int) (k : Nat) : ∀ x ∈ tidyTo xs k, 0 ≤ x ∧ x < k := by
  intro x hx
  unfold tidyTo at hx
  rw [List.mem_filter, List.mem_map] at hx
  obtain ⟨⟨n, hn, rfl⟩, _⟩ := hx
  rw [List.mem_range] at hn
  omega
theorem issueFrom_range (t : Int) (xs : List Int) : (issueFromL t xs).length ≤ 256 ∧ ∀ x ∈ issueFromL t xs, -1 ≤ x ∧ x ≤ 256 := by
  unfold issueFromL
  split
  · exact ⟨tidy_len xs 256, fun x hx => by have := tidyTo_range xs 256 x hx; omega⟩
  · simp

set_option maxHeartbeats 2000000 in
theorem issue_any (g u : Nat) (t n : Int) (w : World) (hn : n ≤ 1048576) (hn0 : 0 ≤ n) (hu : u ≤ 800000) (hR : Rd w g u) :
    Calls Try.prog 78 #[.pointer (some ⟨g, 0, none⟩), .int .i64 t, .int .i64 n] w (ListPost 257 g (u + 50) w) := by
  have HR := Lib.hid hR
  have HLT := Lib.hid hR.lt
  clear hR
  go_enter Try.func78, Try.ntmps78
  go_wp2_with fail
  refine (sets_any g u t _ _ (by omega) (by omega) (by omega) HR.out).mono ?_
  rintro e w1 ⟨v, ys, rfl, ho, hlen, hrange, hr, hg⟩
  obtain ⟨A1, c1, rfl, hc1, hm1, hn1, _⟩ := ho.form
  have HN1 := Lib.hid hn1
  have HR1 := Lib.hid hr
  have HG1 := Lib.hid hg
  clear ho hrange hr hg hn1
  go_wp2_with fail
  refine (sIssueFrom t _ _ _ ys _ rfl (by omega) HN1.out).mono ?_
  rintro e w2 ⟨v, rfl, ho, hb⟩
  obtain ⟨hl2, hr2⟩ := issueFrom_range t ys
  have HR2 := Lib.hid (HR1.out.below hb)
  have HG2 := Lib.hid (grown_below HG1.out hb)
  have HO2 := Lib.hid (ho.base (base' := w.heap.size) HG1.out.size)
  have HRG := Lib.hid hr2
  obtain ⟨is, his⟩ : ∃ l, l = issueFromL t ys := ⟨_, rfl⟩
  rw [← his] at HO2 hl2 HRG
  clear ho hb hr2 his
  go_wp2_with fail
  refine (odd_any g _ n _ hn hn0 (by omega) HR2.out).mono ?_
  rintro e w3 ⟨b, rfl, hr, hg⟩
  have HR3 := Lib.hid hr
  have HG3 := Lib.hid (HG2.out.trans hg)
  have HO3 := Lib.hid (owns_grown HO2.out hg HLT.out)
  clear hr hg
  cases b
  · go_wp2_with fail
    go_ret
    exact ⟨_, is, rfl, HO3.out, by omega, HRG.out, HR3.out.more (by omega), HG3.out⟩
  · go_wp2_with fail
    refine (pick_any g _ _ _ (by omega) (by omega) (by omega) HR3.out).mono ?_
    rintro e w4 ⟨k, rfl, hk0, hk1, hr, hg⟩
    have hkk := hk1 (by omega)
    have HR4 := Lib.hid hr
    have HG4 := Lib.hid (HG3.out.trans hg)
    have HO4 := Lib.hid (owns_grown HO3.out hg HLT.out)
    have hs4 : w.heap.size ≤ w4.heap.size := HG4.out.size
    clear hr hg hk1
    have h3 : k = 0 ∨ k = 1 ∨ k = 2 := by omega
    clear hk0 hkk
    rcases h3 with rfl | rfl | rfl
    · go_wp2_with fail
      go_ret
      exact ⟨_, [], rfl, Owns.lit _ _ [] hs4 (by simp [maxLen]), by simp, by simp, (HR4.out.alloc _).more (by omega), grown_alloc HG4.out _⟩
    · go_wp2_with (at_builtin; refine wp_append1 (W := w4) rfl _ _ rfl w.heap.size v is rfl HO4.out 0 rfl (by omega) hs4 ?_; intro v' w' hown' hgrow)
      have hfin := rd_append HR4.out HG4.out HO4.out (Nat.le_refl _) HLT.out hgrow
      go_ret
      exact ⟨_, is ++ [0], rfl, hown', by simp; omega, fun y hy => by rw [List.mem_append, List.mem_singleton] at hy; rcases hy with hy | rfl; exact HRG.out y hy; omega, hfin.1.more (by omega), hfin.2⟩
    · go_wp2_with (at_builtin; refine wp_append1 (W := w4) rfl _ _ rfl w.heap.size v is rfl HO4.out 256 rfl (by omega) hs4 ?_; intro v' w' hown' hgrow)
      have hfin := rd_append HR4.out HG4.out HO4.out (Nat.le_refl _) HLT.out hgrow
      go_ret
      exact ⟨_, is ++ [256], rfl, hown', by simp; omega, fun y hy => by rw [List.mem_append, List.mem_singleton] at hy; rcases hy with hy | rfl; exact HRG.out y hy; omega, hfin.1.more (by omega), hfin.2⟩

/-- What a drawing of a number of things and an issue leaves. -/
def DrawTL (w : World) (e : Ending) (w' : World) : Prop :=
  ∃ (t : Int) (v : Value) (xs : List Int), e = .returned (.tuple #[.int .i64 t, v]) ∧ -1 ≤ t ∧ t ≤ 4 ∧ Owns w' w.heap.size v xs ∧ xs.length ≤ 257 ∧ (∀ x ∈ xs, -1 ≤ x ∧ x ≤ 256) ∧ Below w.heap.size w w'
def DrawTLS (w : World) (e : Ending) (w' : World) : Prop :=
  ∃ (t : Int) (v : Value) (xs : List Int) (s : Int), e = .returned (.tuple #[.int .i64 t, v, .int .i64 s]) ∧ -1 ≤ t ∧ t ≤ 4 ∧ Owns w' w.heap.size v xs ∧ xs.length ≤ 257 ∧ (∀ x ∈ xs, -1 ≤ x ∧ x ≤ 256) ∧ -1 ≤ s ∧ s ≤ 256 ∧ Below w.heap.size w w'

end Go.Proofs.Ytfancfjbipjibaa
