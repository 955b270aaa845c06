/-
  The program's IssueFrom: copied, sorted, and the greatest ones kept.
-/
import Derived.Test.YtfancfjbipjibaaMathC
import Derived.Lib.SlKeysI
import Derived.Test.YtfancfjbipjibaaShelf
namespace Go.Proofs.Ytfancfjbipjibaa
open Go.RowKit

/-- What Sort leaves: the same numbers, ascending, in the same row. -/
def SortPost (base : Nat) (A : Option Addr) (nn c : Nat) (xs : List Int) (w : World) (e : Ending) (w' : World) : Prop :=
  e = .returned (.tuple #[]) ∧ ∃ ys : List Int, ys.Pairwise (· ≤ ·) ∧ (∀ x, x ∈ ys ↔ x ∈ xs) ∧ ys.length = nn ∧ Owns w' base (.slice A nn c) ys ∧ w.grownBy w' (Value.slice A nn c).ownBlock
theorem sort_asc (xs : List Int) : (xs.mergeSort fun x y => decide (x ≤ y)).Pairwise (· ≤ ·) := by
  have := List.pairwise_mergeSort (le := fun a b : Int => decide (a ≤ b)) (fun a b c h1 h2 => by simp only [decide_eq_true_eq] at *; omega) (fun a b => by simp only [Bool.or_eq_true, decide_eq_true_eq]; omega) xs
  exact this.imp (fun h => by simpa using h)
theorem iSort (base : Nat) (A : Option Addr) (nn c : Nat) (xs : List Int) (w : World) (hn : nn = xs.length) (h1 : 1 ≤ nn) (hl : nn ≤ 1048576) (hO : Owns w base (.slice A nn c) xs) :
    Calls Try.prog 80 #[.slice A nn c] w (SortPost base A nn c xs w) := by
  subst hn
  rcases hO.2 with ⟨_, h0⟩ | ⟨g, cap, cur, hv, hb, hg, hnc, hcm, hcs, htake⟩
  · omega
  · simp only [Value.slice.injEq] at hv
    obtain ⟨rfl, _, rfl⟩ := hv
    have ht : cur.toList.take xs.length = xs.map (Value.int .i64) := by rw [← htake, Nat.mul_one]
    refine (Try.slices_Sort_int g 0 c xs w (holds_of_block_i hg ht) (Array.getElem?_eq_some_iff.1 hg).1 (by omega)).mono ?_
    rintro e w' ⟨he, n, os, rfl⟩
    refine ⟨he, _, sort_asc xs, fun x => List.mem_mergeSort, List.length_mergeSort xs, ?_, grownBy_sorted_i _⟩
    have := ownsRow_sorted_i (n := n) (os := os) (List.length_mergeSort (le := fun x y => decide (x ≤ y)) xs) hb hg hnc hcm hcs
    unfold Owns
    rw [List.length_mergeSort]
    exact this
def ClonePost (xs : List Int) (w : World) (e : Ending) (w' : World) : Prop := ∃ v, e = .returned v ∧ Owns w' w.heap.size v xs ∧ Below w.heap.size w w'
theorem iClone (A : Option Addr) (nn c : Nat) (xs : List Int) (w : World) (hn : nn = xs.length) (h1 : 1 ≤ nn) (hl : nn ≤ 1048576) (hA : Nums .i64 w A xs) :
    Calls Try.prog 79 #[.slice A nn c] w (ClonePost xs w) := by
  subst hn
  obtain ⟨b, off, rfl, _, hc⟩ := hA h1
  refine (Try.slices_Clone_int b off xs.length c xs w (Nat.le_refl _) (by omega) hc).mono ?_
  rintro e w' ⟨v, he, ho, _, hb⟩
  rw [List.take_length] at ho
  exact ⟨v, he, ho, hb⟩

theorem great_skip {ys acc : List Int} {k : Nat} {x : Int} (h : Hid (acc ++ greatL (ys.drop k) = greatL ys)) (hx : Hid (ys[k]? = some x)) (hw : anyWithin x (ys.drop (k + 1)) = true) : Hid (acc ++ greatL (ys.drop (k + 1)) = greatL ys) := by
  unfold Hid; rw [← h.out, drop_cons hx]
  conv => rhs; unfold greatL
  rw [if_pos hw]
theorem great_take {ys acc : List Int} {k : Nat} {x : Int} (h : Hid (acc ++ greatL (ys.drop k) = greatL ys)) (hx : Hid (ys[k]? = some x)) (hw : anyWithin x (ys.drop (k + 1)) = false) : Hid ((acc ++ [x]) ++ greatL (ys.drop (k + 1)) = greatL ys) := by
  unfold Hid; rw [← h.out, drop_cons hx]
  conv => rhs; unfold greatL
  rw [if_neg (by rw [hw]; simp)]; simp

set_option maxHeartbeats 2000000 in
theorem iGreatest (A : Option Addr) (nn c : Nat) (xs : List Int) (w : World) (hn : nn = xs.length) (h1 : 1 ≤ nn) (hl : nn ≤ 1048576) (hr : ∀ x ∈ xs, 0 ≤ x ∧ x < 256) (hA : Nums .i64 w A xs) :
    Calls Try.prog 58 #[.slice A nn c] w fun e w' => ∃ v, e = .returned v ∧ Owns w' w.heap.size v (tidyL xs) ∧ Below w.heap.size w w' := by
  subst hn
  have HC := Lib.hid (iClone A xs.length c xs w rfl h1 hl hA)
  have HR := Lib.hid hr
  clear hr hA
  go_enter Try.func58, Try.ntmps58
  go_wp2_with fail
  refine HC.out.mono ?_
  rintro e w1 ⟨v, rfl, ho, hb⟩
  obtain ⟨A1, c1, rfl, hc1, hm1, hn1, ha1⟩ := ho.form
  have hc63 : c1 ≤ 9223372036854775807 := by unfold maxLen at hm1; omega
  have HO1 := Lib.hid ho
  have HB1 := Lib.hid hb
  have HA1 := Lib.hid ha1
  clear ho hb hm1 hn1 ha1 HC
  go_wp2_with fail
  refine (iSort w.heap.size A1 _ c1 xs _ rfl h1 hl HO1.out).mono ?_
  rintro e w2 ⟨rfl, ys, hs, hm, hylen, ho, hg⟩
  have HG := Lib.hid (great_tidy HR.out hs hm)
  have HYR : Hid (∀ y ∈ ys, 0 ≤ y ∧ y < 256) := fun y hy => HR.out y ((hm y).1 hy)
  have HB2 : Hid (Below w.heap.size w w2) := bel_mark HB1.out hg (fun ad h => (HA1.out ad h).1)
  obtain ⟨A2, c2, hv2, _, _, hn2, _⟩ := ho.form
  rw [← hylen] at hv2 hc1 h1 hl
  simp only [Value.slice.injEq] at hv2
  obtain ⟨rfl, hx1, rfl⟩ := hv2
  have HN2 := Lib.hid hn2
  rw [← hylen]
  clear ho hg hs hm hx1 hn2 hylen HO1 HA1 HR
  go_wp2_with fail
  go_loopw [4, 13] (fun v i wr => ∃ (k : Nat) (acc : List Int), k ≤ ys.length ∧ i = .int .i64 k ∧ Hid (acc.length ≤ k) ∧ Hid (acc ++ greatL (ys.drop k) = greatL ys) ∧ Owns wr w2.heap.size v acc ∧ Below w2.heap.size w2 wr) (fun _ i _ => ys.length - (Go.RowKit.intOf i).toNat)
  case atStart => exact ⟨0, [], Nat.zero_le _, rfl, Nat.zero_le _, by unfold Hid; simp, Owns.nil _ _, Below.refl _ _⟩
  case round =>
    obtain ⟨k, acc, hk, rfl, hacc, hgr, hown, hbel⟩ := hrel
    have HOW := Lib.hid hown
    have HB := Lib.hid hbel
    clear hown hbel
    by_cases hlt : k < ys.length
    · obtain ⟨b, off, x, rfl, hcell, hx, _⟩ := (HN2.out.below HB.out).elem hlt
      obtain ⟨he1, he2⟩ := HYR.out x (elem_mem hx)
      have HD : Hid (∀ y ∈ ys.drop (k + 1), 0 ≤ y ∧ y < 256) := fun y hy => HYR.out y (List.mem_of_mem_drop hy)
      have hlen : Hid (ys.length - (k + 1) = (ys.drop (k + 1)).length) := by unfold Hid; simp
      have hal := hacc.out
      by_cases hck : c1 = k + 1
      · subst hck
        go_wp2_with fail
        refine (iWithinAny _ _ _ _ (ys.drop (k + 1)) _ (by rw [← hlen.out]; try omega) he1 he2 HD.out (by omega) (by exact Nums.none_ (by rw [← hlen.out]; omega))).mono ?_
        rintro e w' ⟨rfl, rfl⟩
        rcases hw : anyWithin x (ys.drop (k + 1)) with _ | _
        · have HT := great_take hgr hx hw
          have hww : Hid (anyWithin x (ys.drop (k + 1)) = false) := hw
          go_wp2_with (at_builtin; refine wp_append1 (W := wr) rfl _ _ rfl w2.heap.size u4 acc rfl HOW.out x rfl (by omega) HB.out.size ?_; intro v' w' hown' hgrow)
          have hb' := below_append HB.out HB.out.size HOW.out (Nat.le_refl _) hgrow
          go_roundw
          case rel => exact ⟨k + 1, acc ++ [x], by omega, by go_num, by unfold Hid; simp; omega, HT, hown', hb'⟩
          case measure => simp [Go.RowKit.intOf]; omega
        · have HT := great_skip hgr hx hw
          go_wp2_with fail
          go_roundw
          case rel => exact ⟨k + 1, acc, by omega, by go_num, by unfold Hid; omega, HT, HOW.out, HB.out⟩
          case measure => simp [Go.RowKit.intOf]; omega
      · go_wp2_with fail
        refine (iWithinAny _ _ _ _ (ys.drop (k + 1)) _ (by rw [← hlen.out]; try omega) he1 he2 HD.out (by omega) (by exact (HN2.out.below HB.out).from_ (k + 1))).mono ?_
        rintro e w' ⟨rfl, rfl⟩
        rcases hw : anyWithin x (ys.drop (k + 1)) with _ | _
        · have HT := great_take hgr hx hw
          have hww : Hid (anyWithin x (ys.drop (k + 1)) = false) := hw
          go_wp2_with (at_builtin; refine wp_append1 (W := wr) rfl _ _ rfl w2.heap.size u4 acc rfl HOW.out x rfl (by omega) HB.out.size ?_; intro v' w' hown' hgrow)
          have hb' := below_append HB.out HB.out.size HOW.out (Nat.le_refl _) hgrow
          go_roundw
          case rel => exact ⟨k + 1, acc ++ [x], by omega, by go_num, by unfold Hid; simp; omega, HT, hown', hb'⟩
          case measure => simp [Go.RowKit.intOf]; omega
        · have HT := great_skip hgr hx hw
          go_wp2_with fail
          go_roundw
          case rel => exact ⟨k + 1, acc, by omega, by go_num, by unfold Hid; omega, HT, HOW.out, HB.out⟩
          case measure => simp [Go.RowKit.intOf]; omega
    · obtain rfl : k = ys.length := by omega
      have HF : Hid (acc = tidyL xs) := by
        have := hgr.out
        rw [List.drop_length] at this
        unfold Hid; rw [← HG.out, ← this]; simp [greatL]
      clear hgr
      go_wp2
      go_ret
      exact ⟨_, rfl, by rw [← HF.out]; exact HOW.out.base HB2.out.size, bel_trans HB2.out HB.out⟩
end Go.Proofs.Ytfancfjbipjibaa
