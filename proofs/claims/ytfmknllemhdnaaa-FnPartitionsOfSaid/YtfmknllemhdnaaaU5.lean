/-
  What the proofs of this seat's statements share (Great, Sperner, MathD).
-/
import Derived.Lib.SlKeysI
import Derived.Test.YtfmknllemhdnaaaU4

namespace Go.Proofs.Ytfmknllemhdnaaa
open Go.RowKit

/-- What Sort leaves: the same numbers, ascending, in the same row. -/
def SortPost (base : Nat) (A : Option Addr) (nn c : Nat) (xs : List Int) (w : World) (e : Ending) (w' : World) : Prop :=
  e = .returned (.tuple #[]) ∧ ∃ ys : List Int, ys.Pairwise (· ≤ ·) ∧ (∀ x, x ∈ ys ↔ x ∈ xs) ∧ ys.length = nn ∧ Owns w' base (.slice A nn c) ys ∧ w.grownBy w' (Value.slice A nn c).ownBlock
theorem sort_asc (xs : List Int) : (xs.mergeSort fun x y => decide (x ≤ y)).Pairwise (· ≤ ·) := by
  have := List.pairwise_mergeSort (le := fun a b : Int => decide (a ≤ b)) (fun a b c h1 h2 => by simp only [decide_eq_true_eq] at *; omega) (fun a b => by simp only [Bool.or_eq_true, decide_eq_true_eq]; omega) xs
  exact this.imp (fun h => by simpa using h)
theorem iSort (base : Nat) (A : Option Addr) (nn c : Nat) (xs : List Int) (w : World) (hn : nn = xs.length) (h1 : 1 ≤ nn) (hl : nn ≤ 1048576) (hO : Owns w base (.slice A nn c) xs) :
    Calls Try.prog 51 #[.slice A nn c] w (SortPost base A nn c xs w) := by
  subst hn
  rcases hO.2 with ⟨_, h0⟩ | ⟨g, cap, cur, hv, hb, hg, hnc, hcm, hcs, htake⟩
  · omega
  · simp only [Value.slice.injEq] at hv
    obtain ⟨rfl, _, rfl⟩ := hv
    have ht : cur.toList.take xs.length = xs.map (Value.int .i64) := by rw [← htake, Nat.mul_one]
    refine (Try.slices_Sort_int g 0 c xs w (holds_of_block_i hg ht) (Array.getElem?_eq_some_iff.1 hg).1 (by omega)).mono ?_
    rintro e w' ⟨he, n, os, rfl⟩
    refine ⟨he, _, sort_asc xs, fun x => List.mem_mergeSort, List.length_mergeSort xs, ?_, grownBy_sorted_i _⟩
    have := ownsRow_sorted_i (n := n) (os := os) (List.length_mergeSort (le := fun x y => decide (x ≤ y)) xs) hb hg hnc hcm hcs
    unfold Owns
    rw [List.length_mergeSort]
    exact this
def ClonePost (xs : List Int) (w : World) (e : Ending) (w' : World) : Prop := ∃ v, e = .returned v ∧ Owns w' w.heap.size v xs ∧ Below w.heap.size w w'
theorem iClone (A : Option Addr) (nn c : Nat) (xs : List Int) (w : World) (hn : nn = xs.length) (h1 : 1 ≤ nn) (hl : nn ≤ 1048576) (hA : Nums .i64 w A xs) :
    Calls Try.prog 44 #[.slice A nn c] w (ClonePost xs w) := by
  subst hn
  obtain ⟨b, off, rfl, _, hc⟩ := hA h1
  refine (Try.slices_Clone_int b off xs.length c xs w (Nat.le_refl _) (by omega) hc).mono ?_
  rintro e w' ⟨v, he, ho, _, hb⟩
  rw [List.take_length] at ho
  exact ⟨v, he, ho, hb⟩

theorem great_skip {ys acc : List Int} {k : Nat} {x : Int} (h : Hid (acc ++ greatL (ys.drop k) = greatL ys)) (hx : Hid (ys[k]? = some x)) (hw : anyWithin x (ys.drop (k + 1)) = true) : Hid (acc ++ greatL (ys.drop (k + 1)) = greatL ys) := by
  unfold Hid; rw [← h.out, drop_cons hx]
  conv => rhs; unfold greatL
  rw [if_pos hw]
theorem great_take {ys acc : List Int} {k : Nat} {x : Int} (h : Hid (acc ++ greatL (ys.drop k) = greatL ys)) (hx : Hid (ys[k]? = some x)) (hw : anyWithin x (ys.drop (k + 1)) = false) : Hid ((acc ++ [x]) ++ greatL (ys.drop (k + 1)) = greatL ys) := by
  unfold Hid; rw [← h.out, drop_cons hx]
  conv => rhs; unfold greatL
  rw [if_neg (by rw [hw]; simp)]; simp

set_option maxHeartbeats 2000000 in
theorem iGreatest (A : Option Addr) (nn c : Nat) (xs : List Int) (w : World) (hn : nn = xs.length) (h1 : 1 ≤ nn) (hl : nn ≤ 1048576) (hr : ∀ x ∈ xs, 0 ≤ x ∧ x < 256) (hA : Nums .i64 w A xs) :
    Calls Try.prog 40 #[.slice A nn c] w fun e w' => ∃ v, e = .returned v ∧ Owns w' w.heap.size v (tidyL xs) ∧ Below w.heap.size w w' := by
  subst hn
  have HC := Lib.hid (iClone A xs.length c xs w rfl h1 hl hA)
  have HR := Lib.hid hr
  clear hr hA
  go_enter Try.func40, Try.ntmps40
  go_wp2_with fail
  refine HC.out.mono ?_
  rintro e w1 ⟨v, rfl, ho, hb⟩
  obtain ⟨A1, c1, rfl, hc1, hm1, hn1, ha1⟩ := ho.form
  have hc63 : c1 ≤ 9223372036854775807 := by unfold maxLen at hm1; omega
  have HO1 := Lib.hid ho
  have HB1 := Lib.hid hb
  have HA1 := Lib.hid ha1
  clear ho hb hm1 hn1 ha1 HC
  go_wp2_with fail
  refine (iSort w.heap.size A1 _ c1 xs _ rfl h1 hl HO1.out).mono ?_
  rintro e w2 ⟨rfl, ys, hs, hm, hylen, ho, hg⟩
  have HG := Lib.hid (great_tidy HR.out hs hm)
  have HYR : Hid (∀ y ∈ ys, 0 ≤ y ∧ y < 256) := fun y hy => HR.out y ((hm y).1 hy)
  have HB2 : Hid (Below w.heap.size w w2) := bel_mark HB1.out hg (fun ad h => (HA1.out ad h).1)
  obtain ⟨A2, c2, hv2, _, _, hn2, _⟩ := ho.form
  rw [← hylen] at hv2 hc1 h1 hl
  simp only [Value.slice.injEq] at hv2
  obtain ⟨rfl, hx1, rfl⟩ := hv2
  have HN2 := Lib.hid hn2
  rw [← hylen]
  clear ho hg hs hm hx1 hn2 hylen HO1 HA1 HR
  go_wp2_with fail
  go_loopw [4, 13] (fun v i wr => ∃ (k : Nat) (acc : List Int), k ≤ ys.length ∧ i = .int .i64 k ∧ Hid (acc.length ≤ k) ∧ Hid (acc ++ greatL (ys.drop k) = greatL ys) ∧ Owns wr w2.heap.size v acc ∧ Below w2.heap.size w2 wr) (fun _ i _ => ys.length - (Go.RowKit.intOf i).toNat)
  case atStart => exact ⟨0, [], Nat.zero_le _, rfl, Nat.zero_le _, by unfold Hid; simp, Owns.nil _ _, Below.refl _ _⟩
  case round =>
    obtain ⟨k, acc, hk, rfl, hacc, hgr, hown, hbel⟩ := hrel
    have HOW := Lib.hid hown
    have HB := Lib.hid hbel
    clear hown hbel
    by_cases hlt : k < ys.length
    · obtain ⟨b, off, x, rfl, hcell, hx, _⟩ := (HN2.out.below HB.out).elem hlt
      obtain ⟨he1, he2⟩ := HYR.out x (elem_mem hx)
      have HD : Hid (∀ y ∈ ys.drop (k + 1), 0 ≤ y ∧ y < 256) := fun y hy => HYR.out y (List.mem_of_mem_drop hy)
      have hlen : Hid (ys.length - (k + 1) = (ys.drop (k + 1)).length) := by unfold Hid; simp
      have hal := hacc.out
      by_cases hck : c1 = k + 1
      · subst hck
        go_wp2_with fail
        refine (iWithinAny _ _ _ _ (ys.drop (k + 1)) _ (by rw [← hlen.out]; try omega) he1 he2 HD.out (by omega) (by exact Nums.none_ (by rw [← hlen.out]; omega))).mono ?_
        rintro e w' ⟨rfl, rfl⟩
        rcases hw : anyWithin x (ys.drop (k + 1)) with _ | _
        · have HT := great_take hgr hx hw
          have hww : Hid (anyWithin x (ys.drop (k + 1)) = false) := hw
          go_wp2_with (at_builtin; refine wp_append1 (W := wr) rfl _ _ rfl w2.heap.size u4 acc rfl HOW.out x rfl (by omega) HB.out.size ?_; intro v' w' hown' hgrow)
          have hb' := below_append HB.out HB.out.size HOW.out (Nat.le_refl _) hgrow
          go_roundw
          case rel => exact ⟨k + 1, acc ++ [x], by omega, by go_num, by unfold Hid; simp; omega, HT, hown', hb'⟩
          case measure => simp [Go.RowKit.intOf]; omega
        · have HT := great_skip hgr hx hw
          go_wp2_with fail
          go_roundw
          case rel => exact ⟨k + 1, acc, by omega, by go_num, by unfold Hid; omega, HT, HOW.out, HB.out⟩
          case measure => simp [Go.RowKit.intOf]; omega
      · go_wp2_with fail
        refine (iWithinAny _ _ _ _ (ys.drop (k + 1)) _ (by rw [← hlen.out]; try omega) he1 he2 HD.out (by omega) (by exact (HN2.out.below HB.out).from_ (k + 1))).mono ?_
        rintro e w' ⟨rfl, rfl⟩
        rcases hw : anyWithin x (ys.drop (k + 1)) with _ | _
        · have HT := great_take hgr hx hw
          have hww : Hid (anyWithin x (ys.drop (k + 1)) = false) := hw
          go_wp2_with (at_builtin; refine wp_append1 (W := wr) rfl _ _ rfl w2.heap.size u4 acc rfl HOW.out x rfl (by omega) HB.out.size ?_; intro v' w' hown' hgrow)
          have hb' := below_append HB.out HB.out.size HOW.out (Nat.le_refl _) hgrow
          go_roundw
          case rel => exact ⟨k + 1, acc ++ [x], by omega, by go_num, by unfold Hid; simp; omega, HT, hown', hb'⟩
          case measure => simp [Go.RowKit.intOf]; omega
        · have HT := great_skip hgr hx hw
          go_wp2_with fail
          go_roundw
          case rel => exact ⟨k + 1, acc, by omega, by go_num, by unfold Hid; omega, HT, HOW.out, HB.out⟩
          case measure => simp [Go.RowKit.intOf]; omega
    · obtain rfl : k = ys.length := by omega
      have HF : Hid (acc = tidyL xs) := by
        have := hgr.out
        rw [List.drop_length] at this
        unfold Hid; rw [← HG.out, ← this]; simp [greatL]
      clear hgr
      go_wp2
      go_ret
      exact ⟨_, rfl, by rw [← HF.out]; exact HOW.out.base HB2.out.size, bel_trans HB2.out HB.out⟩
end Go.Proofs.Ytfmknllemhdnaaa

namespace Go.Proofs.Ytfmknllemhdnaaa

def chainsT : List (List Nat) := [[0, 1, 3, 7, 15, 31, 63, 127, 255], [2, 6, 14, 30, 62, 126, 254], [4, 5, 13, 29, 61, 125, 253], [8, 9, 11, 27, 59, 123, 251], [10, 26, 58, 122, 250], [12, 28, 60, 124, 252], [16, 17, 19, 23, 55, 119, 247], [18, 22, 54, 118, 246], [20, 21, 53, 117, 245], [24, 25, 57, 121, 249], [32, 33, 35, 39, 47, 111, 239], [34, 38, 46, 110, 238], [36, 37, 45, 109, 237], [40, 41, 43, 107, 235], [42, 106, 234], [44, 108, 236], [48, 49, 51, 115, 243], [50, 114, 242], [52, 116, 244], [56, 120, 248], [64, 65, 67, 71, 79, 95, 223], [66, 70, 78, 94, 222], [68, 69, 77, 93, 221], [72, 73, 75, 91, 219], [74, 90, 218], [76, 92, 220], [80, 81, 83, 87, 215], [82, 86, 214], [84, 85, 213], [88, 89, 217], [96, 97, 99, 103, 231], [98, 102, 230], [100, 101, 229], [104, 105, 233], [112, 113, 241], [128, 129, 131, 135, 143, 159, 191], [130, 134, 142, 158, 190], [132, 133, 141, 157, 189], [136, 137, 139, 155, 187], [138, 154, 186], [140, 156, 188], [144, 145, 147, 151, 183], [146, 150, 182], [148, 149, 181], [152, 153, 185], [160, 161, 163, 167, 175], [162, 166, 174], [164, 165, 173], [168, 169, 171], [170], [172], [176, 177, 179], [178], [180], [184], [192, 193, 195, 199, 207], [194, 198, 206], [196, 197, 205], [200, 201, 203], [202], [204], [208, 209, 211], [210], [212], [216], [224, 225, 227], [226], [228], [232], [240]]
def chainOf : List Nat := [0, 0, 1, 0, 2, 2, 1, 0, 3, 3, 4, 3, 5, 2, 1, 0, 6, 6, 7, 6, 8, 8, 7, 6, 9, 9, 4, 3, 5, 2, 1, 0, 10, 10, 11, 10, 12, 12, 11, 10, 13, 13, 14, 13, 15, 12, 11, 10, 16, 16, 17, 16, 18, 8, 7, 6, 19, 9, 4, 3, 5, 2, 1, 0, 20, 20, 21, 20, 22, 22, 21, 20, 23, 23, 24, 23, 25, 22, 21, 20, 26, 26, 27, 26, 28, 28, 27, 26, 29, 29, 24, 23, 25, 22, 21, 20, 30, 30, 31, 30, 32, 32, 31, 30, 33, 33, 14, 13, 15, 12, 11, 10, 34, 34, 17, 16, 18, 8, 7, 6, 19, 9, 4, 3, 5, 2, 1, 0, 35, 35, 36, 35, 37, 37, 36, 35, 38, 38, 39, 38, 40, 37, 36, 35, 41, 41, 42, 41, 43, 43, 42, 41, 44, 44, 39, 38, 40, 37, 36, 35, 45, 45, 46, 45, 47, 47, 46, 45, 48, 48, 49, 48, 50, 47, 46, 45, 51, 51, 52, 51, 53, 43, 42, 41, 54, 44, 39, 38, 40, 37, 36, 35, 55, 55, 56, 55, 57, 57, 56, 55, 58, 58, 59, 58, 60, 57, 56, 55, 61, 61, 62, 61, 63, 28, 27, 26, 64, 29, 24, 23, 25, 22, 21, 20, 65, 65, 66, 65, 67, 32, 31, 30, 68, 33, 14, 13, 15, 12, 11, 10, 69, 34, 17, 16, 18, 8, 7, 6, 19, 9, 4, 3, 5, 2, 1, 0]
theorem chains_ok : (chainsT.all fun l => decide (l.Pairwise fun a b => a &&& b = a)) = true := by decide +kernel
theorem chain_in : ((List.range 256).all fun s => (chainsT.getD (chainOf.getD s 0) []).contains s && decide (chainOf.getD s 0 < 70)) = true := by decide +kernel
theorem nodup_bound : ∀ (n : Nat) (l : List Nat), l.Nodup → (∀ x ∈ l, x < n) → l.length ≤ n
  | 0, l, _, h => by
    cases l with
    | nil => simp
    | cons x r => exact absurd (h x (by simp)) (by omega)
  | n + 1, l, hd, h => by
    by_cases hn : n ∈ l
    · have h1 := nodup_bound n (l.erase n) (hd.erase n) (fun x hx => by
        have := (hd.mem_erase_iff).1 hx
        have := h x this.2
        omega)
      rw [List.length_erase_of_mem hn] at h1
      omega
    · have := nodup_bound n l hd (fun x hx => by
        have h2 := h x hx
        have : x ≠ n := fun e => hn (e ▸ hx)
        omega)
      omega
theorem chain_comp {a b : Nat} (ha : a < 256) (hb : b < 256) (h : chainOf.getD a 0 = chainOf.getD b 0) : a &&& b = a ∨ b &&& a = b := by
  have h1 := List.all_eq_true.1 chain_in a (List.mem_range.2 ha)
  have h2 := List.all_eq_true.1 chain_in b (List.mem_range.2 hb)
  simp only [Bool.and_eq_true, decide_eq_true_eq, List.contains_eq_mem] at h1 h2
  rw [← h] at h2
  obtain ⟨hma, _⟩ := h1
  obtain ⟨hmb, _⟩ := h2
  have hl : (chainsT.getD (chainOf.getD a 0) []).Pairwise fun a b => a &&& b = a := by
    rw [List.getD_eq_getElem?_getD]
    cases e : chainsT[chainOf.getD a 0]? with
    | none => exact List.Pairwise.nil
    | some l => exact of_decide_eq_true (List.all_eq_true.1 chains_ok l (List.mem_of_getElem? e))
  obtain ⟨i, hi, ei⟩ := List.mem_iff_getElem.1 hma
  obtain ⟨j, hj, ej⟩ := List.mem_iff_getElem.1 hmb
  rcases Nat.lt_trichotomy i j with hij | hij | hij
  · left; have := List.pairwise_iff_getElem.1 hl i j hi hj hij; rw [ei, ej] at this; exact this
  · subst hij; left; rw [← ei, ← ej]; exact Nat.and_self _
  · right; have := List.pairwise_iff_getElem.1 hl j i hj hi hij; rw [ei, ej] at this; exact this
/-- Sets that stand apart are no more than 70. -/
theorem apart_bound {xs : List Int} (hr : ∀ x ∈ xs, 0 ≤ x ∧ x < 256) (hp : pairB xs = true) : xs.length ≤ 70 := by
  have hd : (xs.map fun x => chainOf.getD x.toNat 0).Nodup := by
    unfold List.Nodup
    rw [List.pairwise_map, List.pairwise_iff_getElem]
    intro i j hi hj hij e
    have ha := hr _ (List.getElem_mem hi)
    have hb := hr _ (List.getElem_mem hj)
    have h1 := pair_lt hp hij (List.getElem?_eq_getElem hi) (List.getElem?_eq_getElem hj)
    rcases chain_comp (by omega) (by omega) e with h | h
    · have : withinB xs[i] xs[j] = true := by unfold withinB andI; rw [h]; simp; omega
      rw [h1.2.1] at this; cases this
    · have : withinB xs[j] xs[i] = true := by unfold withinB andI; rw [h]; simp; omega
      rw [h1.2.2] at this; cases this
  have := nodup_bound 70 _ hd (fun x hx => by
    obtain ⟨y, hy, rfl⟩ := List.mem_map.1 hx
    have hy2 := hr y hy
    have h1 := List.all_eq_true.1 chain_in y.toNat (List.mem_range.2 (by omega))
    simp only [Bool.and_eq_true, decide_eq_true_eq] at h1
    exact h1.2)
  simpa using this
end Go.Proofs.Ytfmknllemhdnaaa

namespace Go.Proofs.Ytfmknllemhdnaaa
open Go.RowKit

theorem tidy_sub {xs : List Int} (hr : ∀ x ∈ xs, 0 ≤ x ∧ x < 256) : ∀ x ∈ tidyL xs, x ∈ xs := fun x hx => ((tidy_mem hr x).1 hx).1
theorem tidy_over {xs : List Int} (hr : ∀ x ∈ xs, 0 ≤ x ∧ x < 256) {x : Int} (hx : x ∈ xs) : ∃ z ∈ tidyL xs, withinB x z = true := by
  obtain ⟨ys, hs, hm⟩ : ∃ ys : List Int, ys.Pairwise (· ≤ ·) ∧ (∀ x, x ∈ ys ↔ x ∈ xs) := by
    refine ⟨xs.mergeSort (fun a b => decide (a ≤ b)), ?_, fun x => List.mem_mergeSort⟩
    have := List.pairwise_mergeSort (le := fun a b : Int => decide (a ≤ b)) (fun a b c h1 h2 => by simp only [decide_eq_true_eq] at *; omega) (fun a b => by simp only [Bool.or_eq_true, decide_eq_true_eq]; omega) xs
    exact this.imp (fun h => by simpa using h)
  have h0 : ∀ y ∈ ys, 0 ≤ y := fun y hy => (hr y ((hm y).1 hy)).1
  have hc := great_cover ys h0 x ((hm x).2 hx)
  rw [great_tidy hr hs hm] at hc
  exact any_iff.1 hc
/-- Who is within one of the sets is within one of the greatest ones. -/
theorem tidy_any {xs : List Int} (hr : ∀ x ∈ xs, 0 ≤ x ∧ x < 256) {s : Int} (hs : 0 ≤ s) : anyWithin s (tidyL xs) = anyWithin s xs := by
  rw [Bool.eq_iff_iff, any_iff, any_iff]
  constructor
  · rintro ⟨x, hx, hw⟩; exact ⟨x, tidy_sub hr x hx, hw⟩
  · rintro ⟨x, hx, hw⟩
    obtain ⟨z, hz, hxz⟩ := tidy_over hr hx
    exact ⟨z, hz, within_trans hs (hr x hx).1 hw hxz⟩
theorem sets_range {t : Int} {xs : List Int} (h : ∀ x ∈ xs, setOkB t x = true) : ∀ x ∈ xs, 0 ≤ x ∧ x < 256 := fun x hx => by have := setOkB_lt (h x hx); omega
theorem tidy_ok {t : Int} {xs : List Int} (hne : xs ≠ []) (h : ∀ x ∈ xs, setOkB t x = true) : issueOkB t (tidyL xs) = true := by
  have hr := sets_range h
  have hp : pairB (tidyL xs) = true := pair_iff (tidy_asc xs) fun x hx y hy => ((tidy_mem hr x).1 hx).2 y ((tidy_mem hr y).1 hy).1
  have hr2 : ∀ x ∈ tidyL xs, 0 ≤ x ∧ x < 256 := fun x hx => hr x (tidy_sub hr x hx)
  obtain ⟨x, hx⟩ := List.exists_mem_of_ne_nil xs hne
  obtain ⟨z, hz, _⟩ := tidy_over hr hx
  unfold issueOkB partsOkB
  simp only [Bool.and_eq_true, decide_eq_true_eq, List.all_eq_true]
  exact ⟨⟨⟨List.length_pos_of_mem hz, apart_bound hr2 hp⟩, fun y hy => h y (tidy_sub hr y hy)⟩, hp⟩
theorem issue_nonempty {t : Int} {xs : List Int} (h : issueOkB t xs = true) : xs ≠ [] := by
  have := issue_ne h; intro e; subst e; simp at this
/-- Two issues with the same sets within are the same. -/
theorem any_ext {t : Int} {xs ys : List Int} (hx : issueOkB t xs = true) (hy : issueOkB t ys = true) (h : ∀ s, 0 ≤ s → s ≤ allOf t → anyWithin s xs = anyWithin s ys) : xs = ys := by
  obtain ⟨h1, h3⟩ := issue_things hx
  refine settles_same hx hy fun k hk0 hk => ?_
  unfold settlesB
  rw [hx, hy, setOk_of h1 h3 hk0 hk, h k hk0 hk]
theorem settles_any {t : Int} {xs : List Int} (hx : issueOkB t xs = true) {k : Int} (hk0 : 0 ≤ k) (hk : k ≤ allOf t) : settlesB t xs k = anyWithin k xs := by
  obtain ⟨h1, h3⟩ := issue_things hx
  unfold settlesB
  rw [hx, setOk_of h1 h3 hk0 hk]; rfl
theorem within_andI_left (a b : Int) : withinB (andI a b) a = true := by
  rw [within_iff (andI_nonneg _ _)]; intro i hi
  change ((((a.toNat &&& b.toNat : Nat) : Int)).toNat).testBit i = true at hi
  rw [Int.toNat_natCast, Nat.testBit_and, Bool.and_eq_true] at hi; exact hi.1
theorem within_andI_right (a b : Int) : withinB (andI a b) b = true := by
  rw [within_iff (andI_nonneg _ _)]; intro i hi
  change ((((a.toNat &&& b.toNat : Nat) : Int)).toNat).testBit i = true at hi
  rw [Int.toNat_natCast, Nat.testBit_and, Bool.and_eq_true] at hi; exact hi.2
theorem within_andI {c a b : Int} (hc : 0 ≤ c) (h1 : withinB c a = true) (h2 : withinB c b = true) : withinB c (andI a b) = true := by
  rw [within_iff hc] at *
  intro i hi
  show ((((a.toNat &&& b.toNat : Nat) : Int)).toNat).testBit i = true
  rw [Int.toNat_natCast, Nat.testBit_and, h1 i hi, h2 i hi]; rfl
theorem any_down {s u : Int} {xs : List Int} (hu : 0 ≤ u) (hs : 0 ≤ s) (h : withinB u s = true) (ha : anyWithin s xs = true) : anyWithin u xs = true := by
  obtain ⟨x, hx, hw⟩ := any_iff.1 ha
  exact any_iff.2 ⟨x, hx, within_trans hu hs h hw⟩
theorem andI_ok {t a b : Int} (ha : setOkB t a = true) : setOkB t (andI a b) = true := by
  have := setOkB_lt ha
  exact setOk_of this.1 this.2.1 (andI_nonneg _ _) (Int.le_trans (andI_le a b this.2.2.1) this.2.2.2.1)

def bothX (a b : List Int) : List Int := a.flatMap fun x => b.map fun y => andI x y
def bothL (t : Int) (a b : List Int) : List Int := if (issueOkB t a && issueOkB t b) = true then tidyL (bothX a b) else []
def eitherL (t : Int) (a b : List Int) : List Int := if (issueOkB t a && issueOkB t b) = true then tidyL (a ++ b) else []
def goodB (a b : List Int) (s : Int) : Bool := a.all fun x => anyWithin (andI s x) b
def ifTo (a b : List Int) (k : Nat) : List Int := ((List.range k).map fun n : Nat => (n : Int)).filter (goodB a b)
def ifL (t : Int) (a b : List Int) : List Int := if (issueOkB t a && issueOkB t b) = true then tidyL (ifTo a b (allOf t + 1).toNat) else []
def notL (t : Int) (a : List Int) : List Int := if issueOkB t a = true then ifL t a [0] else []
def whetherL (t : Int) (a : List Int) : List Int := if issueOkB t a = true then eitherL t a (notL t a) else []
def followsB (t : Int) (a b : List Int) : Bool := issueOkB t a && issueOkB t b && a.all fun x => anyWithin x b

section
variable {t : Int} {a b c : List Int}
theorem mem_bothX {s : Int} : s ∈ bothX a b ↔ ∃ x ∈ a, ∃ y ∈ b, andI x y = s := by unfold bothX; simp [List.mem_flatMap]
theorem bothX_sets (ha : issueOkB t a = true) : ∀ s ∈ bothX a b, setOkB t s = true := by
  intro s hs
  obtain ⟨x, hx, y, _, rfl⟩ := mem_bothX.1 hs
  exact andI_ok (issue_sets ha x hx)
theorem bothX_any (s : Int) (hs : 0 ≤ s) : anyWithin s (bothX a b) = (anyWithin s a && anyWithin s b) := by
  rw [Bool.eq_iff_iff, Bool.and_eq_true, any_iff, any_iff, any_iff]
  constructor
  · rintro ⟨z, hz, hw⟩
    obtain ⟨x, hx, y, hy, rfl⟩ := mem_bothX.1 hz
    exact ⟨⟨x, hx, within_trans hs (andI_nonneg _ _) hw (within_andI_left _ _)⟩, y, hy, within_trans hs (andI_nonneg _ _) hw (within_andI_right _ _)⟩
  · rintro ⟨⟨x, hx, h1⟩, y, hy, h2⟩
    exact ⟨_, mem_bothX.2 ⟨x, hx, y, hy, rfl⟩, within_andI hs h1 h2⟩
theorem both_eq (ha : issueOkB t a = true) (hb : issueOkB t b = true) : bothL t a b = tidyL (bothX a b) := by unfold bothL; rw [ha, hb]; rfl
theorem both_ok (ha : issueOkB t a = true) (hb : issueOkB t b = true) : issueOkB t (bothL t a b) = true := by
  rw [both_eq ha hb]
  refine tidy_ok (fun e => ?_) (bothX_sets ha)
  obtain ⟨x, hx⟩ := List.exists_mem_of_ne_nil a (issue_nonempty ha)
  obtain ⟨y, hy⟩ := List.exists_mem_of_ne_nil b (issue_nonempty hb)
  have := mem_bothX.2 ⟨x, hx, y, hy, rfl⟩
  rw [e] at this; cases this
theorem both_any (ha : issueOkB t a = true) (hb : issueOkB t b = true) {s : Int} (hs : 0 ≤ s) : anyWithin s (bothL t a b) = (anyWithin s a && anyWithin s b) := by
  rw [both_eq ha hb, tidy_any (sets_range (bothX_sets ha)) hs, bothX_any s hs]

theorem either_eq (ha : issueOkB t a = true) (hb : issueOkB t b = true) : eitherL t a b = tidyL (a ++ b) := by unfold eitherL; rw [ha, hb]; rfl
theorem eitherX_sets (ha : issueOkB t a = true) (hb : issueOkB t b = true) : ∀ s ∈ a ++ b, setOkB t s = true := by
  intro s hs
  rcases List.mem_append.1 hs with h | h
  · exact issue_sets ha s h
  · exact issue_sets hb s h
theorem either_ok (ha : issueOkB t a = true) (hb : issueOkB t b = true) : issueOkB t (eitherL t a b) = true := by
  rw [either_eq ha hb]
  refine tidy_ok (fun e => ?_) (eitherX_sets ha hb)
  exact issue_nonempty ha (List.append_eq_nil_iff.1 e).1
theorem either_any (ha : issueOkB t a = true) (hb : issueOkB t b = true) {s : Int} (hs : 0 ≤ s) : anyWithin s (eitherL t a b) = (anyWithin s a || anyWithin s b) := by
  rw [either_eq ha hb, tidy_any (sets_range (eitherX_sets ha hb)) hs]
  unfold anyWithin; rw [List.any_append]

theorem good_iff {s : Int} : goodB a b s = true ↔ ∀ u, 0 ≤ u → withinB u s = true → anyWithin u a = true → anyWithin u b = true := by
  unfold goodB
  rw [List.all_eq_true]
  constructor
  · intro h u hu hus hua
    obtain ⟨x, hx, hw⟩ := any_iff.1 hua
    exact any_down hu (andI_nonneg _ _) (within_andI hu hus hw) (h x hx)
  · intro h x hx
    exact h _ (andI_nonneg _ _) (within_andI_left _ _) (any_iff.2 ⟨x, hx, within_andI_right _ _⟩)
theorem good_down {s u : Int} (hu : 0 ≤ u) (h : withinB u s = true) (hg : goodB a b s = true) : goodB a b u = true := by
  unfold goodB at *
  rw [List.all_eq_true] at *
  intro x hx
  refine any_down (andI_nonneg _ _) (andI_nonneg _ _) (within_andI (andI_nonneg _ _) (within_trans (andI_nonneg _ _) hu (within_andI_left _ _) h) (within_andI_right _ _)) (hg x hx)
theorem mem_ifTo {k : Nat} {s : Int} : s ∈ ifTo a b k ↔ (0 ≤ s ∧ s < k ∧ goodB a b s = true) := by
  unfold ifTo
  rw [List.mem_filter, List.mem_map]
  constructor
  · rintro ⟨⟨n, hn, rfl⟩, h⟩
    rw [List.mem_range] at hn
    exact ⟨by omega, by omega, h⟩
  · rintro ⟨h0, h1, h⟩
    exact ⟨⟨s.toNat, by rw [List.mem_range]; omega, by omega⟩, h⟩
theorem issue_pos (ha : issueOkB t a = true) : ∀ x ∈ a, 0 ≤ x := fun x hx => (issue_range ha x hx).1
theorem if_eq (ha : issueOkB t a = true) (hb : issueOkB t b = true) : ifL t a b = tidyL (ifTo a b (allOf t + 1).toNat) := by unfold ifL; rw [ha, hb]; rfl
theorem ifX_sets (ha : issueOkB t a = true) : ∀ s ∈ ifTo a b (allOf t + 1).toNat, setOkB t s = true := by
  intro s hs
  obtain ⟨h0, h1, _⟩ := mem_ifTo.1 hs
  obtain ⟨h2, h3⟩ := issue_things ha
  exact setOk_of h2 h3 h0 (by have := allOf_lt t; omega)
theorem good_zero (hb : issueOkB t b = true) : goodB a b 0 = true := by
  unfold goodB; rw [List.all_eq_true]; intro x _
  obtain ⟨y, hy⟩ := List.exists_mem_of_ne_nil b (issue_nonempty hb)
  exact any_iff.2 ⟨y, hy, by have e : andI 0 x = 0 := by unfold andI; simp
                             rw [e]; exact within_zero y⟩
theorem if_ok (ha : issueOkB t a = true) (hb : issueOkB t b = true) : issueOkB t (ifL t a b) = true := by
  rw [if_eq ha hb]
  refine tidy_ok (fun e => ?_) (ifX_sets ha)
  have := mem_ifTo (a := a) (b := b) (k := (allOf t + 1).toNat) (s := 0)
  rw [e] at this
  exact absurd (this.2 ⟨by omega, by have := allOf_lt t; omega, good_zero hb⟩) (by simp)
theorem if_any (ha : issueOkB t a = true) (hb : issueOkB t b = true) {s : Int} (hs : 0 ≤ s) (hs2 : s ≤ allOf t) : anyWithin s (ifL t a b) = goodB a b s := by
  rw [if_eq ha hb, tidy_any (sets_range (ifX_sets ha)) hs, Bool.eq_iff_iff, any_iff]
  constructor
  · rintro ⟨z, hz, hw⟩
    obtain ⟨h0, _, hg⟩ := mem_ifTo.1 hz
    exact good_down hs hw hg
  · intro hg
    exact ⟨s, mem_ifTo.2 ⟨hs, by omega, hg⟩, within_refl s hs⟩

/-- Follows, said of all sets. -/
theorem follows_iff (ha : issueOkB t a = true) (hb : issueOkB t b = true) : followsB t a b = true ↔ ∀ s, 0 ≤ s → s ≤ allOf t → anyWithin s a = true → anyWithin s b = true := by
  unfold followsB
  rw [ha, hb, Bool.true_and, Bool.true_and, List.all_eq_true]
  constructor
  · intro h s hs _ hsa
    obtain ⟨x, hx, hw⟩ := any_iff.1 hsa
    exact any_down hs (issue_pos ha x hx) hw (h x hx)
  · intro h x hx
    have := setOkB_lt (issue_sets ha x hx)
    exact h x this.2.2.1 this.2.2.2.1 (any_iff.2 ⟨x, hx, within_refl x this.2.2.1⟩)

/-! The laws. -/
theorem law_both (ha : issueOkB t a = true) (hb : issueOkB t b = true) {k : Int} (h0 : 0 ≤ k) (hk : k ≤ allOf t) : settlesB t (bothL t a b) k = (settlesB t a k && settlesB t b k) := by
  rw [settles_any (both_ok ha hb) h0 hk, settles_any ha h0 hk, settles_any hb h0 hk, both_any ha hb h0]
theorem law_either (ha : issueOkB t a = true) (hb : issueOkB t b = true) {k : Int} (h0 : 0 ≤ k) (hk : k ≤ allOf t) : settlesB t (eitherL t a b) k = (settlesB t a k || settlesB t b k) := by
  rw [settles_any (either_ok ha hb) h0 hk, settles_any ha h0 hk, settles_any hb h0 hk, either_any ha hb h0]
theorem law_absorb (ha : issueOkB t a = true) (hb : issueOkB t b = true) : bothL t a (eitherL t a b) = a := by
  refine any_ext (both_ok ha (either_ok ha hb)) ha fun s h0 _ => ?_
  rw [both_any ha (either_ok ha hb) h0, either_any ha hb h0]
  cases anyWithin s a <;> simp
theorem law_carry (ha : issueOkB t a = true) (hb : issueOkB t b = true) (hc : issueOkB t c = true) : followsB t c (ifL t a b) = followsB t (bothL t c a) b := by
  rw [Bool.eq_iff_iff, follows_iff hc (if_ok ha hb), follows_iff (both_ok hc ha) hb]
  constructor
  · intro h s h0 hs hsb
    rw [both_any hc ha h0, Bool.and_eq_true] at hsb
    have := h s h0 hs hsb.1
    rw [if_any ha hb h0 hs, good_iff] at this
    exact this s h0 (within_refl s h0) hsb.2
  · intro h s h0 hs hsc
    rw [if_any ha hb h0 hs, good_iff]
    intro u hu hus hua
    have hu2 : u ≤ allOf t := Int.le_trans (within_le hus h0) hs
    refine h u hu hu2 ?_
    rw [both_any hc ha hu, Bool.and_eq_true]
    exact ⟨any_down hu h0 hus hsc, hua⟩
theorem law_ifEither (ha : issueOkB t a = true) (hb : issueOkB t b = true) (hc : issueOkB t c = true) (h1 : a.length ≤ 1) : ifL t a (eitherL t b c) = eitherL t (ifL t a b) (ifL t a c) := by
  refine any_ext (if_ok ha (either_ok hb hc)) (either_ok (if_ok ha hb) (if_ok ha hc)) fun s h0 hs => ?_
  rw [if_any ha (either_ok hb hc) h0 hs, either_any (if_ok ha hb) (if_ok ha hc) h0, if_any ha hb h0 hs, if_any ha hc h0 hs]
  have hne := issue_ne ha
  match a, hne, h1 with
  | [x], _, _ =>
    unfold goodB
    simp only [List.all_cons, List.all_nil, Bool.and_true]
    exact either_any hb hc (andI_nonneg _ _)
theorem all_pow (h1 : 1 ≤ t) (h3 : t ≤ 3) : ∃ n : Nat, n ≤ 8 ∧ allOf t = (2 ^ n : Nat) - 1 := by
  have : t = 1 ∨ t = 2 ∨ t = 3 := by omega
  rcases this with rfl | rfl | rfl
  · exact ⟨2, by omega, rfl⟩
  · exact ⟨4, by omega, rfl⟩
  · exact ⟨8, by omega, rfl⟩
/-- Within the rest is: nothing in common. -/
theorem comp_within {s g : Int} (h1 : 1 ≤ t) (h3 : t ≤ 3) (hs : 0 ≤ s) (hs2 : s ≤ allOf t) (hg : 0 ≤ g) (hg2 : g ≤ allOf t) : withinB s (allOf t - g) = true ↔ andI s g = 0 := by
  obtain ⟨n, _, hn⟩ := all_pow h1 h3
  rw [hn] at hs2 hg2 ⊢
  rw [within_iff hs]
  have hsl : s.toNat < 2 ^ n := by omega
  have hgl : g.toNat < 2 ^ n := by omega
  have e : (((2 ^ n : Nat) : Int) - 1 - g).toNat = 2 ^ n - (g.toNat + 1) := by omega
  rw [e]
  constructor
  · intro h
    have : s.toNat &&& g.toNat = 0 := by
      apply Nat.eq_of_testBit_eq
      intro i
      rw [Nat.testBit_and, Nat.zero_testBit]
      cases hi : s.toNat.testBit i
      · rfl
      · have := h i hi
        rw [Nat.testBit_two_pow_sub_succ hgl, Bool.and_eq_true] at this
        cases hgi : g.toNat.testBit i
        · rfl
        · rw [hgi] at this; simp at this
    unfold andI; omega
  · intro h i hi
    have h : s.toNat &&& g.toNat = 0 := by unfold andI at h; omega
    have h2 := congrArg (fun x => x.testBit i) h
    simp only [Nat.testBit_and, hi, Bool.true_and, Nat.zero_testBit] at h2
    rw [Nat.testBit_two_pow_sub_succ hgl, h2]
    have : i < n := by
      rcases Nat.lt_or_ge i n with h | h
      · exact h
      · rw [Nat.testBit_lt_two_pow (Nat.lt_of_lt_of_le hsl (Nat.pow_le_pow_right (by omega) h))] at hi; cases hi
    simp [this]
theorem within_nothing {s : Int} (hs : 0 ≤ s) : withinB s 0 = true ↔ s = 0 := by
  constructor
  · intro h; have := within_le h (by omega); omega
  · rintro rfl; exact within_refl 0 (by omega)
theorem union_all (ha : issueOkB t a = true) : 0 ≤ unionI a ∧ unionI a ≤ allOf t := by
  have := setOkB_lt (union_ok ha); omega
/-- Nothing in common with what is granted is: nothing but the empty set settles it within. -/
theorem not_good (ha : issueOkB t a = true) {s : Int} : goodB a [0] s = true ↔ andI s (unionI a) = 0 := by
  have hp := issue_pos ha
  have hu := union_all ha
  rw [good_iff]
  constructor
  · intro h
    have key : ∀ x ∈ a, andI s x = 0 := fun x hx => by
      have := h _ (andI_nonneg _ _) (within_andI_left s x) (any_iff.2 ⟨x, hx, within_andI_right _ _⟩)
      obtain ⟨z, hz, hw⟩ := any_iff.1 this
      rw [List.mem_singleton] at hz; subst hz
      exact (within_nothing (andI_nonneg _ _)).1 hw
    -- what is granted is within the rest
    obtain ⟨h1, h3⟩ := issue_things ha
    have hw : withinB (unionI a) (allOf 3 - andI s (allOf 3)) = true := by
      refine union_least hp fun x hx => ?_
      have hx2 := issue_range ha x hx
      rw [comp_within (t := 3) (by omega) (by omega) hx2.1 (by have : allOf 3 = 255 := rfl; omega) (andI_nonneg _ _) (andI_le' _ _ (by decide))]
      have := key x hx
      have h2 : withinB (andI x (andI s (allOf 3))) (andI s x) = true := within_andI (andI_nonneg _ _) (within_trans (andI_nonneg _ _) (andI_nonneg _ _) (within_andI_right _ _) (within_andI_left _ _)) (within_andI_left _ _)
      rw [this] at h2
      exact (within_nothing (andI_nonneg _ _)).1 h2
    have hur := union_range (issue_range ha)
    rw [comp_within (t := 3) (by omega) (by omega) hu.1 (by have : allOf 3 = 255 := rfl; omega) (andI_nonneg _ _) (andI_le' _ _ (by decide))] at hw
    have h4 : withinB (andI s (unionI a)) (andI (unionI a) (andI s (allOf 3))) = true := by
      refine within_andI (andI_nonneg _ _) (within_andI_right _ _) (within_andI (andI_nonneg _ _) (within_andI_left _ _) ?_)
      refine within_trans (andI_nonneg _ _) hu.1 (within_andI_right _ _) ?_
      exact (within_all (t := 3) (by omega) (by omega) hu.1).2 (by have : allOf 3 = 255 := rfl; omega)
    rw [hw] at h4
    exact (within_nothing (andI_nonneg _ _)).1 h4
  · intro h u hu0 hus hua
    obtain ⟨x, hx, hw⟩ := any_iff.1 hua
    have h5 : withinB u (andI s (unionI a)) = true := within_andI hu0 hus (within_trans hu0 (hp x hx) hw (mem_union hp hx))
    rw [h] at h5
    exact any_iff.2 ⟨0, by simp, h5⟩
theorem zero_issue (h1 : 1 ≤ t) (h3 : t ≤ 3) : issueOkB t [0] = true := issue_one (setOk_of h1 h3 (by omega) (allOf_lt t).1)
theorem rest_ok (ha : issueOkB t a = true) : setOkB t (allOf t - unionI a) = true := by
  obtain ⟨h1, h3⟩ := issue_things ha
  have := union_all ha
  exact setOk_of h1 h3 (by omega) (by omega)
theorem not_eq (ha : issueOkB t a = true) : notL t a = ifL t a [0] := by unfold notL; rw [ha]; rfl
theorem not_ok (ha : issueOkB t a = true) : issueOkB t (notL t a) = true := by
  obtain ⟨h1, h3⟩ := issue_things ha
  rw [not_eq ha]; exact if_ok ha (zero_issue h1 h3)
theorem any_one (s g : Int) : anyWithin s [g] = withinB s g := by unfold anyWithin; simp
theorem law_not (ha : issueOkB t a = true) : notL t a = [allOf t - unionI a] := by
  obtain ⟨h1, h3⟩ := issue_things ha
  have hu := union_all ha
  refine any_ext (not_ok ha) (issue_one (rest_ok ha)) fun s h0 hs => ?_
  rw [not_eq ha, if_any ha (zero_issue h1 h3) h0 hs, any_one, Bool.eq_iff_iff, not_good ha, comp_within h1 h3 h0 hs hu.1 hu.2]
theorem union_one {g : Int} (h : 0 ≤ g) : unionI [g] = g := by unfold unionI orI; simp; omega
theorem law_notnot (ha : issueOkB t a = true) : notL t (notL t a) = [unionI a] := by
  have hu := union_all ha
  rw [law_not (not_ok ha), law_not ha, union_one (by omega)]
  congr 1; omega

theorem union_tidy {xs : List Int} (hr : ∀ x ∈ xs, 0 ≤ x ∧ x < 256) : unionI (tidyL xs) = unionI xs := by
  have hp : ∀ x ∈ xs, 0 ≤ x := fun x hx => (hr x hx).1
  have hpt : ∀ x ∈ tidyL xs, 0 ≤ x := fun x hx => hp x (tidy_sub hr x hx)
  have h1 := union_range hr
  have h2 := union_range (xs := tidyL xs) fun x hx => hr x (tidy_sub hr x hx)
  refine within_anti h2.1 h1.1 (union_least hpt fun x hx => mem_union hp (tidy_sub hr x hx)) (union_least hp fun x hx => ?_)
  obtain ⟨z, hz, hw⟩ := tidy_over hr hx
  exact within_trans (hp x hx) (hpt z hz) hw (mem_union hpt hz)
theorem fold_bit : ∀ (xs : List Int) (s : Int) (i : Nat), (xs.foldl orI s).toNat.testBit i = (s.toNat.testBit i || xs.any fun x => x.toNat.testBit i)
  | [], s, i => by simp
  | x :: r, s, i => by
    rw [List.foldl_cons, fold_bit r, List.any_cons]
    show ((((s.toNat ||| x.toNat : Nat) : Int)).toNat.testBit i || _) = _
    rw [Int.toNat_natCast, Nat.testBit_or, Bool.or_assoc]
theorem union_bit (xs : List Int) (i : Nat) : (unionI xs).toNat.testBit i = xs.any fun x => x.toNat.testBit i := by
  unfold unionI; rw [fold_bit]; simp
theorem law_granted_both (ha : issueOkB t a = true) (hb : issueOkB t b = true) : unionI (bothL t a b) = andI (unionI a) (unionI b) := by
  rw [both_eq ha hb, union_tidy (sets_range (bothX_sets ha))]
  have hx := union_range (sets_range (bothX_sets (b := b) ha))
  have : (unionI (bothX a b)).toNat = (unionI a).toNat &&& (unionI b).toNat := by
    apply Nat.eq_of_testBit_eq
    intro i
    rw [union_bit, Nat.testBit_and, union_bit, union_bit, Bool.eq_iff_iff, Bool.and_eq_true, List.any_eq_true, List.any_eq_true, List.any_eq_true]
    constructor
    · rintro ⟨z, hz, hi⟩
      obtain ⟨x, hx, y, hy, rfl⟩ := mem_bothX.1 hz
      change ((((x.toNat &&& y.toNat : Nat) : Int)).toNat).testBit i = true at hi
      rw [Int.toNat_natCast, Nat.testBit_and, Bool.and_eq_true] at hi
      exact ⟨⟨x, hx, hi.1⟩, y, hy, hi.2⟩
    · rintro ⟨⟨x, hx, h1⟩, y, hy, h2⟩
      refine ⟨_, mem_bothX.2 ⟨x, hx, y, hy, rfl⟩, ?_⟩
      show ((((x.toNat &&& y.toNat : Nat) : Int)).toNat).testBit i = true
      rw [Int.toNat_natCast, Nat.testBit_and, h1, h2]; rfl
  unfold andI; omega
theorem whether_eq (ha : issueOkB t a = true) : whetherL t a = eitherL t a (notL t a) := by unfold whetherL; rw [ha]; rfl
theorem whether_ok (ha : issueOkB t a = true) : issueOkB t (whetherL t a) = true := by rw [whether_eq ha]; exact either_ok ha (not_ok ha)
theorem or_rest {g : Int} (h1 : 1 ≤ t) (h3 : t ≤ 3) (hg : 0 ≤ g) (hg2 : g ≤ allOf t) : orI g (allOf t - g) = allOf t := by
  obtain ⟨n, hn8, hn⟩ := all_pow h1 h3
  have hal := (allOf_lt t).2
  have hz : andI g (allOf t - g) = 0 := by
    have := (comp_within (s := allOf t - g) (g := g) h1 h3 (by omega) (by omega) hg hg2).1 (within_refl _ (by omega))
    unfold andI at *; rw [Nat.and_comm]; exact this
  have := orI_eq g (allOf t - g) hg (by omega) (by omega) (by omega)
  omega
theorem law_whether_all (ha : issueOkB t a = true) : unionI (whetherL t a) = allOf t := by
  obtain ⟨h1, h3⟩ := issue_things ha
  have hu := union_all ha
  rw [whether_eq ha, either_eq ha (not_ok ha), union_tidy (sets_range (eitherX_sets ha (not_ok ha))), law_not ha]
  unfold unionI
  rw [List.foldl_append]
  show orI (unionI a) _ = _
  exact or_rest h1 h3 hu.1 hu.2
theorem law_whether_twice (ha : issueOkB t a = true) : whetherL t (whetherL t a) = whetherL t a := by
  have hw := whether_ok ha
  rw [whether_eq hw, law_not hw, law_whether_all ha]
  have hz : issueOkB t [allOf t - allOf t] = true := by
    obtain ⟨h1, h3⟩ := issue_things ha
    rw [show allOf t - allOf t = 0 by omega]; exact zero_issue h1 h3
  refine any_ext (either_ok hw hz) hw fun s h0 _ => ?_
  rw [either_any hw hz h0, any_one, show allOf t - allOf t = 0 by omega]
  cases h : anyWithin s (whetherL t a)
  · cases h2 : withinB s 0
    · rfl
    · rw [(within_nothing h0).1 h2] at h
      obtain ⟨y, hy⟩ := List.exists_mem_of_ne_nil _ (issue_nonempty hw)
      rw [any_iff.2 ⟨y, hy, within_zero y⟩] at h; cases h
  · rfl
theorem law_whether_follows (ha : issueOkB t a = true) : followsB t a (whetherL t a) = true := by
  rw [follows_iff ha (whether_ok ha), whether_eq ha]
  intro s h0 _ h
  rw [either_any ha (not_ok ha) h0, h]; rfl
theorem law_follows_both (ha : issueOkB t a = true) (hb : issueOkB t b = true) : decide (bothL t a b = a) = followsB t a b := by
  rw [Bool.eq_iff_iff, decide_eq_true_eq, follows_iff ha hb]
  constructor
  · intro h s h0 _ hs
    have := both_any ha hb h0
    rw [h, hs] at this
    simpa using this.symm
  · intro h
    refine any_ext (both_ok ha hb) ha fun s h0 hs => ?_
    rw [both_any ha hb h0]
    cases hsa : anyWithin s a
    · rfl
    · rw [h s h0 hs hsa]; rfl
theorem law_follows_if (ha : issueOkB t a = true) (hb : issueOkB t b = true) : settlesB t (ifL t a b) (allOf t) = followsB t a b := by
  have hal := allOf_lt t
  obtain ⟨h1, h3⟩ := issue_things ha
  rw [settles_any (if_ok ha hb) hal.1 (Int.le_refl _), if_any ha hb hal.1 (Int.le_refl _), Bool.eq_iff_iff, good_iff, follows_iff ha hb]
  constructor
  · exact fun h s h0 hs hsa => h s h0 ((within_all h1 h3 h0).2 hs) hsa
  · exact fun h u hu hw hua => h u hu (within_le hw hal.1) hua
end
end Go.Proofs.Ytfmknllemhdnaaa
