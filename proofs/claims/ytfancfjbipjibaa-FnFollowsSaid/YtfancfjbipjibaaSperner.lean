/-
  No more than 70 sets of eight worlds stand apart: the 256 sets lie on 70 chains.
-/
import Derived.Test.YtfancfjbipjibaaMathC
namespace Go.Proofs.Ytfancfjbipjibaa

def chainsT : List (List Nat) := [[0, 1, 3, 7, 15, 31, 63, 127, 255], [2, 6, 14, 30, 62, 126, 254], [4, 5, 13, 29, 61, 125, 253], [8, 9, 11, 27, 59, 123, 251], [10, 26, 58, 122, 250], [12, 28, 60, 124, 252], [16, 17, 19, 23, 55, 119, 247], [18, 22, 54, 118, 246], [20, 21, 53, 117, 245], [24, 25, 57, 121, 249], [32, 33, 35, 39, 47, 111, 239], [34, 38, 46, 110, 238], [36, 37, 45, 109, 237], [40, 41, 43, 107, 235], [42, 106, 234], [44, 108, 236], [48, 49, 51, 115, 243], [50, 114, 242], [52, 116, 244], [56, 120, 248], [64, 65, 67, 71, 79, 95, 223], [66, 70, 78, 94, 222], [68, 69, 77, 93, 221], [72, 73, 75, 91, 219], [74, 90, 218], [76, 92, 220], [80, 81, 83, 87, 215], [82, 86, 214], [84, 85, 213], [88, 89, 217], [96, 97, 99, 103, 231], [98, 102, 230], [100, 101, 229], [104, 105, 233], [112, 113, 241], [128, 129, 131, 135, 143, 159, 191], [130, 134, 142, 158, 190], [132, 133, 141, 157, 189], [136, 137, 139, 155, 187], [138, 154, 186], [140, 156, 188], [144, 145, 147, 151, 183], [146, 150, 182], [148, 149, 181], [152, 153, 185], [160, 161, 163, 167, 175], [162, 166, 174], [164, 165, 173], [168, 169, 171], [170], [172], [176, 177, 179], [178], [180], [184], [192, 193, 195, 199, 207], [194, 198, 206], [196, 197, 205], [200, 201, 203], [202], [204], [208, 209, 211], [210], [212], [216], [224, 225, 227], [226], [228], [232], [240]]
def chainOf : List Nat := [0, 0, 1, 0, 2, 2, 1, 0, 3, 3, 4, 3, 5, 2, 1, 0, 6, 6, 7, 6, 8, 8, 7, 6, 9, 9, 4, 3, 5, 2, 1, 0, 10, 10, 11, 10, 12, 12, 11, 10, 13, 13, 14, 13, 15, 12, 11, 10, 16, 16, 17, 16, 18, 8, 7, 6, 19, 9, 4, 3, 5, 2, 1, 0, 20, 20, 21, 20, 22, 22, 21, 20, 23, 23, 24, 23, 25, 22, 21, 20, 26, 26, 27, 26, 28, 28, 27, 26, 29, 29, 24, 23, 25, 22, 21, 20, 30, 30, 31, 30, 32, 32, 31, 30, 33, 33, 14, 13, 15, 12, 11, 10, 34, 34, 17, 16, 18, 8, 7, 6, 19, 9, 4, 3, 5, 2, 1, 0, 35, 35, 36, 35, 37, 37, 36, 35, 38, 38, 39, 38, 40, 37, 36, 35, 41, 41, 42, 41, 43, 43, 42, 41, 44, 44, 39, 38, 40, 37, 36, 35, 45, 45, 46, 45, 47, 47, 46, 45, 48, 48, 49, 48, 50, 47, 46, 45, 51, 51, 52, 51, 53, 43, 42, 41, 54, 44, 39, 38, 40, 37, 36, 35, 55, 55, 56, 55, 57, 57, 56, 55, 58, 58, 59, 58, 60, 57, 56, 55, 61, 61, 62, 61, 63, 28, 27, 26, 64, 29, 24, 23, 25, 22, 21, 20, 65, 65, 66, 65, 67, 32, 31, 30, 68, 33, 14, 13, 15, 12, 11, 10, 69, 34, 17, 16, 18, 8, 7, 6, 19, 9, 4, 3, 5, 2, 1, 0]
theorem chains_ok : (chainsT.all fun l => decide (l.Pairwise fun a b => a &&& b = a)) = true := by decide +kernel
theorem chain_in : ((List.range 256).all fun s => (chainsT.getD (chainOf.getD s 0) []).contains s && decide (chainOf.getD s 0 < 70)) = true := by decide +kernel
theorem nodup_bound : ∀ (n : Nat) (l : List Nat), l.Nodup → (∀ x ∈ l, x < n) → l.length ≤ n
  | 0, l, _, h => by
    cases l with
    | nil => simp
    | cons x r => exact absurd (h x (by simp)) (by omega)
  | n + 1, l, hd, h => by
    by_cases hn : n ∈ l
    · have h1 := nodup_bound n (l.erase n) (hd.erase n) (fun x hx => by
        have := (hd.mem_erase_iff).1 hx
        have := h x this.2
        omega)
      rw [List.length_erase_of_mem hn] at h1
      omega
    · have := nodup_bound n l hd (fun x hx => by
        have h2 := h x hx
        have : x ≠ n := fun e => hn (e ▸ hx)
        omega)
      omega
theorem chain_comp {a b : Nat} (ha : a < 256) (hb : b < 256) (h : chainOf.getD a 0 = chainOf.getD b 0) : a &&& b = a ∨ b &&& a = b := by
  have h1 := List.all_eq_true.1 chain_in a (List.mem_range.2 ha)
  have h2 := List.all_eq_true.1 chain_in b (List.mem_range.2 hb)
  simp only [Bool.and_eq_true, decide_eq_true_eq, List.contains_eq_mem] at h1 h2
  rw [← h] at h2
  obtain ⟨hma, _⟩ := h1
  obtain ⟨hmb, _⟩ := h2
  have hl : (chainsT.getD (chainOf.getD a 0) []).Pairwise fun a b => a &&& b = a := by
    rw [List.getD_eq_getElem?_getD]
    cases e : chainsT[chainOf.getD a 0]? with
    | none => exact List.Pairwise.nil
    | some l => exact of_decide_eq_true (List.all_eq_true.1 chains_ok l (List.mem_of_getElem? e))
  obtain ⟨i, hi, ei⟩ := List.mem_iff_getElem.1 hma
  obtain ⟨j, hj, ej⟩ := List.mem_iff_getElem.1 hmb
  rcases Nat.lt_trichotomy i j with hij | hij | hij
  · left; have := List.pairwise_iff_getElem.1 hl i j hi hj hij; rw [ei, ej] at this; exact this
  · subst hij; left; rw [← ei, ← ej]; exact Nat.and_self _
  · right; have := List.pairwise_iff_getElem.1 hl j i hj hi hij; rw [ei, ej] at this; exact this
/-- Sets that stand apart are no more than 70. -/
theorem apart_bound {xs : List Int} (hr : ∀ x ∈ xs, 0 ≤ x ∧ x < 256) (hp : pairB xs = true) : xs.length ≤ 70 := by
  have hd : (xs.map fun x => chainOf.getD x.toNat 0).Nodup := by
    unfold List.Nodup
    rw [List.pairwise_map, List.pairwise_iff_getElem]
    intro i j hi hj hij e
    have ha := hr _ (List.getElem_mem hi)
    have hb := hr _ (List.getElem_mem hj)
    have h1 := pair_lt hp hij (List.getElem?_eq_getElem hi) (List.getElem?_eq_getElem hj)
    rcases chain_comp (by omega) (by omega) e with h | h
    · have : withinB xs[i] xs[j] = true := by unfold withinB andI; rw [h]; simp; omega
      rw [h1.2.1] at this; cases this
    · have : withinB xs[j] xs[i] = true := by unfold withinB andI; rw [h]; simp; omega
      rw [h1.2.2] at this; cases this
  have := nodup_bound 70 _ hd (fun x hx => by
    obtain ⟨y, hy, rfl⟩ := List.mem_map.1 hx
    have hy2 := hr y hy
    have h1 := List.all_eq_true.1 chain_in y.toNat (List.mem_range.2 (by omega))
    simp only [Bool.and_eq_true, decide_eq_true_eq] at h1
    exact h1.2)
  simpa using this
end Go.Proofs.Ytfancfjbipjibaa
