/-
  What the proofs of this seat's statements share (ResN, ResI).
-/
import Derived.Lib.SlicesCompact
import Derived.Test.YtbiifcdlfmeahaaU17
import Derived.Test.YtbiifcdlfmeahaaU7
import Derived.Test.YtbiifcdlfmeahaaU14
import Derived.Test.YtbiifcdlfmeahaaU12

namespace Go.Proofs.Ytbiifcdlfmeahaa
open Go.RowKit

theorem union_take {xs : List Int} {k : Nat} {x : Int} (hx : Hid (xs[k]? = some x)) : unionI (xs.take (k + 1)) = orI (unionI (xs.take k)) x := by
  unfold unionI; rw [take_snoc hx, List.foldl_append]; rfl
theorem union_le {t : Int} (h1 : 1 ≤ t) (h3 : t ≤ 3) {xs : List Int} (hs : ∀ x ∈ xs, setOkB t x = true) : 0 ≤ unionI xs ∧ unionI xs ≤ allOf t := by
  have hr : ∀ x ∈ xs, 0 ≤ x := fun x hx => (setOkB_lt (hs x hx)).2.2.1
  have h0 : 0 ≤ unionI xs := (fold_within xs 0 (by omega) hr).2.2
  refine ⟨h0, (within_all h1 h3 h0).1 (union_least hr fun x hx => ?_)⟩
  have := setOkB_lt (hs x hx)
  exact (within_all h1 h3 this.2.2.1).2 this.2.2.2.1
theorem take_sets {t : Int} {xs : List Int} (hs : ∀ x ∈ xs, setOkB t x = true) (k : Nat) : ∀ x ∈ xs.take k, setOkB t x = true := fun x hx => hs x (List.mem_of_mem_take hx)
theorem andNot_more {n : Nat} {g x : Int} (hn : n ≤ 8) (h0 : 0 ≤ g) (h1 : g ≤ ((2 ^ n : Nat) : Int) - 1) (hx0 : 0 ≤ x) (hx : x ≤ ((2 ^ n : Nat) : Int) - 1) :
    bits .andNot .i64 (((2 ^ n : Nat) : Int) - 1 - g) x = ((2 ^ n : Nat) : Int) - 1 - orI g x := by
  obtain ⟨a, rfl⟩ : ∃ a : Nat, g = a := ⟨g.toNat, by omega⟩
  obtain ⟨b, rfl⟩ : ∃ b : Nat, x = b := ⟨x.toNat, by omega⟩
  have hp8 : 2 ^ n ≤ 2 ^ 8 := Nat.pow_le_pow_right (by omega) hn
  have ha : a < 2 ^ n := by omega
  have hb : b < 2 ^ n := by omega
  have hab : a ||| b < 2 ^ n := Nat.or_lt_two_pow ha hb
  have e0 : ((2 ^ n : Nat) : Int) - 1 - (a : Int) = ((2 ^ n - (a + 1) : Nat) : Int) := by omega
  rw [e0]
  have e : bits .andNot .i64 ((2 ^ n - (a + 1) : Nat) : Int) (b : Int) = (((2 ^ n - (a + 1)) &&& (2 ^ 64 - (b + 1)) : Nat) : Int) := by
    have hx : (2 ^ n - (a + 1)) &&& (2 ^ 64 - (b + 1)) ≤ 2 ^ n - (a + 1) := Nat.and_le_left
    show IntKind.i64.wrap ((BitVec.ofInt 64 ((2 ^ n - (a + 1) : Nat) : Int) &&& ~~~BitVec.ofInt 64 (b : Int)).toNat : Int) = _
    rw [BitVec.toNat_and, BitVec.toNat_not, BitVec.ofInt_natCast, BitVec.ofInt_natCast, BitVec.toNat_ofNat, BitVec.toNat_ofNat, Nat.mod_eq_of_lt (by omega), Nat.mod_eq_of_lt (by omega), IntKind.wrap_i64,
      show 2 ^ 64 - 1 - b = 2 ^ 64 - (b + 1) by omega]
    omega
  have h2 : (2 ^ n - (a + 1)) &&& (2 ^ 64 - (b + 1)) = 2 ^ n - ((a ||| b) + 1) := by
    apply Nat.eq_of_testBit_eq
    intro i
    rw [Nat.testBit_and, Nat.testBit_two_pow_sub_succ (show b < 2 ^ 64 by omega), Nat.testBit_two_pow_sub_succ ha, Nat.testBit_two_pow_sub_succ hab, Nat.testBit_or]
    by_cases hi : i < n
    · simp [hi, show i < 64 by omega]
    · simp [hi]
  rw [e, h2, orI_nat]; omega

/-- Marked sets. -/
def markF (xs : List Int) : Nat → Value := fun i => .bool (decide ((i : Int) ∈ xs))
theorem markF_nil : (fun _ : Nat => Value.bool false) = markF [] := by funext i; simp [markF]
theorem markF_set {xs : List Int} {m : Nat} {z : Int} (hz : z = (m : Int)) (i : Nat) : (if i = m then Value.bool true else markF xs i) = markF (xs ++ [z]) i := by
  subst hz
  unfold markF
  by_cases e : i = m
  · subst e; rw [if_pos rfl, decide_eq_true (by simp)]
  · rw [if_neg e]
    congr 1
    rw [decide_eq_decide]
    have e2 : ¬ (i : Int) = (m : Int) := by omega
    simp [e2]
def colTo (xs : List Int) (k : Nat) : List Int := ((List.range k).map (fun n : Nat => (n : Int))).filter (fun s => decide (s ∈ xs))
theorem colTo_next (xs : List Int) (k : Nat) : colTo xs (k + 1) = colTo xs k ++ (if decide ((k : Int) ∈ xs) = true then [(k : Int)] else []) := by
  unfold colTo
  rw [List.range_succ, List.map_append, List.filter_append]
  congr 1
  simp only [List.map_cons, List.map_nil, List.filter_cons, List.filter_nil]
theorem colTo_len (xs : List Int) (k : Nat) : (colTo xs k).length ≤ k := by
  unfold colTo
  refine Nat.le_trans (List.length_filter_le _ _) ?_
  rw [List.length_map, List.length_range]; exact Nat.le_refl _
theorem colTo_set {xs : List Int} {n : Nat} (hn : n ≤ 256) (hr : ∀ x ∈ xs, 0 ≤ x ∧ x < (n : Int)) : colTo xs n = setL xs := by
  refine asc_ext ?_ (setL_asc xs) fun s => ?_
  · unfold colTo
    refine List.Pairwise.sublist List.filter_sublist ?_
    rw [List.pairwise_map]
    exact List.pairwise_lt_range.imp (fun h => by omega)
  · rw [setL_mem (fun x hx => by have := hr x hx; omega)]
    unfold colTo
    rw [List.mem_filter, List.mem_map, decide_eq_true_eq]
    constructor
    · exact fun h => h.2
    · intro h
      have := hr s h
      exact ⟨⟨s.toNat, by rw [List.mem_range]; omega, by omega⟩, h⟩

/-- A row of the call's own stays where another, later one grows. -/
theorem Owns.apart {w w1 w' : World} {base : Nat} {v : Value} {xs : List Int} (h : Owns w base v xs) (hb : Below w.heap.size w w1) {row : Option Nat} (hg : w1.grownBy w' row) (hr : ∀ k, row = some k → w.heap.size ≤ k) : Owns w' base v xs := by
  refine (h.below hb).kept hg ?_
  cases e : v.ownBlock with
  | none => exact .inl rfl
  | some k =>
    right
    intro e2
    have h1 := (World.ownsRow.lt h k e).2
    have h2 := hr k e2.symm
    omega
theorem Owns.own_ge {w : World} {base : Nat} {v : Value} {xs : List Int} (h : Owns w base v xs) : ∀ k, v.ownBlock = some k → base ≤ k := fun k e => (World.ownsRow.lt h k e).1

/-- A row of another block stays where one of the call's own grows. -/
theorem row_past {W w' : World} {b n base : Nat} {t : TypeId} {f : Nat → Value} {v : Value} {xs : List Int} {o : Obj} (h : W.rowIs b t n f) (hown : Owns W base v xs) (hlt : b < base) (hg : (W.alloc o).grownBy w' v.ownBlock) : w'.rowIs b t n f := by
  have h2 : (W.alloc o).rowIs b t n f := h.alloc o
  refine h2.of_block (hg.block b h2.lt fun e => ?_)
  have := (World.ownsRow.lt hown b e.symm).1
  omega
/-- What Compact leaves of ascending numbers. -/
theorem compact_asc {zs : List Int} (hs : zs.Pairwise (· ≤ ·)) : (Lib.compact zs).Pairwise (· < ·) ∧ ∀ a, a ∈ Lib.compact zs ↔ a ∈ zs := by
  have hle : ∀ i j, i ≤ j → j < zs.length → zs.toArray[i]! ≤ zs.toArray[j]! := by
    intro i j hij hj
    rcases Nat.lt_or_eq_of_le hij with h | h
    · have := List.pairwise_iff_getElem.1 hs i j (by omega) hj h
      simpa [show i < zs.length by omega, hj] using this
    · subst h; exact Int.le_refl _
  have key : ∀ m, m ≤ zs.length → (Lib.compactUpTo zs.toArray m).Pairwise (· < ·) ∧ ∀ a, a ∈ Lib.compactUpTo zs.toArray m ↔ ∃ j, j < m ∧ zs.toArray[j]! = a := by
    intro m
    induction m with
    | zero => intro _; simp [Lib.compactUpTo]
    | succ m ih =>
      intro hm
      obtain ⟨h1, h2⟩ := ih (by omega)
      rw [Lib.compactUpTo_succ]
      cases hk : Lib.keeps zs.toArray m
      · have hk2 : ¬ (m = 0 ∨ zs.toArray[m]! ≠ zs.toArray[m - 1]!) := of_decide_eq_false hk
        have hm0 : 0 < m := by omega
        have he : zs.toArray[m]! = zs.toArray[m - 1]! := Classical.byContradiction fun h => hk2 (.inr h)
        simp only [Bool.false_eq_true, if_false, List.append_nil]
        refine ⟨h1, fun a => ?_⟩
        rw [h2]
        constructor
        · rintro ⟨j, hj, e⟩; exact ⟨j, by omega, e⟩
        · rintro ⟨j, hj, e⟩
          by_cases hjm : j = m
          · exact ⟨m - 1, by omega, by rw [← he, ← hjm]; exact e⟩
          · exact ⟨j, by omega, e⟩
      · have hk2 : m = 0 ∨ zs.toArray[m]! ≠ zs.toArray[m - 1]! := of_decide_eq_true hk
        simp only [if_true]
        refine ⟨?_, fun a => ?_⟩
        · rw [List.pairwise_append]
          refine ⟨h1, by simp, fun a ha b hb => ?_⟩
          rw [List.mem_singleton] at hb
          subst hb
          obtain ⟨j, hj, rfl⟩ := (h2 a).1 ha
          have ha1 := hle j (m - 1) (by omega) (by omega)
          have ha2 := hle (m - 1) m (by omega) (by omega)
          rcases hk2 with h | h
          · omega
          · omega
        · rw [List.mem_append, h2, List.mem_singleton]
          constructor
          · rintro (⟨j, hj, e⟩ | e)
            · exact ⟨j, by omega, e⟩
            · exact ⟨m, by omega, e.symm⟩
          · rintro ⟨j, hj, e⟩
            by_cases hjm : j = m
            · subst hjm; exact .inr e.symm
            · exact .inl ⟨j, by omega, e⟩
  obtain ⟨h1, h2⟩ := key zs.length (Nat.le_refl _)
  refine ⟨h1, fun a => ?_⟩
  show a ∈ Lib.compactUpTo _ _ ↔ _
  rw [h2, List.mem_iff_getElem]
  constructor
  · rintro ⟨j, hj, e⟩; exact ⟨j, hj, by simpa [hj] using e⟩
  · rintro ⟨j, hj, e⟩; exact ⟨j, hj, by simpa [hj] using e⟩
theorem compact_set {xs ys : List Int} (hs : ys.Pairwise (· ≤ ·)) (hm : ∀ x, x ∈ ys ↔ x ∈ xs) (hr : ∀ x ∈ xs, 0 ≤ x ∧ x < 256) : Lib.compact ys = setL xs := by
  obtain ⟨h1, h2⟩ := compact_asc hs
  exact asc_ext h1 (setL_asc xs) fun s => by rw [h2, hm, setL_mem hr]
theorem compact_len (zs : List Int) : (Lib.compact zs).length ≤ zs.length := by
  unfold Lib.compact Lib.compactUpTo
  rw [List.length_map]
  refine Nat.le_trans (List.length_filter_le _ _) ?_
  rw [List.length_range]; exact Nat.le_refl _

theorem Owns.shorter {w : World} {base g n cap : Nat} {xs ys : List Int} (h : w.ownsRow base 3 1 (.slice (some ⟨g, 0, none⟩) n cap) n ((xs ++ ys).map (Value.int .i64))) : Owns w base (.slice (some ⟨g, 0, none⟩) xs.length cap) xs := by
  obtain ⟨hl, ⟨hv, _⟩ | ⟨g', cap', cur, hv, hb, hg, hn, hm, hc, ht⟩⟩ := h
  · cases hv
  · simp only [Value.slice.injEq, Option.some.injEq, Addr.mk.injEq, and_true] at hv
    obtain ⟨rfl, _, rfl⟩ := hv
    rw [List.length_map, List.length_append, Nat.mul_one] at hl
    refine ⟨by simp, .inr ⟨g, cap, cur, rfl, hb, hg, by omega, hm, hc, ?_⟩⟩
    have := congrArg (List.take xs.length) ht
    rw [Nat.mul_one, List.take_take, Nat.min_eq_left (by omega), List.map_append, List.take_append_of_le_length (by simp)] at this
    rw [Nat.mul_one, this, List.take_of_length_le (by simp)]
def CompPost (base : Nat) (A : Option Addr) (nn c : Nat) (xs : List Int) (w : World) (e : Ending) (w' : World) : Prop :=
  ∃ m, e = .returned (.slice A m c) ∧ Owns w' base (.slice A m c) (Lib.compact xs) ∧ w.grownBy w' (Value.slice A nn c).ownBlock
theorem iCompact (base : Nat) (A : Option Addr) (nn c : Nat) (xs : List Int) (w : World) (hn : nn = xs.length) (h1 : 1 ≤ nn) (hl : nn ≤ 1048576) (hO : Owns w base (.slice A nn c) xs) :
    Calls Try.prog 91 #[.slice A nn c] w (CompPost base A nn c xs w) := by
  subst hn
  rcases hO.2 with ⟨_, h0⟩ | ⟨g, cap, cur, hv, hb, hg, hnc, hcm, hcs, htake⟩
  · omega
  · simp only [Value.slice.injEq] at hv
    obtain ⟨rfl, _, rfl⟩ := hv
    have ht : cur.toList.take xs.length = xs.map (Value.int .i64) := by rw [← htake, Nat.mul_one]
    refine (Try.slices_Compact_int g 0 c xs w (holds_of_block_i hg ht) (by omega) hnc).mono ?_
    rintro e w' ⟨he, q, rfl⟩
    have hcl := compact_len xs
    obtain ⟨L, hL⟩ : ∃ L, L = Lib.compact xs ++ List.replicate (xs.length - (Lib.compact xs).length) (0 : Int) := ⟨_, rfl⟩
    have hLl : L.length = xs.length := by rw [hL, List.length_append, List.length_replicate]; omega
    refine ⟨_, he, ?_, ?_⟩
    · have := ownsRow_sorted_i (n := q) (os := #[]) hLl hb hg hnc hcm hcs
      rw [hL] at this
      rw [Sort.grow_empty] at this
      exact Owns.shorter this
    · have := grownBy_sorted_i (w := w) (g := g) (n := q) (os := #[]) L.toArray
      rw [Sort.grow_empty, hL] at this
      exact this
end Go.Proofs.Ytbiifcdlfmeahaa

namespace Go.Proofs.Ytbiifcdlfmeahaa
open Go.RowKit

set_option maxRecDepth 100000 in
set_option maxHeartbeats 4000000 in
theorem iInNone (t : Int) (A : Option Addr) (n c : Nat) (xs : List Int) (w : World) (h1 : 1 ≤ t) (h3 : t ≤ 3) (hs : ∀ x ∈ xs, setOkB t x = true) (ha : Row w A n c xs) :
    Calls Try.prog 65 #[.int .i64 t, .slice A n c] w fun e w' => e = .returned (.int .i64 (allOf t - unionI xs)) ∧ w = w' := by
  have HA := Lib.hid ha
  obtain rfl := ha.hn
  have hl := ha.hl
  have HS : Hid (∀ (k : Nat) (x : Int), Hid (xs[k]? = some x) → 0 ≤ unionI (xs.take k) ∧ unionI (xs.take k) ≤ allOf t ∧ 0 ≤ x ∧ x ≤ allOf t ∧ unionI (xs.take (k + 1)) = orI (unionI (xs.take k)) x) := fun k x hx => by
    have hu := union_le h1 h3 (take_sets hs k)
    have := setOkB_lt (hs x (elem_mem hx))
    exact ⟨hu.1, hu.2, this.2.2.1, this.2.2.2.1, union_take hx⟩
  clear ha hs
  have ht : t = 1 ∨ t = 2 ∨ t = 3 := by omega
  clear h1 h3
  rcases ht with rfl | rfl | rfl
  · have HBN : Hid (∀ g x : Int, 0 ≤ g → g ≤ 3 → 0 ≤ x → x ≤ 3 → bits .andNot .i64 (3 - g) x = 3 - orI g x) := fun g x a b c d => andNot_more (n := 2) (by omega) a b c d
    go_enter Try.func65, Try.ntmps65
    go_wp2_with fail
    refine (iWorldsOf _ _).mono ?_
    rintro e w' ⟨rfl, rfl⟩
    simp only [worldsOf]
    go_wp2_with fail
    go_loop [5, 14] (fun v i => ∃ k : Nat, k ≤ xs.length ∧ i = .int .i64 k ∧ v = .int .i64 (3 - unionI (xs.take k))) (fun _ i => xs.length - (intOf i).toNat)
    case atStart => exact ⟨0, Nat.zero_le _, rfl, rfl⟩
    case round =>
      obtain ⟨k, hk, rfl, rfl⟩ := hrel
      by_cases hlt : k < xs.length
      · obtain ⟨b, off, x, rfl, hcell, hx, _⟩ := HA.out.hA.elem hlt
        obtain ⟨hu0, hu1, hx0, hx1, hu2⟩ := HS.out k x hx
        have HB := Lib.hid (HBN.out _ x hu0 hu1 hx0 hx1)
        have HU := Lib.hid hu2
        clear hu0 hu1 hx0 hx1 hu2
        go_wp2_with fail
        go_round
        case rel => exact ⟨k + 1, by omega, by go_num, by rw [HU.out, ← HB.out]⟩
        case measure => simp [intOf]; omega
      · obtain rfl : k = xs.length := by omega
        go_wp2_with fail
        go_ret
        exact ⟨ret_int (by first | rfl | (rw [List.take_length]; rfl)), rfl⟩
  · have HBN : Hid (∀ g x : Int, 0 ≤ g → g ≤ 15 → 0 ≤ x → x ≤ 15 → bits .andNot .i64 (15 - g) x = 15 - orI g x) := fun g x a b c d => andNot_more (n := 4) (by omega) a b c d
    go_enter Try.func65, Try.ntmps65
    go_wp2_with fail
    refine (iWorldsOf _ _).mono ?_
    rintro e w' ⟨rfl, rfl⟩
    simp only [worldsOf]
    go_wp2_with fail
    go_loop [5, 14] (fun v i => ∃ k : Nat, k ≤ xs.length ∧ i = .int .i64 k ∧ v = .int .i64 (15 - unionI (xs.take k))) (fun _ i => xs.length - (intOf i).toNat)
    case atStart => exact ⟨0, Nat.zero_le _, rfl, rfl⟩
    case round =>
      obtain ⟨k, hk, rfl, rfl⟩ := hrel
      by_cases hlt : k < xs.length
      · obtain ⟨b, off, x, rfl, hcell, hx, _⟩ := HA.out.hA.elem hlt
        obtain ⟨hu0, hu1, hx0, hx1, hu2⟩ := HS.out k x hx
        have HB := Lib.hid (HBN.out _ x hu0 hu1 hx0 hx1)
        have HU := Lib.hid hu2
        clear hu0 hu1 hx0 hx1 hu2
        go_wp2_with fail
        go_round
        case rel => exact ⟨k + 1, by omega, by go_num, by rw [HU.out, ← HB.out]⟩
        case measure => simp [intOf]; omega
      · obtain rfl : k = xs.length := by omega
        go_wp2_with fail
        go_ret
        exact ⟨ret_int (by first | rfl | (rw [List.take_length]; rfl)), rfl⟩
  · have HBN : Hid (∀ g x : Int, 0 ≤ g → g ≤ 255 → 0 ≤ x → x ≤ 255 → bits .andNot .i64 (255 - g) x = 255 - orI g x) := fun g x a b c d => andNot_more (n := 8) (by omega) a b c d
    go_enter Try.func65, Try.ntmps65
    go_wp2_with fail
    refine (iWorldsOf _ _).mono ?_
    rintro e w' ⟨rfl, rfl⟩
    simp only [worldsOf]
    go_wp2_with fail
    go_loop [5, 14] (fun v i => ∃ k : Nat, k ≤ xs.length ∧ i = .int .i64 k ∧ v = .int .i64 (255 - unionI (xs.take k))) (fun _ i => xs.length - (intOf i).toNat)
    case atStart => exact ⟨0, Nat.zero_le _, rfl, rfl⟩
    case round =>
      obtain ⟨k, hk, rfl, rfl⟩ := hrel
      by_cases hlt : k < xs.length
      · obtain ⟨b, off, x, rfl, hcell, hx, _⟩ := HA.out.hA.elem hlt
        obtain ⟨hu0, hu1, hx0, hx1, hu2⟩ := HS.out k x hx
        have HB := Lib.hid (HBN.out _ x hu0 hu1 hx0 hx1)
        have HU := Lib.hid hu2
        clear hu0 hu1 hx0 hx1 hu2
        go_wp2_with fail
        go_round
        case rel => exact ⟨k + 1, by omega, by go_num, by rw [HU.out, ← HB.out]⟩
        case measure => simp [intOf]; omega
      · obtain rfl : k = xs.length := by omega
        go_wp2_with fail
        go_ret
        exact ⟨ret_int (by first | rfl | (rw [List.take_length]; rfl)), rfl⟩
theorem iInNone_is {t : Int} {xs : List Int} {g : Int} (h : Hid (allOf t - unionI xs = g)) {A : Option Addr} {n c : Nat} {w : World} (h1 : 1 ≤ t) (h3 : t ≤ 3) (hs : ∀ x ∈ xs, setOkB t x = true) (ha : Row w A n c xs) :
    Calls Try.prog 65 #[.int .i64 t, .slice A n c] w fun e w' => e = .returned (.int .i64 g) ∧ w = w' :=
  (iInNone t A n c xs w h1 h3 hs ha).mono fun _ _ ⟨he, hw⟩ => ⟨he.trans (ret_int h.out), hw⟩

set_option maxRecDepth 100000 in
set_option maxHeartbeats 8000000 in
theorem iInBoth (t : Int) (A B : Option Addr) (na ca nb cb : Nat) (a b : List Int) (w : World) (h1 : 1 ≤ t) (h3 : t ≤ 3) (hsa : ∀ x ∈ a, setOkB t x = true) (hrb : ∀ y ∈ b, 0 ≤ y ∧ y < 256) (ha : Row w A na ca a) (hb : Row w B nb cb b) :
    Calls Try.prog 67 #[.int .i64 t, .slice A na ca, .slice B nb cb] w (OwnPost (setL (bothX a b)) w) := by
  have HA := Lib.hid ha
  have HB := Lib.hid hb
  obtain rfl := ha.hn
  obtain rfl := hb.hn
  have hla := ha.hl
  have hlb := hb.hl
  have HBA : Hid (∀ (x y : Int), x ∈ a → y ∈ b → ∃ m : Nat, bits .and .i64 x y = (m : Int) ∧ (m : Int) ≤ allOf t ∧ andI x y = (m : Int)) := fun x y hx hy => by
    have h := setOkB_lt (hsa x hx)
    have hy := hrb y hy
    have h0 := andI_nonneg x y
    have h2 := andI_le x y h.2.2.1
    have hb := bits_and x y h.2.2.1 (by omega) hy.1 (by omega)
    exact ⟨(andI x y).toNat, by rw [hb]; omega, by omega, by omega⟩
  have HR : Hid (∀ s ∈ bothX a b, 0 ≤ s ∧ s ≤ allOf t) := fun s hs => by
    obtain ⟨x, hx, y, hy, rfl⟩ := mem_bothX.1 hs
    have h := setOkB_lt (hsa x hx)
    have h0 := andI_nonneg x y
    have h2 := andI_le x y h.2.2.1
    exact ⟨h0, by omega⟩
  clear ha hb hsa hrb
  have ht : t = 1 ∨ t = 2 ∨ t = 3 := by omega
  clear h1 h3
  rcases ht with rfl | rfl | rfl
  · have hmk : ∀ W : World, (Instr.makeSlice 85 (.int .i64 4) (.int .i64 4)).run Try.prog W = .ok (.slice (some ⟨W.heap.size, 0, none⟩) 4 4) (W.alloc (.cells (madeCells #[.bool false] 4) 4)) := fun W => run_make_row' (P := Try.prog) 85 4 (.bool false) 1 Try.underlying85 bool_info rfl .i64 .i64 4 (by omega) (by omega) W
    have HAL : Hid (allOf 1 + 1 = 4) := rfl
    have HC : Hid (colTo (bothX a b) 4 = setL (bothX a b)) := colTo_set (by omega) fun s hs => by have := HR.out s hs; have := HAL.out; omega
    go_enter Try.func67, Try.ntmps67
    go_wp2_with fail
    refine (iWorldsOf _ _).mono ?_
    rintro e w' ⟨rfl, rfl⟩
    simp only [worldsOf]
    go_wp2_with fail
    clear hmk
    go_loopw [21] (fun i wr => ∃ k : Nat, k ≤ a.length ∧ i = .int .i64 k ∧ wr.rowIs w.heap.size 4 4 (markF (bothTo a b k 0)) ∧ Below w.heap.size w wr) (fun i _ => a.length - (Go.RowKit.intOf i).toNat)
    case atStart => exact ⟨0, Nat.zero_le _, rfl, by rw [bothTo_zero, ← markF_nil]; exact World.rowIs_made _ _ _ _, (Below.refl _ _).alloc (Nat.le_refl _) _⟩
    case round =>
      obtain ⟨k, hk, rfl, hrow, hbel⟩ := hrel
      have HW := Lib.hid hrow
      have HBW := Lib.hid hbel
      clear hrow hbel
      by_cases hlt : k < a.length
      · obtain ⟨bb, off, x, rfl, hcell, hx, _⟩ := (HA.out.hA.below HBW.out).elem hlt
        go_wp2_with fail
        clear hcell
        go_loopw [27] (fun i wi => ∃ j : Nat, j ≤ b.length ∧ i = .int .i64 j ∧ wi.rowIs w.heap.size 4 4 (markF (bothTo a b k j)) ∧ Below w.heap.size w wi) (fun i _ => b.length - (Go.RowKit.intOf i).toNat)
        case atStart => exact ⟨0, Nat.zero_le _, rfl, HW.out, HBW.out⟩
        case round =>
          obtain ⟨j, hj, rfl, hrow, hbel⟩ := hrel
          have HWI := Lib.hid hrow
          have HBI := Lib.hid hbel
          clear hrow hbel
          by_cases hjt : j < b.length
          · obtain ⟨bb2, off2, y, rfl, hcell, hy, _⟩ := (HB.out.hA.below HBI.out).elem hjt
            obtain ⟨m, hm, hm1, hm2⟩ := HBA.out x y (elem_mem hx) (elem_mem hy)
            have hmN : m < 4 := by have := HAL.out; omega
            have HM2 := Lib.hid hm2
            have HT := Lib.hid (bothTo_in hx hy)
            have hc1 := HWI.out.cell hmN
            have hf1 := HWI.out.frozen m
            clear hm1 hm2
            go_wp2_with fail
            go_roundw
            case rel => exact ⟨j + 1, by omega, by go_num, by rw [HT.out]; exact (HWI.out.set m _).congr fun i _ => markF_set HM2.out i, HBI.out.setCell (Nat.le_refl _) _⟩
            case measure => simp [Go.RowKit.intOf]; omega
          · obtain rfl : j = b.length := by omega
            have HT := Lib.hid (bothTo_out (b := b) hx)
            go_wp2_with fail
            go_roundw
            case rel => exact ⟨k + 1, by omega, by go_num, by rw [HT.out]; exact HWI.out, HBI.out⟩
            case measure => simp [Go.RowKit.intOf]; omega
      · obtain rfl : k = a.length := by omega
        have HE : Hid (bothTo a b a.length 0 = bothX a b) := bothTo_end a b
        rw [HE.out] at HW
        have hsz := (HW.out.lt)
        go_wp2_with fail
        go_loopw [12, 40] (fun v i wi => ∃ j : Nat, j ≤ 4 ∧ i = .int .i64 j ∧ Owns wi (w.heap.size + 1) v (colTo (bothX a b) j) ∧ wi.rowIs w.heap.size 4 4 (markF (bothX a b)) ∧ Below w.heap.size w wi) (fun _ i _ => 4 - (Go.RowKit.intOf i).toNat)
        case atStart => exact ⟨0, Nat.zero_le _, rfl, Owns.nil _ _, HW.out, HBW.out⟩
        case round =>
          obtain ⟨j, hj, rfl, hown, hrow, hbel⟩ := hrel
          have HOW := Lib.hid hown
          have HWI := Lib.hid hrow
          have HBI := Lib.hid hbel
          clear hown hrow hbel
          by_cases hjt : j < 4
          · have hc1 := HWI.out.cell hjt
            have hlen := colTo_len (bothX a b) j
            have hsz1 := HWI.out.lt
            have HT := Lib.hid (colTo_next (bothX a b) j)
            unfold markF at hc1
            rcases hd : decide ((j : Int) ∈ bothX a b) with _ | _
            · have HT2 : Hid (colTo (bothX a b) (j + 1) = colTo (bothX a b) j) := by unfold Hid; rw [HT.out, hd]; simp
              rw [hd] at hc1
              clear hd
              go_wp2_with fail
              go_roundw
              case rel => exact ⟨j + 1, by omega, by go_num, by rw [HT2.out]; exact HOW.out, HWI.out, HBI.out⟩
              case measure => simp [Go.RowKit.intOf]; omega
            · have HT2 : Hid (colTo (bothX a b) (j + 1) = colTo (bothX a b) j ++ [(j : Int)]) := by unfold Hid; rw [HT.out, hd]; simp
              rw [hd] at hc1
              clear hd
              go_wp2_with (at_builtin; refine wp_append1 (W := wr) rfl _ _ rfl (w.heap.size + 1) u12 (colTo (bothX a b) j) rfl HOW.out (j : Int) rfl (by omega) (by omega) ?_; intro v' w' hown' hgrow)
              have hb' := below_append HBI.out HBI.out.size HOW.out (Nat.le_succ _) hgrow
              have hr' : w'.rowIs w.heap.size 4 4 (markF (bothX a b)) := row_past HWI.out HOW.out (Nat.lt_succ_self _) hgrow
              go_roundw
              case rel => exact ⟨j + 1, by omega, by go_num, by rw [HT2.out]; exact hown', hr', hb'⟩
              case measure => simp [Go.RowKit.intOf]; omega
          · obtain rfl : j = 4 := by omega
            go_wp2_with fail
            go_ret
            exact ⟨_, rfl, by rw [← HC.out]; exact HOW.out.base (Nat.le_succ _), HBI.out⟩
  · have hmk : ∀ W : World, (Instr.makeSlice 85 (.int .i64 16) (.int .i64 16)).run Try.prog W = .ok (.slice (some ⟨W.heap.size, 0, none⟩) 16 16) (W.alloc (.cells (madeCells #[.bool false] 16) 4)) := fun W => run_make_row' (P := Try.prog) 85 4 (.bool false) 1 Try.underlying85 bool_info rfl .i64 .i64 16 (by omega) (by omega) W
    have HAL : Hid (allOf 2 + 1 = 16) := rfl
    have HC : Hid (colTo (bothX a b) 16 = setL (bothX a b)) := colTo_set (by omega) fun s hs => by have := HR.out s hs; have := HAL.out; omega
    go_enter Try.func67, Try.ntmps67
    go_wp2_with fail
    refine (iWorldsOf _ _).mono ?_
    rintro e w' ⟨rfl, rfl⟩
    simp only [worldsOf]
    go_wp2_with fail
    clear hmk
    go_loopw [21] (fun i wr => ∃ k : Nat, k ≤ a.length ∧ i = .int .i64 k ∧ wr.rowIs w.heap.size 4 16 (markF (bothTo a b k 0)) ∧ Below w.heap.size w wr) (fun i _ => a.length - (Go.RowKit.intOf i).toNat)
    case atStart => exact ⟨0, Nat.zero_le _, rfl, by rw [bothTo_zero, ← markF_nil]; exact World.rowIs_made _ _ _ _, (Below.refl _ _).alloc (Nat.le_refl _) _⟩
    case round =>
      obtain ⟨k, hk, rfl, hrow, hbel⟩ := hrel
      have HW := Lib.hid hrow
      have HBW := Lib.hid hbel
      clear hrow hbel
      by_cases hlt : k < a.length
      · obtain ⟨bb, off, x, rfl, hcell, hx, _⟩ := (HA.out.hA.below HBW.out).elem hlt
        go_wp2_with fail
        clear hcell
        go_loopw [27] (fun i wi => ∃ j : Nat, j ≤ b.length ∧ i = .int .i64 j ∧ wi.rowIs w.heap.size 4 16 (markF (bothTo a b k j)) ∧ Below w.heap.size w wi) (fun i _ => b.length - (Go.RowKit.intOf i).toNat)
        case atStart => exact ⟨0, Nat.zero_le _, rfl, HW.out, HBW.out⟩
        case round =>
          obtain ⟨j, hj, rfl, hrow, hbel⟩ := hrel
          have HWI := Lib.hid hrow
          have HBI := Lib.hid hbel
          clear hrow hbel
          by_cases hjt : j < b.length
          · obtain ⟨bb2, off2, y, rfl, hcell, hy, _⟩ := (HB.out.hA.below HBI.out).elem hjt
            obtain ⟨m, hm, hm1, hm2⟩ := HBA.out x y (elem_mem hx) (elem_mem hy)
            have hmN : m < 16 := by have := HAL.out; omega
            have HM2 := Lib.hid hm2
            have HT := Lib.hid (bothTo_in hx hy)
            have hc1 := HWI.out.cell hmN
            have hf1 := HWI.out.frozen m
            clear hm1 hm2
            go_wp2_with fail
            go_roundw
            case rel => exact ⟨j + 1, by omega, by go_num, by rw [HT.out]; exact (HWI.out.set m _).congr fun i _ => markF_set HM2.out i, HBI.out.setCell (Nat.le_refl _) _⟩
            case measure => simp [Go.RowKit.intOf]; omega
          · obtain rfl : j = b.length := by omega
            have HT := Lib.hid (bothTo_out (b := b) hx)
            go_wp2_with fail
            go_roundw
            case rel => exact ⟨k + 1, by omega, by go_num, by rw [HT.out]; exact HWI.out, HBI.out⟩
            case measure => simp [Go.RowKit.intOf]; omega
      · obtain rfl : k = a.length := by omega
        have HE : Hid (bothTo a b a.length 0 = bothX a b) := bothTo_end a b
        rw [HE.out] at HW
        have hsz := (HW.out.lt)
        go_wp2_with fail
        go_loopw [12, 40] (fun v i wi => ∃ j : Nat, j ≤ 16 ∧ i = .int .i64 j ∧ Owns wi (w.heap.size + 1) v (colTo (bothX a b) j) ∧ wi.rowIs w.heap.size 4 16 (markF (bothX a b)) ∧ Below w.heap.size w wi) (fun _ i _ => 16 - (Go.RowKit.intOf i).toNat)
        case atStart => exact ⟨0, Nat.zero_le _, rfl, Owns.nil _ _, HW.out, HBW.out⟩
        case round =>
          obtain ⟨j, hj, rfl, hown, hrow, hbel⟩ := hrel
          have HOW := Lib.hid hown
          have HWI := Lib.hid hrow
          have HBI := Lib.hid hbel
          clear hown hrow hbel
          by_cases hjt : j < 16
          · have hc1 := HWI.out.cell hjt
            have hlen := colTo_len (bothX a b) j
            have hsz1 := HWI.out.lt
            have HT := Lib.hid (colTo_next (bothX a b) j)
            unfold markF at hc1
            rcases hd : decide ((j : Int) ∈ bothX a b) with _ | _
            · have HT2 : Hid (colTo (bothX a b) (j + 1) = colTo (bothX a b) j) := by unfold Hid; rw [HT.out, hd]; simp
              rw [hd] at hc1
              clear hd
              go_wp2_with fail
              go_roundw
              case rel => exact ⟨j + 1, by omega, by go_num, by rw [HT2.out]; exact HOW.out, HWI.out, HBI.out⟩
              case measure => simp [Go.RowKit.intOf]; omega
            · have HT2 : Hid (colTo (bothX a b) (j + 1) = colTo (bothX a b) j ++ [(j : Int)]) := by unfold Hid; rw [HT.out, hd]; simp
              rw [hd] at hc1
              clear hd
              go_wp2_with (at_builtin; refine wp_append1 (W := wr) rfl _ _ rfl (w.heap.size + 1) u12 (colTo (bothX a b) j) rfl HOW.out (j : Int) rfl (by omega) (by omega) ?_; intro v' w' hown' hgrow)
              have hb' := below_append HBI.out HBI.out.size HOW.out (Nat.le_succ _) hgrow
              have hr' : w'.rowIs w.heap.size 4 16 (markF (bothX a b)) := row_past HWI.out HOW.out (Nat.lt_succ_self _) hgrow
              go_roundw
              case rel => exact ⟨j + 1, by omega, by go_num, by rw [HT2.out]; exact hown', hr', hb'⟩
              case measure => simp [Go.RowKit.intOf]; omega
          · obtain rfl : j = 16 := by omega
            go_wp2_with fail
            go_ret
            exact ⟨_, rfl, by rw [← HC.out]; exact HOW.out.base (Nat.le_succ _), HBI.out⟩
  · have hmk : ∀ W : World, (Instr.makeSlice 85 (.int .i64 256) (.int .i64 256)).run Try.prog W = .ok (.slice (some ⟨W.heap.size, 0, none⟩) 256 256) (W.alloc (.cells (madeCells #[.bool false] 256) 4)) := fun W => run_make_row' (P := Try.prog) 85 4 (.bool false) 1 Try.underlying85 bool_info rfl .i64 .i64 256 (by omega) (by omega) W
    have HAL : Hid (allOf 3 + 1 = 256) := rfl
    have HC : Hid (colTo (bothX a b) 256 = setL (bothX a b)) := colTo_set (by omega) fun s hs => by have := HR.out s hs; have := HAL.out; omega
    go_enter Try.func67, Try.ntmps67
    go_wp2_with fail
    refine (iWorldsOf _ _).mono ?_
    rintro e w' ⟨rfl, rfl⟩
    simp only [worldsOf]
    go_wp2_with fail
    clear hmk
    go_loopw [21] (fun i wr => ∃ k : Nat, k ≤ a.length ∧ i = .int .i64 k ∧ wr.rowIs w.heap.size 4 256 (markF (bothTo a b k 0)) ∧ Below w.heap.size w wr) (fun i _ => a.length - (Go.RowKit.intOf i).toNat)
    case atStart => exact ⟨0, Nat.zero_le _, rfl, by rw [bothTo_zero, ← markF_nil]; exact World.rowIs_made _ _ _ _, (Below.refl _ _).alloc (Nat.le_refl _) _⟩
    case round =>
      obtain ⟨k, hk, rfl, hrow, hbel⟩ := hrel
      have HW := Lib.hid hrow
      have HBW := Lib.hid hbel
      clear hrow hbel
      by_cases hlt : k < a.length
      · obtain ⟨bb, off, x, rfl, hcell, hx, _⟩ := (HA.out.hA.below HBW.out).elem hlt
        go_wp2_with fail
        clear hcell
        go_loopw [27] (fun i wi => ∃ j : Nat, j ≤ b.length ∧ i = .int .i64 j ∧ wi.rowIs w.heap.size 4 256 (markF (bothTo a b k j)) ∧ Below w.heap.size w wi) (fun i _ => b.length - (Go.RowKit.intOf i).toNat)
        case atStart => exact ⟨0, Nat.zero_le _, rfl, HW.out, HBW.out⟩
        case round =>
          obtain ⟨j, hj, rfl, hrow, hbel⟩ := hrel
          have HWI := Lib.hid hrow
          have HBI := Lib.hid hbel
          clear hrow hbel
          by_cases hjt : j < b.length
          · obtain ⟨bb2, off2, y, rfl, hcell, hy, _⟩ := (HB.out.hA.below HBI.out).elem hjt
            obtain ⟨m, hm, hm1, hm2⟩ := HBA.out x y (elem_mem hx) (elem_mem hy)
            have hmN : m < 256 := by have := HAL.out; omega
            have HM2 := Lib.hid hm2
            have HT := Lib.hid (bothTo_in hx hy)
            have hc1 := HWI.out.cell hmN
            have hf1 := HWI.out.frozen m
            clear hm1 hm2
            go_wp2_with fail
            go_roundw
            case rel => exact ⟨j + 1, by omega, by go_num, by rw [HT.out]; exact (HWI.out.set m _).congr fun i _ => markF_set HM2.out i, HBI.out.setCell (Nat.le_refl _) _⟩
            case measure => simp [Go.RowKit.intOf]; omega
          · obtain rfl : j = b.length := by omega
            have HT := Lib.hid (bothTo_out (b := b) hx)
            go_wp2_with fail
            go_roundw
            case rel => exact ⟨k + 1, by omega, by go_num, by rw [HT.out]; exact HWI.out, HBI.out⟩
            case measure => simp [Go.RowKit.intOf]; omega
      · obtain rfl : k = a.length := by omega
        have HE : Hid (bothTo a b a.length 0 = bothX a b) := bothTo_end a b
        rw [HE.out] at HW
        have hsz := (HW.out.lt)
        go_wp2_with fail
        go_loopw [12, 40] (fun v i wi => ∃ j : Nat, j ≤ 256 ∧ i = .int .i64 j ∧ Owns wi (w.heap.size + 1) v (colTo (bothX a b) j) ∧ wi.rowIs w.heap.size 4 256 (markF (bothX a b)) ∧ Below w.heap.size w wi) (fun _ i _ => 256 - (Go.RowKit.intOf i).toNat)
        case atStart => exact ⟨0, Nat.zero_le _, rfl, Owns.nil _ _, HW.out, HBW.out⟩
        case round =>
          obtain ⟨j, hj, rfl, hown, hrow, hbel⟩ := hrel
          have HOW := Lib.hid hown
          have HWI := Lib.hid hrow
          have HBI := Lib.hid hbel
          clear hown hrow hbel
          by_cases hjt : j < 256
          · have hc1 := HWI.out.cell hjt
            have hlen := colTo_len (bothX a b) j
            have hsz1 := HWI.out.lt
            have HT := Lib.hid (colTo_next (bothX a b) j)
            unfold markF at hc1
            rcases hd : decide ((j : Int) ∈ bothX a b) with _ | _
            · have HT2 : Hid (colTo (bothX a b) (j + 1) = colTo (bothX a b) j) := by unfold Hid; rw [HT.out, hd]; simp
              rw [hd] at hc1
              clear hd
              go_wp2_with fail
              go_roundw
              case rel => exact ⟨j + 1, by omega, by go_num, by rw [HT2.out]; exact HOW.out, HWI.out, HBI.out⟩
              case measure => simp [Go.RowKit.intOf]; omega
            · have HT2 : Hid (colTo (bothX a b) (j + 1) = colTo (bothX a b) j ++ [(j : Int)]) := by unfold Hid; rw [HT.out, hd]; simp
              rw [hd] at hc1
              clear hd
              go_wp2_with (at_builtin; refine wp_append1 (W := wr) rfl _ _ rfl (w.heap.size + 1) u12 (colTo (bothX a b) j) rfl HOW.out (j : Int) rfl (by omega) (by omega) ?_; intro v' w' hown' hgrow)
              have hb' := below_append HBI.out HBI.out.size HOW.out (Nat.le_succ _) hgrow
              have hr' : w'.rowIs w.heap.size 4 256 (markF (bothX a b)) := row_past HWI.out HOW.out (Nat.lt_succ_self _) hgrow
              go_roundw
              case rel => exact ⟨j + 1, by omega, by go_num, by rw [HT2.out]; exact hown', hr', hb'⟩
              case measure => simp [Go.RowKit.intOf]; omega
          · obtain rfl : j = 256 := by omega
            go_wp2_with fail
            go_ret
            exact ⟨_, rfl, by rw [← HC.out]; exact HOW.out.base (Nat.le_succ _), HBI.out⟩
end Go.Proofs.Ytbiifcdlfmeahaa
