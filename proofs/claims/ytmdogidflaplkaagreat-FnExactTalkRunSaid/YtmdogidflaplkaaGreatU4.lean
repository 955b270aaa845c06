/-
  What the proofs of this seat's statements share (Tidy, DrawL, MathB, MathC).
-/
import Derived.OwnWalk
import Derived.Test.YtmdogidflaplkaaGreatU3

namespace Go.Proofs.YtmdogidflaplkaaGreat
open Go.RowKit

theorem wp_append1 {W : World} {ops : Array Oper} {rest : List Oper} {o : Oper} {a : Act} {Q : Exit → Act → World → Prop} (hgd : o.guard = none) (s x : Operand)
    (ho : o.op = .call { callee := .builtin .append, args := #[s, x], argTypes := #[101, 101] }) (base : Nat) (v : Value) (xs : List Int) (hs : a.eval s = v) (hown : Owns W base v xs)
    (y : Int) (hx : a.eval x = .slice (some ⟨W.heap.size, 0, none⟩) 1 1) (hl : xs.length ≤ 1048576) (hb : base ≤ W.heap.size)
    (h : ∀ v' w', Owns w' base v' (xs ++ [y]) → (W.alloc (.cells #[.int .i64 y] 3)).grownBy w' v.ownBlock → wpList Tryz.prog ops Q rest (a.put o.dst v') w') :
    wpList Tryz.prog ops Q (o :: rest) a (W.alloc (.cells #[.int .i64 y] 3)) := by
  obtain ⟨i0, hi0, hz0, hz1, hz2⟩ := info_parts int_info
  refine wpList_append_own _ hgd s x 101 ho base 3 i0 (.int .i64 0) 1 8 Tryz.underlying101 hi0 hz0 hz1 hz2 rfl (by decide) v xs.length (xs.map (Value.int .i64)) hs (World.ownsRow.alloc hown _)
    ⟨W.heap.size, 0, none⟩ 1 1 [.int .i64 y] hx rfl (cell_one_new _ _ _) (fun u hu => by rw [List.mem_singleton] at hu; subst hu; rfl) (by simp only [maxLen]; omega) (by omega) (by rw [World.size_alloc]; omega) ?_
  intro v' w' h1 h2 _
  refine h v' w' ?_ h2
  unfold Owns
  simpa using h1
/-- What an append of the call's own row leaves below a block that is older than the row. -/
theorem below_append {B : Nat} {a W w' : World} {base : Nat} {v : Value} {xs : List Int} {o : Obj} (h : Below B a W) (hB : B ≤ W.heap.size) (hown : Owns W base v xs) (hbase : B ≤ base) (hg : (W.alloc o).grownBy w' v.ownBlock) : Below B a w' :=
  (h.alloc hB o).grown hg (by simp; omega) fun k e => by have := (World.ownsRow.lt hown k e).1; omega

def hereB (xs : List Int) (s : Int) (j : Nat) : Bool := decide (s ∈ xs.take j)
def topB (xs : List Int) (s : Int) (j : Nat) : Bool := (xs.take j).all (fun x => decide (x = s) || !withinB s x)
def keepB (xs : List Int) (s : Int) : Bool := decide (s ∈ xs) && xs.all (fun x => decide (x = s) || !withinB s x)
def tidyTo (xs : List Int) (k : Nat) : List Int := ((List.range k).map (fun n : Nat => (n : Int))).filter (keepB xs)
def tidyL (xs : List Int) : List Int := tidyTo xs 256
theorem here_next {xs : List Int} {s x : Int} {j : Nat} {b : Bool} (h : Hid (hereB xs s j = b)) (hx : Hid (xs[j]? = some x)) : hereB xs s (j + 1) = (b || decide (x = s)) := by
  rw [← h.out]; unfold hereB; rw [take_snoc hx, Bool.eq_iff_iff]; simp only [List.mem_append, List.mem_singleton, Bool.or_eq_true, decide_eq_true_eq]; exact or_congr Iff.rfl eq_comm
theorem top_next {xs : List Int} {s x : Int} {j : Nat} {b : Bool} (h : Hid (topB xs s j = b)) (hx : Hid (xs[j]? = some x)) : topB xs s (j + 1) = (b && (decide (x = s) || !withinB s x)) := by
  rw [← h.out]; unfold topB; rw [take_snoc hx, List.all_append]; simp
theorem keep_of {xs : List Int} {s : Int} {b1 b2 : Bool} (h1 : Hid (hereB xs s xs.length = b1)) (h2 : Hid (topB xs s xs.length = b2)) : keepB xs s = (b1 && b2) := by
  rw [← h1.out, ← h2.out]; unfold keepB hereB topB; rw [List.take_length]
theorem tidy_next (xs : List Int) (k : Nat) : tidyTo xs (k + 1) = tidyTo xs k ++ (if keepB xs k = true then [(k : Int)] else []) := by
  unfold tidyTo
  rw [List.range_succ, List.map_append, List.filter_append]
  simp only [List.map_cons, List.map_nil, List.filter_cons, List.filter_nil]
theorem tidy_len (xs : List Int) (k : Nat) : (tidyTo xs k).length ≤ k := by
  unfold tidyTo
  refine Nat.le_trans (List.length_filter_le _ _) (by simp)

set_option maxRecDepth 100000 in
set_option maxHeartbeats 4000000 in
theorem sTidy (A : Option Addr) (nn c : Nat) (xs : List Int) (w : World) (hn : nn = xs.length) (hl : nn ≤ 1048576) (hr : ∀ x ∈ xs, 0 ≤ x ∧ x < 256) (hA : Nums .i64 w A xs) :
    Calls Tryz.prog 116 #[.slice A nn c] w fun e w' => ∃ v, e = .returned v ∧ Owns w' w.heap.size v (tidyL xs) ∧ Below w.heap.size w w' := by
  subst hn
  have HA := Lib.hid hA
  have HR := Lib.hid hr
  clear hr hA
  go_enter Tryz.func116, Tryz.ntmps116
  go_wp2
  go_loopw [3, 4] (fun v i wr => ∃ k : Nat, k ≤ 256 ∧ i = .int .i64 k ∧ Owns wr w.heap.size v (tidyTo xs k) ∧ Below w.heap.size w wr) (fun _ i _ => 256 - (Go.RowKit.intOf i).toNat)
  case atStart => exact ⟨0, by omega, rfl, Owns.lit _ _ [] (Nat.le_refl _) (by simp [maxLen]), (Below.refl _ _).alloc (Nat.le_refl _) _⟩
  case round =>
    obtain ⟨k, hk, rfl, hown, hbel⟩ := hrel
    have HOW := Lib.hid hown
    have HB := Lib.hid hbel
    clear hown hbel
    by_cases hlt : k < 256
    · have hd256 : decide ((k : Int) < 256) = true := decide_eq_true (by omega)
      go_wp2
      clear hd256
      go_loopw [5, 6, 7] (fun h g j wi => ∃ (i : Nat) (b1 b2 : Bool), i ≤ xs.length ∧ j = .int .i64 i ∧ h = .bool b1 ∧ g = .bool b2 ∧ Hid (hereB xs k i = b1) ∧ Hid (topB xs k i = b2) ∧ ∃ m, wi = wr.drewN m) (fun _ _ j _ => xs.length - (Go.RowKit.intOf j).toNat)
      case atStart => exact ⟨0, false, true, Nat.zero_le _, rfl, rfl, rfl, by unfold Hid hereB; simp, rfl, 0, rfl⟩
      case round =>
        obtain ⟨i, b1, b2, hi, rfl, rfl, rfl, hh, ht, m, rfl⟩ := hrel
        by_cases hil : i < xs.length
        · obtain ⟨b, off, x, rfl, hcell, hx, _⟩ := (HA.out.below HB.out).elem hil
          obtain ⟨hx0, hx1⟩ := HR.out x (elem_mem hx)
          by_cases hxs : x = (k : Int)
          · have hq1 : (x == (k : Int)) = true := by simp [hxs]
            have hq2 : (x != (k : Int)) = false := by simp [hxs]
            have HH : Hid (hereB xs k (i + 1) = true) := by unfold Hid; rw [here_next hh hx, decide_eq_true hxs]; simp
            have HT : Hid (topB xs k (i + 1) = b2) := by unfold Hid; rw [top_next ht hx, decide_eq_true hxs]; simp
            clear hxs
            cases b1
            · go_wp2_with fail
              go_roundw
              case rel => exact ⟨i + 1, true, b2, by omega, by go_num, rfl, rfl, HH, HT, _, rfl⟩
              case measure => simp [Go.RowKit.intOf]; omega
            · go_wp2_with fail
              go_roundw
              case rel => exact ⟨i + 1, true, b2, by omega, by go_num, rfl, rfl, HH, HT, _, rfl⟩
              case measure => simp [Go.RowKit.intOf]; omega
          · have hq1 : (x == (k : Int)) = false := by simp [hxs]
            have hq2 : (x != (k : Int)) = true := by simp [hxs]
            have HH : Hid (hereB xs k (i + 1) = b1) := by unfold Hid; rw [here_next hh hx, decide_eq_false hxs]; simp
            obtain ⟨wb, HW⟩ : ∃ wb, Hid (withinB (k : Int) x = wb) := ⟨_, rfl⟩
            have HT : Hid (topB xs k (i + 1) = (b2 && !wb)) := by unfold Hid; rw [top_next ht hx, decide_eq_false hxs, HW.out]; simp
            clear hxs
            cases b1
            · cases wb
              · go_wp2_with fail
                refine (sWithin_is HW (by omega) (by omega) hx0 hx1 _).mono ?_
                rintro e w' ⟨rfl, m2, rfl⟩
                go_wp2_with fail
                go_roundw
                case rel => exact ⟨i + 1, false, b2, by omega, by go_num, rfl, rfl, HH, by unfold Hid; rw [HT.out]; simp, _, rfl⟩
                case measure => simp [Go.RowKit.intOf]; omega
              · go_wp2_with fail
                refine (sWithin_is HW (by omega) (by omega) hx0 hx1 _).mono ?_
                rintro e w' ⟨rfl, m2, rfl⟩
                go_wp2_with fail
                go_roundw
                case rel => exact ⟨i + 1, false, false, by omega, by go_num, rfl, rfl, HH, by unfold Hid; rw [HT.out]; simp, _, rfl⟩
                case measure => simp [Go.RowKit.intOf]; omega
            · cases wb
              · go_wp2_with fail
                refine (sWithin_is HW (by omega) (by omega) hx0 hx1 _).mono ?_
                rintro e w' ⟨rfl, m2, rfl⟩
                go_wp2_with fail
                go_roundw
                case rel => exact ⟨i + 1, true, b2, by omega, by go_num, rfl, rfl, HH, by unfold Hid; rw [HT.out]; simp, _, rfl⟩
                case measure => simp [Go.RowKit.intOf]; omega
              · go_wp2_with fail
                refine (sWithin_is HW (by omega) (by omega) hx0 hx1 _).mono ?_
                rintro e w' ⟨rfl, m2, rfl⟩
                go_wp2_with fail
                go_roundw
                case rel => exact ⟨i + 1, true, false, by omega, by go_num, rfl, rfl, HH, by unfold Hid; rw [HT.out]; simp, _, rfl⟩
                case measure => simp [Go.RowKit.intOf]; omega
        · obtain rfl : i = xs.length := by omega
          have HK := Lib.hid (keep_of hh ht)
          have HN := Lib.hid (tidy_next xs k)
          have hlen := tidy_len xs k
          clear hh ht
          cases b1
          · have HN2 : Hid (tidyTo xs (k + 1) = tidyTo xs k) := by unfold Hid; rw [HN.out, HK.out]; simp
            go_wp2_with fail
            go_roundw
            case rel => exact ⟨k + 1, by omega, by go_num, by rw [HN2.out]; exact HOW.out, bel_drewN HB.out m⟩
            case measure => simp [Go.RowKit.intOf]; omega
          · cases b2
            · have HN2 : Hid (tidyTo xs (k + 1) = tidyTo xs k) := by unfold Hid; rw [HN.out, HK.out]; simp
              go_wp2_with fail
              go_roundw
              case rel => exact ⟨k + 1, by omega, by go_num, by rw [HN2.out]; exact HOW.out, bel_drewN HB.out m⟩
              case measure => simp [Go.RowKit.intOf]; omega
            · have HN2 : Hid (tidyTo xs (k + 1) = tidyTo xs k ++ [(k : Int)]) := by unfold Hid; rw [HN.out, HK.out]; simp
              have HOW2 : Hid (Owns (wr.drewN m) w.heap.size u3 (tidyTo xs k)) := HOW.out
              have HB2 := Lib.hid (bel_drewN HB.out m)
              go_wp2_with (at_builtin; refine wp_append1 (W := wr.drewN m) rfl _ _ rfl w.heap.size u3 (tidyTo xs k) rfl HOW2.out (k : Int) rfl (by omega) HB2.out.size ?_; intro v' w' hown' hgrow)
              have hb' := below_append HB2.out HB2.out.size HOW2.out (Nat.le_refl _) hgrow
              go_roundw
              case rel => exact ⟨k + 1, by omega, by go_num, by rw [HN2.out]; exact hown', hb'⟩
              case measure => simp [Go.RowKit.intOf]; omega
    · obtain rfl : k = 256 := by omega
      go_wp2
      go_ret
      exact ⟨_, rfl, HOW.out, HB.out⟩

end Go.Proofs.YtmdogidflaplkaaGreat

namespace Go.Proofs.YtmdogidflaplkaaGreat
open Go.RowKit

end Go.Proofs.YtmdogidflaplkaaGreat

namespace Go.Proofs.YtmdogidflaplkaaGreat
open Go.RowKit

theorem within_iff {a b : Int} (ha : 0 ≤ a) : withinB a b = true ↔ ∀ i, a.toNat.testBit i = true → b.toNat.testBit i = true := by
  unfold withinB andI
  rw [decide_eq_true_eq]
  constructor
  · intro h i hi
    have h : a.toNat &&& b.toNat = a.toNat := by omega
    have := congrArg (fun x => x.testBit i) h
    simp only [Nat.testBit_and, hi, Bool.true_and] at this
    exact this
  · intro h
    have : a.toNat &&& b.toNat = a.toNat := by
      apply Nat.eq_of_testBit_eq
      intro i
      rw [Nat.testBit_and]
      cases hi : a.toNat.testBit i
      · rfl
      · rw [h i hi]; rfl
    omega
theorem within_trans {a b c : Int} (ha : 0 ≤ a) (hb : 0 ≤ b) (h1 : withinB a b = true) (h2 : withinB b c = true) : withinB a c = true := by
  rw [within_iff ha] at *
  rw [within_iff hb] at h2
  exact fun i hi => h2 i (h1 i hi)
theorem within_anti {a b : Int} (ha : 0 ≤ a) (hb : 0 ≤ b) (h1 : withinB a b = true) (h2 : withinB b a = true) : a = b := by
  have := within_le h1 hb; have := within_le h2 ha; omega
theorem within_or_left (a b : Int) (ha : 0 ≤ a) : withinB a (orI a b) = true := by
  rw [within_iff ha]; intro i hi
  show ((((a.toNat ||| b.toNat : Nat) : Int)).toNat).testBit i = true
  rw [Int.toNat_natCast, Nat.testBit_or, hi]; rfl
theorem within_or_right (a b : Int) (hb : 0 ≤ b) : withinB b (orI a b) = true := by
  rw [within_iff hb]; intro i hi
  show ((((a.toNat ||| b.toNat : Nat) : Int)).toNat).testBit i = true
  rw [Int.toNat_natCast, Nat.testBit_or, hi, Bool.or_true]
theorem or_within {a b c : Int} (ha : 0 ≤ a) (hb : 0 ≤ b) (h1 : withinB a c = true) (h2 : withinB b c = true) : withinB (orI a b) c = true := by
  rw [within_iff (orI_nonneg _ _)]
  rw [within_iff ha] at h1
  rw [within_iff hb] at h2
  intro i hi
  change ((((a.toNat ||| b.toNat : Nat) : Int)).toNat).testBit i = true at hi
  rw [Int.toNat_natCast, Nat.testBit_or, Bool.or_eq_true] at hi
  rcases hi with hi | hi
  · exact h1 i hi
  · exact h2 i hi
theorem fold_within : ∀ (xs : List Int) (a : Int), 0 ≤ a → (∀ x ∈ xs, 0 ≤ x) → withinB a (xs.foldl orI a) = true ∧ (∀ x ∈ xs, withinB x (xs.foldl orI a) = true) ∧ 0 ≤ xs.foldl orI a
  | [], a, ha, _ => ⟨within_refl a ha, by simp, ha⟩
  | y :: r, a, ha, hr => by
    have hy := hr y (by simp)
    obtain ⟨h1, h2, h3⟩ := fold_within r (orI a y) (orI_nonneg _ _) fun x hx => hr x (by simp [hx])
    refine ⟨within_trans ha (orI_nonneg _ _) (within_or_left a y ha) h1, fun x hx => ?_, h3⟩
    rcases List.mem_cons.1 hx with rfl | hx
    · exact within_trans hy (orI_nonneg _ _) (within_or_right a _ hy) h1
    · exact h2 x hx
theorem fold_least : ∀ (xs : List Int) (a c : Int), 0 ≤ a → (∀ x ∈ xs, 0 ≤ x) → withinB a c = true → (∀ x ∈ xs, withinB x c = true) → withinB (xs.foldl orI a) c = true
  | [], _, _, _, _, h, _ => h
  | y :: r, a, c, ha, hr, h, hc =>
    fold_least r (orI a y) c (orI_nonneg _ _) (fun x hx => hr x (by simp [hx])) (or_within ha (hr y (by simp)) h (hc y (by simp))) fun x hx => hc x (by simp [hx])
theorem within_zero (c : Int) : withinB 0 c = true := by unfold withinB andI; simp
theorem mem_union {xs : List Int} (hr : ∀ x ∈ xs, 0 ≤ x) {x : Int} (hx : x ∈ xs) : withinB x (unionI xs) = true := (fold_within xs 0 (by omega) hr).2.1 x hx
theorem union_least {xs : List Int} (hr : ∀ x ∈ xs, 0 ≤ x) {c : Int} (h : ∀ x ∈ xs, withinB x c = true) : withinB (unionI xs) c = true := fold_least xs 0 c (by omega) hr (within_zero c) h
theorem within_all {t x : Int} (ht1 : 1 ≤ t) (ht3 : t ≤ 3) (h0 : 0 ≤ x) : withinB x (allOf t) = true ↔ x ≤ allOf t := by
  constructor
  · exact fun h => within_le h (allOf_lt t).1
  · intro h
    rw [within_iff h0]
    intro i hi
    have key : ∀ n : Nat, x.toNat < 2 ^ n → (2 ^ n - 1).testBit i = true := by
      intro n hn
      rw [Nat.testBit_two_pow_sub_one, decide_eq_true_eq]
      rcases Nat.lt_or_ge i n with h1 | h1
      · exact h1
      · rw [Nat.testBit_lt_two_pow (Nat.lt_of_lt_of_le hn (Nat.pow_le_pow_right (by omega) h1))] at hi
        cases hi
    have : t = 1 ∨ t = 2 ∨ t = 3 := by omega
    rcases this with rfl | rfl | rfl
    · exact key 2 (by simp [allOf] at h; omega)
    · exact key 4 (by simp [allOf] at h; omega)
    · exact key 8 (by simp [allOf] at h; omega)
theorem issue_sets {t : Int} {xs : List Int} (h : issueOkB t xs = true) : ∀ x ∈ xs, setOkB t x = true := by
  have := issue_parts h
  unfold partsOkB at this
  rw [Bool.and_eq_true, List.all_eq_true] at this
  exact this.2
theorem issue_ne {t : Int} {xs : List Int} (h : issueOkB t xs = true) : 1 ≤ xs.length ∧ xs.length ≤ 70 := by
  have := issue_parts h
  unfold partsOkB at this
  rw [Bool.and_eq_true, decide_eq_true_eq] at this
  exact this.1
theorem issue_things {t : Int} {xs : List Int} (h : issueOkB t xs = true) : 1 ≤ t ∧ t ≤ 3 := by
  have h1 := issue_ne h
  cases xs with
  | nil => simp at h1
  | cons x r => have := setOkB_lt (issue_sets h x (by simp)); omega
theorem union_ok {t : Int} {xs : List Int} (h : issueOkB t xs = true) : setOkB t (unionI xs) = true := by
  obtain ⟨h1, h3⟩ := issue_things h
  have hr : ∀ x ∈ xs, 0 ≤ x := fun x hx => (issue_range h x hx).1
  have hu := union_range (issue_range h)
  refine setOk_of h1 h3 hu.1 ((within_all h1 h3 hu.1).1 (union_least hr fun x hx => ?_))
  have := setOkB_lt (issue_sets h x hx)
  exact (within_all h1 h3 (hr x hx)).2 this.2.2.2.1
/-- Two ascending lists of the same elements are the same. -/
theorem asc_ext : ∀ {xs ys : List Int}, xs.Pairwise (· < ·) → ys.Pairwise (· < ·) → (∀ x, x ∈ xs ↔ x ∈ ys) → xs = ys
  | [], [], _, _, _ => rfl
  | [], y :: r, _, _, h => by have := (h y).2 (by simp); simp at this
  | x :: r, [], _, _, h => by have := (h x).1 (by simp); simp at this
  | x :: r, y :: q, hx, hy, h => by
    rw [List.pairwise_cons] at hx hy
    have e : x = y := by
      have h1 := (h x).1 (by simp)
      have h2 := (h y).2 (by simp)
      rcases List.mem_cons.1 h1 with h1 | h1
      · exact h1
      · rcases List.mem_cons.1 h2 with h2 | h2
        · exact h2.symm
        · have := hy.1 x h1; have := hx.1 y h2; omega
    subst e
    congr 1
    refine asc_ext hx.2 hy.2 fun z => ⟨fun hz => ?_, fun hz => ?_⟩
    · rcases List.mem_cons.1 ((h z).1 (by simp [hz])) with e | h1
      · subst e; have := hx.1 z hz; omega
      · exact h1
    · rcases List.mem_cons.1 ((h z).2 (by simp [hz])) with e | h1
      · subst e; have := hy.1 z hz; omega
      · exact h1
/-- Two issues that are settled by the same sets are the same. -/
theorem settles_same {t : Int} {xs ys : List Int} (hx : issueOkB t xs = true) (hy : issueOkB t ys = true) (h : ∀ k, 0 ≤ k → k ≤ allOf t → settlesB t xs k = settlesB t ys k) : xs = ys := by
  have sub : ∀ {xs ys : List Int}, issueOkB t xs = true → issueOkB t ys = true → (∀ k, 0 ≤ k → k ≤ allOf t → settlesB t xs k = settlesB t ys k) → ∀ x ∈ xs, x ∈ ys := by
    intro xs ys hx hy h x hm
    have hsx := setOkB_lt (issue_sets hx x hm)
    have s1 : ∀ {zs : List Int}, issueOkB t zs = true → ∀ {z k : Int}, z ∈ zs → setOkB t k = true → withinB k z = true → settlesB t zs k = true := by
      intro zs hz z k hm hk hw
      unfold settlesB anyWithin
      rw [hz, hk, Bool.true_and, Bool.true_and, List.any_eq_true]
      exact ⟨z, hm, hw⟩
    have s2 : ∀ {zs : List Int}, ∀ {k : Int}, settlesB t zs k = true → ∃ z ∈ zs, withinB k z = true := by
      intro zs k hk
      unfold settlesB anyWithin at hk
      simp only [Bool.and_eq_true, List.any_eq_true] at hk
      exact hk.2
    have hxx := s1 hx hm (issue_sets hx x hm) (within_refl x hsx.2.2.1)
    rw [h x hsx.2.2.1 hsx.2.2.2.1] at hxx
    obtain ⟨y, hmy, hwy⟩ := s2 hxx
    have hsy := setOkB_lt (issue_sets hy y hmy)
    have hyy := s1 hy hmy (issue_sets hy y hmy) (within_refl y hsy.2.2.1)
    rw [← h y hsy.2.2.1 hsy.2.2.2.1] at hyy
    obtain ⟨z, hmz, hwz⟩ := s2 hyy
    have hsz := setOkB_lt (issue_sets hx z hmz)
    have hxz := within_trans hsx.2.2.1 hsy.2.2.1 hwy hwz
    have e : x = z := by
      obtain ⟨i, hi, rfl⟩ := List.mem_iff_getElem.1 hm
      obtain ⟨j, hj, rfl⟩ := List.mem_iff_getElem.1 hmz
      have hp : pairB xs = true := by unfold issueOkB at hx; rw [Bool.and_eq_true] at hx; exact hx.2
      rcases Nat.lt_trichotomy i j with h1 | h1 | h1
      · have := (pair_lt hp h1 (List.getElem?_eq_getElem hi) (List.getElem?_eq_getElem hj)).2.1
        rw [hxz] at this; cases this
      · subst h1; rfl
      · have := (pair_lt hp h1 (List.getElem?_eq_getElem hj) (List.getElem?_eq_getElem hi)).2.2
        rw [hxz] at this; cases this
    subst e
    have := within_anti hsx.2.2.1 hsy.2.2.1 hwy hwz
    rw [this]; exact hmy
  have asc : ∀ {zs : List Int}, issueOkB t zs = true → zs.Pairwise (· < ·) := by
    intro zs hz
    have hp : pairB zs = true := by unfold issueOkB at hz; rw [Bool.and_eq_true] at hz; exact hz.2
    refine (of_decide_eq_true hp).imp ?_
    intro a b hab
    simp [apartB] at hab
    exact hab.1.1
  exact asc_ext (asc hx) (asc hy) fun x => ⟨sub hx hy h x, sub hy hx (fun k a b => (h k a b).symm) x⟩
end Go.Proofs.YtmdogidflaplkaaGreat

namespace Go.Proofs.YtmdogidflaplkaaGreat
open Go.RowKit

/-- The program's way: of ascending sets those that are within no later one. -/
def greatL : List Int → List Int
  | [] => []
  | a :: r => if anyWithin a r = true then greatL r else a :: greatL r
theorem any_iff {s : Int} {xs : List Int} : anyWithin s xs = true ↔ ∃ x ∈ xs, withinB s x = true := by unfold anyWithin; rw [List.any_eq_true]
theorem great_sub : ∀ (ys : List Int), ∀ y ∈ greatL ys, y ∈ ys
  | [], _, h => h
  | a :: r, y, h => by
    unfold greatL at h
    split at h
    · exact List.mem_cons_of_mem _ (great_sub r y h)
    · rcases List.mem_cons.1 h with rfl | h
      · simp
      · exact List.mem_cons_of_mem _ (great_sub r y h)
theorem great_asc : ∀ (ys : List Int), (∀ y ∈ ys, 0 ≤ y) → ys.Pairwise (· ≤ ·) → (greatL ys).Pairwise (· < ·)
  | [], _, _ => List.Pairwise.nil
  | a :: r, h0, hs => by
    rw [List.pairwise_cons] at hs
    have ih := great_asc r (fun y hy => h0 y (by simp [hy])) hs.2
    unfold greatL
    split
    · exact ih
    · rename_i hn
      rw [List.pairwise_cons]
      refine ⟨fun y hy => ?_, ih⟩
      have hyr := great_sub r y hy
      have hle := hs.1 y hyr
      by_cases e : a = y
      · subst e
        exact absurd (any_iff.2 ⟨a, hyr, within_refl a (h0 a (by simp))⟩) hn
      · omega
theorem great_mem : ∀ (ys : List Int), (∀ y ∈ ys, 0 ≤ y) → ys.Pairwise (· ≤ ·) → ∀ y, y ∈ greatL ys ↔ (y ∈ ys ∧ ∀ x ∈ ys, x = y ∨ withinB y x = false)
  | [], _, _, y => by simp [greatL]
  | a :: r, h0, hs, y => by
    rw [List.pairwise_cons] at hs
    have ih := great_mem r (fun y hy => h0 y (by simp [hy])) hs.2 y
    have ha : 0 ≤ a := h0 a (by simp)
    have back : y ∈ r → a = y ∨ withinB y a = false := fun hy => by
      cases hw : withinB y a
      · exact .inr rfl
      · have := within_le hw ha; have := hs.1 y hy; exact .inl (by omega)
    unfold greatL
    split
    · rename_i hany
      rw [ih]
      constructor
      · rintro ⟨h1, h2⟩
        refine ⟨List.mem_cons_of_mem _ h1, fun x hx => ?_⟩
        rcases List.mem_cons.1 hx with rfl | hx
        · exact back h1
        · exact h2 x hx
      · rintro ⟨h1, h2⟩
        refine ⟨?_, fun x hx => h2 x (List.mem_cons_of_mem _ hx)⟩
        rcases List.mem_cons.1 h1 with rfl | h1
        · obtain ⟨x, hx, hw⟩ := any_iff.1 hany
          rcases h2 x (List.mem_cons_of_mem _ hx) with e | e
          · rw [← e]; exact hx
          · rw [hw] at e; cases e
        · exact h1
    · rename_i hany
      rw [List.mem_cons, ih]
      constructor
      · rintro (rfl | ⟨h1, h2⟩)
        · refine ⟨by simp, fun x hx => ?_⟩
          rcases List.mem_cons.1 hx with e | hx
          · exact .inl e
          · cases hw : withinB y x
            · exact .inr rfl
            · exact absurd (any_iff.2 ⟨x, hx, hw⟩) hany
        · refine ⟨List.mem_cons_of_mem _ h1, fun x hx => ?_⟩
          rcases List.mem_cons.1 hx with rfl | hx
          · exact back h1
          · exact h2 x hx
      · rintro ⟨h1, h2⟩
        rcases List.mem_cons.1 h1 with rfl | h1
        · exact .inl rfl
        · exact .inr ⟨h1, fun x hx => h2 x (List.mem_cons_of_mem _ hx)⟩
theorem great_cover : ∀ (ys : List Int), (∀ y ∈ ys, 0 ≤ y) → ∀ x ∈ ys, anyWithin x (greatL ys) = true
  | [], _, x, hx => by simp at hx
  | a :: r, h0, x, hx => by
    have h0r : ∀ y ∈ r, 0 ≤ y := fun y hy => h0 y (by simp [hy])
    have ih := great_cover r h0r
    unfold greatL
    split
    · rename_i hany
      rcases List.mem_cons.1 hx with rfl | hx
      · obtain ⟨z, hz, hw⟩ := any_iff.1 hany
        obtain ⟨z2, hz2, hw2⟩ := any_iff.1 (ih z hz)
        exact any_iff.2 ⟨z2, hz2, within_trans (h0 x (by simp)) (h0r z hz) hw hw2⟩
      · exact ih x hx
    · rcases List.mem_cons.1 hx with rfl | hx
      · exact any_iff.2 ⟨x, by simp, within_refl x (h0 x (by simp))⟩
      · obtain ⟨z2, hz2, hw2⟩ := any_iff.1 (ih x hx)
        exact any_iff.2 ⟨z2, List.mem_cons_of_mem _ hz2, hw2⟩
theorem tidy_asc (xs : List Int) : (tidyL xs).Pairwise (· < ·) := by
  unfold tidyL tidyTo
  refine List.Pairwise.sublist List.filter_sublist ?_
  rw [List.pairwise_map]
  exact List.pairwise_lt_range.imp (fun h => by omega)
theorem tidy_mem {xs : List Int} (hr : ∀ x ∈ xs, 0 ≤ x ∧ x < 256) (y : Int) : y ∈ tidyL xs ↔ (y ∈ xs ∧ ∀ x ∈ xs, x = y ∨ withinB y x = false) := by
  unfold tidyL tidyTo keepB
  rw [List.mem_filter, List.mem_map]
  simp only [Bool.and_eq_true, decide_eq_true_eq, List.all_eq_true, Bool.or_eq_true, Bool.not_eq_true', List.mem_range]
  constructor
  · exact fun h => h.2
  · intro h
    have := hr y h.1
    exact ⟨⟨y.toNat, by omega, by omega⟩, h⟩
theorem great_tidy {xs ys : List Int} (hr : ∀ x ∈ xs, 0 ≤ x ∧ x < 256) (hs : ys.Pairwise (· ≤ ·)) (hm : ∀ x, x ∈ ys ↔ x ∈ xs) : greatL ys = tidyL xs := by
  have h0 : ∀ y ∈ ys, 0 ≤ y := fun y hy => (hr y ((hm y).1 hy)).1
  refine asc_ext (great_asc ys h0 hs) (tidy_asc xs) fun y => ?_
  rw [great_mem ys h0 hs, tidy_mem hr]
  constructor
  · exact fun h => ⟨(hm y).1 h.1, fun x hx => h.2 x ((hm x).2 hx)⟩
  · exact fun h => ⟨(hm y).2 h.1, fun x hx => h.2 x ((hm x).1 hx)⟩
theorem pair_iff {xs : List Int} (ha : xs.Pairwise (· < ·)) (hw : ∀ x ∈ xs, ∀ y ∈ xs, y = x ∨ withinB x y = false) : pairB xs = true := by
  unfold pairB
  apply decide_eq_true
  rw [List.pairwise_iff_getElem] at ha ⊢
  intro i j hi hj hij
  have h1 := ha i j hi hj hij
  have h2 := hw _ (List.getElem_mem hi) _ (List.getElem_mem hj)
  have h3 := hw _ (List.getElem_mem hj) _ (List.getElem_mem hi)
  have e2 : withinB xs[i] xs[j] = false := by rcases h2 with h | h; omega; exact h
  have e3 : withinB xs[j] xs[i] = false := by rcases h3 with h | h; omega; exact h
  simp [apartB, e2, e3, h1]
end Go.Proofs.YtmdogidflaplkaaGreat
