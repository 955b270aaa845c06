/-
  What the proofs of this seat's statements share (LstY, PrtP, PrtX, PrtY, PrtZ).
-/
import Derived.Shelf.SlicesE.DeleteFunc
import Derived.Test.YtfmknllemhdnaaaU16

namespace Go.Proofs.Ytfmknllemhdnaaa
open Go.RowKit

set_option maxHeartbeats 400000 in
theorem drawIssuesOf_any (A : Option Addr) (nn c : Nat) (zs : List Int) (w : World) (hn : nn = zs.length) (hc : nn ≤ c) (hm : c ≤ maxLen) (hr : ∀ z ∈ zs, 0 ≤ z ∧ z ≤ 255) (hA : Nums .u8 w A zs) :
    Calls Try.prog 7 #[.slice A nn c] w (Draw1 0 4 w) := by
  have HO := Lib.hid (open_any A nn c zs w hn hc hm hr hA)
  clear hn hc hm hr hA
  go_enter Try.func7, Try.ntmps7
  go_wp2_with fail
  refine HO.out.mono ?_
  rintro e w1 ⟨rfl, hrd, hb⟩
  have HR := Lib.hid hrd
  have HB := Lib.hid hb
  clear hrd hb
  go_wp2_with fail
  refine (pick_any _ 0 _ _ (by omega) (by omega) (by omega) HR.out).mono ?_
  rintro e w2 ⟨k, rfl, hk0, hk1, _, hg⟩
  have hk := hk1 (by omega)
  have HB2 := Lib.hid (below_grown HB.out hg HB.out.size (Nat.le_refl _))
  clear hg hk1
  go_wp2_with fail
  go_ret
  exact ⟨_, rfl, by omega, by omega, HB2.out⟩
/-- No row is the one ahead of it. -/
def nextB : List (List Int) → Bool
  | x :: y :: r => decide (y ≠ x) && nextB (y :: r)
  | _ => true
theorem next_at : ∀ {L : List (List Int)} {j : Nat} {x y : List Int}, nextB L = true → L[j]? = some x → L[j + 1]? = some y → decide (y = x) = false
  | [], _, _, _, _, h, _ => by simp at h
  | [_], j, _, _, _, _, h => by simp at h
  | a :: b :: r, 0, x, y, h, hx, hy => by
    simp only [nextB, Bool.and_eq_true, decide_eq_true_eq] at h
    simp at hx hy
    subst hx hy
    simpa using h.1
  | a :: b :: r, j + 1, x, y, h, hx, hy => by
    simp only [nextB, Bool.and_eq_true] at h
    exact next_at (j := j) (L := b :: r) h.2 (by simpa using hx) (by simpa using hy)
theorem list_ok {t : Int} {n : Int} (h : t = 1 ∧ n = 5 ∨ t = 2 ∧ n = 167) : (issuesOfL t).all (issueOkB t) = true ∧ nextB (issuesOfL t) = true ∧ ((issuesOfL t).length : Int) = n := by
  rcases h with ⟨rfl, rfl⟩ | ⟨rfl, rfl⟩
  · rw [issues_grow, if_pos rfl]
    exact ⟨by decide +kernel, by decide +kernel, by rw [grow_one]; rfl⟩
  · rw [issues_grow, if_neg (by decide), if_pos rfl]
    exact ⟨by decide +kernel, by decide +kernel, by rw [grow_two]; rfl⟩
theorem list_none {t : Int} (h : t < 1 ∨ 2 < t) : issuesOfL t = [] := by
  rw [issues_grow, if_neg (by omega), if_neg (by omega)]
theorem cells_new2 (W : World) (a b : Value) (t : TypeId) : (W.alloc (.cells #[a, b] t)).cell? ⟨W.heap.size, 0, none⟩ = some a ∧ (W.alloc (.cells #[a, b] t)).cell? ⟨W.heap.size, 1, none⟩ = some b := by
  have h := World.alloc_heap_new W (.cells #[a, b] t)
  constructor <;> (simp only [World.cell?]; rw [h]; rfl)
theorem issues_row {t : Int} {xs : List Int} {b : Bool} (h : Hid (issueOkB t xs = b)) {A : Option Addr} {nn c : Nat} {w : World} (ha : Row w A nn c xs) :
    Calls Try.prog 12 #[.int .i64 t, .slice A nn c] w fun e w' => e = .returned (.bool b) ∧ ∃ n, w' = w.drewN n := iIssueOk_is h A nn c w ha.hn ha.hl ha.hc ha.hm ha.hA
set_option maxRecDepth 100000 in
set_option maxHeartbeats 8000000 in
theorem wIssuesOf (A : Option Addr) (nn c : Nat) (zs : List Int) (w : World) (hn : nn = zs.length) (hc : nn ≤ c) (hm : c ≤ maxLen) (hr : ∀ z ∈ zs, 0 ≤ z ∧ z ≤ 255) (hA : Nums .u8 w A zs) :
    Calls Try.prog 3 #[.slice A nn c] w fun e w' => e = .returned (.bool true) ∧ Below w.heap.size w w' := by
  have HO := Lib.hid (drawIssuesOf_any A nn c zs w hn hc hm hr hA)
  have hm' : nn ≤ 9223372036854775807 := by unfold maxLen at hm; omega
  clear hn hc hm hr hA
  by_cases hl : 1048576 < nn
  · have hd : decide ((1048576 : Int) < (nn : Int)) = true := decide_eq_true (by omega)
    go_enter Try.func3, Try.ntmps3
    go_wp2_with fail
    go_ret
    exact ⟨rfl, Below.refl _ _⟩
  have hd : decide ((1048576 : Int) < (nn : Int)) = false := decide_eq_false (by omega)
  clear hl
  go_enter Try.func3, Try.ntmps3
  go_wp2_with fail
  refine HO.out.mono ?_
  rintro e w1 ⟨t, rfl, ht0, ht1, hb⟩
  have HB1 := Lib.hid hb
  clear hb HO hd
  have HIM : Hid (∀ W, Calls Try.prog 8 #[.int .i64 t] W (RowsPost (issuesOfL t) W)) := iIssuesOf t
  have HSP : Hid (∀ W, Calls Try.prog 10 #[.int .i64 t] W (OwnR (issuesOfL t) W)) := sIssuesOf t
  have hl := list_len t
  obtain ⟨L, HL⟩ : ∃ L, Hid (issuesOfL t = L) := ⟨_, rfl⟩
  rw [HL.out] at HIM HSP hl
  go_wp2_with fail
  refine (HIM.out _).mono ?_
  rintro e w2 ⟨v, us, rfl, ho, _, hb⟩
  obtain ⟨A2, c2, rfl, _⟩ := ho.form
  have HO2 := Lib.hid ho
  have HB2 := Lib.hid (bel_trans HB1.out hb)
  clear ho hb
  go_wp2_with fail
  refine (HSP.out _).mono ?_
  rintro e w3 ⟨v, vs, rfl, ho, hb⟩
  obtain ⟨A3, c3, rfl, _⟩ := ho.form
  have HO3 := Lib.hid ho
  have HO2 := Lib.hid (HO2.out.below hb)
  have HB3 := Lib.hid (bel_trans HB2.out hb)
  clear ho hb
  go_wp2_with fail
  refine (lSameRows HO2.out HO3.out (by omega)).mono ?_
  rintro e w' ⟨rfl, q1, rfl⟩
  by_cases hbad : t < 1 ∨ 2 < t
  · have HE : Hid (L.length = 0) := by unfold Hid; rw [← HL.out, list_none hbad]; rfl
    rcases hbad with hbad | hbad
    · have hz : ((L.length : Int) == 0) = true := by rw [HE.out]; rfl
      go_wp2_with fail
      refine (lAlive _).mono ?_
      rintro e w' ⟨rfl, rfl⟩
      go_wp2_with fail
      go_ret
      exact ⟨rfl, bel_drewN HB3.out _⟩
    · have hz : ((L.length : Int) == 0) = true := by rw [HE.out]; rfl
      have hge : ¬ (t < 1) := by omega
      go_wp2_with fail
      refine (lAlive _).mono ?_
      rintro e w' ⟨rfl, rfl⟩
      go_wp2_with fail
      go_ret
      exact ⟨rfl, bel_drewN HB3.out _⟩
  · have h : t = 1 ∨ t = 2 := by omega
    clear hbad ht0 ht1
    obtain ⟨n, hn⟩ : ∃ n : Int, t = 1 ∧ n = 5 ∨ t = 2 ∧ n = 167 := by
      rcases h with h | h
      · exact ⟨5, .inl ⟨h, rfl⟩⟩
      · exact ⟨167, .inr ⟨h, rfl⟩⟩
    obtain ⟨hok, hnx, hnl⟩ := list_ok hn
    rw [HL.out] at hok hnx hnl
    have HOK : Hid (∀ x ∈ L, issueOkB t x = true) := fun x hx => List.all_eq_true.1 hok x hx
    have HNX := Lib.hid hnx
    have HNL := Lib.hid hnl
    clear hok hnx hnl h
    have h1 : ¬ (t < 1) := by omega
    have h2 : ¬ (2 < t) := by omega
    go_wp2_with fail
    go_loopw [5] (fun i wr => ∃ k : Nat, k ≤ L.length ∧ i = .int .i64 k ∧ ∃ q, wr = w3.drewN q) (fun i _ => L.length - (Go.RowKit.intOf i).toNat)
    case atStart => exact ⟨0, Nat.zero_le _, rfl, q1, rfl⟩
    case round =>
      obtain ⟨k, hk, rfl, q, rfl⟩ := hrel
      by_cases hlt : k < L.length
      · obtain ⟨g1, o1, A1, c1, x, rfl, hcx, hx, hr1, _, hx3, _⟩ := HO2.out.elemO hlt
        have HKX := Lib.hid (HOK.out x (List.mem_of_getElem? hx.out))
        rcases Nat.eq_zero_or_pos k with rfl | hpos
        · rw [Nat.add_zero] at hcx
          go_wp2_with fail
          go_quiet ((go_at_call 12; exact quiet_more (issues_row HKX (hr1.out.drewN _))))
          go_wp2_with fail
          go_roundw
          case rel => exact ⟨1, by omega, by go_num, _, by first | rfl | rw [World.drewN_drewN]⟩
          case measure => simp [Go.RowKit.intOf]; omega
        · obtain ⟨j, hj⟩ : ∃ j, k = j + 1 := ⟨k - 1, by omega⟩
          obtain ⟨g2, o2, A2', c2', y, hge, hcy, hy, hr2, _, hy3, _⟩ := HO2.out.elemO (i := j) (by omega)
          cases hge
          have HNE : Hid (decide (x = y) = false) := next_at HNX.out hy.out (by rw [← hj]; exact hx.out)
          have hkz : decide ((0 : Int) < (k : Int)) = true := decide_eq_true (by omega)
          have hkj : IntKind.i64.wrap ((k : Int) - 1) = (j : Int) := (wrap_small _ (by omega) (by omega)).trans (by omega)
          have hjl : (j : Int) < (L.length : Int) := by omega
          clear hj
          go_wp2_with fail
          go_quiet (first | (go_at_call 12; exact quiet_more (issues_row HKX (hr1.out.drewN _))) | (go_at_call 13; exact quiet_more (lSame6 HNE rfl rfl (by omega) (by omega) (hr1.out.drewN _).hA (hr2.out.drewN _).hA)))
          go_wp2_with fail
          go_roundw
          case rel => exact ⟨k + 1, by omega, by go_num, _, by first | rfl | rw [World.drewN_drewN]⟩
          case measure => simp [Go.RowKit.intOf]; omega
      · obtain rfl : k = L.length := by omega
        rcases hn with ⟨rfl, rfl⟩ | ⟨rfl, rfl⟩
        · clear h1 h2
          have hnew : ((w3.drewN q).alloc (.cells #[.int .i64 5, .int .i64 167] 3)).cell? ⟨w3.heap.size, 0, none⟩ = some (.int .i64 5) := (cells_new2 (w3.drewN q) (.int .i64 5) (.int .i64 167) 3).1
          go_wp2_with fail
          go_ret
          exact ⟨ret_bool (by rw [HNL.out]; rfl), by first | exact bel_drewN HB3.out _ | exact (bel_drewN HB3.out q).alloc (by have := HB3.out.size; exact this) _⟩
        · clear h1 h2
          have hnew : ((w3.drewN q).alloc (.cells #[.int .i64 5, .int .i64 167] 3)).cell? ⟨w3.heap.size, 1, none⟩ = some (.int .i64 167) := (cells_new2 (w3.drewN q) (.int .i64 5) (.int .i64 167) 3).2
          go_wp2_with fail
          go_ret
          exact ⟨ret_bool (by rw [HNL.out]; rfl), by first | exact bel_drewN HB3.out _ | exact (bel_drewN HB3.out q).alloc (by have := HB3.out.size; exact this) _⟩
end Go.Proofs.Ytfmknllemhdnaaa

namespace Go.Proofs.Ytfmknllemhdnaaa
open Go.RowKit Go.Shelf

def Try.layDf_ren : Go.Shelf.Ren := ⟨fun | 10 => 36 | 6 => 49 | n => n, fun | 22 => 24 | 23 => 29 | 25 => 43 | n => n, fun | n => n⟩
theorem Try.layDf : SlLaysH.n10 Try.prog Try.layDf_ren := {
  mixed := by kernel_rfl
  f6 := ⟨Try.f49.name, by decide, Try.func49.trans (congrArg some (by kernel_rfl))⟩
  f10 := ⟨Try.f36.name, by decide, Try.func36.trans (congrArg some (by kernel_rfl))⟩
  t0 := Try.underlying0
  a0 := Try.isAgg0
  z0 := Try.sizeOf0
  v0 := Try.zeroValue0
  t3 := Try.underlying3
  a3 := Try.isAgg3
  z3 := Try.sizeOf3
  v3 := Try.zeroValue3
  t4 := Try.underlying4
  a4 := Try.isAgg4
  z4 := Try.sizeOf4
  v4 := Try.zeroValue4
  t22 := Try.underlying24
  a22 := Try.isAgg24
  z22 := Try.sizeOf24
  v22 := Try.zeroValue24
  a23 := Try.isAgg29
  z23 := Try.sizeOf29
  t25 := Try.underlying43
  a25 := Try.isAgg43
  z25 := Try.sizeOf43
  v25 := Try.zeroValue43 }
set_option maxHeartbeats 1000000 in
theorem iDel1 {t : Int} {A : Option Addr} {n c B : Nat} {xs : List Int} {W : World} (ha : Row W A n c xs) (hc : W.cell? ⟨B, 0, none⟩ = some (.int .i64 t)) :
    Calls Try.prog 37 #[.slice A n c, .pointer (some ⟨B, 0, none⟩)] W fun e w' => e = .returned (.bool (!isPartB t xs)) ∧ ∃ q, w' = W.drewN q := by
  have HP := Lib.hid (iIsPart t A n c xs W ha)
  clear ha
  go_enter Try.func37, Try.ntmps37
  go_wp2_with fail
  refine HP.out.mono ?_
  rintro e w' ⟨rfl, q, rfl⟩
  go_wp2_with fail
  go_ret
  exact ⟨rfl, q, rfl⟩
theorem heap_sort_other {α : Type} [Inhabited α] (enc : α → Value) (w : World) (blk n : Nat) (dk : Array α) (os : Array Obj) {b : Nat} (hb : b < w.heap.size) (hne : b ≠ blk) : (Go.Proofs.sortWorld enc w blk 0 n dk os).heap[b]? = w.heap[b]? := by
  unfold Go.Proofs.sortWorld
  rw [Go.Sort.heap_grow_old _ _ (by rw [Go.Sort.size_putRow]; exact hb)]
  unfold Go.Sort.putRow Go.Sort.mapBlock
  simp only [Array.getElem?_modify]
  rw [if_neg (fun e => hne e.symm)]
  rfl
/-- A row that a list bears. -/
def InRow (w : World) (base blk : Nat) (p : Value × List Int) : Prop := Owns w base p.1 p.2 ∧ p.2.length ≤ 300 ∧ (p.1.ownBlock = none ∨ p.1.ownBlock ≠ some blk)
theorem rows_in {w : World} {base blk : Nat} : ∀ (us : List Value) (L : List (List Int)), us.length = L.length → (∀ (i : Nat) (u : Value) (xs : List Int), us[i]? = some u → L[i]? = some xs → InRow w base blk (u, xs)) →
    ∃ ds : List { p : Value × List Int // InRow w base blk p }, ds.map (fun d => d.1.1) = us ∧ ds.map (fun d => d.1.2) = L
  | [], [], _, _ => ⟨[], rfl, rfl⟩
  | [], _ :: _, h, _ => by simp at h
  | _ :: _, [], h, _ => by simp at h
  | u :: us, x :: L, h, hi => by
    obtain ⟨ds, h1, h2⟩ := rows_in us L (by simpa using h) (fun i a b ha hb => hi (i + 1) a b (by simpa using ha) (by simpa using hb))
    exact ⟨⟨(u, x), hi 0 u x rfl rfl⟩ :: ds, by simp [h1], by simp [h2]⟩
theorem heap_put {α : Type} [Inhabited α] (enc : α → Value) {w : World} {g n : Nat} {cur : Array Value} {e : TypeId} {fr : Nat × Nat} (d : Array α) (hb : w.heap[g]? = some (.cells cur e fr)) :
    (Go.Sort.putRow enc (Go.Sort.ahead w n) g 0 d).heap[g]? = some (.cells (Go.Sort.putCells enc 0 d cur) e fr) := by
  simp [Go.Sort.putRow, Go.Sort.mapBlock, Go.Sort.ahead, Array.getElem?_modify, hb, Go.Sort.onCells]
theorem grown_put {α : Type} [Inhabited α] (enc : α → Value) (w : World) (g n : Nat) (d : Array α) : w.grownBy (Go.Sort.putRow enc (Go.Sort.ahead w n) g 0 d) (some g) := by
  refine ⟨rfl, rfl, rfl, by simp [Go.Sort.putRow, Go.Sort.mapBlock, Go.Sort.ahead], fun k hk hne => ?_⟩
  have : g ≠ k := fun e => hne (by rw [e])
  simp [Go.Sort.putRow, Go.Sort.mapBlock, Go.Sort.ahead, Array.getElem?_modify, this]
theorem take_put {α : Type} [Inhabited α] (enc : α → Value) (cur : Array Value) (ks zs : List α) (h : ks.length ≤ cur.size) : (Go.Sort.putCells enc 0 (ks ++ zs).toArray cur).toList.take ks.length = ks.map enc := by
  apply List.ext_getElem?
  intro j
  by_cases hj : j < ks.length
  · rw [List.getElem?_take_of_lt hj, Array.getElem?_toList]
    have h1 : j < (ks ++ zs).length := by rw [List.length_append]; omega
    simp [Go.Sort.putCells, hj, show j < cur.size by omega, show j < ks.length + zs.length by omega]
  · rw [List.getElem?_take_eq_none (by omega), List.getElem?_eq_none (by simp; omega)]
set_option maxHeartbeats 1000000 in
theorem iDelete {t : Int} {B base g n c : Nat} {us : List Value} {L : List (List Int)} {W : World} (ho : OwnsR W base (.slice (some ⟨g, 0, none⟩) n c) us L) (hap : Apart us) (hc : W.cell? ⟨B, 0, none⟩ = some (.int .i64 t)) (hB : B < W.heap.size) (hne : B ≠ g) (hl : L.length ≤ 1000) :
    Calls Try.prog 36 #[.slice (some ⟨g, 0, none⟩) n c, .func (.func 37) #[] #[.pointer (some ⟨B, 0, none⟩)]] W fun e w' => ∃ v' us', e = .returned v' ∧ OwnsR w' base v' us' (L.filter (isPartB t)) ∧ Apart us' ∧ Below base W w' := by
  obtain rfl := ho.size_eq
  have hlen := ho.len
  obtain ⟨ds, hd1, hd2⟩ := rows_in (w := W) (base := base) (blk := g) us L hlen (fun i u xs hu hx => by
    obtain ⟨z, h1, h2, h3, h4⟩ := ho.sees.2 i xs hx
    rw [hu] at h1
    cases h1
    exact ⟨h2, h3, h4⟩)
  have hdl : ds.length = L.length := by rw [← hd2, List.length_map]
  rcases ho.row.2 with ⟨hv, _⟩ | ⟨g', cap, cur, hv, hbg, hg, hnc, hm, hcs, ht⟩
  · cases hv
  simp only [Value.slice.injEq, Option.some.injEq, Addr.mk.injEq, and_true] at hv
  obtain ⟨rfl, _, rfl⟩ := hv
  let zr : { p : Value × List Int // InRow W base g p } := ⟨(.slice none 0 0, []), Owns.nil _ _, by simp, .inl rfl⟩
  haveI : Inhabited { p : Value × List Int // InRow W base g p } := ⟨zr⟩
  have hrow := ho.row
  rw [hlen] at hrow
  have hH : Go.Sort.Holds (fun d : { p : Value × List Int // InRow W base g p } => d.1.1) W g 0 ds.toArray := fun j hj => by
    rw [List.size_toArray] at hj
    refine ⟨?_, by rw [Nat.zero_add]; exact hrow.frozenAt j⟩
    rw [Nat.zero_add, hrow.cellAt j (by omega), ← hd1, List.getElem?_map, List.getElem?_eq_getElem hj]
    simp [hj]
  have hcon := AnyE.slices_DeleteFunc (α := { p : Value × List Int // InRow W base g p }) Try.layDf (fun d => d.1.1)
    (fun x => by
      obtain ⟨⟨u, xs⟩, h1, h2, h3⟩ := x
      obtain ⟨A, c', e, _⟩ := h1.form
      simp only at e
      subst e
      rfl) (fun d => !isPartB t d.1.2) 37 #[.pointer (some ⟨B, 0, none⟩)] (enters_of Try.func37 (by kernel_rfl) rfl) zr Try.zeroValue29 g 0 c ds.toArray W
    (fun W' x hb => by
      obtain ⟨⟨u, xs⟩, h1, h2, h3⟩ := x
      obtain ⟨A, c', e, _⟩ := h1.form
      simp only at e h1 h2
      subst e
      exact iDel1 (Owns.row (h1.below hb) (Nat.le_trans h2 (by decide))) ((hb.cell (p := ⟨B, 0, none⟩) hB).trans hc))
    (fun m os dk x _ => by
      obtain ⟨⟨u, xs⟩, h1, h2, h3⟩ := x
      obtain ⟨A, c', e, _⟩ := h1.form
      simp only at e h1 h2 h3
      subst e
      refine iDel1 (Owns.row (h1.same fun b hb => heap_sort_other _ _ _ _ _ _ (h1.block_lt hb).2.1 fun e2 => ?_) (Nat.le_trans h2 (by decide))) ((cell_same (heap_sort_other _ _ _ _ _ _ hB hne)).trans hc)
      subst e2
      rcases h3 with h3 | h3
      · rw [h3] at hb; cases hb
      · exact h3 hb) hH (by rw [List.size_toArray, hdl]; omega) (by rw [List.size_toArray, hdl]; omega)
  rw [List.size_toArray, hdl] at hcon
  change Calls Try.prog 36 _ _ _ at hcon
  refine hcon.mono ?_
  rintro e w' ⟨rfl, q, rfl⟩
  simp only [Bool.not_not]
  obtain ⟨ks, hks⟩ : ∃ ks, ds.filter (fun d => isPartB t d.1.2) = ks := ⟨_, rfl⟩
  have hkl : ks.length ≤ ds.length := by rw [← hks]; exact List.length_filter_le _ _
  have hkr : ks.map (fun d => d.1.2) = L.filter (isPartB t) := by
    rw [← hks, ← hd2, List.filter_map]
    rfl
  have hgr := grown_put (fun d : { p : Value × List Int // InRow W base g p } => d.1.1) W g q
  rw [hks]
  refine ⟨_, ks.map (fun d => d.1.1), rfl, ⟨?_, ?_, ?_⟩, ?_, ?_⟩
  · rw [List.length_map]
    refine ⟨by rw [List.length_map, Nat.mul_one], .inr ⟨g, c, _, rfl, hbg, heap_put _ _ hg, by omega, hm, ?_, ?_⟩⟩
    · simp [Go.Sort.putCells, hcs]
    · rw [Nat.mul_one]
      exact take_put _ cur ks _ (by omega)
  · rw [← hkr, List.length_map, List.length_map]
  · intro i xs hx
    rw [← hkr, List.getElem?_map] at hx
    obtain ⟨d, hd, rfl⟩ := Option.map_eq_some_iff.1 hx
    obtain ⟨h1, h2, h3⟩ := d.2
    exact ⟨d.1.1, by rw [List.getElem?_map, hd]; rfl, h1.kept (hgr _) h3, h2, h3⟩
  · have hsub : (ks.map fun d => d.1.1).Sublist us := by
      rw [← hks, ← hd1]
      exact List.Sublist.map _ List.filter_sublist
    exact List.Pairwise.sublist hsub hap
  · exact (Below.refl base W).grown (hgr _) (by have := (World.ownsRow.lt hrow g rfl); omega) (fun k e => by cases e; exact hbg)
set_option maxRecDepth 100000 in
set_option maxHeartbeats 1000000 in
theorem iIssuesNil {t : Int} (h : t < 1 ∨ 2 < t) (w : World) : Calls Try.prog 8 #[.int .i64 t] w fun e w' => e = .returned (.slice none 0 0) ∧ w = w' := by
  rcases h with h | h
  · go_enter Try.func8, Try.ntmps8
    go_wp2_with fail
    go_ret
    exact ⟨rfl, rfl⟩
  · have h4 : ¬ (t < 1) := by omega
    go_enter Try.func8, Try.ntmps8
    go_wp2_with fail
    go_ret
    exact ⟨rfl, rfl⟩
set_option maxRecDepth 100000 in
set_option maxHeartbeats 1000000 in
theorem iIndexNil (f : Value) (w : World) : Calls Try.prog 49 #[.slice none 0 0, f] w fun e w' => e = .returned (.int .i64 (-1)) ∧ w = w' := by
  go_enter Try.func49, Try.ntmps49
  go_wp2_with fail
  refine wp_loop_rounds 1 ?_
  rw [rounds_succ]
  go_wp2_with fail
  go_ret
  exact ⟨rfl, rfl⟩
set_option maxRecDepth 100000 in
set_option maxHeartbeats 1000000 in
theorem iDeleteNil (f : Value) (w : World) : Calls Try.prog 36 #[.slice none 0 0, f] w fun e w' => e = .returned (.slice none 0 0) ∧ w = w' := by
  go_enter Try.func36, Try.ntmps36
  go_wp2_with fail
  refine (iIndexNil _ _).mono ?_
  rintro e w' ⟨rfl, rfl⟩
  go_wp2_with fail
  go_ret
  exact ⟨rfl, rfl⟩
theorem issuesNil {t : Int} (h : t < 1 ∨ 2 < t) : issuesOfL t = [] := by
  rw [issues_grow, if_neg (by omega), if_neg (by omega)]
theorem issues_some {t : Int} (h : t = 1 ∨ t = 2) : 0 < (issuesOfL t).length := by
  rcases h with rfl | rfl
  · rw [issues_grow, if_pos rfl, grow_one]; omega
  · rw [issues_grow, if_neg (by decide), if_pos rfl, grow_two]; omega
set_option maxRecDepth 100000 in
set_option maxHeartbeats 1000000 in
theorem iPartitionsOf (t : Int) (w : World) : Calls Try.prog 18 #[.int .i64 t] w (RowsPost (partitionsL t) w) := by
  by_cases hbad : t < 1 ∨ 2 < t
  · have HN : Hid (∀ W, Calls Try.prog 8 #[.int .i64 t] W fun e w' => e = .returned (.slice none 0 0) ∧ W = w') := iIssuesNil hbad
    have he : partitionsL t = [] := by unfold partitionsL; rw [issuesNil hbad]; rfl
    rw [he]
    have HB : Hid (Below w.heap.size w (w.alloc (.cells #[.int .i64 t] 3))) := (Below.refl _ _).alloc (Nat.le_refl _) _
    clear hbad he
    go_enter Try.func18, Try.ntmps18
    go_wp2_with fail
    refine (HN.out _).mono ?_
    rintro e w' ⟨rfl, rfl⟩
    go_wp2_with fail
    refine (iDeleteNil _ _).mono ?_
    rintro e w' ⟨rfl, rfl⟩
    go_wp2_with fail
    go_ret
    exact ⟨_, [], rfl, OwnsR.nil _ _, List.Pairwise.nil, HB.out⟩
  · have h : t = 1 ∨ t = 2 := by omega
    have hpos := issues_some h
    have hl := list_len t
    have HIM : Hid (∀ W, Calls Try.prog 8 #[.int .i64 t] W (RowsPost (issuesOfL t) W)) := iIssuesOf t
    unfold partitionsL
    obtain ⟨L, HL⟩ : ∃ L, Hid (issuesOfL t = L) := ⟨_, rfl⟩
    rw [HL.out] at HIM hpos hl ⊢
    have HB : Hid (Below w.heap.size w (w.alloc (.cells #[.int .i64 t] 3))) := (Below.refl _ _).alloc (Nat.le_refl _) _
    have bT := Boxed.new w 3 (.int .i64 t)
    have HT := Lib.hid bT.cell
    clear hbad h bT
    go_enter Try.func18, Try.ntmps18
    go_wp2_with fail
    refine (HIM.out _).mono ?_
    rintro e w2 ⟨v, us, rfl, ho, hap, hb⟩
    obtain ⟨g, c, hv, hgb⟩ : ∃ g c, v = .slice (some ⟨g, 0, none⟩) L.length c ∧ w.heap.size < g := by
      rcases ho.row.2 with ⟨rfl, hz⟩ | ⟨g, cap, cur, rfl, hbg, _⟩
      · have := ho.len; omega
      · rw [World.size_alloc] at hbg
        exact ⟨g, cap, by rw [ho.len], by omega⟩
    subst hv
    have hcB : w2.cell? ⟨w.heap.size, 0, none⟩ = some (.int .i64 t) := (hb.cell (p := ⟨w.heap.size, 0, none⟩) (by simp)).trans HT.out
    have hltB : w.heap.size < w2.heap.size := by have := hb.size; rw [World.size_alloc] at this; omega
    have HD := Lib.hid (iDelete ho hap hcB hltB (by omega) (by omega))
    have HB2 : Hid (Below w.heap.size w w2) := bel_trans HB.out hb
    have hbs : (w.alloc (.cells #[.int .i64 t] 3)).heap.size = w.heap.size + 1 := World.size_alloc _ _
    clear ho hap hb hcB
    go_wp2_with fail
    refine HD.out.mono ?_
    rintro e w3 ⟨v', us', rfl, ho, hap, hb⟩
    go_wp2_with fail
    go_ret
    exact ⟨_, us', rfl, ho.base (by rw [hbs]; omega), hap, HB2.out.trans (hb.mono (by rw [hbs]; omega))⟩
end Go.Proofs.Ytfmknllemhdnaaa

namespace Go.Proofs.Ytfmknllemhdnaaa
open Go.RowKit

theorem parts_few (t : Int) : (partitionsL t).length ≤ 200 := Nat.le_trans (List.length_filter_le _ _) (list_len t)
theorem sum_filter (p : List Int → Bool) : ∀ L : List (List Int), sumLen (L.filter p) ≤ sumLen L
  | [] => Nat.le_refl _
  | x :: L => by
    have := sum_filter p L
    unfold sumLen at this ⊢
    rw [List.filter_cons]
    split <;> simp <;> omega
theorem sum_parts (t : Int) : sumLen (partitionsL t) ≤ 2000 := Nat.le_trans (sum_filter _ _) (sum_list t)
set_option maxRecDepth 100000 in
set_option maxHeartbeats 4000000 in
theorem wExactPartitionsOf (t : Int) (w : World) : Calls Try.prog 6 #[.int .i64 t] w fun e w' => e = .returned (.bool true) ∧ Below w.heap.size w w' := by
  have HIM : Hid (∀ W, Calls Try.prog 18 #[.int .i64 t] W (RowsPost (partitionsL t) W)) := iPartitionsOf t
  have HSP : Hid (∀ W, Calls Try.prog 19 #[.int .i64 t] W (OwnR (partitionsL t) W)) := sPartitionsOf t
  have hl := parts_few t
  have hsum := sum_parts t
  obtain ⟨L, HL⟩ : ∃ L, Hid (partitionsL t = L) := ⟨_, rfl⟩
  rw [HL.out] at HIM HSP hl hsum
  obtain ⟨sm, HS⟩ : ∃ s, Hid (sumLen L = s) := ⟨_, rfl⟩
  rw [HS.out] at hsum
  go_enter Try.func6, Try.ntmps6
  go_wp2_with fail
  refine (HSP.out _).mono ?_
  rintro e w1 ⟨v, vs, rfl, ho, hb⟩
  obtain ⟨A1, c1, rfl, _⟩ := ho.form
  have HO1 := Lib.hid ho
  have HB1 := Lib.hid hb
  clear ho hb
  go_wp2_with fail
  refine (HIM.out _).mono ?_
  rintro e w2 ⟨v, us, rfl, ho, hap, hb⟩
  obtain ⟨A2, c2, rfl, _⟩ := ho.form
  have HO2 := Lib.hid ho
  have HAP := Lib.hid hap
  have HC2 := Lib.hid hb
  have hw2 : w1.heap.size ≤ w2.heap.size := hb.size
  clear ho hb hap
  go_wp2_with fail
  refine (lEqRows HO2.out (HO1.out.below HC2.out) (by omega)).mono ?_
  rintro e w' ⟨rfl, q1, rfl⟩
  go_wp2_with fail
  refine (lMarkSS (HO2.out.drewN q1) HAP.out (by omega) (by omega) (by rw [HS.out]; omega) (by exact hw2)).mono ?_
  rintro e w3 ⟨rfl, zss, hzl, hzm, ho3, hb3⟩
  obtain ⟨hz1, hz2⟩ := marks_sum hzl
  have HZ1 : Hid (sumLen zss = sm) := hz1.trans HS.out
  have hz3 : zss.length ≤ 200 := by omega
  have HM := Lib.hid hzm
  have HO3 := Lib.hid ho3
  have HC3 : Hid (Below w1.heap.size w1 w3) := (bel_drewN HC2.out q1).trans hb3
  rw [HS.out]
  clear hzl hz1 hz2 hzm ho3 hb3
  go_wp2_with fail
  refine (lHeldSS (k0 := 1) HO3.out (by omega) (by omega) (by rw [HZ1.out]; omega) HM.out).mono ?_
  rintro e w' ⟨rfl, q2, rfl⟩
  rw [HZ1.out]
  have hn1 : ¬ ((1 : Int) + (sm : Int) < 0) := by omega
  go_wp2_with fail
  refine (HIM.out _).mono ?_
  rintro e w4 ⟨v, us4, rfl, ho, _, hb⟩
  obtain ⟨A4, c4, rfl, _⟩ := ho.form
  have HO4 := Lib.hid ho
  have HO3b := Lib.hid ((HO3.out.drewN q2).below hb)
  have HC4 : Hid (Below w1.heap.size w1 w4) := (bel_drewN HC3.out q2).trans (hb.mono (by have := HC3.out.size; exact this))
  clear ho hb
  go_wp2_with fail
  refine (lEqRows HO4.out (HO1.out.below HC4.out) (by omega)).mono ?_
  rintro e w' ⟨rfl, q3, rfl⟩
  go_wp2_with fail
  refine (lHeldSS (k0 := 1) (HO3b.out.drewN q3) (by omega) (by omega) (by rw [HZ1.out]; omega) HM.out).mono ?_
  rintro e w' ⟨rfl, q4, rfl⟩
  rw [HZ1.out]
  go_wp2_with fail
  go_ret
  exact ⟨rfl, bel_drewN (bel_trans HB1.out HC4.out) (q3 + q4)⟩
end Go.Proofs.Ytfmknllemhdnaaa

namespace Go.Proofs.Ytfmknllemhdnaaa
open Go.RowKit

theorem parts_one : (growP 4 4 []).filter (isPartB 1) = [[1, 2], [3]] := by decide +kernel
theorem parts_two : (growP 16 16 []).filter (isPartB 2) = [[1, 2, 4, 8], [1, 2, 12], [1, 4, 10], [1, 6, 8], [1, 14], [2, 4, 9], [2, 5, 8], [2, 13], [3, 4, 8], [3, 12], [4, 11], [5, 10], [6, 9], [7, 8], [15]] := by decide +kernel
def bothAll (t : Int) (L : List (List Int)) : Bool := L.all fun x => L.all fun y => isPartB t (bothL t x y)
theorem parts_ok {t : Int} {n : Int} (h : t = 1 ∧ n = 2 ∨ t = 2 ∧ n = 15) : bothAll t (partitionsL t) = true ∧ ((partitionsL t).length : Int) = n := by
  unfold partitionsL
  rcases h with ⟨rfl, rfl⟩ | ⟨rfl, rfl⟩
  · rw [issues_grow, if_pos rfl, parts_one]
    exact ⟨by decide +kernel, rfl⟩
  · rw [issues_grow, if_neg (by decide), if_pos rfl, parts_two]
    exact ⟨by decide +kernel, rfl⟩
theorem parts_none {t : Int} (h : t < 1 ∨ 2 < t) : partitionsL t = [] := by
  unfold partitionsL
  rw [list_none h]; rfl
end Go.Proofs.Ytfmknllemhdnaaa

namespace Go.Proofs.Ytfmknllemhdnaaa
open Go.RowKit

theorem isPart_row {t : Int} {b : Bool} {l : List Int} (h : Hid (isPartB t l = b)) {base : Nat} {v : Value} {w : World} (ho : Owns w base v l) (hl : l.length ≤ 1048576) : Calls Try.prog 20 #[.int .i64 t, v] w fun e w' => e = .returned (.bool b) ∧ ∃ m, w' = w.drewN m := by
  obtain ⟨A, c, rfl, _⟩ := ho.form
  exact iIsPart_is h (ho.row hl)
set_option maxRecDepth 100000 in
set_option maxHeartbeats 8000000 in
theorem wPartitionsOf (A : Option Addr) (nn c : Nat) (zs : List Int) (w : World) (hn : nn = zs.length) (hc : nn ≤ c) (hm : c ≤ maxLen) (hr : ∀ z ∈ zs, 0 ≤ z ∧ z ≤ 255) (hA : Nums .u8 w A zs) :
    Calls Try.prog 5 #[.slice A nn c] w fun e w' => e = .returned (.bool true) ∧ Below w.heap.size w w' := by
  have HO := Lib.hid (drawPartitionsOf_any A nn c zs w hn hc hm hr hA)
  have hm' : nn ≤ 9223372036854775807 := by unfold maxLen at hm; omega
  clear hn hc hm hr hA
  by_cases hl : 1048576 < nn
  · have hd : decide ((1048576 : Int) < (nn : Int)) = true := decide_eq_true (by omega)
    go_enter Try.func5, Try.ntmps5
    go_wp2_with fail
    go_ret
    exact ⟨rfl, Below.refl _ _⟩
  have hd : decide ((1048576 : Int) < (nn : Int)) = false := decide_eq_false (by omega)
  clear hl
  go_enter Try.func5, Try.ntmps5
  go_wp2_with fail
  refine HO.out.mono ?_
  rintro e w1 ⟨t, rfl, ht0, ht1, hb⟩
  have HB1 := Lib.hid hb
  clear hb HO hd
  have HIM : Hid (∀ W, Calls Try.prog 18 #[.int .i64 t] W (RowsPost (partitionsL t) W)) := iPartitionsOf t
  have HSP : Hid (∀ W, Calls Try.prog 19 #[.int .i64 t] W (OwnR (partitionsL t) W)) := sPartitionsOf t
  have hl := parts_few t
  obtain ⟨L, HL⟩ : ∃ L, Hid (partitionsL t = L) := ⟨_, rfl⟩
  rw [HL.out] at HIM HSP hl
  go_wp2_with fail
  refine (HIM.out _).mono ?_
  rintro e w2 ⟨v, us, rfl, ho, _, hb⟩
  obtain ⟨A2, c2, rfl, _⟩ := ho.form
  have HO2 := Lib.hid ho
  have HB2 := Lib.hid (bel_trans HB1.out hb)
  clear ho hb
  go_wp2_with fail
  refine (HSP.out _).mono ?_
  rintro e w3 ⟨v, vs, rfl, ho, hb⟩
  obtain ⟨A3, c3, rfl, _⟩ := ho.form
  have HO3 := Lib.hid ho
  have HO2 := Lib.hid (HO2.out.below hb)
  have HB3 := Lib.hid (bel_trans HB2.out hb)
  clear ho hb
  go_wp2_with fail
  refine (lSameRows HO2.out HO3.out (by omega)).mono ?_
  rintro e w' ⟨rfl, q1, rfl⟩
  by_cases hbad : t < 1 ∨ 2 < t
  · have HE : Hid (L.length = 0) := by unfold Hid; rw [← HL.out, parts_none hbad]; rfl
    rcases hbad with hbad | hbad
    · have hz : ((L.length : Int) == 0) = true := by rw [HE.out]; rfl
      go_wp2_with fail
      refine (lAlive _).mono ?_
      rintro e w' ⟨rfl, rfl⟩
      go_wp2_with fail
      go_ret
      exact ⟨rfl, bel_drewN HB3.out _⟩
    · have hz : ((L.length : Int) == 0) = true := by rw [HE.out]; rfl
      have hge : ¬ (t < 1) := by omega
      go_wp2_with fail
      refine (lAlive _).mono ?_
      rintro e w' ⟨rfl, rfl⟩
      go_wp2_with fail
      go_ret
      exact ⟨rfl, bel_drewN HB3.out _⟩
  · have h : t = 1 ∨ t = 2 := by omega
    clear hbad ht0 ht1
    obtain ⟨n, hn⟩ : ∃ n : Int, t = 1 ∧ n = 2 ∨ t = 2 ∧ n = 15 := by
      rcases h with h | h
      · exact ⟨2, .inl ⟨h, rfl⟩⟩
      · exact ⟨15, .inr ⟨h, rfl⟩⟩
    obtain ⟨hok, hnl⟩ := parts_ok hn
    rw [HL.out] at hok hnl
    have HOK : Hid (∀ x ∈ L, ∀ y ∈ L, isPartB t (bothL t x y) = true) := fun x hx y hy => List.all_eq_true.1 (List.all_eq_true.1 hok x hx) y hy
    have HNL := Lib.hid hnl
    clear hok hnl h
    have h1 : ¬ (t < 1) := by omega
    have h2 : ¬ (2 < t) := by omega
    have hmx : Try.prog.follows .mixedOrders = true := by kernel_rfl
    obtain ⟨W5, hW5⟩ : ∃ W, w3.drewN q1 = W := ⟨_, rfl⟩
    have HO5 : Hid (OwnsR W5 w1.heap.size (.slice A2 L.length c2) us L) := by rw [← hW5]; exact HO2.out.drewN q1
    have HB5 : Hid (Below w.heap.size w W5) := by rw [← hW5]; exact bel_drewN HB3.out q1
    rw [hW5]
    clear hW5
    go_wp2_with fail
    go_loopw [5] (fun i wr => ∃ k : Nat, k ≤ L.length ∧ i = .int .i64 k ∧ Hid (OwnsR wr w1.heap.size (.slice A2 L.length c2) us L) ∧ Hid (Below w.heap.size w wr)) (fun i _ => L.length - (Go.RowKit.intOf i).toNat)
    case atStart => exact ⟨0, Nat.zero_le _, rfl, HO5, HB5⟩
    case round =>
      obtain ⟨k, hk, rfl, HOW, HBW⟩ := hrel
      by_cases hlt : k < L.length
      · go_wp2_with fail
        go_loopw [6] (fun i wr => ∃ j : Nat, j ≤ k ∧ i = .int .i64 j ∧ Hid (OwnsR wr w1.heap.size (.slice A2 L.length c2) us L) ∧ Hid (Below w.heap.size w wr)) (fun i _ => k - (Go.RowKit.intOf i).toNat)
        case atStart => exact ⟨0, Nat.zero_le _, rfl, HOW, HBW⟩
        case round =>
          clear HOW HBW
          obtain ⟨j, hj, rfl, HOW, HBW⟩ := hrel
          by_cases hjk : j < k
          · obtain ⟨g1, o1, A1, c1, x, rfl, hcx, hx, hr1, _, hx3, _⟩ := HOW.out.elemO (i := k) hlt
            obtain ⟨g2, o2, A2', c2', y, hge, hcy, hy, hr2, _, hy3, _⟩ := HOW.out.elemO (i := j) (by omega)
            cases hge
            have HPB : Hid (isPartB t (bothL t x y) = true) := HOK.out x (List.mem_of_getElem? hx.out) y (List.mem_of_getElem? hy.out)
            have hpl : (bothL t x y).length ≤ 1048576 := by have := (issue_ne (part_issue HPB.out)).2; omega
            have HBO := Lib.hid (iBothIssues t A1 A2' x.length c1 y.length c2' x y wr.drew (by exact hr1.out.drewN 1) (by exact hr2.out.drewN 1))
            have hjl : (j : Int) < (L.length : Int) := by omega
            go_wp2_with fail
            go_region_with (first
              | (go_at_call 21; refine HBO.out.mono ?_; clear HBO; rintro e w6 ⟨v6, rfl, ho6, hb6⟩; have HB6 : Hid (Below wr.heap.size wr w6) := ⟨hb6.os, hb6.tape, hb6.output, hb6.size, hb6.block⟩; have HPI := Lib.hid (isPart_row (w := w6) HPB ho6 hpl); clear ho6 hb6)
              | (go_at_call 20; refine HPI.out.mono ?_; clear HPI; rintro e w7 ⟨rfl, m, rfl⟩))
            all_goals
              go_wp2_with fail
              go_roundw
              case rel => exact ⟨j + 1, by omega, by go_num, (HOW.out.below HB6.out).drewN _, bel_drewN (HBW.out.trans (HB6.out.mono HBW.out.size)) _⟩
              case measure => simp [Go.RowKit.intOf]; omega
          · obtain rfl : j = k := by omega
            go_wp2_with fail
            go_roundw
            case rel => exact ⟨j + 1, by omega, by go_num, HOW, HBW⟩
            case measure => simp [Go.RowKit.intOf]; omega
      · obtain rfl : k = L.length := by omega
        rcases hn with ⟨rfl, rfl⟩ | ⟨rfl, rfl⟩
        · clear h1 h2
          have hnew : (wr.alloc (.cells #[.int .i64 2, .int .i64 15] 3)).cell? ⟨wr.heap.size, 0, none⟩ = some (.int .i64 2) := (cells_new2 wr (.int .i64 2) (.int .i64 15) 3).1
          go_wp2_with fail
          go_ret
          exact ⟨ret_bool (by rw [HNL.out]; rfl), HBW.out.alloc (by exact HBW.out.size) _⟩
        · clear h1 h2
          have hnew : (wr.alloc (.cells #[.int .i64 2, .int .i64 15] 3)).cell? ⟨wr.heap.size, 1, none⟩ = some (.int .i64 15) := (cells_new2 wr (.int .i64 2) (.int .i64 15) 3).2
          go_wp2_with fail
          go_ret
          exact ⟨ret_bool (by rw [HNL.out]; rfl), HBW.out.alloc (by exact HBW.out.size) _⟩
end Go.Proofs.Ytfmknllemhdnaaa
