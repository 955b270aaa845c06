/-
  What the proofs of this seat's statements share (PrtP, PrtX).
-/
import Derived.Shelf.SlicesE.DeleteFunc
import Derived.Test.YtfmknllemhdnaaaU16

namespace Go.Proofs.Ytfmknllemhdnaaa
open Go.RowKit Go.Shelf

def Try.layDf_ren : Go.Shelf.Ren := ⟨fun | 10 => 36 | 6 => 49 | n => n, fun | 22 => 24 | 23 => 29 | 25 => 43 | n => n, fun | n => n⟩
theorem Try.layDf : SlLaysH.n10 Try.prog Try.layDf_ren := {
  mixed := by kernel_rfl
  f6 := ⟨Try.f49.name, by decide, Try.func49.trans (congrArg some (by kernel_rfl))⟩
  f10 := ⟨Try.f36.name, by decide, Try.func36.trans (congrArg some (by kernel_rfl))⟩
  t0 := Try.underlying0
  a0 := Try.isAgg0
  z0 := Try.sizeOf0
  v0 := Try.zeroValue0
  t3 := Try.underlying3
  a3 := Try.isAgg3
  z3 := Try.sizeOf3
  v3 := Try.zeroValue3
  t4 := Try.underlying4
  a4 := Try.isAgg4
  z4 := Try.sizeOf4
  v4 := Try.zeroValue4
  t22 := Try.underlying24
  a22 := Try.isAgg24
  z22 := Try.sizeOf24
  v22 := Try.zeroValue24
  a23 := Try.isAgg29
  z23 := Try.sizeOf29
  t25 := Try.underlying43
  a25 := Try.isAgg43
  z25 := Try.sizeOf43
  v25 := Try.zeroValue43 }
set_option maxHeartbeats 1000000 in
theorem iDel1 {t : Int} {A : Option Addr} {n c B : Nat} {xs : List Int} {W : World} (ha : Row W A n c xs) (hc : W.cell? ⟨B, 0, none⟩ = some (.int .i64 t)) :
    Calls Try.prog 37 #[.slice A n c, .pointer (some ⟨B, 0, none⟩)] W fun e w' => e = .returned (.bool (!isPartB t xs)) ∧ ∃ q, w' = W.drewN q := by
  have HP := Lib.hid (iIsPart t A n c xs W ha)
  clear ha
  go_enter Try.func37, Try.ntmps37
  go_wp2_with fail
  refine HP.out.mono ?_
  rintro e w' ⟨rfl, q, rfl⟩
  go_wp2_with fail
  go_ret
  exact ⟨rfl, q, rfl⟩
theorem heap_sort_other {α : Type} [Inhabited α] (enc : α → Value) (w : World) (blk n : Nat) (dk : Array α) (os : Array Obj) {b : Nat} (hb : b < w.heap.size) (hne : b ≠ blk) : (Go.Proofs.sortWorld enc w blk 0 n dk os).heap[b]? = w.heap[b]? := by
  unfold Go.Proofs.sortWorld
  rw [Go.Sort.heap_grow_old _ _ (by rw [Go.Sort.size_putRow]; exact hb)]
  unfold Go.Sort.putRow Go.Sort.mapBlock
  simp only [Array.getElem?_modify]
  rw [if_neg (fun e => hne e.symm)]
  rfl
/-- A row that a list bears. -/
def InRow (w : World) (base blk : Nat) (p : Value × List Int) : Prop := Owns w base p.1 p.2 ∧ p.2.length ≤ 300 ∧ (p.1.ownBlock = none ∨ p.1.ownBlock ≠ some blk)
theorem rows_in {w : World} {base blk : Nat} : ∀ (us : List Value) (L : List (List Int)), us.length = L.length → (∀ (i : Nat) (u : Value) (xs : List Int), us[i]? = some u → L[i]? = some xs → InRow w base blk (u, xs)) →
    ∃ ds : List { p : Value × List Int // InRow w base blk p }, ds.map (fun d => d.1.1) = us ∧ ds.map (fun d => d.1.2) = L
  | [], [], _, _ => ⟨[], rfl, rfl⟩
  | [], _ :: _, h, _ => by simp at h
  | _ :: _, [], h, _ => by simp at h
  | u :: us, x :: L, h, hi => by
    obtain ⟨ds, h1, h2⟩ := rows_in us L (by simpa using h) (fun i a b ha hb => hi (i + 1) a b (by simpa using ha) (by simpa using hb))
    exact ⟨⟨(u, x), hi 0 u x rfl rfl⟩ :: ds, by simp [h1], by simp [h2]⟩
theorem heap_put {α : Type} [Inhabited α] (enc : α → Value) {w : World} {g n : Nat} {cur : Array Value} {e : TypeId} {fr : Nat × Nat} (d : Array α) (hb : w.heap[g]? = some (.cells cur e fr)) :
    (Go.Sort.putRow enc (Go.Sort.ahead w n) g 0 d).heap[g]? = some (.cells (Go.Sort.putCells enc 0 d cur) e fr) := by
  simp [Go.Sort.putRow, Go.Sort.mapBlock, Go.Sort.ahead, Array.getElem?_modify, hb, Go.Sort.onCells]
theorem grown_put {α : Type} [Inhabited α] (enc : α → Value) (w : World) (g n : Nat) (d : Array α) : w.grownBy (Go.Sort.putRow enc (Go.Sort.ahead w n) g 0 d) (some g) := by
  refine ⟨rfl, rfl, rfl, by simp [Go.Sort.putRow, Go.Sort.mapBlock, Go.Sort.ahead], fun k hk hne => ?_⟩
  have : g ≠ k := fun e => hne (by rw [e])
  simp [Go.Sort.putRow, Go.Sort.mapBlock, Go.Sort.ahead, Array.getElem?_modify, this]
theorem take_put {α : Type} [Inhabited α] (enc : α → Value) (cur : Array Value) (ks zs : List α) (h : ks.length ≤ cur.size) : (Go.Sort.putCells enc 0 (ks ++ zs).toArray cur).toList.take ks.length = ks.map enc := by
  apply List.ext_getElem?
  intro j
  by_cases hj : j < ks.length
  · rw [List.getElem?_take_of_lt hj, Array.getElem?_toList]
    have h1 : j < (ks ++ zs).length := by rw [List.length_append]; omega
    simp [Go.Sort.putCells, hj, show j < cur.size by omega, show j < ks.length + zs.length by omega]
  · rw [List.getElem?_take_eq_none (by omega), List.getElem?_eq_none (by simp; omega)]
set_option maxHeartbeats 1000000 in
theorem iDelete {t : Int} {B base g n c : Nat} {us : List Value} {L : List (List Int)} {W : World} (ho : OwnsR W base (.slice (some ⟨g, 0, none⟩) n c) us L) (hap : Apart us) (hc : W.cell? ⟨B, 0, none⟩ = some (.int .i64 t)) (hB : B < W.heap.size) (hne : B ≠ g) (hl : L.length ≤ 1000) :
    Calls Try.prog 36 #[.slice (some ⟨g, 0, none⟩) n c, .func (.func 37) #[] #[.pointer (some ⟨B, 0, none⟩)]] W fun e w' => ∃ v' us', e = .returned v' ∧ OwnsR w' base v' us' (L.filter (isPartB t)) ∧ Apart us' ∧ Below base W w' := by
  obtain rfl := ho.size_eq
  have hlen := ho.len
  obtain ⟨ds, hd1, hd2⟩ := rows_in (w := W) (base := base) (blk := g) us L hlen (fun i u xs hu hx => by
    obtain ⟨z, h1, h2, h3, h4⟩ := ho.sees.2 i xs hx
    rw [hu] at h1
    cases h1
    exact ⟨h2, h3, h4⟩)
  have hdl : ds.length = L.length := by rw [← hd2, List.length_map]
  rcases ho.row.2 with ⟨hv, _⟩ | ⟨g', cap, cur, hv, hbg, hg, hnc, hm, hcs, ht⟩
  · cases hv
  simp only [Value.slice.injEq, Option.some.injEq, Addr.mk.injEq, and_true] at hv
  obtain ⟨rfl, _, rfl⟩ := hv
  let zr : { p : Value × List Int // InRow W base g p } := ⟨(.slice none 0 0, []), Owns.nil _ _, by simp, .inl rfl⟩
  haveI : Inhabited { p : Value × List Int // InRow W base g p } := ⟨zr⟩
  have hrow := ho.row
  rw [hlen] at hrow
  have hH : Go.Sort.Holds (fun d : { p : Value × List Int // InRow W base g p } => d.1.1) W g 0 ds.toArray := fun j hj => by
    rw [List.size_toArray] at hj
    refine ⟨?_, by rw [Nat.zero_add]; exact hrow.frozenAt j⟩
    rw [Nat.zero_add, hrow.cellAt j (by omega), ← hd1, List.getElem?_map, List.getElem?_eq_getElem hj]
    simp [hj]
  have hcon := AnyE.slices_DeleteFunc (α := { p : Value × List Int // InRow W base g p }) Try.layDf (fun d => d.1.1)
    (fun x => by
      obtain ⟨⟨u, xs⟩, h1, h2, h3⟩ := x
      obtain ⟨A, c', e, _⟩ := h1.form
      simp only at e
      subst e
      rfl) (fun d => !isPartB t d.1.2) 37 #[.pointer (some ⟨B, 0, none⟩)] (enters_of Try.func37 (by kernel_rfl) rfl) zr Try.zeroValue29 g 0 c ds.toArray W
    (fun W' x hb => by
      obtain ⟨⟨u, xs⟩, h1, h2, h3⟩ := x
      obtain ⟨A, c', e, _⟩ := h1.form
      simp only at e h1 h2
      subst e
      exact iDel1 (Owns.row (h1.below hb) (Nat.le_trans h2 (by decide))) ((hb.cell (p := ⟨B, 0, none⟩) hB).trans hc))
    (fun m os dk x _ => by
      obtain ⟨⟨u, xs⟩, h1, h2, h3⟩ := x
      obtain ⟨A, c', e, _⟩ := h1.form
      simp only at e h1 h2 h3
      subst e
      refine iDel1 (Owns.row (h1.same fun b hb => heap_sort_other _ _ _ _ _ _ (h1.block_lt hb).2.1 fun e2 => ?_) (Nat.le_trans h2 (by decide))) ((cell_same (heap_sort_other _ _ _ _ _ _ hB hne)).trans hc)
      subst e2
      rcases h3 with h3 | h3
      · rw [h3] at hb; cases hb
      · exact h3 hb) hH (by rw [List.size_toArray, hdl]; omega) (by rw [List.size_toArray, hdl]; omega)
  rw [List.size_toArray, hdl] at hcon
  change Calls Try.prog 36 _ _ _ at hcon
  refine hcon.mono ?_
  rintro e w' ⟨rfl, q, rfl⟩
  simp only [Bool.not_not]
  obtain ⟨ks, hks⟩ : ∃ ks, ds.filter (fun d => isPartB t d.1.2) = ks := ⟨_, rfl⟩
  have hkl : ks.length ≤ ds.length := by rw [← hks]; exact List.length_filter_le _ _
  have hkr : ks.map (fun d => d.1.2) = L.filter (isPartB t) := by
    rw [← hks, ← hd2, List.filter_map]
    rfl
  have hgr := grown_put (fun d : { p : Value × List Int // InRow W base g p } => d.1.1) W g q
  rw [hks]
  refine ⟨_, ks.map (fun d => d.1.1), rfl, ⟨?_, ?_, ?_⟩, ?_, ?_⟩
  · rw [List.length_map]
    refine ⟨by rw [List.length_map, Nat.mul_one], .inr ⟨g, c, _, rfl, hbg, heap_put _ _ hg, by omega, hm, ?_, ?_⟩⟩
    · simp [Go.Sort.putCells, hcs]
    · rw [Nat.mul_one]
      exact take_put _ cur ks _ (by omega)
  · rw [← hkr, List.length_map, List.length_map]
  · intro i xs hx
    rw [← hkr, List.getElem?_map] at hx
    obtain ⟨d, hd, rfl⟩ := Option.map_eq_some_iff.1 hx
    obtain ⟨h1, h2, h3⟩ := d.2
    exact ⟨d.1.1, by rw [List.getElem?_map, hd]; rfl, h1.kept (hgr _) h3, h2, h3⟩
  · have hsub : (ks.map fun d => d.1.1).Sublist us := by
      rw [← hks, ← hd1]
      exact List.Sublist.map _ List.filter_sublist
    exact List.Pairwise.sublist hsub hap
  · exact (Below.refl base W).grown (hgr _) (by have := (World.ownsRow.lt hrow g rfl); omega) (fun k e => by cases e; exact hbg)
set_option maxRecDepth 100000 in
set_option maxHeartbeats 1000000 in
theorem iIssuesNil {t : Int} (h : t < 1 ∨ 2 < t) (w : World) : Calls Try.prog 8 #[.int .i64 t] w fun e w' => e = .returned (.slice none 0 0) ∧ w = w' := by
  rcases h with h | h
  · go_enter Try.func8, Try.ntmps8
    go_wp2_with fail
    go_ret
    exact ⟨rfl, rfl⟩
  · have h4 : ¬ (t < 1) := by omega
    go_enter Try.func8, Try.ntmps8
    go_wp2_with fail
    go_ret
    exact ⟨rfl, rfl⟩
set_option maxRecDepth 100000 in
set_option maxHeartbeats 1000000 in
theorem iIndexNil (f : Value) (w : World) : Calls Try.prog 49 #[.slice none 0 0, f] w fun e w' => e = .returned (.int .i64 (-1)) ∧ w = w' := by
  go_enter Try.func49, Try.ntmps49
  go_wp2_with fail
  refine wp_loop_rounds 1 ?_
  rw [rounds_succ]
  go_wp2_with fail
  go_ret
  exact ⟨rfl, rfl⟩
set_option maxRecDepth 100000 in
set_option maxHeartbeats 1000000 in
theorem iDeleteNil (f : Value) (w : World) : Calls Try.prog 36 #[.slice none 0 0, f] w fun e w' => e = .returned (.slice none 0 0) ∧ w = w' := by
  go_enter Try.func36, Try.ntmps36
  go_wp2_with fail
  refine (iIndexNil _ _).mono ?_
  rintro e w' ⟨rfl, rfl⟩
  go_wp2_with fail
  go_ret
  exact ⟨rfl, rfl⟩
theorem issuesNil {t : Int} (h : t < 1 ∨ 2 < t) : issuesOfL t = [] := by
  rw [issues_grow, if_neg (by omega), if_neg (by omega)]
theorem issues_some {t : Int} (h : t = 1 ∨ t = 2) : 0 < (issuesOfL t).length := by
  rcases h with rfl | rfl
  · rw [issues_grow, if_pos rfl, grow_one]; omega
  · rw [issues_grow, if_neg (by decide), if_pos rfl, grow_two]; omega
set_option maxRecDepth 100000 in
set_option maxHeartbeats 1000000 in
theorem iPartitionsOf (t : Int) (w : World) : Calls Try.prog 18 #[.int .i64 t] w (RowsPost (partitionsL t) w) := by
  by_cases hbad : t < 1 ∨ 2 < t
  · have HN : Hid (∀ W, Calls Try.prog 8 #[.int .i64 t] W fun e w' => e = .returned (.slice none 0 0) ∧ W = w') := iIssuesNil hbad
    have he : partitionsL t = [] := by unfold partitionsL; rw [issuesNil hbad]; rfl
    rw [he]
    have HB : Hid (Below w.heap.size w (w.alloc (.cells #[.int .i64 t] 3))) := (Below.refl _ _).alloc (Nat.le_refl _) _
    clear hbad he
    go_enter Try.func18, Try.ntmps18
    go_wp2_with fail
    refine (HN.out _).mono ?_
    rintro e w' ⟨rfl, rfl⟩
    go_wp2_with fail
    refine (iDeleteNil _ _).mono ?_
    rintro e w' ⟨rfl, rfl⟩
    go_wp2_with fail
    go_ret
    exact ⟨_, [], rfl, OwnsR.nil _ _, List.Pairwise.nil, HB.out⟩
  · have h : t = 1 ∨ t = 2 := by omega
    have hpos := issues_some h
    have hl := list_len t
    have HIM : Hid (∀ W, Calls Try.prog 8 #[.int .i64 t] W (RowsPost (issuesOfL t) W)) := iIssuesOf t
    unfold partitionsL
    obtain ⟨L, HL⟩ : ∃ L, Hid (issuesOfL t = L) := ⟨_, rfl⟩
    rw [HL.out] at HIM hpos hl ⊢
    have HB : Hid (Below w.heap.size w (w.alloc (.cells #[.int .i64 t] 3))) := (Below.refl _ _).alloc (Nat.le_refl _) _
    have bT := Boxed.new w 3 (.int .i64 t)
    have HT := Lib.hid bT.cell
    clear hbad h bT
    go_enter Try.func18, Try.ntmps18
    go_wp2_with fail
    refine (HIM.out _).mono ?_
    rintro e w2 ⟨v, us, rfl, ho, hap, hb⟩
    obtain ⟨g, c, hv, hgb⟩ : ∃ g c, v = .slice (some ⟨g, 0, none⟩) L.length c ∧ w.heap.size < g := by
      rcases ho.row.2 with ⟨rfl, hz⟩ | ⟨g, cap, cur, rfl, hbg, _⟩
      · have := ho.len; omega
      · rw [World.size_alloc] at hbg
        exact ⟨g, cap, by rw [ho.len], by omega⟩
    subst hv
    have hcB : w2.cell? ⟨w.heap.size, 0, none⟩ = some (.int .i64 t) := (hb.cell (p := ⟨w.heap.size, 0, none⟩) (by simp)).trans HT.out
    have hltB : w.heap.size < w2.heap.size := by have := hb.size; rw [World.size_alloc] at this; omega
    have HD := Lib.hid (iDelete ho hap hcB hltB (by omega) (by omega))
    have HB2 : Hid (Below w.heap.size w w2) := bel_trans HB.out hb
    have hbs : (w.alloc (.cells #[.int .i64 t] 3)).heap.size = w.heap.size + 1 := World.size_alloc _ _
    clear ho hap hb hcB
    go_wp2_with fail
    refine HD.out.mono ?_
    rintro e w3 ⟨v', us', rfl, ho, hap, hb⟩
    go_wp2_with fail
    go_ret
    exact ⟨_, us', rfl, ho.base (by rw [hbs]; omega), hap, HB2.out.trans (hb.mono (by rw [hbs]; omega))⟩
end Go.Proofs.Ytfmknllemhdnaaa

namespace Go.Proofs.Ytfmknllemhdnaaa
open Go.RowKit

theorem parts_len (t : Int) : (partitionsL t).length ≤ 200 := Nat.le_trans (List.length_filter_le _ _) (list_len t)
theorem sum_filter (p : List Int → Bool) : ∀ L : List (List Int), sumLen (L.filter p) ≤ sumLen L
  | [] => Nat.le_refl _
  | x :: L => by
    have := sum_filter p L
    unfold sumLen at this ⊢
    rw [List.filter_cons]
    split <;> simp <;> omega
theorem sum_parts (t : Int) : sumLen (partitionsL t) ≤ 2000 := Nat.le_trans (sum_filter _ _) (sum_list t)
set_option maxRecDepth 100000 in
set_option maxHeartbeats 4000000 in
theorem wExactPartitionsOf (t : Int) (w : World) : Calls Try.prog 6 #[.int .i64 t] w fun e w' => e = .returned (.bool true) ∧ Below w.heap.size w w' := by
  have HIM : Hid (∀ W, Calls Try.prog 18 #[.int .i64 t] W (RowsPost (partitionsL t) W)) := iPartitionsOf t
  have HSP : Hid (∀ W, Calls Try.prog 19 #[.int .i64 t] W (OwnR (partitionsL t) W)) := sPartitionsOf t
  have hl := parts_len t
  have hsum := sum_parts t
  obtain ⟨L, HL⟩ : ∃ L, Hid (partitionsL t = L) := ⟨_, rfl⟩
  rw [HL.out] at HIM HSP hl hsum
  obtain ⟨sm, HS⟩ : ∃ s, Hid (sumLen L = s) := ⟨_, rfl⟩
  rw [HS.out] at hsum
  go_enter Try.func6, Try.ntmps6
  go_wp2_with fail
  refine (HSP.out _).mono ?_
  rintro e w1 ⟨v, vs, rfl, ho, hb⟩
  obtain ⟨A1, c1, rfl, _⟩ := ho.form
  have HO1 := Lib.hid ho
  have HB1 := Lib.hid hb
  clear ho hb
  go_wp2_with fail
  refine (HIM.out _).mono ?_
  rintro e w2 ⟨v, us, rfl, ho, hap, hb⟩
  obtain ⟨A2, c2, rfl, _⟩ := ho.form
  have HO2 := Lib.hid ho
  have HAP := Lib.hid hap
  have HC2 := Lib.hid hb
  have hw2 : w1.heap.size ≤ w2.heap.size := hb.size
  clear ho hb hap
  go_wp2_with fail
  refine (lEqRows HO2.out (HO1.out.below HC2.out) (by omega)).mono ?_
  rintro e w' ⟨rfl, q1, rfl⟩
  go_wp2_with fail
  refine (lMarkSS (HO2.out.drewN q1) HAP.out (by omega) (by omega) (by rw [HS.out]; omega) (by exact hw2)).mono ?_
  rintro e w3 ⟨rfl, zss, hzl, hzm, ho3, hb3⟩
  obtain ⟨hz1, hz2⟩ := marks_sum hzl
  have HZ1 : Hid (sumLen zss = sm) := hz1.trans HS.out
  have hz3 : zss.length ≤ 200 := by omega
  have HM := Lib.hid hzm
  have HO3 := Lib.hid ho3
  have HC3 : Hid (Below w1.heap.size w1 w3) := (bel_drewN HC2.out q1).trans hb3
  rw [HS.out]
  clear hzl hz1 hz2 hzm ho3 hb3
  go_wp2_with fail
  refine (lHeldSS (k0 := 1) HO3.out (by omega) (by omega) (by rw [HZ1.out]; omega) HM.out).mono ?_
  rintro e w' ⟨rfl, q2, rfl⟩
  rw [HZ1.out]
  have hn1 : ¬ ((1 : Int) + (sm : Int) < 0) := by omega
  go_wp2_with fail
  refine (HIM.out _).mono ?_
  rintro e w4 ⟨v, us4, rfl, ho, _, hb⟩
  obtain ⟨A4, c4, rfl, _⟩ := ho.form
  have HO4 := Lib.hid ho
  have HO3b := Lib.hid ((HO3.out.drewN q2).below hb)
  have HC4 : Hid (Below w1.heap.size w1 w4) := (bel_drewN HC3.out q2).trans (hb.mono (by have := HC3.out.size; exact this))
  clear ho hb
  go_wp2_with fail
  refine (lEqRows HO4.out (HO1.out.below HC4.out) (by omega)).mono ?_
  rintro e w' ⟨rfl, q3, rfl⟩
  go_wp2_with fail
  refine (lHeldSS (k0 := 1) (HO3b.out.drewN q3) (by omega) (by omega) (by rw [HZ1.out]; omega) HM.out).mono ?_
  rintro e w' ⟨rfl, q4, rfl⟩
  rw [HZ1.out]
  go_wp2_with fail
  go_ret
  exact ⟨rfl, bel_drewN (bel_trans HB1.out HC4.out) (q3 + q4)⟩
end Go.Proofs.Ytfmknllemhdnaaa
