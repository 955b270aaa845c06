/-
  What the proofs of this seat's statements share (FrmB, TxtL, TxtF).
-/
import Derived.WalkKit
import Derived.ProofKit
import Derived.OpenShut
import Derived.ChangeOld
import Derived.Deep.SlicePairs
import Derived.Test.YtannpnhboeopdaaDoorTie
import Derived.LaidMore
import Derived.Test.YtannpnhboeopdaaDoorU16
import Derived.Test.YtannpnhboeopdaaDoorU17
import Derived.Test.YtannpnhboeopdaaDoorU18
import Derived.Test.YtannpnhboeopdaaDoorU15
import Derived.Test.YtannpnhboeopdaaDoorU7

namespace Go.Proofs.YtannpnhboeopdaaDoor
open Go.ChangeShapes Go.WideShapes Go.ChangeAt Go.RowKit Go.Deep

theorem cells_bond : Tryd.prog.cellsOf 42 = 2 := by kernel_rfl
theorem cells_num : Tryd.prog.cellsOf 3 = 1 := by kernel_rfl
section
variable {H : Type} {enc : TypeId × Value → H} {w : World} {base : Nat} {spare : Nat → Bool} {held : Bool}
set_option maxRecDepth 100000 in
theorem box_of_trod {r : Reach} {b0 : Nat} {v : Value} {d : DataW H} {ps : List MemPlace} (hval : Value.okWide Tryd.prog w r b0 42 v) (h : DataW.Trod enc Tryd.prog w base spare held 42 v d ps) :
    ∃ f g : Int, v = .agg #[.int .i64 f, .int .i64 g] := by
  obtain ⟨cs, rfl, hs⟩ := okWide_struct Tryd.underlying42 hval
  obtain ⟨fuel, hf⟩ := h
  obtain ⟨y0, y1, n, _, hl, h0, h1⟩ := trod_struct2 Tryd.underlying42 hf
  rw [cells_bond] at hs
  obtain ⟨l⟩ := cs
  match l, hs with
  | [c0, c1], _ =>
    simp only [cells_num] at h0 h1
    obtain ⟨k0, e0, _, _⟩ := DataW.trod_int Tryd.underlying3 h0
    obtain ⟨k1, e1, _, _⟩ := DataW.trod_int Tryd.underlying3 h1
    simp [Value.cells] at e0 e1
    exact ⟨k0, k1, by rw [e0, e1]⟩
def numV : Value → Int
  | .int _ n => n
  | _ => 0
end
end Go.Proofs.YtannpnhboeopdaaDoor

namespace Go.Proofs.YtannpnhboeopdaaDoor
open Go.RowKit

theorem holds_less {t s f g : Int} (h : holdsInB t s f g = true) : holdsInB t (andI s 90) f g = true := holdsIn_down 90 h
theorem iGranted_is {t : Int} {xs : List Int} {r : Int} (h : Hid (grantedI t xs = r)) {A : Option Addr} {n c : Nat} {w : World} (ha : Row w A n c xs) :
    Calls Tryd.prog 19 #[.int .i64 t, .slice A n c] w fun e w' => e = .returned (.int .i64 r) ∧ ∃ n, w' = w.drewN n :=
  (iGrantedBy t A n c xs w ha.hn ha.hl ha.hc ha.hm ha.hA).mono fun _ _ ⟨he, hw⟩ => ⟨he.trans (ret_int h.out), hw⟩
theorem bondTxt_small (t f g : Int) : (bondTxt t f g).size ≤ 9223372036854775807 := by have := bondTxt_size t f g; omega
set_option maxRecDepth 100000 in
set_option maxHeartbeats 4000000 in
theorem wExactBondText (t f g : Int) (w : World) (hg : LaidTab w) :
    Calls Tryd.prog 5 #[.int .i64 t, .agg #[.int .i64 f, .int .i64 g]] w fun e w' => e = .returned (.bool true) ∧ Below w.heap.size w w' := by
  obtain ⟨b, HT⟩ : ∃ b, Hid (bondTxt t f g = b) := ⟨_, rfl⟩
  have HX : Hid (BoxAt (w.alloc (.cells #[.int .i64 f, .int .i64 g] 42)) w.heap.size f g) := BoxAt.new w f g _
  have HB : Hid (Below w.heap.size w (w.alloc (.cells #[.int .i64 f, .int .i64 g] 42))) := bel_box
  have HG := Lib.hid hg
  clear hg
  go_enter Tryd.func5, Tryd.ntmps5
  go_wp2_with fail
  refine (lToBond _ _ _).mono ?_
  rintro e w1 ⟨rfl, hb⟩
  have HX1 := Lib.hid (HX.out.below hb)
  replace HB := Lib.hid (bel_trans HB.out hb)
  clear hb
  go_wp2_with fail
  refine (sBondText_is HT _).mono ?_
  rintro e w2 ⟨rfl, hb⟩
  have HX2 := Lib.hid (HX1.out.below hb)
  obtain ⟨hc0, hc1, _⟩ := HX2.out
  replace HB := Lib.hid (bel_trans HB.out hb)
  clear hb
  go_wp2_with fail
  refine (lToBond _ _ _).mono ?_
  rintro e w3 ⟨rfl, hb⟩
  replace HB := Lib.hid (bel_trans HB.out hb)
  clear hb hc0 hc1
  go_wp2_with fail
  refine (iBondText_is HT (HG.out.below HB.out)).mono ?_
  rintro e w4 ⟨rfl, hb⟩
  replace HB := Lib.hid (bel_trans HB.out hb)
  clear hb
  go_wp2_with fail
  go_ret
  exact ⟨rfl, HB.out⟩
set_option maxHeartbeats 1000000 in
theorem drawBondText_any (A : Option Addr) (nn c : Nat) (zs : List Int) (w : World) (hn : nn = zs.length) (hc : nn ≤ c) (hm : c ≤ maxLen) (hr : ∀ z ∈ zs, 0 ≤ z ∧ z ≤ 255) (hA : Nums .u8 w A zs) :
    Calls Tryd.prog 15 #[.slice A nn c] w (DrawTD w) := by
  have HO := Lib.hid (drawBondOk_any A nn c zs (w.alloc (.cells #[.int .i64 0, .int .i64 0] 24)) hn hc hm hr (hA.alloc _))
  have HZ : Hid (Blk (w.alloc (.cells #[.int .i64 0, .int .i64 0] 24)) w.heap.size (.int .i64 0) (.int .i64 0)) := Blk.new w _ _
  have HB : Hid (Below w.heap.size w (w.alloc (.cells #[.int .i64 0, .int .i64 0] 24))) := bel_box
  clear hn hc hm hr hA
  go_enter Tryd.func15, Tryd.ntmps15
  go_wp2_with fail
  refine HO.out.mono ?_
  rintro e w1 ⟨t, f, g, rfl, hb⟩
  replace HZ := Lib.hid (HZ.out.below hb)
  replace HB := Lib.hid (bel_trans HB.out hb)
  clear hb HO
  obtain ⟨⟨hz0, hz1, hz2, hz3⟩, ⟨hz4, hz5⟩, hz6, hz7⟩ := HZ.out.store (.int .i64 f) (.int .i64 g)
  go_wp2_with fail
  refine bodyPost_ret_by (results_cell2 (b := w.heap.size) rfl rfl rfl hz6 hz7) rfl ?_
  exact ⟨t, f, g, rfl, (HB.out.setCell (Nat.le_refl _) _).setCell (Nat.le_refl _) _⟩
set_option maxRecDepth 100000 in
set_option maxHeartbeats 4000000 in
theorem wBondText (A : Option Addr) (nn c : Nat) (zs : List Int) (w : World) (hn : nn = zs.length) (hc : nn ≤ c) (hm : c ≤ maxLen) (hr : ∀ z ∈ zs, 0 ≤ z ∧ z ≤ 255) (hA : Nums .u8 w A zs) (hg : LaidTab w) :
    Calls Tryd.prog 4 #[.slice A nn c] w fun e w' => e = .returned (.bool true) ∧ Below w.heap.size w w' := by
  have HO := Lib.hid (drawBondText_any A nn c zs w hn hc hm hr hA)
  have hm' : nn ≤ 9223372036854775807 := by unfold maxLen at hm; omega
  have HG := Lib.hid hg
  clear hn hc hm hr hA hg
  by_cases hl : 1048576 < nn
  · have hd : decide ((1048576 : Int) < (nn : Int)) = true := decide_eq_true (by omega)
    go_enter Tryd.func4, Tryd.ntmps4
    go_wp2_with fail
    go_ret
    exact ⟨rfl, Below.refl _ _⟩
  have hd : decide ((1048576 : Int) < (nn : Int)) = false := decide_eq_false (by omega)
  clear hl
  go_enter Tryd.func4, Tryd.ntmps4
  go_wp2_with fail
  refine HO.out.mono ?_
  rintro e w1 ⟨t, f, g, rfl, hb⟩
  have HX : Hid (BoxAt (w1.alloc (.cells #[.int .i64 f, .int .i64 g] 24)) w1.heap.size f g) := BoxAt.new w1 f g _
  have HB : Hid (Below w.heap.size w (w1.alloc (.cells #[.int .i64 f, .int .i64 g] 24))) := hb.alloc hb.size _
  clear hb HO hd
  rcases ht : bondOkB t f g with _ | _
  · have HT := Lib.hid ht
    have HS : Hid (bondTxt t f g = ⟨#[]⟩) := bondTxt_none ht
    clear ht
    go_wp2_with fail
    refine (iBondText_is HS (HG.out.below HB.out)).mono ?_
    rintro e w2 ⟨rfl, hb⟩
    replace HB := Lib.hid (bel_trans HB.out hb)
    replace HX := Lib.hid (HX.out.below hb)
    obtain ⟨hc0, hc1, _⟩ := HX.out
    clear hb
    go_wp2_with fail
    refine (sBondText_is HS _).mono ?_
    rintro e w3 ⟨rfl, hb⟩
    clear hc0 hc1
    replace HB := Lib.hid (bel_trans HB.out hb)
    replace HX := Lib.hid (HX.out.below hb)
    obtain ⟨hc0, hc1, _⟩ := HX.out
    clear hb
    go_wp2_with fail
    refine (iBondOk_is HT _).mono ?_
    rintro e w4 ⟨rfl, hb⟩
    replace HB := Lib.hid (bel_trans HB.out hb)
    clear hb hc0 hc1
    go_wp2_with fail
    refine (lAlive _).mono ?_
    rintro e w' ⟨rfl, rfl⟩
    go_wp2_with fail
    go_ret
    exact ⟨rfl, HB.out⟩
  · obtain ⟨h1, h2⟩ := law_bondText ht
    obtain ⟨hh1, hh3, _⟩ := thingsOk_of (show thingsOk t f = true by unfold bondOkB at ht; rw [Bool.and_eq_true] at ht; exact ht.1)
    have hz := bondTxt_small t f g
    have hil := issueT_len t (bondTxt t f g)
    have hne : (bondTxt t f g).toList.isEmpty = false := by rw [bondTxt_some ht]; exact list_some _ _
    obtain ⟨s, HS⟩ : ∃ s, Hid (bondTxt t f g = s) := ⟨_, rfl⟩
    rw [HS.out] at h1 h2 hz hil hne
    obtain ⟨r, HI⟩ : ∃ l, Hid (issueT t s = l) := ⟨_, rfl⟩
    rw [HI.out] at h2 hil
    have H1 := Lib.hid h1
    obtain ⟨al, HAL⟩ : ∃ n, Hid (allOf t = n) := ⟨_, rfl⟩
    rw [HAL.out] at h2
    have H2 := Lib.hid h2
    clear ht h1 h2
    go_wp2_with fail
    refine (iBondText_is HS (HG.out.below HB.out)).mono ?_
    rintro e w2 ⟨rfl, hb⟩
    replace HB := Lib.hid (bel_trans HB.out hb)
    replace HX := Lib.hid (HX.out.below hb)
    obtain ⟨hc0, hc1, _⟩ := HX.out
    clear hb
    go_wp2_with fail
    refine (sBondText_is HS _).mono ?_
    rintro e w3 ⟨rfl, hb⟩
    clear hc0 hc1
    replace HB := Lib.hid (bel_trans HB.out hb)
    clear hb
    go_wp2_with fail
    refine (iIssueOf_is HI H1 _ hz).mono ?_
    rintro e w4 ⟨v, rfl, ho, hb⟩
    obtain ⟨A4, c4, rfl, _, _, _, _⟩ := ho.form
    have HR := Lib.hid (Owns.row ho (by omega))
    replace HB := Lib.hid (bel_trans HB.out hb)
    clear hb ho
    go_wp2_with fail
    refine (iGranted_is H2 HR.out).mono ?_
    rintro e w5 ⟨rfl, n5, rfl⟩
    go_wp2_with fail
    refine (lWhole_is HAL hh1 hh3 _).mono ?_
    rintro e w' ⟨rfl, rfl⟩
    go_wp2_with fail
    go_ret
    exact ⟨rfl, bel_drewN HB.out _⟩
set_option maxRecDepth 100000 in
set_option maxHeartbeats 4000000 in
theorem wHoldsIn (A : Option Addr) (nn c : Nat) (zs : List Int) (w : World) (hn : nn = zs.length) (hc : nn ≤ c) (hm : c ≤ maxLen) (hr : ∀ z ∈ zs, 0 ≤ z ∧ z ≤ 255) (hA : Nums .u8 w A zs) (hg : LaidTab w) :
    Calls Tryd.prog 3 #[.slice A nn c] w fun e w' => e = .returned (.bool true) ∧ Below w.heap.size w w' := by
  have HO := Lib.hid (drawHoldsIn_any A nn c zs w hn hc hm hr hA)
  have hm' : nn ≤ 9223372036854775807 := by unfold maxLen at hm; omega
  have HG := Lib.hid hg
  clear hn hc hm hr hA hg
  by_cases hl : 1048576 < nn
  · have hd : decide ((1048576 : Int) < (nn : Int)) = true := decide_eq_true (by omega)
    go_enter Tryd.func3, Tryd.ntmps3
    go_wp2_with fail
    go_ret
    exact ⟨rfl, Below.refl _ _⟩
  have hd : decide ((1048576 : Int) < (nn : Int)) = false := decide_eq_false (by omega)
  clear hl
  go_enter Tryd.func3, Tryd.ntmps3
  go_wp2_with fail
  refine HO.out.mono ?_
  rintro e w1 ⟨t, s, f, g, rfl, hb⟩
  have HX : Hid (BoxAt (w1.alloc (.cells #[.int .i64 f, .int .i64 g] 24)) w1.heap.size f g) := BoxAt.new w1 f g _
  have HB : Hid (Below w.heap.size w (w1.alloc (.cells #[.int .i64 f, .int .i64 g] 24))) := hb.alloc hb.size _
  clear hb HO hd
  obtain ⟨b, HT⟩ : ∃ b, Hid (holdsInB t s f g = b) := ⟨_, rfl⟩
  have hbn : (b != b) = false := by cases b <;> rfl
  go_wp2_with fail
  refine (iHoldsIn_is HT _).mono ?_
  rintro e w2 ⟨rfl, hb⟩
  replace HB := Lib.hid (bel_trans HB.out hb)
  replace HX := Lib.hid (HX.out.below hb)
  obtain ⟨hc0, hc1, _⟩ := HX.out
  clear hb
  go_wp2_with fail
  refine (sHoldsIn_is HT _).mono ?_
  rintro e w3 ⟨rfl, hb⟩
  clear hc0 hc1
  replace HB := Lib.hid (bel_trans HB.out hb)
  replace HX := Lib.hid (HX.out.below hb)
  clear hb
  rcases hs : setOkB t s with _ | _
  · have HS := Lib.hid hs
    obtain rfl : b = false := by rw [← HT.out]; unfold holdsInB; rw [hs]; rfl
    clear hs
    go_wp2_with fail
    refine (sSetOk_is HS _).mono ?_
    rintro e w' ⟨rfl, rfl⟩
    go_wp2_with fail
    refine (lAlive _).mono ?_
    rintro e w' ⟨rfl, rfl⟩
    go_wp2_with fail
    go_ret
    exact ⟨rfl, HB.out⟩
  rcases ho : bondOkB t f g with _ | _
  · have HS := Lib.hid hs
    have HO2 := Lib.hid ho
    obtain rfl : b = false := by rw [← HT.out]; unfold holdsInB; rw [hs, ho]; rfl
    clear hs ho
    obtain ⟨hc0, hc1, _⟩ := HX.out
    go_wp2_with fail
    refine (sSetOk_is HS _).mono ?_
    rintro e w' ⟨rfl, rfl⟩
    go_wp2_with fail
    refine (sBondOk_is HO2 _).mono ?_
    rintro e w4 ⟨rfl, hb⟩
    replace HB := Lib.hid (bel_trans HB.out hb)
    clear hb hc0 hc1
    go_wp2_with fail
    refine (lAlive _).mono ?_
    rintro e w' ⟨rfl, rfl⟩
    go_wp2_with fail
    go_ret
    exact ⟨rfl, HB.out⟩
  have HS := Lib.hid hs
  have HO2 := Lib.hid ho
  have HSU : Hid (supportsT t s (bondTxt t f g) = b) := by unfold Hid; rw [law_bond_supports hs ho, HT.out]
  have hz := bondTxt_small t f g
  obtain ⟨tx, HTX⟩ : ∃ x, Hid (bondTxt t f g = x) := ⟨_, rfl⟩
  rw [HTX.out] at HSU hz
  clear hs ho
  obtain ⟨hc0, hc1, _⟩ := HX.out
  go_wp2_with fail
  refine (sSetOk_is HS _).mono ?_
  rintro e w' ⟨rfl, rfl⟩
  go_wp2_with fail
  refine (sBondOk_is HO2 _).mono ?_
  rintro e w4 ⟨rfl, hb⟩
  replace HB := Lib.hid (bel_trans HB.out hb)
  have HX4 := Lib.hid (HX.out.below hb)
  clear hc0 hc1 hb
  obtain ⟨hc0, hc1, _⟩ := HX4.out
  have HGX := Lib.hid (HG.out.below HB.out)
  cases b
  · go_wp2_with fail
    refine wp_region_held_drew (S := fun _ => True) (by kernel_rfl) trivial (fun _ => ?_)
    refine wpAnyH_take (i := 0) (v := .int .i64 t) rfl (by kernel_rfl) (by kernel_rfl) (by kernel_rfl) (fun _ _ _ h => h) (Or.inl ⟨by rfl, fun w _ => by rfl⟩) trivial ?_
    try simp only [List.getElem_toArray, List.getElem_cons_zero, Act.put, List.setIfInBounds_toArray, List.set_cons_zero, List.set_cons_succ]
    refine wpAnyH_take (i := 1) (v := .int .i64 s) rfl (by kernel_rfl) (by kernel_rfl) (by kernel_rfl) (fun _ _ _ h => h) (Or.inl ⟨by rfl, fun w _ => by rfl⟩) trivial ?_
    try simp only [List.getElem_toArray, List.getElem_cons_succ, List.getElem_cons_zero, Act.put, List.setIfInBounds_toArray, List.set_cons_zero, List.set_cons_succ]
    refine wpAnyH_take (i := 2) (v := .int .i64 t) rfl (by kernel_rfl) (by kernel_rfl) (by kernel_rfl) (fun _ _ _ h => h) (Or.inl ⟨by rfl, fun w _ => by rfl⟩) trivial ?_
    try simp only [List.getElem_toArray, List.getElem_cons_succ, List.getElem_cons_zero, Act.put, List.setIfInBounds_toArray, List.set_cons_zero, List.set_cons_succ]
    refine wpAnyH_take (i := 6) (v := .bool false) rfl (by kernel_rfl) (by kernel_rfl) (by kernel_rfl) (fun _ _ _ h => h) (Or.inl ⟨by rfl, fun w _ => by rfl⟩) trivial ?_
    try simp only [List.getElem_toArray, List.getElem_cons_succ, List.getElem_cons_zero, Act.put, List.setIfInBounds_toArray, List.set_cons_zero, List.set_cons_succ]
    refine wpAnyH_ready (rs := [3]) (by kernel_rfl) (by simp) ?_
    refine AllReadyH.cons rfl (fun K hK => ?_) AllReadyH.nil
    go_simp
    try go_simp
    refine hK.out _ _ trivial (fun _ => ?_)
    clear hK K
    try simp only [List.getElem_toArray, List.getElem_cons_succ, List.getElem_cons_zero, Act.put, List.setIfInBounds_toArray, List.set_cons_zero, List.set_cons_succ]
    refine wpAnyH_ready (rs := [4]) (by kernel_rfl) (by simp) ?_
    refine AllReadyH.cons rfl (fun K hK => ?_) AllReadyH.nil
    go_simp
    go_at_call 13
    refine (iBondText_is HTX (HGX.out.drewN 1)).mono ?_
    rintro e w5 ⟨rfl, hb⟩
    have HB5 := Lib.hid (bel_trans (bel_drewN HB.out 1) hb)
    clear hb hc0 hc1
    try go_simp
    refine hK.out _ _ trivial (fun _ => ?_)
    clear hK K
    try simp only [List.getElem_toArray, List.getElem_cons_succ, List.getElem_cons_zero, Act.put, List.setIfInBounds_toArray, List.set_cons_zero, List.set_cons_succ]
    refine wpAnyH_ready (rs := [5]) (by kernel_rfl) (by simp) ?_
    refine AllReadyH.cons rfl (fun K hK => ?_) AllReadyH.nil
    go_simp
    go_at_call 12
    refine (iSupportsT_is HSU _ hz).mono ?_
    rintro e w6 ⟨rfl, hb⟩
    have HB6 := Lib.hid (bel_trans HB5.out hb)
    clear hb
    try go_simp
    refine hK.out _ _ trivial (fun _ => ?_)
    clear hK K
    try simp only [List.getElem_toArray, List.getElem_cons_succ, List.getElem_cons_zero, Act.put, List.setIfInBounds_toArray, List.set_cons_zero, List.set_cons_succ]
    refine wpAnyH_take (i := 7) (v := .bool true) rfl (by kernel_rfl) (by kernel_rfl) (by kernel_rfl) (fun _ _ _ h => h) (Or.inl ⟨by rfl, fun w _ => by rfl⟩) trivial ?_
    try simp only [List.getElem_toArray, List.getElem_cons_succ, List.getElem_cons_zero, Act.put, List.setIfInBounds_toArray, List.set_cons_zero, List.set_cons_succ]
    refine wpAnyH_take (i := 8) (v := .bool true) rfl (by kernel_rfl) (by kernel_rfl) (by kernel_rfl) (fun _ _ _ h => h) (Or.inl ⟨by rfl, fun w _ => by rfl⟩) trivial ?_
    try simp only [List.getElem_toArray, List.getElem_cons_succ, List.getElem_cons_zero, Act.put, List.setIfInBounds_toArray, List.set_cons_zero, List.set_cons_succ]
    refine wpAnyH_take (i := 9) (v := .bool false) rfl (by kernel_rfl) (by kernel_rfl) (by kernel_rfl) (fun _ _ _ h => h) (Or.inl ⟨by rfl, fun w _ => by rfl⟩) trivial ?_
    try simp only [List.getElem_toArray, List.getElem_cons_succ, List.getElem_cons_zero, Act.put, List.setIfInBounds_toArray, List.set_cons_zero, List.set_cons_succ]
    refine wpAnyH_take (i := 10) (v := .bool true) rfl (by kernel_rfl) (by kernel_rfl) (by kernel_rfl) (fun _ _ _ h => h) (Or.inl ⟨by rfl, fun w _ => by rfl⟩) trivial ?_
    try simp only [List.getElem_toArray, List.getElem_cons_succ, List.getElem_cons_zero, Act.put, List.setIfInBounds_toArray, List.set_cons_zero, List.set_cons_succ]
    refine wpAnyH_take (i := 11) (v := .bool true) rfl (by kernel_rfl) (by kernel_rfl) (by kernel_rfl) (fun _ _ _ h => h) (Or.inl ⟨by rfl, fun w _ => by rfl⟩) trivial ?_
    try simp only [List.getElem_toArray, List.getElem_cons_succ, List.getElem_cons_zero, Act.put, List.setIfInBounds_toArray, List.set_cons_zero, List.set_cons_succ]
    refine wpAnyH_take (i := 12) (v := undef) rfl (by kernel_rfl) (by kernel_rfl) (by kernel_rfl) (fun _ _ _ h => h) (Or.inr ⟨by rfl, rfl⟩) trivial ?_
    try simp only [List.getElem_toArray, List.getElem_cons_succ, List.getElem_cons_zero, Act.put, List.setIfInBounds_toArray, List.set_cons_zero, List.set_cons_succ]
    refine wpAnyH_take (i := 13) (v := undef) rfl (by kernel_rfl) (by kernel_rfl) (by kernel_rfl) (fun _ _ _ h => h) (Or.inr ⟨by rfl, rfl⟩) trivial ?_
    try simp only [List.getElem_toArray, List.getElem_cons_succ, List.getElem_cons_zero, Act.put, List.setIfInBounds_toArray, List.set_cons_zero, List.set_cons_succ]
    refine wpAnyH_take (i := 14) (v := undef) rfl (by kernel_rfl) (by kernel_rfl) (by kernel_rfl) (fun _ _ _ h => h) (Or.inr ⟨by rfl, rfl⟩) trivial ?_
    try simp only [List.getElem_toArray, List.getElem_cons_succ, List.getElem_cons_zero, Act.put, List.setIfInBounds_toArray, List.set_cons_zero, List.set_cons_succ]
    refine wpAnyH_take (i := 15) (v := undef) rfl (by kernel_rfl) (by kernel_rfl) (by kernel_rfl) (fun _ _ _ h => h) (Or.inr ⟨by rfl, rfl⟩) trivial ?_
    try simp only [List.getElem_toArray, List.getElem_cons_succ, List.getElem_cons_zero, Act.put, List.setIfInBounds_toArray, List.set_cons_zero, List.set_cons_succ]
    refine wpAnyH_take (i := 16) (v := undef) rfl (by kernel_rfl) (by kernel_rfl) (by kernel_rfl) (fun _ _ _ h => h) (Or.inr ⟨by rfl, rfl⟩) trivial ?_
    try simp only [List.getElem_toArray, List.getElem_cons_succ, List.getElem_cons_zero, Act.put, List.setIfInBounds_toArray, List.set_cons_zero, List.set_cons_succ]
    refine wpAnyH_take (i := 17) (v := .bool true) rfl (by kernel_rfl) (by kernel_rfl) (by kernel_rfl) (fun _ _ _ h => h) (Or.inl ⟨by rfl, fun w _ => by rfl⟩) trivial ?_
    try simp only [List.getElem_toArray, List.getElem_cons_succ, List.getElem_cons_zero, Act.put, List.setIfInBounds_toArray, List.set_cons_zero, List.set_cons_succ]
    refine wpAnyH_take (i := 18) (v := .bool true) rfl (by kernel_rfl) (by kernel_rfl) (by kernel_rfl) (fun _ _ _ h => h) (Or.inl ⟨by rfl, fun w _ => by rfl⟩) trivial ?_
    try simp only [List.getElem_toArray, List.getElem_cons_succ, List.getElem_cons_zero, Act.put, List.setIfInBounds_toArray, List.set_cons_zero, List.set_cons_succ]
    refine wpAnyH_take (i := 19) (v := .bool true) rfl (by kernel_rfl) (by kernel_rfl) (by kernel_rfl) (fun _ _ _ h => h) (Or.inl ⟨by rfl, fun w _ => by rfl⟩) trivial ?_
    try simp only [List.getElem_toArray, List.getElem_cons_succ, List.getElem_cons_zero, Act.put, List.setIfInBounds_toArray, List.set_cons_zero, List.set_cons_succ]
    refine wpAnyH_done (by kernel_rfl) ?_ _
    go_wp2_with fail
    go_ret
    exact ⟨rfl, HB6.out⟩
  · obtain ⟨m, HS90⟩ : ∃ m, Hid (andI s 90 = m) := ⟨_, rfl⟩
    obtain ⟨_, _, hs0, _, hs1⟩ := setOkB_lt HS.out
    have HH90 : Hid (holdsInB t m f g = true) := by unfold Hid; rw [← HS90.out]; exact holds_less HT.out
    go_wp2_with fail
    go_region_held3 (fun w' => w'.cell? ⟨w1.heap.size, 0, none⟩ = some (.int .i64 f) ∧ w'.cell? ⟨w1.heap.size, 1, none⟩ = some (.int .i64 g))
      (first | go_keep | exact ⟨HX7.out.1, HX7.out.2.1⟩ | exact ⟨HX6.out.1, HX6.out.2.1⟩ | exact ⟨HX5.out.1, HX5.out.2.1⟩)
      (first
        | (go_at_call 13; refine (iBondText_is HTX (HGX.out.drewN 1)).mono ?_; rintro e w5 ⟨rfl, hb⟩; have HX5 := Lib.hid (BoxAt.below (BoxAt.drew HX4.out) hb); have HB5 := Lib.hid (bel_trans (bel_drewN HB.out 1) hb); clear hb)
        | (go_at_call 12; refine (iSupportsT_is HSU _ hz).mono ?_; rintro e w6 ⟨rfl, hb⟩; have HX6 := Lib.hid (BoxAt.below HX5.out hb); have HB6 := Lib.hid (bel_trans HB5.out hb); clear hb)
        | (go_at_call 14; refine (lBoth_is HS90 hs0 hs1 (by omega) _).mono ?_; rintro e w' ⟨rfl, rfl⟩)
        | (go_at_call 7; refine (iHoldsIn_is HH90 _).mono ?_; rintro e w7 ⟨rfl, hb⟩; have HX7 := Lib.hid (BoxAt.below HX6.out hb); have HB7 := Lib.hid (bel_trans HB6.out hb); clear hb))
    all_goals
      go_wp2_with fail
      go_ret
      exact ⟨rfl, HB7.out⟩
end Go.Proofs.YtannpnhboeopdaaDoor

namespace Go.Proofs.YtannpnhboeopdaaDoor
open Go.ChangeShapes Go.WideShapes Go.ChangeAt Go.RowKit

theorem g32 : Tryd.prog.globalNamed "math/bits.deBruijn32tab" = some 0 := by kernel_rfl
theorem g64 : Tryd.prog.globalNamed "math/bits.deBruijn64tab" = some 1 := by kernel_rfl
theorem t64 : (Tryd.prog.globals[1]?).map (·.type) = some 94 := by kernel_rfl
theorem cells_byte : Tryd.prog.cellsOf 5 = 1 := by kernel_rfl
def tabs2 {H : Type} : List (String × DataW H) := [("math/bits.deBruijn32tab", Rows.laid_math_bits_deBruijn32tab), ("math/bits.deBruijn64tab", Rows.laid_math_bits_deBruijn64tab)]
theorem door_met (os : Os) (args : Array Value) : laidMetH Tryd.prog tabs2 ((World.doorLaid Tryd.prog 400 os).forCall (fun _ _ => 0) ⟨#[], args, []⟩).memory :=
  laidMetH_of_parts3 (fuel := 8) (laidMet_of_run' 8 (by kernel_rfl) (by kernel_rfl)) (by kernel_rfl) (by kernel_rfl)
theorem byte_cell {H : Type} {enc : TypeId × Value → H} {W : World} {m i : Nat} {cs : Array Value} {x : DataW H × List MemPlace} {n : Int}
    (h : DataW.trod enc Tryd.prog W 0 (fun _ => true) false m 5 ((cs.toList.drop (i * Tryd.prog.cellsOf 5)).take (Tryd.prog.cellsOf 5)) = some x) (hx : x.1 = .lit (.int .u8 n)) : cs[i]? = some (.int .u8 n) := by
  obtain ⟨k, e1, e2, _⟩ := DataW.trod_int Tryd.underlying5 h
  rw [cells_byte, Nat.mul_one] at e1
  have hk : k = n := by
    rw [e2] at hx
    simpa using hx
  subst hk
  have h2 := congrArg (fun l => l[0]?) e1
  simp only [List.getElem?_take, List.getElem?_drop, Nat.add_zero] at h2
  simpa using h2
theorem tab_of_laid {W : World} (h : laidMetH Tryd.prog tabs2 W) : LaidTab W := by
  rw [MakeChecks.laidMetH_plain _ _ _ (by kernel_rfl)] at h
  obtain ⟨ps, ⟨g0, t0, cs0, f0, p0, q0, hg0, ht0, hv0, hd0, ⟨g1, t1, cs1, f1, p1, q1, hg1, ht1, hv1, hd1, _, _⟩, _⟩, _, _⟩ := h
  obtain rfl := Option.some.inj (g64.symm.trans hg1)
  obtain rfl := Option.some.inj (t64.symm.trans ht1)
  obtain ⟨xs, m1, rfl, hx1, hlen, hn3, hel⟩ := DataW.trod_array Tryd.underlying94 hd1
  simp only [Prod.mk.injEq] at hx1
  obtain ⟨hx, _⟩ := hx1
  unfold Rows.laid_math_bits_deBruijn64tab at hx
  have hl := DataW.agg.inj hx
  have key : ∀ (i : Nat) (n : Int), i < 64 → (xs.map fun x => x.1)[i]? = some (.lit (.int .u8 n)) → W.cell? ⟨1, i, none⟩ = some (.int .u8 n) := fun i n hi he => by
    rw [List.getElem?_map] at he
    obtain ⟨x, hxi, hxn⟩ := Option.map_eq_some_iff.1 he
    rw [World.var?_cell hg1 hv1 i]
    exact byte_cell ((hel i hi).trans hxi) hxn
  rw [← hl] at key
  exact ⟨key 0 0 (by decide) rfl, key 1 1 (by decide) rfl, key 3 2 (by decide) rfl⟩
end Go.Proofs.YtannpnhboeopdaaDoor
