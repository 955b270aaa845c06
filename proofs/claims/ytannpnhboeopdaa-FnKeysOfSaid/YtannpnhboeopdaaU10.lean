/-
  What the proofs of this seat's statements share (BndI, MapA, MapB, MapC).
-/
import Derived.Maps.OwnOps
import Derived.DeepKeys4
import Derived.WideKeyPair
import Derived.Maps.Views
import Derived.Carry
import Derived.Test.YtannpnhboeopdaaU9
import Derived.Test.YtannpnhboeopdaaU2
import Derived.Test.YtannpnhboeopdaaU8

namespace Go.Proofs.Ytannpnhboeopdaa
open Go.RowKit

set_option maxRecDepth 100000 in
set_option maxHeartbeats 4000000 in
theorem iBondFollows_a (t f g : Int) (A : Option Addr) (n c : Nat) (ds : List (Int × Int)) (w : World) (ha : BRow w A n c ds) (hp : bondsOkB t ds = false) :
    Calls Try.prog 25 #[.int .i64 t, .slice A n c, .agg #[.int .i64 f, .int .i64 g]] w (BPost false w) := by
  have HB1 : Hid (Below w.heap.size w (w.alloc (.cells #[.int .i64 f, .int .i64 g] 24))) := (Below.refl _ _).alloc (Nat.le_refl _) _
  have HA1 := Lib.hid (ha.below HB1.out)
  have HP := Lib.hid hp
  clear ha hp
  go_enter Try.func25, Try.ntmps25
  go_wp2_with fail
  refine wp_region_held_drew (S := fun _ => True) (by kernel_rfl) trivial (fun _ => ?_)
  refine wpAnyH_take (i := 0) (v := .int .i64 t) rfl (by kernel_rfl) (by kernel_rfl) (by kernel_rfl) (fun _ _ _ h => h) (Or.inl ⟨by rfl, fun w _ => by rfl⟩) trivial ?_
  refine wpAnyH_take (i := 1) (v := .slice A n c) rfl (by kernel_rfl) (by kernel_rfl) (by kernel_rfl) (fun _ _ _ h => h) (Or.inl ⟨by rfl, fun w _ => by rfl⟩) trivial ?_
  simp only [List.getElem_toArray, List.getElem_cons_succ, List.getElem_cons_zero, Act.put, List.setIfInBounds_toArray, List.set_cons_zero, List.set_cons_succ]
  refine wpAnyH_ready (rs := [2]) (by kernel_rfl) (by simp) ?_
  refine AllReadyH.cons rfl (fun K hK => ?_) AllReadyH.nil
  go_simp
  go_at_call 56
  refine (iBondsOk_is HP (BRow.drew_ HA1.out)).mono ?_
  rintro e w1 ⟨rfl, hb⟩
  have HB2 := Lib.hid (bel_trans (bel_drewN HB1.out 1) hb)
  clear hb
  try go_simp
  refine hK.out _ _ trivial (fun _ => ?_)
  clear hK K
  try simp only [List.getElem_toArray, List.getElem_cons_succ, List.getElem_cons_zero, Act.put, List.setIfInBounds_toArray, List.set_cons_zero, List.set_cons_succ]
  refine wpAnyH_take (i := 3) (v := .bool false) rfl (by kernel_rfl) (by kernel_rfl) (by kernel_rfl) (fun _ _ _ h => h) (Or.inl ⟨by rfl, fun w _ => by rfl⟩) trivial ?_
  simp only [List.getElem_toArray, List.getElem_cons_succ, List.getElem_cons_zero, Act.put, List.setIfInBounds_toArray, List.set_cons_zero, List.set_cons_succ]
  refine wpAnyH_take (i := 4) (v := undef) rfl (by kernel_rfl) (by kernel_rfl) (by kernel_rfl) (fun _ _ _ h => h) (Or.inr ⟨by rfl, rfl⟩) trivial ?_
  simp only [List.getElem_toArray, List.getElem_cons_succ, List.getElem_cons_zero, Act.put, List.setIfInBounds_toArray, List.set_cons_zero, List.set_cons_succ]
  refine wpAnyH_take (i := 5) (v := undef) rfl (by kernel_rfl) (by kernel_rfl) (by kernel_rfl) (fun _ _ _ h => h) (Or.inr ⟨by rfl, rfl⟩) trivial ?_
  simp only [List.getElem_toArray, List.getElem_cons_succ, List.getElem_cons_zero, Act.put, List.setIfInBounds_toArray, List.set_cons_zero, List.set_cons_succ]
  refine wpAnyH_take (i := 6) (v := undef) rfl (by kernel_rfl) (by kernel_rfl) (by kernel_rfl) (fun _ _ _ h => h) (Or.inr ⟨by rfl, rfl⟩) trivial ?_
  simp only [List.getElem_toArray, List.getElem_cons_succ, List.getElem_cons_zero, Act.put, List.setIfInBounds_toArray, List.set_cons_zero, List.set_cons_succ]
  refine wpAnyH_take (i := 7) (v := .bool false) rfl (by kernel_rfl) (by kernel_rfl) (by kernel_rfl) (fun _ _ _ h => h) (Or.inl ⟨by rfl, fun w _ => by rfl⟩) trivial ?_
  simp only [List.getElem_toArray, List.getElem_cons_succ, List.getElem_cons_zero, Act.put, List.setIfInBounds_toArray, List.set_cons_zero, List.set_cons_succ]
  refine wpAnyH_take (i := 8) (v := .bool false) rfl (by kernel_rfl) (by kernel_rfl) (by kernel_rfl) (fun _ _ _ h => h) (Or.inl ⟨by rfl, fun w _ => by rfl⟩) trivial ?_
  simp only [List.getElem_toArray, List.getElem_cons_succ, List.getElem_cons_zero, Act.put, List.setIfInBounds_toArray, List.set_cons_zero, List.set_cons_succ]
  refine wpAnyH_take (i := 9) (v := undef) rfl (by kernel_rfl) (by kernel_rfl) (by kernel_rfl) (fun _ _ _ h => h) (Or.inr ⟨by rfl, rfl⟩) trivial ?_
  simp only [List.getElem_toArray, List.getElem_cons_succ, List.getElem_cons_zero, Act.put, List.setIfInBounds_toArray, List.set_cons_zero, List.set_cons_succ]
  refine wpAnyH_take (i := 10) (v := undef) rfl (by kernel_rfl) (by kernel_rfl) (by kernel_rfl) (fun _ _ _ h => h) (Or.inr ⟨by rfl, rfl⟩) trivial ?_
  simp only [List.getElem_toArray, List.getElem_cons_succ, List.getElem_cons_zero, Act.put, List.setIfInBounds_toArray, List.set_cons_zero, List.set_cons_succ]
  refine wpAnyH_take (i := 11) (v := undef) rfl (by kernel_rfl) (by kernel_rfl) (by kernel_rfl) (fun _ _ _ h => h) (Or.inr ⟨by rfl, rfl⟩) trivial ?_
  simp only [List.getElem_toArray, List.getElem_cons_succ, List.getElem_cons_zero, Act.put, List.setIfInBounds_toArray, List.set_cons_zero, List.set_cons_succ]
  refine wpAnyH_take (i := 12) (v := undef) rfl (by kernel_rfl) (by kernel_rfl) (by kernel_rfl) (fun _ _ _ h => h) (Or.inr ⟨by rfl, rfl⟩) trivial ?_
  simp only [List.getElem_toArray, List.getElem_cons_succ, List.getElem_cons_zero, Act.put, List.setIfInBounds_toArray, List.set_cons_zero, List.set_cons_succ]
  refine wpAnyH_take (i := 13) (v := undef) rfl (by kernel_rfl) (by kernel_rfl) (by kernel_rfl) (fun _ _ _ h => h) (Or.inr ⟨by rfl, rfl⟩) trivial ?_
  simp only [List.getElem_toArray, List.getElem_cons_succ, List.getElem_cons_zero, Act.put, List.setIfInBounds_toArray, List.set_cons_zero, List.set_cons_succ]
  refine wpAnyH_take (i := 14) (v := undef) rfl (by kernel_rfl) (by kernel_rfl) (by kernel_rfl) (fun _ _ _ h => h) (Or.inr ⟨by rfl, rfl⟩) trivial ?_
  simp only [List.getElem_toArray, List.getElem_cons_succ, List.getElem_cons_zero, Act.put, List.setIfInBounds_toArray, List.set_cons_zero, List.set_cons_succ]
  refine wpAnyH_take (i := 15) (v := undef) rfl (by kernel_rfl) (by kernel_rfl) (by kernel_rfl) (fun _ _ _ h => h) (Or.inr ⟨by rfl, rfl⟩) trivial ?_
  simp only [List.getElem_toArray, List.getElem_cons_succ, List.getElem_cons_zero, Act.put, List.setIfInBounds_toArray, List.set_cons_zero, List.set_cons_succ]
  refine wpAnyH_take (i := 16) (v := .bool false) rfl (by kernel_rfl) (by kernel_rfl) (by kernel_rfl) (fun _ _ _ h => h) (Or.inl ⟨by rfl, fun w _ => by rfl⟩) trivial ?_
  simp only [List.getElem_toArray, List.getElem_cons_succ, List.getElem_cons_zero, Act.put, List.setIfInBounds_toArray, List.set_cons_zero, List.set_cons_succ]
  refine wpAnyH_take (i := 17) (v := .bool false) rfl (by kernel_rfl) (by kernel_rfl) (by kernel_rfl) (fun _ _ _ h => h) (Or.inl ⟨by rfl, fun w _ => by rfl⟩) trivial ?_
  simp only [List.getElem_toArray, List.getElem_cons_succ, List.getElem_cons_zero, Act.put, List.setIfInBounds_toArray, List.set_cons_zero, List.set_cons_succ]
  refine wpAnyH_done (by kernel_rfl) ?_ _
  go_wp2_with fail
  go_ret
  exact ⟨rfl, HB2.out⟩
set_option maxRecDepth 100000 in
set_option maxHeartbeats 4000000 in
theorem iBondFollows_b (t f g : Int) (A : Option Addr) (n c : Nat) (ds : List (Int × Int)) (w : World) (ha : BRow w A n c ds) (hp : bondsOkB t ds = true) (hq : bondOkB t f g = false) :
    Calls Try.prog 25 #[.int .i64 t, .slice A n c, .agg #[.int .i64 f, .int .i64 g]] w (BPost false w) := by
  have HX1 : Hid (BoxAt (w.alloc (.cells #[.int .i64 f, .int .i64 g] 24)) w.heap.size f g) := BoxAt.new w f g _
  have HB1 : Hid (Below w.heap.size w (w.alloc (.cells #[.int .i64 f, .int .i64 g] 24))) := (Below.refl _ _).alloc (Nat.le_refl _) _
  have HA1 := Lib.hid (ha.below HB1.out)
  have HP := Lib.hid hp
  have HQ := Lib.hid hq
  clear ha hp hq
  go_enter Try.func25, Try.ntmps25
  go_wp2_with fail
  refine wp_region_held_drew (S := fun _ => True) (by kernel_rfl) trivial (fun _ => ?_)
  refine wpAnyH_take (i := 0) (v := .int .i64 t) rfl (by kernel_rfl) (by kernel_rfl) (by kernel_rfl) (fun _ _ _ h => h) (Or.inl ⟨by rfl, fun w _ => by rfl⟩) trivial ?_
  simp only [List.getElem_toArray, List.getElem_cons_zero, Act.put, List.setIfInBounds_toArray, List.set_cons_zero, List.set_cons_succ]
  refine wpAnyH_take (i := 1) (v := .slice A n c) rfl (by kernel_rfl) (by kernel_rfl) (by kernel_rfl) (fun _ _ _ h => h) (Or.inl ⟨by rfl, fun w _ => by rfl⟩) trivial ?_
  simp only [List.getElem_toArray, List.getElem_cons_succ, List.getElem_cons_zero, Act.put, List.setIfInBounds_toArray, List.set_cons_zero, List.set_cons_succ]
  refine wpAnyH_ready (rs := [2]) (by kernel_rfl) (by simp) ?_
  refine AllReadyH.cons rfl (fun K hK => ?_) AllReadyH.nil
  go_simp
  go_at_call 56
  refine (iBondsOk_is HP (BRow.drew_ HA1.out)).mono ?_
  rintro e w1 ⟨rfl, hb⟩
  have HB2 := Lib.hid (bel_trans (bel_drewN HB1.out 1) hb)
  obtain ⟨hc0, hc1, _⟩ := BoxAt.below (BoxAt.drew HX1.out) hb
  clear hb
  try go_simp
  refine hK.out _ _ trivial (fun _ => ?_)
  clear hK K
  try simp only [List.getElem_toArray, List.getElem_cons_succ, List.getElem_cons_zero, Act.put, List.setIfInBounds_toArray, List.set_cons_zero, List.set_cons_succ]
  refine wpAnyH_take (i := 3) (v := .bool true) rfl (by kernel_rfl) (by kernel_rfl) (by kernel_rfl) (fun _ _ _ h => h) (Or.inl ⟨by rfl, fun w _ => by rfl⟩) trivial ?_
  simp only [List.getElem_toArray, List.getElem_cons_succ, List.getElem_cons_zero, Act.put, List.setIfInBounds_toArray, List.set_cons_zero, List.set_cons_succ]
  refine wpAnyH_take (i := 4) (v := .int .i64 t) rfl (by kernel_rfl) (by kernel_rfl) (by kernel_rfl) (fun _ _ _ h => h) (Or.inl ⟨by rfl, fun w _ => by rfl⟩) trivial ?_
  simp only [List.getElem_toArray, List.getElem_cons_succ, List.getElem_cons_zero, Act.put, List.setIfInBounds_toArray, List.set_cons_zero, List.set_cons_succ]
  refine wpAnyH_ready (rs := [5]) (by kernel_rfl) (by simp) ?_
  refine AllReadyH.cons rfl (fun K hK => ?_) AllReadyH.nil
  go_simp
  try go_simp
  refine hK.out _ _ trivial (fun _ => ?_)
  clear hK K
  try simp only [List.getElem_toArray, List.getElem_cons_succ, List.getElem_cons_zero, Act.put, List.setIfInBounds_toArray, List.set_cons_zero, List.set_cons_succ]
  refine wpAnyH_ready (rs := [6]) (by kernel_rfl) (by simp) ?_
  refine AllReadyH.cons rfl (fun K hK => ?_) AllReadyH.nil
  go_simp
  go_at_call 15
  refine (iBondOk_is HQ _).mono ?_
  rintro e w2 ⟨rfl, hb⟩
  have HB3 := Lib.hid (bel_trans HB2.out hb)
  clear hb hc0 hc1
  try go_simp
  refine hK.out _ _ trivial (fun _ => ?_)
  clear hK K
  try simp only [List.getElem_toArray, List.getElem_cons_succ, List.getElem_cons_zero, Act.put, List.setIfInBounds_toArray, List.set_cons_zero, List.set_cons_succ]
  refine wpAnyH_take (i := 7) (v := .bool false) rfl (by kernel_rfl) (by kernel_rfl) (by kernel_rfl) (fun _ _ _ h => h) (Or.inl ⟨by rfl, fun w _ => by rfl⟩) trivial ?_
  simp only [List.getElem_toArray, List.getElem_cons_succ, List.getElem_cons_zero, Act.put, List.setIfInBounds_toArray, List.set_cons_zero, List.set_cons_succ]
  refine wpAnyH_take (i := 8) (v := .bool false) rfl (by kernel_rfl) (by kernel_rfl) (by kernel_rfl) (fun _ _ _ h => h) (Or.inl ⟨by rfl, fun w _ => by rfl⟩) trivial ?_
  simp only [List.getElem_toArray, List.getElem_cons_succ, List.getElem_cons_zero, Act.put, List.setIfInBounds_toArray, List.set_cons_zero, List.set_cons_succ]
  refine wpAnyH_take (i := 9) (v := undef) rfl (by kernel_rfl) (by kernel_rfl) (by kernel_rfl) (fun _ _ _ h => h) (Or.inr ⟨by rfl, rfl⟩) trivial ?_
  simp only [List.getElem_toArray, List.getElem_cons_succ, List.getElem_cons_zero, Act.put, List.setIfInBounds_toArray, List.set_cons_zero, List.set_cons_succ]
  refine wpAnyH_take (i := 10) (v := undef) rfl (by kernel_rfl) (by kernel_rfl) (by kernel_rfl) (fun _ _ _ h => h) (Or.inr ⟨by rfl, rfl⟩) trivial ?_
  simp only [List.getElem_toArray, List.getElem_cons_succ, List.getElem_cons_zero, Act.put, List.setIfInBounds_toArray, List.set_cons_zero, List.set_cons_succ]
  refine wpAnyH_take (i := 11) (v := undef) rfl (by kernel_rfl) (by kernel_rfl) (by kernel_rfl) (fun _ _ _ h => h) (Or.inr ⟨by rfl, rfl⟩) trivial ?_
  simp only [List.getElem_toArray, List.getElem_cons_succ, List.getElem_cons_zero, Act.put, List.setIfInBounds_toArray, List.set_cons_zero, List.set_cons_succ]
  refine wpAnyH_take (i := 12) (v := undef) rfl (by kernel_rfl) (by kernel_rfl) (by kernel_rfl) (fun _ _ _ h => h) (Or.inr ⟨by rfl, rfl⟩) trivial ?_
  simp only [List.getElem_toArray, List.getElem_cons_succ, List.getElem_cons_zero, Act.put, List.setIfInBounds_toArray, List.set_cons_zero, List.set_cons_succ]
  refine wpAnyH_take (i := 13) (v := undef) rfl (by kernel_rfl) (by kernel_rfl) (by kernel_rfl) (fun _ _ _ h => h) (Or.inr ⟨by rfl, rfl⟩) trivial ?_
  simp only [List.getElem_toArray, List.getElem_cons_succ, List.getElem_cons_zero, Act.put, List.setIfInBounds_toArray, List.set_cons_zero, List.set_cons_succ]
  refine wpAnyH_take (i := 14) (v := undef) rfl (by kernel_rfl) (by kernel_rfl) (by kernel_rfl) (fun _ _ _ h => h) (Or.inr ⟨by rfl, rfl⟩) trivial ?_
  simp only [List.getElem_toArray, List.getElem_cons_succ, List.getElem_cons_zero, Act.put, List.setIfInBounds_toArray, List.set_cons_zero, List.set_cons_succ]
  refine wpAnyH_take (i := 15) (v := undef) rfl (by kernel_rfl) (by kernel_rfl) (by kernel_rfl) (fun _ _ _ h => h) (Or.inr ⟨by rfl, rfl⟩) trivial ?_
  simp only [List.getElem_toArray, List.getElem_cons_succ, List.getElem_cons_zero, Act.put, List.setIfInBounds_toArray, List.set_cons_zero, List.set_cons_succ]
  refine wpAnyH_take (i := 16) (v := .bool false) rfl (by kernel_rfl) (by kernel_rfl) (by kernel_rfl) (fun _ _ _ h => h) (Or.inl ⟨by rfl, fun w _ => by rfl⟩) trivial ?_
  simp only [List.getElem_toArray, List.getElem_cons_succ, List.getElem_cons_zero, Act.put, List.setIfInBounds_toArray, List.set_cons_zero, List.set_cons_succ]
  refine wpAnyH_take (i := 17) (v := .bool false) rfl (by kernel_rfl) (by kernel_rfl) (by kernel_rfl) (fun _ _ _ h => h) (Or.inl ⟨by rfl, fun w _ => by rfl⟩) trivial ?_
  simp only [List.getElem_toArray, List.getElem_cons_succ, List.getElem_cons_zero, Act.put, List.setIfInBounds_toArray, List.set_cons_zero, List.set_cons_succ]
  refine wpAnyH_done (by kernel_rfl) ?_ _
  go_wp2_with fail
  go_ret
  exact ⟨rfl, HB3.out⟩
set_option maxRecDepth 100000 in
set_option maxHeartbeats 4000000 in
theorem iBondFollows_c (t f g : Int) (A : Option Addr) (n c : Nat) (ds : List (Int × Int)) (w : World) (ha : BRow w A n c ds) (hp : bondsOkB t ds = true) (hq : bondOkB t f g = true) (v : Bool) (hv : withinB g (closeN ds t.toNat f) = v) :
    Calls Try.prog 25 #[.int .i64 t, .slice A n c, .agg #[.int .i64 f, .int .i64 g]] w (BPost v w) := by
  have HX1 : Hid (BoxAt (w.alloc (.cells #[.int .i64 f, .int .i64 g] 24)) w.heap.size f g) := BoxAt.new w f g _
  have HB1 : Hid (Below w.heap.size w (w.alloc (.cells #[.int .i64 f, .int .i64 g] 24))) := (Below.refl _ _).alloc (Nat.le_refl _) _
  have HA1 := Lib.hid (BRow.drew_ (ha.below HB1.out))
  have HP := Lib.hid hp
  have HQ := Lib.hid hq
  have hq2 := hq
  unfold bondOkB at hq2
  rw [Bool.and_eq_true] at hq2
  have HTF := Lib.hid hq2.1
  obtain ⟨h1, h3, hf0, hf7, _⟩ := thingsOk_of hq2.1
  obtain ⟨_, _, hg0, _, hg7⟩ := thingsOk_of hq2.2
  have HL := Lib.hid (bonds_list hp).2
  have hr := closeN_top h1 h3 HL.out t.toNat hf0 hf7
  have ht7 := topT_range t
  obtain ⟨r, HR⟩ : ∃ r, Hid (closeN ds t.toNat f = r) := ⟨_, rfl⟩
  rw [HR.out] at hr hv
  have hr0 : 0 ≤ r := hr.1
  have hr7 : r ≤ 7 := by omega
  have HV := Lib.hid hv
  have HC : Hid (∀ W, BRow W A n c ds → Calls Try.prog 57 #[.slice A n c, .int .i64 f] W (NPost r W)) := fun W hW => by
    have := iClosed t f A n c ds W HTF.out HL.out hW
    rw [HR.out] at this; exact this
  obtain ⟨hc0, hc1, _⟩ := HX1.out
  clear ha hp hq hq2 hv hr h1 h3 hf0 hf7 ht7
  go_enter Try.func25, Try.ntmps25
  go_wp2_with fail
  go_region_held3 (fun w' => w'.cell? ⟨w.heap.size, 0, none⟩ = some (.int .i64 f) ∧ w'.cell? ⟨w.heap.size, 1, none⟩ = some (.int .i64 g))
    (first | go_keep | exact ⟨HX4.out.1, HX4.out.2.1⟩ | exact ⟨HX3.out.1, HX3.out.2.1⟩ | exact ⟨HX2.out.1, HX2.out.2.1⟩)
    (first
      | (go_at_call 56; refine (iBondsOk_is HP HA1.out).mono ?_; rintro e w1 ⟨rfl, hb⟩; have HX2 := Lib.hid (BoxAt.below (BoxAt.drew HX1.out) hb); have HA2 := Lib.hid (HA1.out.below hb); have HB2 := Lib.hid (bel_trans (bel_drewN HB1.out 1) hb); clear hb)
      | (go_at_call 15; refine (iBondOk_is HQ _).mono ?_; rintro e w2 ⟨rfl, hb⟩; have HX3 := Lib.hid (BoxAt.below HX2.out hb); have HA3 := Lib.hid (HA2.out.below hb); have HB3 := Lib.hid (bel_trans HB2.out hb); clear hb)
      | (go_at_call 57; refine (HC.out _ HA3.out).mono ?_; rintro e w3 ⟨rfl, hb⟩; have HX4 := Lib.hid (BoxAt.below HX3.out hb); have HB4 := Lib.hid (bel_trans HB3.out hb); clear hb)
      | (go_at_call 60; refine (iWithin_is5 HV hg0 (by omega) hr0 (by omega) _).mono ?_; rintro e w' ⟨rfl, rfl⟩))
  all_goals
    go_wp2_with fail
    go_ret
    exact ⟨rfl, HB4.out⟩
theorem iBondFollows (t f g : Int) (A : Option Addr) (n c : Nat) (ds : List (Int × Int)) (w : World) (ha : BRow w A n c ds) :
    Calls Try.prog 25 #[.int .i64 t, .slice A n c, .agg #[.int .i64 f, .int .i64 g]] w (BPost (bondFollowsB t ds f g) w) := by
  rw [follows_eq5]
  rcases hp : bondsOkB t ds with _ | _
  · exact iBondFollows_a t f g A n c ds w ha hp
  · rcases hq : bondOkB t f g with _ | _
    · exact iBondFollows_b t f g A n c ds w ha hp hq
    · exact iBondFollows_c t f g A n c ds w ha hp hq _ rfl
theorem iBondFollows_is {t f g : Int} {ds : List (Int × Int)} {v : Bool} (h : Hid (bondFollowsB t ds f g = v)) {A : Option Addr} {n c : Nat} {w : World} (ha : BRow w A n c ds) :
    Calls Try.prog 25 #[.int .i64 t, .slice A n c, .agg #[.int .i64 f, .int .i64 g]] w (BPost v w) := by
  have := iBondFollows t f g A n c ds w ha
  rw [h.out] at this; exact this
end Go.Proofs.Ytannpnhboeopdaa

namespace Go.Proofs.Ytannpnhboeopdaa
open Go.RowKit Go.Maps

theorem bond_laid : laidOutB Try.prog = true := by kernel_rfl
theorem bond_row : (24 : TypeId) < Try.prog.types.size := of_decide_eq_true (by kernel_rfl)
theorem bond_wide : (match Try.prog.underlying 24 with | some (.array _ _) | some (.struct _) => true | _ => false) = true := by kernel_rfl
set_option maxRecDepth 1000000 in
theorem bond_keyed : Keyed Try.prog 24 := Keyed.of_law (deep_law_laid bond_laid (m := 2) (by omega) bond_row (by kernel_rfl) bond_wide)
theorem bool_zero (w : World) : (zeroValue 4).run Try.prog w = .ok (.bool false) w := by kernel_rfl
def bondKey (f g : Int) : Lit := .string (keyBytes [.int .i64 f, .int .i64 g])
theorem plainElem_bool_inv {H : Type} {P : Program} {e : TypeId} (he : P.underlying e = some .bool) {v : Value} {x : DataW H × List MemPlace} (h : plainElem P e v = some x) : ∃ b : Bool, v = .bool b ∧ x = (.lit (.bool b), []) := by
  cases v <;> simp [plainElem, he] at h
  exact ⟨_, rfl, h.symm⟩
theorem wpList_lookup_own_bool {H : Type} {P : Program} (w : World) {ops : Array Oper} {rest : List Oper} {o : Oper} {a : Act} {Q : Exit → Act → World → Prop}
    (hg : o.guard = none) (m x : Operand) (t : TypeId) (hop : o.op = Op.lookup t m x false)
    (k e : TypeId) (K : Keyed P k) (ht : P.underlying t = some (.map k e)) (he : P.underlying e = some .bool) (hz : (zeroValue e).run P w = .ok (.bool false) w) (b n : Nat) (D : DataW H)
    (hm : a.eval m = .map (some b)) (hown : w.ownsMap P k (plainElem P e) b n D) (key : Value) (kl : Lit) (hx : a.eval x = key) (hkey : keyOf P k key = some kl)
    (hK : ∀ c : Bool, D.atKey kl (.lit (.bool false)) = .lit (.bool c) → wpList P ops Q rest (a.put o.dst (.bool c)) w) :
    wpList P ops Q (o :: rest) a w := by
  refine wpList_plain hg fun K' hK' => ?_
  obtain ⟨v, ps, hrun, hv⟩ := hown.lookup K ht hz (plainElem_bool he false) hkey
  obtain ⟨c, rfl, hc⟩ := plainElem_bool_inv he hv
  simp only [Prod.mk.injEq] at hc
  unfold Oper.wp
  simp [execOp, hop, hm, hx, hrun, Result.andThen]
  exact hK' _ _ (hK c hc.1)
theorem bond_cells : Try.prog.cellsOf 24 = 2 := by kernel_rfl
theorem int_cells : Try.prog.cellsOf 3 = 1 := by kernel_rfl
theorem bond_key {f g : Int} (hf : (Lit.int .i64 f).wf = true) (hg : (Lit.int .i64 g).wf = true) : keyOf Try.prog 24 (.agg #[.int .i64 f, .int .i64 g]) = some (bondKey f g) := by
  have hkt : Try.prog.keyType 24 = true := by kernel_rfl
  have hfm : (Value.agg #[.int .i64 f, .int .i64 g]).formed Try.prog 24 = true := by simp [Value.formed, Try.underlying24, bond_cells]
  obtain ⟨m, hm⟩ : ∃ m, Try.prog.types.size = m + 1 := ⟨_, rfl⟩
  unfold keyOf
  simp only [Try.underlying24]
  rw [if_pos (by rw [hkt, hfm]; rfl), hm]
  unfold Program.keyLits
  simp only [Try.underlying24, Value.cells]
  rw [if_pos ⟨by rw [bond_cells]; rfl, by kernel_rfl⟩]
  simp [Program.keyLits, Try.underlying3, int_cells, hf, hg, bondKey]
theorem bondKey_inj {f g f' g' : Int} (hf : (Lit.int .i64 f).wf = true) (hg : (Lit.int .i64 g).wf = true) (hf' : (Lit.int .i64 f').wf = true) (hg' : (Lit.int .i64 g').wf = true) (h : bondKey f g = bondKey f' g') : f = f' ∧ g = g' := by
  have := bond_keyed.inj (bond_key hf hg) (by rw [h]; exact bond_key hf' hg')
  simpa using this
end Go.Proofs.Ytannpnhboeopdaa

namespace Go.Proofs.Ytannpnhboeopdaa
open Go.RowKit Go.Maps

abbrev BMap (w : World) (B n : Nat) (D : DataW Unit) : Prop := w.ownsMap Try.prog 24 (plainElem Try.prog 4) B n D
theorem BMap.below {w w' : World} {B n : Nat} {D : DataW Unit} (h : BMap w B n D) (hb : Below w.heap.size w w') : BMap w' B n D :=
  World.ownsMap.kept (row := none) h ⟨hb.os, hb.tape, hb.output, hb.size, fun k hk _ => hb.block k hk⟩ (by simp)
theorem wf_small {k : Nat} (h : k < 8) : (Lit.int .i64 (k : Int)).wf = true := WalkArith.wf_i64 (by omega)
/-- The map tells of all dependences so far whether they hold. -/
def HeldTo (t s : Int) (N : Nat) (D : DataW Unit) (k j : Nat) : Prop :=
  ∀ f g : Nat, f < N → g < N → D.atKey (bondKey f g) (.lit (.bool false)) = .lit (.bool (decide (f < k ∨ (f = k ∧ g < j)) && pairsB t s f g))
section
variable {t s : Int} {N k j : Nat} {D : DataW Unit}
theorem HeldTo.start (t s : Int) (N : Nat) : HeldTo t s N (.map []) 0 0 := fun f g _ _ => by
  rw [decide_eq_false (by omega)]; rfl
theorem HeldTo.skip (h : HeldTo t s N D k j) (hb : pairsB t s k j = false) : HeldTo t s N D k (j + 1) := fun f g hf hg => by
  rw [h f g hf hg]
  by_cases e : f = k ∧ g = j
  · obtain ⟨rfl, rfl⟩ := e
    rw [hb, Bool.and_false, Bool.and_false]
  · rw [show decide (f < k ∨ (f = k ∧ g < j)) = decide (f < k ∨ (f = k ∧ g < j + 1)) from decide_eq_decide.2 (by omega)]
theorem HeldTo.put (h : HeldTo t s N D k j) (hN : N ≤ 8) (hD : Tidy D) (hk : k < N) (hj : j < N) (hb : pairsB t s k j = true) : HeldTo t s N (D.put (bondKey k j) (.lit (.bool true))) k (j + 1) := fun f g hf hg => by
  by_cases e : f = k ∧ g = j
  · obtain ⟨rfl, rfl⟩ := e
    rw [atKey_put_same hD.isMap (by trivial), hb, decide_eq_true (by omega)]; rfl
  · have hne : bondKey f g ≠ bondKey k j := fun e2 => by
      have := bondKey_inj (wf_small (by omega)) (wf_small (by omega)) (wf_small (by omega)) (wf_small (by omega)) e2
      omega
    rw [atKey_put_other hne, h f g hf hg, show decide (f < k ∨ (f = k ∧ g < j)) = decide (f < k ∨ (f = k ∧ g < j + 1)) from decide_eq_decide.2 (by omega)]
theorem HeldTo.next (h : HeldTo t s N D k N) : HeldTo t s N D (k + 1) 0 := fun f g hf hg => by
  rw [h f g hf hg, show decide (f < k ∨ (f = k ∧ g < N)) = decide (f < k + 1 ∨ (f = k + 1 ∧ g < 0)) from decide_eq_decide.2 (by omega)]
theorem HeldTo.done (h : HeldTo t s N D N 0) {f g : Nat} (hf : f < N) (hg : g < N) : D.atKey (bondKey f g) (.lit (.bool false)) = .lit (.bool (pairsB t s f g)) := by
  rw [h f g hf hg, decide_eq_true (by omega), Bool.true_and]
end
end Go.Proofs.Ytannpnhboeopdaa

namespace Go.Proofs.Ytannpnhboeopdaa
open Go.RowKit Go.Maps

def MapPost (t s : Int) (N : Nat) (w : World) (e : Ending) (w' : World) : Prop :=
  ∃ (B n : Nat) (D : DataW Unit), e = .returned (.map (some B)) ∧ w.heap.size ≤ B ∧ BMap w' B n D ∧ (∀ f g : Nat, f < N → g < N → D.atKey (bondKey f g) (.lit (.bool false)) = .lit (.bool (pairsB t s f g))) ∧ Below w.heap.size w w'
set_option maxRecDepth 100000 in
set_option maxHeartbeats 8000000 in
theorem iThatHold (t s : Int) (N : Nat) (w : World) (hN : (t = 1 ∧ N = 2) ∨ (t = 2 ∧ N = 4) ∨ (t = 3 ∧ N = 8)) (hs : 0 ≤ s) (hs2 : s < 256) :
    Calls Try.prog 64 #[.int .i64 t, .int .i64 s] w (MapPost t s N w) := by
  rcases hN with ⟨rfl, rfl⟩ | ⟨rfl, rfl⟩ | ⟨rfl, rfl⟩
  · have HH : Hid (∀ (k j : Nat) W, k < 8 → j < 8 → Calls Try.prog 62 #[.int .i64 1, .int .i64 s, .agg #[.int .i64 k, .int .i64 j]] W (BPost (pairsB 1 s k j) W)) := fun k j W hk hj =>
      iHolds 1 s k j W (by omega) (by omega) hs hs2 (by omega) (by omega) (by omega) (by omega)
    have hmm := @run_makeMap Try.prog
    go_enter Try.func64, Try.ntmps64
    go_wp2_with fail
    clear hmm
    go_loopw [12] (fun i wr => ∃ (k n : Nat) (D : DataW Unit), k ≤ 2 ∧ i = .int .i64 k ∧ n ≤ k * 8 ∧ Tidy D ∧ Hid (HeldTo 1 s 2 D k 0) ∧ BMap wr w.heap.size n D ∧ Below w.heap.size w wr) (fun i _ => 2 - (Go.RowKit.intOf i).toNat)
    case atStart => exact ⟨0, 0, .map [], Nat.zero_le _, rfl, by omega, tidy_empty, HeldTo.start _ _ _, World.ownsMap_made _ _ _ _, (Below.refl _ _).alloc (Nat.le_refl _) _⟩
    case round =>
      obtain ⟨k, n, D, hk, rfl, hn, htd, hso, hown, hbel⟩ := hrel
      have HO := Lib.hid hown
      have HB := Lib.hid hbel
      have HTD := Lib.hid htd
      clear hown hbel htd
      by_cases hlt : k < 2
      · have hdk : decide ((k : Int) < 2) = true := decide_eq_true (by omega)
        go_wp2_with fail
        clear hdk
        go_loopw [17] (fun i wi => ∃ (j n : Nat) (D : DataW Unit), j ≤ 2 ∧ i = .int .i64 j ∧ n ≤ k * 8 + j ∧ Tidy D ∧ Hid (HeldTo 1 s 2 D k j) ∧ BMap wi w.heap.size n D ∧ Below w.heap.size w wi) (fun i _ => 2 - (Go.RowKit.intOf i).toNat)
        case atStart => exact ⟨0, n, D, Nat.zero_le _, rfl, by omega, HTD.out, hso, HO.out, HB.out⟩
        case round =>
          obtain ⟨j, n2, D2, hj, rfl, hn2, htd, hsoi, hown, hbel⟩ := hrel
          have HOI := Lib.hid hown
          have HBI := Lib.hid hbel
          have HT2 := Lib.hid htd
          clear hown hbel htd
          by_cases hjt : j < 2
          · have HX : Hid (BoxAt (wr.alloc (.cells #[.int .i64 k, .int .i64 j] 24)) wr.heap.size k j) := BoxAt.new wr k j _
            have HB1 : Hid (Below w.heap.size w (wr.alloc (.cells #[.int .i64 k, .int .i64 j] 24))) := HBI.out.alloc HBI.out.size _
            have HO1 : Hid (BMap (wr.alloc (.cells #[.int .i64 k, .int .i64 j] 24)) w.heap.size n2 D2) := World.ownsMap.alloc HOI.out _
            have HC := Lib.hid (fun W => HH.out k j W (by omega) (by omega))
            rcases hb : pairsB 1 s k j with _ | _
            · have HN : Hid (HeldTo 1 s 2 D2 k (j + 1)) := hsoi.out.skip hb
              rw [hb] at HC
              clear hb
              go_wp2_with fail
              refine (HC.out _).mono ?_
              rintro e w2 ⟨rfl, hb⟩
              have HB2 := Lib.hid (bel_trans HB1.out hb)
              have HO2 := Lib.hid (BMap.below HO1.out hb)
              clear hb
              go_wp2_with fail
              go_roundw
              case rel => exact ⟨j + 1, n2, D2, by omega, by go_num, by omega, HT2.out, HN, HO2.out, HB2.out⟩
              case measure => simp [Go.RowKit.intOf]; omega
            · have HN : Hid (HeldTo 1 s 2 (D2.put (bondKey k j) (.lit (.bool true))) k (j + 1)) := hsoi.out.put (by omega) HT2.out hlt hjt hb
              have HT3 : Hid (Tidy (D2.put (bondKey k j) (.lit (.bool true)))) := HT2.out.put (by trivial) _
              rw [hb] at HC
              clear hb
              go_wp2_with fail
              refine (HC.out _).mono ?_
              rintro e w2 ⟨rfl, hb⟩
              have HB2 := Lib.hid (bel_trans HB1.out hb)
              have HO2 := Lib.hid (BMap.below HO1.out hb)
              obtain ⟨hc0, hc1, _⟩ := HX.out.below hb
              clear hb
              go_wp2_with (at_mapUpdate; refine wpList_mapUpdate_own _ rfl _ _ _ 69 rfl 24 4 bond_keyed Try.underlying69 (plainElem Try.prog 4) w.heap.size n2 D2 rfl HO2.out (by unfold maxLen; omega) _ _ _ rfl rfl (bond_key (wf_small (by omega)) (wf_small (by omega))) (.lit (.bool true)) [] (plainElem_bool Try.underlying4 true) ?_; intro w3 hown3 hgrow3)
              have hb3 : Below w.heap.size w w3 := HB2.out.grown hgrow3 HB2.out.size (fun q e => by cases e; exact Nat.le_refl _)
              go_roundw
              case rel => exact ⟨j + 1, n2 + 1, _, by omega, by go_num, by omega, HT3.out, HN, hown3, hb3⟩
              case measure => simp [Go.RowKit.intOf]; omega
          · obtain rfl : j = 2 := by omega
            have HN : Hid (HeldTo 1 s 2 D2 (k + 1) 0) := hsoi.out.next
            go_wp2_with fail
            go_roundw
            case rel => exact ⟨k + 1, n2, D2, by omega, by go_num, by omega, HT2.out, HN, HOI.out, HBI.out⟩
            case measure => simp [Go.RowKit.intOf]; omega
      · obtain rfl : k = 2 := by omega
        go_wp2_with fail
        go_ret
        exact ⟨_, n, D, rfl, Nat.le_refl _, HO.out, fun f g hf hg => hso.out.done hf hg, HB.out⟩
  · have HH : Hid (∀ (k j : Nat) W, k < 8 → j < 8 → Calls Try.prog 62 #[.int .i64 2, .int .i64 s, .agg #[.int .i64 k, .int .i64 j]] W (BPost (pairsB 2 s k j) W)) := fun k j W hk hj =>
      iHolds 2 s k j W (by omega) (by omega) hs hs2 (by omega) (by omega) (by omega) (by omega)
    have hmm := @run_makeMap Try.prog
    go_enter Try.func64, Try.ntmps64
    go_wp2_with fail
    clear hmm
    go_loopw [12] (fun i wr => ∃ (k n : Nat) (D : DataW Unit), k ≤ 4 ∧ i = .int .i64 k ∧ n ≤ k * 8 ∧ Tidy D ∧ Hid (HeldTo 2 s 4 D k 0) ∧ BMap wr w.heap.size n D ∧ Below w.heap.size w wr) (fun i _ => 4 - (Go.RowKit.intOf i).toNat)
    case atStart => exact ⟨0, 0, .map [], Nat.zero_le _, rfl, by omega, tidy_empty, HeldTo.start _ _ _, World.ownsMap_made _ _ _ _, (Below.refl _ _).alloc (Nat.le_refl _) _⟩
    case round =>
      obtain ⟨k, n, D, hk, rfl, hn, htd, hso, hown, hbel⟩ := hrel
      have HO := Lib.hid hown
      have HB := Lib.hid hbel
      have HTD := Lib.hid htd
      clear hown hbel htd
      by_cases hlt : k < 4
      · have hdk : decide ((k : Int) < 4) = true := decide_eq_true (by omega)
        go_wp2_with fail
        clear hdk
        go_loopw [17] (fun i wi => ∃ (j n : Nat) (D : DataW Unit), j ≤ 4 ∧ i = .int .i64 j ∧ n ≤ k * 8 + j ∧ Tidy D ∧ Hid (HeldTo 2 s 4 D k j) ∧ BMap wi w.heap.size n D ∧ Below w.heap.size w wi) (fun i _ => 4 - (Go.RowKit.intOf i).toNat)
        case atStart => exact ⟨0, n, D, Nat.zero_le _, rfl, by omega, HTD.out, hso, HO.out, HB.out⟩
        case round =>
          obtain ⟨j, n2, D2, hj, rfl, hn2, htd, hsoi, hown, hbel⟩ := hrel
          have HOI := Lib.hid hown
          have HBI := Lib.hid hbel
          have HT2 := Lib.hid htd
          clear hown hbel htd
          by_cases hjt : j < 4
          · have HX : Hid (BoxAt (wr.alloc (.cells #[.int .i64 k, .int .i64 j] 24)) wr.heap.size k j) := BoxAt.new wr k j _
            have HB1 : Hid (Below w.heap.size w (wr.alloc (.cells #[.int .i64 k, .int .i64 j] 24))) := HBI.out.alloc HBI.out.size _
            have HO1 : Hid (BMap (wr.alloc (.cells #[.int .i64 k, .int .i64 j] 24)) w.heap.size n2 D2) := World.ownsMap.alloc HOI.out _
            have HC := Lib.hid (fun W => HH.out k j W (by omega) (by omega))
            rcases hb : pairsB 2 s k j with _ | _
            · have HN : Hid (HeldTo 2 s 4 D2 k (j + 1)) := hsoi.out.skip hb
              rw [hb] at HC
              clear hb
              go_wp2_with fail
              refine (HC.out _).mono ?_
              rintro e w2 ⟨rfl, hb⟩
              have HB2 := Lib.hid (bel_trans HB1.out hb)
              have HO2 := Lib.hid (BMap.below HO1.out hb)
              clear hb
              go_wp2_with fail
              go_roundw
              case rel => exact ⟨j + 1, n2, D2, by omega, by go_num, by omega, HT2.out, HN, HO2.out, HB2.out⟩
              case measure => simp [Go.RowKit.intOf]; omega
            · have HN : Hid (HeldTo 2 s 4 (D2.put (bondKey k j) (.lit (.bool true))) k (j + 1)) := hsoi.out.put (by omega) HT2.out hlt hjt hb
              have HT3 : Hid (Tidy (D2.put (bondKey k j) (.lit (.bool true)))) := HT2.out.put (by trivial) _
              rw [hb] at HC
              clear hb
              go_wp2_with fail
              refine (HC.out _).mono ?_
              rintro e w2 ⟨rfl, hb⟩
              have HB2 := Lib.hid (bel_trans HB1.out hb)
              have HO2 := Lib.hid (BMap.below HO1.out hb)
              obtain ⟨hc0, hc1, _⟩ := HX.out.below hb
              clear hb
              go_wp2_with (at_mapUpdate; refine wpList_mapUpdate_own _ rfl _ _ _ 69 rfl 24 4 bond_keyed Try.underlying69 (plainElem Try.prog 4) w.heap.size n2 D2 rfl HO2.out (by unfold maxLen; omega) _ _ _ rfl rfl (bond_key (wf_small (by omega)) (wf_small (by omega))) (.lit (.bool true)) [] (plainElem_bool Try.underlying4 true) ?_; intro w3 hown3 hgrow3)
              have hb3 : Below w.heap.size w w3 := HB2.out.grown hgrow3 HB2.out.size (fun q e => by cases e; exact Nat.le_refl _)
              go_roundw
              case rel => exact ⟨j + 1, n2 + 1, _, by omega, by go_num, by omega, HT3.out, HN, hown3, hb3⟩
              case measure => simp [Go.RowKit.intOf]; omega
          · obtain rfl : j = 4 := by omega
            have HN : Hid (HeldTo 2 s 4 D2 (k + 1) 0) := hsoi.out.next
            go_wp2_with fail
            go_roundw
            case rel => exact ⟨k + 1, n2, D2, by omega, by go_num, by omega, HT2.out, HN, HOI.out, HBI.out⟩
            case measure => simp [Go.RowKit.intOf]; omega
      · obtain rfl : k = 4 := by omega
        go_wp2_with fail
        go_ret
        exact ⟨_, n, D, rfl, Nat.le_refl _, HO.out, fun f g hf hg => hso.out.done hf hg, HB.out⟩
  · have HH : Hid (∀ (k j : Nat) W, k < 8 → j < 8 → Calls Try.prog 62 #[.int .i64 3, .int .i64 s, .agg #[.int .i64 k, .int .i64 j]] W (BPost (pairsB 3 s k j) W)) := fun k j W hk hj =>
      iHolds 3 s k j W (by omega) (by omega) hs hs2 (by omega) (by omega) (by omega) (by omega)
    have hmm := @run_makeMap Try.prog
    go_enter Try.func64, Try.ntmps64
    go_wp2_with fail
    clear hmm
    go_loopw [12] (fun i wr => ∃ (k n : Nat) (D : DataW Unit), k ≤ 8 ∧ i = .int .i64 k ∧ n ≤ k * 8 ∧ Tidy D ∧ Hid (HeldTo 3 s 8 D k 0) ∧ BMap wr w.heap.size n D ∧ Below w.heap.size w wr) (fun i _ => 8 - (Go.RowKit.intOf i).toNat)
    case atStart => exact ⟨0, 0, .map [], Nat.zero_le _, rfl, by omega, tidy_empty, HeldTo.start _ _ _, World.ownsMap_made _ _ _ _, (Below.refl _ _).alloc (Nat.le_refl _) _⟩
    case round =>
      obtain ⟨k, n, D, hk, rfl, hn, htd, hso, hown, hbel⟩ := hrel
      have HO := Lib.hid hown
      have HB := Lib.hid hbel
      have HTD := Lib.hid htd
      clear hown hbel htd
      by_cases hlt : k < 8
      · have hdk : decide ((k : Int) < 8) = true := decide_eq_true (by omega)
        go_wp2_with fail
        clear hdk
        go_loopw [17] (fun i wi => ∃ (j n : Nat) (D : DataW Unit), j ≤ 8 ∧ i = .int .i64 j ∧ n ≤ k * 8 + j ∧ Tidy D ∧ Hid (HeldTo 3 s 8 D k j) ∧ BMap wi w.heap.size n D ∧ Below w.heap.size w wi) (fun i _ => 8 - (Go.RowKit.intOf i).toNat)
        case atStart => exact ⟨0, n, D, Nat.zero_le _, rfl, by omega, HTD.out, hso, HO.out, HB.out⟩
        case round =>
          obtain ⟨j, n2, D2, hj, rfl, hn2, htd, hsoi, hown, hbel⟩ := hrel
          have HOI := Lib.hid hown
          have HBI := Lib.hid hbel
          have HT2 := Lib.hid htd
          clear hown hbel htd
          by_cases hjt : j < 8
          · have HX : Hid (BoxAt (wr.alloc (.cells #[.int .i64 k, .int .i64 j] 24)) wr.heap.size k j) := BoxAt.new wr k j _
            have HB1 : Hid (Below w.heap.size w (wr.alloc (.cells #[.int .i64 k, .int .i64 j] 24))) := HBI.out.alloc HBI.out.size _
            have HO1 : Hid (BMap (wr.alloc (.cells #[.int .i64 k, .int .i64 j] 24)) w.heap.size n2 D2) := World.ownsMap.alloc HOI.out _
            have HC := Lib.hid (fun W => HH.out k j W (by omega) (by omega))
            rcases hb : pairsB 3 s k j with _ | _
            · have HN : Hid (HeldTo 3 s 8 D2 k (j + 1)) := hsoi.out.skip hb
              rw [hb] at HC
              clear hb
              go_wp2_with fail
              refine (HC.out _).mono ?_
              rintro e w2 ⟨rfl, hb⟩
              have HB2 := Lib.hid (bel_trans HB1.out hb)
              have HO2 := Lib.hid (BMap.below HO1.out hb)
              clear hb
              go_wp2_with fail
              go_roundw
              case rel => exact ⟨j + 1, n2, D2, by omega, by go_num, by omega, HT2.out, HN, HO2.out, HB2.out⟩
              case measure => simp [Go.RowKit.intOf]; omega
            · have HN : Hid (HeldTo 3 s 8 (D2.put (bondKey k j) (.lit (.bool true))) k (j + 1)) := hsoi.out.put (by omega) HT2.out hlt hjt hb
              have HT3 : Hid (Tidy (D2.put (bondKey k j) (.lit (.bool true)))) := HT2.out.put (by trivial) _
              rw [hb] at HC
              clear hb
              go_wp2_with fail
              refine (HC.out _).mono ?_
              rintro e w2 ⟨rfl, hb⟩
              have HB2 := Lib.hid (bel_trans HB1.out hb)
              have HO2 := Lib.hid (BMap.below HO1.out hb)
              obtain ⟨hc0, hc1, _⟩ := HX.out.below hb
              clear hb
              go_wp2_with (at_mapUpdate; refine wpList_mapUpdate_own _ rfl _ _ _ 69 rfl 24 4 bond_keyed Try.underlying69 (plainElem Try.prog 4) w.heap.size n2 D2 rfl HO2.out (by unfold maxLen; omega) _ _ _ rfl rfl (bond_key (wf_small (by omega)) (wf_small (by omega))) (.lit (.bool true)) [] (plainElem_bool Try.underlying4 true) ?_; intro w3 hown3 hgrow3)
              have hb3 : Below w.heap.size w w3 := HB2.out.grown hgrow3 HB2.out.size (fun q e => by cases e; exact Nat.le_refl _)
              go_roundw
              case rel => exact ⟨j + 1, n2 + 1, _, by omega, by go_num, by omega, HT3.out, HN, hown3, hb3⟩
              case measure => simp [Go.RowKit.intOf]; omega
          · obtain rfl : j = 8 := by omega
            have HN : Hid (HeldTo 3 s 8 D2 (k + 1) 0) := hsoi.out.next
            go_wp2_with fail
            go_roundw
            case rel => exact ⟨k + 1, n2, D2, by omega, by go_num, by omega, HT2.out, HN, HOI.out, HBI.out⟩
            case measure => simp [Go.RowKit.intOf]; omega
      · obtain rfl : k = 8 := by omega
        go_wp2_with fail
        go_ret
        exact ⟨_, n, D, rfl, Nat.le_refl _, HO.out, fun f g hf hg => hso.out.done hf hg, HB.out⟩
end Go.Proofs.Ytannpnhboeopdaa
