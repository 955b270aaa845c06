/-
  What the proofs of this seat's statements share (TlkV).
-/
import Derived.Test.YtmdogidflaplkaaU22
import Derived.Test.YtmdogidflaplkaaU3

namespace Go.Proofs.Ytmdogidflaplkaa
open Go.RowKit

theorem drawTalkNew_any (A : Option Addr) (nn c : Nat) (zs : List Int) (w : World) (hn : nn = zs.length) (hc : nn ≤ c) (hm : c ≤ maxLen) (hr : ∀ z ∈ zs, 0 ≤ z ∧ z ≤ 255) (hA : Nums .u8 w A zs) :
    Calls Try.prog 10 #[.slice A nn c] w fun e w' => ∃ t : Int, e = .returned (.int .i64 t) ∧ -1 ≤ t ∧ t ≤ 4 ∧ Below w.heap.size w w' := by
  have HO := Lib.hid (open_any A nn c zs w hn hc hm hr hA)
  clear hn hc hm hr hA
  go_enter Try.func10, Try.ntmps10
  go_wp2_with fail
  refine HO.out.mono ?_
  rintro e w1 ⟨rfl, hrd, hb⟩
  have HR := Lib.hid hrd
  have HB := Lib.hid hb
  clear hrd hb
  go_wp2_with fail
  refine (pick_any _ 0 6 _ (by omega) (by omega) (by omega) HR.out).mono ?_
  rintro e w2 ⟨t, rfl, ht0, ht1, hr, hg⟩
  have ht2 := ht1 (by omega)
  have HB2 := Lib.hid (below_grown HB.out hg HB.out.size (Nat.le_refl _))
  clear hg hr ht1
  go_wp2_with fail
  go_ret
  exact ⟨t - 1, rfl, by omega, by omega, HB2.out⟩
theorem lSameTextsN (w : World) : Calls Try.prog 47 #[.slice none 0 0, .slice none 0 0] w fun e w' => e = .returned (.bool true) ∧ w = w' := by
  go_enter Try.func47, Try.ntmps47
  go_wp2_with fail
  refine wp_loop_rounds 1 ?_
  rw [rounds_succ]
  go_wp2_with fail
  go_ret
  exact ⟨rfl, rfl⟩
set_option maxRecDepth 100000 in
theorem lSameStateN (k : Int) (w : World) : Calls Try.prog 28 #[.agg #[.int .i64 k, .slice none 0 0], .agg #[.int .i64 k, .slice none 0 0]] w fun e w' => e = .returned (.bool true) ∧ Below w.heap.size w w' := by
  have hd : (k == k) = true := by simp
  have hb : Below w.heap.size w ((w.alloc (.cells #[.int .i64 k, .slice none 0 0] 25)).alloc (.cells #[.int .i64 k, .slice none 0 0] 25)) := ((Below.refl _ _).alloc (Nat.le_refl _) _).alloc (by rw [World.size_alloc]; omega) _
  have HB := Lib.hid hb
  clear hb
  go_enter Try.func28, Try.ntmps28
  go_wp2_with fail
  refine (lSameTextsN _).mono ?_
  rintro e w' ⟨rfl, rfl⟩
  go_wp2_with fail
  go_ret
  exact ⟨rfl, HB.out⟩
set_option maxRecDepth 100000 in
theorem lSameTalkN (t k : Int) (w : World) : Calls Try.prog 12 #[.agg #[.int .i64 t, .int .i64 k, .slice none 0 0, .slice none 0 0], .agg #[.int .i64 t, .int .i64 k, .slice none 0 0, .slice none 0 0]] w fun e w' => e = .returned (.bool true) ∧ Below w.heap.size w w' := by
  have hd : (t != t) = false := by simp
  obtain ⟨HX, HB⟩ := talk_box w t k
  obtain ⟨HY, HC⟩ := talk_box (w.alloc (.cells #[.int .i64 t, .int .i64 k, .slice none 0 0, .slice none 0 0] 28)) t k
  rw [World.size_alloc] at HY
  replace HB := Lib.hid (bel_trans HB.out HC.out)
  clear HC
  go_enter Try.func12, Try.ntmps12
  go_wp2_with fail
  refine wp_loop_rounds 1 ?_
  rw [rounds_succ]
  go_wp2_with fail
  refine (lSameStateN k _).mono ?_
  rintro e w1 ⟨rfl, hb⟩
  replace HB := Lib.hid (bel_trans HB.out hb)
  clear hb hd
  go_wp2_with fail
  go_ret
  exact ⟨rfl, HB.out⟩
set_option maxRecDepth 100000 in
theorem lNoTalkN (w : World) : Calls Try.prog 14 #[.agg #[.int .i64 0, .int .i64 0, .slice none 0 0, .slice none 0 0]] w fun e w' => e = .returned (.bool true) ∧ Below w.heap.size w w' := by
  obtain ⟨HX, HB⟩ := talk_box w 0 0
  go_enter Try.func14, Try.ntmps14
  go_wp2_with fail
  refine (lSameTalkN 0 0 _).mono ?_
  rintro e w1 ⟨rfl, hb⟩
  replace HB := Lib.hid (bel_trans HB.out hb)
  clear hb
  go_wp2_with fail
  go_ret
  exact ⟨rfl, HB.out⟩
set_option maxRecDepth 100000 in
theorem iTalkOkNew {t : Int} (h1 : 1 ≤ t) (h3 : t ≤ 3) (w : World) : Calls Try.prog 7 #[.agg #[.int .i64 t, .int .i64 (allOf t), .slice none 0 0, .slice none 0 0]] w fun e w' => e = .returned (.bool true) ∧ Below w.heap.size w w' := by
  have hk := new_ok h1 h3
  rw [show newT t = ⟨t, ⟨allOf t, []⟩, []⟩ by unfold newT; rw [if_pos ⟨h1, h3⟩]] at hk
  have := iTalkOk ⟨t, ⟨allOf t, []⟩, []⟩ none none 0 0 0 0 w ⟨rfl, Nat.le_refl _, Nat.zero_le _, Strs.nil _ _, rfl, Nat.le_refl _, Nat.zero_le _, StaRow.nil _ _⟩ ⟨Nat.zero_le _, Nat.zero_le _, (fun s h => nomatch h), (fun x h => nomatch h)⟩
  rw [hk.1] at this
  exact this
set_option maxRecDepth 100000 in
set_option maxHeartbeats 4000000 in
theorem wTalkNew (A : Option Addr) (nn c : Nat) (zs : List Int) (w : World) (hn : nn = zs.length) (hc : nn ≤ c) (hm : c ≤ maxLen) (hr : ∀ z ∈ zs, 0 ≤ z ∧ z ≤ 255) (hA : Nums .u8 w A zs) :
    Calls Try.prog 4 #[.slice A nn c] w fun e w' => e = .returned (.bool true) ∧ Below w.heap.size w w' := by
  have HO := Lib.hid (drawTalkNew_any A nn c zs w hn hc hm hr hA)
  have hm' : nn ≤ 9223372036854775807 := by unfold maxLen at hm; omega
  clear hn hc hm hr hA
  by_cases hl : 1048576 < nn
  · have hd : decide ((1048576 : Int) < (nn : Int)) = true := by simp; omega
    go_enter Try.func4, Try.ntmps4
    go_wp2_with fail
    go_ret
    exact ⟨rfl, Below.refl _ _⟩
  have hd : decide ((1048576 : Int) < (nn : Int)) = false := by simp; omega
  clear hl
  go_enter Try.func4, Try.ntmps4
  go_wp2_with fail
  refine HO.out.mono ?_
  rintro e w1 ⟨t, rfl, ht0, ht1, hb⟩
  have HB := Lib.hid hb
  clear hb hd
  go_wp2_with fail
  refine (iTalkNew t _).mono ?_
  rintro e w2 ⟨rfl, hb⟩
  have HST : Hid (∀ W : World, Calls Try.prog 13 #[.int .i64 t] W fun e w' => e = .returned (.agg #[.int .i64 (newN t), .int .i64 (newK t), .slice none 0 0, .slice none 0 0]) ∧ Below W.heap.size W w') := fun W => sTalkNew t W
  have HNK : Hid (∃ x k, newN t = x ∧ newK t = k ∧ (1 ≤ t → t ≤ 3 → x = t ∧ k = allOf t) ∧ ((t < 1 ∨ 3 < t) → x = 0 ∧ k = 0)) := ⟨_, _, rfl, rfl, fun h1 h3 => ⟨if_pos ⟨h1, h3⟩, if_pos ⟨h1, h3⟩⟩, fun h => ⟨if_neg (by omega), if_neg (by omega)⟩⟩
  obtain ⟨x, k, hx, hk, hin, hout⟩ := HNK.out
  rw [hx, hk] at HST ⊢
  have HSM : Hid (∀ W : World, Calls Try.prog 12 #[.agg #[.int .i64 x, .int .i64 k, .slice none 0 0, .slice none 0 0], .agg #[.int .i64 x, .int .i64 k, .slice none 0 0, .slice none 0 0]] W fun e w' => e = .returned (.bool true) ∧ Below W.heap.size W w') := fun W => lSameTalkN x k W
  have HIN := Lib.hid hin
  have HOUT := Lib.hid hout
  have HX : Hid (Box (w2.alloc (.cells #[.int .i64 x, .int .i64 k, .slice none 0 0, .slice none 0 0] 28)) w2.heap.size 28 [.int .i64 x, .int .i64 k, .slice none 0 0, .slice none 0 0]) := (talk_box w2 x k).1
  replace HB := Lib.hid ((bel_trans HB.out hb).alloc (bel_trans HB.out hb).size (.cells #[.int .i64 x, .int .i64 k, .slice none 0 0, .slice none 0 0] 28))
  clear hb HNK hx hk hin hout
  have hc0 := HX.out.cell (i := 0) (v := .int .i64 x) rfl
  have hc1 := HX.out.cell (i := 1) (v := .int .i64 k) rfl
  have hc2 := HX.out.cell (i := 2) (v := .slice none 0 0) rfl
  have hc3 := HX.out.cell (i := 3) (v := .slice none 0 0) rfl
  go_wp2_with fail
  go_region_held3 (fun w' => w'.cell? ⟨w2.heap.size, 0, none⟩ = some (.int .i64 x) ∧ w'.cell? ⟨w2.heap.size, 1, none⟩ = some (.int .i64 k) ∧ w'.cell? ⟨w2.heap.size, 2, none⟩ = some (.slice none 0 0) ∧ w'.cell? ⟨w2.heap.size, 3, none⟩ = some (.slice none 0 0))
    (first | exact HK2.out | exact HK1.out | exact ⟨hc0, hc1, hc2, hc3⟩ | go_keep)
    (first
      | (go_at_call 13; refine (HST.out _).mono ?_; rintro e w3 ⟨rfl, hb⟩; have HX1 := Lib.hid (Box.below (Box.drew HX.out) hb); have HB1 := Lib.hid (bel_trans (bel_drewN HB.out 1) hb); have HK1 := Lib.hid (And.intro (HX1.out.cell (i := 0) (v := .int .i64 x) rfl) (And.intro (HX1.out.cell (i := 1) (v := .int .i64 k) rfl) (And.intro (HX1.out.cell (i := 2) (v := .slice none 0 0) rfl) (HX1.out.cell (i := 3) (v := .slice none 0 0) rfl)))); clear hb)
      | (go_at_call 12; refine (HSM.out _).mono ?_; rintro e w4 ⟨rfl, hb⟩; have HX2 := Lib.hid (HX1.out.below hb); have HB2 := Lib.hid (bel_trans HB1.out hb); have HK2 := Lib.hid (And.intro (HX2.out.cell (i := 0) (v := .int .i64 x) rfl) (And.intro (HX2.out.cell (i := 1) (v := .int .i64 k) rfl) (And.intro (HX2.out.cell (i := 2) (v := .slice none 0 0) rfl) (HX2.out.cell (i := 3) (v := .slice none 0 0) rfl)))); clear hb))
  all_goals
    clear hc0 hc1 hc2 hc3
    obtain ⟨hc0, hc1, hc2, hc3⟩ := HK2.out
    by_cases h1 : t < 1
    · have hd1 : decide (t < 1) = true := decide_eq_true h1
      obtain ⟨rfl, rfl⟩ := HOUT.out (.inl h1)
      clear h1
      go_wp2_with fail
      refine (lNoTalkN _).mono ?_
      rintro e w5 ⟨rfl, hb⟩
      replace HB := Lib.hid (bel_trans HB2.out hb)
      clear hb hc0 hc1 hc2 hc3
      go_wp2_with fail
      refine (lAlive _).mono ?_
      rintro e w' ⟨rfl, rfl⟩
      go_wp2_with fail
      go_ret
      exact ⟨rfl, HB.out⟩
    have hd1 : decide (t < 1) = false := decide_eq_false h1
    by_cases h3 : 3 < t
    · have hd3 : decide (3 < t) = true := decide_eq_true h3
      obtain ⟨rfl, rfl⟩ := HOUT.out (.inr h3)
      clear h1 h3
      go_wp2_with fail
      refine (lNoTalkN _).mono ?_
      rintro e w5 ⟨rfl, hb⟩
      replace HB := Lib.hid (bel_trans HB2.out hb)
      clear hb hc0 hc1 hc2 hc3
      go_wp2_with fail
      refine (lAlive _).mono ?_
      rintro e w' ⟨rfl, rfl⟩
      go_wp2_with fail
      go_ret
      exact ⟨rfl, HB.out⟩
    have hd3 : decide (3 < t) = false := decide_eq_false h3
    obtain ⟨rfl, hk⟩ := HIN.out (by omega) (by omega)
    have HTO : Hid (∀ W : World, Calls Try.prog 7 #[.agg #[.int .i64 x, .int .i64 (allOf x), .slice none 0 0, .slice none 0 0]] W fun e w' => e = .returned (.bool true) ∧ Below W.heap.size W w') := fun W => iTalkOkNew (by omega) (by omega) W
    have HWH : Hid (∀ W : World, Calls Try.prog 15 #[.int .i64 x] W fun e w' => e = .returned (.int .i64 (allOf x)) ∧ W = w') := fun W => lWhole x W (by omega) (by omega)
    rw [← hk] at HTO HWH
    have he : (k == k) = true := by simp
    clear h1 h3 hk HST HSM HIN HOUT HO hm'
    go_wp2_with fail
    go_region_held3 (fun w' => w'.cell? ⟨w2.heap.size, 0, none⟩ = some (.int .i64 x) ∧ w'.cell? ⟨w2.heap.size, 1, none⟩ = some (.int .i64 k) ∧ w'.cell? ⟨w2.heap.size, 2, none⟩ = some (.slice none 0 0) ∧ w'.cell? ⟨w2.heap.size, 3, none⟩ = some (.slice none 0 0))
      (first | exact HK4.out | exact HK3.out | exact HK2.out | go_keep)
      (first
        | (go_at_call 7; refine (HTO.out _).mono ?_; rintro e w5 ⟨rfl, hb⟩; have HX3 := Lib.hid (Box.below (Box.drew HX2.out) hb); have HB3 := Lib.hid (bel_trans (bel_drewN HB2.out 1) hb); have HK3 := Lib.hid (And.intro (HX3.out.cell (i := 0) (v := .int .i64 x) rfl) (And.intro (HX3.out.cell (i := 1) (v := .int .i64 k) rfl) (And.intro (HX3.out.cell (i := 2) (v := .slice none 0 0) rfl) (HX3.out.cell (i := 3) (v := .slice none 0 0) rfl)))); clear hb)
        | (go_at_call 15; refine (HWH.out _).mono ?_; rintro e w6 ⟨rfl, rfl⟩))
    all_goals
      go_wp2_with fail
      go_ret
      exact ⟨rfl, HB3.out⟩
end Go.Proofs.Ytmdogidflaplkaa
