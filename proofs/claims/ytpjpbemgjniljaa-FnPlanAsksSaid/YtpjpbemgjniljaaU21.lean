/-
  What the proofs of this seat's statements share (AskE).
-/
import Derived.Test.YtpjpbemgjniljaaU20
import Derived.Test.YtpjpbemgjniljaaU17
import Derived.Test.YtpjpbemgjniljaaU11

namespace Go.Proofs.Ytpjpbemgjniljaa
open Go.RowKit

def words7 : List ByteArray := [⟨#[]⟩, ⟨#[46]⟩, ⟨#[48, 40, 46, 46, 41]⟩, ⟨#[49]⟩, ⟨#[41]⟩]
theorem words7_size {x : ByteArray} (h : x ∈ words7) : x.size ≤ 5 := by
  simp only [words7, List.mem_cons, List.not_mem_nil, or_false] at h
  rcases h with rfl | rfl | rfl | rfl | rfl <;> decide
theorem lit_here7 {k : Int} (h0 : 0 ≤ k) (hk : k < 5) : ∃ x : ByteArray, x ∈ words7 ∧ ∀ h, [Value.string ⟨#[]⟩, .string ⟨#[46]⟩, .string ⟨#[48, 40, 46, 46, 41]⟩, .string ⟨#[49]⟩, .string ⟨#[41]⟩][k.toNat]'h = .string x := by
  have h5 : k = 0 ∨ k = 1 ∨ k = 2 ∨ k = 3 ∨ k = 4 := by omega
  rcases h5 with rfl | rfl | rfl | rfl | rfl
  · exact ⟨_, List.mem_cons_self, fun _ => rfl⟩
  · exact ⟨_, List.mem_cons_of_mem _ List.mem_cons_self, fun _ => rfl⟩
  · exact ⟨_, List.mem_cons_of_mem _ (List.mem_cons_of_mem _ List.mem_cons_self), fun _ => rfl⟩
  · exact ⟨_, List.mem_cons_of_mem _ (List.mem_cons_of_mem _ (List.mem_cons_of_mem _ List.mem_cons_self)), fun _ => rfl⟩
  · exact ⟨_, List.mem_cons_of_mem _ (List.mem_cons_of_mem _ (List.mem_cons_of_mem _ (List.mem_cons_of_mem _ List.mem_cons_self))), fun _ => rfl⟩
theorem own_last {w4 w' : World} {base g : Nat} {v : Value} {xs : List Int} {o : Obj} (h : Owns w4 base v xs) (hg : (w4.alloc o).drew.grownBy w' (some g)) (hb : g < base) : Owns w' base v xs :=
  owns_grown (h.below ((Below.refl _ w4).alloc (Nat.le_refl _) o)) ((grown_drewN (World.grownBy.refl _ _) 1).trans hg) hb
theorem own_last2 {w4 w' : World} {base g : Nat} {v : Value} {xs : List Int} (h : Owns w4 base v xs) (hg : w4.drew.grownBy w' (some g)) (hb : g < base) (o : Obj) : Owns (w'.alloc o) base v xs :=
  (owns_grown h ((grown_drewN (World.grownBy.refl _ _) 1).trans hg) hb).below ((Below.refl _ w').alloc (Nat.le_refl _) o)
theorem sPlanFor_any (t : Int) (A B : Option Addr) (na ca nb cb : Nat) (asks issue : List Int) (u : Int) (w : World) (ha : Row w A na ca asks) (hb : Row w B nb cb issue) :
    Calls Try.prog 57 #[.int .i64 t, .slice A na ca, .slice B nb cb, .int .i64 u] w fun e w' => ∃ (b : ByteArray) (ok : Bool), e = .returned (.tuple #[.string b, .bool ok]) ∧ b.size ≤ 256 ∧ Below w.heap.size w w' := by
  refine (sPlanFor t A B na ca nb cb asks issue u w ha hb).mono ?_
  intro e w' h
  unfold planForB at h
  by_cases h0 : 0 ≤ asksNeededI t asks issue u
  · rw [if_pos h0] at h
    exact ⟨_, true, h.1, planI_size (by omega) u, h.2⟩
  · rw [if_neg h0] at h
    exact ⟨_, false, h.1, by decide, h.2⟩
def PlanDPost (g u : Nat) (w : World) (e : Ending) (w' : World) : Prop :=
  ∃ (t : Int) (v : Value) (xs : List Int) (v2 : Value) (ys : List Int) (s : Int) (b : ByteArray), e = .returned (.tuple #[.int .i64 t, v, v2, .int .i64 s, .string b]) ∧ -1 ≤ t ∧ t ≤ 4 ∧ Owns w' w.heap.size v xs ∧ xs.length ≤ 6 ∧ Owns w' w.heap.size v2 ys ∧ ys.length ≤ 257 ∧ -1 ≤ s ∧ s ≤ 256 ∧ b.size ≤ 600 ∧ Rd w' g u ∧ w.grownBy w' (some g)
set_option maxRecDepth 100000 in
set_option maxHeartbeats 8000000 in
theorem planned_any (g u : Nat) (w : World) (hu : u ≤ 400000) (hR : Rd w g u) :
    Calls Try.prog 35 #[.pointer (some ⟨g, 0, none⟩)] w (PlanDPost g (u + 340) w) := by
  have HR := Lib.hid hR
  have HLT := Lib.hid hR.lt
  have hlt0 := hR.lt
  clear hR
  go_enter Try.func35, Try.ntmps35
  go_wp2_with fail
  refine (task_any g u _ _ (by omega) (by omega) (by omega) HR.out).mono ?_
  rintro e w1 ⟨t, v, xs, v2, ys, s, rfl, ht0, ht1, ho1, hlx, ho2, hly, hs0, hs1, hr, hg⟩
  have HR1 := Lib.hid hr
  have HG1 := Lib.hid hg
  have HO1 := Lib.hid ho1
  have HI1 := Lib.hid ho2
  obtain ⟨A1, c1, rfl, _, _, _, _⟩ := ho1.form
  obtain ⟨A2, c2, rfl, _, _, _, _⟩ := ho2.form
  have HRA := Lib.hid (Owns.row ho1 (by omega))
  have HRB := Lib.hid (Owns.row ho2 (by omega))
  clear hr hg ho1 ho2
  go_wp2_with fail
  refine (sPlanFor_any t _ _ _ _ _ _ xs ys s _ HRA.out HRB.out).mono ?_
  rintro e w2 ⟨b, ok, rfl, hbs, hb⟩
  have HR2 := Lib.hid (HR1.out.below hb)
  have HG2 := Lib.hid (grown_below HG1.out hb)
  have HO2 := Lib.hid (HO1.out.below hb)
  have HI2 := Lib.hid (HI1.out.below hb)
  clear hb
  go_wp2_with fail
  refine (odd_any g _ _ _ (by omega) (by omega) (by omega) HR2.out).mono ?_
  rintro e w3 ⟨bo, rfl, hr, hg⟩
  have HR3 := Lib.hid hr
  have HG3 := Lib.hid (HG2.out.trans hg)
  have HO3 := Lib.hid (owns_grown HO2.out hg HLT.out)
  have HI3 := Lib.hid (owns_grown HI2.out hg HLT.out)
  clear hr hg
  cases bo
  · go_wp2_with fail
    try simp only [Exit.inBlock, Exit.then]
    refine bodyPost_ret (results_tmp5 rfl _ _ _) rfl ?_
    exact ⟨t, _, xs, _, ys, s, b, rfl, ht0, ht1, HO3.out, hlx, HI3.out, hly, hs0, hs1, by omega, HR3.out.more (by omega), HG3.out⟩
  · by_cases hz : b.size = 0
    · have hd : decide (0 < b.size) = false := decide_eq_false (by omega)
      have hd2 : ¬ 0 < b.size := by omega
      clear hz
      go_wp2_with fail
      try simp only [Exit.inBlock, Exit.then]
      refine bodyPost_ret (results_tmp5 rfl _ _ _) rfl ?_
      exact ⟨t, _, xs, _, ys, s, b, rfl, ht0, ht1, HO3.out, hlx, HI3.out, hly, hs0, hs1, by omega, HR3.out.more (by omega), HG3.out⟩
    · have hd : decide ((0 : Int) < (b.size : Int)) = true := decide_eq_true (by omega)
      go_wp2_with fail
      refine (pick_any g _ _ _ (by omega) (by omega) (by omega) HR3.out).mono ?_
      rintro e w4 ⟨k, rfl, hk0, hk1, hr, hg⟩
      have hkk := hk1 (by omega)
      have hlt4 : g < w4.heap.size := hr.lt
      have HR4 := Lib.hid hr
      have HG4 := Lib.hid (HG3.out.trans hg)
      have HO4 := Lib.hid (owns_grown HO3.out hg HLT.out)
      have HI4 := Lib.hid (owns_grown HI3.out hg HLT.out)
      clear hr hg hk1 hz hd
      obtain ⟨l, hl⟩ : ∃ l, k + 1 = l := ⟨_, rfl⟩
      obtain ⟨p1, hp1⟩ : ∃ p, b.extract 0 k.toNat = p := ⟨_, rfl⟩
      obtain ⟨p2, hp2⟩ : ∃ p, b.extract l.toNat b.size = p := ⟨_, rfl⟩
      have hE1 : p1.size ≤ 256 := by rw [← hp1, ByteArray.size_extract]; omega
      have hE2 : p2.size ≤ 256 := by rw [← hp2, ByteArray.size_extract]; omega
      have hks : k ≤ (b.size : Int) := by omega
      have hl1 : l ≤ (b.size : Int) := by omega
      have hl0 : 0 ≤ l := by omega
      have HRd := Lib.hid (pick_any g _ 5 w4.drew (by omega) (by omega) (by omega) (HR4.out.drewN 1))
      have HRa := Lib.hid (pick_any g _ 5 (w4.alloc (.cells #[.string ⟨#[]⟩, .string ⟨#[46]⟩, .string ⟨#[48, 40, 46, 46, 41]⟩, .string ⟨#[49]⟩, .string ⟨#[41]⟩] 9)).drew (by omega) (by omega) (by omega) ((HR4.out.alloc _).drewN 1))
      have hw : IntKind.i64.wrap (k + 1) = l := (IntWalk.i64_in _ (by omega)).trans hl
      clear hl
      go_upto_region 5 with fail
      go_region_with (first
        | (go_at_call 39; (with_reducible refine HRa.out.mono ?_); rintro e w5 ⟨k5, rfl, hk50, hk51, hr, hg⟩; have hk52 := hk51 (by omega); obtain ⟨x, HX, hcell⟩ := lit_drew words7 hg hlt4 hk50 (by simp [words7]; omega); have hx1 := words7_size HX; have HP := Lib.hid (text_last (u' := u + 340) HG4.out hr hg (by omega)); have HO5 := Lib.hid (own_last HO4.out hg HLT.out); have HI5 := Lib.hid (own_last HI4.out hg HLT.out); clear hr hg hk51 HX)
        | (go_at_call 39; (with_reducible refine HRd.out.mono ?_); rintro e w5 ⟨k5, rfl, hk50, hk51, hr, hg⟩; have hk52 := hk51 (by omega); obtain ⟨x, HX, hcell⟩ := lit_here7 hk50 hk52; have hx1 := words7_size HX; have HP := Lib.hid (text_last2 (u' := u + 340) HG4.out hr hg (by omega)); have HO5 := Lib.hid (own_last2 HO4.out hg HLT.out); have HI5 := Lib.hid (own_last2 HI4.out hg HLT.out); clear hr hg hk51 HX))
      all_goals
        clear HRd HRa hp1 hp2 hks hl1 hl0 hw
        go_wp2_with fail
        try simp only [Exit.inBlock, Exit.then]
        refine bodyPost_ret (results_tmp5 rfl _ _ _) rfl ?_
        refine ⟨t, _, xs, _, ys, s, _, rfl, ht0, ht1, by first | exact HO5.out | exact HO5.out _, hlx, by first | exact HI5.out | exact HI5.out _, hly, hs0, hs1, ?_, by first | exact HP.out | exact HP.out _⟩
        rw [ByteArray.size_append, ByteArray.size_append]
        omega

def DrawT (w : World) (e : Ending) (w' : World) : Prop :=
  ∃ (t : Int) (v : Value) (xs : List Int) (v2 : Value) (ys : List Int) (s : Int), e = .returned (.tuple #[.int .i64 t, v, v2, .int .i64 s]) ∧ -1 ≤ t ∧ t ≤ 4 ∧ Owns w' w.heap.size v xs ∧ xs.length ≤ 6 ∧ Owns w' w.heap.size v2 ys ∧ ys.length ≤ 257 ∧ -1 ≤ s ∧ s ≤ 256 ∧ Below w.heap.size w w'
def DrawTP (w : World) (e : Ending) (w' : World) : Prop :=
  ∃ (t : Int) (v : Value) (xs : List Int) (v2 : Value) (ys : List Int) (s : Int) (b : ByteArray), e = .returned (.tuple #[.int .i64 t, v, v2, .int .i64 s, .string b]) ∧ -1 ≤ t ∧ t ≤ 4 ∧ Owns w' w.heap.size v xs ∧ xs.length ≤ 6 ∧ Owns w' w.heap.size v2 ys ∧ ys.length ≤ 257 ∧ -1 ≤ s ∧ s ≤ 256 ∧ b.size ≤ 600 ∧ Below w.heap.size w w'
def DrawTPW (w : World) (e : Ending) (w' : World) : Prop :=
  ∃ (t : Int) (v : Value) (xs : List Int) (v2 : Value) (ys : List Int) (s : Int) (b : ByteArray) (x : Int), e = .returned (.tuple #[.int .i64 t, v, v2, .int .i64 s, .string b, .int .i64 x]) ∧ -1 ≤ t ∧ t ≤ 4 ∧ Owns w' w.heap.size v xs ∧ xs.length ≤ 6 ∧ Owns w' w.heap.size v2 ys ∧ ys.length ≤ 257 ∧ -1 ≤ s ∧ s ≤ 256 ∧ b.size ≤ 600 ∧ -1 ≤ x ∧ x ≤ 9 ∧ Below w.heap.size w w'
set_option maxHeartbeats 1000000 in
theorem drawAsksNeeded_any (A : Option Addr) (nn c : Nat) (zs : List Int) (w : World) (hn : nn = zs.length) (hc : nn ≤ c) (hm : c ≤ maxLen) (hr : ∀ z ∈ zs, 0 ≤ z ∧ z ≤ 255) (hA : Nums .u8 w A zs) :
    Calls Try.prog 9 #[.slice A nn c] w (DrawT w) := by
  have HO := Lib.hid (open_any A nn c zs w hn hc hm hr hA)
  clear hn hc hm hr hA
  go_enter Try.func9, Try.ntmps9
  go_wp2_with fail
  refine HO.out.mono ?_
  rintro e w1 ⟨rfl, hrd, hb⟩
  have HR := Lib.hid hrd
  have HB := Lib.hid hb
  clear hrd hb
  go_wp2_with fail
  refine (task_any _ 0 _ _ (by omega) (by omega) (by omega) HR.out).mono ?_
  rintro e w2 ⟨t, v, xs, v2, ys, s, rfl, ht0, ht1, ho1, hlx, ho2, hly, hs0, hs1, hr, hg⟩
  have HB2 := Lib.hid (below_grown HB.out hg HB.out.size (Nat.le_refl _))
  have HO1 := Lib.hid (ho1.base (base' := w.heap.size) HB.out.size)
  have HO2 := Lib.hid (ho2.base (base' := w.heap.size) HB.out.size)
  clear hg hr ho1 ho2
  go_wp2_with fail
  try simp only [Exit.inBlock, Exit.then]
  refine bodyPost_ret (results_tmp4 rfl _ _ _) rfl ?_
  exact ⟨t, _, xs, _, ys, s, rfl, ht0, ht1, HO1.out, hlx, HO2.out, hly, hs0, hs1, HB2.out⟩
set_option maxHeartbeats 1000000 in
theorem drawPlanAsks_any (A : Option Addr) (nn c : Nat) (zs : List Int) (w : World) (hn : nn = zs.length) (hc : nn ≤ c) (hm : c ≤ maxLen) (hr : ∀ z ∈ zs, 0 ≤ z ∧ z ≤ 255) (hA : Nums .u8 w A zs) :
    Calls Try.prog 16 #[.slice A nn c] w (DrawTP w) := by
  have HO := Lib.hid (open_any A nn c zs w hn hc hm hr hA)
  clear hn hc hm hr hA
  go_enter Try.func16, Try.ntmps16
  go_wp2_with fail
  refine HO.out.mono ?_
  rintro e w1 ⟨rfl, hrd, hb⟩
  have HR := Lib.hid hrd
  have HB := Lib.hid hb
  clear hrd hb
  go_wp2_with fail
  refine (planned_any _ 0 _ (by omega) HR.out).mono ?_
  rintro e w2 ⟨t, v, xs, v2, ys, s, b, rfl, ht0, ht1, ho1, hlx, ho2, hly, hs0, hs1, hbs, hr, hg⟩
  have HB2 := Lib.hid (below_grown HB.out hg HB.out.size (Nat.le_refl _))
  have HO1 := Lib.hid (ho1.base (base' := w.heap.size) HB.out.size)
  have HO2 := Lib.hid (ho2.base (base' := w.heap.size) HB.out.size)
  clear hg hr ho1 ho2
  go_wp2_with fail
  try simp only [Exit.inBlock, Exit.then]
  refine bodyPost_ret (results_tmp5 rfl _ _ _) rfl ?_
  exact ⟨t, _, xs, _, ys, s, b, rfl, ht0, ht1, HO1.out, hlx, HO2.out, hly, hs0, hs1, hbs, HB2.out⟩
set_option maxHeartbeats 1000000 in
theorem drawAnswersTo_any (A : Option Addr) (nn c : Nat) (zs : List Int) (w : World) (hn : nn = zs.length) (hc : nn ≤ c) (hm : c ≤ maxLen) (hr : ∀ z ∈ zs, 0 ≤ z ∧ z ≤ 255) (hA : Nums .u8 w A zs) :
    Calls Try.prog 19 #[.slice A nn c] w (DrawTPW w) := by
  have HO := Lib.hid (open_any A nn c zs w hn hc hm hr hA)
  clear hn hc hm hr hA
  go_enter Try.func19, Try.ntmps19
  go_wp2_with fail
  refine HO.out.mono ?_
  rintro e w1 ⟨rfl, hrd, hb⟩
  have HR := Lib.hid hrd
  have HB := Lib.hid hb
  have HLT := Lib.hid hrd.lt
  clear hrd hb
  go_wp2_with fail
  refine (planned_any _ 0 _ (by omega) HR.out).mono ?_
  rintro e w2 ⟨t, v, xs, v2, ys, s, b, rfl, ht0, ht1, ho1, hlx, ho2, hly, hs0, hs1, hbs, hr, hg⟩
  have HR2 := Lib.hid hr
  have HB2 := Lib.hid (below_grown HB.out hg HB.out.size (Nat.le_refl _))
  have hlt2 : w.heap.size < w1.heap.size := HLT.out
  have HO1 := Lib.hid ho1
  have HO2 := Lib.hid ho2
  clear hg hr ho1 ho2
  go_wp2_with fail
  refine (pick_any _ _ _ _ (by omega) (by omega) (by omega) HR2.out).mono ?_
  rintro e w3 ⟨k1, rfl, hk10, hk11, hr, hg⟩
  have hkk1 := hk11 (by omega)
  have HR3 := Lib.hid hr
  have HB3 := Lib.hid (below_grown HB2.out hg HB2.out.size (Nat.le_refl _))
  have HO1b := Lib.hid (owns_grown HO1.out hg hlt2)
  have HO2b := Lib.hid (owns_grown HO2.out hg hlt2)
  clear hr hg hk11
  go_wp2_with fail
  refine (pick_any _ _ _ _ (by omega) (by omega) (by omega) HR3.out).mono ?_
  rintro e w4 ⟨k2, rfl, hk20, hk21, hr, hg⟩
  have hkk2 := hk21 (by omega)
  have HB4 := Lib.hid (below_grown HB3.out hg HB3.out.size (Nat.le_refl _))
  have HO1c := Lib.hid ((owns_grown HO1b.out hg hlt2).base (base' := w.heap.size) (Nat.le_of_lt hlt2))
  have HO2c := Lib.hid ((owns_grown HO2b.out hg hlt2).base (base' := w.heap.size) (Nat.le_of_lt hlt2))
  clear hr hg hk21
  have hdv : k2.tdiv 19 = k2 / 19 := Int.tdiv_eq_ediv_of_nonneg hk20
  have hq0 : 0 ≤ k2 / 19 := by omega
  have hq1 : k2 / 19 ≤ 1 := by omega
  obtain ⟨dv, hdv2⟩ : ∃ d, k2 / 19 = d := ⟨_, rfl⟩
  rw [hdv2] at hdv hq0 hq1
  clear hdv2
  go_wp2_with fail
  try simp only [Exit.inBlock, Exit.then]
  refine bodyPost_ret (results_tmp6 rfl _ _ _) rfl ?_
  exact ⟨t, _, xs, _, ys, s, b, k1 - dv, rfl, ht0, ht1, HO1c.out, hlx, HO2c.out, hly, hs0, hs1, hbs, by omega, by omega, HB4.out⟩
end Go.Proofs.Ytpjpbemgjniljaa
