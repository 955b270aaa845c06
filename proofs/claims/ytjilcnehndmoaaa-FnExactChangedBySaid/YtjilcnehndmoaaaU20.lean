/-
  What the proofs of this seat's statements share (LdcH).
-/
import Derived.Deep.RegionHeld3
import Derived.IntWalk
import Derived.Test.YtjilcnehndmoaaaU19

namespace Go.Proofs.Ytjilcnehndmoaaa
open Go.RowKit

theorem wrap_pow8 {k : Nat} (h : k < 8) : wrap64 ((2 : Int) ^ k) = ((2 ^ k : Nat) : Int) := by
  have : 2 ^ k ≤ 2 ^ 7 := Nat.pow_le_pow_right (by omega) (by omega)
  have e : (2 : Int) ^ k = ((2 ^ k : Nat) : Int) := by push_cast; rfl
  rw [e]
  obtain ⟨p, hp⟩ : ∃ p, 2 ^ k = p := ⟨_, rfl⟩
  rw [hp] at this ⊢
  exact IntWalk.wrap64_in _ ⟨by omega, by omega⟩
theorem wrap_pow8i {k : Nat} (h : k < 8) : IntKind.i64.wrap ((2 : Int) ^ k) = (2 : Int) ^ k := (IntWalk.i64_left _).trans ((wrap_pow8 h).trans (by simp))
theorem set_skip8 {p : Nat → Bool} {k : Nat} (h : p k = false) : setOfW p k = setOfW p (k + 1) := by
  conv => rhs; unfold setOfW
  rw [if_neg (by rw [h]; decide)]; rfl
theorem set_or8 {p : Nat → Bool} {k : Nat} (h : p k = true) : setOfW p k ||| 2 ^ k = setOfW p (k + 1) := by
  have := setOfW_lt p k
  conv => rhs; unfold setOfW
  have e := Nat.two_pow_add_eq_or_of_lt this 1
  rw [Nat.mul_one] at e
  rw [if_pos h, Nat.or_comm, ← e, Nat.add_comm]
/-- One world more. -/
theorem bits_next {p : Nat → Bool} {k : Nat} (hk : k < 8) (b : Bool) (hb : p k = b) : bits .or .i64 (setOfW p k : Int) (if b = true then ((2 ^ k : Nat) : Int) else 0) = (setOfW p (k + 1) : Int) := by
  have hlt := setOfW_lt p k
  have h2 : 2 ^ k ≤ 2 ^ 7 := Nat.pow_le_pow_right (by omega) (by omega)
  cases b
  · rw [if_neg (by decide), bits_or _ _ (by omega) (by omega) (by omega) (by omega), ← set_skip8 hb]
    show ((setOfW p k ||| 0 : Nat) : Int) = _
    rw [Nat.or_zero]
  · rw [if_pos rfl, bits_or _ _ (by omega) (by omega) (by omega) (by omega)]
    show ((setOfW p k ||| 2 ^ k : Nat) : Int) = _
    rw [set_or8 hb]
def WbwPost (a b : Int) (w : World) (e : Ending) (w' : World) : Prop := e = .returned (.tuple #[.int .i64 a, .int .i64 b]) ∧ Below w.heap.size w w'
theorem WbwPost.of {a b a' b' : Int} {w w' : World} (h : Below w.heap.size w w') (ha : a' = a) (hb : b' = b) : WbwPost a b w (.returned (.tuple #[.int .i64 a', .int .i64 b'])) w' := by subst ha hb; exact ⟨rfl, h⟩

set_option maxRecDepth 100000 in
set_option maxHeartbeats 8000000 in
theorem iWorldByWorld (t : Int) (s : ByteArray) (w : World) (hs : s.size ≤ 9223372036854775807) :
    Calls Try.prog 45 #[.int .i64 t, .string s] w (WbwPost (neededT t s) (leftT t s) w) := by
  rcases hx : ldT t s with _ | x
  · have HX := Lib.hid hx
    have HC : Hid (-1 = neededT t s ∧ -1 = leftT t s) := by unfold Hid neededT leftT; rw [hx]; exact ⟨rfl, rfl⟩
    clear hx
    go_enter Try.func45, Try.ntmps45
    go_wp2_with fail
    refine (iLRead_none HX _ hs).mono ?_
    rintro e w1 ⟨rfl, hb⟩
    have HB := Lib.hid (hb.alloc hb.size (.cells #[.nilFunc] 43))
    clear hb
    go_wp2_with fail
    go_ret2
    exact WbwPost.of HB.out HC.out.1 HC.out.2
  · have HX := Lib.hid hx
    obtain ⟨h1, h3, _, hok, _⟩ := ldT_ok hx
    obtain ⟨hw, hw8⟩ := worlds_n h1 h3
    have HW := Lib.hid hw
    obtain ⟨n, HNW⟩ : ∃ n, Hid (nWorlds t = n) := ⟨_, rfl⟩
    have HC : Hid ((setOfW (needW t x) n : Int) = neededT t s ∧ (setOfW (fun w => needW t x w && leftW t x w) n : Int) = leftT t s) := by
      unfold Hid neededT leftT; rw [hx, ← HNW.out]; exact ⟨rfl, rfl⟩
    have HWN : Hid (worldsOf t = (n : Int)) := by unfold Hid; rw [HW.out, HNW.out]
    have hw8 : n ≤ 8 := by rw [← HNW.out]; exact hw8
    have HCH : Hid (∀ k, k < n → ((2 ^ k : Nat) : Int) ≤ allOf t ∧ chgI t x ((2 ^ k : Nat) : Int) = if needW t x k = true then some (if leftW t x k = true then ((2 ^ k : Nat) : Int) else 0) else none) := fun k hk => by
      have hk2 : k < nWorlds t := by rw [HNW.out]; exact hk
      exact ⟨(world_ok h1 h3 hk2).2, chg_world h1 h3 x hk2⟩
    clear hx hw HW HNW
    go_enter Try.func45, Try.ntmps45
    go_wp2_with fail
    refine (iLRead_some HX _ hs).mono ?_
    rintro e w1 ⟨v, rfl, hn, hb⟩
    have hrun := (hn.below ((Below.refl _ _).alloc (Nat.le_refl _) (.cells #[v] 43)))
    obtain ⟨g, cap, rfl⟩ := hn.form
    obtain ⟨W, hW⟩ : ∃ W, w1.alloc (.cells #[.func (.func g) #[] cap] 43) = W := ⟨_, rfl⟩
    rw [hW] at hrun
    have HG : Hid (∀ X : World, X.heap = W.heap → Enters Try.prog g ∧ ∀ s, 0 ≤ s → s ≤ allOf t → Calls Try.prog g (#[.int .i64 s] ++ cap) X (ChgPost (chgI t x s) X)) := fun X hX => by
      obtain ⟨g', cap', e, hg, hc⟩ := (hrun.keep (w' := X) (by rw [hX]; exact Nat.le_refl _) (fun b _ _ => by rw [hX])).runs
      cases e
      exact ⟨hg, hc⟩
    have hg : ∀ (args : Array Value) (w : World), (callFunc g args).run Try.prog w = .ok (.enter g args) w := (HG.out W rfl).1
    have HB : Hid (Below w.heap.size w W) := by rw [← hW]; exact hb.alloc hb.size _
    have hcell : W.cell? ⟨w1.heap.size, 0, none⟩ = some (.func (.func g) #[] cap) := by rw [← hW]; exact (Boxed.new w1 43 (.func (.func g) #[] cap)).cell
    have HW := Lib.hid hW
    clear hb hn hrun hW
    go_wp2_with (go_at_call 40; refine (iWorldsOf _ _).mono ?_; rintro e w' ⟨rfl, rfl⟩)
    rw [HW.out, HWN.out]
    go_loopw [4, 5, 21] (fun a b i wr => ∃ k q : Nat, k ≤ n ∧ i = .int .i64 k ∧ a = .int .i64 (setOfW (needW t x) k) ∧ b = .int .i64 (setOfW (fun w => needW t x w && leftW t x w) k) ∧ wr = W.drewN q) (fun _ _ i _ => n - (Go.RowKit.intOf i).toNat)
    case atStart => exact ⟨0, 0, Nat.zero_le _, rfl, rfl, rfl, rfl⟩
    case round =>
      obtain ⟨k, q, hk, rfl, rfl, rfl, rfl⟩ := hrel
      by_cases hlt : k < n
      · have HLT := Lib.hid hlt
        have hlti : (k : Int) < (n : Int) := by omega
        obtain ⟨hka, hkc⟩ := HCH.out k hlt
        have hk8 : k < 8 := by omega
        have hx6d : (W.drewN q).drew.cell? ⟨w1.heap.size, 0, none⟩ = some (.func (.func g) #[] cap) := hcell
        have HCL := Lib.hid ((HG.out (W.drewN q).drew rfl).2 ((2 ^ k : Nat) : Int) (Int.natCast_nonneg _) hka)
        have HWR2 := wrap_pow8i hk8
        obtain ⟨p, HPP⟩ : ∃ p : Int, Hid (((2 ^ k : Nat) : Int) = p) := ⟨_, rfl⟩
        have hpp : (2 : Int) ^ k = p := by rw [← HPP.out]; simp
        rw [hpp] at HWR2
        rw [HPP.out] at hkc HCL
        have HWP : Hid (wrap64 ((2 : Int) ^ k) = p) := (wrap_pow8 hk8).trans HPP.out
        have HQ : Hid ((W.drewN q).drew = W.drewN (q + 1)) := rfl
        rcases hN : needW t x k with _ | _
        · rw [hN, if_neg (by decide)] at hkc
          have HCALL := Lib.hid (chg_no hkc HCL.out)
          have HS1 := Lib.hid (set_skip8 hN)
          have HS2 := Lib.hid (set_skip8 (p := fun w => needW t x w && leftW t x w) (show (needW t x k && leftW t x k) = false by rw [hN]; rfl))
          clear hN hkc hka HCL hk hlt hw8
          go_wp2_with fail
          refine wp_region_held_drew (S := fun X => X = (W.drewN q).drew) (by kernel_rfl) rfl (fun hS0 => ?_)
          clear hS0
          refine wpAnyH_take (i := 0) (v := .pointer (some ⟨w1.heap.size, 0, none⟩)) rfl (by kernel_rfl) (by kernel_rfl) (by kernel_rfl) (fun _ _ _ h => h) (Or.inl ⟨by rfl, fun w _ => by rfl⟩) rfl ?_
          simp only [List.getElem_toArray, List.getElem_cons_zero, Act.put, List.setIfInBounds_toArray, List.set_cons_zero, List.set_cons_succ]
          refine wpAnyH_take (i := 1) (v := .func (.func g) #[] cap) rfl (by kernel_rfl) (by kernel_rfl) (by kernel_rfl) (fun _ _ _ h => h) (Or.inl ⟨by rfl, fun w hw => by subst hw; simp [go_sem, hcell]⟩) rfl ?_
          simp only [List.getElem_toArray, List.getElem_cons_succ, List.getElem_cons_zero, Act.put, List.setIfInBounds_toArray, List.set_cons_zero, List.set_cons_succ]
          refine wpAnyH_take (i := 2) (v := .int .i64 k) rfl (by kernel_rfl) (by kernel_rfl) (by kernel_rfl) (fun _ _ _ h => h) (Or.inl ⟨by rfl, fun w _ => by rfl⟩) rfl ?_
          simp only [List.getElem_toArray, List.getElem_cons_succ, List.getElem_cons_zero, Act.put, List.setIfInBounds_toArray, List.set_cons_zero, List.set_cons_succ]
          refine wpAnyH_take (i := 3) (v := .int .i64 p) rfl (by kernel_rfl) (by kernel_rfl) (by kernel_rfl) (fun _ _ _ h => h) (Or.inl ⟨by rfl, fun w _ => by simp [go_sem, hpp, HWR2]⟩) rfl ?_
          simp only [List.getElem_toArray, List.getElem_cons_succ, List.getElem_cons_zero, Act.put, List.setIfInBounds_toArray, List.set_cons_zero, List.set_cons_succ]
          refine wpAnyH_ready (rs := [4]) (by kernel_rfl) (by simp) ?_
          refine AllReadyH.cons rfl (fun K hK => ?_) AllReadyH.nil
          go_simp
          go_at_fn g
          refine HCALL.out.mono ?_
          rintro e w' ⟨⟨u, rfl⟩, rfl⟩
          try go_simp
          refine hK.out _ _ rfl (fun hS1 => ?_)
          clear hK K hS1
          try simp only [List.getElem_toArray, List.getElem_cons_succ, List.getElem_cons_zero, Act.put, List.setIfInBounds_toArray, List.set_cons_zero, List.set_cons_succ]
          refine wpAnyH_take (i := 5) (v := .tuple #[.int .i64 u, .bool false]) rfl (by kernel_rfl) (by kernel_rfl) (by kernel_rfl) (fun _ _ _ h => h) (Or.inl ⟨by rfl, fun w _ => by rfl⟩) rfl ?_
          simp only [List.getElem_toArray, List.getElem_cons_succ, List.getElem_cons_zero, Act.put, List.setIfInBounds_toArray, List.set_cons_zero, List.set_cons_succ]
          refine wpAnyH_take (i := 6) (v := .int .i64 u) rfl (by kernel_rfl) (by kernel_rfl) (by kernel_rfl) (fun _ _ _ h => h) (Or.inl ⟨by rfl, fun w _ => by rfl⟩) rfl ?_
          simp only [List.getElem_toArray, List.getElem_cons_succ, List.getElem_cons_zero, Act.put, List.setIfInBounds_toArray, List.set_cons_zero, List.set_cons_succ]
          refine wpAnyH_take (i := 7) (v := .bool false) rfl (by kernel_rfl) (by kernel_rfl) (by kernel_rfl) (fun _ _ _ h => h) (Or.inl ⟨by rfl, fun w _ => by rfl⟩) rfl ?_
          simp only [List.getElem_toArray, List.getElem_cons_succ, List.getElem_cons_zero, Act.put, List.setIfInBounds_toArray, List.set_cons_zero, List.set_cons_succ]
          refine wpAnyH_take (i := 8) (v := .int .i64 u) rfl (by kernel_rfl) (by kernel_rfl) (by kernel_rfl) (fun _ _ _ h => h) (Or.inl ⟨by rfl, fun w _ => by rfl⟩) rfl ?_
          simp only [List.getElem_toArray, List.getElem_cons_succ, List.getElem_cons_zero, Act.put, List.setIfInBounds_toArray, List.set_cons_zero, List.set_cons_succ]
          refine wpAnyH_take (i := 9) (v := .bool false) rfl (by kernel_rfl) (by kernel_rfl) (by kernel_rfl) (fun _ _ _ h => h) (Or.inl ⟨by rfl, fun w _ => by rfl⟩) rfl ?_
          simp only [List.getElem_toArray, List.getElem_cons_succ, List.getElem_cons_zero, Act.put, List.setIfInBounds_toArray, List.set_cons_zero, List.set_cons_succ]
          refine wpAnyH_done (by kernel_rfl) ?_ _
          clear hpp HWR2 hx6d
          go_wp2_with fail
          go_roundw
          case rel => exact ⟨k + 1, q + 1, HLT.out, by go_num, by rw [HS1.out], by rw [HS2.out], HQ.out⟩
          case measure => have := HLT.out; simp [Go.RowKit.intOf]; omega
        · rw [hN, if_pos rfl] at hkc
          have hkp : 2 ^ k ≤ 2 ^ 7 := Nat.pow_le_pow_right (by omega) (by omega)
          have hn1 := setOfW_lt (needW t x) k
          have hn2 := setOfW_lt (fun w => needW t x w && leftW t x w) k
          have HO1 : Hid (bits .or .i64 (setOfW (needW t x) k : Int) p = (setOfW (needW t x) (k + 1) : Int)) := by
            rw [← HPP.out]; exact bits_next hk8 true hN
          rcases hL : leftW t x k with _ | _
          · rw [hL, if_neg (by decide)] at hkc
            have HO2 : Hid (bits .or .i64 (setOfW (fun w => needW t x w && leftW t x w) k : Int) 0 = (setOfW (fun w => needW t x w && leftW t x w) (k + 1) : Int)) := bits_next hk8 false (by rw [hN, hL]; rfl)
            have HCALL := Lib.hid (chg_yes hkc HCL.out)
            clear hN hL hkc hka HCL hk hlt hw8 hkp hn1 hn2
            go_wp2_with fail
            refine wp_region_held_drew (S := fun X => X = (W.drewN q).drew) (by kernel_rfl) rfl (fun hS0 => ?_)
            clear hS0
            refine wpAnyH_take (i := 0) (v := .pointer (some ⟨w1.heap.size, 0, none⟩)) rfl (by kernel_rfl) (by kernel_rfl) (by kernel_rfl) (fun _ _ _ h => h) (Or.inl ⟨by rfl, fun w _ => by rfl⟩) rfl ?_
            simp only [List.getElem_toArray, List.getElem_cons_zero, Act.put, List.setIfInBounds_toArray, List.set_cons_zero, List.set_cons_succ]
            refine wpAnyH_take (i := 1) (v := .func (.func g) #[] cap) rfl (by kernel_rfl) (by kernel_rfl) (by kernel_rfl) (fun _ _ _ h => h) (Or.inl ⟨by rfl, fun w hw => by subst hw; simp [go_sem, hcell]⟩) rfl ?_
            simp only [List.getElem_toArray, List.getElem_cons_succ, List.getElem_cons_zero, Act.put, List.setIfInBounds_toArray, List.set_cons_zero, List.set_cons_succ]
            refine wpAnyH_take (i := 2) (v := .int .i64 k) rfl (by kernel_rfl) (by kernel_rfl) (by kernel_rfl) (fun _ _ _ h => h) (Or.inl ⟨by rfl, fun w _ => by rfl⟩) rfl ?_
            simp only [List.getElem_toArray, List.getElem_cons_succ, List.getElem_cons_zero, Act.put, List.setIfInBounds_toArray, List.set_cons_zero, List.set_cons_succ]
            refine wpAnyH_take (i := 3) (v := .int .i64 p) rfl (by kernel_rfl) (by kernel_rfl) (by kernel_rfl) (fun _ _ _ h => h) (Or.inl ⟨by rfl, fun w _ => by simp [go_sem, hpp, HWR2]⟩) rfl ?_
            simp only [List.getElem_toArray, List.getElem_cons_succ, List.getElem_cons_zero, Act.put, List.setIfInBounds_toArray, List.set_cons_zero, List.set_cons_succ]
            refine wpAnyH_ready (rs := [4]) (by kernel_rfl) (by simp) ?_
            refine AllReadyH.cons rfl (fun K hK => ?_) AllReadyH.nil
            go_simp
            go_at_fn g
            refine HCALL.out.mono ?_
            rintro e w' ⟨rfl, rfl⟩
            try go_simp
            refine hK.out _ _ rfl (fun hS1 => ?_)
            clear hK K hS1
            try simp only [List.getElem_toArray, List.getElem_cons_succ, List.getElem_cons_zero, Act.put, List.setIfInBounds_toArray, List.set_cons_zero, List.set_cons_succ]
            refine wpAnyH_take (i := 5) (v := .tuple #[.int .i64 0, .bool true]) rfl (by kernel_rfl) (by kernel_rfl) (by kernel_rfl) (fun _ _ _ h => h) (Or.inl ⟨by rfl, fun w _ => by rfl⟩) rfl ?_
            simp only [List.getElem_toArray, List.getElem_cons_succ, List.getElem_cons_zero, Act.put, List.setIfInBounds_toArray, List.set_cons_zero, List.set_cons_succ]
            refine wpAnyH_take (i := 6) (v := .int .i64 0) rfl (by kernel_rfl) (by kernel_rfl) (by kernel_rfl) (fun _ _ _ h => h) (Or.inl ⟨by rfl, fun w _ => by rfl⟩) rfl ?_
            simp only [List.getElem_toArray, List.getElem_cons_succ, List.getElem_cons_zero, Act.put, List.setIfInBounds_toArray, List.set_cons_zero, List.set_cons_succ]
            refine wpAnyH_take (i := 7) (v := .bool true) rfl (by kernel_rfl) (by kernel_rfl) (by kernel_rfl) (fun _ _ _ h => h) (Or.inl ⟨by rfl, fun w _ => by rfl⟩) rfl ?_
            simp only [List.getElem_toArray, List.getElem_cons_succ, List.getElem_cons_zero, Act.put, List.setIfInBounds_toArray, List.set_cons_zero, List.set_cons_succ]
            refine wpAnyH_take (i := 8) (v := .int .i64 0) rfl (by kernel_rfl) (by kernel_rfl) (by kernel_rfl) (fun _ _ _ h => h) (Or.inl ⟨by rfl, fun w _ => by rfl⟩) rfl ?_
            simp only [List.getElem_toArray, List.getElem_cons_succ, List.getElem_cons_zero, Act.put, List.setIfInBounds_toArray, List.set_cons_zero, List.set_cons_succ]
            refine wpAnyH_take (i := 9) (v := .bool true) rfl (by kernel_rfl) (by kernel_rfl) (by kernel_rfl) (fun _ _ _ h => h) (Or.inl ⟨by rfl, fun w _ => by rfl⟩) rfl ?_
            simp only [List.getElem_toArray, List.getElem_cons_succ, List.getElem_cons_zero, Act.put, List.setIfInBounds_toArray, List.set_cons_zero, List.set_cons_succ]
            refine wpAnyH_done (by kernel_rfl) ?_ _
            clear hpp HWR2 hx6d
            go_wp2_with fail
            go_roundw
            case rel => exact ⟨k + 1, q + 1, HLT.out, by go_num, by rw [HWP.out, HO1.out], by rw [HO2.out], HQ.out⟩
            case measure => have := HLT.out; simp [Go.RowKit.intOf]; omega
          · rw [hL, if_pos rfl] at hkc
            have HO2 : Hid (bits .or .i64 (setOfW (fun w => needW t x w && leftW t x w) k : Int) p = (setOfW (fun w => needW t x w && leftW t x w) (k + 1) : Int)) := by
              rw [← HPP.out]; exact bits_next hk8 true (by rw [hN, hL]; rfl)
            have HCALL := Lib.hid (chg_yes hkc HCL.out)
            clear hN hL hkc hka HCL hk hlt hw8 hkp hn1 hn2
            go_wp2_with fail
            refine wp_region_held_drew (S := fun X => X = (W.drewN q).drew) (by kernel_rfl) rfl (fun hS0 => ?_)
            clear hS0
            refine wpAnyH_take (i := 0) (v := .pointer (some ⟨w1.heap.size, 0, none⟩)) rfl (by kernel_rfl) (by kernel_rfl) (by kernel_rfl) (fun _ _ _ h => h) (Or.inl ⟨by rfl, fun w _ => by rfl⟩) rfl ?_
            simp only [List.getElem_toArray, List.getElem_cons_zero, Act.put, List.setIfInBounds_toArray, List.set_cons_zero, List.set_cons_succ]
            refine wpAnyH_take (i := 1) (v := .func (.func g) #[] cap) rfl (by kernel_rfl) (by kernel_rfl) (by kernel_rfl) (fun _ _ _ h => h) (Or.inl ⟨by rfl, fun w hw => by subst hw; simp [go_sem, hcell]⟩) rfl ?_
            simp only [List.getElem_toArray, List.getElem_cons_succ, List.getElem_cons_zero, Act.put, List.setIfInBounds_toArray, List.set_cons_zero, List.set_cons_succ]
            refine wpAnyH_take (i := 2) (v := .int .i64 k) rfl (by kernel_rfl) (by kernel_rfl) (by kernel_rfl) (fun _ _ _ h => h) (Or.inl ⟨by rfl, fun w _ => by rfl⟩) rfl ?_
            simp only [List.getElem_toArray, List.getElem_cons_succ, List.getElem_cons_zero, Act.put, List.setIfInBounds_toArray, List.set_cons_zero, List.set_cons_succ]
            refine wpAnyH_take (i := 3) (v := .int .i64 p) rfl (by kernel_rfl) (by kernel_rfl) (by kernel_rfl) (fun _ _ _ h => h) (Or.inl ⟨by rfl, fun w _ => by simp [go_sem, hpp, HWR2]⟩) rfl ?_
            simp only [List.getElem_toArray, List.getElem_cons_succ, List.getElem_cons_zero, Act.put, List.setIfInBounds_toArray, List.set_cons_zero, List.set_cons_succ]
            refine wpAnyH_ready (rs := [4]) (by kernel_rfl) (by simp) ?_
            refine AllReadyH.cons rfl (fun K hK => ?_) AllReadyH.nil
            go_simp
            go_at_fn g
            refine HCALL.out.mono ?_
            rintro e w' ⟨rfl, rfl⟩
            try go_simp
            refine hK.out _ _ rfl (fun hS1 => ?_)
            clear hK K hS1
            try simp only [List.getElem_toArray, List.getElem_cons_succ, List.getElem_cons_zero, Act.put, List.setIfInBounds_toArray, List.set_cons_zero, List.set_cons_succ]
            refine wpAnyH_take (i := 5) (v := .tuple #[.int .i64 p, .bool true]) rfl (by kernel_rfl) (by kernel_rfl) (by kernel_rfl) (fun _ _ _ h => h) (Or.inl ⟨by rfl, fun w _ => by rfl⟩) rfl ?_
            simp only [List.getElem_toArray, List.getElem_cons_succ, List.getElem_cons_zero, Act.put, List.setIfInBounds_toArray, List.set_cons_zero, List.set_cons_succ]
            refine wpAnyH_take (i := 6) (v := .int .i64 p) rfl (by kernel_rfl) (by kernel_rfl) (by kernel_rfl) (fun _ _ _ h => h) (Or.inl ⟨by rfl, fun w _ => by rfl⟩) rfl ?_
            simp only [List.getElem_toArray, List.getElem_cons_succ, List.getElem_cons_zero, Act.put, List.setIfInBounds_toArray, List.set_cons_zero, List.set_cons_succ]
            refine wpAnyH_take (i := 7) (v := .bool true) rfl (by kernel_rfl) (by kernel_rfl) (by kernel_rfl) (fun _ _ _ h => h) (Or.inl ⟨by rfl, fun w _ => by rfl⟩) rfl ?_
            simp only [List.getElem_toArray, List.getElem_cons_succ, List.getElem_cons_zero, Act.put, List.setIfInBounds_toArray, List.set_cons_zero, List.set_cons_succ]
            refine wpAnyH_take (i := 8) (v := .int .i64 p) rfl (by kernel_rfl) (by kernel_rfl) (by kernel_rfl) (fun _ _ _ h => h) (Or.inl ⟨by rfl, fun w _ => by rfl⟩) rfl ?_
            simp only [List.getElem_toArray, List.getElem_cons_succ, List.getElem_cons_zero, Act.put, List.setIfInBounds_toArray, List.set_cons_zero, List.set_cons_succ]
            refine wpAnyH_take (i := 9) (v := .bool true) rfl (by kernel_rfl) (by kernel_rfl) (by kernel_rfl) (fun _ _ _ h => h) (Or.inl ⟨by rfl, fun w _ => by rfl⟩) rfl ?_
            simp only [List.getElem_toArray, List.getElem_cons_succ, List.getElem_cons_zero, Act.put, List.setIfInBounds_toArray, List.set_cons_zero, List.set_cons_succ]
            refine wpAnyH_done (by kernel_rfl) ?_ _
            clear hpp HWR2 hx6d
            go_wp2_with fail
            go_roundw
            case rel => exact ⟨k + 1, q + 1, HLT.out, by go_num, by rw [HWP.out, HO1.out], by rw [HO2.out], HQ.out⟩
            case measure => have := HLT.out; simp [Go.RowKit.intOf]; omega
      · obtain rfl : k = n := by omega
        go_wp2_with fail
        go_ret2
        exact WbwPost.of (bel_drewN HB.out _) HC.out.1 HC.out.2
end Go.Proofs.Ytjilcnehndmoaaa
