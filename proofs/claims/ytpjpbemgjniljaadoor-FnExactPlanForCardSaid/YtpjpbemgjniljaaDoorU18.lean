/-
  What the proofs of this seat's statements share (AskU, QstU, QstV, QstW).
-/
import Derived.Laws.BytesArg
import Derived.RangeFuncBox
import Derived.Test.YtpjpbemgjniljaaDoorU15
import Derived.Test.YtpjpbemgjniljaaDoorU16
import Derived.Test.YtpjpbemgjniljaaDoorU17
import Derived.Test.YtpjpbemgjniljaaDoorU13

namespace Go.Proofs.YtpjpbemgjniljaaDoor
open Go.RowKit

def digitB (k : Nat) : ByteArray := ⟨#[UInt8.ofNat (48 + k)]⟩
/-- A plan's text. -/
def planB : PlanT → ByteArray
  | .dot => ⟨#[46]⟩
  | .ask k y n => (((digitB k ++ ⟨#[40]⟩) ++ planB y) ++ planB n) ++ ⟨#[41]⟩
set_option maxRecDepth 100000 in
set_option maxHeartbeats 4000000 in
theorem sNumber7 {k : Nat} (hk : k ≤ 4) (w : World) : Calls Tryd.prog 40 #[.int .i64 k] w fun e w' => e = .returned (.string (digitB k)) ∧ Below w.heap.size w w' := by
  have h5 : k = 0 ∨ k = 1 ∨ k = 2 ∨ k = 3 ∨ k = 4 := by omega
  rcases h5 with rfl | rfl | rfl | rfl | rfl
  · have hcv : (convert 22 9 (.slice (some ⟨w.heap.size, 0, none⟩) 1 1)).run Tryd.prog (w.alloc (.cells #[.int .u8 (48 + 0)] 5)) = .ok (.string (digitB 0)) (w.alloc (.cells #[.int .u8 (48 + 0)] 5)) :=
      run_convert_bytes_arg _ 22 5 Tryd.underlying22 Tryd.underlying5 _ 0 1 1 [48 + 0] rfl (fun i hi => by
        obtain rfl : i = 0 := by omega
        exact (Boxed.new w 5 (.int .u8 (48 + 0))).cell) _ Tryd.underlying9
    simp only [show (48 : Int) + 0 = 48 by omega] at hcv
    go_enter Tryd.func40, Tryd.ntmps40
    go_wp2_with fail
    go_ret
    exact ⟨rfl, (Below.refl _ w).alloc (Nat.le_refl _) _⟩
  · have hcv : (convert 22 9 (.slice (some ⟨w.heap.size, 0, none⟩) 1 1)).run Tryd.prog (w.alloc (.cells #[.int .u8 (48 + 1)] 5)) = .ok (.string (digitB 1)) (w.alloc (.cells #[.int .u8 (48 + 1)] 5)) :=
      run_convert_bytes_arg _ 22 5 Tryd.underlying22 Tryd.underlying5 _ 0 1 1 [48 + 1] rfl (fun i hi => by
        obtain rfl : i = 0 := by omega
        exact (Boxed.new w 5 (.int .u8 (48 + 1))).cell) _ Tryd.underlying9
    simp only [show (48 : Int) + 1 = 49 by omega] at hcv
    go_enter Tryd.func40, Tryd.ntmps40
    go_wp2_with fail
    go_ret
    exact ⟨rfl, (Below.refl _ w).alloc (Nat.le_refl _) _⟩
  · have hcv : (convert 22 9 (.slice (some ⟨w.heap.size, 0, none⟩) 1 1)).run Tryd.prog (w.alloc (.cells #[.int .u8 (48 + 2)] 5)) = .ok (.string (digitB 2)) (w.alloc (.cells #[.int .u8 (48 + 2)] 5)) :=
      run_convert_bytes_arg _ 22 5 Tryd.underlying22 Tryd.underlying5 _ 0 1 1 [48 + 2] rfl (fun i hi => by
        obtain rfl : i = 0 := by omega
        exact (Boxed.new w 5 (.int .u8 (48 + 2))).cell) _ Tryd.underlying9
    simp only [show (48 : Int) + 2 = 50 by omega] at hcv
    go_enter Tryd.func40, Tryd.ntmps40
    go_wp2_with fail
    go_ret
    exact ⟨rfl, (Below.refl _ w).alloc (Nat.le_refl _) _⟩
  · have hcv : (convert 22 9 (.slice (some ⟨w.heap.size, 0, none⟩) 1 1)).run Tryd.prog (w.alloc (.cells #[.int .u8 (48 + 3)] 5)) = .ok (.string (digitB 3)) (w.alloc (.cells #[.int .u8 (48 + 3)] 5)) :=
      run_convert_bytes_arg _ 22 5 Tryd.underlying22 Tryd.underlying5 _ 0 1 1 [48 + 3] rfl (fun i hi => by
        obtain rfl : i = 0 := by omega
        exact (Boxed.new w 5 (.int .u8 (48 + 3))).cell) _ Tryd.underlying9
    simp only [show (48 : Int) + 3 = 51 by omega] at hcv
    go_enter Tryd.func40, Tryd.ntmps40
    go_wp2_with fail
    go_ret
    exact ⟨rfl, (Below.refl _ w).alloc (Nat.le_refl _) _⟩
  · have hcv : (convert 22 9 (.slice (some ⟨w.heap.size, 0, none⟩) 1 1)).run Tryd.prog (w.alloc (.cells #[.int .u8 (48 + 4)] 5)) = .ok (.string (digitB 4)) (w.alloc (.cells #[.int .u8 (48 + 4)] 5)) :=
      run_convert_bytes_arg _ 22 5 Tryd.underlying22 Tryd.underlying5 _ 0 1 1 [48 + 4] rfl (fun i hi => by
        obtain rfl : i = 0 := by omega
        exact (Boxed.new w 5 (.int .u8 (48 + 4))).cell) _ Tryd.underlying9
    simp only [show (48 : Int) + 4 = 52 by omega] at hcv
    go_enter Tryd.func40, Tryd.ntmps40
    go_wp2_with fail
    go_ret
    exact ⟨rfl, (Below.refl _ w).alloc (Nat.le_refl _) _⟩

theorem plan_first {asks issue : List Int} {l : Nat} {u : Int} (hn : anyWithin u issue = false) (h0 : 0 ≤ needI asks issue (l + 1) u) :
    ∃ (j : Nat) (hj : j < asks.length), worthI (needI asks issue l) u asks[j] = needI asks issue (l + 1) u ∧ (∀ (i : Nat) (hi : i < j), worthI (needI asks issue l) u (asks[i]'(by omega)) ≠ needI asks issue (l + 1) u) ∧
      planI asks issue (l + 1) u = .ask j (planI asks issue l (andI u asks[j])) (planI asks issue l (u - andI u asks[j])) := by
  have e : needI asks issue (l + 1) u = asks.foldl (leastOf (worthI (needI asks issue l) u)) (-1) := by
    show (if anyWithin u issue = true then 0 else _) = _
    rw [if_neg (by rw [hn]; decide)]
  have hex : ∃ q ∈ asks, needI asks issue (l + 1) u = worthI (needI asks issue l) u q := by
    rcases (least_fold (worthI (needI asks issue l) u) asks (-1)).1 with h1 | ⟨q, hq, h1, _⟩
    · rw [← e] at h1; omega
    · exact ⟨q, hq, by rw [e]; exact h1⟩
  obtain ⟨q0, hq0, hv0⟩ := hex
  cases hf : firstI asks issue l u with
  | none =>
    unfold firstI at hf
    rw [List.findIdx?_eq_none_iff] at hf
    have := hf q0 hq0
    rw [decide_eq_false_iff_not] at this
    exact absurd hv0.symm this
  | some k =>
    have hf2 := hf
    unfold firstI at hf2
    rw [List.findIdx?_eq_some_iff_getElem] at hf2
    obtain ⟨hk, hp, hlow⟩ := hf2
    rw [decide_eq_true_eq] at hp
    have hg : asks.getD k 0 = asks[k] := by rw [List.getD_eq_getElem?_getD, List.getElem?_eq_getElem hk]; rfl
    refine ⟨k, hk, hp, fun i hi => ?_, ?_⟩
    · have := hlow i hi
      rw [Bool.not_eq_true, decide_eq_false_iff_not] at this
      exact this
    · show (if anyWithin u issue = true then PlanT.dot else match firstI asks issue l u with | some k => _ | none => _) = _
      rw [if_neg (by rw [hn]; decide), hf]
      simp only [hg]

theorem planB_size : ∀ p : PlanT, (planB p).size + 3 ≤ 4 * 2 ^ depthP p
  | .dot => by show 1 + 3 ≤ 4 * 2 ^ 0; omega
  | .ask k y n => by
    have h1 := planB_size y
    have h2 := planB_size n
    have e : (planB (.ask k y n)).size = 1 + 1 + (planB y).size + (planB n).size + 1 := by
      show ((((digitB k ++ (⟨#[40]⟩ : ByteArray)) ++ planB y) ++ planB n) ++ (⟨#[41]⟩ : ByteArray)).size = _
      rw [ByteArray.size_append, ByteArray.size_append, ByteArray.size_append, ByteArray.size_append]
      rfl
    have g1 : 2 ^ depthP y ≤ 2 ^ max (depthP y) (depthP n) := Nat.pow_le_pow_right (by omega) (Nat.le_max_left _ _)
    have g2 : 2 ^ depthP n ≤ 2 ^ max (depthP y) (depthP n) := Nat.pow_le_pow_right (by omega) (Nat.le_max_right _ _)
    rw [e]
    unfold depthP
    rw [Nat.pow_succ]
    omega
theorem planI_depth (asks issue : List Int) : ∀ (l : Nat) (u : Int), depthP (planI asks issue l u) ≤ l
  | 0, _ => Nat.le_refl _
  | l + 1, u => by
    unfold planI
    split
    · exact Nat.zero_le _
    · split
      · unfold depthP
        have h1 := fun v => planI_depth asks issue l v
        rename_i k _
        have a := h1 (andI u (asks.getD k 0))
        have b := h1 (u - andI u (asks.getD k 0))
        omega
      · exact Nat.zero_le _
theorem planI_size {asks issue : List Int} {l : Nat} (hl : l ≤ 6) (u : Int) : (planB (planI asks issue l u)).size ≤ 256 := by
  have h1 := planB_size (planI asks issue l u)
  have h2 : 2 ^ depthP (planI asks issue l u) ≤ 2 ^ 6 := Nat.pow_le_pow_right (by omega) (Nat.le_trans (planI_depth asks issue l u) hl)
  omega
def TextPost7 (b : ByteArray) (w : World) (e : Ending) (w' : World) : Prop := e = .returned (.string b) ∧ Below w.heap.size w w'
def Plans7 (asks issue : List Int) (l : Nat) : Prop := ∀ (A B : Option Addr) (na ca nb cb : Nat) (u : Int) (w : World), Row w A na ca asks → Row w B nb cb issue → 0 ≤ u → u < 256 → 0 ≤ needI asks issue l u →
  Calls Tryd.prog 19 #[.slice A na ca, .slice B nb cb, .int .i64 u, .int .i64 l] w (TextPost7 (planB (planI asks issue l u)) w)
section
variable {asks issue : List Int} {l : Nat} {u : Int} {A B : Option Addr} {na ca nb cb : Nat} {w : World}
set_option maxRecDepth 100000 in
set_option maxHeartbeats 4000000 in
theorem sPlan_settled (hb : Row w B nb cb issue) (hi : ∀ x ∈ issue, 0 ≤ x ∧ x < 256) (hu0 : 0 ≤ u) (hu : u < 256) (h : Hid (anyWithin u issue = true)) :
    Calls Tryd.prog 19 #[.slice A na ca, .slice B nb cb, .int .i64 u, .int .i64 l] w (TextPost7 (planB .dot) w) := by
  have HB := Lib.hid hb
  have HI := Lib.hid hi
  clear hb hi
  go_enter Tryd.func19, Tryd.ntmps19
  go_wp2_with fail
  refine (sL2Settles_is h _ _ _ _ HB.out.hn hu0 hu HI.out HB.out.hl HB.out.hA).mono ?_
  rintro e w' ⟨rfl, q, rfl⟩
  go_wp2_with fail
  go_ret
  exact ⟨rfl, bel_drewN (Below.refl _ _) _⟩
set_option maxRecDepth 100000 in
set_option maxHeartbeats 8000000 in
theorem sPlan_more (hl5 : l ≤ 5) (hla5 : asks.length ≤ 5) (hp : Plans7 asks issue l) (hr : ∀ q ∈ asks, 0 ≤ q ∧ q < 256) (ha : Row w A na ca asks) (hb : Row w B nb cb issue) (hi : ∀ x ∈ issue, 0 ≤ x ∧ x < 256) (hu0 : 0 ≤ u) (hu : u < 256) (h : Hid (anyWithin u issue = false))
    (h0 : 0 ≤ needI asks issue (l + 1) u) :
    Calls Tryd.prog 19 #[.slice A na ca, .slice B nb cb, .int .i64 u, .int .i64 ((l + 1 : Nat) : Int)] w (TextPost7 (planB (planI asks issue (l + 1) u)) w) := by
  obtain ⟨j, hj, hjw, hjlow, hjp⟩ := plan_first (l := l) h.out h0
  have HA := Lib.hid ha
  have HB := Lib.hid hb
  have HI := Lib.hid hi
  have HS := Lib.hid (sNeed hr hi (l + 1) (by omega))
  have HIH := Lib.hid (sNeed hr hi l (by omega))
  have HPL := Lib.hid hp
  have HRQ := Lib.hid hr
  obtain rfl := ha.hn
  have hla := ha.hl
  have hll : ((l + 1 : Nat) : Int) = (l : Int) + 1 := by omega
  obtain ⟨n, HND⟩ : ∃ n, Hid (needI asks issue (l + 1) u = n) := ⟨_, rfl⟩
  rw [HND.out] at hjw h0
  have HLOW : Hid (∀ (i : Nat) (hi : i < j), worthI (needI asks issue l) u (asks[i]'(by omega)) ≠ n) := fun i hi => by rw [← HND.out]; exact hjlow i hi
  have HNR : Hid (∀ s, 0 ≤ s → -1 ≤ needI asks issue l s ∧ needI asks issue l s ≤ 5) := fun s hs => by have := need_range asks issue l s hs; omega
  have HJW := Lib.hid hjw
  have HNC : Hid (∀ W, Row W A asks.length ca asks → Row W B nb cb issue → Calls Tryd.prog 37 #[.slice A asks.length ca, .slice B nb cb, .int .i64 u, .int .i64 ((l : Int) + 1)] W fun e w' => e = .returned (.int .i64 n) ∧ ∃ n, w' = W.drewN n) := fun W ra rb => by
    have := needs7_is HS.out HND ra rb hu0 hu
    rw [hll] at this; exact this
  rw [hjp, hll]
  obtain ⟨x0, HX0⟩ : ∃ x, Hid (asks[j]'hj = x) := ⟨asks[j]'hj, rfl⟩
  rw [HX0.out] at hjw HJW ⊢
  obtain ⟨y0, HY0⟩ : ∃ y, Hid (andI u x0 = y) := ⟨andI u x0, rfl⟩
  rw [HY0.out]
  obtain ⟨p1, HP1⟩ : ∃ p, Hid (planI asks issue l y0 = p) := ⟨_, rfl⟩
  obtain ⟨p2, HP2⟩ : ∃ p, Hid (planI asks issue l (u - y0) = p) := ⟨_, rfl⟩
  rw [HP1.out, HP2.out]
  have hz1' : (planB p1).size ≤ 256 := by rw [← HP1.out]; exact planI_size (by omega) _
  have hz2' : (planB p2).size ≤ 256 := by rw [← HP2.out]; exact planI_size (by omega) _
  obtain ⟨hw1, hw2, hw3, hw4, hw5, hw6⟩ := worth_parts hjw h0
  rw [HY0.out] at hw1 hw2 hw3 hw4 hw5 hw6
  obtain ⟨res, HRES⟩ : ∃ r, Hid (planB (.ask j p1 p2) = r) := ⟨_, rfl⟩
  rw [HRES.out]
  have hz3' : (digitB j).size ≤ 1 := Nat.le_refl _
  obtain ⟨b1, HBB1⟩ : ∃ b, Hid (planB p1 = b) := ⟨_, rfl⟩
  obtain ⟨b2, HBB2⟩ : ∃ b, Hid (planB p2 = b) := ⟨_, rfl⟩
  obtain ⟨bd, HBBD⟩ : ∃ b, Hid (digitB j = b) := ⟨_, rfl⟩
  rw [HBB1.out] at hz1'
  rw [HBB2.out] at hz2'
  rw [HBBD.out] at hz3'
  replace HRES : Hid ((((bd ++ ⟨#[40]⟩) ++ b1) ++ b2) ++ ⟨#[41]⟩ = res) := by rw [← HBB1.out, ← HBB2.out, ← HBBD.out]; exact HRES
  clear hb hi hr ha hll hp hjw hjlow hjp
  go_enter Tryd.func19, Tryd.ntmps19
  go_wp2_with fail
  refine (sL2Settles_is h _ _ _ _ HB.out.hn hu0 hu HI.out HB.out.hl HB.out.hA).mono ?_
  rintro e w' ⟨rfl, q0, rfl⟩
  go_wp2_with fail
  refine (HNC.out _ (HA.out.drewN _) (HB.out.drewN _)).mono ?_
  rintro e w' ⟨rfl, q1, rfl⟩
  go_wp2_with fail
  go_loopw [10] (fun i wr => ∃ k : Nat, k ≤ j ∧ i = .int .i64 k ∧ ∃ q, wr = w.drewN q) (fun i _ => asks.length - (Go.RowKit.intOf i).toNat)
  case atStart => exact ⟨0, Nat.zero_le _, rfl, _, by first | rfl | rw [World.drewN_drewN]⟩
  case round =>
    obtain ⟨k, hk, rfl, q2, rfl⟩ := hrel
    have hlt : k < asks.length := by omega
    obtain ⟨b, off, x, rfl, hcell, hx, _⟩ := HA.out.hA.elem hlt
    obtain ⟨hx0, hx1⟩ := HRQ.out x (elem_mem hx)
    have hxe : asks[k] = x := (List.getElem?_eq_some_iff.1 hx.out).2
    have HXE := Lib.hid hxe
    obtain ⟨y, HY⟩ : ∃ y, Hid (andI u x = y) := ⟨_, rfl⟩
    obtain ⟨hy0, hy1, hz0, hz1⟩ := andI_lt x hu0 hu
    rw [HY.out] at hy0 hy1 hz0 hz1
    have hlk : (k : Int) < (asks.length : Int) := by omega
    clear hxe
    by_cases hkj : k = j
    · subst hkj
      obtain rfl : y = y0 := by rw [← HY.out, ← HY0.out, ← HX0.out, HXE.out]
      have e0 : (y == (0 : Int)) = false := by rw [beq_eq_false_iff_ne]; exact hw1
      have eu : (y == u) = false := by rw [beq_eq_false_iff_ne]; exact hw2
      obtain ⟨a1, HA1⟩ : ∃ a, Hid (needI asks issue l y = a) := ⟨_, rfl⟩
      obtain ⟨a2, HA2⟩ : ∃ a, Hid (needI asks issue l (u - y) = a) := ⟨_, rfl⟩
      have hr1 := HNR.out y hy0
      have hr2 := HNR.out (u - y) hz0
      have HE : Hid (1 + max a1 a2 = n) := by
        have hh := HJW.out
        unfold worthI at hh
        rw [HY0.out, if_neg (by omega), if_pos ⟨hw3, hw4⟩, HA1.out, HA2.out] at hh
        exact hh
      have HC1 := Lib.hid (fun W ra rb => HPL.out (some ⟨b, off, none⟩) B asks.length ca nb cb y W ra rb hy0 hy1 hw3)
      have HC2 := Lib.hid (fun W ra rb => HPL.out (some ⟨b, off, none⟩) B asks.length ca nb cb (u - y) W ra rb hz0 hz1 hw4)
      rw [HP1.out, HBB1.out] at HC1
      rw [HP2.out, HBB2.out] at HC2
      rw [HA1.out] at hr1 hw3
      rw [HA2.out] at hr2 hw4
      have hq1 : decide ((0 : Int) ≤ a1) = true := decide_eq_true hw3
      have hq2 : decide ((0 : Int) ≤ a2) = true := decide_eq_true hw4
      have hqn : ((1 + max a1 a2) == n) = true := by rw [beq_iff_eq]; exact HE.out
      have HNUM := Lib.hid (sNumber7 (k := k) (by omega))
      rw [HBBD.out] at HNUM
      clear hw1 hw2 hw5 hw6
      go_wp2_with fail
      refine (sBoth_is7 HY hu0 hu hx0 hx1 _).mono ?_
      rintro e w' ⟨rfl, q3, rfl⟩
      go_wp2_with fail
      refine (needs7_is HIH.out HA1 (HA.out.drewN _) (HB.out.drewN _) hy0 hy1).mono ?_
      rintro e w' ⟨rfl, q4, rfl⟩
      go_wp2_with fail
      refine (needs7_is HIH.out HA2 (HA.out.drewN _) (HB.out.drewN _) hz0 hz1).mono ?_
      rintro e w' ⟨rfl, q5, rfl⟩
      have HD : Hid (∀ m : Nat, Below w.heap.size w (w.drewN m)) := fun m => bel_drewN (Below.refl _ _) m
      go_wp2_with fail
      refine (HNUM.out _).mono ?_
      rintro e w1 ⟨rfl, hb1⟩
      have HB1 : Hid (Below w.heap.size w w1) := bel_trans (HD.out _) hb1
      clear hb1
      go_wp2_with fail
      refine (HC1.out _ (HA.out.below HB1.out) (HB.out.below HB1.out)).mono ?_
      rintro e w2 ⟨rfl, hb2⟩
      have HB2 : Hid (Below w.heap.size w w2) := bel_trans HB1.out hb2
      clear hb2
      go_wp2_with fail
      refine (HC2.out _ (HA.out.below HB2.out) (HB.out.below HB2.out)).mono ?_
      rintro e w3 ⟨rfl, hb3⟩
      have HB3 : Hid (Below w.heap.size w w3) := bel_trans HB2.out hb3
      clear hb3
      go_wp2_with fail
      go_ret
      exact ⟨by rw [← HRES.out]; rfl, HB3.out⟩
    · have hkj2 : k < j := by omega
      have HNE : Hid (worthI (needI asks issue l) u x ≠ n) := by have := HLOW.out k hkj2; rw [HXE.out] at this; exact this
      clear hkj
      by_cases hyz : y = 0
      · subst hyz
        go_wp2_with fail
        refine (sBoth_is7 HY hu0 hu hx0 hx1 _).mono ?_
        rintro e w' ⟨rfl, q3, rfl⟩
        go_wp2_with fail
        go_roundw
        case rel => exact ⟨k + 1, by omega, by go_num, _, by first | rfl | rw [World.drewN_drewN]⟩
        case measure => simp [Go.RowKit.intOf]; omega
      · have e0 : (y == (0 : Int)) = false := by rw [beq_eq_false_iff_ne]; exact hyz
        by_cases hyu : y = u
        · have eu : (y == u) = true := by rw [beq_iff_eq]; exact hyu
          clear hyz hyu
          go_wp2_with fail
          refine (sBoth_is7 HY hu0 hu hx0 hx1 _).mono ?_
          rintro e w' ⟨rfl, q3, rfl⟩
          go_wp2_with fail
          go_roundw
          case rel => exact ⟨k + 1, by omega, by go_num, _, by first | rfl | rw [World.drewN_drewN]⟩
          case measure => simp [Go.RowKit.intOf]; omega
        · have eu : (y == u) = false := by rw [beq_eq_false_iff_ne]; exact hyu
          obtain ⟨a1, HA1⟩ : ∃ a, Hid (needI asks issue l y = a) := ⟨_, rfl⟩
          obtain ⟨a2, HA2⟩ : ∃ a, Hid (needI asks issue l (u - y) = a) := ⟨_, rfl⟩
          have hr1 := HNR.out y hy0
          have hr2 := HNR.out (u - y) hz0
          rw [HA1.out] at hr1
          rw [HA2.out] at hr2
          by_cases hp1 : 0 ≤ a1
          · have hq1 : decide ((0 : Int) ≤ a1) = true := decide_eq_true hp1
            by_cases hp2 : 0 ≤ a2
            · have hq2 : decide ((0 : Int) ≤ a2) = true := decide_eq_true hp2
              have hqn : ((1 + max a1 a2) == n) = false := by
                rw [beq_eq_false_iff_ne]
                intro he
                apply HNE.out
                unfold worthI
                rw [HY.out, if_neg (by omega), HA1.out, HA2.out, if_pos ⟨hp1, hp2⟩]
                exact he
              clear hyz hyu
              go_wp2_with fail
              refine (sBoth_is7 HY hu0 hu hx0 hx1 _).mono ?_
              rintro e w' ⟨rfl, q3, rfl⟩
              go_wp2_with fail
              refine (needs7_is HIH.out HA1 (HA.out.drewN _) (HB.out.drewN _) hy0 hy1).mono ?_
              rintro e w' ⟨rfl, q4, rfl⟩
              go_wp2_with fail
              refine (needs7_is HIH.out HA2 (HA.out.drewN _) (HB.out.drewN _) hz0 hz1).mono ?_
              rintro e w' ⟨rfl, q5, rfl⟩
              go_wp2_with fail
              go_roundw
              case rel => exact ⟨k + 1, by omega, by go_num, _, by first | rfl | rw [World.drewN_drewN]⟩
              case measure => simp [Go.RowKit.intOf]; omega
            · have hq2 : decide ((0 : Int) ≤ a2) = false := decide_eq_false hp2
              clear hyz hyu
              go_wp2_with fail
              refine (sBoth_is7 HY hu0 hu hx0 hx1 _).mono ?_
              rintro e w' ⟨rfl, q3, rfl⟩
              go_wp2_with fail
              refine (needs7_is HIH.out HA1 (HA.out.drewN _) (HB.out.drewN _) hy0 hy1).mono ?_
              rintro e w' ⟨rfl, q4, rfl⟩
              go_wp2_with fail
              refine (needs7_is HIH.out HA2 (HA.out.drewN _) (HB.out.drewN _) hz0 hz1).mono ?_
              rintro e w' ⟨rfl, q5, rfl⟩
              go_wp2_with fail
              go_roundw
              case rel => exact ⟨k + 1, by omega, by go_num, _, by first | rfl | rw [World.drewN_drewN]⟩
              case measure => simp [Go.RowKit.intOf]; omega
          · have hq1 : decide ((0 : Int) ≤ a1) = false := decide_eq_false hp1
            clear hyz hyu
            go_wp2_with fail
            refine (sBoth_is7 HY hu0 hu hx0 hx1 _).mono ?_
            rintro e w' ⟨rfl, q3, rfl⟩
            go_wp2_with fail
            refine (needs7_is HIH.out HA1 (HA.out.drewN _) (HB.out.drewN _) hy0 hy1).mono ?_
            rintro e w' ⟨rfl, q4, rfl⟩
            go_wp2_with fail
            refine (needs7_is HIH.out HA2 (HA.out.drewN _) (HB.out.drewN _) hz0 hz1).mono ?_
            rintro e w' ⟨rfl, q5, rfl⟩
            go_wp2_with fail
            go_roundw
            case rel => exact ⟨k + 1, by omega, by go_num, _, by first | rfl | rw [World.drewN_drewN]⟩
            case measure => simp [Go.RowKit.intOf]; omega
end
theorem sPlan {asks issue : List Int} (hla5 : asks.length ≤ 5) (hr : ∀ q ∈ asks, 0 ≤ q ∧ q < 256) (hi : ∀ x ∈ issue, 0 ≤ x ∧ x < 256) : ∀ l : Nat, l ≤ 6 → Plans7 asks issue l := by
  intro l
  induction l with
  | zero =>
    intro _ A B na ca nb cb u w ha hb hu0 hu h0
    have h : anyWithin u issue = true := by
      unfold needI at h0
      rcases h : anyWithin u issue with _ | _
      · rw [h, if_neg (by decide)] at h0; omega
      · rfl
    exact sPlan_settled hb hi hu0 hu h
  | succ l ih =>
    intro hl A B na ca nb cb u w ha hb hu0 hu h0
    rcases h : anyWithin u issue with _ | _
    · exact sPlan_more (by omega) hla5 (ih (by omega)) hr ha hb hi hu0 hu h h0
    · unfold planI; rw [if_pos h]; exact sPlan_settled hb hi hu0 hu h
/-- The best plan, and whether there is one. -/
def planForB (t : Int) (asks issue : List Int) (u : Int) : Option ByteArray := if 0 ≤ asksNeededI t asks issue u then some (planB (planI asks issue 5 u)) else none
def PForPost (o : Option ByteArray) (w : World) (e : Ending) (w' : World) : Prop :=
  match o with
  | some b => e = .returned (.tuple #[.string b, .bool true]) ∧ Below w.heap.size w w'
  | none => e = .returned (.tuple #[.string ⟨#[]⟩, .bool false]) ∧ Below w.heap.size w w'
theorem sAsksNeeded_is {t : Int} {asks issue : List Int} {u v : Int} (h : Hid (asksNeededI t asks issue u = v)) {A B : Option Addr} {na ca nb cb : Nat} {w : World} (ha : Row w A na ca asks) (hb : Row w B nb cb issue) :
    Calls Tryd.prog 18 #[.int .i64 t, .slice A na ca, .slice B nb cb, .int .i64 u] w fun e w' => e = .returned (.int .i64 v) ∧ ∃ n, w' = w.drewN n := by
  have := sAsksNeeded t A B na ca nb cb asks issue u w ha hb
  rw [h.out] at this; exact this
set_option maxRecDepth 100000 in
set_option maxHeartbeats 4000000 in
theorem sPlanFor (t : Int) (A B : Option Addr) (na ca nb cb : Nat) (asks issue : List Int) (u : Int) (w : World) (ha : Row w A na ca asks) (hb : Row w B nb cb issue) :
    Calls Tryd.prog 7 #[.int .i64 t, .slice A na ca, .slice B nb cb, .int .i64 u] w (PForPost (planForB t asks issue u) w) := by
  have HA := Lib.hid ha
  have HB := Lib.hid hb
  obtain ⟨v, HV⟩ : ∃ v, Hid (asksNeededI t asks issue u = v) := ⟨_, rfl⟩
  unfold planForB
  rw [HV.out]
  clear ha hb
  by_cases h0 : 0 ≤ v
  · rw [if_pos h0]
    have hd : decide (v < (0 : Int)) = false := decide_eq_false (by omega)
    have hok : ok7 t asks issue u = true := by
      rcases hk : ok7 t asks issue u with _ | _
      · have := HV.out
        unfold asksNeededI at this
        rw [hk, if_neg (by decide)] at this
        omega
      · rfl
    obtain ⟨hr, hi, hu0, hu, hl5, _⟩ := ok7_parts hok
    have hv2 : 0 ≤ needI asks issue 5 u := by
      have := HV.out
      unfold asksNeededI needs at this
      rw [if_pos hok] at this
      omega
    have HP := Lib.hid (fun W ra rb => sPlan hl5 hr hi 5 (by omega) A B na ca nb cb u W ra rb hu0 hu hv2)
    have h5 : ((5 : Nat) : Int) = 5 := rfl
    rw [h5] at HP
    obtain ⟨b, HBB⟩ : ∃ b, Hid (planB (planI asks issue 5 u) = b) := ⟨_, rfl⟩
    rw [HBB.out] at HP ⊢
    show Calls _ _ _ _ (fun e w' => e = .returned (.tuple #[.string b, .bool true]) ∧ Below w.heap.size w w')
    clear hr hi hok hv2 h5
    go_enter Tryd.func7, Tryd.ntmps7
    go_wp2_with fail
    refine (sAsksNeeded_is HV HA.out HB.out).mono ?_
    rintro e w' ⟨rfl, q, rfl⟩
    go_wp2_with fail
    refine (HP.out _ (HA.out.drewN _) (HB.out.drewN _)).mono ?_
    rintro e w2 ⟨rfl, hb2⟩
    have HB2 : Hid (Below w.heap.size w w2) := bel_trans (bel_drewN (Below.refl _ _) _) hb2
    clear hb2
    go_wp2_with fail
    go_ret2
    exact ⟨rfl, HB2.out⟩
  · rw [if_neg h0]
    have hd : decide (v < (0 : Int)) = true := decide_eq_true (by omega)
    show Calls _ _ _ _ (fun e w' => e = .returned (.tuple #[.string ⟨#[]⟩, .bool false]) ∧ Below w.heap.size w w')
    go_enter Tryd.func7, Tryd.ntmps7
    go_wp2_with fail
    refine (sAsksNeeded_is HV HA.out HB.out).mono ?_
    rintro e w' ⟨rfl, q, rfl⟩
    go_wp2_with fail
    go_ret2
    exact ⟨rfl, bel_drewN (Below.refl _ _) _⟩
end Go.Proofs.YtpjpbemgjniljaaDoor

namespace Go.Proofs.YtpjpbemgjniljaaDoor
open Go.RowKit

theorem quiet_eq7 {P : Program} {f : FuncId} {args : Array Value} {w : World} {n : Nat} {v : Value} (h : Calls P f args (w.drewN n) fun e w' => e = .returned v ∧ w.drewN n = w') :
    Calls P f args (w.drewN n) fun e w'' => e = .returned v ∧ ∃ m, w'' = w.drewN m := h.mono fun _ _ ⟨he, hm⟩ => ⟨he, n, hm.symm⟩
/-- The plan that settles the issue. -/
def settlingP (t : Int) (asks issue : List Int) (u : Int) (s : ByteArray) : Option PlanT :=
  if ok7 t asks issue u = true then match planOf asks.length s with
    | some x => if okP asks issue x u = true then some x else none
    | none => none
  else none
def SetlPost (o : Option PlanT) (w : World) (e : Ending) (w' : World) : Prop :=
  match o with
  | some x => ∃ p, e = .returned (.tuple #[.pointer p, .bool true]) ∧ QAt w' w.heap.size x p ∧ Below w.heap.size w w'
  | none => e = .returned nothing ∧ Below w.heap.size w w'
theorem planOf_is {m : Nat} {s : ByteArray} {x : PlanT} (h : planOf m s = some x) : bytesN s = textP x ∧ knowsP m x ∧ s.size ≤ 60 := by
  unfold planOf at h
  by_cases hs : s.size ≤ 60
  · rw [if_pos hs] at h
    rcases hr : readP m (s.size + 1) (bytesN s) with _ | ⟨y, _ | ⟨c, r⟩⟩
    · rw [hr] at h; cases h
    · rw [hr] at h; cases h
      have := read_is m _ _ _ _ hr
      rw [List.append_nil] at this
      exact ⟨this.1, this.2, hs⟩
    · rw [hr] at h; cases h
  · rw [if_neg hs] at h; cases h
theorem settling_is {t : Int} {asks issue : List Int} {u : Int} {s : ByteArray} {x : PlanT} (h : settlingP t asks issue u s = some x) : ok7 t asks issue u = true ∧ planOf asks.length s = some x ∧ okP asks issue x u = true := by
  unfold settlingP at h
  by_cases hk : ok7 t asks issue u = true
  · rw [if_pos hk] at h
    rcases hp : planOf asks.length s with _ | y
    · rw [hp] at h; cases h
    · rw [hp] at h
      simp only at h
      by_cases ho : okP asks issue y u = true
      · rw [if_pos ho] at h; cases h; exact ⟨hk, rfl, ho⟩
      · rw [if_neg ho] at h; cases h
  · rw [if_neg hk] at h; cases h
/-- What the model tells of a plan. -/
theorem planAsks_eq (t : Int) (asks issue : List Int) (u : Int) (s : ByteArray) : planAsksI t asks issue u s = match settlingP t asks issue u s with | some x => (depthP x : Int) | none => -1 := by
  unfold planAsksI settlingP planOf
  by_cases hk : ok7 t asks issue u = true
  · rw [if_pos hk]
    by_cases hs : s.size ≤ 60
    · rw [if_pos hs, if_pos (by rw [hk, decide_eq_true hs]; rfl), walk_read]
      rcases readP asks.length (s.size + 1) (bytesN s) with _ | ⟨y, _ | ⟨c, r⟩⟩
      · rfl
      · simp only [Option.bind_some, stepR]
        by_cases ho : okP asks issue y u = true
        · rw [if_pos ho, if_pos ho]
        · rw [if_neg ho, if_neg ho]
      · simp only [Option.bind_some, stepR]
        by_cases ho : okP asks issue y u = true
        · rw [if_pos ho]
        · rw [if_neg ho]
    · rw [if_neg hs, if_neg (by rw [decide_eq_false hs, Bool.and_false]; decide)]
  · rw [if_neg hk, if_neg (by intro h; rw [Bool.and_eq_true] at h; exact hk h.1)]

theorem iReadPlan_none {n : Nat} {s : ByteArray} (h : Hid (planOf n s = none)) (w : World) (h5 : n ≤ 5) (hs : s.size ≤ 9223372036854775807) :
    Calls Tryd.prog 41 #[.int .i64 n, .string s] w fun e w' => e = .returned (.tuple #[.pointer none, .bool false]) ∧ Below w.heap.size w w' := by
  refine (iReadPlan n s w h5 hs).mono ?_
  intro e w' hp
  unfold PTextPost at hp
  rw [h.out] at hp
  exact hp
theorem iReadPlan_some {n : Nat} {s : ByteArray} {x : PlanT} (h : Hid (planOf n s = some x)) (w : World) (h5 : n ≤ 5) (hs : s.size ≤ 9223372036854775807) :
    Calls Tryd.prog 41 #[.int .i64 n, .string s] w fun e w' => ∃ p, e = .returned (.tuple #[.pointer p, .bool true]) ∧ QAt w' w.heap.size x p ∧ Below w.heap.size w w' := by
  refine (iReadPlan n s w h5 hs).mono ?_
  intro e w' hp
  unfold PTextPost at hp
  rw [h.out] at hp
  exact hp
theorem iWith_is {asks issue : List Int} {A B : Option Addr} {na ca nb cb : Nat} {x : PlanT} {p : Option Addr} {lo : Nat} {u : Int} {w : World} {b : Bool} (h : Hid (okP asks issue x u = b)) (hr : ∀ q ∈ asks, 0 ≤ q ∧ q < 256) (hi : ∀ x ∈ issue, 0 ≤ x ∧ x < 256) (hk : knowsP asks.length x) (hq : QAt w lo x p) (ha : Row w A na ca asks) (hb : Row w B nb cb issue) (hu0 : 0 ≤ u) (hu : u < 256) :
    Calls Tryd.prog 42 #[.slice A na ca, .slice B nb cb, .int .i64 u, .pointer p] w fun e w' => e = .returned (.bool b) ∧ w' = w := by
  have := iWith (A := A) (B := B) (na := na) (ca := ca) (nb := nb) (cb := cb) hr hi x p lo u w hk hq ha hb hu0 hu
  rw [h.out] at this; exact this
set_option maxRecDepth 100000 in
set_option maxHeartbeats 4000000 in
theorem iSettlingPlan (t : Int) (A B : Option Addr) (na ca nb cb : Nat) (asks issue : List Int) (u : Int) (s : ByteArray) (w : World) (ha : Row w A na ca asks) (hb : Row w B nb cb issue) (hs : s.size ≤ 9223372036854775807) :
    Calls Tryd.prog 21 #[.int .i64 t, .slice A na ca, .slice B nb cb, .int .i64 u, .string s] w (SetlPost (settlingP t asks issue u s) w) := by
  have HA := Lib.hid ha
  have HB := Lib.hid hb
  obtain ⟨b, HOK⟩ : ∃ b, Hid (ok7 t asks issue u = b) := ⟨_, rfl⟩
  have hD : ∀ q, Below w.heap.size w (w.drewN q) := fun q => bel_drewN (Below.refl _ _) q
  have HD := Lib.hid hD
  unfold settlingP
  rw [HOK.out]
  obtain rfl := ha.hn
  have hl := ha.hl
  clear ha hb hD
  cases b
  · rw [if_neg (by decide)]
    show Calls _ _ _ _ (fun e w' => e = .returned nothing ∧ Below w.heap.size w w')
    go_enter Tryd.func21, Tryd.ntmps21
    go_wp2_with fail
    refine (iAskingOk_is HOK HA.out HB.out).mono ?_
    rintro e w' ⟨rfl, q, rfl⟩
    go_wp2_with fail
    go_ret2
    exact ⟨rfl, HD.out _⟩
  · rw [if_pos rfl]
    obtain ⟨hr, hi, hu0, hu, hl5, _⟩ := ok7_parts HOK.out
    have HR := Lib.hid hr
    have HI := Lib.hid hi
    clear hr hi
    rcases hp : planOf asks.length s with _ | x
    · have HP := Lib.hid hp
      show Calls _ _ _ _ (fun e w' => e = .returned nothing ∧ Below w.heap.size w w')
      clear hp
      go_enter Tryd.func21, Tryd.ntmps21
      go_wp2_with fail
      refine (iAskingOk_is HOK HA.out HB.out).mono ?_
      rintro e w' ⟨rfl, q, rfl⟩
      go_wp2_with fail
      refine (iReadPlan_none HP _ hl5 hs).mono ?_
      rintro e w2 ⟨rfl, hb2⟩
      have HB2 : Hid (Below w.heap.size w w2) := bel_trans (HD.out _) hb2
      clear hb2
      go_wp2_with fail
      go_ret2
      exact ⟨rfl, HB2.out⟩
    · have HP := Lib.hid hp
      have HKN := Lib.hid (planOf_is hp).2.1
      clear hp
      rcases ho : okP asks issue x u with _ | _
      · have HO := Lib.hid ho
        simp only [ho, Bool.false_eq_true, if_false]
        show Calls _ _ _ _ (fun e w' => e = .returned nothing ∧ Below w.heap.size w w')
        clear ho
        go_enter Tryd.func21, Tryd.ntmps21
        go_wp2_with fail
        refine (iAskingOk_is HOK HA.out HB.out).mono ?_
        rintro e w' ⟨rfl, q, rfl⟩
        go_wp2_with fail
        refine (iReadPlan_some HP _ hl5 hs).mono ?_
        rintro e w2 ⟨p, rfl, hq, hb2⟩
        have HB2 : Hid (Below w.heap.size w w2) := bel_trans (HD.out _) hb2
        have HQ := Lib.hid hq
        clear hb2 hq
        go_wp2_with fail
        refine (iWith_is HO HR.out HI.out HKN.out HQ.out (HA.out.below HB2.out) (HB.out.below HB2.out) hu0 hu).mono ?_
        rintro e w3 ⟨rfl, rfl⟩
        go_wp2_with fail
        go_ret2
        exact ⟨rfl, HB2.out⟩
      · have HO := Lib.hid ho
        simp only [ho, if_true]
        show Calls _ _ _ _ (fun e w' => ∃ p, e = .returned (.tuple #[.pointer p, .bool true]) ∧ QAt w' w.heap.size x p ∧ Below w.heap.size w w')
        clear ho
        go_enter Tryd.func21, Tryd.ntmps21
        go_wp2_with fail
        refine (iAskingOk_is HOK HA.out HB.out).mono ?_
        rintro e w' ⟨rfl, q, rfl⟩
        go_wp2_with fail
        refine (iReadPlan_some HP _ hl5 hs).mono ?_
        rintro e w2 ⟨p, rfl, hq, hb2⟩
        have HB2 : Hid (Below w.heap.size w w2) := bel_trans (HD.out _) hb2
        have HQ : Hid (QAt w2 w.heap.size x p) := hq
        clear hb2 hq
        go_wp2_with fail
        refine (iWith_is HO HR.out HI.out HKN.out HQ.out (HA.out.below HB2.out) (HB.out.below HB2.out) hu0 hu).mono ?_
        rintro e w3 ⟨rfl, rfl⟩
        go_wp2_with fail
        go_ret2
        exact ⟨p, rfl, HQ.out, HB2.out⟩
theorem iSetl_none {t : Int} {asks issue : List Int} {u : Int} {s : ByteArray} (h : Hid (settlingP t asks issue u s = none)) {A B : Option Addr} {na ca nb cb : Nat} {w : World} (ha : Row w A na ca asks) (hb : Row w B nb cb issue) (hs : s.size ≤ 9223372036854775807) :
    Calls Tryd.prog 21 #[.int .i64 t, .slice A na ca, .slice B nb cb, .int .i64 u, .string s] w fun e w' => e = .returned (.tuple #[.pointer none, .bool false]) ∧ Below w.heap.size w w' := by
  have := iSettlingPlan t A B na ca nb cb asks issue u s w ha hb hs
  rw [h.out] at this; exact this
theorem iSetl_some {t : Int} {asks issue : List Int} {u : Int} {s : ByteArray} {x : PlanT} (h : Hid (settlingP t asks issue u s = some x)) {A B : Option Addr} {na ca nb cb : Nat} {w : World} (ha : Row w A na ca asks) (hb : Row w B nb cb issue) (hs : s.size ≤ 9223372036854775807) :
    Calls Tryd.prog 21 #[.int .i64 t, .slice A na ca, .slice B nb cb, .int .i64 u, .string s] w fun e w' => ∃ p, e = .returned (.tuple #[.pointer p, .bool true]) ∧ QAt w' w.heap.size x p ∧ Below w.heap.size w w' := by
  have := iSettlingPlan t A B na ca nb cb asks issue u s w ha hb hs
  rw [h.out] at this; exact this
theorem iLong_is {x : PlanT} {p : Option Addr} {lo : Nat} {w : World} {d : Int} (h : Hid ((depthP x : Int) = d)) (hl : (textP x).length ≤ 1048576) (hq : QAt w lo x p) : Calls Tryd.prog 22 #[.pointer p] w fun e w' => e = .returned (.int .i64 d) ∧ Below w.heap.size w w' := by
  have := iLong x p lo w hl hq
  unfold LongPost at this
  rw [h.out] at this; exact this
set_option maxRecDepth 100000 in
set_option maxHeartbeats 4000000 in
theorem iPlanAsks (t : Int) (A B : Option Addr) (na ca nb cb : Nat) (asks issue : List Int) (u : Int) (s : ByteArray) (w : World) (ha : Row w A na ca asks) (hb : Row w B nb cb issue) (hs : s.size ≤ 9223372036854775807) :
    Calls Tryd.prog 10 #[.int .i64 t, .slice A na ca, .slice B nb cb, .int .i64 u, .string s] w (AskedPost (planAsksI t asks issue u s) w) := by
  have HA := Lib.hid ha
  have HB := Lib.hid hb
  rw [planAsks_eq]
  rcases hp : settlingP t asks issue u s with _ | x
  · have HP := Lib.hid hp
    clear hp ha hb
    show Calls _ _ _ _ (AskedPost (-1) w)
    go_enter Tryd.func10, Tryd.ntmps10
    go_wp2_with fail
    refine (iSetl_none HP HA.out HB.out hs).mono ?_
    rintro e w' ⟨rfl, hb2⟩
    have HB2 := Lib.hid hb2
    clear hb2
    go_wp2_with fail
    go_ret
    exact ⟨rfl, HB2.out⟩
  · have HP := Lib.hid hp
    have HL : Hid ((textP x).length ≤ 1048576) := by
      unfold Hid
      have h1 := planOf_is (settling_is hp).2.1
      have := congrArg List.length h1.1
      rw [bytesN_len] at this
      omega
    obtain ⟨d, HDP⟩ : ∃ d, Hid ((depthP x : Int) = d) := ⟨_, rfl⟩
    clear hp ha hb
    show Calls _ _ _ _ (AskedPost (depthP x : Int) w)
    rw [HDP.out]
    go_enter Tryd.func10, Tryd.ntmps10
    go_wp2_with fail
    refine (iSetl_some HP HA.out HB.out hs).mono ?_
    rintro e w2 ⟨p, rfl, hq, hb2⟩
    have HB2 := Lib.hid hb2
    have HQ := Lib.hid hq
    clear hb2 hq
    go_wp2_with fail
    refine (iLong_is HDP HL.out HQ.out).mono ?_
    rintro e w3 ⟨rfl, hb3⟩
    have HB3 : Hid (Below w.heap.size w w3) := bel_trans HB2.out hb3
    clear hb3
    go_wp2_with fail
    go_ret
    exact ⟨rfl, HB3.out⟩

/-- The answers' letters. -/
def ansB : List Bool → ByteArray
  | [] => ⟨#[]⟩
  | b :: r => (if b = true then ⟨#[121]⟩ else ⟨#[110]⟩) ++ ansB r
theorem ansB_size : ∀ l : List Bool, (ansB l).size = l.length
  | [] => rfl
  | b :: r => by
    show ((if b = true then (⟨#[121]⟩ : ByteArray) else ⟨#[110]⟩) ++ ansB r).size = _
    rw [ByteArray.size_append, ansB_size r, List.length_cons]
    have : (if b = true then (⟨#[121]⟩ : ByteArray) else ⟨#[110]⟩).size = 1 := by cases b <;> rfl
    omega
def AnsPost (b : ByteArray) (w : World) (e : Ending) (w' : World) : Prop := e = .returned (.string b) ∧ ∃ n, w' = w.drewN n
end Go.Proofs.YtpjpbemgjniljaaDoor

namespace Go.Proofs.YtpjpbemgjniljaaDoor
open Go.RowKit

/-- The answers that a plan gets in a world. -/
def answersToB (t : Int) (asks issue : List Int) (u : Int) (s : ByteArray) (v : Int) : Option ByteArray :=
  match settlingP t asks issue u s with
  | some x => if 0 ≤ v ∧ v < worldsOf t ∧ hasW u v.toNat = true then some (ansB (answersP asks v.toNat x)) else none
  | none => none
section
variable {t : Int} {asks issue : List Int} {u v : Int} {s : ByteArray} {x : PlanT}
theorem answersTo_none (h : settlingP t asks issue u s = none) : answersToB t asks issue u s v = none := by unfold answersToB; rw [h]
theorem answersTo_no (h : settlingP t asks issue u s = some x) (hn : ¬ (0 ≤ v ∧ v < worldsOf t ∧ hasW u v.toNat = true)) : answersToB t asks issue u s v = none := by unfold answersToB; rw [h]; simp only; rw [if_neg hn]
theorem answersTo_yes {k : Nat} (h : settlingP t asks issue u s = some x) (h1 : (k : Int) < worldsOf t) (h2 : hasW u k = true) : answersToB t asks issue u s k = some (ansB (answersP asks k x)) := by
  unfold answersToB; rw [h]; simp only; rw [if_pos ⟨by omega, h1, by rw [Int.toNat_natCast]; exact h2⟩, Int.toNat_natCast]
theorem things7 (h : ok7 t asks issue u = true) : 1 ≤ t ∧ t ≤ 3 := by
  have h2 := (ok7_parts h).2.2.2.2.2.2
  exact ⟨(setOkB_lt h2).1, (setOkB_lt h2).2.1⟩
end
def NoText (w : World) (e : Ending) (w' : World) : Prop := e = .returned (.tuple #[.string ⟨#[]⟩, .bool false]) ∧ Below w.heap.size w w'
def SomeText (b : ByteArray) (w : World) (e : Ending) (w' : World) : Prop := e = .returned (.tuple #[.string b, .bool true]) ∧ Below w.heap.size w w'
end Go.Proofs.YtpjpbemgjniljaaDoor

namespace Go.Proofs.YtpjpbemgjniljaaDoor
open Go.RowKit

theorem ans_snoc (l : List Bool) (b : Bool) : ansB l ++ (if b = true then ⟨#[121]⟩ else ⟨#[110]⟩) = ansB (l ++ [b]) := by
  induction l with
  | nil => cases b <;> rfl
  | cons a r ih =>
    show ((if a = true then (⟨#[121]⟩ : ByteArray) else ⟨#[110]⟩) ++ ansB r) ++ _ = (if a = true then (⟨#[121]⟩ : ByteArray) else ⟨#[110]⟩) ++ ansB (r ++ [b])
    rw [ByteArray.append_assoc, ih]
theorem plan_at {s : ByteArray} {p : PlanT} {at_ : Nat} {rest : List Nat} (h : (bytesN s).drop at_ = textP p ++ rest) : at_ + (textP p).length + rest.length = s.size ∨ s.size < at_ := by
  have := congrArg List.length h
  rw [List.length_drop, bytesN_len, List.length_append] at this
  omega
def SNoText (w : World) (e : Ending) (w' : World) : Prop := e = .returned (.tuple #[.string ⟨#[]⟩, .bool false]) ∧ ∃ n, w' = w.drewN n
def SSomeText (b : ByteArray) (w : World) (e : Ending) (w' : World) : Prop := e = .returned (.tuple #[.string b, .bool true]) ∧ ∃ n, w' = w.drewN n
def SAnsPost (o : Option ByteArray) (w : World) (e : Ending) (w' : World) : Prop :=
  match o with
  | some b => SSomeText b w e w'
  | none => SNoText w e w'
end Go.Proofs.YtpjpbemgjniljaaDoor
