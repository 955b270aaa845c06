/-
  What the proofs of this seat's statements share (PartJ, PartK).
-/
import Derived.Lib.BitFns
import Derived.Test.YtkjjpleedobkdaaU10
import Derived.Test.YtkjjpleedobkdaaU5
import Derived.Test.YtkjjpleedobkdaaU7

namespace Go.Proofs.Ytkjjpleedobkdaa
open Go.RowKit

theorem len_top : ∀ n : Fin 256, ∀ k : Fin 8, decide (Lib.bitLen n.val = k.val + 1) = decide (2 ^ k.val ≤ n.val ∧ n.val < 2 ^ (k.val + 1)) := by decide +kernel
theorem len_last {x : Int} {k : Nat} (h0 : 0 ≤ x) (h1 : x < 256) (hk : k < 8) : ((Lib.bitLen x.toNat : Int) == (k : Int) + 1) = lastB x k := by
  have := len_top ⟨x.toNat, by omega⟩ ⟨k, hk⟩
  rw [decide_eq_decide] at this
  unfold lastB
  rw [Bool.eq_iff_iff, beq_iff_eq, decide_eq_true_eq]
  constructor
  · intro h
    have := this.1 (by show Lib.bitLen x.toNat = k + 1; omega)
    simp only at this
    omega
  · intro h
    have := this.2 (by show 2 ^ k ≤ x.toNat ∧ x.toNat < 2 ^ (k + 1); omega)
    simp only at this
    omega
theorem iBitsLen {x : Int} {m : Int} (h : Hid ((Lib.bitLen x.toNat : Int) = m)) (h0 : 0 ≤ x) (h1 : x < 256) (w : World) : Calls Try.prog 87 #[.int .u64 x] w fun e w' => e = .returned (.int .i64 m) ∧ w = w' :=
  (Try.bits_Len x w h0 (by omega)).mono fun _ _ ⟨he, hw⟩ => ⟨he.trans (ret_int h.out), hw.symm⟩

set_option maxRecDepth 100000 in
set_option maxHeartbeats 1000000 in
theorem iAsks1 (t : Int) (A : Option Addr) (n c : Nat) (xs : List Int) (v B C : Nat) (w : World) (h1 : 1 ≤ t) (h3 : t ≤ 3) (hv : v < nWorlds t) (hs : ∀ x ∈ xs, setOkB t x = true) (ha : Row w A n c xs)
    (hc0 : w.cell? ⟨B, 0, none⟩ = some (.int .i64 t)) (hc1 : w.cell? ⟨C, 0, none⟩ = some (.slice A n c)) :
    Calls Try.prog 57 #[.int .i64 v, .pointer (some ⟨B, 0, none⟩), .pointer (some ⟨C, 0, none⟩)] w fun e w' => e = .returned (.int .i64 (partOf t xs v)) ∧ w = w' := by
  have HC := Lib.hid (iNotTold t A n c xs v w h1 h3 hv hs ha)
  clear hs ha h1 h3 hv
  go_enter Try.func57, Try.ntmps57
  go_wp2_with fail
  refine HC.out.mono ?_
  rintro e w' ⟨rfl, rfl⟩
  go_wp2_with fail
  go_ret
  exact ⟨rfl, rfl⟩
set_option maxRecDepth 100000 in
set_option maxHeartbeats 1000000 in
theorem iCoars1 (A : Option Addr) (n c : Nat) (xs : List Int) (v B : Nat) (w : World) (hv8 : v < 8) (hr : ∀ x ∈ xs, setOkB 3 x = true) (ha : Row w A n c xs) (hc0 : w.cell? ⟨B, 0, none⟩ = some (.slice A n c)) :
    Calls Try.prog 71 #[.int .i64 v, .pointer (some ⟨B, 0, none⟩)] w fun e w' => e = .returned (.int .i64 (leadP xs v)) ∧ w = w' := by
  have HC := Lib.hid (iJoined A n c xs v w hv8 hr ha)
  clear hr ha hv8
  go_enter Try.func71, Try.ntmps71
  go_wp2_with fail
  refine HC.out.mono ?_
  rintro e w' ⟨rfl, rfl⟩
  go_wp2_with fail
  go_ret
  exact ⟨rfl, rfl⟩

set_option maxRecDepth 100000 in
set_option maxHeartbeats 4000000 in
theorem iPartedA (t : Int) (p : Nat → Int) (B C : Nat) (w : World) (h1 : 1 ≤ t) (h3 : t ≤ 3) (hp : PMap t p)
    (hf : ∀ W v, Below w.heap.size w W → v < nWorlds t → Calls Try.prog 57 #[.int .i64 v, .pointer (some ⟨B, 0, none⟩), .pointer (some ⟨C, 0, none⟩)] W fun e w' => e = .returned (.int .i64 (p v)) ∧ W = w') :
    Calls Try.prog 56 #[.int .i64 t, .func (.func 57) #[] #[.pointer (some ⟨B, 0, none⟩), .pointer (some ⟨C, 0, none⟩)]] w (OwnL (tidyL (partsP t p)) w) := by
  rw [← parted_tidy h1 h3 hp]
  have HF := Lib.hid hf
  have HP : Hid (∀ v, v < nWorlds t → 0 ≤ p v ∧ p v < 256) := fun v hv => by have := pmap_pos hp hv; exact ⟨this.1, this.2.2⟩
  clear hf hp
  have ht : t = 1 ∨ t = 2 ∨ t = 3 := by omega
  clear h1 h3
  rcases ht with rfl | rfl | rfl
  · have HNW : Hid (nWorlds 1 = 2) := rfl
    rw [HNW.out] at HF HP ⊢
    go_enter Try.func56, Try.ntmps56
    go_wp2_with fail
    refine (iWorldsOf _ _).mono ?_
    rintro e w' ⟨rfl, rfl⟩
    simp only [worldsOf]
    go_wp2_with fail
    go_loopw [5, 10] (fun v i wr => ∃ k : Nat, k ≤ 2 ∧ i = .int .i64 k ∧ Owns wr w.heap.size v (partedTo p k) ∧ Below w.heap.size w wr) (fun _ i _ => 2 - (Go.RowKit.intOf i).toNat)
    case atStart => exact ⟨0, Nat.zero_le _, rfl, Owns.nil _ _, Below.refl _ _⟩
    case round =>
      obtain ⟨k, hk, rfl, hown, hbel⟩ := hrel
      obtain ⟨W0, rfl⟩ : ∃ W, W = wr := ⟨_, rfl⟩
      have HO := Lib.hid hown
      have HB := Lib.hid hbel
      have hsz := hbel.size
      have hlen := partedTo_len p k
      clear hown hbel
      by_cases hlt : k < 2
      · obtain ⟨hx0, hx1⟩ := HP.out k hlt
        have HC := Lib.hid (HF.out W0 k HB.out hlt)
        have hnx := partedTo_next p k
        have hlast := len_last hx0 hx1 (show k < 8 by omega)
        obtain ⟨x, HX⟩ : ∃ x, Hid (p k = x) := ⟨_, rfl⟩
        rw [HX.out] at hx0 hx1 HC hnx hlast
        obtain ⟨m, HM⟩ : ∃ m, Hid ((Lib.bitLen x.toNat : Int) = m) := ⟨_, rfl⟩
        rw [HM.out] at hlast
        rcases hy : lastB x k with _ | _
        · have HN : Hid (partedTo p (k + 1) = partedTo p k) := by unfold Hid; rw [hnx, hy]; simp
          rw [hy] at hlast
          clear hnx hy
          go_wp2_with fail
          refine HC.out.mono ?_
          rintro e w' ⟨rfl, rfl⟩
          go_wp2_with fail
          refine (iBitsLen HM hx0 hx1 _).mono ?_
          rintro e w' ⟨rfl, rfl⟩
          go_wp2_with fail
          go_roundw
          case rel => exact ⟨k + 1, by omega, by go_num, by rw [HN.out]; exact HO.out, HB.out⟩
          case measure => simp [Go.RowKit.intOf]; omega
        · have HN : Hid (partedTo p (k + 1) = partedTo p k ++ [x]) := by unfold Hid; rw [hnx, hy]; simp
          rw [hy] at hlast
          clear hnx hy
          go_wp2_with fail
          refine HC.out.mono ?_
          rintro e w' ⟨rfl, rfl⟩
          go_wp2_with fail
          refine (iBitsLen HM hx0 hx1 _).mono ?_
          rintro e w' ⟨rfl, rfl⟩
          go_wp2_with (at_builtin; refine wp_append1 (W := W0) rfl _ _ rfl w.heap.size u5 (partedTo p k) rfl HO.out x rfl (by omega) (by omega) ?_; intro v' w' hown' hgrow)
          have hb' := below_append HB.out HB.out.size HO.out (Nat.le_refl _) hgrow
          go_roundw
          case rel => exact ⟨k + 1, by omega, by go_num, by rw [HN.out]; exact hown', hb'⟩
          case measure => simp [Go.RowKit.intOf]; omega
      · obtain rfl : k = 2 := by omega
        go_wp2_with fail
        go_ret
        exact ⟨_, rfl, HO.out, HB.out⟩
  · have HNW : Hid (nWorlds 2 = 4) := rfl
    rw [HNW.out] at HF HP ⊢
    go_enter Try.func56, Try.ntmps56
    go_wp2_with fail
    refine (iWorldsOf _ _).mono ?_
    rintro e w' ⟨rfl, rfl⟩
    simp only [worldsOf]
    go_wp2_with fail
    go_loopw [5, 10] (fun v i wr => ∃ k : Nat, k ≤ 4 ∧ i = .int .i64 k ∧ Owns wr w.heap.size v (partedTo p k) ∧ Below w.heap.size w wr) (fun _ i _ => 4 - (Go.RowKit.intOf i).toNat)
    case atStart => exact ⟨0, Nat.zero_le _, rfl, Owns.nil _ _, Below.refl _ _⟩
    case round =>
      obtain ⟨k, hk, rfl, hown, hbel⟩ := hrel
      obtain ⟨W0, rfl⟩ : ∃ W, W = wr := ⟨_, rfl⟩
      have HO := Lib.hid hown
      have HB := Lib.hid hbel
      have hsz := hbel.size
      have hlen := partedTo_len p k
      clear hown hbel
      by_cases hlt : k < 4
      · obtain ⟨hx0, hx1⟩ := HP.out k hlt
        have HC := Lib.hid (HF.out W0 k HB.out hlt)
        have hnx := partedTo_next p k
        have hlast := len_last hx0 hx1 (show k < 8 by omega)
        obtain ⟨x, HX⟩ : ∃ x, Hid (p k = x) := ⟨_, rfl⟩
        rw [HX.out] at hx0 hx1 HC hnx hlast
        obtain ⟨m, HM⟩ : ∃ m, Hid ((Lib.bitLen x.toNat : Int) = m) := ⟨_, rfl⟩
        rw [HM.out] at hlast
        rcases hy : lastB x k with _ | _
        · have HN : Hid (partedTo p (k + 1) = partedTo p k) := by unfold Hid; rw [hnx, hy]; simp
          rw [hy] at hlast
          clear hnx hy
          go_wp2_with fail
          refine HC.out.mono ?_
          rintro e w' ⟨rfl, rfl⟩
          go_wp2_with fail
          refine (iBitsLen HM hx0 hx1 _).mono ?_
          rintro e w' ⟨rfl, rfl⟩
          go_wp2_with fail
          go_roundw
          case rel => exact ⟨k + 1, by omega, by go_num, by rw [HN.out]; exact HO.out, HB.out⟩
          case measure => simp [Go.RowKit.intOf]; omega
        · have HN : Hid (partedTo p (k + 1) = partedTo p k ++ [x]) := by unfold Hid; rw [hnx, hy]; simp
          rw [hy] at hlast
          clear hnx hy
          go_wp2_with fail
          refine HC.out.mono ?_
          rintro e w' ⟨rfl, rfl⟩
          go_wp2_with fail
          refine (iBitsLen HM hx0 hx1 _).mono ?_
          rintro e w' ⟨rfl, rfl⟩
          go_wp2_with (at_builtin; refine wp_append1 (W := W0) rfl _ _ rfl w.heap.size u5 (partedTo p k) rfl HO.out x rfl (by omega) (by omega) ?_; intro v' w' hown' hgrow)
          have hb' := below_append HB.out HB.out.size HO.out (Nat.le_refl _) hgrow
          go_roundw
          case rel => exact ⟨k + 1, by omega, by go_num, by rw [HN.out]; exact hown', hb'⟩
          case measure => simp [Go.RowKit.intOf]; omega
      · obtain rfl : k = 4 := by omega
        go_wp2_with fail
        go_ret
        exact ⟨_, rfl, HO.out, HB.out⟩
  · have HNW : Hid (nWorlds 3 = 8) := rfl
    rw [HNW.out] at HF HP ⊢
    go_enter Try.func56, Try.ntmps56
    go_wp2_with fail
    refine (iWorldsOf _ _).mono ?_
    rintro e w' ⟨rfl, rfl⟩
    simp only [worldsOf]
    go_wp2_with fail
    go_loopw [5, 10] (fun v i wr => ∃ k : Nat, k ≤ 8 ∧ i = .int .i64 k ∧ Owns wr w.heap.size v (partedTo p k) ∧ Below w.heap.size w wr) (fun _ i _ => 8 - (Go.RowKit.intOf i).toNat)
    case atStart => exact ⟨0, Nat.zero_le _, rfl, Owns.nil _ _, Below.refl _ _⟩
    case round =>
      obtain ⟨k, hk, rfl, hown, hbel⟩ := hrel
      obtain ⟨W0, rfl⟩ : ∃ W, W = wr := ⟨_, rfl⟩
      have HO := Lib.hid hown
      have HB := Lib.hid hbel
      have hsz := hbel.size
      have hlen := partedTo_len p k
      clear hown hbel
      by_cases hlt : k < 8
      · obtain ⟨hx0, hx1⟩ := HP.out k hlt
        have HC := Lib.hid (HF.out W0 k HB.out hlt)
        have hnx := partedTo_next p k
        have hlast := len_last hx0 hx1 (show k < 8 by omega)
        obtain ⟨x, HX⟩ : ∃ x, Hid (p k = x) := ⟨_, rfl⟩
        rw [HX.out] at hx0 hx1 HC hnx hlast
        obtain ⟨m, HM⟩ : ∃ m, Hid ((Lib.bitLen x.toNat : Int) = m) := ⟨_, rfl⟩
        rw [HM.out] at hlast
        rcases hy : lastB x k with _ | _
        · have HN : Hid (partedTo p (k + 1) = partedTo p k) := by unfold Hid; rw [hnx, hy]; simp
          rw [hy] at hlast
          clear hnx hy
          go_wp2_with fail
          refine HC.out.mono ?_
          rintro e w' ⟨rfl, rfl⟩
          go_wp2_with fail
          refine (iBitsLen HM hx0 hx1 _).mono ?_
          rintro e w' ⟨rfl, rfl⟩
          go_wp2_with fail
          go_roundw
          case rel => exact ⟨k + 1, by omega, by go_num, by rw [HN.out]; exact HO.out, HB.out⟩
          case measure => simp [Go.RowKit.intOf]; omega
        · have HN : Hid (partedTo p (k + 1) = partedTo p k ++ [x]) := by unfold Hid; rw [hnx, hy]; simp
          rw [hy] at hlast
          clear hnx hy
          go_wp2_with fail
          refine HC.out.mono ?_
          rintro e w' ⟨rfl, rfl⟩
          go_wp2_with fail
          refine (iBitsLen HM hx0 hx1 _).mono ?_
          rintro e w' ⟨rfl, rfl⟩
          go_wp2_with (at_builtin; refine wp_append1 (W := W0) rfl _ _ rfl w.heap.size u5 (partedTo p k) rfl HO.out x rfl (by omega) (by omega) ?_; intro v' w' hown' hgrow)
          have hb' := below_append HB.out HB.out.size HO.out (Nat.le_refl _) hgrow
          go_roundw
          case rel => exact ⟨k + 1, by omega, by go_num, by rw [HN.out]; exact hown', hb'⟩
          case measure => simp [Go.RowKit.intOf]; omega
      · obtain rfl : k = 8 := by omega
        go_wp2_with fail
        go_ret
        exact ⟨_, rfl, HO.out, HB.out⟩
set_option maxRecDepth 100000 in
set_option maxHeartbeats 4000000 in
theorem iPartedC (t : Int) (p : Nat → Int) (B : Nat) (w : World) (h1 : 1 ≤ t) (h3 : t ≤ 3) (hp : PMap t p)
    (hf : ∀ W v, Below w.heap.size w W → v < nWorlds t → Calls Try.prog 71 #[.int .i64 v, .pointer (some ⟨B, 0, none⟩)] W fun e w' => e = .returned (.int .i64 (p v)) ∧ W = w') :
    Calls Try.prog 56 #[.int .i64 t, .func (.func 71) #[] #[.pointer (some ⟨B, 0, none⟩)]] w (OwnL (tidyL (partsP t p)) w) := by
  rw [← parted_tidy h1 h3 hp]
  have HF := Lib.hid hf
  have HP : Hid (∀ v, v < nWorlds t → 0 ≤ p v ∧ p v < 256) := fun v hv => by have := pmap_pos hp hv; exact ⟨this.1, this.2.2⟩
  clear hf hp
  have ht : t = 1 ∨ t = 2 ∨ t = 3 := by omega
  clear h1 h3
  rcases ht with rfl | rfl | rfl
  · have HNW : Hid (nWorlds 1 = 2) := rfl
    rw [HNW.out] at HF HP ⊢
    go_enter Try.func56, Try.ntmps56
    go_wp2_with fail
    refine (iWorldsOf _ _).mono ?_
    rintro e w' ⟨rfl, rfl⟩
    simp only [worldsOf]
    go_wp2_with fail
    go_loopw [5, 10] (fun v i wr => ∃ k : Nat, k ≤ 2 ∧ i = .int .i64 k ∧ Owns wr w.heap.size v (partedTo p k) ∧ Below w.heap.size w wr) (fun _ i _ => 2 - (Go.RowKit.intOf i).toNat)
    case atStart => exact ⟨0, Nat.zero_le _, rfl, Owns.nil _ _, Below.refl _ _⟩
    case round =>
      obtain ⟨k, hk, rfl, hown, hbel⟩ := hrel
      obtain ⟨W0, rfl⟩ : ∃ W, W = wr := ⟨_, rfl⟩
      have HO := Lib.hid hown
      have HB := Lib.hid hbel
      have hsz := hbel.size
      have hlen := partedTo_len p k
      clear hown hbel
      by_cases hlt : k < 2
      · obtain ⟨hx0, hx1⟩ := HP.out k hlt
        have HC := Lib.hid (HF.out W0 k HB.out hlt)
        have hnx := partedTo_next p k
        have hlast := len_last hx0 hx1 (show k < 8 by omega)
        obtain ⟨x, HX⟩ : ∃ x, Hid (p k = x) := ⟨_, rfl⟩
        rw [HX.out] at hx0 hx1 HC hnx hlast
        obtain ⟨m, HM⟩ : ∃ m, Hid ((Lib.bitLen x.toNat : Int) = m) := ⟨_, rfl⟩
        rw [HM.out] at hlast
        rcases hy : lastB x k with _ | _
        · have HN : Hid (partedTo p (k + 1) = partedTo p k) := by unfold Hid; rw [hnx, hy]; simp
          rw [hy] at hlast
          clear hnx hy
          go_wp2_with fail
          refine HC.out.mono ?_
          rintro e w' ⟨rfl, rfl⟩
          go_wp2_with fail
          refine (iBitsLen HM hx0 hx1 _).mono ?_
          rintro e w' ⟨rfl, rfl⟩
          go_wp2_with fail
          go_roundw
          case rel => exact ⟨k + 1, by omega, by go_num, by rw [HN.out]; exact HO.out, HB.out⟩
          case measure => simp [Go.RowKit.intOf]; omega
        · have HN : Hid (partedTo p (k + 1) = partedTo p k ++ [x]) := by unfold Hid; rw [hnx, hy]; simp
          rw [hy] at hlast
          clear hnx hy
          go_wp2_with fail
          refine HC.out.mono ?_
          rintro e w' ⟨rfl, rfl⟩
          go_wp2_with fail
          refine (iBitsLen HM hx0 hx1 _).mono ?_
          rintro e w' ⟨rfl, rfl⟩
          go_wp2_with (at_builtin; refine wp_append1 (W := W0) rfl _ _ rfl w.heap.size u5 (partedTo p k) rfl HO.out x rfl (by omega) (by omega) ?_; intro v' w' hown' hgrow)
          have hb' := below_append HB.out HB.out.size HO.out (Nat.le_refl _) hgrow
          go_roundw
          case rel => exact ⟨k + 1, by omega, by go_num, by rw [HN.out]; exact hown', hb'⟩
          case measure => simp [Go.RowKit.intOf]; omega
      · obtain rfl : k = 2 := by omega
        go_wp2_with fail
        go_ret
        exact ⟨_, rfl, HO.out, HB.out⟩
  · have HNW : Hid (nWorlds 2 = 4) := rfl
    rw [HNW.out] at HF HP ⊢
    go_enter Try.func56, Try.ntmps56
    go_wp2_with fail
    refine (iWorldsOf _ _).mono ?_
    rintro e w' ⟨rfl, rfl⟩
    simp only [worldsOf]
    go_wp2_with fail
    go_loopw [5, 10] (fun v i wr => ∃ k : Nat, k ≤ 4 ∧ i = .int .i64 k ∧ Owns wr w.heap.size v (partedTo p k) ∧ Below w.heap.size w wr) (fun _ i _ => 4 - (Go.RowKit.intOf i).toNat)
    case atStart => exact ⟨0, Nat.zero_le _, rfl, Owns.nil _ _, Below.refl _ _⟩
    case round =>
      obtain ⟨k, hk, rfl, hown, hbel⟩ := hrel
      obtain ⟨W0, rfl⟩ : ∃ W, W = wr := ⟨_, rfl⟩
      have HO := Lib.hid hown
      have HB := Lib.hid hbel
      have hsz := hbel.size
      have hlen := partedTo_len p k
      clear hown hbel
      by_cases hlt : k < 4
      · obtain ⟨hx0, hx1⟩ := HP.out k hlt
        have HC := Lib.hid (HF.out W0 k HB.out hlt)
        have hnx := partedTo_next p k
        have hlast := len_last hx0 hx1 (show k < 8 by omega)
        obtain ⟨x, HX⟩ : ∃ x, Hid (p k = x) := ⟨_, rfl⟩
        rw [HX.out] at hx0 hx1 HC hnx hlast
        obtain ⟨m, HM⟩ : ∃ m, Hid ((Lib.bitLen x.toNat : Int) = m) := ⟨_, rfl⟩
        rw [HM.out] at hlast
        rcases hy : lastB x k with _ | _
        · have HN : Hid (partedTo p (k + 1) = partedTo p k) := by unfold Hid; rw [hnx, hy]; simp
          rw [hy] at hlast
          clear hnx hy
          go_wp2_with fail
          refine HC.out.mono ?_
          rintro e w' ⟨rfl, rfl⟩
          go_wp2_with fail
          refine (iBitsLen HM hx0 hx1 _).mono ?_
          rintro e w' ⟨rfl, rfl⟩
          go_wp2_with fail
          go_roundw
          case rel => exact ⟨k + 1, by omega, by go_num, by rw [HN.out]; exact HO.out, HB.out⟩
          case measure => simp [Go.RowKit.intOf]; omega
        · have HN : Hid (partedTo p (k + 1) = partedTo p k ++ [x]) := by unfold Hid; rw [hnx, hy]; simp
          rw [hy] at hlast
          clear hnx hy
          go_wp2_with fail
          refine HC.out.mono ?_
          rintro e w' ⟨rfl, rfl⟩
          go_wp2_with fail
          refine (iBitsLen HM hx0 hx1 _).mono ?_
          rintro e w' ⟨rfl, rfl⟩
          go_wp2_with (at_builtin; refine wp_append1 (W := W0) rfl _ _ rfl w.heap.size u5 (partedTo p k) rfl HO.out x rfl (by omega) (by omega) ?_; intro v' w' hown' hgrow)
          have hb' := below_append HB.out HB.out.size HO.out (Nat.le_refl _) hgrow
          go_roundw
          case rel => exact ⟨k + 1, by omega, by go_num, by rw [HN.out]; exact hown', hb'⟩
          case measure => simp [Go.RowKit.intOf]; omega
      · obtain rfl : k = 4 := by omega
        go_wp2_with fail
        go_ret
        exact ⟨_, rfl, HO.out, HB.out⟩
  · have HNW : Hid (nWorlds 3 = 8) := rfl
    rw [HNW.out] at HF HP ⊢
    go_enter Try.func56, Try.ntmps56
    go_wp2_with fail
    refine (iWorldsOf _ _).mono ?_
    rintro e w' ⟨rfl, rfl⟩
    simp only [worldsOf]
    go_wp2_with fail
    go_loopw [5, 10] (fun v i wr => ∃ k : Nat, k ≤ 8 ∧ i = .int .i64 k ∧ Owns wr w.heap.size v (partedTo p k) ∧ Below w.heap.size w wr) (fun _ i _ => 8 - (Go.RowKit.intOf i).toNat)
    case atStart => exact ⟨0, Nat.zero_le _, rfl, Owns.nil _ _, Below.refl _ _⟩
    case round =>
      obtain ⟨k, hk, rfl, hown, hbel⟩ := hrel
      obtain ⟨W0, rfl⟩ : ∃ W, W = wr := ⟨_, rfl⟩
      have HO := Lib.hid hown
      have HB := Lib.hid hbel
      have hsz := hbel.size
      have hlen := partedTo_len p k
      clear hown hbel
      by_cases hlt : k < 8
      · obtain ⟨hx0, hx1⟩ := HP.out k hlt
        have HC := Lib.hid (HF.out W0 k HB.out hlt)
        have hnx := partedTo_next p k
        have hlast := len_last hx0 hx1 (show k < 8 by omega)
        obtain ⟨x, HX⟩ : ∃ x, Hid (p k = x) := ⟨_, rfl⟩
        rw [HX.out] at hx0 hx1 HC hnx hlast
        obtain ⟨m, HM⟩ : ∃ m, Hid ((Lib.bitLen x.toNat : Int) = m) := ⟨_, rfl⟩
        rw [HM.out] at hlast
        rcases hy : lastB x k with _ | _
        · have HN : Hid (partedTo p (k + 1) = partedTo p k) := by unfold Hid; rw [hnx, hy]; simp
          rw [hy] at hlast
          clear hnx hy
          go_wp2_with fail
          refine HC.out.mono ?_
          rintro e w' ⟨rfl, rfl⟩
          go_wp2_with fail
          refine (iBitsLen HM hx0 hx1 _).mono ?_
          rintro e w' ⟨rfl, rfl⟩
          go_wp2_with fail
          go_roundw
          case rel => exact ⟨k + 1, by omega, by go_num, by rw [HN.out]; exact HO.out, HB.out⟩
          case measure => simp [Go.RowKit.intOf]; omega
        · have HN : Hid (partedTo p (k + 1) = partedTo p k ++ [x]) := by unfold Hid; rw [hnx, hy]; simp
          rw [hy] at hlast
          clear hnx hy
          go_wp2_with fail
          refine HC.out.mono ?_
          rintro e w' ⟨rfl, rfl⟩
          go_wp2_with fail
          refine (iBitsLen HM hx0 hx1 _).mono ?_
          rintro e w' ⟨rfl, rfl⟩
          go_wp2_with (at_builtin; refine wp_append1 (W := W0) rfl _ _ rfl w.heap.size u5 (partedTo p k) rfl HO.out x rfl (by omega) (by omega) ?_; intro v' w' hown' hgrow)
          have hb' := below_append HB.out HB.out.size HO.out (Nat.le_refl _) hgrow
          go_roundw
          case rel => exact ⟨k + 1, by omega, by go_num, by rw [HN.out]; exact hown', hb'⟩
          case measure => simp [Go.RowKit.intOf]; omega
      · obtain rfl : k = 8 := by omega
        go_wp2_with fail
        go_ret
        exact ⟨_, rfl, HO.out, HB.out⟩
end Go.Proofs.Ytkjjpleedobkdaa

namespace Go.Proofs.Ytkjjpleedobkdaa
open Go.RowKit

theorem asks_yes {t : Int} {xs : List Int} (h : stateB t xs = true) : asksL t xs = tidyL (partsP t (partOf t xs)) := by rw [asks_state, if_pos h, partsX_eq]
theorem asks_no {t : Int} {xs : List Int} (h : stateB t xs = false) : asksL t xs = [] := by rw [asks_state, if_neg (by rw [h]; simp)]
theorem asks_len (t : Int) (xs : List Int) : (asksL t xs).length ≤ 8 := by
  cases h : stateB t xs
  · rw [asks_no h]; exact Nat.zero_le _
  · obtain ⟨h1, h3, _⟩ := state_of h
    rw [asks_yes h, ← parted_tidy h1 h3 (partOf_pmap h1 h3)]
    refine Nat.le_trans (partedTo_len _ _) ?_
    have : t = 1 ∨ t = 2 ∨ t = 3 := by omega
    rcases this with rfl | rfl | rfl <;> decide
theorem coarser_no {t : Int} {a b : List Int} (h : (isPartB t a && isPartB t b) = false) : coarserL t a b = [] := by unfold coarserL; rw [h]; rfl
theorem coarser_len (t : Int) (a b : List Int) : (coarserL t a b).length ≤ 8 := by
  cases h : (isPartB t a && isPartB t b)
  · rw [coarser_no h]; exact Nat.zero_le _
  · rw [Bool.and_eq_true] at h
    obtain ⟨h1, h3⟩ := part_things h.1
    rw [coarser_eq h.1 h.2, ← parted_tidy h1 h3 (two_pmap h.1 h.2)]
    refine Nat.le_trans (partedTo_len _ _) ?_
    have : t = 1 ∨ t = 2 ∨ t = 3 := by omega
    rcases this with rfl | rfl | rfl <;> decide
theorem box_cells (w : World) (u v : Value) (a b : TypeId) : ((w.alloc (.cells #[u] a)).alloc (.cells #[v] b)).cell? ⟨w.heap.size, 0, none⟩ = some u ∧ ((w.alloc (.cells #[u] a)).alloc (.cells #[v] b)).cell? ⟨w.heap.size + 1, 0, none⟩ = some v := by
  constructor
  · rw [World.cell?_alloc_past _ _ _ (by simp), World.cell?_alloc_at _ _ _ _ rfl]; rfl
  · rw [World.cell?_alloc_at _ _ _ _ (by simp)]; rfl

set_option maxRecDepth 100000 in
set_option maxHeartbeats 4000000 in
theorem iAsksOf (t : Int) (A : Option Addr) (n c : Nat) (xs : List Int) (w : World) (ha : Row w A n c xs) : Calls Try.prog 19 #[.int .i64 t, .slice A n c] w (OwnL (asksL t xs) w) := by
  have hmf : ∀ (fn : Fn) (first cap : Array Value) (w : World), (Instr.makeFunc fn first cap).run Try.prog w = .ok (.func fn first cap) w := fun _ _ _ _ => rfl
  have HB0 : Hid (Below w.heap.size w ((w.alloc (.cells #[.int .i64 t] 3)).alloc (.cells #[.slice A n c] 23))) := ((Below.refl _ _).alloc (Nat.le_refl _) _).alloc (by rw [World.size_alloc]; exact Nat.le_succ _) _
  obtain ⟨hc0, hc1⟩ := box_cells w (.int .i64 t) (.slice A n c) 3 23
  have HR0 := Lib.hid (ha.below HB0.out)
  have HSZ : Hid (((w.alloc (.cells #[.int .i64 t] 3)).alloc (.cells #[.slice A n c] 23)).heap.size = w.heap.size + 1 + 1) := by unfold Hid; rw [World.size_alloc, World.size_alloc]
  clear ha
  rcases hx : stateB t xs with _ | _
  · have HX := Lib.hid hx
    have HF := Lib.hid (asks_no hx)
    clear hx
    go_enter Try.func19, Try.ntmps19
    go_wp2_with fail
    refine (iStatementsOk_is HX HR0.out).mono ?_
    rintro e w' ⟨rfl, rfl⟩
    clear hc0 hc1
    go_wp2_with fail
    go_ret
    exact ⟨_, rfl, by rw [HF.out]; exact Owns.nil _ _, HB0.out⟩
  · have HX := Lib.hid hx
    have HF := Lib.hid (asks_yes hx)
    obtain ⟨h1, h3, hs, _⟩ := state_of hx
    have HS := Lib.hid hs
    have HC0 := Lib.hid hc0
    have HC1 := Lib.hid hc1
    clear hx hs
    go_enter Try.func19, Try.ntmps19
    go_wp2_with fail
    refine (iStatementsOk_is HX HR0.out).mono ?_
    rintro e w' ⟨rfl, rfl⟩
    go_wp2_with fail
    clear hc0 hc1
    refine (iPartedA t (partOf t xs) w.heap.size (w.heap.size + 1) _ h1 h3 (partOf_pmap h1 h3) (fun W v hb hv => iAsks1 t A n c xs v _ _ W h1 h3 hv HS.out (HR0.out.below hb)
      ((hb.cell (p := ⟨w.heap.size, 0, none⟩) (by rw [HSZ.out]; show w.heap.size < _; omega)).trans HC0.out) ((hb.cell (p := ⟨w.heap.size + 1, 0, none⟩) (by rw [HSZ.out]; show w.heap.size + 1 < _; omega)).trans HC1.out))).mono ?_
    rintro e w1 ⟨v, rfl, ho, hb⟩
    have HO := Lib.hid ho
    have HB := Lib.hid (bel_trans HB0.out hb)
    clear ho hb
    go_wp2_with fail
    go_ret
    exact ⟨_, rfl, by rw [HF.out]; exact HO.out.base (by rw [HSZ.out]; omega), HB.out⟩
theorem iAsksOf_is {t : Int} {xs l : List Int} (h : Hid (asksL t xs = l)) {A : Option Addr} {n c : Nat} {w : World} (ha : Row w A n c xs) : Calls Try.prog 19 #[.int .i64 t, .slice A n c] w (OwnL l w) := by
  have := iAsksOf t A n c xs w ha
  rw [h.out] at this; exact this

theorem box_slice (W : World) (v : Value) (t : TypeId) : (W.alloc (.cells #[v] t)).cell? ⟨W.heap.size, 0, none⟩ = some v := by rw [World.cell?_alloc_at _ _ _ _ rfl]; rfl
set_option maxRecDepth 100000 in
set_option maxHeartbeats 4000000 in
theorem iCoarserOf (t : Int) (A B : Option Addr) (na ca nb cb : Nat) (a b : List Int) (w : World) (ha : Row w A na ca a) (hb : Row w B nb cb b) :
    Calls Try.prog 32 #[.int .i64 t, .slice A na ca, .slice B nb cb] w (OwnL (coarserL t a b) w) := by
  have hmf : ∀ (fn : Fn) (first cap : Array Value) (w : World), (Instr.makeFunc fn first cap).run Try.prog w = .ok (.func fn first cap) w := fun _ _ _ _ => rfl
  have HA := Lib.hid ha
  have HB := Lib.hid hb
  obtain rfl := ha.hn
  obtain rfl := hb.hn
  clear ha hb
  rcases h1 : isPartB t a with _ | _
  · have H1 := Lib.hid h1
    have HF : Hid (coarserL t a b = []) := coarser_no (by rw [h1]; rfl)
    clear h1
    go_enter Try.func32, Try.ntmps32
    go_wp2_with fail
    refine (iIsPart_is H1 HA.out).mono ?_
    rintro e w' ⟨rfl, m, rfl⟩
    go_wp2_with fail
    go_ret
    exact ⟨_, rfl, by rw [HF.out]; exact Owns.nil _ _, bel_drewN (Below.refl _ _) _⟩
  · rcases h2 : isPartB t b with _ | _
    · have H1 := Lib.hid h1
      have H2 := Lib.hid h2
      have HF : Hid (coarserL t a b = []) := coarser_no (by rw [h1, h2]; rfl)
      clear h1 h2
      go_enter Try.func32, Try.ntmps32
      go_wp2_with fail
      refine (iIsPart_is H1 HA.out).mono ?_
      rintro e w' ⟨rfl, m, rfl⟩
      go_wp2_with fail
      refine (iIsPart_is H2 (HB.out.drewN m)).mono ?_
      rintro e w' ⟨rfl, m2, rfl⟩
      go_wp2_with fail
      go_ret
      exact ⟨_, rfl, by rw [HF.out]; exact Owns.nil _ _, bel_drewN (Below.refl _ _) _⟩
    · have H1 := Lib.hid h1
      have H2 := Lib.hid h2
      have HF := Lib.hid (coarser_eq h1 h2)
      have HPM := Lib.hid (two_pmap h1 h2)
      obtain ⟨ht1, ht3⟩ := part_things h1
      have HS : Hid (∀ x ∈ a ++ b, setOkB 3 x = true) := fun x hx => by
        have := setOkB_lt (two_sets h1 h2 x hx)
        exact setOk_of (by omega) (by omega) this.2.2.1 (by show x ≤ 255; omega)
      obtain ⟨hla, hla2⟩ := issue_ne (part_issue h1)
      obtain ⟨hlb, hlb2⟩ := issue_ne (part_issue h2)
      have HW8 : Hid (∀ v, v < nWorlds t → v < 8) := fun v hv => by
        have : t = 1 ∨ t = 2 ∨ t = 3 := by omega
        rcases this with rfl | rfl | rfl
        · exact Nat.lt_trans hv (by decide)
        · exact Nat.lt_trans hv (by decide)
        · exact hv
      clear h1 h2
      obtain ⟨ab, HAB⟩ : ∃ l, Hid (a ++ b = l) := ⟨_, rfl⟩
      have hle : ab.length ≤ 1048576 := by rw [← HAB.out, List.length_append]; omega
      rw [HAB.out] at HF HPM HS
      go_enter Try.func32, Try.ntmps32
      go_wp2_with fail
      refine (iIsPart_is H1 HA.out).mono ?_
      rintro e w' ⟨rfl, m, rfl⟩
      go_wp2_with fail
      refine (iIsPart_is H2 (HB.out.drewN m)).mono ?_
      rintro e w' ⟨rfl, m2, rfl⟩
      go_wp2_with fail
      have hbel : ∀ o, Below w.heap.size w ((w.drewN (m + m2)).alloc o) := fun o => (bel_drewN (Below.refl _ _) _).alloc (Nat.le_refl _) _
      refine (iConcat w.heap.size A B a.length ca b.length cb a b _ (by rw [World.size_alloc]; exact Nat.lt_succ_self _) (two_cells (w.drewN (m + m2)) _ _ _).1 (two_cells (w.drewN (m + m2)) _ _ _).2 (HA.out.below (hbel _)) (HB.out.below (hbel _)) hla hlb (by omega)).mono ?_
      rintro e w1 ⟨v, rfl, ho, hb⟩
      rw [HAB.out] at ho
      obtain ⟨A1, c1, rfl, _, _, _, _⟩ := ho.form
      have HR1 := Lib.hid (Owns.row ho hle)
      have HB1 := Lib.hid (hbel _ |>.trans (hb.mono (by rw [World.size_alloc]; exact Nat.le_succ _)))
      have hsz1 := HB1.out.size
      clear ho hb hbel
      go_wp2_with fail
      have HBX : Hid (Below w.heap.size w (w1.alloc (.cells #[.slice A1 ab.length c1] 23))) := HB1.out.alloc hsz1 _
      have HRX := Lib.hid (HR1.out.below ((Below.refl w1.heap.size w1).alloc (Nat.le_refl _) (.cells #[.slice A1 ab.length c1] 23)))
      have HCX := Lib.hid (box_slice w1 (.slice A1 ab.length c1) 23)
      have HSX : Hid (w1.heap.size < (w1.alloc (.cells #[.slice A1 ab.length c1] 23)).heap.size) := by unfold Hid; rw [World.size_alloc]; exact Nat.lt_succ_self _
      refine (iPartedC t (leadP ab) w1.heap.size _ ht1 ht3 HPM.out (fun W v hb hv => iCoars1 A1 ab.length c1 ab v _ W (HW8.out v hv) HS.out (HRX.out.below hb)
        ((hb.cell (p := ⟨w1.heap.size, 0, none⟩) HSX.out).trans HCX.out))).mono ?_
      rintro e w2 ⟨v, rfl, ho, hb⟩
      have HO := Lib.hid ho
      have HB2 := Lib.hid (bel_trans HBX.out hb)
      have hsz2 := HBX.out.size
      clear ho hb
      go_wp2_with fail
      go_ret
      exact ⟨_, rfl, by rw [HF.out]; exact HO.out.base hsz2, HB2.out⟩
theorem iCoarserOf_is {t : Int} {a b l : List Int} (h : Hid (coarserL t a b = l)) {A B : Option Addr} {na ca nb cb : Nat} {w : World} (ha : Row w A na ca a) (hb : Row w B nb cb b) :
    Calls Try.prog 32 #[.int .i64 t, .slice A na ca, .slice B nb cb] w (OwnL l w) := by
  have := iCoarserOf t A B na ca nb cb a b w ha hb
  rw [h.out] at this; exact this

def answerI (t : Int) (xs : List Int) (u : Int) : Int := if (isPartB t xs && decide (0 ≤ u ∧ u < worldsOf t)) = true then (xs.find? fun x => hasW x u.toNat).getD (-1) else -1
set_option maxRecDepth 100000 in
set_option maxHeartbeats 1000000 in
theorem iAnswer1 (x : Int) (v B : Nat) (w : World) (hv8 : v < 8) (hx0 : 0 ≤ x) (hx1 : x < 256) (hc0 : w.cell? ⟨B, 0, none⟩ = some (.int .i64 v)) :
    Calls Try.prog 68 #[.int .i64 x, .pointer (some ⟨B, 0, none⟩)] w fun e w' => e = .returned (.bool (hasW x v)) ∧ w = w' := by
  have hwp := wrap_pow6p hv8
  have hw8 : 2 ^ v < 256 := Nat.lt_of_le_of_lt (Nat.pow_le_pow_right (by omega) (show v ≤ 7 by omega)) (by decide)
  obtain ⟨b, HB⟩ : ∃ b, Hid (hasW x v = b) := ⟨_, rfl⟩
  have HW : Hid (withinB (worldS v) x = b) := by unfold Hid; rw [← HB.out, Bool.eq_iff_iff]; exact world_within v
  rw [HB.out]
  go_enter Try.func68, Try.ntmps68
  go_wp2_with fail
  refine (iWithin_is6 HW (Int.natCast_nonneg _) (by unfold worldS; omega) hx0 hx1 _).mono ?_
  rintro e w' ⟨rfl, rfl⟩
  go_wp2_with fail
  go_ret
  exact ⟨rfl, rfl⟩
set_option maxRecDepth 100000 in
set_option maxHeartbeats 4000000 in
theorem iIndexFunc (A : Option Addr) (n c : Nat) (xs : List Int) (v B j : Nat) (w : World) (hv8 : v < 8) (hr : ∀ x ∈ xs, 0 ≤ x ∧ x < 256) (ha : Row w A n c xs) (hc0 : w.cell? ⟨B, 0, none⟩ = some (.int .i64 v))
    (hj : ∃ x, xs[j]? = some x ∧ hasW x v = true) (hm : ∀ i x, i < j → xs[i]? = some x → hasW x v = false) :
    Calls Try.prog 67 #[.slice A n c, .func (.func 68) #[] #[.pointer (some ⟨B, 0, none⟩)]] w fun e w' => e = .returned (.int .i64 j) ∧ w = w' := by
  have HA := Lib.hid ha
  obtain rfl := ha.hn
  have hl := ha.hl
  have HR := Lib.hid hr
  have HJ := Lib.hid hj
  have HM := Lib.hid hm
  have HC := Lib.hid hc0
  have hjl : j < xs.length := by obtain ⟨x, hx, _⟩ := hj; exact (List.getElem?_eq_some_iff.1 hx).1
  clear ha hr hj hm hc0
  go_enter Try.func67, Try.ntmps67
  go_wp2_with fail
  go_loop [5, 8] (fun _ i => ∃ k : Nat, k ≤ j ∧ i = .int .i64 k) (fun _ i => j + 1 - (intOf i).toNat)
  case atStart => exact ⟨0, Nat.zero_le _, rfl⟩
  case round =>
    obtain ⟨k, hk, rfl⟩ := hrel
    have hlt : k < xs.length := by omega
    obtain ⟨b, off, x, rfl, hcell, hx, _⟩ := HA.out.hA.elem hlt
    obtain ⟨hx0, hx1⟩ := HR.out x (elem_mem hx)
    have hp := iAnswer1 x v B w hv8 hx0 hx1 HC.out
    by_cases hkj : k = j
    · subst hkj
      have hy : hasW x v = true := by
        obtain ⟨y, hy, hyw⟩ := HJ.out
        have := hx.out
        rw [this] at hy; cases hy; exact hyw
      rw [hy] at hp
      have HP := Lib.hid hp
      clear hp hy
      go_wp2_with fail
      refine HP.out.mono ?_
      rintro e w' ⟨rfl, rfl⟩
      go_wp2_with fail
      go_ret
      exact ⟨rfl, rfl⟩
    · rw [HM.out k x (by omega) hx.out] at hp
      have HP := Lib.hid hp
      clear hp
      go_wp2_with fail
      refine HP.out.mono ?_
      rintro e w' ⟨rfl, rfl⟩
      go_wp2_with fail
      go_round
      case rel => exact ⟨k + 1, by omega, by go_num⟩
      case measure => simp [intOf]; omega
theorem find_at {xs : List Int} {p : Int → Bool} {x : Int} (h : xs.find? p = some x) : ∃ j : Nat, xs[j]? = some x ∧ p x = true ∧ ∀ i y, i < j → xs[i]? = some y → p y = false := by
  rw [List.find?_eq_some_iff_getElem] at h
  obtain ⟨hp, j, hj, e, hm⟩ := h
  refine ⟨j, by rw [List.getElem?_eq_getElem hj, e], hp, fun i y hi hy => ?_⟩
  have hil : i < xs.length := by omega
  rw [List.getElem?_eq_getElem hil] at hy
  cases hy
  simpa using hm i hi
theorem iWorldsOf_is {t v : Int} (h : Hid (worldsOf t = v)) (w : World) : Calls Try.prog 51 #[.int .i64 t] w fun e w' => e = .returned (.int .i64 v) ∧ w = w' :=
  (iWorldsOf t w).mono fun _ _ ⟨he, hw⟩ => ⟨he.trans (ret_int h.out), hw⟩
theorem quiet_eqp {P : Program} {f : FuncId} {args : Array Value} {w : World} {n : Nat} {v : Value} (h : Calls P f args (w.drewN n) fun e w' => e = .returned v ∧ w.drewN n = w') :
    Calls P f args (w.drewN n) fun e w'' => e = .returned v ∧ ∃ m, w'' = w.drewN m := h.mono fun _ _ ⟨he, hm⟩ => ⟨he, n, hm.symm⟩
theorem box_one (w : World) (v : Value) (t : TypeId) : (w.alloc (.cells #[v] t)).cell? ⟨w.heap.size, 0, none⟩ = some v := by rw [World.cell?_alloc_at _ _ _ _ rfl]; rfl
set_option maxRecDepth 100000 in
set_option maxHeartbeats 4000000 in
theorem iAnswerIn (t : Int) (A : Option Addr) (n c : Nat) (xs : List Int) (u : Int) (w : World) (ha : Row w A n c xs) :
    Calls Try.prog 27 #[.int .i64 t, .slice A n c, .int .i64 u] w fun e w' => e = .returned (.int .i64 (answerI t xs u)) ∧ Below w.heap.size w w' := by
  have hmf : ∀ (fn : Fn) (first cap : Array Value) (w : World), (Instr.makeFunc fn first cap).run Try.prog w = .ok (.func fn first cap) w := fun _ _ _ _ => rfl
  have HB0 : Hid (Below w.heap.size w (w.alloc (.cells #[.int .i64 u] 3))) := (Below.refl _ _).alloc (Nat.le_refl _) _
  have HR := Lib.hid (ha.below HB0.out)
  have hcb := box_one w (.int .i64 u) 3
  have HCB := Lib.hid hcb
  obtain rfl := ha.hn
  obtain ⟨W1, HW⟩ : ∃ W, Hid (W = w.alloc (.cells #[.int .i64 u] 3)) := ⟨_, rfl⟩
  rcases h1 : isPartB t xs with _ | _
  · have H1 := Lib.hid h1
    have HF : Hid (answerI t xs u = -1) := by unfold Hid answerI; rw [h1]; rfl
    clear h1 ha
    go_enter Try.func27, Try.ntmps27
    go_wp2_with fail
    go_quiet (first | (go_at_call 14; with_reducible exact Calls.quiet_of (iIsPart_is H1 (HR.out.drewN _))))
    go_wp2_with fail
    go_ret
    exact ⟨ret_int HF.out.symm, bel_drewN HB0.out _⟩
  · by_cases hu0 : u < 0
    · have H1 := Lib.hid h1
      have HF : Hid (answerI t xs u = -1) := by unfold Hid answerI; rw [decide_eq_false (by omega), Bool.and_false]; rfl
      have hd : decide (u < 0) = true := decide_eq_true hu0
      clear h1 ha
      go_enter Try.func27, Try.ntmps27
      go_wp2_with fail
      go_quiet (first | (go_at_call 14; with_reducible exact Calls.quiet_of (iIsPart_is H1 (HR.out.drewN _))))
      go_wp2_with fail
      go_ret
      exact ⟨ret_int HF.out.symm, bel_drewN HB0.out _⟩
    · have hd : decide (u < 0) = false := decide_eq_false hu0
      obtain ⟨v, HV⟩ : ∃ v, Hid (worldsOf t = v) := ⟨_, rfl⟩
      by_cases huv : v ≤ u
      · have H1 := Lib.hid h1
        have HF : Hid (answerI t xs u = -1) := by unfold Hid answerI; rw [HV.out, decide_eq_false (by omega), Bool.and_false]; rfl
        have hd2 : decide (v ≤ u) = true := decide_eq_true huv
        clear h1 ha
        go_enter Try.func27, Try.ntmps27
        go_wp2_with fail
        go_quiet (first
          | (go_at_call 14; with_reducible exact Calls.quiet_of (iIsPart_is H1 (HR.out.drewN _)))
          | (go_at_call 51; with_reducible exact quiet_eqp (iWorldsOf_is HV _)))
        go_wp2_with fail
        go_ret
        exact ⟨ret_int HF.out.symm, bel_drewN HB0.out _⟩
      · have H1 := Lib.hid h1
        have hd2 : decide (v ≤ u) = false := decide_eq_false huv
        obtain ⟨k, rfl⟩ : ∃ k : Nat, u = k := ⟨u.toNat, by omega⟩
        obtain ⟨ht1, ht3⟩ := part_things h1
        have hkn : k < nWorlds t := by unfold nWorlds; rw [HV.out]; omega
        have hk8 : k < 8 := by
          have : t = 1 ∨ t = 2 ∨ t = 3 := by omega
          rcases this with rfl | rfl | rfl
          · exact Nat.lt_trans hkn (by decide)
          · exact Nat.lt_trans hkn (by decide)
          · exact hkn
        obtain ⟨y, hym, hyw, _⟩ := part_unique h1 hkn
        obtain ⟨x, hfx⟩ : ∃ x, (xs.find? fun x => hasW x k) = some x := by
          rcases hq : (xs.find? fun x => hasW x k) with _ | x
          · rw [List.find?_eq_none] at hq; exact absurd hyw (hq y hym)
          · exact ⟨x, rfl⟩
        have HF : Hid (answerI t xs (k : Int) = x) := by
          unfold Hid answerI
          rw [h1, HV.out, decide_eq_true (by omega), Int.toNat_natCast, hfx]; rfl
        obtain ⟨j, hj, hjw, hjm⟩ := find_at hfx
        have hjl : j < xs.length := (List.getElem?_eq_some_iff.1 hj).1
        have HRG := Lib.hid (sets_range (part_sets h1))
        obtain ⟨b, off, z, rfl, hcell, hz, _⟩ := HR.out.hA.elem hjl
        obtain rfl : z = x := by have := hz.out.symm.trans hj; cases this; rfl
        have HXF := Lib.hid (fun n => iIndexFunc (some ⟨b, off, none⟩) xs.length c xs k w.heap.size j ((w.alloc (.cells #[.int .i64 k] 3)).drewN n) hk8 HRG.out (HR.out.drewN n) HCB.out ⟨z, hj, hjw⟩ hjm)
        clear h1 ha hkn hym hyw hfx hj hjw hjm huv hu0
        go_enter Try.func27, Try.ntmps27
        go_wp2_with fail
        go_quiet (first
          | (go_at_call 14; with_reducible exact Calls.quiet_of (iIsPart_is H1 (HR.out.drewN _)))
          | (go_at_call 51; with_reducible exact quiet_eqp (iWorldsOf_is HV _)))
        go_wp2_with fail
        refine (HXF.out _).mono ?_
        rintro e w' ⟨rfl, rfl⟩
        go_wp2_with fail
        go_ret
        exact ⟨ret_int HF.out.symm, bel_drewN HB0.out _⟩
theorem iAnswerIn_is {t u : Int} {xs : List Int} {b : Int} (h : Hid (answerI t xs u = b)) {A : Option Addr} {n c : Nat} {w : World} (ha : Row w A n c xs) :
    Calls Try.prog 27 #[.int .i64 t, .slice A n c, .int .i64 u] w fun e w' => e = .returned (.int .i64 b) ∧ Below w.heap.size w w' :=
  (iAnswerIn t A n c xs u w ha).mono fun _ _ ⟨he, hw⟩ => ⟨he.trans (ret_int h.out), hw⟩
end Go.Proofs.Ytkjjpleedobkdaa
