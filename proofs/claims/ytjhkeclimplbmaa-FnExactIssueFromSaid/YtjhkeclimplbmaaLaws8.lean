/-
  The walk of the exact law of IssueFrom.
-/
import Derived.Test.YtjhkeclimplbmaaFrom
namespace Go.Proofs.Ytjhkeclimplbmaa
open Go.RowKit

/-- Two slices, the one laid behind the other one's blocks: what is written into the elder one leaves it. -/
theorem Nums.later {k : IntKind} {w w' : World} {A A2 : Option Addr} {n2 c2 : Nat} {xs : List Int} {B : Nat} (h : Nums k w A xs) (hg : w.grownBy w' (Value.slice A2 n2 c2).ownBlock)
    (h1 : ∀ ad, A = some ad → B ≤ ad.block) (h2 : ∀ ad, A2 = some ad → ad.block < B) : Nums k w' A xs := by
  refine h.grown hg fun ad ha e => ?_
  have hb := h1 ad ha
  cases A2 with
  | none => cases e
  | some ad2 =>
    have : ad.block = ad2.block := by simpa [Value.ownBlock] using e
    have := h2 ad2 rfl
    omega
theorem Owns.later {w w' : World} {base : Nat} {v : Value} {A2 : Option Addr} {n2 c2 : Nat} {xs : List Int} (h : Owns w base v xs) (hg : w.grownBy w' (Value.slice A2 n2 c2).ownBlock) (h2 : ∀ ad, A2 = some ad → ad.block < base) : Owns w' base v xs := by
  refine h.kept hg ?_
  cases e : v.ownBlock with
  | none => exact .inl rfl
  | some k =>
    right
    intro e2
    have := (World.ownsRow.lt h k e).1
    cases A2 with
    | none => cases e2
    | some ad2 =>
      have e3 : k = ad2.block := by simpa [Value.ownBlock] using e2
      have := h2 ad2 rfl
      omega

set_option maxHeartbeats 4000000 in
theorem wExactIssueFrom (t : Int) (A : Option Addr) (nn c : Nat) (xs : List Int) (w : World) (hn : nn = xs.length) (hA : Nums .i64 w A xs) :
    Calls Try.prog 13 #[.int .i64 t, .slice A nn c] w fun e w' => e = .returned (.bool true) ∧ Below w.heap.size w w' := by
  subst hn
  have HA := Lib.hid hA
  clear hA
  by_cases hl : 1048576 < xs.length
  · have hd : decide ((1048576 : Int) < (xs.length : Int)) = true := decide_eq_true (by omega)
    go_enter Try.func13, Try.ntmps13
    go_wp2_with fail
    go_ret
    exact ⟨rfl, Below.refl _ _⟩
  · have hd : decide ((1048576 : Int) < (xs.length : Int)) = false := decide_eq_false (by omega)
    have hle : xs.length ≤ 1048576 := by omega
    obtain ⟨r, HIS⟩ : ∃ l, Hid (issueFromL t xs = l) := ⟨_, rfl⟩
    have hrl : r.length ≤ 256 := by rw [← HIS.out]; exact from_len t xs
    clear hl
    go_enter Try.func13, Try.ntmps13
    go_wp2_with fail
    clear hd
    refine (lToIntS _ _ _ xs _ rfl hle HA.out).mono ?_
    rintro e w1 ⟨v, rfl, ho, hb⟩
    obtain ⟨A1, c1, rfl, hc1, hm1, hn1, _⟩ := ho.form
    have HN1 := Lib.hid hn1
    have HB1 := Lib.hid hb
    clear ho hn1 hb
    go_wp2_with fail
    -- what the model says
    refine (sIssueFrom t _ _ _ xs _ rfl hle HN1.out).mono ?_
    rintro e w2 ⟨v, rfl, ho, hb⟩
    rw [HIS.out] at ho
    obtain ⟨W0, c2, rfl, hc2, hm2, hn2, ha2⟩ := ho.form
    have HW0 := Lib.hid hn2
    have HWA := Lib.hid ha2
    have HB2 := Lib.hid (bel_trans HB1.out hb)
    clear ho hn2 hb ha2
    go_wp2_with fail
    -- the argument's copy
    refine (lToIntS _ _ _ xs _ rfl hle (by exact HA.out.below HB2.out)).mono ?_
    rintro e w3 ⟨v, rfl, ho, hb⟩
    obtain ⟨X, c3, rfl, hc3, hm3, hn3, ha3⟩ := ho.form
    have HXO := Lib.hid ho
    have HX := Lib.hid hn3
    have HXA := Lib.hid ha3
    have HW3 := Lib.hid (HW0.out.below hb)
    have HB3 := Lib.hid (bel_trans HB2.out hb)
    have h23 : w2.heap.size ≤ w3.heap.size := hb.size
    clear ho hn3 hb ha3
    go_wp2_with fail
    -- the program's answer
    refine (iIssueFrom t _ _ _ xs _ rfl hle HX.out).mono ?_
    rintro e w4 ⟨v, rfl, ho, hb⟩
    rw [HIS.out] at ho
    obtain ⟨G, c4, rfl, hc4, hm4, hn4, ha4⟩ := ho.form
    have HGO := Lib.hid ho
    have HG := Lib.hid hn4
    have HGA := Lib.hid ha4
    have HX4 := Lib.hid (HX.out.below hb)
    have HXO4 := Lib.hid (HXO.out.below hb)
    have HW4 := Lib.hid (HW3.out.below hb)
    have HB4 := Lib.hid (bel_trans HB3.out hb)
    clear ho hn4 hb ha4
    go_wp2_with fail
    refine (lEqIntS _ _ _ _ _ _ r r _ rfl rfl (by omega) (by omega) HG.out HW4.out).mono ?_
    rintro e w5 ⟨rfl, n5, rfl⟩
    go_wp2_with fail
    refine (lToIntS _ _ _ xs _ rfl hle (by exact HA.out.below (bel_drewN HB4.out n5))).mono ?_
    rintro e w6 ⟨v, rfl, ho, hb⟩
    obtain ⟨A6, c6, rfl, hc6, hm6, hn6, _⟩ := ho.form
    have HN6 := Lib.hid hn6
    have HX6 := Lib.hid (Nums.below (w := w4.drewN n5) HX4.out hb)
    have HXO6 := Lib.hid (Owns.below (w := w4.drewN n5) HXO4.out hb)
    have HG6 := Lib.hid (Nums.below (w := w4.drewN n5) HG.out hb)
    have HGO6 := Lib.hid (Owns.below (w := w4.drewN n5) HGO.out hb)
    have HW6 := Lib.hid (Nums.below (w := w4.drewN n5) HW4.out hb)
    have HB6 := Lib.hid (bel_trans (bel_drewN HB4.out n5) hb)
    clear ho hn6 hb
    go_wp2_with fail
    refine (lEqIntS _ _ _ _ _ _ xs xs _ rfl rfl hle hle HX6.out HN6.out).mono ?_
    rintro e w7 ⟨rfl, n7, rfl⟩
    go_wp2_with fail
    -- the argument is marked
    refine (lMarkIntS w2.heap.size _ _ _ xs _ _ rfl hle (by omega) (by omega) (by exact HXO6.out)).mono ?_
    rintro e w8 ⟨ys, rfl, _, _, _, hg⟩
    have HG8 : Hid (Nums .i64 w8 G r) := Nums.later (B := w3.heap.size) (w := w6.drewN n7) HG6.out hg (fun ad h => (HGA.out ad h).1) (fun ad h => (HXA.out ad h).2)
    have HGO8 : Hid (Owns w8 w3.heap.size (.slice G r.length c4) r) := Owns.later (w := w6.drewN n7) HGO6.out hg (fun ad h => (HXA.out ad h).2)
    have HW8 : Hid (Nums .i64 w8 W0 r) := Nums.other (B := w2.heap.size) (w := w6.drewN n7) HW6.out hg (fun ad h => (HWA.out ad h).2) (fun ad h => (HXA.out ad h).1)
    have HB8 : Hid (Below w.heap.size w w8) := bel_mark (bel_drewN HB6.out n7) hg (fun ad h => Nat.le_trans HB2.out.size (HXA.out ad h).1)
    have hneg0 : decide ((1 : Int) + (xs.length : Int) < 0) = false := decide_eq_false (by omega)
    clear hg
    go_wp2_with fail
    clear hneg0
    refine (lEqIntS _ _ _ _ _ _ r r _ rfl rfl (by omega) (by omega) HG8.out HW8.out).mono ?_
    rintro e w9 ⟨rfl, n9, rfl⟩
    go_wp2_with fail
    -- the answer is marked
    refine (lMarkIntS w3.heap.size _ _ _ r _ _ rfl (by omega) (by omega) (by omega) (by exact HGO8.out)).mono ?_
    rintro e w10 ⟨zs, rfl, hz, hv, ho, hg⟩
    obtain ⟨G', c4', he, _, _, hn10, _⟩ := ho.form
    simp only [Value.slice.injEq] at he
    obtain ⟨rfl, hx1, rfl⟩ := he
    have HG10 := Lib.hid hn10
    have HZ := Lib.hid hz
    have HV := Lib.hid hv
    have HW10 : Hid (Nums .i64 w10 W0 r) := Nums.other (B := w2.heap.size) (w := w8.drewN n9) HW8.out hg (fun ad h => (HWA.out ad h).2) (fun ad h => Nat.le_trans h23 (HGA.out ad h).1)
    have HB10 : Hid (Below w.heap.size w w10) := bel_mark (bel_drewN HB8.out n9) hg (fun ad h => Nat.le_trans HB3.out.size (HGA.out ad h).1)
    clear ho hn10 hg hz hv hx1
    go_wp2_with fail
    refine (lHeldIntS _ _ _ zs _ _ HZ.out.symm (by omega) (by omega) (by omega) HG10.out HV.out).mono ?_
    rintro e w' ⟨rfl, rfl⟩
    rw [HZ.out]
    have hneg : decide ((1 : Int) + (r.length : Int) < 0) = false := decide_eq_false (by omega)
    go_wp2_with fail
    refine (lToIntS _ _ _ xs _ rfl hle (by exact HA.out.below HB10.out)).mono ?_
    rintro e w11 ⟨v, rfl, ho, hb⟩
    obtain ⟨A11, c11, rfl, hc11, hm11, hn11, _⟩ := ho.form
    have HN11 := Lib.hid hn11
    have HG11 := Lib.hid (HG10.out.below hb)
    have HW11 := Lib.hid (HW10.out.below hb)
    have HB11 := Lib.hid (bel_trans HB10.out hb)
    clear ho hn11 hb
    go_wp2_with fail
    refine (iIssueFrom t _ _ _ xs _ rfl hle HN11.out).mono ?_
    rintro e w12 ⟨v, rfl, ho, hb⟩
    rw [HIS.out] at ho
    obtain ⟨A12, c12, rfl, hc12, hm12, hn12, _⟩ := ho.form
    have HN12 := Lib.hid hn12
    have HG12 := Lib.hid (HG11.out.below hb)
    have HW12 := Lib.hid (HW11.out.below hb)
    have HB12 := Lib.hid (bel_trans HB11.out hb)
    clear ho hn12 hb
    go_wp2_with fail
    refine (lEqIntS _ _ _ _ _ _ r r _ rfl rfl (by omega) (by omega) HN12.out HW12.out).mono ?_
    rintro e w13 ⟨rfl, n13, rfl⟩
    go_wp2_with fail
    refine (lHeldIntS _ _ _ zs _ _ HZ.out.symm (by omega) (by omega) (by omega) (by exact HG12.out) HV.out).mono ?_
    rintro e w' ⟨rfl, rfl⟩
    rw [HZ.out]
    go_wp2_with fail
    go_ret
    exact ⟨rfl, bel_drewN HB12.out n13⟩
end Go.Proofs.Ytjhkeclimplbmaa
