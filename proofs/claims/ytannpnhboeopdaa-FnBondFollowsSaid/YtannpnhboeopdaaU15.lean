/-
  What the proofs of this seat's statements share (BndX, BndO).
-/
import Derived.Test.YtannpnhboeopdaaU14
import Derived.Test.YtannpnhboeopdaaU10
import Derived.Test.YtannpnhboeopdaaU12

namespace Go.Proofs.Ytannpnhboeopdaa
open Go.RowKit

set_option maxRecDepth 100000 in
set_option maxHeartbeats 4000000 in
theorem wExactBondOk (t f g : Int) (w : World) :
    Calls Try.prog 8 #[.int .i64 t, .agg #[.int .i64 f, .int .i64 g]] w fun e w' => e = .returned (.bool true) ∧ Below w.heap.size w w' := by
  obtain ⟨b, HT⟩ : ∃ b, Hid (bondOkB t f g = b) := ⟨_, rfl⟩
  have HX : Hid (BoxAt (w.alloc (.cells #[.int .i64 f, .int .i64 g] 48)) w.heap.size f g) := BoxAt.new w f g _
  have HB : Hid (Below w.heap.size w (w.alloc (.cells #[.int .i64 f, .int .i64 g] 48))) := bel_box
  go_enter Try.func8, Try.ntmps8
  go_wp2_with fail
  refine (lToBond _ _ _).mono ?_
  rintro e w1 ⟨rfl, hb⟩
  have HX1 := Lib.hid (HX.out.below hb)
  obtain ⟨hc0, hc1, _⟩ := HX1.out
  replace HB := Lib.hid (bel_trans HB.out hb)
  clear hb
  go_wp2_with fail
  refine (sBondOk_is HT _).mono ?_
  rintro e w2 ⟨rfl, hb⟩
  clear hc0 hc1
  have HX2 := Lib.hid (HX1.out.below hb)
  obtain ⟨hc0, hc1, _⟩ := HX2.out
  replace HB := Lib.hid (bel_trans HB.out hb)
  clear hb
  go_wp2_with fail
  refine (lToBond _ _ _).mono ?_
  rintro e w3 ⟨rfl, hb⟩
  replace HB := Lib.hid (bel_trans HB.out hb)
  clear hb
  go_wp2_with fail
  refine (iBondOk_is HT _).mono ?_
  rintro e w4 ⟨rfl, hb⟩
  replace HB := Lib.hid (bel_trans HB.out hb)
  clear hb
  go_wp2_with fail
  go_ret
  exact ⟨rfl, HB.out⟩
set_option maxRecDepth 100000 in
set_option maxHeartbeats 4000000 in
theorem wExactHoldsIn (t s f g : Int) (w : World) :
    Calls Try.prog 9 #[.int .i64 t, .int .i64 s, .agg #[.int .i64 f, .int .i64 g]] w fun e w' => e = .returned (.bool true) ∧ Below w.heap.size w w' := by
  obtain ⟨b, HT⟩ : ∃ b, Hid (holdsInB t s f g = b) := ⟨_, rfl⟩
  have HX : Hid (BoxAt (w.alloc (.cells #[.int .i64 f, .int .i64 g] 48)) w.heap.size f g) := BoxAt.new w f g _
  have HB : Hid (Below w.heap.size w (w.alloc (.cells #[.int .i64 f, .int .i64 g] 48))) := bel_box
  go_enter Try.func9, Try.ntmps9
  go_wp2_with fail
  refine (lToBond _ _ _).mono ?_
  rintro e w1 ⟨rfl, hb⟩
  have HX1 := Lib.hid (HX.out.below hb)
  replace HB := Lib.hid (bel_trans HB.out hb)
  clear hb
  go_wp2_with fail
  refine (sHoldsIn_is HT _).mono ?_
  rintro e w2 ⟨rfl, hb⟩
  have HX2 := Lib.hid (HX1.out.below hb)
  obtain ⟨hc0, hc1, _⟩ := HX2.out
  replace HB := Lib.hid (bel_trans HB.out hb)
  clear hb
  go_wp2_with fail
  refine (lToBond _ _ _).mono ?_
  rintro e w3 ⟨rfl, hb⟩
  replace HB := Lib.hid (bel_trans HB.out hb)
  clear hb hc0 hc1
  go_wp2_with fail
  refine (iHoldsIn_is HT _).mono ?_
  rintro e w4 ⟨rfl, hb⟩
  replace HB := Lib.hid (bel_trans HB.out hb)
  clear hb
  go_wp2_with fail
  go_ret
  exact ⟨rfl, HB.out⟩
set_option maxRecDepth 100000 in
set_option maxHeartbeats 4000000 in
theorem wExactKeysOf (t s : Int) (w : World) :
    Calls Try.prog 12 #[.int .i64 t, .int .i64 s] w fun e w' => e = .returned (.bool true) ∧ Below w.heap.size w w' := by
  obtain ⟨r, HIS⟩ : ∃ l, Hid (keysL t s = l) := ⟨_, rfl⟩
  have hrl : r.length ≤ 256 := by rw [← HIS.out]; exact keys_len t s
  have HB : Hid (Below w.heap.size w w) := Below.refl _ _
  go_enter Try.func12, Try.ntmps12
  go_wp2_with fail
  refine (sKeysOf_is HIS _).mono ?_
  rintro e w1 ⟨v, rfl, ho, hb⟩
  obtain ⟨A1, c1, rfl, hc1, hm1, hn1, ha1⟩ := ho.form
  have hsz1 : w.heap.size ≤ w1.heap.size := hb.size
  replace HB := Lib.hid (bel_trans (by first | exact HB.out | exact bel_drewN HB.out _) hb)
  have HM1 := Lib.hid hm1
  have HA1 : Hid (∀ ad, A1 = some ad → w.heap.size ≤ ad.block ∧ ad.block < w1.heap.size) := ha1
  have HN1 := Lib.hid hn1
  have HO1 : Hid (Owns w1 w.heap.size _ _) := ho
  clear ho hb hm1 hn1 ha1
  go_wp2_with fail
  refine (iKeysOf_is HIS _).mono ?_
  rintro e w2 ⟨v, rfl, ho, hb⟩
  obtain ⟨A2, c2, rfl, hc2, hm2, hn2, ha2⟩ := ho.form
  have hsz2 : w1.heap.size ≤ w2.heap.size := hb.size
  replace HB := Lib.hid (bel_trans (by first | exact HB.out | exact bel_drewN HB.out _) hb)
  replace HN1 := Lib.hid (Nums.below (by exact HN1.out) hb)
  replace HO1 := Lib.hid (Owns.below (by exact HO1.out) hb)
  have HM2 := Lib.hid hm2
  have HA2 : Hid (∀ ad, A2 = some ad → w1.heap.size ≤ ad.block ∧ ad.block < w2.heap.size) := ha2
  have HN2 := Lib.hid hn2
  have HO2 : Hid (Owns w2 w1.heap.size _ _) := ho
  clear ho hb hm2 hn2 ha2
  go_wp2_with fail
  refine (lEqIntS _ _ _ _ _ _ r r _ rfl rfl (by omega) (by omega) (by exact HN2.out) (by exact HN1.out)).mono ?_
  rintro e w' ⟨rfl, m1, rfl⟩
  go_wp2_with fail
  refine (lMarkIntS _ _ _ _ r _ _ rfl (by omega) (by omega) (by omega) (by exact HO2.out)).mono ?_
  rintro e w3 ⟨ys3, rfl, hz, hv, ho, hg⟩
  replace HB := Lib.hid (bel_mark (by first | exact HB.out | exact bel_drewN HB.out _) hg (fun ad h => by have := (HA2.out ad h).1; omega))
  replace HN1 := Lib.hid (Nums.other (B := w1.heap.size) (by exact HN1.out) hg (fun ad h => by have := (HA1.out ad h).2; omega) (fun ad h => (HA2.out ad h).1))
  clear HO1
  obtain ⟨_, _, he, _, _, hnn, _⟩ := ho.form
  simp only [Value.slice.injEq] at he
  obtain ⟨rfl, hx1, rfl⟩ := he
  replace HN2 := Lib.hid hnn
  have hsz3 : w2.heap.size ≤ w3.heap.size := hg.size
  have HZ3 := Lib.hid hz
  have HV3 := Lib.hid hv
  clear ho hg hz hv hnn hx1
  clear HO2
  go_wp2_with fail
  refine (lHeldIntS _ _ _ ys3 _ _ HZ3.out.symm (by omega) (by omega) (by omega) (by exact HN2.out) HV3.out).mono ?_
  rintro e w' ⟨rfl, rfl⟩
  rw [HZ3.out]
  have hneg : decide ((1 : Int) + (r.length : Int) < 0) = false := decide_eq_false (by omega)
  go_wp2_with fail
  refine (iKeysOf_is HIS _).mono ?_
  rintro e w4 ⟨v, rfl, ho, hb⟩
  obtain ⟨A4, c4, rfl, hc4, hm4, hn4, ha4⟩ := ho.form
  have hsz4 : w3.heap.size ≤ w4.heap.size := hb.size
  replace HB := Lib.hid (bel_trans (by first | exact HB.out | exact bel_drewN HB.out _) hb)
  replace HN1 := Lib.hid (Nums.below (by exact HN1.out) hb)
  replace HN2 := Lib.hid (Nums.below (by exact HN2.out) hb)
  have HM4 := Lib.hid hm4
  have HA4 : Hid (∀ ad, A4 = some ad → w3.heap.size ≤ ad.block ∧ ad.block < w4.heap.size) := ha4
  have HN4 := Lib.hid hn4
  have HO4 : Hid (Owns w4 w3.heap.size _ _) := ho
  clear ho hb hm4 hn4 ha4
  go_wp2_with fail
  refine (lEqIntS _ _ _ _ _ _ r r _ rfl rfl (by omega) (by omega) (by exact HN4.out) (by exact HN1.out)).mono ?_
  rintro e w' ⟨rfl, m2, rfl⟩
  go_wp2_with fail
  refine (lHeldIntS _ _ _ ys3 _ _ HZ3.out.symm (by omega) (by omega) (by omega) (by exact HN2.out) HV3.out).mono ?_
  rintro e w' ⟨rfl, rfl⟩
  rw [HZ3.out]
  go_wp2_with fail
  go_ret
  exact ⟨rfl, by first | exact HB.out | exact bel_drewN HB.out _⟩
set_option maxRecDepth 100000 in
set_option maxHeartbeats 4000000 in
theorem wExactClosedBy (t f : Int) (A : Option Addr) (n c : Nat) (ds : List (Int × Int)) (w : World) (hn : n = ds.length) (hc : n ≤ c) (hm : c ≤ maxLen) (hA : Bonds w A ds) :
    Calls Try.prog 10 #[.int .i64 t, .slice A n c, .int .i64 f] w fun e w' => e = .returned (.bool true) ∧ Below w.heap.size w w' := by
  subst hn
  unfold maxLen at hm
  have HA := Lib.hid hA
  clear hA
  by_cases hl : 1048576 < ds.length
  · have hd : decide ((1048576 : Int) - (ds.length : Int) < 0) = true := decide_eq_true (by omega)
    go_enter Try.func10, Try.ntmps10
    go_wp2_with fail
    refine (lSzBondS_no _ _ _ _ (by omega) (by omega)).mono ?_
    rintro e w' ⟨rfl, rfl⟩
    go_wp2_with fail
    go_ret
    exact ⟨rfl, Below.refl _ _⟩
  obtain ⟨v, HT⟩ : ∃ b, Hid (closedB t ds f = b) := ⟨_, rfl⟩
  have hneg : decide ((1048576 : Int) - (ds.length : Int) < 0) = false := decide_eq_false (by omega)
  have hle : ds.length ≤ 1048576 := by omega
  have HB : Hid (Below w.heap.size w w) := Below.refl _ _
  clear hl
  go_enter Try.func10, Try.ntmps10
  go_wp2_with fail
  refine (lSzBondS_yes _ _ _ _ hle).mono ?_
  rintro e w' ⟨rfl, rfl⟩
  go_wp2_with fail
  clear hneg
  refine (lToBondS _ _ _ ds _ rfl hle HA.out).mono ?_
  rintro e w1 ⟨v1, rfl, ho, hb⟩
  obtain ⟨A1, c1, rfl, _, _, _, _⟩ := ho.form
  have HR1 := Lib.hid (OwnsP.row ho hle)
  replace HB := Lib.hid (bel_trans HB.out hb)
  clear ho hb
  go_wp2_with fail
  refine (sClosedBy_is HT HR1.out).mono ?_
  rintro e w2 ⟨rfl, hb⟩
  replace HB := Lib.hid (bel_trans HB.out hb)
  clear hb
  go_wp2_with fail
  refine (lToBondS _ _ _ ds _ rfl hle (HA.out.below HB.out)).mono ?_
  rintro e w3 ⟨v3, rfl, ho, hb⟩
  obtain ⟨A3, c3, rfl, _, _, _, _⟩ := ho.form
  have HR3 := Lib.hid (OwnsP.row ho hle)
  replace HB := Lib.hid (bel_trans HB.out hb)
  clear ho hb
  go_wp2_with fail
  refine (iClosedBy_is HT HR3.out).mono ?_
  rintro e w4 ⟨rfl, hb⟩
  replace HB := Lib.hid (bel_trans HB.out hb)
  replace HR3 := Lib.hid (HR3.out.below hb)
  clear hb
  go_wp2_with fail
  refine (lToBondS _ _ _ ds _ rfl hle (HA.out.below HB.out)).mono ?_
  rintro e w5 ⟨v5, rfl, ho, hb⟩
  obtain ⟨A5, c5, rfl, _, _, _, _⟩ := ho.form
  have HR5 := Lib.hid (OwnsP.row ho hle)
  replace HB := Lib.hid (bel_trans HB.out hb)
  replace HR3 := Lib.hid (HR3.out.below hb)
  clear ho hb
  go_wp2_with fail
  refine (lEqBondS _ _ _ _ _ _ ds _ HR3.out HR5.out).mono ?_
  rintro e w6 ⟨rfl, hb⟩
  replace HB := Lib.hid (bel_trans HB.out hb)
  clear hb
  go_wp2_with fail
  go_ret
  exact ⟨rfl, HB.out⟩
set_option maxRecDepth 100000 in
set_option maxHeartbeats 4000000 in
theorem wExactBondFollows (t f g : Int) (A : Option Addr) (n c : Nat) (ds : List (Int × Int)) (w : World) (hn : n = ds.length) (hc : n ≤ c) (hm : c ≤ maxLen) (hA : Bonds w A ds) :
    Calls Try.prog 11 #[.int .i64 t, .slice A n c, .agg #[.int .i64 f, .int .i64 g]] w fun e w' => e = .returned (.bool true) ∧ Below w.heap.size w w' := by
  subst hn
  unfold maxLen at hm
  have HB : Hid (Below w.heap.size w (w.alloc (.cells #[.int .i64 f, .int .i64 g] 48))) := bel_box
  have HX : Hid (BoxAt (w.alloc (.cells #[.int .i64 f, .int .i64 g] 48)) w.heap.size f g) := BoxAt.new w f g _
  have HA := Lib.hid hA
  clear hA
  by_cases hl : 1048576 < ds.length
  · have hd : decide ((1048576 : Int) - (ds.length : Int) < 0) = true := decide_eq_true (by omega)
    go_enter Try.func11, Try.ntmps11
    go_wp2_with fail
    refine (lSzBondS_no _ _ _ _ (by omega) (by omega)).mono ?_
    rintro e w' ⟨rfl, rfl⟩
    go_wp2_with fail
    go_ret
    exact ⟨rfl, HB.out⟩
  obtain ⟨v, HT⟩ : ∃ b, Hid (bondFollowsB t ds f g = b) := ⟨_, rfl⟩
  have hneg : decide ((1048576 : Int) - (ds.length : Int) < 0) = false := decide_eq_false (by omega)
  have hle : ds.length ≤ 1048576 := by omega
  clear hl
  go_enter Try.func11, Try.ntmps11
  go_wp2_with fail
  refine (lSzBondS_yes _ _ _ _ hle).mono ?_
  rintro e w' ⟨rfl, rfl⟩
  go_wp2_with fail
  clear hneg
  obtain ⟨hc0, hc1, _⟩ := HX.out
  go_region_held3 (fun w' => w'.cell? ⟨w.heap.size, 0, none⟩ = some (.int .i64 f) ∧ w'.cell? ⟨w.heap.size, 1, none⟩ = some (.int .i64 g))
    (first | go_keep | exact ⟨HX3.out.1, HX3.out.2.1⟩ | exact ⟨HX2.out.1, HX2.out.2.1⟩ | exact ⟨HX1.out.1, HX1.out.2.1⟩)
    (first
      | (go_at_call 43; refine (lToBondS _ _ _ ds _ rfl hle (HA.out.below (bel_drewN HB.out 1))).mono ?_; rintro e w1 ⟨v1, rfl, ho, hb⟩; obtain ⟨A1, c1, rfl, _, _, _, _⟩ := ho.form; have HR1 := Lib.hid (OwnsP.row ho hle); have HX1 := Lib.hid (BoxAt.below (BoxAt.drew HX.out) hb); have HB1 := Lib.hid (bel_trans (bel_drewN HB.out 1) hb); clear ho hb)
      | (go_at_call 40; refine (lToBond _ _ _).mono ?_; rintro e w2 ⟨rfl, hb⟩; have HR2 := Lib.hid (HR1.out.below hb); have HX2 := Lib.hid (HX1.out.below hb); have HB2 := Lib.hid (bel_trans HB1.out hb); clear hb)
      | (go_at_call 26; refine (sBondFollows_is HT HR2.out).mono ?_; rintro e w3 ⟨rfl, hb⟩; have HX3 := Lib.hid (HX2.out.below hb); have HB3 := Lib.hid (bel_trans HB2.out hb); clear hb))
  all_goals
    replace HB := HB3
    replace HX := HX3
    clear hc0 hc1
    go_wp2_with fail
    refine (lToBondS _ _ _ ds _ rfl hle (HA.out.below HB.out)).mono ?_
    rintro e w4 ⟨v4, rfl, ho, hb⟩
    obtain ⟨A4, c4, rfl, _, _, _, _⟩ := ho.form
    have HR4 := Lib.hid (OwnsP.row ho hle)
    replace HB := Lib.hid (bel_trans HB.out hb)
    replace HX := Lib.hid (HX.out.below hb)
    obtain ⟨hc0, hc1, _⟩ := HX.out
    clear ho hb
    go_wp2_with fail
    clear hc0 hc1
    refine (lToBond _ _ _).mono ?_
    rintro e w5 ⟨rfl, hb⟩
    replace HB := Lib.hid (bel_trans HB.out hb)
    replace HR4 := Lib.hid (HR4.out.below hb)
    clear hb
    go_wp2_with fail
    refine (iBondFollows_is HT HR4.out).mono ?_
    rintro e w6 ⟨rfl, hb⟩
    replace HB := Lib.hid (bel_trans HB.out hb)
    replace HR4 := Lib.hid (HR4.out.below hb)
    clear hb
    go_wp2_with fail
    refine (lToBondS _ _ _ ds _ rfl hle (HA.out.below HB.out)).mono ?_
    rintro e w7 ⟨v7, rfl, ho, hb⟩
    obtain ⟨A7, c7, rfl, _, _, _, _⟩ := ho.form
    have HR7 := Lib.hid (OwnsP.row ho hle)
    replace HB := Lib.hid (bel_trans HB.out hb)
    replace HR4 := Lib.hid (HR4.out.below hb)
    clear ho hb
    go_wp2_with fail
    refine (lEqBondS _ _ _ _ _ _ ds _ HR4.out HR7.out).mono ?_
    rintro e w8 ⟨rfl, hb⟩
    replace HB := Lib.hid (bel_trans HB.out hb)
    clear hb
    go_wp2_with fail
    go_ret
    exact ⟨rfl, HB.out⟩
end Go.Proofs.Ytannpnhboeopdaa

namespace Go.Proofs.Ytannpnhboeopdaa
open Go.RowKit

/-- What is written into a younger row leaves an older one. -/
theorem Bonds.other {w w' : World} {A A2 : Option Addr} {n2 c2 : Nat} {ds : List (Int × Int)} {B : Nat} (h : Bonds w A ds) (hg : w.grownBy w' (Value.slice A2 n2 c2).ownBlock)
    (h1 : ∀ ad, A = some ad → ad.block < B) (h2 : ∀ ad, A2 = some ad → B ≤ ad.block) : Bonds w' A ds := by
  intro hn
  obtain ⟨b, off, rfl, hlt, hc⟩ := h hn
  have hbB : b < B := h1 _ rfl
  have hne : some b ≠ (Value.slice A2 n2 c2).ownBlock := by
    intro e
    cases A2 with
    | none => cases e
    | some ad2 =>
      have : b = ad2.block := by simpa [Value.ownBlock] using e
      have := h2 ad2 rfl
      omega
  have hs := hg.size
  refine ⟨b, off, rfl, by omega, fun i d hd => ?_⟩
  obtain ⟨a1, a2⟩ := hc i d hd
  exact ⟨World.grownBy.cell hg (a := ⟨b, off + i * 2, none⟩) a1 hne, World.grownBy.cell hg (a := ⟨b, off + i * 2 + 1, none⟩) a2 hne⟩
theorem BRow.other {w w' : World} {A A2 : Option Addr} {n c n2 c2 : Nat} {ds : List (Int × Int)} {B : Nat} (h : BRow w A n c ds) (hg : w.grownBy w' (Value.slice A2 n2 c2).ownBlock)
    (h1 : ∀ ad, A = some ad → ad.block < B) (h2 : ∀ ad, A2 = some ad → B ≤ ad.block) : BRow w' A n c ds := ⟨h.hn, h.hl, h.hc, h.hm, h.hA.other hg h1 h2⟩
set_option maxRecDepth 100000 in
set_option maxHeartbeats 4000000 in
theorem wExactBondsOf (t s : Int) (w : World) :
    Calls Try.prog 13 #[.int .i64 t, .int .i64 s] w fun e w' => e = .returned (.bool true) ∧ Below w.heap.size w w' := by
  obtain ⟨r, HIS⟩ : ∃ l, Hid (bondsL t s = l) := ⟨_, rfl⟩
  have hrl : r.length ≤ 24 := by rw [← HIS.out]; exact bondsL_len
  have hneg : decide ((1 : Int) + 2 * (r.length : Int) < 0) = false := decide_eq_false (by omega)
  have hne : ((1 : Int) + 2 * (r.length : Int) != 1 + 2 * (r.length : Int)) = false := by simp
  go_enter Try.func13, Try.ntmps13
  go_wp2_with fail
  refine (sBondsOf_is HIS _).mono ?_
  rintro e w1 ⟨v1, rfl, ho, hb⟩
  obtain ⟨A1, c1, rfl, _, _, _, ha1⟩ := ho.form
  have HR1 := Lib.hid (OwnsP.row ho (by omega))
  have HA1 : Hid (∀ ad, A1 = some ad → ad.block < w1.heap.size) := fun ad h => (ha1 ad h).2
  have HB := Lib.hid hb
  clear ho hb ha1
  go_wp2_with fail
  refine (iBondsOf_is HIS _).mono ?_
  rintro e w2 ⟨v2, rfl, ho, hb⟩
  obtain ⟨A2, c2, rfl, _, _, _, ha2⟩ := ho.form
  have HR2 := Lib.hid (OwnsP.row ho (by omega))
  have HO2 := Lib.hid ho
  have HA2 : Hid (∀ ad, A2 = some ad → w1.heap.size ≤ ad.block) := fun ad h => (ha2 ad h).1
  replace HR1 := Lib.hid (HR1.out.below hb)
  have hs1 : w.heap.size ≤ w1.heap.size := HB.out.size
  replace HB := Lib.hid (bel_trans HB.out hb)
  clear ho hb ha2
  go_wp2_with fail
  refine (lEqBondS _ _ _ _ _ _ r _ HR2.out HR1.out).mono ?_
  rintro e w3 ⟨rfl, hb⟩
  replace HR1 := Lib.hid (HR1.out.below hb)
  replace HO2 := Lib.hid (HO2.out.below hb)
  replace HB := Lib.hid (bel_trans HB.out hb)
  clear hb HR2
  go_wp2_with fail
  refine (lMarkBondS _ _ _ _ r _ _ rfl (by omega) (by omega) (by omega) HO2.out).mono ?_
  rintro e w4 ⟨rfl, ho, hg⟩
  replace HR1 := Lib.hid (HR1.out.other hg HA1.out HA2.out)
  replace HB := Lib.hid (bel_mark HB.out hg (fun ad h => Nat.le_trans hs1 (HA2.out ad h)))
  have HR2 := Lib.hid (OwnsP.row (A := A2) (n := r.length) (c := c2) ho (by rw [marksP_len]; omega))
  clear ho hg HO2
  go_wp2_with fail
  refine (lHeldBondS _ _ _ _ _ (by omega) (by omega) r.length HR2.out).mono ?_
  rintro e w' ⟨rfl, rfl⟩
  go_wp2_with fail
  refine (iBondsOf_is HIS _).mono ?_
  rintro e w5 ⟨v5, rfl, ho, hb⟩
  obtain ⟨A5, c5, rfl, _, _, _, _⟩ := ho.form
  have HR5 := Lib.hid (OwnsP.row ho (by omega))
  replace HR1 := Lib.hid (HR1.out.below hb)
  replace HR2 := Lib.hid (HR2.out.below hb)
  replace HB := Lib.hid (bel_trans HB.out hb)
  clear ho hb
  go_wp2_with fail
  refine (lEqBondS _ _ _ _ _ _ r _ HR5.out HR1.out).mono ?_
  rintro e w6 ⟨rfl, hb⟩
  replace HR2 := Lib.hid (HR2.out.below hb)
  replace HB := Lib.hid (bel_trans HB.out hb)
  clear hb
  go_wp2_with fail
  refine (lHeldBondS _ _ _ _ _ (by omega) (by omega) r.length HR2.out).mono ?_
  rintro e w' ⟨rfl, rfl⟩
  go_wp2_with fail
  go_ret
  exact ⟨rfl, HB.out⟩
end Go.Proofs.Ytannpnhboeopdaa
