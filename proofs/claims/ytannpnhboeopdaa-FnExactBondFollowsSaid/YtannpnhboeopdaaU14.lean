/-
  What the proofs of this seat's statements share (ListS, BndL, BndM).
-/
import Derived.Deep.RegionHeld3
import Derived.Test.YtannpnhboeopdaaU13
import Derived.Test.YtannpnhboeopdaaU12
import Derived.Test.YtannpnhboeopdaaU6
import Derived.Test.YtannpnhboeopdaaU2

namespace Go.Proofs.Ytannpnhboeopdaa
open Go.RowKit

theorem zero_one {m k : Nat} {b : Bool} (h : hasW (m : Int) k = b) : (((m : Int) / 2 ^ k).tmod 2 == 0) = !b := by
  have e : (2 : Int) ^ k = ((2 ^ k : Nat) : Int) := by push_cast; rfl
  have e2 : hasW (m : Int) k = decide (m / 2 ^ k % 2 = 1) := by unfold hasW; rw [Int.toNat_natCast, Nat.testBit_eq_decide_div_mod_eq]
  rw [← h, e2, e, show ((m : Int) / ((2 ^ k : Nat) : Int)).tmod 2 = ((m / 2 ^ k % 2 : Nat) : Int) by rw [← Int.natCast_ediv]; rfl]
  rcases Nat.mod_two_eq_zero_or_one (m / 2 ^ k) with h | h <;> rw [h] <;> rfl
set_option maxRecDepth 100000 in
set_option maxHeartbeats 8000000 in
theorem sBondsOf (t s : Int) (w : World) : Calls Try.prog 39 #[.int .i64 t, .int .i64 s] w (BondsPost (bondsL t s) w) := by
  have hnot : ∀ (x : Bool) (w : World), (Op.unary .not (.bool x)).run Try.prog w = .ok (.bool (!x)) w := fun _ _ => rfl
  have HO0 : Hid (OwnsP (w.alloc (.cells #[] 24)) w.heap.size (.slice (some ⟨w.heap.size, 0, none⟩) 0 0) []) := OwnsP.lit0 w w.heap.size (Nat.le_refl _)
  have HB0 : Hid (Below w.heap.size w (w.alloc (.cells #[] 24))) := (Below.refl _ _).alloc (Nat.le_refl _) _
  rcases hset : setOkB t s with _ | _
  · have HS := Lib.hid hset
    rw [show bondsL t s = [] by unfold bondsL; rw [hset]; rfl]
    clear hset
    go_enter Try.func39, Try.ntmps39
    go_wp2_with fail
    refine (sSetOk_is HS _).mono ?_
    rintro e w' ⟨rfl, rfl⟩
    go_wp2_with fail
    go_ret
    exact ⟨_, rfl, HO0.out, HB0.out⟩
  · have HS := Lib.hid hset
    obtain ⟨h1, h3, hs0, _, hs256⟩ := setOkB_lt hset
    have HEND := Lib.hid (bondsTo_end hset)
    have ht : t = 1 ∨ t = 2 ∨ t = 3 := by omega
    clear hset h1 h3
    rcases ht with rfl | rfl | rfl
    · have HEND : Hid (bondsTo 1 s 2 = bondsL 1 s) := HEND.out
      go_enter Try.func39, Try.ntmps39
      go_wp2_with fail
      refine (sSetOk_is HS _).mono ?_
      rintro e w' ⟨rfl, rfl⟩
      go_wp2_with fail
      go_loopw [5, 6] (fun v i wr => ∃ k : Nat, k ≤ 2 ∧ i = .int .i64 k ∧ OwnsP wr w.heap.size v (bondsTo 1 s k) ∧ Below w.heap.size w wr) (fun _ i _ => 2 - (Go.RowKit.intOf i).toNat)
      case atStart => exact ⟨0, Nat.zero_le _, rfl, HO0.out, HB0.out⟩
      case round =>
        obtain ⟨k, hk, rfl, hown, hbel⟩ := hrel
        have HO := Lib.hid hown
        have HB := Lib.hid hbel
        clear hown hbel
        by_cases hlt : k < 2
        · have HZ : Hid (bondsTo 1 s k = bondsUp 1 s k 0) := (bondsUp_zero 1 s k).symm
          have HE : Hid (bondsUp 1 s k 1 = bondsTo 1 s (k + 1)) := bondsUp_end 1 s k
          have HLEN := Lib.hid (fun j => bondsUp_len (t := 1) (s := s) (by omega) k j)
          have HNX := Lib.hid (fun j => bondsUp_next 1 s k j)
          have hdk : decide ((k : Int) < 2) = true := decide_eq_true (by omega)
          go_wp2_with fail
          clear hdk
          go_loopw [5, 7] (fun v i wi => ∃ j : Nat, j ≤ 1 ∧ i = .int .i64 j ∧ OwnsP wi w.heap.size v (bondsUp 1 s k j) ∧ Below w.heap.size w wi) (fun _ i _ => 1 - (Go.RowKit.intOf i).toNat)
          case atStart => exact ⟨0, Nat.zero_le _, rfl, by rw [← HZ.out]; exact HO.out, HB.out⟩
          case round =>
            obtain ⟨j, hj, rfl, hown, hbel⟩ := hrel
            have HOI := Lib.hid hown
            have HBI := Lib.hid hbel
            have hszi := hbel.size
            clear hown hbel
            by_cases hjt : j < 1
            · have hnx := HNX.out j
              have hlen := HLEN.out j
              have HWP := Lib.hid (wrap_pow5 (k := j) (by omega))
              have hpl : 2 ^ j < 2 := pow_small (show j ≤ 0 by omega) (by decide)
              obtain ⟨x, HX⟩ : ∃ b, Hid (hasW (k : Int) j = b) := ⟨_, rfl⟩
              have hone := zero_one HX.out
              have hxf : k.testBit j = x := HX.out
              have HBA : Hid (bondAt 1 s k j = (!x && holdsInB 1 s k ((2 ^ j : Nat) : Int))) := by unfold Hid bondAt; rw [hxf]
              have hba := HBA.out
              clear HBA
              obtain ⟨p, hp⟩ : ∃ p, 2 ^ j = p := ⟨_, rfl⟩
              rw [hp] at HWP hpl hnx hba
              have hq : (bondsUp 1 s k j).length ≤ 1048576 := by omega
              have HBX : Hid (BoxAt (wr.alloc (.cells #[.int .i64 k, .int .i64 p] 24)) wr.heap.size k p) := BoxAt.new wr k p _
              have HO1 : Hid (OwnsP (wr.alloc (.cells #[.int .i64 k, .int .i64 p] 24)) w.heap.size u5 (bondsUp 1 s k j)) := HOI.out.alloc _
              have HB2 : Hid (Below w.heap.size w (wr.alloc (.cells #[.int .i64 k, .int .i64 p] 24))) := HBI.out.alloc hszi _
              have hsz1 : w.heap.size ≤ (wr.alloc (.cells #[.int .i64 k, .int .i64 p] 24)).heap.size := HB2.out.size
              clear hp hxf
              cases x
              · rcases hh : holdsInB 1 s k p with _ | _
                · have HH := Lib.hid hh
                  have HN : Hid (bondsUp 1 s k (j + 1) = bondsUp 1 s k j) := by unfold Hid; rw [hnx, hba, hh]; simp
                  clear hnx hba hh hlen hsz1 hq
                  have hwp := HWP.out
                  go_wp2_with fail
                  clear hwp
                  refine (sHoldsIn_is HH _).mono ?_
                  rintro e w2 ⟨rfl, hb⟩
                  have HB3 := Lib.hid (bel_trans HB2.out hb)
                  have HO2 := Lib.hid (HO1.out.below hb)
                  clear hb
                  go_wp2_with fail
                  go_roundw
                  case rel => exact ⟨j + 1, by omega, by go_num, by rw [HN.out]; exact HO2.out, HB3.out⟩
                  case measure => simp [Go.RowKit.intOf]; omega
                · have HH := Lib.hid hh
                  have HN : Hid (bondsUp 1 s k (j + 1) = bondsUp 1 s k j ++ [((k : Int), (p : Int))]) := by unfold Hid; rw [hnx, hba, hh]; simp
                  clear hnx hba hh
                  have hwp := HWP.out
                  go_wp2_with fail
                  clear hwp
                  refine (sHoldsIn_is HH _).mono ?_
                  rintro e w2 ⟨rfl, hb⟩
                  have HB3 := Lib.hid (bel_trans HB2.out hb)
                  have HO2 := Lib.hid (HO1.out.below hb)
                  obtain ⟨hc0, hc1, _⟩ := HBX.out.below hb
                  have hsz2 : w.heap.size ≤ w2.heap.size := HB3.out.size
                  clear hb hsz1
                  go_wp2_with (at_builtin; refine wp_append1P (W := w2) rfl _ _ rfl w.heap.size u5 (bondsUp 1 s k j) rfl HO2.out (k : Int) (p : Int) rfl hq hsz2 ?_; intro v' w' hown' hgrow)
                  have hb' := below_appendP HB3.out hsz2 HO2.out (Nat.le_refl _) hgrow
                  go_roundw
                  case rel => exact ⟨j + 1, by omega, by go_num, by rw [HN.out]; exact hown', hb'⟩
                  case measure => simp [Go.RowKit.intOf]; omega
              · have HN : Hid (bondsUp 1 s k (j + 1) = bondsUp 1 s k j) := by unfold Hid; rw [hnx, hba]; simp
                clear hnx hba hlen hsz1 hq
                have hwp := HWP.out
                go_wp2_with fail
                clear hwp
                go_roundw
                case rel => exact ⟨j + 1, by omega, by go_num, by rw [HN.out]; exact HO1.out, HB2.out⟩
                case measure => simp [Go.RowKit.intOf]; omega
            · obtain rfl : j = 1 := by omega
              rw [HE.out] at HOI
              go_wp2_with fail
              go_roundw
              case rel => exact ⟨k + 1, by omega, by go_num, HOI.out, HBI.out⟩
              case measure => simp [Go.RowKit.intOf]; omega
        · obtain rfl : k = 2 := by omega
          rw [HEND.out] at HO
          go_wp2_with fail
          go_ret
          exact ⟨_, rfl, HO.out, HB.out⟩
    · have HEND : Hid (bondsTo 2 s 4 = bondsL 2 s) := HEND.out
      go_enter Try.func39, Try.ntmps39
      go_wp2_with fail
      refine (sSetOk_is HS _).mono ?_
      rintro e w' ⟨rfl, rfl⟩
      go_wp2_with fail
      go_loopw [5, 6] (fun v i wr => ∃ k : Nat, k ≤ 4 ∧ i = .int .i64 k ∧ OwnsP wr w.heap.size v (bondsTo 2 s k) ∧ Below w.heap.size w wr) (fun _ i _ => 4 - (Go.RowKit.intOf i).toNat)
      case atStart => exact ⟨0, Nat.zero_le _, rfl, HO0.out, HB0.out⟩
      case round =>
        obtain ⟨k, hk, rfl, hown, hbel⟩ := hrel
        have HO := Lib.hid hown
        have HB := Lib.hid hbel
        clear hown hbel
        by_cases hlt : k < 4
        · have HZ : Hid (bondsTo 2 s k = bondsUp 2 s k 0) := (bondsUp_zero 2 s k).symm
          have HE : Hid (bondsUp 2 s k 2 = bondsTo 2 s (k + 1)) := bondsUp_end 2 s k
          have HLEN := Lib.hid (fun j => bondsUp_len (t := 2) (s := s) (by omega) k j)
          have HNX := Lib.hid (fun j => bondsUp_next 2 s k j)
          have hdk : decide ((k : Int) < 4) = true := decide_eq_true (by omega)
          go_wp2_with fail
          clear hdk
          go_loopw [5, 7] (fun v i wi => ∃ j : Nat, j ≤ 2 ∧ i = .int .i64 j ∧ OwnsP wi w.heap.size v (bondsUp 2 s k j) ∧ Below w.heap.size w wi) (fun _ i _ => 2 - (Go.RowKit.intOf i).toNat)
          case atStart => exact ⟨0, Nat.zero_le _, rfl, by rw [← HZ.out]; exact HO.out, HB.out⟩
          case round =>
            obtain ⟨j, hj, rfl, hown, hbel⟩ := hrel
            have HOI := Lib.hid hown
            have HBI := Lib.hid hbel
            have hszi := hbel.size
            clear hown hbel
            by_cases hjt : j < 2
            · have hnx := HNX.out j
              have hlen := HLEN.out j
              have HWP := Lib.hid (wrap_pow5 (k := j) (by omega))
              have hpl : 2 ^ j < 4 := pow_small (show j ≤ 1 by omega) (by decide)
              obtain ⟨x, HX⟩ : ∃ b, Hid (hasW (k : Int) j = b) := ⟨_, rfl⟩
              have hone := zero_one HX.out
              have hxf : k.testBit j = x := HX.out
              have HBA : Hid (bondAt 2 s k j = (!x && holdsInB 2 s k ((2 ^ j : Nat) : Int))) := by unfold Hid bondAt; rw [hxf]
              have hba := HBA.out
              clear HBA
              obtain ⟨p, hp⟩ : ∃ p, 2 ^ j = p := ⟨_, rfl⟩
              rw [hp] at HWP hpl hnx hba
              have hq : (bondsUp 2 s k j).length ≤ 1048576 := by omega
              have HBX : Hid (BoxAt (wr.alloc (.cells #[.int .i64 k, .int .i64 p] 24)) wr.heap.size k p) := BoxAt.new wr k p _
              have HO1 : Hid (OwnsP (wr.alloc (.cells #[.int .i64 k, .int .i64 p] 24)) w.heap.size u5 (bondsUp 2 s k j)) := HOI.out.alloc _
              have HB2 : Hid (Below w.heap.size w (wr.alloc (.cells #[.int .i64 k, .int .i64 p] 24))) := HBI.out.alloc hszi _
              have hsz1 : w.heap.size ≤ (wr.alloc (.cells #[.int .i64 k, .int .i64 p] 24)).heap.size := HB2.out.size
              clear hp hxf
              cases x
              · rcases hh : holdsInB 2 s k p with _ | _
                · have HH := Lib.hid hh
                  have HN : Hid (bondsUp 2 s k (j + 1) = bondsUp 2 s k j) := by unfold Hid; rw [hnx, hba, hh]; simp
                  clear hnx hba hh hlen hsz1 hq
                  have hwp := HWP.out
                  go_wp2_with fail
                  clear hwp
                  refine (sHoldsIn_is HH _).mono ?_
                  rintro e w2 ⟨rfl, hb⟩
                  have HB3 := Lib.hid (bel_trans HB2.out hb)
                  have HO2 := Lib.hid (HO1.out.below hb)
                  clear hb
                  go_wp2_with fail
                  go_roundw
                  case rel => exact ⟨j + 1, by omega, by go_num, by rw [HN.out]; exact HO2.out, HB3.out⟩
                  case measure => simp [Go.RowKit.intOf]; omega
                · have HH := Lib.hid hh
                  have HN : Hid (bondsUp 2 s k (j + 1) = bondsUp 2 s k j ++ [((k : Int), (p : Int))]) := by unfold Hid; rw [hnx, hba, hh]; simp
                  clear hnx hba hh
                  have hwp := HWP.out
                  go_wp2_with fail
                  clear hwp
                  refine (sHoldsIn_is HH _).mono ?_
                  rintro e w2 ⟨rfl, hb⟩
                  have HB3 := Lib.hid (bel_trans HB2.out hb)
                  have HO2 := Lib.hid (HO1.out.below hb)
                  obtain ⟨hc0, hc1, _⟩ := HBX.out.below hb
                  have hsz2 : w.heap.size ≤ w2.heap.size := HB3.out.size
                  clear hb hsz1
                  go_wp2_with (at_builtin; refine wp_append1P (W := w2) rfl _ _ rfl w.heap.size u5 (bondsUp 2 s k j) rfl HO2.out (k : Int) (p : Int) rfl hq hsz2 ?_; intro v' w' hown' hgrow)
                  have hb' := below_appendP HB3.out hsz2 HO2.out (Nat.le_refl _) hgrow
                  go_roundw
                  case rel => exact ⟨j + 1, by omega, by go_num, by rw [HN.out]; exact hown', hb'⟩
                  case measure => simp [Go.RowKit.intOf]; omega
              · have HN : Hid (bondsUp 2 s k (j + 1) = bondsUp 2 s k j) := by unfold Hid; rw [hnx, hba]; simp
                clear hnx hba hlen hsz1 hq
                have hwp := HWP.out
                go_wp2_with fail
                clear hwp
                go_roundw
                case rel => exact ⟨j + 1, by omega, by go_num, by rw [HN.out]; exact HO1.out, HB2.out⟩
                case measure => simp [Go.RowKit.intOf]; omega
            · obtain rfl : j = 2 := by omega
              rw [HE.out] at HOI
              go_wp2_with fail
              go_roundw
              case rel => exact ⟨k + 1, by omega, by go_num, HOI.out, HBI.out⟩
              case measure => simp [Go.RowKit.intOf]; omega
        · obtain rfl : k = 4 := by omega
          rw [HEND.out] at HO
          go_wp2_with fail
          go_ret
          exact ⟨_, rfl, HO.out, HB.out⟩
    · have HEND : Hid (bondsTo 3 s 8 = bondsL 3 s) := HEND.out
      go_enter Try.func39, Try.ntmps39
      go_wp2_with fail
      refine (sSetOk_is HS _).mono ?_
      rintro e w' ⟨rfl, rfl⟩
      go_wp2_with fail
      go_loopw [5, 6] (fun v i wr => ∃ k : Nat, k ≤ 8 ∧ i = .int .i64 k ∧ OwnsP wr w.heap.size v (bondsTo 3 s k) ∧ Below w.heap.size w wr) (fun _ i _ => 8 - (Go.RowKit.intOf i).toNat)
      case atStart => exact ⟨0, Nat.zero_le _, rfl, HO0.out, HB0.out⟩
      case round =>
        obtain ⟨k, hk, rfl, hown, hbel⟩ := hrel
        have HO := Lib.hid hown
        have HB := Lib.hid hbel
        clear hown hbel
        by_cases hlt : k < 8
        · have HZ : Hid (bondsTo 3 s k = bondsUp 3 s k 0) := (bondsUp_zero 3 s k).symm
          have HE : Hid (bondsUp 3 s k 3 = bondsTo 3 s (k + 1)) := bondsUp_end 3 s k
          have HLEN := Lib.hid (fun j => bondsUp_len (t := 3) (s := s) (by omega) k j)
          have HNX := Lib.hid (fun j => bondsUp_next 3 s k j)
          have hdk : decide ((k : Int) < 8) = true := decide_eq_true (by omega)
          go_wp2_with fail
          clear hdk
          go_loopw [5, 7] (fun v i wi => ∃ j : Nat, j ≤ 3 ∧ i = .int .i64 j ∧ OwnsP wi w.heap.size v (bondsUp 3 s k j) ∧ Below w.heap.size w wi) (fun _ i _ => 3 - (Go.RowKit.intOf i).toNat)
          case atStart => exact ⟨0, Nat.zero_le _, rfl, by rw [← HZ.out]; exact HO.out, HB.out⟩
          case round =>
            obtain ⟨j, hj, rfl, hown, hbel⟩ := hrel
            have HOI := Lib.hid hown
            have HBI := Lib.hid hbel
            have hszi := hbel.size
            clear hown hbel
            by_cases hjt : j < 3
            · have hnx := HNX.out j
              have hlen := HLEN.out j
              have HWP := Lib.hid (wrap_pow5 (k := j) (by omega))
              have hpl : 2 ^ j < 8 := pow_small (show j ≤ 2 by omega) (by decide)
              obtain ⟨x, HX⟩ : ∃ b, Hid (hasW (k : Int) j = b) := ⟨_, rfl⟩
              have hone := zero_one HX.out
              have hxf : k.testBit j = x := HX.out
              have HBA : Hid (bondAt 3 s k j = (!x && holdsInB 3 s k ((2 ^ j : Nat) : Int))) := by unfold Hid bondAt; rw [hxf]
              have hba := HBA.out
              clear HBA
              obtain ⟨p, hp⟩ : ∃ p, 2 ^ j = p := ⟨_, rfl⟩
              rw [hp] at HWP hpl hnx hba
              have hq : (bondsUp 3 s k j).length ≤ 1048576 := by omega
              have HBX : Hid (BoxAt (wr.alloc (.cells #[.int .i64 k, .int .i64 p] 24)) wr.heap.size k p) := BoxAt.new wr k p _
              have HO1 : Hid (OwnsP (wr.alloc (.cells #[.int .i64 k, .int .i64 p] 24)) w.heap.size u5 (bondsUp 3 s k j)) := HOI.out.alloc _
              have HB2 : Hid (Below w.heap.size w (wr.alloc (.cells #[.int .i64 k, .int .i64 p] 24))) := HBI.out.alloc hszi _
              have hsz1 : w.heap.size ≤ (wr.alloc (.cells #[.int .i64 k, .int .i64 p] 24)).heap.size := HB2.out.size
              clear hp hxf
              cases x
              · rcases hh : holdsInB 3 s k p with _ | _
                · have HH := Lib.hid hh
                  have HN : Hid (bondsUp 3 s k (j + 1) = bondsUp 3 s k j) := by unfold Hid; rw [hnx, hba, hh]; simp
                  clear hnx hba hh hlen hsz1 hq
                  have hwp := HWP.out
                  go_wp2_with fail
                  clear hwp
                  refine (sHoldsIn_is HH _).mono ?_
                  rintro e w2 ⟨rfl, hb⟩
                  have HB3 := Lib.hid (bel_trans HB2.out hb)
                  have HO2 := Lib.hid (HO1.out.below hb)
                  clear hb
                  go_wp2_with fail
                  go_roundw
                  case rel => exact ⟨j + 1, by omega, by go_num, by rw [HN.out]; exact HO2.out, HB3.out⟩
                  case measure => simp [Go.RowKit.intOf]; omega
                · have HH := Lib.hid hh
                  have HN : Hid (bondsUp 3 s k (j + 1) = bondsUp 3 s k j ++ [((k : Int), (p : Int))]) := by unfold Hid; rw [hnx, hba, hh]; simp
                  clear hnx hba hh
                  have hwp := HWP.out
                  go_wp2_with fail
                  clear hwp
                  refine (sHoldsIn_is HH _).mono ?_
                  rintro e w2 ⟨rfl, hb⟩
                  have HB3 := Lib.hid (bel_trans HB2.out hb)
                  have HO2 := Lib.hid (HO1.out.below hb)
                  obtain ⟨hc0, hc1, _⟩ := HBX.out.below hb
                  have hsz2 : w.heap.size ≤ w2.heap.size := HB3.out.size
                  clear hb hsz1
                  go_wp2_with (at_builtin; refine wp_append1P (W := w2) rfl _ _ rfl w.heap.size u5 (bondsUp 3 s k j) rfl HO2.out (k : Int) (p : Int) rfl hq hsz2 ?_; intro v' w' hown' hgrow)
                  have hb' := below_appendP HB3.out hsz2 HO2.out (Nat.le_refl _) hgrow
                  go_roundw
                  case rel => exact ⟨j + 1, by omega, by go_num, by rw [HN.out]; exact hown', hb'⟩
                  case measure => simp [Go.RowKit.intOf]; omega
              · have HN : Hid (bondsUp 3 s k (j + 1) = bondsUp 3 s k j) := by unfold Hid; rw [hnx, hba]; simp
                clear hnx hba hlen hsz1 hq
                have hwp := HWP.out
                go_wp2_with fail
                clear hwp
                go_roundw
                case rel => exact ⟨j + 1, by omega, by go_num, by rw [HN.out]; exact HO1.out, HB2.out⟩
                case measure => simp [Go.RowKit.intOf]; omega
            · obtain rfl : j = 3 := by omega
              rw [HE.out] at HOI
              go_wp2_with fail
              go_roundw
              case rel => exact ⟨k + 1, by omega, by go_num, HOI.out, HBI.out⟩
              case measure => simp [Go.RowKit.intOf]; omega
        · obtain rfl : k = 8 := by omega
          rw [HEND.out] at HO
          go_wp2_with fail
          go_ret
          exact ⟨_, rfl, HO.out, HB.out⟩
theorem sBondsOf_is {t s : Int} {l : List (Int × Int)} (h : Hid (bondsL t s = l)) (w : World) : Calls Try.prog 39 #[.int .i64 t, .int .i64 s] w (BondsPost l w) := by
  have := sBondsOf t s w
  rw [h.out] at this; exact this
end Go.Proofs.Ytannpnhboeopdaa

namespace Go.Proofs.Ytannpnhboeopdaa
open Go.RowKit

theorem bel_box {W : World} {T : TypeId} {a b : Value} : Below W.heap.size W (W.alloc (.cells #[a, b] T)) := (Below.refl _ _).alloc (Nat.le_refl _) _
theorem lEither {a b g : Int} (h : Hid (orI a b = g)) (ha : 0 ≤ a) (ha2 : a < 256) (hb : 0 ≤ b) (hb2 : b < 256) (w : World) :
    Calls Try.prog 22 #[.int .i64 a, .int .i64 b] w fun e w' => e = .returned (.int .i64 g) ∧ ∃ n, w' = w.drewN n := by
  have h := Lib.hid ((orI_eq a b ha ha2 hb hb2).trans h.out)
  have h1 := andI_nonneg a b
  have h2 := andI_le a b ha
  go_enter Try.func22, Try.ntmps22
  go_wp2_with fail
  refine (lBoth a b ha ha2 hb _).mono ?_
  rintro e w' ⟨rfl, rfl⟩
  go_wp2_with fail
  go_ret
  exact ⟨ret_int h.out, 0, rfl⟩

set_option maxHeartbeats 1000000 in
theorem lSameBonds (A B : Option Addr) (n m c d : Nat) (ds : List (Int × Int)) (w : World) (ha : BRow w A n c ds) (hb : BRow w B m d ds) :
    Calls Try.prog 38 #[.slice A n c, .slice B m d] w fun e w' => e = .returned (.bool true) ∧ ∃ n, w' = w.drewN n := by
  have HA := Lib.hid ha
  have HB := Lib.hid hb
  obtain rfl := ha.hn
  obtain rfl := hb.hn
  have hl := ha.hl
  have hd : ((ds.length : Int) != (ds.length : Int)) = false := by simp
  clear ha hb
  go_enter Try.func38, Try.ntmps38
  go_wp2_with fail
  go_loopw [5] (fun i wr => ∃ k : Nat, k ≤ ds.length ∧ i = .int .i64 k ∧ ∃ n, wr = w.drewN n) (fun i _ => ds.length - (Go.RowKit.intOf i).toNat)
  case atStart => exact ⟨0, Nat.zero_le _, rfl, 0, rfl⟩
  case round =>
    obtain ⟨k, hk, rfl, n, rfl⟩ := hrel
    by_cases hlt : k < ds.length
    · obtain ⟨b, off, f, g, rfl, hc0, hc1, hx, _⟩ := HA.out.hA.elem hlt
      obtain ⟨b', off', f', g', rfl, hc0', hc1', hx', _⟩ := HB.out.hA.elem hlt
      have e := hx.out.symm.trans hx'.out
      simp only [Option.some.injEq, Prod.mk.injEq] at e
      obtain ⟨rfl, rfl⟩ := e
      go_wp2_with fail
      go_quiet (fail)
      go_wp2_with fail
      go_roundw
      case rel => exact ⟨k + 1, by omega, by go_num, _, rfl⟩
      case measure => simp [Go.RowKit.intOf]; omega
    · obtain rfl : k = ds.length := by omega
      go_wp2_with fail
      go_ret
      exact ⟨rfl, _, rfl⟩

theorem lEqBond (f g : Int) (w : World) :
    Calls Try.prog 68 #[.agg #[.int .i64 f, .int .i64 g], .agg #[.int .i64 f, .int .i64 g]] w (BPost true w) := by
  have hd : (f != f) = false := by simp
  have hd2 : (g != g) = false := by simp
  go_enter Try.func68, Try.ntmps68
  go_wp2_with fail
  go_ret
  exact ⟨rfl, ((Below.refl _ _).alloc (Nat.le_refl _) _).alloc (by rw [World.size_alloc]; omega) _⟩

theorem results_cell {fn : Func} {r : Tmp} (h : fn.results = #[.cell r 24]) {tmps : Array Value} {w : World} {b : Nat} {f g : Int} (ht : tmps.getD r undef = .pointer (some ⟨b, 0, none⟩))
   (hc0 : w.cell? ⟨b, 0, none⟩ = some (.int .i64 f)) (hc1 : w.cell? ⟨b, 1, none⟩ = some (.int .i64 g)) : (results fn tmps).run Try.prog w = .ok (.agg #[.int .i64 f, .int .i64 g]) w := by
  have ht : tmps[r]?.getD undef = .pointer (some ⟨b, 0, none⟩) := by simpa using ht
  simp [results, h, ht, go_sem, hc0, hc1]
theorem results_cell2 {fn : Func} {r q : Tmp} (h : fn.results = #[.tmp q, .cell r 24]) {tmps : Array Value} {w : World} {b : Nat} {f g : Int} {v : Value} (hv : tmps.getD q undef = v) (ht : tmps.getD r undef = .pointer (some ⟨b, 0, none⟩))
   (hc0 : w.cell? ⟨b, 0, none⟩ = some (.int .i64 f)) (hc1 : w.cell? ⟨b, 1, none⟩ = some (.int .i64 g)) : (results fn tmps).run Try.prog w = .ok (.tuple #[v, .agg #[.int .i64 f, .int .i64 g]]) w := by
  have ht : tmps[r]?.getD undef = .pointer (some ⟨b, 0, none⟩) := by simpa using ht
  have hv : tmps[q]?.getD undef = v := by simpa using hv
  simp [results, h, ht, hv, go_sem, hc0, hc1]
theorem results_cell3 {fn : Func} {r q p : Tmp} (h : fn.results = #[.tmp p, .tmp q, .cell r 24]) {tmps : Array Value} {w : World} {b : Nat} {f g : Int} {u v : Value} (hu : tmps.getD p undef = u) (hv : tmps.getD q undef = v) (ht : tmps.getD r undef = .pointer (some ⟨b, 0, none⟩))
   (hc0 : w.cell? ⟨b, 0, none⟩ = some (.int .i64 f)) (hc1 : w.cell? ⟨b, 1, none⟩ = some (.int .i64 g)) : (results fn tmps).run Try.prog w = .ok (.tuple #[u, v, .agg #[.int .i64 f, .int .i64 g]]) w := by
  have ht : tmps[r]?.getD undef = .pointer (some ⟨b, 0, none⟩) := by simpa using ht
  have hv : tmps[q]?.getD undef = v := by simpa using hv
  have hu : tmps[p]?.getD undef = u := by simpa using hu
  simp [results, h, ht, hv, hu, go_sem, hc0, hc1]
theorem lToBond (f g : Int) (w : World) :
    Calls Try.prog 40 #[.agg #[.int .i64 f, .int .i64 g]] w fun e w' => e = .returned (.agg #[.int .i64 f, .int .i64 g]) ∧ Below w.heap.size w w' := by
  go_enter Try.func40, Try.ntmps40
  go_wp2_with fail
  refine bodyPost_ret_by (results_cell (b := w.heap.size + 1) (f := f) (g := g) rfl rfl (by simp [go_sem]) (by simp [go_sem])) rfl ⟨rfl, ?_⟩
  exact ((bel_box).alloc (by rw [World.size_alloc]; omega) _).alloc (by rw [World.size_alloc, World.size_alloc]; omega) _

theorem lSzBondS_no (A : Option Addr) (n c : Nat) (w : World) (h : 1048576 < n) (hm : n ≤ 9223372036854775807) :
    Calls Try.prog 42 #[.slice A n c, .int .i64 1048576] w fun e w' => e = .returned (.int .i64 (-1)) ∧ w = w' := by
  have hd : decide ((1048576 : Int) - (n : Int) < 0) = true := decide_eq_true (by omega)
  go_enter Try.func42, Try.ntmps42
  go_wp2_with fail
  go_ret
  exact ⟨rfl, rfl⟩
theorem lSzBondS_yes (A : Option Addr) (n c : Nat) (w : World) (h : n ≤ 1048576) :
    Calls Try.prog 42 #[.slice A n c, .int .i64 1048576] w fun e w' => e = .returned (.int .i64 (1048576 - (n : Int))) ∧ w = w' := by
  have hd : decide ((1048576 : Int) - (n : Int) < 0) = false := decide_eq_false (by omega)
  go_enter Try.func42, Try.ntmps42
  go_wp2_with fail
  go_ret
  exact ⟨rfl, rfl⟩

set_option maxHeartbeats 2000000 in
theorem lEqBondS (A B : Option Addr) (n m c d : Nat) (ds : List (Int × Int)) (w : World) (ha : BRow w A n c ds) (hb : BRow w B m d ds) :
    Calls Try.prog 44 #[.slice A n c, .slice B m d] w (BPost true w) := by
  have HA := Lib.hid ha
  have HB := Lib.hid hb
  obtain rfl := ha.hn
  obtain rfl := hb.hn
  have hl := ha.hl
  have hd : ((ds.length : Int) != (ds.length : Int)) = false := by simp
  clear ha hb
  go_enter Try.func44, Try.ntmps44
  go_wp2_with fail
  clear hd
  go_loopw [5] (fun i wr => ∃ k : Nat, k ≤ ds.length ∧ i = .int .i64 k ∧ Below w.heap.size w wr) (fun i _ => ds.length - (Go.RowKit.intOf i).toNat)
  case atStart => exact ⟨0, Nat.zero_le _, rfl, Below.refl _ _⟩
  case round =>
    obtain ⟨k, hk, rfl, hbel⟩ := hrel
    have HBW := Lib.hid hbel
    clear hbel
    by_cases hlt : k < ds.length
    · obtain ⟨b, off, f, g, rfl, hc0, hc1, hx, hb1⟩ := (HA.out.hA.below HBW.out).elem hlt
      obtain ⟨b', off', f', g', rfl, hc0', hc1', hx', hb2⟩ := (HB.out.hA.below HBW.out).elem hlt
      have e := hx.out.symm.trans hx'.out
      simp only [Option.some.injEq, Prod.mk.injEq] at e
      obtain ⟨rfl, rfl⟩ := e
      go_wp2_with fail
      go_region_held3 (fun w' => w'.cell? ⟨b, off + k * 2, none⟩ = some (.int .i64 f) ∧ w'.cell? ⟨b, off + k * 2 + 1, none⟩ = some (.int .i64 g) ∧ w'.cell? ⟨b', off' + k * 2, none⟩ = some (.int .i64 f) ∧ w'.cell? ⟨b', off' + k * 2 + 1, none⟩ = some (.int .i64 g))
        (first | go_keep | exact ⟨hc0, hc1, hc0', hc1'⟩ | exact HKEEP.out)
        (first | (go_at_call 68; refine (lEqBond f g _).mono ?_; rintro e w1 ⟨rfl, hb⟩; have HKEEP := Lib.hid (And.intro (((Below.cell hb (p := ⟨b, off + k * 2, none⟩)) hb1.out).trans hc0) (And.intro (((Below.cell hb (p := ⟨b, off + k * 2 + 1, none⟩)) hb1.out).trans hc1) (And.intro (((Below.cell hb (p := ⟨b', off' + k * 2, none⟩)) hb2.out).trans hc0') (((Below.cell hb (p := ⟨b', off' + k * 2 + 1, none⟩)) hb2.out).trans hc1')))); have HB2 := Lib.hid (bel_trans (bel_drewN HBW.out 1) hb); clear hb))
      all_goals
        go_wp2_with fail
        go_roundw
        case rel => exact ⟨k + 1, by omega, by go_num, HB2.out⟩
        case measure => simp [Go.RowKit.intOf]; omega
    · obtain rfl : k = ds.length := by omega
      go_wp2_with fail
      go_ret
      exact ⟨rfl, HBW.out⟩

/-- The marks of n dependences from k on. -/
def marksP (k : Int) (n : Nat) : List (Int × Int) := (List.range n).map fun i : Nat => (k + 2 * (i : Int), k + 2 * (i : Int) + 1)
theorem marksP_len (k : Int) (n : Nat) : (marksP k n).length = n := by unfold marksP; simp
theorem marksP_at {k : Int} {n i : Nat} {f g : Int} (h : Hid ((marksP k n)[i]? = some (f, g))) : f = k + 2 * (i : Int) ∧ g = k + 2 * (i : Int) + 1 := by
  have h := h.out
  unfold marksP at h
  rw [List.getElem?_map] at h
  by_cases hi : i < n
  · rw [List.getElem?_range hi] at h
    simp only [Option.map_some, Option.some.injEq, Prod.mk.injEq] at h
    exact ⟨h.1.symm, h.2.symm⟩
  · rw [List.getElem?_eq_none (by simp; omega)] at h
    cases h
set_option maxHeartbeats 1000000 in
theorem lHeldBondS (A : Option Addr) (n c : Nat) (k0 : Int) (w : World) (hk : 0 ≤ k0) (hk2 : k0 ≤ 1048576) (m : Nat) (ha : BRow w A n c (marksP k0 m)) :
    Calls Try.prog 49 #[.slice A n c, .int .i64 k0] w fun e w' => e = .returned (.int .i64 (k0 + 2 * (m : Int))) ∧ w = w' := by
  have HA := Lib.hid ha
  have hn := ha.hn
  have hl := ha.hl
  rw [marksP_len] at hn
  subst hn
  clear ha
  go_enter Try.func49, Try.ntmps49
  go_wp2_with fail
  go_loop [1, 5] (fun q i => ∃ k : Nat, k ≤ n ∧ i = .int .i64 k ∧ q = .int .i64 (k0 + 2 * (k : Int))) (fun _ i => n - (Go.RowKit.intOf i).toNat)
  case atStart => exact ⟨0, Nat.zero_le _, rfl, by simp⟩
  case round =>
    obtain ⟨k, hk', rfl, rfl⟩ := hrel
    by_cases hlt : k < n
    · obtain ⟨b, off, f, g, rfl, hc0, hc1, hx, _⟩ := HA.out.hA.elem (i := k) (by rw [marksP_len]; exact hlt)
      obtain ⟨rfl, rfl⟩ := marksP_at hx
      have he1 : (k0 + 2 * (k : Int) != k0 + 2 * (k : Int)) = false := by simp
      have he2 : (k0 + 2 * (k : Int) + 1 != k0 + 2 * (k : Int) + 1) = false := by simp
      go_wp2_with fail
      go_round
      case rel => exact ⟨k + 1, by omega, by go_num, by go_num⟩
      case measure => simp [Go.RowKit.intOf]; omega
    · obtain rfl : k = n := by omega
      go_wp2_with fail
      go_ret
      exact ⟨rfl, rfl⟩
end Go.Proofs.Ytannpnhboeopdaa

namespace Go.Proofs.Ytannpnhboeopdaa
open Go.RowKit

theorem flatP_set : ∀ (es : List (Int × Int)) (k : Nat) (a b : Int), k < es.length → ((flatP es).set (k * 2) (.int .i64 a)).set (k * 2 + 1) (.int .i64 b) = flatP (es.set k (a, b))
  | [], k, a, b, h => by simp at h
  | x :: es, 0, a, b, h => rfl
  | x :: es, k + 1, a, b, h => by
    rw [flatP_cons, show (k + 1) * 2 = k * 2 + 1 + 1 by omega, List.set_cons_succ, List.set_cons_succ, List.set_cons_succ, List.set_cons_succ, List.set_cons_succ, flatP_cons, flatP_set es k a b (by simpa using h)]
set_option maxHeartbeats 2000000 in
theorem lMarkBondS (base : Nat) (A : Option Addr) (n c : Nat) (ds : List (Int × Int)) (k0 : Int) (w : World) (hn : n = ds.length) (hl : n ≤ 1048576) (hk : 0 ≤ k0) (hk2 : k0 ≤ 1048576) (hO : OwnsP w base (.slice A n c) ds) :
    Calls Try.prog 48 #[.slice A n c, .int .i64 k0] w fun e w' => e = .returned (.int .i64 (k0 + 2 * (n : Int))) ∧ OwnsP w' base (.slice A n c) (marksP k0 n) ∧ w.grownBy w' (Value.slice A n c).ownBlock := by
  subst hn
  have HO := Lib.hid hO
  rcases hO.2 with ⟨hv, hz⟩ | ⟨g, cap, cur, hv, hb, hg, hnc, hcm, hcs, _⟩
  · simp only [Value.slice.injEq] at hv
    obtain ⟨rfl, _, rfl⟩ := hv
    obtain rfl : ds = [] := List.eq_nil_of_length_eq_zero (by omega)
    clear hO hz
    go_enter Try.func48, Try.ntmps48
    go_wp2_with fail
    refine wp_loop_rounds 1 ?_
    rw [rounds_succ]
    go_wp2_with fail
    go_ret
    exact ⟨by simp, HO.out, World.grownBy.refl w _⟩
  · simp only [Value.slice.injEq] at hv
    obtain ⟨rfl, _, rfl⟩ := hv
    clear hO hg hcs
    go_enter Try.func48, Try.ntmps48
    go_wp2_with fail
    go_loopw [1, 5] (fun q i wr => ∃ (k : Nat) (es : List (Int × Int)), k ≤ ds.length ∧ i = .int .i64 k ∧ q = .int .i64 (k0 + 2 * (k : Int)) ∧ Hid (es.length = ds.length) ∧ Hid (∀ (i : Nat) (d : Int × Int), i < k → es[i]? = some d → d = (k0 + 2 * (i : Int), k0 + 2 * (i : Int) + 1)) ∧
      wr.ownsRow base 24 2 (.slice (some ⟨g, 0, none⟩) ds.length c) ds.length (flatP es) ∧ w.grownBy wr (some g)) (fun _ i _ => ds.length - (Go.RowKit.intOf i).toNat)
    case atStart => exact ⟨0, ds, Nat.zero_le _, rfl, by simp, rfl, fun i y h => by omega, HO.out, World.grownBy.refl w _⟩
    case round =>
      obtain ⟨k, es, hk', rfl, rfl, hlen, hso, hown, hgr⟩ := hrel
      have HW := Lib.hid hown
      have HG := Lib.hid hgr
      clear hown hgr
      by_cases hlt : k < ds.length
      · obtain ⟨d, hd⟩ : ∃ d, es[k]? = some d := ⟨_, List.getElem?_eq_getElem (by rw [hlen.out]; exact hlt)⟩
        obtain ⟨e1, e2⟩ := flatP_at hd
        have hc1 := HW.out.cellAt (k * 2) (by omega)
        have hf1 := HW.out.frozenAt (k * 2)
        rw [e1] at hc1
        have HW2 := Lib.hid (HW.out.stored (k * 2) (.int .i64 (k0 + 2 * (k : Int)))).1
        have hc2 := HW2.out.cellAt (k * 2 + 1) (by omega)
        have hf2 := HW2.out.frozenAt (k * 2 + 1)
        rw [List.getElem?_set_ne (by omega), e2] at hc2
        clear e1 e2
        go_wp2_with fail
        go_roundw
        case rel =>
          have hst := (HW2.out.stored (k * 2 + 1) (.int .i64 (k0 + 2 * (k : Int) + 1))).1
          rw [flatP_set es k _ _ (by rw [hlen.out]; exact hlt)] at hst
          refine ⟨k + 1, es.set k (k0 + 2 * (k : Int), k0 + 2 * (k : Int) + 1), by omega, by go_num, by go_num, by unfold Hid; rw [List.length_set]; exact hlen.out, ?_, hst, grown_set (grown_set HG.out _ _) _ _⟩
          intro i y hi hy
          rw [List.getElem?_set] at hy
          by_cases e : k = i
          · subst e
            rw [if_pos rfl, if_pos (by rw [hlen.out]; exact hlt)] at hy
            cases hy; rfl
          · rw [if_neg e] at hy
            exact hso.out i y (by omega) hy
        case measure => simp [Go.RowKit.intOf]; omega
      · obtain rfl : k = ds.length := by omega
        have HE : Hid (es = marksP k0 ds.length) := by
          unfold Hid
          apply List.ext_getElem?
          intro i
          by_cases hi : i < ds.length
          · obtain ⟨d, hd⟩ : ∃ d, es[i]? = some d := ⟨_, List.getElem?_eq_getElem (by rw [hlen.out]; exact hi)⟩
            rw [hd, hso.out i d hi hd]
            unfold marksP
            rw [List.getElem?_map, List.getElem?_range hi]; rfl
          · rw [List.getElem?_eq_none (by rw [hlen.out]; omega), List.getElem?_eq_none (by rw [marksP_len]; omega)]
        rw [HE.out] at HW
        go_wp2_with fail
        go_ret
        refine ⟨rfl, ?_, HG.out⟩
        have := HW.out
        unfold OwnsP
        rw [marksP_len]
        exact this

/-- The row that the copying loop fills. -/
def partP (ds : List (Int × Int)) (k : Nat) : Nat → Value := fun j => if j < k * 2 then ((flatP ds)[j]?).getD (.int .i64 0) else .int .i64 0
theorem made_two (m : Nat) : ∀ i, i < (madeCells #[Value.int .i64 0, .int .i64 0] m).size → (madeCells #[Value.int .i64 0, .int .i64 0] m)[i]? = some (.int .i64 0) := by
  intro i hi
  rw [size_madeCells] at hi
  have h2 : i % 2 = 0 ∨ i % 2 = 1 := by omega
  unfold madeCells
  rw [Array.getElem?_map, Array.getElem?_range, if_pos hi]
  rcases h2 with h | h <;> simp [h]
theorem rowP_made (w : World) (n : Nat) (ds : List (Int × Int)) : (w.alloc (.cells (madeCells #[Value.int .i64 0, .int .i64 0] (n * 2)) 24)).rowIs w.heap.size 24 (n * 2) (partP ds 0) := by
  have := World.rowIs_alloc w (madeCells #[Value.int .i64 0, .int .i64 0] (n * 2)) 24 (partP ds 0) (fun i hi => by rw [made_two _ i hi]; unfold partP; rw [if_neg (by omega)])
  rwa [size_madeCells] at this
theorem partP_next {w : World} {g : Nat} {ds : List (Int × Int)} {k : Nat} {a b : Int} (h : w.rowIs g 24 (ds.length * 2) (partP ds k)) (hx : Hid (ds[k]? = some (a, b))) :
    ((w.setCell ⟨g, k * 2, none⟩ (.int .i64 a)).setCell ⟨g, k * 2 + 1, none⟩ (.int .i64 b)).rowIs g 24 (ds.length * 2) (partP ds (k + 1)) := by
  obtain ⟨e1, e2⟩ := flatP_at hx.out
  refine ((h.set (k * 2) _).set (k * 2 + 1) _).congr fun j hj => ?_
  unfold partP
  by_cases e : j = k * 2 + 1
  · subst e
    rw [if_pos rfl, if_pos (by omega), e2]; rfl
  · rw [if_neg e]
    by_cases e' : j = k * 2
    · subst e'
      rw [if_pos rfl, if_pos (by omega), e1]; rfl
    · rw [if_neg e']
      by_cases h1 : j < k * 2
      · rw [if_pos h1, if_pos (by omega)]
      · rw [if_neg h1, if_neg (by omega)]
theorem owns_of_rowP {w : World} {base g : Nat} {ds : List (Int × Int)} (h : w.rowIs g 24 (ds.length * 2) (partP ds ds.length)) (hb : base ≤ g) (hm : ds.length ≤ maxLen) : OwnsP w base (.slice (some ⟨g, 0, none⟩) ds.length ds.length) ds := by
  obtain ⟨c, hg, hn, hc⟩ := h
  refine ⟨flatP_len ds, .inr ⟨g, ds.length, c, rfl, hb, hg, Nat.le_refl _, hm, by omega, ?_⟩⟩
  apply List.ext_getElem?
  intro i
  rw [List.getElem?_take]
  by_cases hi : i < ds.length * 2
  · rw [if_pos (by omega), Array.getElem?_toList, hc i hi]
    unfold partP
    rw [if_pos hi, List.getElem?_eq_getElem (by rw [flatP_len]; exact hi)]; rfl
  · rw [if_neg (by omega), List.getElem?_eq_none (by rw [flatP_len]; omega)]
theorem run_make_P (n : Nat) (hn : n ≤ 1048576) (W : World) : (Instr.makeSlice 31 (.int .i64 (n : Int)) (.int .i64 (n : Int))).run Try.prog W = .ok (.slice (some ⟨W.heap.size, 0, none⟩) n n) (W.alloc (.cells (madeCells #[Value.int .i64 0, .int .i64 0] (n * 2)) 24)) := by
  obtain ⟨i0, hi0, hz0, hz1, hz2⟩ := info_parts bond_info
  have h := run_make (P := Try.prog) W 31 24 i0 _ Try.underlying31 hi0 hz0 .i64 .i64 (n : Int) (n : Int) (by omega) (Int.le_refl _) (by rw [hz2]; omega) (by omega)
  rw [hz1, Int.toNat_natCast] at h
  exact h
set_option maxHeartbeats 2000000 in
theorem lToBondS (A : Option Addr) (n c : Nat) (ds : List (Int × Int)) (w : World) (hn : n = ds.length) (hl : n ≤ 1048576) (hA : Bonds w A ds) :
    Calls Try.prog 43 #[.slice A n c] w fun e w' => ∃ v, e = .returned v ∧ OwnsP w' w.heap.size v ds ∧ Below w.heap.size w w' := by
  subst hn
  have HA := Lib.hid hA
  clear hA
  have hmk := fun W => run_make_P ds.length hl W
  go_enter Try.func43, Try.ntmps43
  go_wp2_with fail
  clear hmk
  go_loopw [4] (fun i wr => ∃ k : Nat, k ≤ ds.length ∧ i = .int .i64 k ∧ wr.rowIs w.heap.size 24 (ds.length * 2) (partP ds k) ∧ Below w.heap.size w wr) (fun i _ => ds.length - (Go.RowKit.intOf i).toNat)
  case atStart => exact ⟨0, Nat.zero_le _, rfl, rowP_made _ _ _, (Below.refl _ _).alloc (Nat.le_refl _) _⟩
  case round =>
    obtain ⟨k, hk, rfl, hrow, hbel⟩ := hrel
    have HB := Lib.hid hbel
    have HW := Lib.hid hrow
    clear hbel hrow
    by_cases hlt : k < ds.length
    · obtain ⟨b, off, f, g, rfl, hc0, hc1, hx, _⟩ := (HA.out.below HB.out).elem hlt
      go_wp2_with fail
      refine (lToBond f g _).mono ?_
      rintro e w1 ⟨rfl, hb⟩
      have HB2 := Lib.hid (bel_trans HB.out hb)
      have HW2 := Lib.hid (HW.out.of_block (hb.block _ HW.out.lt))
      have hd1 := HW2.out.cell (i := k * 2) (by omega)
      have hf1 := HW2.out.frozen (k * 2)
      have hd2 := HW2.out.cell (i := k * 2 + 1) (by omega)
      have hf2 := HW2.out.frozen (k * 2 + 1)
      unfold partP at hd1 hd2
      rw [if_neg (by omega)] at hd1 hd2
      clear hb hc0 hc1
      go_wp2_with fail
      go_roundw
      case rel => exact ⟨k + 1, by omega, by go_num, partP_next HW2.out hx, (HB2.out.setCell (Nat.le_refl _) _).setCell (Nat.le_refl _) _⟩
      case measure => simp [Go.RowKit.intOf]; omega
    · obtain rfl : k = ds.length := by omega
      go_wp2_with fail
      go_ret
      exact ⟨_, rfl, owns_of_rowP HW.out (Nat.le_refl _) (by unfold maxLen; omega), HB.out⟩
end Go.Proofs.Ytannpnhboeopdaa
