/-
  What the proofs of this seat's statements share (KeyS, OwnP, ListM).
-/
import Derived.Test.YtannpnhboeopdaaU11
import Derived.Test.YtannpnhboeopdaaU9
import Derived.Test.YtannpnhboeopdaaU3
import Derived.Test.YtannpnhboeopdaaU7

namespace Go.Proofs.Ytannpnhboeopdaa
open Go.RowKit

def goodTo (t s f : Int) (j : Nat) : Bool := holdsInB t s f (topT t) && (List.range j).all fun k => !(f.toNat.testBit k && holdsInB t s (f - ((2 ^ k : Nat) : Int)) (topT t))
theorem goodTo_zero (t s f : Int) : goodTo t s f 0 = holdsInB t s f (topT t) := by unfold goodTo; simp
theorem goodTo_next (t s f : Int) (j : Nat) : goodTo t s f (j + 1) = (goodTo t s f j && !(f.toNat.testBit j && holdsInB t s (f - ((2 ^ j : Nat) : Int)) (topT t))) := by
  unfold goodTo; rw [List.range_succ, List.all_append, Bool.and_assoc]; simp
theorem goodTo_end (t s f : Int) : goodTo t s f t.toNat = keyB t s f := rfl
set_option maxRecDepth 100000 in
set_option maxHeartbeats 8000000 in
theorem sKeysOf (t s : Int) (w : World) : Calls Try.prog 32 #[.int .i64 t, .int .i64 s] w (KeyPost (keysL t s) w) := by
  have hnot : ∀ (x : Bool) (w : World), (Op.unary .not (.bool x)).run Try.prog w = .ok (.bool (!x)) w := fun _ _ => rfl
  have HO0 : Hid (Owns (w.alloc (.cells #[] 3)) w.heap.size (.slice (some ⟨w.heap.size, 0, none⟩) 0 0) []) := Owns.lit w w.heap.size [] (Nat.le_refl _) (by simp [maxLen])
  have HB0 : Hid (Below w.heap.size w (w.alloc (.cells #[] 3))) := (Below.refl _ _).alloc (Nat.le_refl _) _
  rcases hset : setOkB t s with _ | _
  · have HS := Lib.hid hset
    rw [show keysL t s = [] by unfold keysL; rw [hset]; rfl]
    clear hset
    go_enter Try.func32, Try.ntmps32
    go_wp2_with fail
    refine (sSetOk_is HS _).mono ?_
    rintro e w' ⟨rfl, rfl⟩
    go_wp2_with fail
    go_ret
    exact ⟨_, rfl, HO0.out, HB0.out⟩
  · have HS := Lib.hid hset
    obtain ⟨h1, h3, hs0, _, hs256⟩ := setOkB_lt hset
    have HEND := Lib.hid (keysTo_end hset)
    have ht : t = 1 ∨ t = 2 ∨ t = 3 := by omega
    clear hset h1 h3
    rcases ht with rfl | rfl | rfl
    · have HEND : Hid (keysTo 1 s 2 = keysL 1 s) := HEND.out
      go_enter Try.func32, Try.ntmps32
      go_wp2_with fail
      refine (sSetOk_is HS _).mono ?_
      rintro e w' ⟨rfl, rfl⟩
      go_wp2_with fail
      go_loopw [5, 7] (fun v i wr => ∃ f : Nat, f ≤ 2 ∧ i = .int .i64 f ∧ Owns wr w.heap.size v (keysTo 1 s f) ∧ Below w.heap.size w wr) (fun _ i _ => 2 - (Go.RowKit.intOf i).toNat)
      case atStart => exact ⟨0, Nat.zero_le _, rfl, HO0.out, HB0.out⟩
      case round =>
        obtain ⟨f, hf, rfl, hown, hbel⟩ := hrel
        have HO := Lib.hid hown
        have HB := Lib.hid hbel
        have hkl := keysTo_len 1 s f
        clear hown hbel
        by_cases hlt : f < 2
        · have hfi : decide ((f : Int) ≤ 1) = true := decide_eq_true (by omega)
          have HZ : Hid (holdsInB 1 s f 1 = goodTo 1 s f 0) := (goodTo_zero 1 s f).symm
          have HNX := Lib.hid (fun j => goodTo_next 1 s f j)
          have HGE : Hid (goodTo 1 s f 1 = keyB 1 s f) := rfl
          have HKN := Lib.hid (keysTo_next 1 s f)
          go_wp2_with fail
          refine (sHoldsIn_is HZ _).mono ?_
          rintro e w1 ⟨rfl, hb⟩
          have HB1 := Lib.hid (bel_trans HB.out hb)
          have HO1 := Lib.hid (HO.out.below hb)
          clear hb hfi
          go_wp2_with fail
          go_loopw [8, 9] (fun gv i wi => ∃ j : Nat, j ≤ 1 ∧ i = .int .i64 j ∧ gv = .bool (goodTo 1 s f j) ∧ Owns wi w.heap.size u5 (keysTo 1 s f) ∧ Below w.heap.size w wi) (fun _ i _ => 1 - (Go.RowKit.intOf i).toNat)
          case atStart => exact ⟨0, Nat.zero_le _, rfl, rfl, HO1.out, HB1.out⟩
          case round =>
            obtain ⟨j, hj, rfl, rfl, hown, hbel⟩ := hrel
            have HOI := Lib.hid hown
            have HBI := Lib.hid hbel
            clear hown hbel
            by_cases hjt : j < 1
            · have hnx := HNX.out j
              have hwp := wrap_pow5 (k := j) (by omega)
              have hpl : 2 ^ j ≤ 2 ^ 3 := Nat.pow_le_pow_right (by omega) (by omega)
              have hge : f.testBit j = true → 2 ^ j ≤ f := fun h => Nat.ge_two_pow_of_testBit h
              obtain ⟨x, HX⟩ : ∃ b, Hid (hasW (f : Int) j = b) := ⟨_, rfl⟩
              have hone := has_one HX.out
              have hxx : (f : Int).toNat.testBit j = x := HX.out
              have hxf : f.testBit j = x := hxx
              obtain ⟨y, HY⟩ : ∃ b, Hid (goodTo 1 s f j = b) := ⟨_, rfl⟩
              rw [hxx, HY.out] at hnx
              rw [HY.out]
              obtain ⟨p, hp⟩ : ∃ p, 2 ^ j = p := ⟨_, rfl⟩
              rw [hp] at hwp hpl hge hnx
              clear hp hxx
              cases x
              · have HN : Hid (goodTo 1 s f (j + 1) = y) := by unfold Hid; rw [hnx]; simp
                clear hnx hge hxf hpl hwp
                go_wp2_with fail
                go_roundw
                case rel => exact ⟨j + 1, by omega, by go_num, by rw [HN.out], HOI.out, HBI.out⟩
                case measure => simp [Go.RowKit.intOf]; omega
              · have hpf := hge hxf
                have hsub : (0 : Int) ≤ (f : Int) - (p : Int) := by omega
                rcases hh : holdsInB 1 s ((f : Int) - (p : Int)) 1 with _ | _
                · have HH := Lib.hid hh
                  have HN : Hid (goodTo 1 s f (j + 1) = y) := by unfold Hid; rw [hnx, show topT 1 = 1 from rfl, hh]; simp
                  clear hnx hge hxf hpl hh
                  go_wp2_with fail
                  refine (sHoldsIn_is HH _).mono ?_
                  rintro e w2 ⟨rfl, hb⟩
                  have HB2 := Lib.hid (bel_trans HBI.out hb)
                  have HO2 := Lib.hid (HOI.out.below hb)
                  clear hb
                  go_wp2_with fail
                  go_roundw
                  case rel => exact ⟨j + 1, by omega, by go_num, by rw [HN.out], HO2.out, HB2.out⟩
                  case measure => simp [Go.RowKit.intOf]; omega
                · have HH := Lib.hid hh
                  have HN : Hid (goodTo 1 s f (j + 1) = false) := by unfold Hid; rw [hnx, show topT 1 = 1 from rfl, hh]; simp
                  clear hnx hge hxf hpl hh
                  go_wp2_with fail
                  refine (sHoldsIn_is HH _).mono ?_
                  rintro e w2 ⟨rfl, hb⟩
                  have HB2 := Lib.hid (bel_trans HBI.out hb)
                  have HO2 := Lib.hid (HOI.out.below hb)
                  clear hb
                  go_wp2_with fail
                  go_roundw
                  case rel => exact ⟨j + 1, by omega, by go_num, by rw [HN.out], HO2.out, HB2.out⟩
                  case measure => simp [Go.RowKit.intOf]; omega
            · obtain rfl : j = 1 := by omega
              rw [HGE.out]
              rcases hk : keyB 1 s f with _ | _
              · have HN : Hid (keysTo 1 s (f + 1) = keysTo 1 s f) := by unfold Hid; rw [HKN.out, hk]; simp
                clear hk
                go_wp2_with fail
                go_roundw
                case rel => exact ⟨f + 1, by omega, by go_num, by rw [HN.out]; exact HOI.out, HBI.out⟩
                case measure => simp [Go.RowKit.intOf]; omega
              · have HN : Hid (keysTo 1 s (f + 1) = keysTo 1 s f ++ [(f : Int)]) := by unfold Hid; rw [HKN.out, hk]; simp
                clear hk
                go_wp2_with (at_builtin; refine wp_append1 (W := wr) rfl _ _ rfl w.heap.size u5 (keysTo 1 s f) rfl HOI.out (f : Int) rfl (by omega) HBI.out.size ?_; intro v' w' hown' hgrow)
                have hb' := below_append HBI.out HBI.out.size HOI.out (Nat.le_refl _) hgrow
                go_roundw
                case rel => exact ⟨f + 1, by omega, by go_num, by rw [HN.out]; exact hown', hb'⟩
                case measure => simp [Go.RowKit.intOf]; omega
        · obtain rfl : f = 2 := by omega
          rw [HEND.out] at HO
          go_wp2_with fail
          go_ret
          exact ⟨_, rfl, HO.out, HB.out⟩
    · have HEND : Hid (keysTo 2 s 4 = keysL 2 s) := HEND.out
      go_enter Try.func32, Try.ntmps32
      go_wp2_with fail
      refine (sSetOk_is HS _).mono ?_
      rintro e w' ⟨rfl, rfl⟩
      go_wp2_with fail
      go_loopw [5, 7] (fun v i wr => ∃ f : Nat, f ≤ 4 ∧ i = .int .i64 f ∧ Owns wr w.heap.size v (keysTo 2 s f) ∧ Below w.heap.size w wr) (fun _ i _ => 4 - (Go.RowKit.intOf i).toNat)
      case atStart => exact ⟨0, Nat.zero_le _, rfl, HO0.out, HB0.out⟩
      case round =>
        obtain ⟨f, hf, rfl, hown, hbel⟩ := hrel
        have HO := Lib.hid hown
        have HB := Lib.hid hbel
        have hkl := keysTo_len 2 s f
        clear hown hbel
        by_cases hlt : f < 4
        · have hfi : decide ((f : Int) ≤ 3) = true := decide_eq_true (by omega)
          have HZ : Hid (holdsInB 2 s f 3 = goodTo 2 s f 0) := (goodTo_zero 2 s f).symm
          have HNX := Lib.hid (fun j => goodTo_next 2 s f j)
          have HGE : Hid (goodTo 2 s f 2 = keyB 2 s f) := rfl
          have HKN := Lib.hid (keysTo_next 2 s f)
          go_wp2_with fail
          refine (sHoldsIn_is HZ _).mono ?_
          rintro e w1 ⟨rfl, hb⟩
          have HB1 := Lib.hid (bel_trans HB.out hb)
          have HO1 := Lib.hid (HO.out.below hb)
          clear hb hfi
          go_wp2_with fail
          go_loopw [8, 9] (fun gv i wi => ∃ j : Nat, j ≤ 2 ∧ i = .int .i64 j ∧ gv = .bool (goodTo 2 s f j) ∧ Owns wi w.heap.size u5 (keysTo 2 s f) ∧ Below w.heap.size w wi) (fun _ i _ => 2 - (Go.RowKit.intOf i).toNat)
          case atStart => exact ⟨0, Nat.zero_le _, rfl, rfl, HO1.out, HB1.out⟩
          case round =>
            obtain ⟨j, hj, rfl, rfl, hown, hbel⟩ := hrel
            have HOI := Lib.hid hown
            have HBI := Lib.hid hbel
            clear hown hbel
            by_cases hjt : j < 2
            · have hnx := HNX.out j
              have hwp := wrap_pow5 (k := j) (by omega)
              have hpl : 2 ^ j ≤ 2 ^ 3 := Nat.pow_le_pow_right (by omega) (by omega)
              have hge : f.testBit j = true → 2 ^ j ≤ f := fun h => Nat.ge_two_pow_of_testBit h
              obtain ⟨x, HX⟩ : ∃ b, Hid (hasW (f : Int) j = b) := ⟨_, rfl⟩
              have hone := has_one HX.out
              have hxx : (f : Int).toNat.testBit j = x := HX.out
              have hxf : f.testBit j = x := hxx
              obtain ⟨y, HY⟩ : ∃ b, Hid (goodTo 2 s f j = b) := ⟨_, rfl⟩
              rw [hxx, HY.out] at hnx
              rw [HY.out]
              obtain ⟨p, hp⟩ : ∃ p, 2 ^ j = p := ⟨_, rfl⟩
              rw [hp] at hwp hpl hge hnx
              clear hp hxx
              cases x
              · have HN : Hid (goodTo 2 s f (j + 1) = y) := by unfold Hid; rw [hnx]; simp
                clear hnx hge hxf hpl hwp
                go_wp2_with fail
                go_roundw
                case rel => exact ⟨j + 1, by omega, by go_num, by rw [HN.out], HOI.out, HBI.out⟩
                case measure => simp [Go.RowKit.intOf]; omega
              · have hpf := hge hxf
                have hsub : (0 : Int) ≤ (f : Int) - (p : Int) := by omega
                rcases hh : holdsInB 2 s ((f : Int) - (p : Int)) 3 with _ | _
                · have HH := Lib.hid hh
                  have HN : Hid (goodTo 2 s f (j + 1) = y) := by unfold Hid; rw [hnx, show topT 2 = 3 from rfl, hh]; simp
                  clear hnx hge hxf hpl hh
                  go_wp2_with fail
                  refine (sHoldsIn_is HH _).mono ?_
                  rintro e w2 ⟨rfl, hb⟩
                  have HB2 := Lib.hid (bel_trans HBI.out hb)
                  have HO2 := Lib.hid (HOI.out.below hb)
                  clear hb
                  go_wp2_with fail
                  go_roundw
                  case rel => exact ⟨j + 1, by omega, by go_num, by rw [HN.out], HO2.out, HB2.out⟩
                  case measure => simp [Go.RowKit.intOf]; omega
                · have HH := Lib.hid hh
                  have HN : Hid (goodTo 2 s f (j + 1) = false) := by unfold Hid; rw [hnx, show topT 2 = 3 from rfl, hh]; simp
                  clear hnx hge hxf hpl hh
                  go_wp2_with fail
                  refine (sHoldsIn_is HH _).mono ?_
                  rintro e w2 ⟨rfl, hb⟩
                  have HB2 := Lib.hid (bel_trans HBI.out hb)
                  have HO2 := Lib.hid (HOI.out.below hb)
                  clear hb
                  go_wp2_with fail
                  go_roundw
                  case rel => exact ⟨j + 1, by omega, by go_num, by rw [HN.out], HO2.out, HB2.out⟩
                  case measure => simp [Go.RowKit.intOf]; omega
            · obtain rfl : j = 2 := by omega
              rw [HGE.out]
              rcases hk : keyB 2 s f with _ | _
              · have HN : Hid (keysTo 2 s (f + 1) = keysTo 2 s f) := by unfold Hid; rw [HKN.out, hk]; simp
                clear hk
                go_wp2_with fail
                go_roundw
                case rel => exact ⟨f + 1, by omega, by go_num, by rw [HN.out]; exact HOI.out, HBI.out⟩
                case measure => simp [Go.RowKit.intOf]; omega
              · have HN : Hid (keysTo 2 s (f + 1) = keysTo 2 s f ++ [(f : Int)]) := by unfold Hid; rw [HKN.out, hk]; simp
                clear hk
                go_wp2_with (at_builtin; refine wp_append1 (W := wr) rfl _ _ rfl w.heap.size u5 (keysTo 2 s f) rfl HOI.out (f : Int) rfl (by omega) HBI.out.size ?_; intro v' w' hown' hgrow)
                have hb' := below_append HBI.out HBI.out.size HOI.out (Nat.le_refl _) hgrow
                go_roundw
                case rel => exact ⟨f + 1, by omega, by go_num, by rw [HN.out]; exact hown', hb'⟩
                case measure => simp [Go.RowKit.intOf]; omega
        · obtain rfl : f = 4 := by omega
          rw [HEND.out] at HO
          go_wp2_with fail
          go_ret
          exact ⟨_, rfl, HO.out, HB.out⟩
    · have HEND : Hid (keysTo 3 s 8 = keysL 3 s) := HEND.out
      go_enter Try.func32, Try.ntmps32
      go_wp2_with fail
      refine (sSetOk_is HS _).mono ?_
      rintro e w' ⟨rfl, rfl⟩
      go_wp2_with fail
      go_loopw [5, 7] (fun v i wr => ∃ f : Nat, f ≤ 8 ∧ i = .int .i64 f ∧ Owns wr w.heap.size v (keysTo 3 s f) ∧ Below w.heap.size w wr) (fun _ i _ => 8 - (Go.RowKit.intOf i).toNat)
      case atStart => exact ⟨0, Nat.zero_le _, rfl, HO0.out, HB0.out⟩
      case round =>
        obtain ⟨f, hf, rfl, hown, hbel⟩ := hrel
        have HO := Lib.hid hown
        have HB := Lib.hid hbel
        have hkl := keysTo_len 3 s f
        clear hown hbel
        by_cases hlt : f < 8
        · have hfi : decide ((f : Int) ≤ 7) = true := decide_eq_true (by omega)
          have HZ : Hid (holdsInB 3 s f 7 = goodTo 3 s f 0) := (goodTo_zero 3 s f).symm
          have HNX := Lib.hid (fun j => goodTo_next 3 s f j)
          have HGE : Hid (goodTo 3 s f 3 = keyB 3 s f) := rfl
          have HKN := Lib.hid (keysTo_next 3 s f)
          go_wp2_with fail
          refine (sHoldsIn_is HZ _).mono ?_
          rintro e w1 ⟨rfl, hb⟩
          have HB1 := Lib.hid (bel_trans HB.out hb)
          have HO1 := Lib.hid (HO.out.below hb)
          clear hb hfi
          go_wp2_with fail
          go_loopw [8, 9] (fun gv i wi => ∃ j : Nat, j ≤ 3 ∧ i = .int .i64 j ∧ gv = .bool (goodTo 3 s f j) ∧ Owns wi w.heap.size u5 (keysTo 3 s f) ∧ Below w.heap.size w wi) (fun _ i _ => 3 - (Go.RowKit.intOf i).toNat)
          case atStart => exact ⟨0, Nat.zero_le _, rfl, rfl, HO1.out, HB1.out⟩
          case round =>
            obtain ⟨j, hj, rfl, rfl, hown, hbel⟩ := hrel
            have HOI := Lib.hid hown
            have HBI := Lib.hid hbel
            clear hown hbel
            by_cases hjt : j < 3
            · have hnx := HNX.out j
              have hwp := wrap_pow5 (k := j) (by omega)
              have hpl : 2 ^ j ≤ 2 ^ 3 := Nat.pow_le_pow_right (by omega) (by omega)
              have hge : f.testBit j = true → 2 ^ j ≤ f := fun h => Nat.ge_two_pow_of_testBit h
              obtain ⟨x, HX⟩ : ∃ b, Hid (hasW (f : Int) j = b) := ⟨_, rfl⟩
              have hone := has_one HX.out
              have hxx : (f : Int).toNat.testBit j = x := HX.out
              have hxf : f.testBit j = x := hxx
              obtain ⟨y, HY⟩ : ∃ b, Hid (goodTo 3 s f j = b) := ⟨_, rfl⟩
              rw [hxx, HY.out] at hnx
              rw [HY.out]
              obtain ⟨p, hp⟩ : ∃ p, 2 ^ j = p := ⟨_, rfl⟩
              rw [hp] at hwp hpl hge hnx
              clear hp hxx
              cases x
              · have HN : Hid (goodTo 3 s f (j + 1) = y) := by unfold Hid; rw [hnx]; simp
                clear hnx hge hxf hpl hwp
                go_wp2_with fail
                go_roundw
                case rel => exact ⟨j + 1, by omega, by go_num, by rw [HN.out], HOI.out, HBI.out⟩
                case measure => simp [Go.RowKit.intOf]; omega
              · have hpf := hge hxf
                have hsub : (0 : Int) ≤ (f : Int) - (p : Int) := by omega
                rcases hh : holdsInB 3 s ((f : Int) - (p : Int)) 7 with _ | _
                · have HH := Lib.hid hh
                  have HN : Hid (goodTo 3 s f (j + 1) = y) := by unfold Hid; rw [hnx, show topT 3 = 7 from rfl, hh]; simp
                  clear hnx hge hxf hpl hh
                  go_wp2_with fail
                  refine (sHoldsIn_is HH _).mono ?_
                  rintro e w2 ⟨rfl, hb⟩
                  have HB2 := Lib.hid (bel_trans HBI.out hb)
                  have HO2 := Lib.hid (HOI.out.below hb)
                  clear hb
                  go_wp2_with fail
                  go_roundw
                  case rel => exact ⟨j + 1, by omega, by go_num, by rw [HN.out], HO2.out, HB2.out⟩
                  case measure => simp [Go.RowKit.intOf]; omega
                · have HH := Lib.hid hh
                  have HN : Hid (goodTo 3 s f (j + 1) = false) := by unfold Hid; rw [hnx, show topT 3 = 7 from rfl, hh]; simp
                  clear hnx hge hxf hpl hh
                  go_wp2_with fail
                  refine (sHoldsIn_is HH _).mono ?_
                  rintro e w2 ⟨rfl, hb⟩
                  have HB2 := Lib.hid (bel_trans HBI.out hb)
                  have HO2 := Lib.hid (HOI.out.below hb)
                  clear hb
                  go_wp2_with fail
                  go_roundw
                  case rel => exact ⟨j + 1, by omega, by go_num, by rw [HN.out], HO2.out, HB2.out⟩
                  case measure => simp [Go.RowKit.intOf]; omega
            · obtain rfl : j = 3 := by omega
              rw [HGE.out]
              rcases hk : keyB 3 s f with _ | _
              · have HN : Hid (keysTo 3 s (f + 1) = keysTo 3 s f) := by unfold Hid; rw [HKN.out, hk]; simp
                clear hk
                go_wp2_with fail
                go_roundw
                case rel => exact ⟨f + 1, by omega, by go_num, by rw [HN.out]; exact HOI.out, HBI.out⟩
                case measure => simp [Go.RowKit.intOf]; omega
              · have HN : Hid (keysTo 3 s (f + 1) = keysTo 3 s f ++ [(f : Int)]) := by unfold Hid; rw [HKN.out, hk]; simp
                clear hk
                go_wp2_with (at_builtin; refine wp_append1 (W := wr) rfl _ _ rfl w.heap.size u5 (keysTo 3 s f) rfl HOI.out (f : Int) rfl (by omega) HBI.out.size ?_; intro v' w' hown' hgrow)
                have hb' := below_append HBI.out HBI.out.size HOI.out (Nat.le_refl _) hgrow
                go_roundw
                case rel => exact ⟨f + 1, by omega, by go_num, by rw [HN.out]; exact hown', hb'⟩
                case measure => simp [Go.RowKit.intOf]; omega
        · obtain rfl : f = 8 := by omega
          rw [HEND.out] at HO
          go_wp2_with fail
          go_ret
          exact ⟨_, rfl, HO.out, HB.out⟩
theorem iKeysOf_is {t s : Int} {l : List Int} (h : Hid (keysL t s = l)) (w : World) : Calls Try.prog 30 #[.int .i64 t, .int .i64 s] w (KeyPost l w) := by
  have := iKeysOf t s w
  rw [h.out] at this; exact this
theorem sKeysOf_is {t s : Int} {l : List Int} (h : Hid (keysL t s = l)) (w : World) : Calls Try.prog 32 #[.int .i64 t, .int .i64 s] w (KeyPost l w) := by
  have := sKeysOf t s w
  rw [h.out] at this; exact this
theorem keys_len (t s : Int) : (keysL t s).length ≤ 256 := by
  cases hs : setOkB t s
  · unfold keysL; rw [hs]; simp
  · have := keysTo_len t s ((topT t).toNat + 1)
    rw [keysTo_end hs] at this
    have := topT_range t
    omega
end Go.Proofs.Ytannpnhboeopdaa

namespace Go.Proofs.Ytannpnhboeopdaa
open Go.RowKit

/-- The cells of a list of dependences, one behind the other. -/
def flatP (ds : List (Int × Int)) : List Value := ds.flatMap fun d => [.int .i64 d.1, .int .i64 d.2]
theorem flatP_cons (d : Int × Int) (ds : List (Int × Int)) : flatP (d :: ds) = .int .i64 d.1 :: .int .i64 d.2 :: flatP ds := rfl
theorem flatP_snoc (ds : List (Int × Int)) (d : Int × Int) : flatP (ds ++ [d]) = flatP ds ++ [.int .i64 d.1, .int .i64 d.2] := by
  unfold flatP; rw [List.flatMap_append]; rfl
theorem flatP_len : ∀ ds : List (Int × Int), (flatP ds).length = ds.length * 2
  | [] => rfl
  | d :: ds => by rw [flatP_cons, List.length_cons, List.length_cons, flatP_len ds, List.length_cons]; omega
theorem flatP_at : ∀ {ds : List (Int × Int)} {i : Nat} {d : Int × Int}, ds[i]? = some d → (flatP ds)[i * 2]? = some (.int .i64 d.1) ∧ (flatP ds)[i * 2 + 1]? = some (.int .i64 d.2)
  | [], i, d, h => by simp at h
  | x :: ds, 0, d, h => by
    rw [List.getElem?_cons_zero] at h
    cases h
    exact ⟨rfl, rfl⟩
  | x :: ds, i + 1, d, h => by
    rw [List.getElem?_cons_succ] at h
    obtain ⟨h1, h2⟩ := flatP_at h
    rw [flatP_cons, show (i + 1) * 2 = i * 2 + 1 + 1 by omega]
    simp only [List.getElem?_cons_succ]
    exact ⟨h1, h2⟩
theorem bond_info : (Try.prog.info? 24).map (fun i => (i.zero, i.size, i.bytes)) = some (some (.agg #[.int .i64 0, .int .i64 0]), 2, 16) := by kernel_rfl
/-- A slice of the call's own: the value v, from block 'base' on, holds the dependences ds. -/
def OwnsP (w : World) (base : Nat) (v : Value) (ds : List (Int × Int)) : Prop := w.ownsRow base 24 2 v ds.length (flatP ds)
theorem OwnsP.form {w : World} {base : Nat} {v : Value} {ds : List (Int × Int)} (h : OwnsP w base v ds) :
    ∃ A c, v = .slice A ds.length c ∧ ds.length ≤ c ∧ c ≤ maxLen ∧ Bonds w A ds ∧ (∀ ad, A = some ad → base ≤ ad.block ∧ ad.block < w.heap.size) := by
  have hcells := fun g => World.ownsRow.cells h (g := g)
  rcases h.2 with ⟨rfl, hl⟩ | ⟨g, cap, cur, rfl, hb, hg, hn, hm, _, _⟩
  · exact ⟨none, 0, by rw [hl], by omega, by simp [maxLen], fun hp => absurd hp (by omega), fun ad h => by cases h⟩
  · have hlt : g < w.heap.size := (Array.getElem?_eq_some_iff.1 hg).1
    refine ⟨some ⟨g, 0, none⟩, cap, rfl, hn, hm, fun hp => ⟨g, 0, rfl, hlt, fun i d hd => ?_⟩, fun ad h => by cases h; exact ⟨hb, hlt⟩⟩
    obtain ⟨h1, h2⟩ := flatP_at hd
    have e1 : (⟨g, 0, none⟩ : Addr).add (i * 2) = ⟨g, 0 + i * 2, none⟩ := by unfold Addr.add; split <;> simp_all
    have e2 : (⟨g, 0, none⟩ : Addr).add (i * 2 + 1) = ⟨g, 0 + i * 2 + 1, none⟩ := by unfold Addr.add; split <;> simp_all; try omega
    have h1 := hcells g rfl _ _ h1
    have h2 := hcells g rfl _ _ h2
    rw [e1] at h1
    rw [e2] at h2
    exact ⟨h1, h2⟩
theorem OwnsP.row {w : World} {base : Nat} {A : Option Addr} {n c : Nat} {ds : List (Int × Int)} (h : OwnsP w base (.slice A n c) ds) (hl : ds.length ≤ 1048576) : BRow w A n c ds := by
  obtain ⟨A', c', e, hc, hm, hn, _⟩ := h.form
  simp only [Value.slice.injEq] at e
  obtain ⟨rfl, rfl, rfl⟩ := e
  exact ⟨rfl, hl, hc, hm, hn⟩
theorem OwnsP.below {w w' : World} {base : Nat} {v : Value} {ds : List (Int × Int)} (h : OwnsP w base v ds) (hb : Below w.heap.size w w') : OwnsP w' base v ds :=
  World.ownsRow.kept (row := none) h ⟨hb.os, hb.tape, hb.output, hb.size, fun k hk _ => hb.block k hk⟩ (by cases v.ownBlock <;> simp)
theorem OwnsP.base {w : World} {base base' : Nat} {v : Value} {ds : List (Int × Int)} (h : OwnsP w base v ds) (hb : base' ≤ base) : OwnsP w base' v ds := by
  refine ⟨h.1, ?_⟩
  rcases h.2 with h | ⟨g, cap, cur, h1, h2, h3⟩
  · exact .inl h
  · exact .inr ⟨g, cap, cur, h1, by omega, h3⟩
theorem OwnsP.nil (w : World) (base : Nat) : OwnsP w base (.slice none 0 0) [] := World.ownsRow_nil w base _ 2
theorem OwnsP.lit0 (w : World) (base : Nat) (hb : base ≤ w.heap.size) : OwnsP (w.alloc (.cells #[] 24)) base (.slice (some ⟨w.heap.size, 0, none⟩) 0 0) [] := by
  have h := World.ownsRow_lit (base := base) (e := 24) (size := 2) w #[] 0 hb (by simp [maxLen]) (by simp)
  simpa [OwnsP, flatP] using h
theorem wp_append1P {W : World} {ops : Array Oper} {rest : List Oper} {o : Oper} {a : Act} {Q : Exit → Act → World → Prop} (hgd : o.guard = none) (s x : Operand)
    (ho : o.op = .call { callee := .builtin .append, args := #[s, x], argTypes := #[31, 31] }) (base : Nat) (v : Value) (ds : List (Int × Int)) (hs : a.eval s = v) (hown : OwnsP W base v ds)
    (f g : Int) (hx : a.eval x = .slice (some ⟨W.heap.size, 0, none⟩) 1 1) (hl : ds.length ≤ 1048576) (hb : base ≤ W.heap.size)
    (h : ∀ v' w', OwnsP w' base v' (ds ++ [(f, g)]) → (W.alloc (.cells #[.int .i64 f, .int .i64 g] 24)).grownBy w' v.ownBlock → wpList Try.prog ops Q rest (a.put o.dst v') w') :
    wpList Try.prog ops Q (o :: rest) a (W.alloc (.cells #[.int .i64 f, .int .i64 g] 24)) := by
  obtain ⟨i0, hi0, hz0, hz1, hz2⟩ := info_parts bond_info
  refine wpList_append_own _ hgd s x 31 ho base 24 i0 (.agg #[.int .i64 0, .int .i64 0]) 2 16 Try.underlying31 hi0 hz0 hz1 hz2 rfl (by decide) v ds.length (flatP ds) hs (World.ownsRow.alloc hown _)
    ⟨W.heap.size, 0, none⟩ 1 1 [.int .i64 f, .int .i64 g] hx rfl ?_ (fun u hu => by
      rw [List.mem_cons, List.mem_singleton] at hu
      rcases hu with rfl | rfl <;> rfl) (by simp only [maxLen]; omega) (by omega) (by rw [World.size_alloc]; omega) ?_
  · exact cell_two_new _ _ _ _
  intro v' w' h1 h2 _
  refine h v' w' ?_ h2
  unfold OwnsP
  rw [flatP_snoc]
  simpa using h1
theorem below_appendP {B : Nat} {a W w' : World} {base : Nat} {v : Value} {ds : List (Int × Int)} {o : Obj} (h : Below B a W) (hB : B ≤ W.heap.size) (hown : OwnsP W base v ds) (hbase : B ≤ base) (hg : (W.alloc o).grownBy w' v.ownBlock) : Below B a w' :=
  (h.alloc hB o).grown hg (by simp; omega) fun k e => by have := (World.ownsRow.lt hown k e).1; omega
end Go.Proofs.Ytannpnhboeopdaa

namespace Go.Proofs.Ytannpnhboeopdaa

def bondAt (t s : Int) (f k : Nat) : Bool := !f.testBit k && holdsInB t s (f : Int) ((2 ^ k : Nat) : Int)
def bondsRow (t s : Int) (f j : Nat) : List (Int × Int) := ((List.range j).filter fun k => bondAt t s f k).map fun k : Nat => ((f : Int), ((2 ^ k : Nat) : Int))
def bondsTo (t s : Int) (k : Nat) : List (Int × Int) := (List.range k).flatMap fun f : Nat => bondsRow t s f t.toNat
def bondsUp (t s : Int) (k j : Nat) : List (Int × Int) := bondsTo t s k ++ bondsRow t s k j
theorem bondsRow_next (t s : Int) (f j : Nat) : bondsRow t s f (j + 1) = bondsRow t s f j ++ (if bondAt t s f j = true then [((f : Int), ((2 ^ j : Nat) : Int))] else []) := by
  unfold bondsRow
  rw [List.range_succ, List.filter_append, List.map_append]
  congr 1
  simp only [List.filter_cons, List.filter_nil]
  split <;> rfl
theorem bondsUp_zero (t s : Int) (k : Nat) : bondsUp t s k 0 = bondsTo t s k := by unfold bondsUp bondsRow; simp
theorem bondsUp_next (t s : Int) (k j : Nat) : bondsUp t s k (j + 1) = bondsUp t s k j ++ (if bondAt t s k j = true then [((k : Int), ((2 ^ j : Nat) : Int))] else []) := by
  unfold bondsUp; rw [bondsRow_next, List.append_assoc]
theorem bondsUp_end (t s : Int) (k : Nat) : bondsUp t s k t.toNat = bondsTo t s (k + 1) := by
  unfold bondsUp bondsTo
  rw [List.range_succ, List.flatMap_append]
  congr 1
  simp
theorem bondsRow_len (t s : Int) (f j : Nat) : (bondsRow t s f j).length ≤ j := by
  unfold bondsRow
  rw [List.length_map]
  refine Nat.le_trans (List.length_filter_le _ _) ?_
  rw [List.length_range]; exact Nat.le_refl _
theorem bondsTo_len {t s : Int} (h : t ≤ 3) : ∀ k, (bondsTo t s k).length ≤ k * 3
  | 0 => Nat.le_refl _
  | k + 1 => by
    rw [← bondsUp_end]
    unfold bondsUp
    rw [List.length_append]
    have := bondsTo_len h k (t := t) (s := s)
    have := bondsRow_len t s k t.toNat
    omega
theorem bondsUp_len {t s : Int} (h : t ≤ 3) (k j : Nat) : (bondsUp t s k j).length ≤ k * 3 + j := by
  unfold bondsUp
  rw [List.length_append]
  have := bondsTo_len h k (t := t) (s := s)
  have := bondsRow_len t s k j
  omega
theorem bondsTo_end {t s : Int} (hs : setOkB t s = true) : bondsTo t s ((topT t).toNat + 1) = bondsL t s := by
  unfold bondsTo bondsL
  rw [if_pos hs]
  rfl
theorem bondsL_len {t s : Int} : (bondsL t s).length ≤ 24 := by
  cases hs : setOkB t s
  · unfold bondsL; rw [if_neg (by rw [hs]; simp)]; simp
  · obtain ⟨_, h3, _⟩ := setOkB_lt hs
    have := bondsTo_len h3 ((topT t).toNat + 1) (s := s)
    rw [bondsTo_end hs] at this
    have := topT_range t
    omega
end Go.Proofs.Ytannpnhboeopdaa
