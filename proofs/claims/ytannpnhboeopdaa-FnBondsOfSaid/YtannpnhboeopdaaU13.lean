/-
  What the proofs of this seat's statements share (ListI).
-/
import Derived.Test.YtannpnhboeopdaaU11
import Derived.Test.YtannpnhboeopdaaU12

namespace Go.Proofs.Ytannpnhboeopdaa
open Go.RowKit Go.Maps

def BondsPost (l : List (Int × Int)) (w : World) (e : Ending) (w' : World) : Prop := ∃ v, e = .returned v ∧ OwnsP w' w.heap.size v l ∧ Below w.heap.size w w'
theorem within_pow (j f : Nat) : withinB ((2 ^ j : Nat) : Int) (f : Int) = f.testBit j := by
  rw [Bool.eq_iff_iff, within_iff (Int.natCast_nonneg _), Int.toNat_natCast, Int.toNat_natCast]
  constructor
  · intro h; exact h j (by rw [Nat.testBit_two_pow]; simp)
  · intro h i hi
    rw [Nat.testBit_two_pow, decide_eq_true_eq] at hi
    subst hi; exact h
theorem pow_small {j e n : Nat} (h : j ≤ e) (hn : 2 ^ e < n) : 2 ^ j < n := Nat.lt_of_le_of_lt (Nat.pow_le_pow_right (by omega) h) hn
theorem bondAt_pairs {t s : Int} (hs : setOkB t s = true) {f j : Nat} (hf : (f : Int) ≤ topT t) (hj : ((2 ^ j : Nat) : Int) ≤ topT t) : bondAt t s f j = (pairsB t s f ((2 ^ j : Nat) : Int) && !f.testBit j) := by
  obtain ⟨h1, h3, _⟩ := setOkB_lt hs
  unfold bondAt
  rw [holdsIn_eq, hs, bondOk_small h1 h3 hf hj, Bool.and_comm]
  rfl
theorem map_pastP {W w' : World} {B n base : Nat} {D : DataW Unit} {v : Value} {ds : List (Int × Int)} {o : Obj} (h : BMap W B n D) (hown : OwnsP W base v ds) (hlt : B < base) (hg : (W.alloc o).grownBy w' v.ownBlock) : BMap w' B n D := by
  refine World.ownsMap.kept (World.ownsMap.alloc h o) hg fun e => ?_
  have := (World.ownsRow.lt hown B e.symm).1
  omega
theorem OwnsP.alloc {w : World} {base : Nat} {v : Value} {ds : List (Int × Int)} (h : OwnsP w base v ds) (o : Obj) : OwnsP (w.alloc o) base v ds := World.ownsRow.alloc h o
set_option maxRecDepth 100000 in
set_option maxHeartbeats 8000000 in
theorem iBondsOf (t s : Int) (w : World) : Calls Try.prog 37 #[.int .i64 t, .int .i64 s] w (BondsPost (bondsL t s) w) := by
  have hnot : ∀ (x : Bool) (w : World), (Op.unary .not (.bool x)).run Try.prog w = .ok (.bool (!x)) w := fun _ _ => rfl
  rcases hset : setOkB t s with _ | _
  · have HS := Lib.hid hset
    rw [show bondsL t s = [] by unfold bondsL; rw [hset]; rfl]
    clear hset
    go_enter Try.func37, Try.ntmps37
    go_wp2_with fail
    refine (iSetOk _ _ _).mono ?_
    rintro e w' ⟨rfl, rfl⟩
    rw [HS.out]
    go_wp2_with fail
    go_ret
    exact ⟨_, rfl, OwnsP.nil _ _, Below.refl _ _⟩
  · have HS := Lib.hid hset
    obtain ⟨h1, h3, hs0, _, hs256⟩ := setOkB_lt hset
    have HEND := Lib.hid (bondsTo_end hset)
    have HAT0 : Hid (∀ f j : Nat, (f : Int) ≤ topT t → ((2 ^ j : Nat) : Int) ≤ topT t → bondAt t s f j = (pairsB t s f ((2 ^ j : Nat) : Int) && !f.testBit j)) := fun f j a b => bondAt_pairs hset a b
    have ht : t = 1 ∨ t = 2 ∨ t = 3 := by omega
    clear hset h1 h3
    rcases ht with rfl | rfl | rfl
    · have HEND : Hid (bondsTo 1 s 2 = bondsL 1 s) := HEND.out
      have HAT0 : Hid (∀ f j : Nat, f < 2 → 2 ^ j < 2 → bondAt 1 s f j = (pairsB 1 s f ((2 ^ j : Nat) : Int) && !f.testBit j)) := fun f j a b => HAT0.out f j (by show (f : Int) ≤ 1; omega) (by show ((2 ^ j : Nat) : Int) ≤ 1; omega)
      go_enter Try.func37, Try.ntmps37
      go_wp2_with fail
      refine (iSetOk _ _ _).mono ?_
      rintro e w' ⟨rfl, rfl⟩
      rw [HS.out]
      go_wp2_with fail
      refine (iThatHold 1 s 2 _ (by omega) hs0 hs256).mono ?_
      rintro e W1 ⟨B, n, D, rfl, hB, hmap, hat, hb⟩
      have HAT : Hid (∀ f g : Nat, f < 2 → g < 2 → D.atKey (bondKey f g) (.lit (.bool false)) = .lit (.bool (pairsB 1 s f g))) := fun f g hf hg => hat f g hf hg
      have HB1 := Lib.hid hb
      have hBlt := World.ownsMap.lt hmap
      have HMAP := Lib.hid hmap
      have hsz := hb.size
      clear hb hmap hat
      go_wp2_with fail
      go_loopw [6, 19] (fun v i wr => ∃ k : Nat, k ≤ 2 ∧ i = .int .i64 k ∧ OwnsP wr W1.heap.size v (bondsTo 1 s k) ∧ BMap wr B n D ∧ Below W1.heap.size W1 wr) (fun _ i _ => 2 - (Go.RowKit.intOf i).toNat)
      case atStart => exact ⟨0, Nat.zero_le _, rfl, OwnsP.nil _ _, HMAP.out, Below.refl _ _⟩
      case round =>
        obtain ⟨k, hk, rfl, hown, hmap, hbel⟩ := hrel
        have HO := Lib.hid hown
        have HM := Lib.hid hmap
        have HB := Lib.hid hbel
        clear hown hmap hbel
        by_cases hlt : k < 2
        · have HZ : Hid (bondsTo 1 s k = bondsUp 1 s k 0) := (bondsUp_zero 1 s k).symm
          have HE : Hid (bondsUp 1 s k 1 = bondsTo 1 s (k + 1)) := bondsUp_end 1 s k
          have HLEN := Lib.hid (fun j => bondsUp_len (t := 1) (s := s) (by omega) k j)
          have HNX := Lib.hid (fun j => bondsUp_next 1 s k j)
          have hdk : decide ((k : Int) < 2) = true := decide_eq_true (by omega)
          go_wp2_with fail
          clear hdk
          go_loopw [6, 23] (fun v i wi => ∃ j : Nat, j ≤ 1 ∧ i = .int .i64 j ∧ OwnsP wi W1.heap.size v (bondsUp 1 s k j) ∧ BMap wi B n D ∧ Below W1.heap.size W1 wi) (fun _ i _ => 1 - (Go.RowKit.intOf i).toNat)
          case atStart => exact ⟨0, Nat.zero_le _, rfl, by rw [← HZ.out]; exact HO.out, HM.out, HB.out⟩
          case round =>
            obtain ⟨j, hj, rfl, hown, hmap, hbel⟩ := hrel
            have HOI := Lib.hid hown
            have HMI := Lib.hid hmap
            have HBI := Lib.hid hbel
            have hszi := hbel.size
            clear hown hmap hbel
            by_cases hjt : j < 1
            · have hnx := HNX.out j
              have hlen := HLEN.out j
              have HWP := Lib.hid (wrap_pow5 (k := j) (by omega))
              have hpl : 2 ^ j < 2 := pow_small (show j ≤ 0 by omega) (by decide)
              have hba := HAT0.out k j hlt hpl
              have hwi := within_pow j k
              obtain ⟨p, hp⟩ : ∃ p, 2 ^ j = p := ⟨_, rfl⟩
              rw [hp] at HWP hpl hnx hba hwi
              have hatk := HAT.out k p hlt hpl
              have hk8 : k < 8 := by omega
              have hp8 : p < 8 := by omega
              have hq : (bondsUp 1 s k j).length ≤ 1048576 := by omega
              have HX : Hid (BoxAt (wr.alloc (.cells #[.int .i64 k, .int .i64 p] 24)) wr.heap.size k p) := BoxAt.new wr k p _
              have HM1 : Hid (BMap (wr.alloc (.cells #[.int .i64 k, .int .i64 p] 24)) B n D) := World.ownsMap.alloc HMI.out _
              have HO1 : Hid (OwnsP (wr.alloc (.cells #[.int .i64 k, .int .i64 p] 24)) W1.heap.size u6 (bondsUp 1 s k j)) := HOI.out.alloc _
              have HB2 : Hid (Below W1.heap.size W1 (wr.alloc (.cells #[.int .i64 k, .int .i64 p] 24))) := HBI.out.alloc hszi _
              clear hp
              rcases hx : pairsB 1 s k p with _ | _
              · have HN : Hid (bondsUp 1 s k (j + 1) = bondsUp 1 s k j) := by unfold Hid; rw [hnx, hba, hx]; simp
                rw [hx] at hatk
                have HATK := Lib.hid hatk
                clear hnx hba hwi hatk hx hlen hq
                have hwp := HWP.out
                go_wp2_with (at_lookup; refine wpList_lookup_own_bool _ rfl _ _ 69 rfl 24 4 bond_keyed Try.underlying69 Try.underlying4 (bool_zero _) B n D rfl HM1.out _ _ rfl (bond_key (wf_small hk8) (wf_small hp8)) ?_; intro c hat2; obtain rfl : c = false := by have := hat2.symm.trans HATK.out; simpa using this)
                clear hwp
                go_roundw
                case rel => exact ⟨j + 1, by omega, by go_num, by rw [HN.out]; exact HO1.out, HM1.out, HB2.out⟩
                case measure => simp [Go.RowKit.intOf]; omega
              · obtain ⟨hc0, hc1, _⟩ := HX.out
                rw [hx] at hatk hba
                have HATK := Lib.hid hatk
                rcases hy : k.testBit j with _ | _
                · have HN : Hid (bondsUp 1 s k (j + 1) = bondsUp 1 s k j ++ [((k : Int), (p : Int))]) := by unfold Hid; rw [hnx, hba, hy]; simp
                  rw [hy] at hwi
                  have HY := Lib.hid hwi
                  clear hnx hba hwi hatk hx hy
                  have hwp := HWP.out
                  go_wp2_with (at_lookup; refine wpList_lookup_own_bool _ rfl _ _ 69 rfl 24 4 bond_keyed Try.underlying69 Try.underlying4 (bool_zero _) B n D rfl HM1.out _ _ rfl (bond_key (wf_small hk8) (wf_small hp8)) ?_; intro c hat2; obtain rfl : c = true := by have := hat2.symm.trans HATK.out; simpa using this)
                  clear hwp
                  refine (iWithin_is5 HY (by omega) (by omega) (by omega) (by omega) _).mono ?_
                  rintro e w' ⟨rfl, rfl⟩
                  have hszn : W1.heap.size ≤ (wr.alloc (.cells #[.int .i64 k, .int .i64 p] 24)).heap.size := HB2.out.size
                  obtain ⟨W2, hW2⟩ : ∃ W, wr.alloc (.cells #[.int .i64 k, .int .i64 p] 24) = W := ⟨_, rfl⟩
                  rw [hW2] at HO1 HM1 HB2 HX hc0 hc1 hszn ⊢
                  go_wp2_with (at_builtin; refine wp_append1P (W := W2) rfl _ _ rfl W1.heap.size u6 (bondsUp 1 s k j) rfl HO1.out (k : Int) (p : Int) rfl hq hszn ?_; intro v' w' hown' hgrow)
                  have hb' := below_appendP HB2.out hszn HO1.out (Nat.le_refl _) hgrow
                  have hm' : BMap w' B n D := map_pastP HM1.out HO1.out hBlt hgrow
                  go_roundw
                  case rel => exact ⟨j + 1, by omega, by go_num, by rw [HN.out]; exact hown', hm', hb'⟩
                  case measure => simp [Go.RowKit.intOf]; omega
                · have HN : Hid (bondsUp 1 s k (j + 1) = bondsUp 1 s k j) := by unfold Hid; rw [hnx, hba, hy]; simp
                  rw [hy] at hwi
                  have HY := Lib.hid hwi
                  clear hnx hba hwi hatk hx hy hlen hq
                  have hwp := HWP.out
                  go_wp2_with (at_lookup; refine wpList_lookup_own_bool _ rfl _ _ 69 rfl 24 4 bond_keyed Try.underlying69 Try.underlying4 (bool_zero _) B n D rfl HM1.out _ _ rfl (bond_key (wf_small hk8) (wf_small hp8)) ?_; intro c hat2; obtain rfl : c = true := by have := hat2.symm.trans HATK.out; simpa using this)
                  clear hwp
                  refine (iWithin_is5 HY (by omega) (by omega) (by omega) (by omega) _).mono ?_
                  rintro e w' ⟨rfl, rfl⟩
                  go_wp2_with fail
                  go_roundw
                  case rel => exact ⟨j + 1, by omega, by go_num, by rw [HN.out]; exact HO1.out, HM1.out, HB2.out⟩
                  case measure => simp [Go.RowKit.intOf]; omega
            · obtain rfl : j = 1 := by omega
              rw [HE.out] at HOI
              go_wp2_with fail
              go_roundw
              case rel => exact ⟨k + 1, by omega, by go_num, HOI.out, HMI.out, HBI.out⟩
              case measure => simp [Go.RowKit.intOf]; omega
        · obtain rfl : k = 2 := by omega
          rw [HEND.out] at HO
          go_wp2_with fail
          go_ret
          exact ⟨_, rfl, HO.out.base hsz, bel_trans HB1.out HB.out⟩
    · have HEND : Hid (bondsTo 2 s 4 = bondsL 2 s) := HEND.out
      have HAT0 : Hid (∀ f j : Nat, f < 4 → 2 ^ j < 4 → bondAt 2 s f j = (pairsB 2 s f ((2 ^ j : Nat) : Int) && !f.testBit j)) := fun f j a b => HAT0.out f j (by show (f : Int) ≤ 3; omega) (by show ((2 ^ j : Nat) : Int) ≤ 3; omega)
      go_enter Try.func37, Try.ntmps37
      go_wp2_with fail
      refine (iSetOk _ _ _).mono ?_
      rintro e w' ⟨rfl, rfl⟩
      rw [HS.out]
      go_wp2_with fail
      refine (iThatHold 2 s 4 _ (by omega) hs0 hs256).mono ?_
      rintro e W1 ⟨B, n, D, rfl, hB, hmap, hat, hb⟩
      have HAT : Hid (∀ f g : Nat, f < 4 → g < 4 → D.atKey (bondKey f g) (.lit (.bool false)) = .lit (.bool (pairsB 2 s f g))) := fun f g hf hg => hat f g hf hg
      have HB1 := Lib.hid hb
      have hBlt := World.ownsMap.lt hmap
      have HMAP := Lib.hid hmap
      have hsz := hb.size
      clear hb hmap hat
      go_wp2_with fail
      go_loopw [6, 19] (fun v i wr => ∃ k : Nat, k ≤ 4 ∧ i = .int .i64 k ∧ OwnsP wr W1.heap.size v (bondsTo 2 s k) ∧ BMap wr B n D ∧ Below W1.heap.size W1 wr) (fun _ i _ => 4 - (Go.RowKit.intOf i).toNat)
      case atStart => exact ⟨0, Nat.zero_le _, rfl, OwnsP.nil _ _, HMAP.out, Below.refl _ _⟩
      case round =>
        obtain ⟨k, hk, rfl, hown, hmap, hbel⟩ := hrel
        have HO := Lib.hid hown
        have HM := Lib.hid hmap
        have HB := Lib.hid hbel
        clear hown hmap hbel
        by_cases hlt : k < 4
        · have HZ : Hid (bondsTo 2 s k = bondsUp 2 s k 0) := (bondsUp_zero 2 s k).symm
          have HE : Hid (bondsUp 2 s k 2 = bondsTo 2 s (k + 1)) := bondsUp_end 2 s k
          have HLEN := Lib.hid (fun j => bondsUp_len (t := 2) (s := s) (by omega) k j)
          have HNX := Lib.hid (fun j => bondsUp_next 2 s k j)
          have hdk : decide ((k : Int) < 4) = true := decide_eq_true (by omega)
          go_wp2_with fail
          clear hdk
          go_loopw [6, 23] (fun v i wi => ∃ j : Nat, j ≤ 2 ∧ i = .int .i64 j ∧ OwnsP wi W1.heap.size v (bondsUp 2 s k j) ∧ BMap wi B n D ∧ Below W1.heap.size W1 wi) (fun _ i _ => 2 - (Go.RowKit.intOf i).toNat)
          case atStart => exact ⟨0, Nat.zero_le _, rfl, by rw [← HZ.out]; exact HO.out, HM.out, HB.out⟩
          case round =>
            obtain ⟨j, hj, rfl, hown, hmap, hbel⟩ := hrel
            have HOI := Lib.hid hown
            have HMI := Lib.hid hmap
            have HBI := Lib.hid hbel
            have hszi := hbel.size
            clear hown hmap hbel
            by_cases hjt : j < 2
            · have hnx := HNX.out j
              have hlen := HLEN.out j
              have HWP := Lib.hid (wrap_pow5 (k := j) (by omega))
              have hpl : 2 ^ j < 4 := pow_small (show j ≤ 1 by omega) (by decide)
              have hba := HAT0.out k j hlt hpl
              have hwi := within_pow j k
              obtain ⟨p, hp⟩ : ∃ p, 2 ^ j = p := ⟨_, rfl⟩
              rw [hp] at HWP hpl hnx hba hwi
              have hatk := HAT.out k p hlt hpl
              have hk8 : k < 8 := by omega
              have hp8 : p < 8 := by omega
              have hq : (bondsUp 2 s k j).length ≤ 1048576 := by omega
              have HX : Hid (BoxAt (wr.alloc (.cells #[.int .i64 k, .int .i64 p] 24)) wr.heap.size k p) := BoxAt.new wr k p _
              have HM1 : Hid (BMap (wr.alloc (.cells #[.int .i64 k, .int .i64 p] 24)) B n D) := World.ownsMap.alloc HMI.out _
              have HO1 : Hid (OwnsP (wr.alloc (.cells #[.int .i64 k, .int .i64 p] 24)) W1.heap.size u6 (bondsUp 2 s k j)) := HOI.out.alloc _
              have HB2 : Hid (Below W1.heap.size W1 (wr.alloc (.cells #[.int .i64 k, .int .i64 p] 24))) := HBI.out.alloc hszi _
              clear hp
              rcases hx : pairsB 2 s k p with _ | _
              · have HN : Hid (bondsUp 2 s k (j + 1) = bondsUp 2 s k j) := by unfold Hid; rw [hnx, hba, hx]; simp
                rw [hx] at hatk
                have HATK := Lib.hid hatk
                clear hnx hba hwi hatk hx hlen hq
                have hwp := HWP.out
                go_wp2_with (at_lookup; refine wpList_lookup_own_bool _ rfl _ _ 69 rfl 24 4 bond_keyed Try.underlying69 Try.underlying4 (bool_zero _) B n D rfl HM1.out _ _ rfl (bond_key (wf_small hk8) (wf_small hp8)) ?_; intro c hat2; obtain rfl : c = false := by have := hat2.symm.trans HATK.out; simpa using this)
                clear hwp
                go_roundw
                case rel => exact ⟨j + 1, by omega, by go_num, by rw [HN.out]; exact HO1.out, HM1.out, HB2.out⟩
                case measure => simp [Go.RowKit.intOf]; omega
              · obtain ⟨hc0, hc1, _⟩ := HX.out
                rw [hx] at hatk hba
                have HATK := Lib.hid hatk
                rcases hy : k.testBit j with _ | _
                · have HN : Hid (bondsUp 2 s k (j + 1) = bondsUp 2 s k j ++ [((k : Int), (p : Int))]) := by unfold Hid; rw [hnx, hba, hy]; simp
                  rw [hy] at hwi
                  have HY := Lib.hid hwi
                  clear hnx hba hwi hatk hx hy
                  have hwp := HWP.out
                  go_wp2_with (at_lookup; refine wpList_lookup_own_bool _ rfl _ _ 69 rfl 24 4 bond_keyed Try.underlying69 Try.underlying4 (bool_zero _) B n D rfl HM1.out _ _ rfl (bond_key (wf_small hk8) (wf_small hp8)) ?_; intro c hat2; obtain rfl : c = true := by have := hat2.symm.trans HATK.out; simpa using this)
                  clear hwp
                  refine (iWithin_is5 HY (by omega) (by omega) (by omega) (by omega) _).mono ?_
                  rintro e w' ⟨rfl, rfl⟩
                  have hszn : W1.heap.size ≤ (wr.alloc (.cells #[.int .i64 k, .int .i64 p] 24)).heap.size := HB2.out.size
                  obtain ⟨W2, hW2⟩ : ∃ W, wr.alloc (.cells #[.int .i64 k, .int .i64 p] 24) = W := ⟨_, rfl⟩
                  rw [hW2] at HO1 HM1 HB2 HX hc0 hc1 hszn ⊢
                  go_wp2_with (at_builtin; refine wp_append1P (W := W2) rfl _ _ rfl W1.heap.size u6 (bondsUp 2 s k j) rfl HO1.out (k : Int) (p : Int) rfl hq hszn ?_; intro v' w' hown' hgrow)
                  have hb' := below_appendP HB2.out hszn HO1.out (Nat.le_refl _) hgrow
                  have hm' : BMap w' B n D := map_pastP HM1.out HO1.out hBlt hgrow
                  go_roundw
                  case rel => exact ⟨j + 1, by omega, by go_num, by rw [HN.out]; exact hown', hm', hb'⟩
                  case measure => simp [Go.RowKit.intOf]; omega
                · have HN : Hid (bondsUp 2 s k (j + 1) = bondsUp 2 s k j) := by unfold Hid; rw [hnx, hba, hy]; simp
                  rw [hy] at hwi
                  have HY := Lib.hid hwi
                  clear hnx hba hwi hatk hx hy hlen hq
                  have hwp := HWP.out
                  go_wp2_with (at_lookup; refine wpList_lookup_own_bool _ rfl _ _ 69 rfl 24 4 bond_keyed Try.underlying69 Try.underlying4 (bool_zero _) B n D rfl HM1.out _ _ rfl (bond_key (wf_small hk8) (wf_small hp8)) ?_; intro c hat2; obtain rfl : c = true := by have := hat2.symm.trans HATK.out; simpa using this)
                  clear hwp
                  refine (iWithin_is5 HY (by omega) (by omega) (by omega) (by omega) _).mono ?_
                  rintro e w' ⟨rfl, rfl⟩
                  go_wp2_with fail
                  go_roundw
                  case rel => exact ⟨j + 1, by omega, by go_num, by rw [HN.out]; exact HO1.out, HM1.out, HB2.out⟩
                  case measure => simp [Go.RowKit.intOf]; omega
            · obtain rfl : j = 2 := by omega
              rw [HE.out] at HOI
              go_wp2_with fail
              go_roundw
              case rel => exact ⟨k + 1, by omega, by go_num, HOI.out, HMI.out, HBI.out⟩
              case measure => simp [Go.RowKit.intOf]; omega
        · obtain rfl : k = 4 := by omega
          rw [HEND.out] at HO
          go_wp2_with fail
          go_ret
          exact ⟨_, rfl, HO.out.base hsz, bel_trans HB1.out HB.out⟩
    · have HEND : Hid (bondsTo 3 s 8 = bondsL 3 s) := HEND.out
      have HAT0 : Hid (∀ f j : Nat, f < 8 → 2 ^ j < 8 → bondAt 3 s f j = (pairsB 3 s f ((2 ^ j : Nat) : Int) && !f.testBit j)) := fun f j a b => HAT0.out f j (by show (f : Int) ≤ 7; omega) (by show ((2 ^ j : Nat) : Int) ≤ 7; omega)
      go_enter Try.func37, Try.ntmps37
      go_wp2_with fail
      refine (iSetOk _ _ _).mono ?_
      rintro e w' ⟨rfl, rfl⟩
      rw [HS.out]
      go_wp2_with fail
      refine (iThatHold 3 s 8 _ (by omega) hs0 hs256).mono ?_
      rintro e W1 ⟨B, n, D, rfl, hB, hmap, hat, hb⟩
      have HAT : Hid (∀ f g : Nat, f < 8 → g < 8 → D.atKey (bondKey f g) (.lit (.bool false)) = .lit (.bool (pairsB 3 s f g))) := fun f g hf hg => hat f g hf hg
      have HB1 := Lib.hid hb
      have hBlt := World.ownsMap.lt hmap
      have HMAP := Lib.hid hmap
      have hsz := hb.size
      clear hb hmap hat
      go_wp2_with fail
      go_loopw [6, 19] (fun v i wr => ∃ k : Nat, k ≤ 8 ∧ i = .int .i64 k ∧ OwnsP wr W1.heap.size v (bondsTo 3 s k) ∧ BMap wr B n D ∧ Below W1.heap.size W1 wr) (fun _ i _ => 8 - (Go.RowKit.intOf i).toNat)
      case atStart => exact ⟨0, Nat.zero_le _, rfl, OwnsP.nil _ _, HMAP.out, Below.refl _ _⟩
      case round =>
        obtain ⟨k, hk, rfl, hown, hmap, hbel⟩ := hrel
        have HO := Lib.hid hown
        have HM := Lib.hid hmap
        have HB := Lib.hid hbel
        clear hown hmap hbel
        by_cases hlt : k < 8
        · have HZ : Hid (bondsTo 3 s k = bondsUp 3 s k 0) := (bondsUp_zero 3 s k).symm
          have HE : Hid (bondsUp 3 s k 3 = bondsTo 3 s (k + 1)) := bondsUp_end 3 s k
          have HLEN := Lib.hid (fun j => bondsUp_len (t := 3) (s := s) (by omega) k j)
          have HNX := Lib.hid (fun j => bondsUp_next 3 s k j)
          have hdk : decide ((k : Int) < 8) = true := decide_eq_true (by omega)
          go_wp2_with fail
          clear hdk
          go_loopw [6, 23] (fun v i wi => ∃ j : Nat, j ≤ 3 ∧ i = .int .i64 j ∧ OwnsP wi W1.heap.size v (bondsUp 3 s k j) ∧ BMap wi B n D ∧ Below W1.heap.size W1 wi) (fun _ i _ => 3 - (Go.RowKit.intOf i).toNat)
          case atStart => exact ⟨0, Nat.zero_le _, rfl, by rw [← HZ.out]; exact HO.out, HM.out, HB.out⟩
          case round =>
            obtain ⟨j, hj, rfl, hown, hmap, hbel⟩ := hrel
            have HOI := Lib.hid hown
            have HMI := Lib.hid hmap
            have HBI := Lib.hid hbel
            have hszi := hbel.size
            clear hown hmap hbel
            by_cases hjt : j < 3
            · have hnx := HNX.out j
              have hlen := HLEN.out j
              have HWP := Lib.hid (wrap_pow5 (k := j) (by omega))
              have hpl : 2 ^ j < 8 := pow_small (show j ≤ 2 by omega) (by decide)
              have hba := HAT0.out k j hlt hpl
              have hwi := within_pow j k
              obtain ⟨p, hp⟩ : ∃ p, 2 ^ j = p := ⟨_, rfl⟩
              rw [hp] at HWP hpl hnx hba hwi
              have hatk := HAT.out k p hlt hpl
              have hk8 : k < 8 := by omega
              have hp8 : p < 8 := by omega
              have hq : (bondsUp 3 s k j).length ≤ 1048576 := by omega
              have HX : Hid (BoxAt (wr.alloc (.cells #[.int .i64 k, .int .i64 p] 24)) wr.heap.size k p) := BoxAt.new wr k p _
              have HM1 : Hid (BMap (wr.alloc (.cells #[.int .i64 k, .int .i64 p] 24)) B n D) := World.ownsMap.alloc HMI.out _
              have HO1 : Hid (OwnsP (wr.alloc (.cells #[.int .i64 k, .int .i64 p] 24)) W1.heap.size u6 (bondsUp 3 s k j)) := HOI.out.alloc _
              have HB2 : Hid (Below W1.heap.size W1 (wr.alloc (.cells #[.int .i64 k, .int .i64 p] 24))) := HBI.out.alloc hszi _
              clear hp
              rcases hx : pairsB 3 s k p with _ | _
              · have HN : Hid (bondsUp 3 s k (j + 1) = bondsUp 3 s k j) := by unfold Hid; rw [hnx, hba, hx]; simp
                rw [hx] at hatk
                have HATK := Lib.hid hatk
                clear hnx hba hwi hatk hx hlen hq
                have hwp := HWP.out
                go_wp2_with (at_lookup; refine wpList_lookup_own_bool _ rfl _ _ 69 rfl 24 4 bond_keyed Try.underlying69 Try.underlying4 (bool_zero _) B n D rfl HM1.out _ _ rfl (bond_key (wf_small hk8) (wf_small hp8)) ?_; intro c hat2; obtain rfl : c = false := by have := hat2.symm.trans HATK.out; simpa using this)
                clear hwp
                go_roundw
                case rel => exact ⟨j + 1, by omega, by go_num, by rw [HN.out]; exact HO1.out, HM1.out, HB2.out⟩
                case measure => simp [Go.RowKit.intOf]; omega
              · obtain ⟨hc0, hc1, _⟩ := HX.out
                rw [hx] at hatk hba
                have HATK := Lib.hid hatk
                rcases hy : k.testBit j with _ | _
                · have HN : Hid (bondsUp 3 s k (j + 1) = bondsUp 3 s k j ++ [((k : Int), (p : Int))]) := by unfold Hid; rw [hnx, hba, hy]; simp
                  rw [hy] at hwi
                  have HY := Lib.hid hwi
                  clear hnx hba hwi hatk hx hy
                  have hwp := HWP.out
                  go_wp2_with (at_lookup; refine wpList_lookup_own_bool _ rfl _ _ 69 rfl 24 4 bond_keyed Try.underlying69 Try.underlying4 (bool_zero _) B n D rfl HM1.out _ _ rfl (bond_key (wf_small hk8) (wf_small hp8)) ?_; intro c hat2; obtain rfl : c = true := by have := hat2.symm.trans HATK.out; simpa using this)
                  clear hwp
                  refine (iWithin_is5 HY (by omega) (by omega) (by omega) (by omega) _).mono ?_
                  rintro e w' ⟨rfl, rfl⟩
                  have hszn : W1.heap.size ≤ (wr.alloc (.cells #[.int .i64 k, .int .i64 p] 24)).heap.size := HB2.out.size
                  obtain ⟨W2, hW2⟩ : ∃ W, wr.alloc (.cells #[.int .i64 k, .int .i64 p] 24) = W := ⟨_, rfl⟩
                  rw [hW2] at HO1 HM1 HB2 HX hc0 hc1 hszn ⊢
                  go_wp2_with (at_builtin; refine wp_append1P (W := W2) rfl _ _ rfl W1.heap.size u6 (bondsUp 3 s k j) rfl HO1.out (k : Int) (p : Int) rfl hq hszn ?_; intro v' w' hown' hgrow)
                  have hb' := below_appendP HB2.out hszn HO1.out (Nat.le_refl _) hgrow
                  have hm' : BMap w' B n D := map_pastP HM1.out HO1.out hBlt hgrow
                  go_roundw
                  case rel => exact ⟨j + 1, by omega, by go_num, by rw [HN.out]; exact hown', hm', hb'⟩
                  case measure => simp [Go.RowKit.intOf]; omega
                · have HN : Hid (bondsUp 3 s k (j + 1) = bondsUp 3 s k j) := by unfold Hid; rw [hnx, hba, hy]; simp
                  rw [hy] at hwi
                  have HY := Lib.hid hwi
                  clear hnx hba hwi hatk hx hy hlen hq
                  have hwp := HWP.out
                  go_wp2_with (at_lookup; refine wpList_lookup_own_bool _ rfl _ _ 69 rfl 24 4 bond_keyed Try.underlying69 Try.underlying4 (bool_zero _) B n D rfl HM1.out _ _ rfl (bond_key (wf_small hk8) (wf_small hp8)) ?_; intro c hat2; obtain rfl : c = true := by have := hat2.symm.trans HATK.out; simpa using this)
                  clear hwp
                  refine (iWithin_is5 HY (by omega) (by omega) (by omega) (by omega) _).mono ?_
                  rintro e w' ⟨rfl, rfl⟩
                  go_wp2_with fail
                  go_roundw
                  case rel => exact ⟨j + 1, by omega, by go_num, by rw [HN.out]; exact HO1.out, HM1.out, HB2.out⟩
                  case measure => simp [Go.RowKit.intOf]; omega
            · obtain rfl : j = 3 := by omega
              rw [HE.out] at HOI
              go_wp2_with fail
              go_roundw
              case rel => exact ⟨k + 1, by omega, by go_num, HOI.out, HMI.out, HBI.out⟩
              case measure => simp [Go.RowKit.intOf]; omega
        · obtain rfl : k = 8 := by omega
          rw [HEND.out] at HO
          go_wp2_with fail
          go_ret
          exact ⟨_, rfl, HO.out.base hsz, bel_trans HB1.out HB.out⟩
theorem iBondsOf_is {t s : Int} {l : List (Int × Int)} (h : Hid (bondsL t s = l)) (w : World) : Calls Try.prog 37 #[.int .i64 t, .int .i64 s] w (BondsPost l w) := by
  have := iBondsOf t s w
  rw [h.out] at this; exact this
end Go.Proofs.Ytannpnhboeopdaa
