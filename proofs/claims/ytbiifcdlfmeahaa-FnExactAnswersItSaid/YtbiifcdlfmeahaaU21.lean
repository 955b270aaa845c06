/-
  What the proofs of this seat's statements share (ResT, ResV).
-/
import Derived.Test.YtbiifcdlfmeahaaU20
import Derived.Test.YtbiifcdlfmeahaaU9
import Derived.Test.YtbiifcdlfmeahaaU19

namespace Go.Proofs.Ytbiifcdlfmeahaa
open Go.RowKit

theorem bothTo_sub {a b : List Int} {k j : Nat} : ∀ z ∈ bothTo a b k j, ∃ x ∈ a, ∃ y ∈ b, andI x y = z := by
  intro z hz
  unfold bothTo at hz
  rcases List.mem_append.1 hz with h | h
  · rw [List.mem_flatMap] at h
    obtain ⟨x, hx, h⟩ := h
    obtain ⟨y, hy, e⟩ := List.mem_map.1 h
    exact ⟨x, List.mem_of_mem_take hx, y, hy, e⟩
  · split at h
    · rename_i x hx
      obtain ⟨y, hy, e⟩ := List.mem_map.1 h
      exact ⟨x, List.mem_of_getElem? hx, y, List.mem_of_mem_take hy, e⟩
    · cases h
theorem bothTo_range {a b : List Int} (ha : ∀ x ∈ a, 0 ≤ x ∧ x < 256) (k j : Nat) : ∀ z ∈ bothTo a b k j, 0 ≤ z ∧ z < 256 := fun z hz => by
  obtain ⟨x, hx, y, _, rfl⟩ := bothTo_sub z hz
  have h1 := andI_le x y (ha x hx).1
  have h2 := andI_nonneg x y
  have := ha x hx
  omega
theorem bothTo_add {a b : List Int} (ha : ∀ x ∈ a, 0 ≤ x ∧ x < 256) {k j : Nat} {x y : Int} (hx : Hid (a[k]? = some x)) (hy : Hid (b[j]? = some y)) : addL (andI x y) (setL (bothTo a b k j)) = setL (bothTo a b k (j + 1)) := by
  have hx2 := ha x (elem_mem hx)
  have h1 := andI_le x y hx2.1
  rw [addL_setL (bothTo_range ha k j) (andI_nonneg _ _) (by omega), bothTo_in hx hy]
theorem setL_nil : setL [] = [] := by unfold setL; simp
theorem bothTo_zero_set (a b : List Int) : setL (bothTo a b 0 0) = [] := by rw [bothTo_zero, setL_nil]

set_option maxRecDepth 100000 in
set_option maxHeartbeats 8000000 in
theorem sRs_and (t : Int) (s : ByteArray) (at_ : Nat) (w : World) (hs : s.size ≤ 1048576) (hat : at_ < s.size) (hc : s[at_].toNat = 40) (h1 : 1 ≤ t) (h3 : t ≤ 3) (x : Sen) (l : List Nat) (hi : ResAt t s (at_ + 1) x (38 :: l)) (y : Sen) (e0 : Nat) (r : List Nat)
    (hi2 : ∀ a2 : Nat, a2 ≤ s.size → (bytesN s).drop a2 = l → ResAt t s a2 y (e0 :: r)) :
    Calls Try.prog 41 #[.int .i64 t, .string s, .int .i64 at_] w (SRes t s (.and_ x y) r w) := by
  have hd : (at_ : Int) < (s.size : Int) := by omega
  have hd0 : (0 : Int) ≤ (at_ : Int) := by omega
  have HI := Lib.hid hi
  have HI2 := Lib.hid hi2
  have hga := (res_main h1 h3 x).1
  have hgb := (res_main h1 h3 y).1
  have hla := res_len t x
  have hlb := res_len t y
  have HE : Hid (setL (bothX (resS t x) (resS t y)) = resS t (.and_ x y)) := rfl
  obtain ⟨a, HA⟩ : ∃ a, Hid (resS t x = a) := ⟨_, rfl⟩
  obtain ⟨b, HB⟩ : ∃ b, Hid (resS t y = b) := ⟨_, rfl⟩
  rw [HA.out] at hga hla HE
  rw [HB.out] at hgb hlb HE
  have HRA := Lib.hid hga.range
  have HRB := Lib.hid hgb.range
  clear hi hi2 hga hgb h1 h3
  go_enter Try.func41, Try.ntmps41
  go_wp2_with fail
  refine (HI.out _).mono ?_
  rintro e w1 ⟨v, a2, rfl, ha2, hd2, ho, hb⟩
  rw [HA.out] at ho
  obtain ⟨A1, c1, rfl, _, _, _, _⟩ := ho.form
  obtain ⟨hlt2, hm2, hl2⟩ := drop_lt hd2
  have HC2 := Lib.hid (HI2.out (a2 + 1) hlt2 hl2)
  have HR1 := Lib.hid (Owns.row ho (by omega))
  have HBW := Lib.hid hb
  have hd3 : (a2 : Int) < (s.size : Int) := by omega
  have hd4 : (0 : Int) ≤ (a2 : Int) := by omega
  clear hb ho hd2 hl2
  go_wp2_with fail
  refine (HC2.out _).mono ?_
  rintro e w2 ⟨v, a3, rfl, ha3, hd5, ho, hb⟩
  rw [HB.out] at ho
  obtain ⟨A2, c2, rfl, _, _, _, _⟩ := ho.form
  obtain ⟨hlt3, _, hl3⟩ := drop_lt hd5
  have HBW2 := Lib.hid (bel_trans HBW.out hb)
  have HR2 := Lib.hid (Owns.row ho (by omega))
  replace HR1 := Lib.hid (HR1.out.below hb)
  have HL3 := Lib.hid hl3
  have hsz := HBW2.out.size
  clear hb ho hd5 hl3
  go_wp2_with fail
  go_loopw [19, 20] (fun o i wr => ∃ k : Nat, k ≤ a.length ∧ i = .int .i64 k ∧ Owns wr w2.heap.size o (setL (bothTo a b k 0)) ∧ Below w2.heap.size w2 wr) (fun _ i _ => a.length - (Go.RowKit.intOf i).toNat)
  case atStart => exact ⟨0, Nat.zero_le _, rfl, by rw [bothTo_zero_set]; exact Owns.lit w2 w2.heap.size [] (Nat.le_refl _) (by simp [maxLen]), (Below.refl _ _).alloc (Nat.le_refl _) _⟩
  case round =>
    obtain ⟨k, hk, rfl, hown, hbel⟩ := hrel
    have HOW := Lib.hid hown
    have HBR := Lib.hid hbel
    clear hown hbel
    by_cases hlt : k < a.length
    · obtain ⟨bb, off, z, rfl, _, hz, _⟩ := (HR1.out.hA.below HBR.out).elem hlt
      have hzr := HRA.out z (elem_mem hz)
      obtain ⟨he1, he2⟩ := hzr
      have hdk : decide ((k : Int) < (a.length : Int)) = true := decide_eq_true (by omega)
      go_wp2_with fail
      clear hdk
      go_loopw [19, 21] (fun o i wi => ∃ j : Nat, j ≤ b.length ∧ i = .int .i64 j ∧ Owns wi w2.heap.size o (setL (bothTo a b k j)) ∧ Below w2.heap.size w2 wi) (fun _ i _ => b.length - (Go.RowKit.intOf i).toNat)
      case atStart => exact ⟨0, Nat.zero_le _, rfl, HOW.out, HBR.out⟩
      case round =>
        obtain ⟨j, hj, rfl, hown, hbel⟩ := hrel
        have hol := setL_len (bothTo a b k j)
        have HOI := Lib.hid hown
        have HBI := Lib.hid hbel
        have hszi := hbel.size
        clear hown hbel
        by_cases hjt : j < b.length
        · obtain ⟨A9, c9, rfl, _, _, _, _⟩ := HOI.out.form
          have HRO := Lib.hid (Owns.row HOI.out (by omega))
          have hcell1 := Nums.at_ (HR1.out.hA.below HBI.out) hz
          obtain ⟨bb2, off2, u, rfl, hcell, hu, _⟩ := (HR2.out.hA.below HBI.out).elem hjt
          obtain ⟨hf1, hf2⟩ := HRB.out u (elem_mem hu)
          have HT := Lib.hid (bothTo_add HRA.out hz hu)
          have hj1 : (j : Int) < (b.length : Int) := by omega
          have hk1 : (k : Int) < (a.length : Int) := by omega
          go_wp2_with fail
          go_region_law (first | (go_simp; go_at_call 75; refine (sAdd_is HT (by omega) (Row.drewN HRO.out _)).mono ?_; rintro e w' ⟨v, rfl, ho, hb⟩) | (go_simp; go_at_call 56; refine (sBothS _ _ he1 he2 hf1 hf2 _).mono ?_; rintro e w' ⟨rfl, m, rfl⟩))
          all_goals
            have ho' := ho.base (show w2.heap.size ≤ _ from hszi)
            have hb' := bel_trans (bel_drewN HBI.out _) hb
            go_wp2_with fail
            go_roundw
            case rel => exact ⟨j + 1, by omega, by go_num, ho', hb'⟩
            case measure => simp [Go.RowKit.intOf]; omega
        · obtain rfl : j = b.length := by omega
          have HT := Lib.hid (bothTo_out (b := b) hz)
          go_wp2_with fail
          go_roundw
          case rel => exact ⟨k + 1, by omega, by go_num, by rw [HT.out]; exact HOI.out, HBI.out⟩
          case measure => simp [Go.RowKit.intOf]; omega
    · obtain rfl : k = a.length := by omega
      have HF : Hid (setL (bothTo a b a.length 0) = resS t (.and_ x y)) := by unfold Hid; rw [bothTo_end, HE.out]
      rw [HF.out] at HOW
      go_wp2_with fail
      go_ret2
      exact ⟨_, a3 + 1, rfl, hlt3, HL3.out, HOW.out.base hsz, bel_trans HBW2.out HBR.out⟩

set_option maxRecDepth 100000 in
set_option maxHeartbeats 8000000 in
theorem sRs_or (t : Int) (s : ByteArray) (at_ : Nat) (w : World) (hs : s.size ≤ 1048576) (hat : at_ < s.size) (hc : s[at_].toNat = 40) (h1 : 1 ≤ t) (h3 : t ≤ 3) (x : Sen) (l : List Nat) (hi : ResAt t s (at_ + 1) x (124 :: l)) (y : Sen) (e0 : Nat) (r : List Nat)
    (hi2 : ∀ a2 : Nat, a2 ≤ s.size → (bytesN s).drop a2 = l → ResAt t s a2 y (e0 :: r)) :
    Calls Try.prog 41 #[.int .i64 t, .string s, .int .i64 at_] w (SRes t s (.or_ x y) r w) := by
  have hd : (at_ : Int) < (s.size : Int) := by omega
  have hd0 : (0 : Int) ≤ (at_ : Int) := by omega
  have HI := Lib.hid hi
  have HI2 := Lib.hid hi2
  have hga := (res_main h1 h3 x).1
  have hgb := (res_main h1 h3 y).1
  have hla := res_len t x
  have hlb := res_len t y
  have HE : Hid (setL (resS t x ++ resS t y) = resS t (.or_ x y)) := rfl
  have HAS := Lib.hid (setL_self (res_asc t x) hga.range)
  obtain ⟨a, HA⟩ : ∃ a, Hid (resS t x = a) := ⟨_, rfl⟩
  obtain ⟨b, HB⟩ : ∃ b, Hid (resS t y = b) := ⟨_, rfl⟩
  rw [HA.out] at hga hla HE HAS
  rw [HB.out] at hgb hlb HE
  have hpa : 1 ≤ a.length := List.length_pos_iff.2 hga.1
  have HADD : Hid (∀ (j : Nat) (u : Int), Hid (b[j]? = some u) → addL u (setL (a ++ b.take j)) = setL (a ++ b.take (j + 1))) := fun j u hu => by
    have hu2 := hgb.range u (elem_mem hu)
    rw [addL_setL (Good.append hga fun z hz => hgb.2 z (List.mem_of_mem_take hz)).range hu2.1 hu2.2, take_snoc hu, List.append_assoc]
  clear hi hi2 hga hgb h1 h3
  go_enter Try.func41, Try.ntmps41
  go_wp2_with fail
  refine (HI.out _).mono ?_
  rintro e w1 ⟨v, a2, rfl, ha2, hd2, ho, hb⟩
  rw [HA.out] at ho
  obtain ⟨A1, c1, rfl, _, _, _, _⟩ := ho.form
  obtain ⟨hlt2, hm2, hl2⟩ := drop_lt hd2
  have HC2 := Lib.hid (HI2.out (a2 + 1) hlt2 hl2)
  have HR1 := Lib.hid (Owns.row ho (by omega))
  have HBW := Lib.hid hb
  have hd3 : (a2 : Int) < (s.size : Int) := by omega
  have hd4 : (0 : Int) ≤ (a2 : Int) := by omega
  clear hb ho hd2 hl2
  go_wp2_with fail
  refine (HC2.out _).mono ?_
  rintro e w2 ⟨v, a3, rfl, ha3, hd5, ho, hb⟩
  rw [HB.out] at ho
  obtain ⟨A2, c2, rfl, _, _, _, _⟩ := ho.form
  obtain ⟨hlt3, _, hl3⟩ := drop_lt hd5
  have HBW2 := Lib.hid (bel_trans HBW.out hb)
  have HR2 := Lib.hid (Owns.row ho (by omega))
  replace HR1 := Lib.hid (HR1.out.below hb)
  have HL3 := Lib.hid hl3
  have hsz := HBW2.out.size
  clear hb ho hd5 hl3
  have HB0 : Hid (Below w2.heap.size w2 (w2.alloc (.cells #[] 3))) := (Below.refl _ _).alloc (Nat.le_refl _) _
  have HO0 : Hid (Owns (w2.alloc (.cells #[] 3)) w2.heap.size (.slice (some ⟨w2.heap.size, 0, none⟩) 0 0) []) := Owns.lit w2 w2.heap.size [] (Nat.le_refl _) (by simp [maxLen])
  go_wp2_with (at_builtin; refine wp_appendL rfl _ _ rfl w2.heap.size (.slice (some ⟨w2.heap.size, 0, none⟩) 0 0) [] rfl HO0.out a A1 a.length c1 rfl rfl hpa (HR1.out.hA.below HB0.out) (by simp; omega) HB0.out.size ?_; intro v2 w3 hown2 hgrow2)
  have HO2 := Lib.hid hown2
  have HB2 := Lib.hid (below_appendL HB0.out HB0.out.size HO0.out (Nat.le_refl _) hgrow2)
  clear hown2 hgrow2 HO0 HB0
  go_loopw [19, 22] (fun o i wr => ∃ j : Nat, j ≤ b.length ∧ i = .int .i64 j ∧ Owns wr w2.heap.size o (setL (a ++ b.take j)) ∧ Below w2.heap.size w2 wr) (fun _ i _ => b.length - (Go.RowKit.intOf i).toNat)
  case atStart => exact ⟨0, Nat.zero_le _, rfl, by rw [List.take_zero, List.append_nil, HAS.out]; exact HO2.out, HB2.out⟩
  case round =>
    obtain ⟨j, hj, rfl, hown, hbel⟩ := hrel
    have hol := setL_len (a ++ b.take j)
    have HOW := Lib.hid hown
    have HBI := Lib.hid hbel
    have hszi := hbel.size
    by_cases hjt : j < b.length
    · obtain ⟨A9, c9, rfl, _, _, _, _⟩ := hown.form
      have HRO := Lib.hid (Owns.row hown (by omega))
      obtain ⟨bb2, off2, u, rfl, hcell, hu, _⟩ := (HR2.out.hA.below HBI.out).elem hjt
      have HT := Lib.hid (HADD.out j u hu)
      clear hown hbel
      go_wp2_with fail
      refine (sAdd_is HT (by omega) HRO.out).mono ?_
      rintro e w' ⟨v, rfl, ho, hb⟩
      have HO' := Lib.hid (ho.base hszi)
      have HB' := Lib.hid (bel_trans HBI.out hb)
      clear ho hb
      go_wp2_with fail
      go_roundw
      case rel => exact ⟨j + 1, by omega, by go_num, HO'.out, HB'.out⟩
      case measure => simp [Go.RowKit.intOf]; omega
    · obtain rfl : j = b.length := by omega
      have HF : Hid (setL (a ++ b.take b.length) = resS t (.or_ x y)) := by unfold Hid; rw [List.take_length, HE.out]
      rw [HF.out] at HOW
      clear hown hbel
      go_wp2_with fail
      go_ret2
      exact ⟨_, a3 + 1, rfl, hlt3, HL3.out, HOW.out.base hsz, bel_trans HBW2.out HBI.out⟩
end Go.Proofs.Ytbiifcdlfmeahaa

namespace Go.Proofs.Ytbiifcdlfmeahaa
open Go.RowKit

theorem bothX_swap (a b : List Int) : setL (bothX a b) = setL (bothX b a) := by
  refine setL_congr fun s => ?_
  rw [mem_bothX, mem_bothX]
  constructor
  · rintro ⟨x, hx, y, hy, e⟩; exact ⟨y, hy, x, hx, by rw [andI_comm]; exact e⟩
  · rintro ⟨x, hx, y, hy, e⟩; exact ⟨y, hy, x, hx, by rw [andI_comm]; exact e⟩
theorem quiet_eq {P : Program} {f : FuncId} {args : Array Value} {w : World} {n : Nat} {v : Value} (h : Calls P f args (w.drewN n) fun e w' => e = .returned v ∧ w.drewN n = w') :
    Calls P f args (w.drewN n) fun e w'' => e = .returned v ∧ ∃ m, w'' = w.drewN m := h.mono fun _ _ ⟨he, hm⟩ => ⟨he, n, hm.symm⟩
theorem sEither_is {a b g : Int} (h : Hid (orI a b = g)) (ha : 0 ≤ a) (ha2 : a < 256) (hb : 0 ≤ b) (hb2 : b < 256) (w : World) :
    Calls Try.prog 73 #[.int .i64 a, .int .i64 b] w fun e w' => e = .returned (.int .i64 g) ∧ ∃ n, w' = w.drewN n :=
  (sEither a b ha ha2 hb hb2 w).mono fun _ _ ⟨he, hw⟩ => ⟨he.trans (ret_int h.out), hw⟩

set_option maxRecDepth 100000 in
set_option maxHeartbeats 8000000 in
theorem sRs_if (t : Int) (s : ByteArray) (at_ : Nat) (w : World) (hs : s.size ≤ 1048576) (hat : at_ < s.size) (hc : s[at_].toNat = 40) (h1 : 1 ≤ t) (h3 : t ≤ 3) (x : Sen) (l : List Nat) (hi : ResAt t s (at_ + 1) x (62 :: l)) (y : Sen) (e0 : Nat) (r : List Nat)
    (hi2 : ∀ a2 : Nat, a2 ≤ s.size → (bytesN s).drop a2 = l → ResAt t s a2 y (e0 :: r)) :
    Calls Try.prog 41 #[.int .i64 t, .string s, .int .i64 at_] w (SRes t s (.if_ x y) r w) := by
  have hd : (at_ : Int) < (s.size : Int) := by omega
  have hd0 : (0 : Int) ≤ (at_ : Int) := by omega
  have HI := Lib.hid hi
  have HI2 := Lib.hid hi2
  have hga := (res_main h1 h3 x).1
  have hgb := (res_main h1 h3 y).1
  have hla := res_len t x
  have hlb := res_len t y
  have HE : Hid (chooseX t (resS t x) (resS t y) = resS t (.if_ x y)) := rfl
  obtain ⟨a, HA⟩ : ∃ a, Hid (resS t x = a) := ⟨_, rfl⟩
  obtain ⟨b, HB⟩ : ∃ b, Hid (resS t y = b) := ⟨_, rfl⟩
  rw [HA.out] at hga hla HE
  rw [HB.out] at hgb hlb HE
  have HSA := Lib.hid hga.2
  have HRB := Lib.hid hgb.range
  have HGO := Lib.hid (chooseTo_good h1 h3 hgb hga.2)
  have HLN := Lib.hid (chooseTo_len t a b)
  have H1 := Lib.hid h1
  have H3 := Lib.hid h3
  obtain ⟨hal0, hal1⟩ := allOf_lt t
  clear hi hi2 hga hgb
  go_enter Try.func41, Try.ntmps41
  go_wp2_with fail
  refine (HI.out _).mono ?_
  rintro e w1 ⟨v, a2, rfl, ha2, hd2, ho, hb⟩
  rw [HA.out] at ho
  obtain ⟨A1, c1, rfl, _, _, _, _⟩ := ho.form
  obtain ⟨hlt2, hm2, hl2⟩ := drop_lt hd2
  have HC2 := Lib.hid (HI2.out (a2 + 1) hlt2 hl2)
  have HR1 := Lib.hid (Owns.row ho (by omega))
  have HBW := Lib.hid hb
  have hd3 : (a2 : Int) < (s.size : Int) := by omega
  have hd4 : (0 : Int) ≤ (a2 : Int) := by omega
  clear hb ho hd2 hl2
  go_wp2_with fail
  refine (HC2.out _).mono ?_
  rintro e w2 ⟨v, a3, rfl, ha3, hd5, ho, hb⟩
  rw [HB.out] at ho
  obtain ⟨A2, c2, rfl, _, _, _, _⟩ := ho.form
  obtain ⟨hlt3, _, hl3⟩ := drop_lt hd5
  have HBW2 := Lib.hid (bel_trans HBW.out hb)
  have HR2 := Lib.hid (Owns.row ho (by omega))
  replace HR1 := Lib.hid (HR1.out.below hb)
  have HL3 := Lib.hid hl3
  have hsz := HBW2.out.size
  clear hb ho hd5 hl3
  go_wp2_with fail
  refine (sAll t _ h1 h3).mono ?_
  rintro e w' ⟨rfl, rfl⟩
  go_wp2_with fail
  go_loopw [19, 23] (fun o i wr => ∃ k : Nat, k ≤ a.length ∧ i = .int .i64 k ∧ Owns wr w2.heap.size o (chooseTo t b a k) ∧ Below w2.heap.size w2 wr) (fun _ i _ => a.length - (Go.RowKit.intOf i).toNat)
  case atStart => exact ⟨0, Nat.zero_le _, rfl, by have h := Owns.lit (w2.alloc (.cells #[] 3)) w2.heap.size [allOf t] (by rw [World.size_alloc]; exact Nat.le_succ _) (by simp [maxLen]); rw [World.size_alloc] at h; exact h, ((Below.refl _ _).alloc (Nat.le_refl _) _).alloc (by rw [World.size_alloc]; exact Nat.le_succ _) _⟩
  case round =>
    obtain ⟨k, hk, rfl, hown, hbel⟩ := hrel
    obtain ⟨W0, rfl⟩ : ∃ W, W = wr := ⟨_, rfl⟩
    obtain ⟨lk, HLK⟩ : ∃ l, Hid (chooseTo t b a k = l) := ⟨_, rfl⟩
    have hlk : lk.length ≤ 256 := by rw [← HLK.out]; exact HLN.out k
    have hgk : Good t lk := by rw [← HLK.out]; exact HGO.out k
    rw [HLK.out] at hown
    have HOW := Lib.hid hown
    have HBR := Lib.hid hbel
    have hszr := hbel.size
    have HRL := Lib.hid hgk.range
    clear hown hbel hgk
    by_cases hlt : k < a.length
    · obtain ⟨bb, off, z, rfl, _, hz, _⟩ := (HR1.out.hA.below HBR.out).elem hlt
      have hzr := setOkB_lt (HSA.out z (elem_mem hz))
      have hz0 := hzr.2.2.1
      have hz1 := hzr.2.2.2.1
      have HNX := Lib.hid (chooseTo_next (t := t) (b := b) hz)
      obtain ⟨st, HST⟩ : ∃ l, Hid ((b.map fun y => orI (allOf t - z) y) = l) := ⟨_, rfl⟩
      have hstl : st.length = b.length := by rw [← HST.out, List.length_map]
      rw [HST.out, HLK.out, bothX_swap] at HNX
      have HRS : Hid (∀ u ∈ st, 0 ≤ u ∧ u < 256) := fun u hu => by
        rw [← HST.out] at hu
        obtain ⟨v, hv, rfl⟩ := List.mem_map.1 hu
        exact ⟨orI_nonneg _ _, orI_lt _ _ (by omega) (HRB.out v hv).2⟩
      have HSG : Hid (∀ (j : Nat) (u : Int), Hid (b[j]? = some u) → Hid (st[j]? = some (orI (allOf t - z) u))) := fun j u hu => by
        unfold Hid; rw [← HST.out, List.getElem?_map, hu.out]; rfl
      obtain ⟨A9, c9, rfl, _, _, _, _⟩ := HOW.out.form
      have HRO := Lib.hid (Owns.row HOW.out (by omega))
      have hdk : decide ((k : Int) < (a.length : Int)) = true := decide_eq_true (by omega)
      have hk1 : (k : Int) < (a.length : Int) := by omega
      clear hzr
      go_wp2_with fail
      clear hdk
      go_loopw [24, 25] (fun n i wi => ∃ j : Nat, j ≤ b.length ∧ i = .int .i64 j ∧ Owns wi W0.heap.size n (setL (bothTo st lk j 0)) ∧ Below W0.heap.size W0 wi) (fun _ i _ => b.length - (Go.RowKit.intOf i).toNat)
      case atStart => exact ⟨0, Nat.zero_le _, rfl, by rw [bothTo_zero_set]; exact Owns.lit W0 W0.heap.size [] (Nat.le_refl _) (by simp [maxLen]), (Below.refl _ _).alloc (Nat.le_refl _) _⟩
      case round =>
        obtain ⟨j, hj, rfl, hown, hbel⟩ := hrel
        obtain ⟨W1, rfl⟩ : ∃ W, W = wr := ⟨_, rfl⟩
        have HON := Lib.hid hown
        have HBJ := Lib.hid hbel
        clear hown hbel
        by_cases hjt : j < b.length
        · have hcell1 := Nums.at_ ((HR1.out.hA.below HBR.out).below HBJ.out) hz
          obtain ⟨bb2, off2, u, rfl, hcell, hu, _⟩ := ((HR2.out.hA.below HBR.out).below HBJ.out).elem hjt
          obtain ⟨hf1, hf2⟩ := HRB.out u (elem_mem hu)
          have hsj := HSG.out j u hu
          obtain ⟨sv, HSV⟩ : ∃ v, Hid (orI (allOf t - z) u = v) := ⟨_, rfl⟩
          rw [HSV.out] at hsj
          obtain ⟨hs0, hs1⟩ := HRS.out sv (elem_mem hsj)
          have hj1 : (j : Int) < (b.length : Int) := by omega
          go_wp2_with fail
          go_quiet (first | (go_at_call 74; exact quiet_eq (sAll _ _ H1.out H3.out)) | (go_at_call 73; exact Calls.quiet_of (sEither_is HSV (by omega) (by omega) hf1 hf2 _)))
          go_wp2_with fail
          go_loopw [24, 27] (fun n i wi => ∃ h : Nat, h ≤ lk.length ∧ i = .int .i64 h ∧ Owns wi W0.heap.size n (setL (bothTo st lk j h)) ∧ Below W0.heap.size W0 wi) (fun _ i _ => lk.length - (Go.RowKit.intOf i).toNat)
          case atStart => exact ⟨0, Nat.zero_le _, rfl, HON.out, bel_drewN HBJ.out _⟩
          case round =>
            obtain ⟨h, hh, rfl, hown, hbel⟩ := hrel
            have hol := setL_len (bothTo st lk j h)
            have HOI := Lib.hid hown
            have HBI := Lib.hid hbel
            have hszi := hbel.size
            clear hown hbel
            by_cases hht : h < lk.length
            · obtain ⟨A8, c8, rfl, _, _, _, _⟩ := HOI.out.form
              have HRN := Lib.hid (Owns.row HOI.out (by omega))
              obtain ⟨bb3, off3, o, rfl, hcell3, ho3, _⟩ := (HRO.out.hA.below HBI.out).elem hht
              obtain ⟨ho0, ho1⟩ := HRL.out o (elem_mem ho3)
              have HT := Lib.hid (bothTo_add HRS.out hsj ho3)
              rw [andI_comm] at HT
              go_wp2_with fail
              refine (sBothS o sv ho0 ho1 hs0 hs1 _).mono ?_
              rintro e w' ⟨rfl, q, rfl⟩
              go_wp2_with fail
              refine (sAdd_is HT (by omega) (Row.drewN HRN.out _)).mono ?_
              rintro e w' ⟨v, rfl, ho, hb⟩
              have HO' := Lib.hid (ho.base (show W0.heap.size ≤ _ from hszi))
              have HB' := Lib.hid (bel_trans (bel_drewN HBI.out _) hb)
              clear ho hb
              go_wp2_with fail
              go_roundw
              case rel => exact ⟨h + 1, by omega, by go_num, HO'.out, HB'.out⟩
              case measure => simp [Go.RowKit.intOf]; omega
            · obtain rfl : h = lk.length := by omega
              have HT := Lib.hid (bothTo_out (b := lk) hsj)
              go_wp2_with fail
              go_roundw
              case rel => exact ⟨j + 1, by omega, by go_num, by rw [HT.out]; exact HOI.out, HBI.out⟩
              case measure => simp [Go.RowKit.intOf]; omega
        · obtain rfl : j = b.length := by omega
          have HF : Hid (setL (bothTo st lk b.length 0) = chooseTo t b a (k + 1)) := by unfold Hid; rw [← hstl, bothTo_end, HNX.out]
          rw [HF.out] at HON
          go_wp2_with fail
          go_roundw
          case rel => exact ⟨k + 1, by omega, by go_num, HON.out.base hszr, bel_trans HBR.out HBJ.out⟩
          case measure => simp [Go.RowKit.intOf]; omega
    · obtain rfl : k = a.length := by omega
      have HF : Hid (lk = resS t (.if_ x y)) := by unfold Hid; rw [← HLK.out, chooseTo_end, HE.out]
      rw [HF.out] at HOW
      go_wp2_with fail
      go_ret2
      exact ⟨_, a3 + 1, rfl, hlt3, HL3.out, HOW.out.base hsz, bel_trans HBW2.out HBR.out⟩

theorem sReads4 (t : Int) (s : ByteArray) (hs : s.size ≤ 1048576) (h1 : 1 ≤ t) (h3 : t ≤ 3) : ∀ (k at_ : Nat) (x : Sen) (rest : List Nat), s.size - at_ ≤ k → readS t k ((bytesN s).drop at_) = some (x, rest) → ResAt t s at_ x rest := by
  intro k
  induction k with
  | zero => intro at_ x rest _ h; cases h
  | succ k ih =>
    intro at_ x rest hk h W
    by_cases hlt : at_ < s.size
    · have hrd : ∀ W, Calls Try.prog 72 #[.int .i64 t, .string s, .int .i64 at_] W (SSome t s x rest W) := fun W => sreads_some (sReads t s hs h1 h3 (k + 1)) W (by omega) hk h
      rw [bytesN_drop hlt] at h
      rcases hb : startB t s[at_].toNat with _ | _
      · rw [read_no t k _ _ hb] at h; cases h
      by_cases e49 : s[at_].toNat = 49
      · rw [e49] at h; cases h
        exact sRs_word t s at_ W hs hlt (by omega) (by omega) (by omega) .one rfl _ hrd
      by_cases e48 : s[at_].toNat = 48
      · rw [e48] at h; cases h
        exact sRs_word t s at_ W hs hlt (by omega) (by omega) (by omega) .zero rfl _ hrd
      by_cases e33 : s[at_].toNat = 33
      · rw [e33, read_no33] at h
        obtain ⟨⟨y, r⟩, hy, e⟩ := Option.map_eq_some_iff.1 h
        cases e
        exact sRs_no t s at_ W hs hlt e33 h1 h3 y r (ih _ _ _ (by omega) hy)
      by_cases e63 : s[at_].toNat = 63
      · rw [e63, read_ask63] at h
        obtain ⟨⟨y, r⟩, hy, e⟩ := Option.map_eq_some_iff.1 h
        cases e
        exact sRs_ask t s at_ W hs hlt e63 h1 h3 y r (ih _ _ _ (by omega) hy)
      by_cases e40 : s[at_].toNat = 40
      · rw [e40, read_pair40] at h
        unfold pairS at h
        split at h
        · rename_i x1 m1 l2 hx1
          have hlen : ∀ a2 : Nat, a2 ≤ s.size → (bytesN s).drop a2 = l2 → s.size - a2 ≤ k := fun a2 ha hd => by
            have := readS_less t k _ _ _ hx1
            rw [List.length_drop, bytesN_len] at this
            have h2 : l2.length = s.size - a2 := by rw [← hd, List.length_drop, bytesN_len]
            simp only [List.length_cons] at this
            omega
          split at h
          · rename_i y1 e0 r1 hy1
            split at h
            · obtain ⟨z, hz, e⟩ := Option.map_eq_some_iff.1 h
              cases e
              have hi2 : ∀ a2 : Nat, a2 ≤ s.size → (bytesN s).drop a2 = l2 → ResAt t s a2 y1 (e0 :: rest) := fun a2 ha hd => ih a2 _ _ (hlen a2 ha hd) (by rw [hd]; exact hy1)
              unfold twoS at hz
              split at hz
              · cases hz; rename_i hm1; subst hm1
                exact sRs_and t s at_ W hs hlt e40 h1 h3 x1 l2 (ih _ _ _ (by omega) hx1) y1 e0 rest hi2
              split at hz
              · cases hz; rename_i hm1; subst hm1
                exact sRs_or t s at_ W hs hlt e40 h1 h3 x1 l2 (ih _ _ _ (by omega) hx1) y1 e0 rest hi2
              split at hz
              · cases hz; rename_i hm1; subst hm1
                exact sRs_if t s at_ W hs hlt e40 h1 h3 x1 l2 (ih _ _ _ (by omega) hx1) y1 e0 rest hi2
              · cases hz
            · cases h
          · cases h
        · cases h
      · obtain ⟨i, hi, hit⟩ := start_thing hb e49 e48 e33 e63 e40
        rw [hi, read_thing hit] at h
        cases h
        exact sRs_word t s at_ W hs hlt (by omega) (by omega) (by omega) (.thing i) rfl _ hrd
    · rw [List.drop_eq_nil_of_le (by rw [bytesN_len]; omega), read_empty] at h
      cases h
theorem sRes_some {t : Int} {s : ByteArray} {x : Sen} (h : senT t s = some x) (w : World) : Calls Try.prog 41 #[.int .i64 t, .string s, .int .i64 0] w (SRes t s x [] w) := by
  obtain ⟨h1, h3, hl, hok, ht⟩ := senT_ok h
  exact sReads4 t s (by omega) h1 h3 s.size 0 x [] (by omega) (by rw [List.drop_zero]; exact read_of_sen h) w
end Go.Proofs.Ytbiifcdlfmeahaa
