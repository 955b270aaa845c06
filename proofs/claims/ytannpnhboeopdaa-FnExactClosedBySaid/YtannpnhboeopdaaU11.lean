/-
  What the proofs of this seat's statements share (KeyM, KeyI).
-/
import Derived.Test.YtannpnhboeopdaaU7
import Derived.Test.YtannpnhboeopdaaU10
import Derived.Test.YtannpnhboeopdaaU5

namespace Go.Proofs.Ytannpnhboeopdaa

theorem key_under {t s : Int} : ∀ (n : Nat) (f : Int), f.toNat ≤ n → holdsInB t s f (topT t) = true → ∃ g, g ∈ keysL t s ∧ withinB g f = true
  | n, f, hn, h => by
    obtain ⟨hs, hb, _⟩ := holdsIn_iff.1 h
    have hb' := hb
    unfold bondOkB at hb'
    rw [Bool.and_eq_true] at hb'
    obtain ⟨h1, h3, h0, h7, _⟩ := thingsOk_of hb'.1
    cases hk : (List.range t.toNat).all fun k => !(f.toNat.testBit k && holdsInB t s (f - ((2 ^ k : Nat) : Int)) (topT t))
    · obtain ⟨k, _, hk2⟩ := List.all_eq_false.1 hk
      have hk2 : (f.toNat.testBit k && holdsInB t s (f - ((2 ^ k : Nat) : Int)) (topT t)) = true := by simpa using hk2
      rw [Bool.and_eq_true] at hk2
      have hge := Nat.ge_two_pow_of_testBit hk2.1
      have hp := Nat.two_pow_pos k
      cases n with
      | zero => omega
      | succ n =>
        obtain ⟨g, hg, hw⟩ := key_under n _ (by omega) hk2.2
        have hg0 := (thingsOk_of (key_of hg).1).2.2.1
        refine ⟨g, hg, (within_iff hg0).2 fun i hi => ?_⟩
        have := (within_iff hg0).1 hw i hi
        rw [show (f - ((2 ^ k : Nat) : Int)).toNat = f.toNat - 2 ^ k by omega, without_bit _ _ hk2.1, Bool.and_eq_true] at this
        exact this.1
    · exact ⟨f, mem_keys.2 ⟨hs, h0, h7, by unfold keyB; rw [h, hk]; rfl⟩, within_refl f h0⟩
def keysTo (t s : Int) (k : Nat) : List Int := ((List.range k).map fun n : Nat => (n : Int)).filter (keyB t s)
theorem keysTo_next (t s : Int) (k : Nat) : keysTo t s (k + 1) = keysTo t s k ++ (if keyB t s k = true then [(k : Int)] else []) := by
  unfold keysTo
  rw [List.range_succ, List.map_append, List.filter_append]
  congr 1
  simp only [List.map_cons, List.map_nil, List.filter_cons, List.filter_nil]
theorem keysTo_len (t s : Int) (k : Nat) : (keysTo t s k).length ≤ k := by
  unfold keysTo
  refine Nat.le_trans (List.length_filter_le _ _) ?_
  rw [List.length_map, List.length_range]; exact Nat.le_refl _
theorem keysTo_mem {t s : Int} {k : Nat} {g : Int} : g ∈ keysTo t s k ↔ 0 ≤ g ∧ g < k ∧ keyB t s g = true := by
  unfold keysTo
  rw [List.mem_filter, List.mem_map]
  constructor
  · rintro ⟨⟨n, hn, rfl⟩, hk⟩
    rw [List.mem_range] at hn
    exact ⟨by omega, by omega, hk⟩
  · rintro ⟨h0, h1, hk⟩
    exact ⟨⟨g.toNat, by rw [List.mem_range]; omega, by omega⟩, hk⟩
theorem key_iff {t s : Int} (hs : setOkB t s = true) {f : Nat} (hf : (f : Int) ≤ topT t) : keyB t s f = (holdsInB t s f (topT t) && (keysTo t s f).all fun g => !withinB g f) := by
  rcases hh : holdsInB t s f (topT t) with _ | _
  · unfold keyB; rw [hh]; rfl
  · rw [Bool.true_and, Bool.eq_iff_iff, List.all_eq_true]
    constructor
    · intro hk g hg
      obtain ⟨h0, h1, hkg⟩ := keysTo_mem.1 hg
      cases hw : withinB g (f : Int)
      · rfl
      · have := law_keys_apart (mem_keys.2 ⟨hs, h0, by omega, hkg⟩) (mem_keys.2 ⟨hs, by omega, hf, hk⟩) hw
        omega
    · intro h
      obtain ⟨g, hg, hw⟩ := key_under _ _ (Nat.le_refl _) hh
      obtain ⟨_, h0, _, hkg⟩ := mem_keys.1 hg
      have hle := within_le hw (by omega)
      by_cases e : g = f
      · rw [← e]; exact hkg
      · have := h g (keysTo_mem.2 ⟨h0, by omega, hkg⟩)
        rw [hw] at this; cases this
theorem keysTo_end {t s : Int} (hs : setOkB t s = true) : keysTo t s ((topT t).toNat + 1) = keysL t s := by unfold keysTo keysL; rw [if_pos hs]
end Go.Proofs.Ytannpnhboeopdaa

namespace Go.Proofs.Ytannpnhboeopdaa
open Go.RowKit Go.Maps

theorem apart_take {xs : List Int} {s x : Int} {k : Nat} (hx : Hid (xs[k]? = some x)) : ((xs.take (k + 1)).all fun g => !withinB g s) = (((xs.take k).all fun g => !withinB g s) && !withinB x s) := by
  rw [take_snoc hx, List.all_append]; simp
set_option maxRecDepth 100000 in
set_option maxHeartbeats 2000000 in
theorem iApart (s : Int) (A : Option Addr) (n c : Nat) (xs : List Int) (w : World) (hs : 0 ≤ s) (hs2 : s < 1024) (hr : ∀ x ∈ xs, 0 ≤ x ∧ x < 1024) (ha : Row w A n c xs) :
    Calls Try.prog 65 #[.slice A n c, .int .i64 s] w fun e w' => e = .returned (.bool (xs.all fun g => !withinB g s)) ∧ w = w' := by
  have HA := Lib.hid ha
  obtain rfl := ha.hn
  have hl := ha.hl
  have HR := Lib.hid hr
  obtain ⟨res, HRES⟩ : ∃ b, Hid ((xs.all fun g => !withinB g s) = b) := ⟨_, rfl⟩
  have HM : Hid (∀ x ∈ xs, withinB x s = true → res = false) := fun x hx hw => by
    rw [← HRES.out, List.all_eq_false]; exact ⟨x, hx, by rw [hw]; simp⟩
  rw [HRES.out]
  clear ha hr
  go_enter Try.func65, Try.ntmps65
  go_wp2_with fail
  go_loop [9] (fun i => ∃ k : Nat, k ≤ xs.length ∧ i = .int .i64 k ∧ Hid (((xs.take k).all fun g => !withinB g s) = true)) (fun i => xs.length - (Go.RowKit.intOf i).toNat)
  case atStart => exact ⟨0, Nat.zero_le _, rfl, rfl⟩
  case round =>
    obtain ⟨k, hk, rfl, hso⟩ := hrel
    by_cases hlt : k < xs.length
    · obtain ⟨bb, off, x, rfl, hcell, hx, _⟩ := HA.out.hA.elem hlt
      obtain ⟨hx0, hx1⟩ := HR.out x (elem_mem hx)
      rcases hw : withinB x s with _ | _
      · have HW := Lib.hid hw
        have HN : Hid (((xs.take (k + 1)).all fun g => !withinB g s) = true) := by unfold Hid; rw [apart_take hx, hso.out, hw]; rfl
        clear hw
        go_wp2_with fail
        refine (iWithin_is5 HW hx0 (by omega) hs (by omega) _).mono ?_
        rintro e w' ⟨rfl, rfl⟩
        go_wp2_with fail
        go_round
        case rel => exact ⟨k + 1, by omega, by go_num, HN⟩
        case measure => simp [Go.RowKit.intOf]; omega
      · have HW := Lib.hid hw
        have HF := Lib.hid (HM.out x (elem_mem hx) hw)
        clear hw
        go_wp2_with fail
        refine (iWithin_is5 HW hx0 (by omega) hs (by omega) _).mono ?_
        rintro e w' ⟨rfl, rfl⟩
        go_wp2_with fail
        go_ret
        exact ⟨ret_bool HF.out.symm, rfl⟩
    · obtain rfl : k = xs.length := by omega
      have HF : Hid (res = true) := by unfold Hid; rw [← HRES.out, ← hso.out, List.take_length]
      go_wp2_with fail
      go_ret
      exact ⟨ret_bool HF.out.symm, rfl⟩
theorem iApart_is {s : Int} {xs : List Int} {v : Bool} (h : Hid ((xs.all fun g => !withinB g s) = v)) {A : Option Addr} {n c : Nat} {w : World} (hs : 0 ≤ s) (hs2 : s < 1024) (hr : ∀ x ∈ xs, 0 ≤ x ∧ x < 1024) (ha : Row w A n c xs) :
    Calls Try.prog 65 #[.slice A n c, .int .i64 s] w fun e w' => e = .returned (.bool v) ∧ w = w' :=
  (iApart s A n c xs w hs hs2 hr ha).mono fun _ _ ⟨he, hw⟩ => ⟨he.trans (ret_bool h.out), hw⟩
theorem map_past {W w' : World} {B n base : Nat} {D : DataW Unit} {v : Value} {xs : List Int} {o : Obj} (h : BMap W B n D) (hown : Owns W base v xs) (hlt : B < base) (hg : (W.alloc o).grownBy w' v.ownBlock) : BMap w' B n D := by
  refine World.ownsMap.kept (World.ownsMap.alloc h o) hg fun e => ?_
  have := (World.ownsRow.lt hown B e.symm).1
  omega
def KeyPost (l : List Int) (w : World) (e : Ending) (w' : World) : Prop := ∃ v, e = .returned v ∧ Owns w' w.heap.size v l ∧ Below w.heap.size w w'
theorem bondOk_small {t : Int} {f g : Nat} (h1 : 1 ≤ t) (h3 : t ≤ 3) (hf : (f : Int) ≤ topT t) (hg : (g : Int) ≤ topT t) : bondOkB t f g = true := by
  unfold bondOkB thingsOk
  rw [decide_eq_true (by omega), decide_eq_true (by omega)]; rfl
set_option maxRecDepth 100000 in
set_option maxHeartbeats 8000000 in
theorem iKeysOf (t s : Int) (w : World) : Calls Try.prog 30 #[.int .i64 t, .int .i64 s] w (KeyPost (keysL t s) w) := by
  have hnot : ∀ (x : Bool) (w : World), (Op.unary .not (.bool x)).run Try.prog w = .ok (.bool (!x)) w := fun _ _ => rfl
  rcases hset : setOkB t s with _ | _
  · have HS := Lib.hid hset
    rw [show keysL t s = [] by unfold keysL; rw [hset]; rfl]
    clear hset
    go_enter Try.func30, Try.ntmps30
    go_wp2_with fail
    refine (iSetOk _ _ _).mono ?_
    rintro e w' ⟨rfl, rfl⟩
    rw [HS.out]
    go_wp2_with fail
    go_ret
    exact ⟨_, rfl, Owns.nil _ _, Below.refl _ _⟩
  · have HS := Lib.hid hset
    obtain ⟨h1, h3, hs0, _, hs256⟩ := setOkB_lt hset
    have HEND := Lib.hid (keysTo_end hset)
    have HKI : Hid (∀ f : Nat, (f : Int) ≤ topT t → keyB t s f = (pairsB t s f (topT t) && (keysTo t s f).all fun g => !withinB g f)) := fun f hf => by
      have ht0 := (topT_range t).1
      have := key_iff hset hf
      rw [this, holdsIn_eq, hset, show bondOkB t (f : Int) (topT t) = true by have := bondOk_small (f := f) (g := (topT t).toNat) h1 h3 hf (by omega); rwa [show (((topT t).toNat : Nat) : Int) = topT t by omega] at this]
      rfl
    have ht : t = 1 ∨ t = 2 ∨ t = 3 := by omega
    clear hset h1 h3
    rcases ht with rfl | rfl | rfl
    · have HEND : Hid (keysTo 1 s 2 = keysL 1 s) := HEND.out
      have HKI : Hid (∀ f : Nat, f < 2 → keyB 1 s f = (pairsB 1 s f 1 && (keysTo 1 s f).all fun g => !withinB g f)) := fun f hf => HKI.out f (by show (f : Int) ≤ 1; omega)
      go_enter Try.func30, Try.ntmps30
      go_wp2_with fail
      refine (iSetOk _ _ _).mono ?_
      rintro e w' ⟨rfl, rfl⟩
      rw [HS.out]
      go_wp2_with fail
      refine (iThatHold 1 s 2 _ (by omega) hs0 hs256).mono ?_
      rintro e W1 ⟨B, n, D, rfl, hB, hmap, hat, hb⟩
      have HAT : Hid (∀ f : Nat, f < 2 → D.atKey (bondKey f 1) (.lit (.bool false)) = .lit (.bool (pairsB 1 s f 1))) := fun f hf => hat f 1 hf (by omega)
      have HB1 := Lib.hid hb
      have hBlt := World.ownsMap.lt hmap
      have HMAP := Lib.hid hmap
      have hsz := hb.size
      clear hb hmap hat
      go_wp2_with fail
      go_loopw [7, 21] (fun v i wr => ∃ k : Nat, k ≤ 2 ∧ i = .int .i64 k ∧ Owns wr W1.heap.size v (keysTo 1 s k) ∧ BMap wr B n D ∧ Below W1.heap.size W1 wr) (fun _ i _ => 2 - (Go.RowKit.intOf i).toNat)
      case atStart => exact ⟨0, Nat.zero_le _, rfl, Owns.nil _ _, HMAP.out, Below.refl _ _⟩
      case round =>
        obtain ⟨k, hk, rfl, hown, hmap, hbel⟩ := hrel
        have HO := Lib.hid hown
        have HM := Lib.hid hmap
        have HB := Lib.hid hbel
        have hkl := keysTo_len 1 s k
        have hszr := hbel.size
        clear hown hmap hbel
        by_cases hlt : k < 2
        · have hki := HKI.out k hlt
          have hnx := keysTo_next 1 s k
          have hatk := HAT.out k hlt
          rcases hx : pairsB 1 s k 1 with _ | _
          · have HN : Hid (keysTo 1 s (k + 1) = keysTo 1 s k) := by unfold Hid; rw [hnx, hki, hx]; simp
            rw [hx] at hatk
            have HATK := Lib.hid hatk
            clear hki hnx hatk hx
            go_wp2_with (at_lookup; refine wpList_lookup_own_bool _ rfl _ _ 69 rfl 24 4 bond_keyed Try.underlying69 Try.underlying4 (bool_zero _) B n D rfl HM.out _ _ rfl (bond_key (wf_small (by omega)) (wf_small (k := 1) (by omega))) ?_; intro c hat2; obtain rfl : c = false := by have := hat2.symm.trans HATK.out; simpa using this)
            go_roundw
            case rel => exact ⟨k + 1, by omega, by go_num, by rw [HN.out]; exact HO.out, HM.out, HB.out⟩
            case measure => simp [Go.RowKit.intOf]; omega
          · obtain ⟨y, HY⟩ : ∃ y, Hid (((keysTo 1 s k).all fun g => !withinB g (k : Int)) = y) := ⟨_, rfl⟩
            have HRK : Hid (∀ x ∈ keysTo 1 s k, 0 ≤ x ∧ x < 1024) := fun x hx => by have := keysTo_mem.1 hx; omega
            rw [hx] at hatk
            have HATK := Lib.hid hatk
            rw [hx, HY.out] at hki
            rw [hki] at hnx
            have HNX := Lib.hid hnx
            obtain ⟨lk, HLK⟩ : ∃ l, Hid (keysTo 1 s k = l) := ⟨_, rfl⟩
            rw [HLK.out] at HO HY HRK HNX hkl
            obtain ⟨A7, c7, rfl, _, _, _, _⟩ := HO.out.form
            have HR7 := Lib.hid (Owns.row HO.out (by omega))
            clear hki hnx hatk hx
            cases y
            · have HN : Hid (keysTo 1 s (k + 1) = lk) := by unfold Hid; rw [HNX.out]; simp
              go_wp2_with (at_lookup; refine wpList_lookup_own_bool _ rfl _ _ 69 rfl 24 4 bond_keyed Try.underlying69 Try.underlying4 (bool_zero _) B n D rfl HM.out _ _ rfl (bond_key (wf_small (by omega)) (wf_small (k := 1) (by omega))) ?_; intro c hat2; obtain rfl : c = true := by have := hat2.symm.trans HATK.out; simpa using this)
              refine (iApart_is HY (by omega) (by omega) HRK.out HR7.out).mono ?_
              rintro e w' ⟨rfl, rfl⟩
              go_wp2_with fail
              go_roundw
              case rel => exact ⟨k + 1, by omega, by go_num, by rw [HN.out]; exact HO.out, HM.out, HB.out⟩
              case measure => simp [Go.RowKit.intOf]; omega
            · have HN : Hid (keysTo 1 s (k + 1) = lk ++ [(k : Int)]) := by unfold Hid; rw [HNX.out]; simp
              go_wp2_with (at_lookup; refine wpList_lookup_own_bool _ rfl _ _ 69 rfl 24 4 bond_keyed Try.underlying69 Try.underlying4 (bool_zero _) B n D rfl HM.out _ _ rfl (bond_key (wf_small (by omega)) (wf_small (k := 1) (by omega))) ?_; intro c hat2; obtain rfl : c = true := by have := hat2.symm.trans HATK.out; simpa using this)
              refine (iApart_is HY (by omega) (by omega) HRK.out HR7.out).mono ?_
              rintro e w' ⟨rfl, rfl⟩
              go_wp2_with (at_builtin; refine wp_append1 (W := wr) rfl _ _ rfl W1.heap.size (.slice A7 lk.length c7) lk rfl HO.out (k : Int) rfl (by omega) hszr ?_; intro v' w' hown' hgrow)
              have hb' := below_append HB.out hszr HO.out (Nat.le_refl _) hgrow
              have hm' : BMap w' B n D := map_past HM.out HO.out hBlt hgrow
              go_roundw
              case rel => exact ⟨k + 1, by omega, by go_num, by rw [HN.out]; exact hown', hm', hb'⟩
              case measure => simp [Go.RowKit.intOf]; omega
        · obtain rfl : k = 2 := by omega
          rw [HEND.out] at HO
          go_wp2_with fail
          go_ret
          exact ⟨_, rfl, HO.out.base hsz, bel_trans HB1.out HB.out⟩
    · have HEND : Hid (keysTo 2 s 4 = keysL 2 s) := HEND.out
      have HKI : Hid (∀ f : Nat, f < 4 → keyB 2 s f = (pairsB 2 s f 3 && (keysTo 2 s f).all fun g => !withinB g f)) := fun f hf => HKI.out f (by show (f : Int) ≤ 3; omega)
      go_enter Try.func30, Try.ntmps30
      go_wp2_with fail
      refine (iSetOk _ _ _).mono ?_
      rintro e w' ⟨rfl, rfl⟩
      rw [HS.out]
      go_wp2_with fail
      refine (iThatHold 2 s 4 _ (by omega) hs0 hs256).mono ?_
      rintro e W1 ⟨B, n, D, rfl, hB, hmap, hat, hb⟩
      have HAT : Hid (∀ f : Nat, f < 4 → D.atKey (bondKey f 3) (.lit (.bool false)) = .lit (.bool (pairsB 2 s f 3))) := fun f hf => hat f 3 hf (by omega)
      have HB1 := Lib.hid hb
      have hBlt := World.ownsMap.lt hmap
      have HMAP := Lib.hid hmap
      have hsz := hb.size
      clear hb hmap hat
      go_wp2_with fail
      go_loopw [7, 21] (fun v i wr => ∃ k : Nat, k ≤ 4 ∧ i = .int .i64 k ∧ Owns wr W1.heap.size v (keysTo 2 s k) ∧ BMap wr B n D ∧ Below W1.heap.size W1 wr) (fun _ i _ => 4 - (Go.RowKit.intOf i).toNat)
      case atStart => exact ⟨0, Nat.zero_le _, rfl, Owns.nil _ _, HMAP.out, Below.refl _ _⟩
      case round =>
        obtain ⟨k, hk, rfl, hown, hmap, hbel⟩ := hrel
        have HO := Lib.hid hown
        have HM := Lib.hid hmap
        have HB := Lib.hid hbel
        have hkl := keysTo_len 2 s k
        have hszr := hbel.size
        clear hown hmap hbel
        by_cases hlt : k < 4
        · have hki := HKI.out k hlt
          have hnx := keysTo_next 2 s k
          have hatk := HAT.out k hlt
          rcases hx : pairsB 2 s k 3 with _ | _
          · have HN : Hid (keysTo 2 s (k + 1) = keysTo 2 s k) := by unfold Hid; rw [hnx, hki, hx]; simp
            rw [hx] at hatk
            have HATK := Lib.hid hatk
            clear hki hnx hatk hx
            go_wp2_with (at_lookup; refine wpList_lookup_own_bool _ rfl _ _ 69 rfl 24 4 bond_keyed Try.underlying69 Try.underlying4 (bool_zero _) B n D rfl HM.out _ _ rfl (bond_key (wf_small (by omega)) (wf_small (k := 3) (by omega))) ?_; intro c hat2; obtain rfl : c = false := by have := hat2.symm.trans HATK.out; simpa using this)
            go_roundw
            case rel => exact ⟨k + 1, by omega, by go_num, by rw [HN.out]; exact HO.out, HM.out, HB.out⟩
            case measure => simp [Go.RowKit.intOf]; omega
          · obtain ⟨y, HY⟩ : ∃ y, Hid (((keysTo 2 s k).all fun g => !withinB g (k : Int)) = y) := ⟨_, rfl⟩
            have HRK : Hid (∀ x ∈ keysTo 2 s k, 0 ≤ x ∧ x < 1024) := fun x hx => by have := keysTo_mem.1 hx; omega
            rw [hx] at hatk
            have HATK := Lib.hid hatk
            rw [hx, HY.out] at hki
            rw [hki] at hnx
            have HNX := Lib.hid hnx
            obtain ⟨lk, HLK⟩ : ∃ l, Hid (keysTo 2 s k = l) := ⟨_, rfl⟩
            rw [HLK.out] at HO HY HRK HNX hkl
            obtain ⟨A7, c7, rfl, _, _, _, _⟩ := HO.out.form
            have HR7 := Lib.hid (Owns.row HO.out (by omega))
            clear hki hnx hatk hx
            cases y
            · have HN : Hid (keysTo 2 s (k + 1) = lk) := by unfold Hid; rw [HNX.out]; simp
              go_wp2_with (at_lookup; refine wpList_lookup_own_bool _ rfl _ _ 69 rfl 24 4 bond_keyed Try.underlying69 Try.underlying4 (bool_zero _) B n D rfl HM.out _ _ rfl (bond_key (wf_small (by omega)) (wf_small (k := 3) (by omega))) ?_; intro c hat2; obtain rfl : c = true := by have := hat2.symm.trans HATK.out; simpa using this)
              refine (iApart_is HY (by omega) (by omega) HRK.out HR7.out).mono ?_
              rintro e w' ⟨rfl, rfl⟩
              go_wp2_with fail
              go_roundw
              case rel => exact ⟨k + 1, by omega, by go_num, by rw [HN.out]; exact HO.out, HM.out, HB.out⟩
              case measure => simp [Go.RowKit.intOf]; omega
            · have HN : Hid (keysTo 2 s (k + 1) = lk ++ [(k : Int)]) := by unfold Hid; rw [HNX.out]; simp
              go_wp2_with (at_lookup; refine wpList_lookup_own_bool _ rfl _ _ 69 rfl 24 4 bond_keyed Try.underlying69 Try.underlying4 (bool_zero _) B n D rfl HM.out _ _ rfl (bond_key (wf_small (by omega)) (wf_small (k := 3) (by omega))) ?_; intro c hat2; obtain rfl : c = true := by have := hat2.symm.trans HATK.out; simpa using this)
              refine (iApart_is HY (by omega) (by omega) HRK.out HR7.out).mono ?_
              rintro e w' ⟨rfl, rfl⟩
              go_wp2_with (at_builtin; refine wp_append1 (W := wr) rfl _ _ rfl W1.heap.size (.slice A7 lk.length c7) lk rfl HO.out (k : Int) rfl (by omega) hszr ?_; intro v' w' hown' hgrow)
              have hb' := below_append HB.out hszr HO.out (Nat.le_refl _) hgrow
              have hm' : BMap w' B n D := map_past HM.out HO.out hBlt hgrow
              go_roundw
              case rel => exact ⟨k + 1, by omega, by go_num, by rw [HN.out]; exact hown', hm', hb'⟩
              case measure => simp [Go.RowKit.intOf]; omega
        · obtain rfl : k = 4 := by omega
          rw [HEND.out] at HO
          go_wp2_with fail
          go_ret
          exact ⟨_, rfl, HO.out.base hsz, bel_trans HB1.out HB.out⟩
    · have HEND : Hid (keysTo 3 s 8 = keysL 3 s) := HEND.out
      have HKI : Hid (∀ f : Nat, f < 8 → keyB 3 s f = (pairsB 3 s f 7 && (keysTo 3 s f).all fun g => !withinB g f)) := fun f hf => HKI.out f (by show (f : Int) ≤ 7; omega)
      go_enter Try.func30, Try.ntmps30
      go_wp2_with fail
      refine (iSetOk _ _ _).mono ?_
      rintro e w' ⟨rfl, rfl⟩
      rw [HS.out]
      go_wp2_with fail
      refine (iThatHold 3 s 8 _ (by omega) hs0 hs256).mono ?_
      rintro e W1 ⟨B, n, D, rfl, hB, hmap, hat, hb⟩
      have HAT : Hid (∀ f : Nat, f < 8 → D.atKey (bondKey f 7) (.lit (.bool false)) = .lit (.bool (pairsB 3 s f 7))) := fun f hf => hat f 7 hf (by omega)
      have HB1 := Lib.hid hb
      have hBlt := World.ownsMap.lt hmap
      have HMAP := Lib.hid hmap
      have hsz := hb.size
      clear hb hmap hat
      go_wp2_with fail
      go_loopw [7, 21] (fun v i wr => ∃ k : Nat, k ≤ 8 ∧ i = .int .i64 k ∧ Owns wr W1.heap.size v (keysTo 3 s k) ∧ BMap wr B n D ∧ Below W1.heap.size W1 wr) (fun _ i _ => 8 - (Go.RowKit.intOf i).toNat)
      case atStart => exact ⟨0, Nat.zero_le _, rfl, Owns.nil _ _, HMAP.out, Below.refl _ _⟩
      case round =>
        obtain ⟨k, hk, rfl, hown, hmap, hbel⟩ := hrel
        have HO := Lib.hid hown
        have HM := Lib.hid hmap
        have HB := Lib.hid hbel
        have hkl := keysTo_len 3 s k
        have hszr := hbel.size
        clear hown hmap hbel
        by_cases hlt : k < 8
        · have hki := HKI.out k hlt
          have hnx := keysTo_next 3 s k
          have hatk := HAT.out k hlt
          rcases hx : pairsB 3 s k 7 with _ | _
          · have HN : Hid (keysTo 3 s (k + 1) = keysTo 3 s k) := by unfold Hid; rw [hnx, hki, hx]; simp
            rw [hx] at hatk
            have HATK := Lib.hid hatk
            clear hki hnx hatk hx
            go_wp2_with (at_lookup; refine wpList_lookup_own_bool _ rfl _ _ 69 rfl 24 4 bond_keyed Try.underlying69 Try.underlying4 (bool_zero _) B n D rfl HM.out _ _ rfl (bond_key (wf_small (by omega)) (wf_small (k := 7) (by omega))) ?_; intro c hat2; obtain rfl : c = false := by have := hat2.symm.trans HATK.out; simpa using this)
            go_roundw
            case rel => exact ⟨k + 1, by omega, by go_num, by rw [HN.out]; exact HO.out, HM.out, HB.out⟩
            case measure => simp [Go.RowKit.intOf]; omega
          · obtain ⟨y, HY⟩ : ∃ y, Hid (((keysTo 3 s k).all fun g => !withinB g (k : Int)) = y) := ⟨_, rfl⟩
            have HRK : Hid (∀ x ∈ keysTo 3 s k, 0 ≤ x ∧ x < 1024) := fun x hx => by have := keysTo_mem.1 hx; omega
            rw [hx] at hatk
            have HATK := Lib.hid hatk
            rw [hx, HY.out] at hki
            rw [hki] at hnx
            have HNX := Lib.hid hnx
            obtain ⟨lk, HLK⟩ : ∃ l, Hid (keysTo 3 s k = l) := ⟨_, rfl⟩
            rw [HLK.out] at HO HY HRK HNX hkl
            obtain ⟨A7, c7, rfl, _, _, _, _⟩ := HO.out.form
            have HR7 := Lib.hid (Owns.row HO.out (by omega))
            clear hki hnx hatk hx
            cases y
            · have HN : Hid (keysTo 3 s (k + 1) = lk) := by unfold Hid; rw [HNX.out]; simp
              go_wp2_with (at_lookup; refine wpList_lookup_own_bool _ rfl _ _ 69 rfl 24 4 bond_keyed Try.underlying69 Try.underlying4 (bool_zero _) B n D rfl HM.out _ _ rfl (bond_key (wf_small (by omega)) (wf_small (k := 7) (by omega))) ?_; intro c hat2; obtain rfl : c = true := by have := hat2.symm.trans HATK.out; simpa using this)
              refine (iApart_is HY (by omega) (by omega) HRK.out HR7.out).mono ?_
              rintro e w' ⟨rfl, rfl⟩
              go_wp2_with fail
              go_roundw
              case rel => exact ⟨k + 1, by omega, by go_num, by rw [HN.out]; exact HO.out, HM.out, HB.out⟩
              case measure => simp [Go.RowKit.intOf]; omega
            · have HN : Hid (keysTo 3 s (k + 1) = lk ++ [(k : Int)]) := by unfold Hid; rw [HNX.out]; simp
              go_wp2_with (at_lookup; refine wpList_lookup_own_bool _ rfl _ _ 69 rfl 24 4 bond_keyed Try.underlying69 Try.underlying4 (bool_zero _) B n D rfl HM.out _ _ rfl (bond_key (wf_small (by omega)) (wf_small (k := 7) (by omega))) ?_; intro c hat2; obtain rfl : c = true := by have := hat2.symm.trans HATK.out; simpa using this)
              refine (iApart_is HY (by omega) (by omega) HRK.out HR7.out).mono ?_
              rintro e w' ⟨rfl, rfl⟩
              go_wp2_with (at_builtin; refine wp_append1 (W := wr) rfl _ _ rfl W1.heap.size (.slice A7 lk.length c7) lk rfl HO.out (k : Int) rfl (by omega) hszr ?_; intro v' w' hown' hgrow)
              have hb' := below_append HB.out hszr HO.out (Nat.le_refl _) hgrow
              have hm' : BMap w' B n D := map_past HM.out HO.out hBlt hgrow
              go_roundw
              case rel => exact ⟨k + 1, by omega, by go_num, by rw [HN.out]; exact hown', hm', hb'⟩
              case measure => simp [Go.RowKit.intOf]; omega
        · obtain rfl : k = 8 := by omega
          rw [HEND.out] at HO
          go_wp2_with fail
          go_ret
          exact ⟨_, rfl, HO.out.base hsz, bel_trans HB1.out HB.out⟩
end Go.Proofs.Ytannpnhboeopdaa
