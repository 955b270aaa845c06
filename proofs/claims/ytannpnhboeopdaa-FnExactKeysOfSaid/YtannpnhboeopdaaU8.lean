/-
  What the proofs of this seat's statements share (BndB, BndC).
-/
import Derived.Deep.RegionHeld3
import Derived.Test.YtannpnhboeopdaaU7
import Derived.Test.YtannpnhboeopdaaU2

namespace Go.Proofs.Ytannpnhboeopdaa
open Go.RowKit

/-- No pair of worlds of s so far breaks it: up to k, and of k up to j. -/
def HoldsTo (s f g : Int) (k j : Nat) : Prop := (∀ v u, v < k → u < v → (hasW s v && hasW s u && breaksB v u f g) = false) ∧ (∀ u, u < j → (hasW s k && hasW s u && breaksB k u f g) = false)
section
variable {s f g : Int} {k j : Nat}
theorem HoldsTo.start (s f g : Int) : HoldsTo s f g 0 0 := ⟨fun v u h => by omega, fun u h => by omega⟩
theorem HoldsTo.more (h : HoldsTo s f g k j) (hb : (hasW s k && hasW s j && breaksB k j f g) = false) : HoldsTo s f g k (j + 1) :=
  ⟨h.1, fun u hu => by
    by_cases e : u = j
    · subst e; exact hb
    · exact h.2 u (by omega)⟩
theorem HoldsTo.next (h : HoldsTo s f g k k) : HoldsTo s f g (k + 1) 0 :=
  ⟨fun v u hv hu => by
    by_cases e : v = k
    · subst e; exact h.2 u hu
    · exact h.1 v u (by omega) hu, fun u h => by omega⟩
end
def pairsB (t s f g : Int) : Bool := (List.range (nWorlds t)).all fun v => (List.range v).all fun w => !(hasW s v && hasW s w && agreeB f v w) || agreeB g v w
theorem holdsIn_eq (t s f g : Int) : holdsInB t s f g = (setOkB t s && bondOkB t f g && pairsB t s f g) := rfl
theorem pairs_one {s f g : Int} {v w : Nat} : (!(hasW s v && hasW s w && agreeB f v w) || agreeB g v w) = !(hasW s v && hasW s w && breaksB v w f g) := by
  unfold breaksB
  cases hasW s v <;> cases hasW s w <;> cases agreeB f v w <;> cases agreeB g v w <;> rfl
theorem pairs_end {t s f g : Int} (h : HoldsTo s f g (nWorlds t) 0) : pairsB t s f g = true := by
  unfold pairsB
  rw [List.all_eq_true]
  intro v hv
  rw [List.all_eq_true]
  intro w hw
  rw [pairs_one, h.1 v w (List.mem_range.1 hv) (List.mem_range.1 hw)]; rfl
theorem pairs_miss {t s f g : Int} {v w : Nat} (hv : v < nWorlds t) (hw : w < v) (h : (hasW s v && hasW s w && breaksB v w f g) = true) : pairsB t s f g = false := by
  unfold pairsB
  rw [List.all_eq_false]
  refine ⟨v, List.mem_range.2 hv, ?_⟩
  rw [Bool.not_eq_true, List.all_eq_false]
  exact ⟨w, List.mem_range.2 hw, by rw [pairs_one, h]; simp⟩
theorem two_within {v u : Nat} {s : Int} : withinB (orI (worldS v) (worldS u)) s = (hasW s v && hasW s u) := by
  rw [Bool.eq_iff_iff, Bool.and_eq_true, ← world_within, ← world_within]
  constructor
  · intro h
    exact ⟨within_trans (worldS_nonneg v) (orI_nonneg _ _) (within_or_left _ _ (worldS_nonneg v)) h, within_trans (worldS_nonneg u) (orI_nonneg _ _) (within_or_right _ _ (worldS_nonneg u)) h⟩
  · rintro ⟨h1, h2⟩
    exact or_within (worldS_nonneg v) (worldS_nonneg u) h1 h2
theorem wrap_pow5 {k : Nat} (h : k < 8) : wrap64 ((2 : Int) ^ k) = ((2 ^ k : Nat) : Int) := by
  have : 2 ^ k ≤ 2 ^ 7 := Nat.pow_le_pow_right (by omega) (by omega)
  have e : (2 : Int) ^ k = ((2 ^ k : Nat) : Int) := by push_cast; rfl
  rw [e]
  obtain ⟨p, hp⟩ : ∃ p, 2 ^ k = p := ⟨_, rfl⟩
  rw [hp] at this ⊢
  exact IntWalk.wrap64_in _ ⟨by omega, by omega⟩
theorem wrap_pow6 {k : Nat} (h : k < 8) : IntKind.i64.wrap ((2 : Int) ^ k) = ((2 ^ k : Nat) : Int) := by
  have : 2 ^ k ≤ 2 ^ 7 := Nat.pow_le_pow_right (by omega) (by omega)
  have e : (2 : Int) ^ k = ((2 ^ k : Nat) : Int) := by push_cast; rfl
  rw [e]
  obtain ⟨p, hp⟩ : ∃ p, 2 ^ k = p := ⟨_, rfl⟩
  rw [hp] at this ⊢
  exact IntWalk.i64_in _ (by omega)
theorem two_worlds {k j : Nat} (hk : k < 8) (hj : j < 8) : ∃ m : Int, bits .or .i64 (IntKind.i64.wrap ((2 : Int) ^ k)) (IntKind.i64.wrap ((2 : Int) ^ j)) = m ∧ 0 ≤ m ∧ m < 256 ∧ ∀ s, withinB m s = (hasW s k && hasW s j) := by
  have hp : 2 ^ k ≤ 2 ^ 7 := Nat.pow_le_pow_right (by omega) (by omega)
  have hq : 2 ^ j ≤ 2 ^ 7 := Nat.pow_le_pow_right (by omega) (by omega)
  have e1 := wrap_pow6 hk
  have e2 := wrap_pow6 hj
  rw [e1, e2]
  refine ⟨_, bits_or _ _ ?_ ?_ ?_ ?_, orI_nonneg _ _, orI_lt _ _ ?_ ?_, fun s => two_within (v := k) (u := j)⟩
  all_goals
    clear e1 e2
    generalize 2 ^ k = a at *
    generalize 2 ^ j = b at *
    omega
theorem iWithin_is5 {a b : Int} {v : Bool} (h : Hid (withinB a b = v)) (ha : 0 ≤ a) (ha2 : a < 1024) (hb : 0 ≤ b) (hb2 : b < 1024) (w : World) :
    Calls Try.prog 60 #[.int .i64 a, .int .i64 b] w fun e w' => e = .returned (.bool v) ∧ w = w' :=
  (iWithin a b ha ha2 hb hb2 w).mono fun _ _ ⟨he, hw⟩ => ⟨he.trans (ret_bool h.out), hw⟩
theorem worlds_n5 {t : Int} (h1 : 1 ≤ t) (h3 : t ≤ 3) : worldsOf t = (nWorlds t : Int) ∧ nWorlds t ≤ 8 := by
  have h : t = 1 ∨ t = 2 ∨ t = 3 := by omega
  rcases h with rfl | rfl | rfl <;> exact ⟨rfl, by decide⟩
/-- The cells of a dependence that lies in a variable. -/
theorem two_cells5 (w : World) (u v : Value) (t : TypeId) : (w.alloc (.cells #[u, v] t)).cell? ⟨w.heap.size, 0, none⟩ = some u ∧ (w.alloc (.cells #[u, v] t)).cell? ⟨w.heap.size, 1, none⟩ = some v :=
  ⟨cell_two_new w u v t 0 u rfl, cell_two_new w u v t 1 v rfl⟩
def BoxAt (W : World) (D : Nat) (f g : Int) : Prop := W.cell? ⟨D, 0, none⟩ = some (.int .i64 f) ∧ W.cell? ⟨D, 1, none⟩ = some (.int .i64 g) ∧ D < W.heap.size
theorem BoxAt.new (W : World) (f g : Int) (T : TypeId) : BoxAt (W.alloc (.cells #[.int .i64 f, .int .i64 g] T)) W.heap.size f g :=
  ⟨(two_cells5 W _ _ T).1, (two_cells5 W _ _ T).2, by rw [World.size_alloc]; exact Nat.lt_succ_self _⟩
theorem BoxAt.drew {W : World} {D : Nat} {f g : Int} (h : BoxAt W D f g) : BoxAt W.drew D f g := h
theorem BoxAt.below {W W' : World} {D : Nat} {f g : Int} (h : BoxAt W D f g) (hb : Below W.heap.size W W') : BoxAt W' D f g :=
  ⟨(hb.cell (p := ⟨D, 0, none⟩) h.2.2).trans h.1, (hb.cell (p := ⟨D, 1, none⟩) h.2.2).trans h.2.1, Nat.lt_of_lt_of_le h.2.2 hb.size⟩

set_option maxRecDepth 100000 in
set_option maxHeartbeats 8000000 in
theorem iHolds (t s f g : Int) (w : World) (h1 : 1 ≤ t) (h3 : t ≤ 3) (hs : 0 ≤ s) (hs2 : s < 256) (hf : 0 ≤ f) (hf2 : f < 256) (hg : 0 ≤ g) (hg2 : g < 256) :
    Calls Try.prog 62 #[.int .i64 t, .int .i64 s, .agg #[.int .i64 f, .int .i64 g]] w (BPost (pairsB t s f g) w) := by
  obtain ⟨hw, hw8⟩ := worlds_n5 h1 h3
  have HEND : Hid (HoldsTo s f g (nWorlds t) 0 → pairsB t s f g = true) := pairs_end
  have HMISS : Hid (∀ v u, v < nWorlds t → u < v → (hasW s v && hasW s u && breaksB v u f g) = true → pairsB t s f g = false) := fun v u a b c => pairs_miss a b c
  obtain ⟨n, HNW⟩ : ∃ n, Hid (nWorlds t = n) := ⟨_, rfl⟩
  rw [HNW.out] at hw hw8 HEND HMISS
  have HW := Lib.hid hw
  obtain ⟨res, HRES⟩ : ∃ b, Hid (pairsB t s f g = b) := ⟨_, rfl⟩
  rw [HRES.out] at HEND HMISS ⊢
  clear hw h1 h3
  have HX1 : Hid (BoxAt (w.alloc (.cells #[.int .i64 f, .int .i64 g] 24)) w.heap.size f g) := BoxAt.new w f g _
  have HB1 : Hid (Below w.heap.size w (w.alloc (.cells #[.int .i64 f, .int .i64 g] 24))) := (Below.refl _ _).alloc (Nat.le_refl _) _
  go_enter Try.func62, Try.ntmps62
  go_wp2_with fail
  refine (iWorldsOf _ _).mono ?_
  rintro e w' ⟨rfl, rfl⟩
  rw [HW.out]
  obtain ⟨W1, hW1⟩ : ∃ W, w.alloc (.cells #[.int .i64 f, .int .i64 g] 24) = W := ⟨_, rfl⟩
  rw [hW1] at HX1 HB1 ⊢
  go_wp2_with fail
  go_loopw [11] (fun i wr => ∃ k : Nat, k ≤ n ∧ i = .int .i64 k ∧ Hid (HoldsTo s f g k 0) ∧ Below W1.heap.size W1 wr) (fun i _ => n - (Go.RowKit.intOf i).toNat)
  case atStart => exact ⟨0, Nat.zero_le _, rfl, HoldsTo.start s f g, Below.refl _ _⟩
  case round =>
    obtain ⟨k, hk, rfl, hso, hbel⟩ := hrel
    have HBW := Lib.hid hbel
    clear hbel
    by_cases hlt : k < n
    · go_wp2_with fail
      go_loopw [15] (fun i wi => ∃ j : Nat, j ≤ k ∧ i = .int .i64 j ∧ Hid (HoldsTo s f g k j) ∧ Below W1.heap.size W1 wi) (fun i _ => k - (Go.RowKit.intOf i).toNat)
      case atStart => exact ⟨0, Nat.zero_le _, rfl, hso, HBW.out⟩
      case round =>
        obtain ⟨j, hj, rfl, hsoi, hbel⟩ := hrel
        have HBI := Lib.hid hbel
        clear hbel
        by_cases hjt : j < k
        · obtain ⟨m, hbo, hor0, hor1, htws⟩ := two_worlds (k := k) (j := j) (by omega) (by omega)
          have htw := htws s
          have HBO := Lib.hid hbo
          clear htws hbo
          have HBOX := Lib.hid (HX1.out.below HBI.out)
          obtain ⟨hc0, hc1, _⟩ := HBOX.out
          rcases hwi : (hasW s k && hasW s j) with _ | _
          · have HWI : Hid (withinB m s = false) := htw.trans hwi
            have HN : Hid (HoldsTo s f g k (j + 1)) := hsoi.out.more (by rw [hwi]; rfl)
            clear htw hwi
            go_wp2_with fail
            go_quiet ((go_at_call 60; rw [HBO.out]; exact quiet_eq5 (iWithin_is5 HWI hor0 (by omega) hs (by omega) _)))
            go_wp2_with fail
            go_roundw
            case rel => exact ⟨j + 1, by omega, by go_num, HN, bel_drewN HBI.out _⟩
            case measure => simp [Go.RowKit.intOf]; omega
          · have HWI : Hid (withinB m s = true) := htw.trans hwi
            obtain ⟨bv, HBV⟩ : ∃ b, Hid (breaksB k j f g = b) := ⟨_, rfl⟩
            have HBR : Hid (∀ W, Calls Try.prog 71 #[.int .i64 k, .int .i64 j, .agg #[.int .i64 f, .int .i64 g]] W (BPost bv W)) := fun W => by
              have := iBreaks k j f g W (by omega) (by omega) hf hf2 hg hg2
              rw [HBV.out] at this; exact this
            clear htw
            cases bv
            · have HN : Hid (HoldsTo s f g k (j + 1)) := hsoi.out.more (by rw [HBV.out, Bool.and_false])
              clear hwi
              go_wp2_with fail
              go_region_held3 (fun w' => w'.cell? ⟨w.heap.size, 0, none⟩ = some (.int .i64 f) ∧ w'.cell? ⟨w.heap.size, 1, none⟩ = some (.int .i64 g)) (first | go_keep | exact ⟨(BoxAt.below (BoxAt.drew HBOX.out) hbx).1, (BoxAt.below (BoxAt.drew HBOX.out) hbx).2.1⟩)
                (first
                | (go_at_call 60; rw [HBO.out]; refine (iWithin_is5 HWI hor0 (by omega) hs (by omega) _).mono ?_; rintro e w' ⟨rfl, rfl⟩)
                  | (go_at_call 71; refine (HBR.out _).mono ?_; rintro e w2 ⟨rfl, hbx⟩))
              all_goals
                have hb2 := bel_trans (bel_drewN HBI.out _) hbx
                go_wp2_with fail
                go_roundw
                case rel => exact ⟨j + 1, by omega, by go_num, HN, hb2⟩
                case measure => simp [Go.RowKit.intOf]; omega
            · have HR : Hid (res = false) := HMISS.out k j hlt hjt (by rw [hwi, HBV.out]; rfl)
              clear hwi
              go_wp2_with fail
              go_region_held3 (fun w' => w'.cell? ⟨w.heap.size, 0, none⟩ = some (.int .i64 f) ∧ w'.cell? ⟨w.heap.size, 1, none⟩ = some (.int .i64 g)) (first | go_keep | exact ⟨(BoxAt.below (BoxAt.drew HBOX.out) hbx).1, (BoxAt.below (BoxAt.drew HBOX.out) hbx).2.1⟩)
                (first
                | (go_at_call 60; rw [HBO.out]; refine (iWithin_is5 HWI hor0 (by omega) hs (by omega) _).mono ?_; rintro e w' ⟨rfl, rfl⟩)
                  | (go_at_call 71; refine (HBR.out _).mono ?_; rintro e w2 ⟨rfl, hbx⟩))
              all_goals
                have hb2 := bel_trans (bel_drewN HBI.out _) hbx
                go_wp2_with fail
                go_ret
                exact ⟨ret_bool HR.out.symm, bel_trans HB1.out hb2⟩
        · obtain rfl : j = k := by omega
          have HN : Hid (HoldsTo s f g (j + 1) 0) := hsoi.out.next
          go_wp2_with fail
          go_roundw
          case rel => exact ⟨j + 1, by omega, by go_num, HN, HBI.out⟩
          case measure => simp [Go.RowKit.intOf]; omega
    · obtain rfl : k = n := by omega
      have HR : Hid (res = true) := HEND.out hso.out
      go_wp2_with fail
      go_ret
      exact ⟨ret_bool HR.out.symm, bel_trans HB1.out HBW.out⟩
end Go.Proofs.Ytannpnhboeopdaa

namespace Go.Proofs.Ytannpnhboeopdaa
open Go.RowKit

set_option maxRecDepth 100000 in
set_option maxHeartbeats 4000000 in
theorem iHoldsIn (t s f g : Int) (w : World) : Calls Try.prog 28 #[.int .i64 t, .int .i64 s, .agg #[.int .i64 f, .int .i64 g]] w (BPost (holdsInB t s f g) w) := by
  have HX1 : Hid (BoxAt (w.alloc (.cells #[.int .i64 f, .int .i64 g] 24)) w.heap.size f g) := BoxAt.new w f g _
  have HB1 : Hid (Below w.heap.size w (w.alloc (.cells #[.int .i64 f, .int .i64 g] 24))) := (Below.refl _ _).alloc (Nat.le_refl _) _
  rcases hx : bondOkB t f g with _ | _
  · have HX := Lib.hid hx
    rw [show holdsInB t s f g = false by rw [holdsIn_eq, hx, Bool.and_false]; rfl]
    clear hx
    go_enter Try.func28, Try.ntmps28
    go_wp2_with fail
    refine (iBondOk_is HX _).mono ?_
    rintro e w1 ⟨rfl, hb⟩
    have HB2 := Lib.hid (bel_trans HB1.out hb)
    clear hb
    go_wp2_with fail
    go_ret
    exact ⟨rfl, HB2.out⟩
  · have HX := Lib.hid hx
    have hfo := hx
    unfold bondOkB at hfo
    rw [Bool.and_eq_true] at hfo
    obtain ⟨h1, h3, hf0, _, hf7⟩ := thingsOk_of hfo.1
    obtain ⟨_, _, hg0, _, hg7⟩ := thingsOk_of hfo.2
    rcases hy : setOkB t s with _ | _
    · have HY := Lib.hid hy
      rw [show holdsInB t s f g = false by rw [holdsIn_eq, hy]; rfl]
      clear hx hy hfo
      go_enter Try.func28, Try.ntmps28
      go_wp2_with fail
      refine (iBondOk_is HX _).mono ?_
      rintro e w1 ⟨rfl, hb⟩
      have HB2 := Lib.hid (bel_trans HB1.out hb)
      clear hb
      go_wp2_with fail
      refine (iSetOk _ _ _).mono ?_
      rintro e w' ⟨rfl, rfl⟩
      rw [HY.out]
      go_wp2_with fail
      go_ret
      exact ⟨rfl, HB2.out⟩
    · have HY := Lib.hid hy
      rw [show holdsInB t s f g = pairsB t s f g by rw [holdsIn_eq, hx, hy]; rfl]
      obtain ⟨_, _, hs0, _, hs256⟩ := setOkB_lt hy
      obtain ⟨res, HRES⟩ : ∃ b, Hid (pairsB t s f g = b) := ⟨_, rfl⟩
      have HH : Hid (∀ W, Calls Try.prog 62 #[.int .i64 t, .int .i64 s, .agg #[.int .i64 f, .int .i64 g]] W (BPost res W)) := fun W => by
        have := iHolds t s f g W h1 h3 hs0 hs256 hf0 (by omega) hg0 (by omega)
        rw [HRES.out] at this; exact this
      rw [HRES.out]
      clear hx hy hfo
      go_enter Try.func28, Try.ntmps28
      go_wp2_with fail
      refine (iBondOk_is HX _).mono ?_
      rintro e w1 ⟨rfl, hb⟩
      have HB2 := Lib.hid (bel_trans HB1.out hb)
      obtain ⟨hc0, hc1, _⟩ := HX1.out.below hb
      clear hb
      go_wp2_with fail
      refine (iSetOk _ _ _).mono ?_
      rintro e w' ⟨rfl, rfl⟩
      rw [HY.out]
      go_wp2_with fail
      refine (HH.out _).mono ?_
      rintro e w2 ⟨rfl, hb⟩
      have HB3 := Lib.hid (bel_trans HB2.out hb)
      clear hb
      go_wp2_with fail
      go_ret
      exact ⟨rfl, HB3.out⟩
theorem iHoldsIn_is {t s f g : Int} {b : Bool} (h : Hid (holdsInB t s f g = b)) (w : World) : Calls Try.prog 28 #[.int .i64 t, .int .i64 s, .agg #[.int .i64 f, .int .i64 g]] w (BPost b w) := by
  have := iHoldsIn t s f g w
  rw [h.out] at this; exact this

theorem has_one {m k : Nat} {b : Bool} (h : hasW (m : Int) k = b) : (((m : Int) / 2 ^ k).tmod 2 == 1) = b := by
  have e : (2 : Int) ^ k = ((2 ^ k : Nat) : Int) := by push_cast; rfl
  have e2 : hasW (m : Int) k = decide (m / 2 ^ k % 2 = 1) := by unfold hasW; rw [Int.toNat_natCast, Nat.testBit_eq_decide_div_mod_eq]
  rw [← h, e2, e, show ((m : Int) / ((2 ^ k : Nat) : Int)).tmod 2 = ((m / 2 ^ k % 2 : Nat) : Int) by rw [← Int.natCast_ediv]; rfl]
  rcases Nat.mod_two_eq_zero_or_one (m / 2 ^ k) with h | h <;> rw [h] <;> rfl
theorem and_same {v u : Nat} {f : Int} : (andI (v : Int) f == andI (u : Int) f) = agreeB f v u := by
  unfold agreeB andI
  rw [Bool.eq_iff_iff, beq_iff_eq, decide_eq_true_eq, Int.toNat_natCast, Int.toNat_natCast]
  omega
theorem sBoth5 {a b g : Int} (h : Hid (andI a b = g)) (ha : 0 ≤ a) (ha2 : a < 256) (hb : 0 ≤ b) (hb2 : b < 256) (w : World) :
    Calls Try.prog 67 #[.int .i64 a, .int .i64 b] w fun e w' => e = .returned (.int .i64 g) ∧ ∃ n, w' = w.drewN n := by
  have := sBothS a b ha ha2 hb hb2 w
  rw [h.out] at this; exact this

set_option maxRecDepth 100000 in
set_option maxHeartbeats 8000000 in
theorem sHoldsIn (t s f g : Int) (w : World) : Calls Try.prog 41 #[.int .i64 t, .int .i64 s, .agg #[.int .i64 f, .int .i64 g]] w (BPost (holdsInB t s f g) w) := by
  have hnot : ∀ (x : Bool) (w : World), (Op.unary .not (.bool x)).run Try.prog w = .ok (.bool (!x)) w := fun _ _ => rfl
  have HX1 : Hid (BoxAt (w.alloc (.cells #[.int .i64 f, .int .i64 g] 24)) w.heap.size f g) := BoxAt.new w f g _
  have HB1 : Hid (Below w.heap.size w (w.alloc (.cells #[.int .i64 f, .int .i64 g] 24))) := (Below.refl _ _).alloc (Nat.le_refl _) _
  rcases hy : setOkB t s with _ | _
  · have HY := Lib.hid hy
    rw [show holdsInB t s f g = false by rw [holdsIn_eq, hy]; rfl]
    clear hy
    go_enter Try.func41, Try.ntmps41
    go_wp2_with fail
    refine (sSetOk_is HY _).mono ?_
    rintro e w' ⟨rfl, rfl⟩
    go_wp2_with fail
    go_ret
    exact ⟨rfl, HB1.out⟩
  · have HY := Lib.hid hy
    obtain ⟨h1, h3, hs0, _, hs256⟩ := setOkB_lt hy
    rcases hx : bondOkB t f g with _ | _
    · have HX := Lib.hid hx
      rw [show holdsInB t s f g = false by rw [holdsIn_eq, hx, Bool.and_false]; rfl]
      clear hy hx
      go_enter Try.func41, Try.ntmps41
      go_wp2_with fail
      refine (sSetOk_is HY _).mono ?_
      rintro e w' ⟨rfl, rfl⟩
      go_wp2_with fail
      refine (sBondOk_is HX _).mono ?_
      rintro e w1 ⟨rfl, hb⟩
      have HB2 := Lib.hid (bel_trans HB1.out hb)
      clear hb
      go_wp2_with fail
      go_ret
      exact ⟨rfl, HB2.out⟩
    · have HX := Lib.hid hx
      have hfo := hx
      unfold bondOkB at hfo
      rw [Bool.and_eq_true] at hfo
      obtain ⟨_, _, hf0, _, hf7⟩ := thingsOk_of hfo.1
      obtain ⟨_, _, hg0, _, hg7⟩ := thingsOk_of hfo.2
      rw [show holdsInB t s f g = pairsB t s f g by rw [holdsIn_eq, hx, hy]; rfl]
      obtain ⟨ms, rfl⟩ : ∃ m : Nat, s = m := ⟨s.toNat, by omega⟩
      have HEND : Hid (HoldsTo ms f g (nWorlds t) 0 → pairsB t ms f g = true) := pairs_end
      have HMISS : Hid (∀ v u, v < nWorlds t → u < v → (hasW (ms : Int) v && hasW (ms : Int) u && breaksB v u f g) = true → pairsB t ms f g = false) := fun v u a b c => pairs_miss a b c
      obtain ⟨res, HRES⟩ : ∃ b, Hid (pairsB t ms f g = b) := ⟨_, rfl⟩
      rw [HRES.out] at HEND HMISS ⊢
      have ht : t = 1 ∨ t = 2 ∨ t = 3 := by omega
      clear hy hx hfo h1 h3
      rcases ht with rfl | rfl | rfl
      · have HNW : Hid (nWorlds 1 = 2) := rfl
        rw [HNW.out] at HEND HMISS
        go_enter Try.func41, Try.ntmps41
        go_wp2_with fail
        refine (sSetOk_is HY _).mono ?_
        rintro e w' ⟨rfl, rfl⟩
        go_wp2_with fail
        refine (sBondOk_is HX _).mono ?_
        rintro e w1 ⟨rfl, hb⟩
        have HB2 := Lib.hid (bel_trans HB1.out hb)
        obtain ⟨hc0, hc1, _⟩ := HX1.out.below hb
        clear hb
        go_wp2_with fail
        go_loopw [7] (fun i wr => ∃ k : Nat, k ≤ 2 ∧ i = .int .i64 k ∧ Hid (HoldsTo ms f g k 0) ∧ ∃ q, wr = w1.drewN q) (fun i _ => 2 - (Go.RowKit.intOf i).toNat)
        case atStart => exact ⟨0, Nat.zero_le _, rfl, HoldsTo.start _ f g, 0, rfl⟩
        case round =>
          obtain ⟨k, hk, rfl, hso, q, rfl⟩ := hrel
          by_cases hlt : k < 2
          · go_wp2_with fail
            go_loopw [8] (fun i wi => ∃ j : Nat, j ≤ k ∧ i = .int .i64 j ∧ Hid (HoldsTo ms f g k j) ∧ ∃ q, wi = w1.drewN q) (fun i _ => k - (Go.RowKit.intOf i).toNat)
            case atStart => exact ⟨0, Nat.zero_le _, rfl, hso, q, rfl⟩
            case round =>
              obtain ⟨j, hj, rfl, hsoi, q2, rfl⟩ := hrel
              by_cases hjt : j < k
              · obtain ⟨x1, H1⟩ : ∃ b, Hid (hasW (ms : Int) k = b) := ⟨_, rfl⟩
                obtain ⟨x2, H2⟩ : ∃ b, Hid (hasW (ms : Int) j = b) := ⟨_, rfl⟩
                obtain ⟨x3, H3⟩ : ∃ b, Hid (agreeB f k j = b) := ⟨_, rfl⟩
                obtain ⟨x4, H4⟩ : ∃ b, Hid (agreeB g k j = b) := ⟨_, rfl⟩
                have hw1 := has_one H1.out
                have hw2 := has_one H2.out
                have HBR : Hid ((hasW (ms : Int) k && hasW (ms : Int) j && breaksB k j f g) = (x1 && x2 && (x3 && !x4))) := by unfold Hid breaksB; rw [H1.out, H2.out, H3.out, H4.out]
                have hq3 : (andI (k : Int) f == andI (j : Int) f) = x3 := and_same.trans H3.out
                have hq4 : (andI (k : Int) g != andI (j : Int) g) = !x4 := by rw [bne, and_same.trans H4.out]
                obtain ⟨af, HAF⟩ : ∃ n, Hid (andI (k : Int) f = n) := ⟨_, rfl⟩
                obtain ⟨bf, HBF⟩ : ∃ n, Hid (andI (j : Int) f = n) := ⟨_, rfl⟩
                obtain ⟨ag, HAG⟩ : ∃ n, Hid (andI (k : Int) g = n) := ⟨_, rfl⟩
                obtain ⟨bg, HBG⟩ : ∃ n, Hid (andI (j : Int) g = n) := ⟨_, rfl⟩
                rw [HAF.out, HBF.out] at hq3
                rw [HAG.out, HBG.out] at hq4
                by_cases hall : (x1 && x2 && (x3 && !x4)) = true
                · have HR : Hid (res = false) := HMISS.out k j hlt hjt (by rw [HBR.out]; exact hall)
                  have e1 : x1 = true := by revert hall; cases x1 <;> simp
                  have e2 : x2 = true := by revert hall; cases x1 <;> cases x2 <;> simp
                  have e3 : x3 = true := by revert hall; cases x1 <;> cases x2 <;> cases x3 <;> simp
                  have e4 : x4 = false := by revert hall; cases x1 <;> cases x2 <;> cases x3 <;> cases x4 <;> simp
                  subst e1 e2 e3 e4
                  clear hall
                  go_wp2_with fail
                  go_quiet (first
                    | (go_at_call 67; with_reducible exact quiet_more (sBoth5 HAF (by omega) (by omega) hf0 (by omega) _))
                    | (go_at_call 67; with_reducible exact quiet_more (sBoth5 HBF (by omega) (by omega) hf0 (by omega) _))
                    | (go_at_call 67; with_reducible exact quiet_more (sBoth5 HAG (by omega) (by omega) hg0 (by omega) _))
                    | (go_at_call 67; with_reducible exact quiet_more (sBoth5 HBG (by omega) (by omega) hg0 (by omega) _)))
                  go_wp2_with fail
                  go_ret
                  exact ⟨ret_bool HR.out.symm, by first | exact bel_drewN HB2.out _ | exact bel_drewN (bel_drewN HB2.out _) _⟩
                · have HN : Hid (HoldsTo ms f g k (j + 1)) := hsoi.out.more (by rw [HBR.out]; simpa using hall)
                  have hways : x1 = false ∨ (x1 = true ∧ x2 = false) ∨ (x1 = true ∧ x2 = true ∧ x3 = false) ∨ (x1 = true ∧ x2 = true ∧ x3 = true ∧ x4 = true) := by
                    revert hall; cases x1 <;> cases x2 <;> cases x3 <;> cases x4 <;> simp
                  clear hall
                  rcases hways with rfl | ⟨rfl, rfl⟩ | ⟨rfl, rfl, rfl⟩ | ⟨rfl, rfl, rfl, rfl⟩
                  all_goals
                    go_wp2_with fail
                    go_quiet (first
                      | (go_at_call 67; with_reducible exact quiet_more (sBoth5 HAF (by omega) (by omega) hf0 (by omega) _))
                      | (go_at_call 67; with_reducible exact quiet_more (sBoth5 HBF (by omega) (by omega) hf0 (by omega) _))
                      | (go_at_call 67; with_reducible exact quiet_more (sBoth5 HAG (by omega) (by omega) hg0 (by omega) _))
                      | (go_at_call 67; with_reducible exact quiet_more (sBoth5 HBG (by omega) (by omega) hg0 (by omega) _)))
                    go_wp2_with fail
                    go_roundw
                    case rel => exact ⟨j + 1, by omega, by go_num, HN, _, rfl⟩
                    case measure => simp [Go.RowKit.intOf]; omega
              · obtain rfl : j = k := by omega
                have HN : Hid (HoldsTo ms f g (j + 1) 0) := hsoi.out.next
                go_wp2_with fail
                go_roundw
                case rel => exact ⟨j + 1, by omega, by go_num, HN, _, rfl⟩
                case measure => simp [Go.RowKit.intOf]; omega
          · obtain rfl : k = 2 := by omega
            have HR : Hid (res = true) := HEND.out hso.out
            go_wp2_with fail
            go_ret
            exact ⟨ret_bool HR.out.symm, bel_drewN HB2.out _⟩
      · have HNW : Hid (nWorlds 2 = 4) := rfl
        rw [HNW.out] at HEND HMISS
        go_enter Try.func41, Try.ntmps41
        go_wp2_with fail
        refine (sSetOk_is HY _).mono ?_
        rintro e w' ⟨rfl, rfl⟩
        go_wp2_with fail
        refine (sBondOk_is HX _).mono ?_
        rintro e w1 ⟨rfl, hb⟩
        have HB2 := Lib.hid (bel_trans HB1.out hb)
        obtain ⟨hc0, hc1, _⟩ := HX1.out.below hb
        clear hb
        go_wp2_with fail
        go_loopw [7] (fun i wr => ∃ k : Nat, k ≤ 4 ∧ i = .int .i64 k ∧ Hid (HoldsTo ms f g k 0) ∧ ∃ q, wr = w1.drewN q) (fun i _ => 4 - (Go.RowKit.intOf i).toNat)
        case atStart => exact ⟨0, Nat.zero_le _, rfl, HoldsTo.start _ f g, 0, rfl⟩
        case round =>
          obtain ⟨k, hk, rfl, hso, q, rfl⟩ := hrel
          by_cases hlt : k < 4
          · go_wp2_with fail
            go_loopw [8] (fun i wi => ∃ j : Nat, j ≤ k ∧ i = .int .i64 j ∧ Hid (HoldsTo ms f g k j) ∧ ∃ q, wi = w1.drewN q) (fun i _ => k - (Go.RowKit.intOf i).toNat)
            case atStart => exact ⟨0, Nat.zero_le _, rfl, hso, q, rfl⟩
            case round =>
              obtain ⟨j, hj, rfl, hsoi, q2, rfl⟩ := hrel
              by_cases hjt : j < k
              · obtain ⟨x1, H1⟩ : ∃ b, Hid (hasW (ms : Int) k = b) := ⟨_, rfl⟩
                obtain ⟨x2, H2⟩ : ∃ b, Hid (hasW (ms : Int) j = b) := ⟨_, rfl⟩
                obtain ⟨x3, H3⟩ : ∃ b, Hid (agreeB f k j = b) := ⟨_, rfl⟩
                obtain ⟨x4, H4⟩ : ∃ b, Hid (agreeB g k j = b) := ⟨_, rfl⟩
                have hw1 := has_one H1.out
                have hw2 := has_one H2.out
                have HBR : Hid ((hasW (ms : Int) k && hasW (ms : Int) j && breaksB k j f g) = (x1 && x2 && (x3 && !x4))) := by unfold Hid breaksB; rw [H1.out, H2.out, H3.out, H4.out]
                have hq3 : (andI (k : Int) f == andI (j : Int) f) = x3 := and_same.trans H3.out
                have hq4 : (andI (k : Int) g != andI (j : Int) g) = !x4 := by rw [bne, and_same.trans H4.out]
                obtain ⟨af, HAF⟩ : ∃ n, Hid (andI (k : Int) f = n) := ⟨_, rfl⟩
                obtain ⟨bf, HBF⟩ : ∃ n, Hid (andI (j : Int) f = n) := ⟨_, rfl⟩
                obtain ⟨ag, HAG⟩ : ∃ n, Hid (andI (k : Int) g = n) := ⟨_, rfl⟩
                obtain ⟨bg, HBG⟩ : ∃ n, Hid (andI (j : Int) g = n) := ⟨_, rfl⟩
                rw [HAF.out, HBF.out] at hq3
                rw [HAG.out, HBG.out] at hq4
                by_cases hall : (x1 && x2 && (x3 && !x4)) = true
                · have HR : Hid (res = false) := HMISS.out k j hlt hjt (by rw [HBR.out]; exact hall)
                  have e1 : x1 = true := by revert hall; cases x1 <;> simp
                  have e2 : x2 = true := by revert hall; cases x1 <;> cases x2 <;> simp
                  have e3 : x3 = true := by revert hall; cases x1 <;> cases x2 <;> cases x3 <;> simp
                  have e4 : x4 = false := by revert hall; cases x1 <;> cases x2 <;> cases x3 <;> cases x4 <;> simp
                  subst e1 e2 e3 e4
                  clear hall
                  go_wp2_with fail
                  go_quiet (first
                    | (go_at_call 67; with_reducible exact quiet_more (sBoth5 HAF (by omega) (by omega) hf0 (by omega) _))
                    | (go_at_call 67; with_reducible exact quiet_more (sBoth5 HBF (by omega) (by omega) hf0 (by omega) _))
                    | (go_at_call 67; with_reducible exact quiet_more (sBoth5 HAG (by omega) (by omega) hg0 (by omega) _))
                    | (go_at_call 67; with_reducible exact quiet_more (sBoth5 HBG (by omega) (by omega) hg0 (by omega) _)))
                  go_wp2_with fail
                  go_ret
                  exact ⟨ret_bool HR.out.symm, by first | exact bel_drewN HB2.out _ | exact bel_drewN (bel_drewN HB2.out _) _⟩
                · have HN : Hid (HoldsTo ms f g k (j + 1)) := hsoi.out.more (by rw [HBR.out]; simpa using hall)
                  have hways : x1 = false ∨ (x1 = true ∧ x2 = false) ∨ (x1 = true ∧ x2 = true ∧ x3 = false) ∨ (x1 = true ∧ x2 = true ∧ x3 = true ∧ x4 = true) := by
                    revert hall; cases x1 <;> cases x2 <;> cases x3 <;> cases x4 <;> simp
                  clear hall
                  rcases hways with rfl | ⟨rfl, rfl⟩ | ⟨rfl, rfl, rfl⟩ | ⟨rfl, rfl, rfl, rfl⟩
                  all_goals
                    go_wp2_with fail
                    go_quiet (first
                      | (go_at_call 67; with_reducible exact quiet_more (sBoth5 HAF (by omega) (by omega) hf0 (by omega) _))
                      | (go_at_call 67; with_reducible exact quiet_more (sBoth5 HBF (by omega) (by omega) hf0 (by omega) _))
                      | (go_at_call 67; with_reducible exact quiet_more (sBoth5 HAG (by omega) (by omega) hg0 (by omega) _))
                      | (go_at_call 67; with_reducible exact quiet_more (sBoth5 HBG (by omega) (by omega) hg0 (by omega) _)))
                    go_wp2_with fail
                    go_roundw
                    case rel => exact ⟨j + 1, by omega, by go_num, HN, _, rfl⟩
                    case measure => simp [Go.RowKit.intOf]; omega
              · obtain rfl : j = k := by omega
                have HN : Hid (HoldsTo ms f g (j + 1) 0) := hsoi.out.next
                go_wp2_with fail
                go_roundw
                case rel => exact ⟨j + 1, by omega, by go_num, HN, _, rfl⟩
                case measure => simp [Go.RowKit.intOf]; omega
          · obtain rfl : k = 4 := by omega
            have HR : Hid (res = true) := HEND.out hso.out
            go_wp2_with fail
            go_ret
            exact ⟨ret_bool HR.out.symm, bel_drewN HB2.out _⟩
      · have HNW : Hid (nWorlds 3 = 8) := rfl
        rw [HNW.out] at HEND HMISS
        go_enter Try.func41, Try.ntmps41
        go_wp2_with fail
        refine (sSetOk_is HY _).mono ?_
        rintro e w' ⟨rfl, rfl⟩
        go_wp2_with fail
        refine (sBondOk_is HX _).mono ?_
        rintro e w1 ⟨rfl, hb⟩
        have HB2 := Lib.hid (bel_trans HB1.out hb)
        obtain ⟨hc0, hc1, _⟩ := HX1.out.below hb
        clear hb
        go_wp2_with fail
        go_loopw [7] (fun i wr => ∃ k : Nat, k ≤ 8 ∧ i = .int .i64 k ∧ Hid (HoldsTo ms f g k 0) ∧ ∃ q, wr = w1.drewN q) (fun i _ => 8 - (Go.RowKit.intOf i).toNat)
        case atStart => exact ⟨0, Nat.zero_le _, rfl, HoldsTo.start _ f g, 0, rfl⟩
        case round =>
          obtain ⟨k, hk, rfl, hso, q, rfl⟩ := hrel
          by_cases hlt : k < 8
          · go_wp2_with fail
            go_loopw [8] (fun i wi => ∃ j : Nat, j ≤ k ∧ i = .int .i64 j ∧ Hid (HoldsTo ms f g k j) ∧ ∃ q, wi = w1.drewN q) (fun i _ => k - (Go.RowKit.intOf i).toNat)
            case atStart => exact ⟨0, Nat.zero_le _, rfl, hso, q, rfl⟩
            case round =>
              obtain ⟨j, hj, rfl, hsoi, q2, rfl⟩ := hrel
              by_cases hjt : j < k
              · obtain ⟨x1, H1⟩ : ∃ b, Hid (hasW (ms : Int) k = b) := ⟨_, rfl⟩
                obtain ⟨x2, H2⟩ : ∃ b, Hid (hasW (ms : Int) j = b) := ⟨_, rfl⟩
                obtain ⟨x3, H3⟩ : ∃ b, Hid (agreeB f k j = b) := ⟨_, rfl⟩
                obtain ⟨x4, H4⟩ : ∃ b, Hid (agreeB g k j = b) := ⟨_, rfl⟩
                have hw1 := has_one H1.out
                have hw2 := has_one H2.out
                have HBR : Hid ((hasW (ms : Int) k && hasW (ms : Int) j && breaksB k j f g) = (x1 && x2 && (x3 && !x4))) := by unfold Hid breaksB; rw [H1.out, H2.out, H3.out, H4.out]
                have hq3 : (andI (k : Int) f == andI (j : Int) f) = x3 := and_same.trans H3.out
                have hq4 : (andI (k : Int) g != andI (j : Int) g) = !x4 := by rw [bne, and_same.trans H4.out]
                obtain ⟨af, HAF⟩ : ∃ n, Hid (andI (k : Int) f = n) := ⟨_, rfl⟩
                obtain ⟨bf, HBF⟩ : ∃ n, Hid (andI (j : Int) f = n) := ⟨_, rfl⟩
                obtain ⟨ag, HAG⟩ : ∃ n, Hid (andI (k : Int) g = n) := ⟨_, rfl⟩
                obtain ⟨bg, HBG⟩ : ∃ n, Hid (andI (j : Int) g = n) := ⟨_, rfl⟩
                rw [HAF.out, HBF.out] at hq3
                rw [HAG.out, HBG.out] at hq4
                by_cases hall : (x1 && x2 && (x3 && !x4)) = true
                · have HR : Hid (res = false) := HMISS.out k j hlt hjt (by rw [HBR.out]; exact hall)
                  have e1 : x1 = true := by revert hall; cases x1 <;> simp
                  have e2 : x2 = true := by revert hall; cases x1 <;> cases x2 <;> simp
                  have e3 : x3 = true := by revert hall; cases x1 <;> cases x2 <;> cases x3 <;> simp
                  have e4 : x4 = false := by revert hall; cases x1 <;> cases x2 <;> cases x3 <;> cases x4 <;> simp
                  subst e1 e2 e3 e4
                  clear hall
                  go_wp2_with fail
                  go_quiet (first
                    | (go_at_call 67; with_reducible exact quiet_more (sBoth5 HAF (by omega) (by omega) hf0 (by omega) _))
                    | (go_at_call 67; with_reducible exact quiet_more (sBoth5 HBF (by omega) (by omega) hf0 (by omega) _))
                    | (go_at_call 67; with_reducible exact quiet_more (sBoth5 HAG (by omega) (by omega) hg0 (by omega) _))
                    | (go_at_call 67; with_reducible exact quiet_more (sBoth5 HBG (by omega) (by omega) hg0 (by omega) _)))
                  go_wp2_with fail
                  go_ret
                  exact ⟨ret_bool HR.out.symm, by first | exact bel_drewN HB2.out _ | exact bel_drewN (bel_drewN HB2.out _) _⟩
                · have HN : Hid (HoldsTo ms f g k (j + 1)) := hsoi.out.more (by rw [HBR.out]; simpa using hall)
                  have hways : x1 = false ∨ (x1 = true ∧ x2 = false) ∨ (x1 = true ∧ x2 = true ∧ x3 = false) ∨ (x1 = true ∧ x2 = true ∧ x3 = true ∧ x4 = true) := by
                    revert hall; cases x1 <;> cases x2 <;> cases x3 <;> cases x4 <;> simp
                  clear hall
                  rcases hways with rfl | ⟨rfl, rfl⟩ | ⟨rfl, rfl, rfl⟩ | ⟨rfl, rfl, rfl, rfl⟩
                  all_goals
                    go_wp2_with fail
                    go_quiet (first
                      | (go_at_call 67; with_reducible exact quiet_more (sBoth5 HAF (by omega) (by omega) hf0 (by omega) _))
                      | (go_at_call 67; with_reducible exact quiet_more (sBoth5 HBF (by omega) (by omega) hf0 (by omega) _))
                      | (go_at_call 67; with_reducible exact quiet_more (sBoth5 HAG (by omega) (by omega) hg0 (by omega) _))
                      | (go_at_call 67; with_reducible exact quiet_more (sBoth5 HBG (by omega) (by omega) hg0 (by omega) _)))
                    go_wp2_with fail
                    go_roundw
                    case rel => exact ⟨j + 1, by omega, by go_num, HN, _, rfl⟩
                    case measure => simp [Go.RowKit.intOf]; omega
              · obtain rfl : j = k := by omega
                have HN : Hid (HoldsTo ms f g (j + 1) 0) := hsoi.out.next
                go_wp2_with fail
                go_roundw
                case rel => exact ⟨j + 1, by omega, by go_num, HN, _, rfl⟩
                case measure => simp [Go.RowKit.intOf]; omega
          · obtain rfl : k = 8 := by omega
            have HR : Hid (res = true) := HEND.out hso.out
            go_wp2_with fail
            go_ret
            exact ⟨ret_bool HR.out.symm, bel_drewN HB2.out _⟩
theorem sHoldsIn_is {t s f g : Int} {b : Bool} (h : Hid (holdsInB t s f g = b)) (w : World) : Calls Try.prog 41 #[.int .i64 t, .int .i64 s, .agg #[.int .i64 f, .int .i64 g]] w (BPost b w) := by
  have := sHoldsIn t s f g w
  rw [h.out] at this; exact this
end Go.Proofs.Ytannpnhboeopdaa
