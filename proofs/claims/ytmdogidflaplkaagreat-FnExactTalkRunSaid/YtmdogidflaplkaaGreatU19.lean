/-
  What the proofs of this seat's statements share (TlkT, AppO, TlkU).
-/
import Derived.Deep.RegionHeld3
import Derived.Lib.AppendZeros
import Derived.Deep.Upon
import Derived.Test.YtmdogidflaplkaaGreatU18
import Derived.Test.YtmdogidflaplkaaGreatU17

namespace Go.Proofs.YtmdogidflaplkaaGreat
open Go.RowKit

theorem take_good {t k : Int} {xs : List ByteArray} {j : Nat} {x : ByteArray} (h : goodTo t k (xs.take j) = true) (hx : Hid (xs[j]? = some x)) (h1 : asksT.isS t x = true) (h2 : asksT.sett t k x = false) (h3 : ∀ i, i < j → xs[i]? ≠ some x) : goodTo t k (xs.take (j + 1)) = true := by
  rw [take_snocS hx]
  refine good_snocS h h1 h2 fun hm => ?_
  obtain ⟨i, hi⟩ := List.mem_iff_getElem?.1 hm
  have hlt : i < j := by
    have := (List.getElem?_eq_some_iff.1 hi).1
    rw [List.length_take] at this; omega
  rw [List.getElem?_take_of_lt hlt] at hi
  exact h3 i hlt hi
set_option maxRecDepth 100000 in
set_option maxHeartbeats 8000000 in
theorem sState9 (t k : Int) (A : Option Addr) (n c : Nat) (xs : List ByteArray) (w : World) (hn : n = xs.length) (hl : n ≤ 1048576) (hA : Strs w A xs) (hs : ∀ s ∈ xs, s.size ≤ 1048576) :
    Calls Tryz.prog 45 #[.int .i64 t, .agg #[.int .i64 k, .slice A n c]] w fun e w' => e = .returned (.bool (stateOk asksT t ⟨k, xs⟩)) ∧ Below w.heap.size w w' := by
  subst hn
  have HX0 : Hid (Box (w.alloc (.cells #[.int .i64 k, .slice A xs.length c] 25)) w.heap.size 25 [.int .i64 k, .slice A xs.length c]) := Box.new w _ _
  have HB0 : Hid (Below w.heap.size w (w.alloc (.cells #[.int .i64 k, .slice A xs.length c] 25))) := (Below.refl _ _).alloc (Nat.le_refl _) _
  have HA := Lib.hid hA
  have HS := Lib.hid hs
  have HBS : Hid (∀ x ∈ xs, asksT.isS t x = false → stateOk asksT t ⟨k, xs⟩ = false) := fun x hx h => bad_state hx (.inl h)
  have HBT : Hid (∀ x ∈ xs, (setOkB t k = true → asksT.sett t k x = true) → stateOk asksT t ⟨k, xs⟩ = false) := fun x hx h => by
    by_cases hk : setOkB t k = true
    · exact bad_state hx (.inr (h hk))
    · exact settled_bad (by simpa using hk)
  have HBW : Hid (∀ (i j : Nat) (x : ByteArray), xs[i]? = some x → xs[j]? = some x → j < i → stateOk asksT t ⟨k, xs⟩ = false) := fun i j x h1 h2 h3 => bad_twice h1 h2 h3
  have HEND : Hid (goodTo t k xs = true → stateOk asksT t ⟨k, xs⟩ = (setOkB t k && decide (k ≠ 0) && decide (xs.length ≤ 4))) := state_end
  have HBK : Hid (setOkB t k = false → stateOk asksT t ⟨k, xs⟩ = false) := settled_bad
  obtain ⟨R, HR⟩ : ∃ R, Hid (stateOk asksT t ⟨k, xs⟩ = R) := ⟨_, rfl⟩
  rw [HR.out] at HBS HBT HBW HEND HBK ⊢
  clear hA hs
  go_enter Tryz.func45, Tryz.ntmps45
  go_wp2_with fail
  obtain ⟨W0, hW0⟩ : ∃ W, w.alloc (.cells #[.int .i64 k, .slice A xs.length c] 25) = W := ⟨_, rfl⟩
  rw [hW0] at HX0 HB0 ⊢
  clear hW0
  go_loopw [5] (fun i wr => ∃ j : Nat, j ≤ xs.length ∧ i = .int .i64 j ∧ Hid (setOkB t k = true → goodTo t k (xs.take j) = true) ∧ Hid (Box wr w.heap.size 25 [.int .i64 k, .slice A xs.length c]) ∧ Hid (Below w.heap.size w wr)) (fun i _ => xs.length - (Go.RowKit.intOf i).toNat)
  case atStart => exact ⟨0, Nat.zero_le _, rfl, (fun _ => rfl), HX0, HB0⟩
  case round =>
    obtain ⟨j, hj, rfl, HG, HX, HB⟩ := hrel
    have hc0 := HX.out.cell (i := 0) (v := .int .i64 k) rfl
    have hc1 := HX.out.cell (i := 1) (v := .slice A xs.length c) rfl
    by_cases hlt : j < xs.length
    · obtain ⟨b, off, x, rfl, hcx, hx, hbl⟩ := (HA.out.below HB.out).elem hlt
      have hxs : x.size ≤ 9223372036854775807 := Nat.le_trans (HS.out x (elem_memS hx)) (by omega)
      cases hS : asksT.isS t x with
      | false =>
        have HRF := Lib.hid (HBS.out x (elem_memS hx) hS)
        have HIS : Hid (isT t x = false) := hS
        clear hS
        go_wp2_with fail
        refine wp_region_held_drew (S := fun _ => True) (by kernel_rfl) trivial (fun _ => ?_)
        refine wpAnyH_take (i := 0) (v := .int .i64 t) rfl (by kernel_rfl) (by kernel_rfl) (by kernel_rfl) (fun _ _ _ h => h) (Or.inl ⟨by rfl, fun w _ => by rfl⟩) trivial ?_
        simp only [List.getElem_toArray, List.getElem_cons_zero, Act.put, List.setIfInBounds_toArray, List.set_cons_zero, List.set_cons_succ]
        refine wpAnyH_take (i := 1) (v := .pointer (some ⟨w.heap.size, 1, none⟩)) rfl (by kernel_rfl) (by kernel_rfl) (by kernel_rfl) (fun _ _ _ h => h) (Or.inl ⟨by rfl, fun w _ => by rfl⟩) trivial ?_
        simp only [List.getElem_toArray, List.getElem_cons_succ, List.getElem_cons_zero, Act.put, List.setIfInBounds_toArray, List.set_cons_zero, List.set_cons_succ]
        refine wpAnyH_take (i := 3) (v := .int .i64 j) rfl (by kernel_rfl) (by kernel_rfl) (by kernel_rfl) (fun _ _ _ h => h) (Or.inl ⟨by rfl, fun w _ => by rfl⟩) trivial ?_
        simp only [List.getElem_toArray, List.getElem_cons_succ, List.getElem_cons_zero, Act.put, List.setIfInBounds_toArray, List.set_cons_zero, List.set_cons_succ]
        refine wpAnyH_ready (rs := [2]) (by kernel_rfl) (by simp) ?_
        refine AllReadyH.cons rfl (fun K hK => ?_) AllReadyH.nil
        go_simp
        try go_simp
        refine hK.out _ _ trivial (fun _ => ?_)
        clear hK K
        try simp only [List.getElem_toArray, List.getElem_cons_succ, List.getElem_cons_zero, Act.put, List.setIfInBounds_toArray, List.set_cons_zero, List.set_cons_succ]
        refine wpAnyH_ready (rs := [4]) (by kernel_rfl) (by simp) ?_
        refine AllReadyH.cons rfl (fun K hK => ?_) AllReadyH.nil
        go_simp
        try go_simp
        refine hK.out _ _ trivial (fun _ => ?_)
        clear hK K
        try simp only [List.getElem_toArray, List.getElem_cons_succ, List.getElem_cons_zero, Act.put, List.setIfInBounds_toArray, List.set_cons_zero, List.set_cons_succ]
        refine wpAnyH_ready (rs := [5]) (by kernel_rfl) (by simp) ?_
        refine AllReadyH.cons rfl (fun K hK => ?_) AllReadyH.nil
        go_simp
        try go_simp
        refine hK.out _ _ trivial (fun _ => ?_)
        clear hK K
        try simp only [List.getElem_toArray, List.getElem_cons_succ, List.getElem_cons_zero, Act.put, List.setIfInBounds_toArray, List.set_cons_zero, List.set_cons_succ]
        refine wpAnyH_ready (rs := [6]) (by kernel_rfl) (by simp) ?_
        refine AllReadyH.cons rfl (fun K hK => ?_) AllReadyH.nil
        go_simp
        go_at_call 40
        refine (sSentence_is HIS _ hxs).mono ?_
        rintro e w1 ⟨rfl, hb⟩
        have HB1 := Lib.hid (bel_trans (bel_drewN HB.out 1) hb)
        clear hb
        try go_simp
        refine hK.out _ _ trivial (fun _ => ?_)
        clear hK K
        try simp only [List.getElem_toArray, List.getElem_cons_succ, List.getElem_cons_zero, Act.put, List.setIfInBounds_toArray, List.set_cons_zero, List.set_cons_succ]
        refine wpAnyH_take (i := 7) (v := .bool true) rfl (by kernel_rfl) (by kernel_rfl) (by kernel_rfl) (fun _ _ _ h => h) (Or.inl ⟨by rfl, fun w _ => by rfl⟩) trivial ?_
        simp only [List.getElem_toArray, List.getElem_cons_succ, List.getElem_cons_zero, Act.put, List.setIfInBounds_toArray, List.set_cons_zero, List.set_cons_succ]
        refine wpAnyH_take (i := 8) (v := .bool true) rfl (by kernel_rfl) (by kernel_rfl) (by kernel_rfl) (fun _ _ _ h => h) (Or.inl ⟨by rfl, fun w _ => by rfl⟩) trivial ?_
        simp only [List.getElem_toArray, List.getElem_cons_succ, List.getElem_cons_zero, Act.put, List.setIfInBounds_toArray, List.set_cons_zero, List.set_cons_succ]
        refine wpAnyH_take (i := 9) (v := undef) rfl (by kernel_rfl) (by kernel_rfl) (by kernel_rfl) (fun _ _ _ h => h) (Or.inr ⟨by rfl, rfl⟩) trivial ?_
        simp only [List.getElem_toArray, List.getElem_cons_succ, List.getElem_cons_zero, Act.put, List.setIfInBounds_toArray, List.set_cons_zero, List.set_cons_succ]
        refine wpAnyH_take (i := 10) (v := undef) rfl (by kernel_rfl) (by kernel_rfl) (by kernel_rfl) (fun _ _ _ h => h) (Or.inr ⟨by rfl, rfl⟩) trivial ?_
        simp only [List.getElem_toArray, List.getElem_cons_succ, List.getElem_cons_zero, Act.put, List.setIfInBounds_toArray, List.set_cons_zero, List.set_cons_succ]
        refine wpAnyH_take (i := 11) (v := undef) rfl (by kernel_rfl) (by kernel_rfl) (by kernel_rfl) (fun _ _ _ h => h) (Or.inr ⟨by rfl, rfl⟩) trivial ?_
        simp only [List.getElem_toArray, List.getElem_cons_succ, List.getElem_cons_zero, Act.put, List.setIfInBounds_toArray, List.set_cons_zero, List.set_cons_succ]
        refine wpAnyH_take (i := 12) (v := undef) rfl (by kernel_rfl) (by kernel_rfl) (by kernel_rfl) (fun _ _ _ h => h) (Or.inr ⟨by rfl, rfl⟩) trivial ?_
        simp only [List.getElem_toArray, List.getElem_cons_succ, List.getElem_cons_zero, Act.put, List.setIfInBounds_toArray, List.set_cons_zero, List.set_cons_succ]
        refine wpAnyH_take (i := 13) (v := undef) rfl (by kernel_rfl) (by kernel_rfl) (by kernel_rfl) (fun _ _ _ h => h) (Or.inr ⟨by rfl, rfl⟩) trivial ?_
        simp only [List.getElem_toArray, List.getElem_cons_succ, List.getElem_cons_zero, Act.put, List.setIfInBounds_toArray, List.set_cons_zero, List.set_cons_succ]
        refine wpAnyH_take (i := 14) (v := undef) rfl (by kernel_rfl) (by kernel_rfl) (by kernel_rfl) (fun _ _ _ h => h) (Or.inr ⟨by rfl, rfl⟩) trivial ?_
        simp only [List.getElem_toArray, List.getElem_cons_succ, List.getElem_cons_zero, Act.put, List.setIfInBounds_toArray, List.set_cons_zero, List.set_cons_succ]
        refine wpAnyH_take (i := 15) (v := undef) rfl (by kernel_rfl) (by kernel_rfl) (by kernel_rfl) (fun _ _ _ h => h) (Or.inr ⟨by rfl, rfl⟩) trivial ?_
        simp only [List.getElem_toArray, List.getElem_cons_succ, List.getElem_cons_zero, Act.put, List.setIfInBounds_toArray, List.set_cons_zero, List.set_cons_succ]
        refine wpAnyH_take (i := 16) (v := undef) rfl (by kernel_rfl) (by kernel_rfl) (by kernel_rfl) (fun _ _ _ h => h) (Or.inr ⟨by rfl, rfl⟩) trivial ?_
        simp only [List.getElem_toArray, List.getElem_cons_succ, List.getElem_cons_zero, Act.put, List.setIfInBounds_toArray, List.set_cons_zero, List.set_cons_succ]
        refine wpAnyH_take (i := 17) (v := undef) rfl (by kernel_rfl) (by kernel_rfl) (by kernel_rfl) (fun _ _ _ h => h) (Or.inr ⟨by rfl, rfl⟩) trivial ?_
        simp only [List.getElem_toArray, List.getElem_cons_succ, List.getElem_cons_zero, Act.put, List.setIfInBounds_toArray, List.set_cons_zero, List.set_cons_succ]
        refine wpAnyH_take (i := 18) (v := .bool true) rfl (by kernel_rfl) (by kernel_rfl) (by kernel_rfl) (fun _ _ _ h => h) (Or.inl ⟨by rfl, fun w _ => by rfl⟩) trivial ?_
        simp only [List.getElem_toArray, List.getElem_cons_succ, List.getElem_cons_zero, Act.put, List.setIfInBounds_toArray, List.set_cons_zero, List.set_cons_succ]
        refine wpAnyH_done (by kernel_rfl) ?_ _
        go_wp2_with fail
        go_ret
        exact ⟨by rw [HRF.out] <;> rfl, HB1.out⟩
      | true =>
        have HS1 := Lib.hid hS
        have HIS : Hid (isT t x = true) := hS
        have HST := Lib.hid (HBT.out x (elem_memS hx))
        have HSE : Hid (∀ W : World, Calls Tryz.prog 43 #[.int .i64 t, .int .i64 k, .string x] W fun e w' => ∃ b : Bool, e = .returned (.bool b) ∧ (setOkB t k = true → b = asksT.sett t k x) ∧ Below W.heap.size W w') := fun W => sSettledAny HS1 W
        clear hS
        go_wp2_with fail
        go_region_held3 (fun w' => w'.cell? ⟨w.heap.size, 0, none⟩ = some (.int .i64 k) ∧ w'.cell? ⟨w.heap.size, 1, none⟩ = some (.slice (some ⟨b, off, none⟩) xs.length c) ∧ w'.cell? ⟨b, off + j, none⟩ = some (.string x))
          (first | go_keep | exact ⟨hc0, hc1, hcx⟩ | exact HK1.out | exact HK2.out)
          (first
            | (go_at_call 40; refine (sSentence_is HIS _ hxs).mono ?_; rintro e w1 ⟨rfl, hb⟩; have HX1 := Lib.hid (Box.below (by exact Box.drew HX.out) hb); have HK1 := Lib.hid (And.intro (HX1.out.cell (i := 0) (v := .int .i64 k) rfl) (And.intro (HX1.out.cell (i := 1) (v := .slice (some ⟨b, off, none⟩) xs.length c) rfl) (((Below.cell hb (p := ⟨b, off + j, none⟩)) hbl.out).trans hcx))); have HB1 := Lib.hid (bel_trans (bel_drewN HB.out 1) hb); have hbl1 := Lib.hid (Nat.lt_of_lt_of_le hbl.out hb.size); clear hb)
            | (go_at_call 43; refine (HSE.out _).mono ?_; rintro e w2 ⟨v, rfl, hv, hb⟩; have HX2 := Lib.hid (HX1.out.below hb); have HK2 := Lib.hid (And.intro (HX2.out.cell (i := 0) (v := .int .i64 k) rfl) (And.intro (HX2.out.cell (i := 1) (v := .slice (some ⟨b, off, none⟩) xs.length c) rfl) (((Below.cell hb (p := ⟨b, off + j, none⟩)) hbl1.out).trans HK1.out.2.2))); have HB2 := Lib.hid (bel_trans HB1.out hb); have HV := Lib.hid hv; clear hb hv))
        all_goals
          cases v
          · obtain ⟨hd0, hd1, hd2⟩ := HK2.out
            clear hc0 hc1 hcx
            go_wp2_with fail
            go_loopw [6] (fun i wr => ∃ m : Nat, m ≤ j ∧ i = .int .i64 m ∧ Hid (∀ i, i < m → xs[i]? ≠ some x) ∧ ∃ n, wr = w2.drewN n) (fun i _ => j - (Go.RowKit.intOf i).toNat)
            case atStart => exact ⟨0, Nat.zero_le _, rfl, (fun i h => by omega), 0, rfl⟩
            case round =>
              obtain ⟨m, hm, rfl, HNO, n, rfl⟩ := hrel
              by_cases hml : m < j
              · have hmx : m < xs.length := by omega
                obtain ⟨b2, off2, y, hA2, hcy, hy, _⟩ := (HA.out.below HB2.out).elem hmx
                cases hA2
                by_cases hxy : y = x
                · subst hxy
                  have HRF := Lib.hid (HBW.out j m y hx.out hy.out hml)
                  have he := str_eq y
                  go_wp2_with fail
                  go_quiet (fail)
                  go_wp2_with fail
                  go_ret
                  exact ⟨by rw [HRF.out] <;> rfl, bel_drewN (bel_drewN HB2.out _) _⟩
                · have he := str_ne hxy
                  have HNN : Hid (∀ i, i < m + 1 → xs[i]? ≠ some x) := by
                    intro i hi e
                    by_cases h : i = m
                    · subst h
                      rw [hy.out] at e; exact hxy (Option.some.inj e)
                    · exact HNO.out i (by omega) e
                  clear hxy
                  go_wp2_with fail
                  go_quiet (fail)
                  go_wp2_with fail
                  go_roundw
                  case rel => exact ⟨m + 1, by omega, by go_num, HNN, _, rfl⟩
                  case measure => simp [Go.RowKit.intOf]; omega
              · obtain rfl : m = j := by omega
                have HGN : Hid (setOkB t k = true → goodTo t k (xs.take (m + 1)) = true) := fun h => take_good (HG.out h) hx HS1.out (HV.out h).symm HNO.out
                go_wp2_with fail
                go_roundw
                case rel => exact ⟨m + 1, by omega, by go_num, HGN, Box.drewN HX2.out _, bel_drewN HB2.out _⟩
                case measure => simp [Go.RowKit.intOf]; omega
          · have HRF := Lib.hid (HST.out fun h => (HV.out h).symm)
            clear hc0 hc1 hcx
            go_wp2_with fail
            go_ret
            exact ⟨by rw [HRF.out] <;> rfl, HB2.out⟩
    · obtain rfl : j = xs.length := by omega
      rw [List.take_length] at HG
      cases hset : setOkB t k with
      | false =>
        have HRF := Lib.hid (HBK.out hset)
        have HSO := Lib.hid hset
        clear hset
        go_wp2_with (go_at_call 79; refine (sSetOk_is HSO _).mono ?_; rintro e w1 ⟨rfl, rfl⟩)
        go_ret
        exact ⟨by rw [HRF.out] <;> rfl, HB.out⟩
      | true =>
        have HRF := Lib.hid (HEND.out (HG.out hset))
        rw [hset, Bool.true_and] at HRF
        have HSO := Lib.hid hset
        clear hset
        by_cases hk0 : k = 0
        · subst hk0
          go_wp2_with (go_at_call 79; refine (sSetOk_is HSO _).mono ?_; rintro e w1 ⟨rfl, rfl⟩)
          go_ret
          exact ⟨by rw [HRF.out] <;> rfl, HB.out⟩
        · have hk1 : (k != 0) = true := by rw [bne_iff_ne]; exact hk0
          have hk2 : (k == 0) = false := by rw [beq_eq_false_iff_ne]; exact hk0
          have HN4 : Hid (decide ((xs.length : Int) ≤ 4) = decide (xs.length ≤ 4)) := by unfold Hid; rw [Bool.eq_iff_iff, decide_eq_true_iff, decide_eq_true_iff]; omega
          rw [decide_eq_true hk0, Bool.true_and] at HRF
          clear hk0
          go_wp2_with (go_at_call 79; refine (sSetOk_is HSO _).mono ?_; rintro e w1 ⟨rfl, rfl⟩)
          go_ret
          exact ⟨ret_bool (by rw [HRF.out, ← HN4.out]), HB.out⟩
end Go.Proofs.YtmdogidflaplkaaGreat

namespace Go.Proofs.YtmdogidflaplkaaGreat
open Go.RowKit

theorem state_info : (Tryz.prog.info? 25).map (fun i => (i.zero, i.size, i.bytes)) = some (some (.agg #[.int .i64 0, .slice none 0 0]), 2, 32) := by kernel_rfl
/-- Slices of the call's own of two kinds lie apart. -/
theorem own_apart {w : World} {b1 b2 : Nat} {v p : Value} {xs : List ByteArray} {T : TypeId} {sz n : Nat} {cs : List Value} (h1 : OwnsS w b1 v xs) (h2 : w.ownsRow b2 T sz p n cs) (hT : T ≠ 9) : v.ownBlock = none ∨ v.ownBlock ≠ p.ownBlock := by
  rcases h1.2 with ⟨rfl, _⟩ | ⟨g, cap, cur, rfl, _, hg, _⟩
  · exact .inl rfl
  · right
    rcases h2.2 with ⟨rfl, _⟩ | ⟨g2, cap2, cur2, rfl, _, hg2, _⟩
    · simp [Value.ownBlock]
    · intro e
      simp only [Value.ownBlock, Option.some.injEq] at e
      rw [e] at hg
      rw [hg] at hg2
      cases hg2
      exact hT rfl
theorem run_appS {W : World} {base : Nat} {v : Value} {xs ys : List ByteArray} {ad : Option Addr} {m c : Nat} (ty : TypeId) (hown : OwnsS W base v xs) (hm : m = ys.length) (hmc : m ≤ c) (hn : Strs W ad ys) (hl : xs.length + m ≤ 4194304) (hb : base ≤ W.heap.size) :
    ∃ v' w', (Builtin.append_ #[23, 23] ty #[v, .slice ad m c]).run Tryz.prog W = .ok v' w' ∧ OwnsS w' base v' (xs ++ ys) ∧ W.grownBy w' v.ownBlock := by
  subst hm
  obtain ⟨i0, hi0, hz0, hz1, hz2⟩ := info_parts str_info
  by_cases hz : ys.length = 0
  · obtain rfl : ys = [] := List.eq_nil_of_length_eq_zero hz
    obtain ⟨A, c2, rfl, hc2, _, _, _⟩ := hown.form
    refine ⟨_, W, run_append_nothing W 23 23 ty 9 i0 Tryz.underlying23 hi0 A xs.length c2 hc2 _ ?_, by rw [List.append_nil]; exact hown, World.grownBy.refl _ _⟩
    exact ⟨.inl ⟨_, Tryz.underlying23⟩, fun _ => rfl, by cases ad <;> simp [Builtin.firstCells, loadCells, loadCellsFrom], by cases ad <;> simp [Builtin.firstCells, loadCells, loadCellsFrom], by simp, fun u hu => by cases hu⟩
  · obtain ⟨b, off, rfl, _, hc⟩ := hn (by omega)
    obtain ⟨v', w', hr, h1, h2, _⟩ := run_append_own (P := Tryz.prog) W base 23 ty 9 i0 (.string ByteArray.empty) 1 16 Tryz.underlying23 hi0 hz0 hz1 hz2 rfl (by decide) v xs.length (xs.map (Value.string)) hown
      ⟨b, off, none⟩ ys.length c (ys.map (Value.string)) (by simp) (fun j u hj => by
        rw [List.getElem?_map] at hj
        obtain ⟨y, hy, rfl⟩ := Option.map_eq_some_iff.1 hj
        obtain ⟨hlt, he⟩ := List.getElem?_eq_some_iff.1 hy
        have := hc j hlt
        have e : (⟨b, off, none⟩ : Addr).add j = ⟨b, off + j, none⟩ := by unfold Addr.add; split <;> simp_all
        rw [e, this, List.getD_eq_getElem?_getD, hy]; rfl) (fun u hu => by obtain ⟨y, _, rfl⟩ := List.mem_map.1 hu; rfl) (by simp only [maxLen]; omega) (by omega) hb
    refine ⟨v', w', hr, ?_, h2⟩
    unfold OwnsS
    rw [List.map_append, List.length_append]
    exact h1
theorem step_appS {W : World} {ops : Array Oper} {o : Oper} {a : Act} {K : Act → World → Prop} {Q : Exit → Act → World → Prop} {E : Prop} (hgd : o.guard = none) (s x : Operand)
    (ho : o.op = .call { callee := .builtin .append, args := #[s, x], argTypes := #[23, 23] }) (base : Nat) (v : Value) (xs ys : List ByteArray) (hs : a.eval s = v) (hown : OwnsS W base v xs)
    (ad : Option Addr) (m c : Nat) (hx : a.eval x = .slice ad m c) (hm : m = ys.length) (hmc : m ≤ c) (hn : Strs W ad ys) (hl : xs.length + m ≤ 4194304) (hb : base ≤ W.heap.size)
    (h : ∀ v' w', OwnsS w' base v' (xs ++ ys) → W.grownBy w' v.ownBlock → K (a.put o.dst v') w') :
    if Region.wanted o (yielded ops a.tmps) = true then Oper.wp Tryz.prog o a W K Q else E := by
  have hw : Region.wanted o (yielded ops a.tmps) = true := by simp [Region.wanted, hgd]
  rw [if_pos hw]
  obtain ⟨v', w', hr, h1, h2⟩ := run_appS o.type hown hm hmc hn hl hb
  exact Lib.wp_append_run W s x _ _ ho _ _ hs hx v' w' hr (h v' w' h1 h2)
/-- A literal of one text. -/
theorem strs_one (W : World) (y : ByteArray) : Strs (W.alloc (.cells #[.string y] 9)) (some ⟨W.heap.size, 0, none⟩) [y] := by
  intro _
  refine ⟨W.heap.size, 0, rfl, by rw [World.size_alloc]; omega, fun i hi => ?_⟩
  obtain rfl : i = 0 := by simpa using hi
  exact (Boxed.new W 9 (.string y)).cell
theorem OwnsS.drewN {w : World} {base : Nat} {v : Value} {xs : List ByteArray} (h : OwnsS w base v xs) (n : Nat) : OwnsS (w.drewN n) base v xs := h

/-! States. -/
theorem run_appX {W : World} {base : Nat} {v o : Value} {vs : List (Int × Value)} {xs : List (St ByteArray)} {x : St ByteArray} (ty : TypeId) (hown : OwnsX 25 W base v vs xs) (ho : OwnsS W base o x.op) (hl : xs.length ≤ 1048576) (hb : base ≤ W.heap.size) (hap : o.ownBlock = none ∨ o.ownBlock ≠ v.ownBlock) :
    ∃ v' w', (Builtin.append_ #[26, 26] ty #[v, .slice (some ⟨W.heap.size, 0, none⟩) 1 1]).run Tryz.prog (W.alloc (.cells #[.int .i64 x.known, o] 25)) = .ok v' w' ∧
      OwnsX 25 w' base v' (vs ++ [(x.known, o)]) (xs ++ [x]) ∧ (W.alloc (.cells #[.int .i64 x.known, o] 25)).grownBy w' v.ownBlock := by
  obtain ⟨i0, hi0, hz0, hz1, hz2⟩ := info_parts state_info
  have hvl := hown.sees.len
  obtain ⟨v', w', hr, h1, h2, _⟩ := run_append_own (P := Tryz.prog) (W.alloc (.cells #[.int .i64 x.known, o] 25)) base 26 ty 25 i0 (.agg #[.int .i64 0, .slice none 0 0]) 2 32 Tryz.underlying26 hi0 hz0 hz1 hz2 rfl (by decide) v vs.length (cellsX vs) (World.ownsRow.alloc hown.row _)
    ⟨W.heap.size, 0, none⟩ 1 1 [.int .i64 x.known, o] rfl (cell_two_new _ _ _ _) (fun u hu => by
      rw [List.mem_cons, List.mem_singleton] at hu
      rcases hu with rfl | rfl
      · rfl
      · obtain ⟨A, c, rfl, _⟩ := ho.form
        rfl) (by simp only [maxLen]; omega) (by omega) (by rw [World.size_alloc]; omega)
  have hrow : w'.ownsRow base 25 2 v' (vs ++ [(x.known, o)]).length (cellsX (vs ++ [(x.known, o)])) := by
    rw [cellsX_append, List.length_append]
    exact h1
  have hkeep : ∀ (u : Value) (ys : List ByteArray), OwnsS W base u ys → (u.ownBlock = none ∨ u.ownBlock ≠ v.ownBlock) → OwnsS w' base u ys := fun u ys hu hne =>
    (hu.below ((Below.refl _ _).alloc (Nat.le_refl _) _)).kept h2 hne
  refine ⟨v', w', hr, ⟨hrow, by rw [List.length_append, List.length_append, hvl]; rfl, fun i y hy => ?_⟩, h2⟩
  by_cases hi : i < xs.length
  · rw [List.getElem?_append_left hi] at hy
    obtain ⟨u, hu1, hu2, hu3⟩ := hown.sees.at_ i y hy
    have hk := hkeep u _ hu2 hu3
    exact ⟨u, by rw [List.getElem?_append_left (by omega)]; exact hu1, hk, own_apart hk hrow (by decide)⟩
  · have hi2 : i = xs.length := by
      have := (List.getElem?_eq_some_iff.1 hy).1
      simp at this; omega
    subst hi2
    rw [List.getElem?_append_right (Nat.le_refl _), Nat.sub_self] at hy
    cases hy
    have hk := hkeep o _ ho hap
    exact ⟨o, by rw [List.getElem?_append_right (by omega), hvl, Nat.sub_self]; rfl, hk, own_apart hk hrow (by decide)⟩
theorem wpL_appX {W : World} {ops : Array Oper} {rest : List Oper} {op : Oper} {a : Act} {Q : Exit → Act → World → Prop} (hgd : op.guard = none) (s y : Operand)
    (hop : op.op = .call { callee := .builtin .append, args := #[s, y], argTypes := #[26, 26] }) (base : Nat) (v o : Value) (vs : List (Int × Value)) (xs : List (St ByteArray)) (x : St ByteArray) (hs : a.eval s = v) (hown : OwnsX 25 W base v vs xs) (ho : OwnsS W base o x.op)
    (hy : a.eval y = .slice (some ⟨W.heap.size, 0, none⟩) 1 1) (hl : xs.length ≤ 1048576) (hb : base ≤ W.heap.size) (hap : o.ownBlock = none ∨ o.ownBlock ≠ v.ownBlock)
    (h : ∀ v' w', OwnsX 25 w' base v' (vs ++ [(x.known, o)]) (xs ++ [x]) → (W.alloc (.cells #[.int .i64 x.known, o] 25)).grownBy w' v.ownBlock → wpList Tryz.prog ops Q rest (a.put op.dst v') w') :
    wpList Tryz.prog ops Q (op :: rest) a (W.alloc (.cells #[.int .i64 x.known, o] 25)) := by
  obtain ⟨v', w', hr, h1, h2⟩ := run_appX op.type hown ho hl hb hap
  exact Lib.wpList_append_run _ hgd s y _ _ hop _ _ hs hy v' w' hr (h v' w' h1 h2)
theorem step_appX {W : World} {ops : Array Oper} {op : Oper} {a : Act} {K : Act → World → Prop} {Q : Exit → Act → World → Prop} {E : Prop} (hgd : op.guard = none) (s y : Operand)
    (hop : op.op = .call { callee := .builtin .append, args := #[s, y], argTypes := #[26, 26] }) (base : Nat) (v o : Value) (vs : List (Int × Value)) (xs : List (St ByteArray)) (x : St ByteArray) (hs : a.eval s = v) (hown : OwnsX 25 W base v vs xs) (ho : OwnsS W base o x.op)
    (hy : a.eval y = .slice (some ⟨W.heap.size, 0, none⟩) 1 1) (hl : xs.length ≤ 1048576) (hb : base ≤ W.heap.size) (hap : o.ownBlock = none ∨ o.ownBlock ≠ v.ownBlock)
    (h : ∀ v' w', OwnsX 25 w' base v' (vs ++ [(x.known, o)]) (xs ++ [x]) → (W.alloc (.cells #[.int .i64 x.known, o] 25)).grownBy w' v.ownBlock → K (a.put op.dst v') w') :
    if Region.wanted op (yielded ops a.tmps) = true then Oper.wp Tryz.prog op a (W.alloc (.cells #[.int .i64 x.known, o] 25)) K Q else E := by
  have hw : Region.wanted op (yielded ops a.tmps) = true := by simp [Region.wanted, hgd]
  rw [if_pos hw]
  obtain ⟨v', w', hr, h1, h2⟩ := run_appX op.type hown ho hl hb hap
  exact Lib.wp_append_run _ s y _ _ hop _ _ hs hy v' w' hr (h v' w' h1 h2)
theorem OwnsX.lt {e : TypeId} {w : World} {base : Nat} {v : Value} {vs : List (Int × Value)} {xs : List (St ByteArray)} (h : OwnsX e w base v vs xs) {k : Nat} (hk : v.ownBlock = some k) : base ≤ k ∧ k < w.heap.size := World.ownsRow.lt h.row k hk
theorem OwnsS.lt {w : World} {base : Nat} {v : Value} {xs : List ByteArray} (h : OwnsS w base v xs) {k : Nat} (hk : v.ownBlock = some k) : base ≤ k ∧ k < w.heap.size := World.ownsRow.lt h k hk

/-! Talks as values. -/
structure TkAt (w : World) (T : TalkV) (A : Option Addr) (n c : Nat) (B : Option Addr) (m d : Nat) : Prop where
  hn : n = T.now.op.length
  hc : n ≤ c
  hm : c ≤ maxLen
  hA : Strs w A T.now.op
  pn : m = T.past.length
  pc : m ≤ d
  pm : d ≤ maxLen
  hB : StaRow w B T.past
structure SmallT (T : TalkV) : Prop where
  op : T.now.op.length ≤ 1048576
  past : T.past.length ≤ 1048576
  txt : ∀ s ∈ T.now.op, s.size ≤ 1048576
  ops : ∀ x ∈ T.past, x.op.length ≤ 1048576 ∧ ∀ s ∈ x.op, s.size ≤ 1048576
theorem TkAt.below {w w' : World} {T : TalkV} {A B : Option Addr} {n c m d : Nat} (h : TkAt w T A n c B m d) (hb : Below w.heap.size w w') : TkAt w' T A n c B m d :=
  ⟨h.hn, h.hc, h.hm, h.hA.below hb, h.pn, h.pc, h.pm, h.hB.below hb⟩
theorem TkAt.drewN {w : World} {T : TalkV} {A B : Option Addr} {n c m d : Nat} (h : TkAt w T A n c B m d) (k : Nat) : TkAt (w.drewN k) T A n c B m d :=
  ⟨h.hn, h.hc, h.hm, h.hA.drewN k, h.pn, h.pc, h.pm, h.hB.drewN k⟩
/-- The worlds that keep the blocks from lo on as w has them. -/
def Keeps (lo : Nat) (w w' : World) : Prop := w.heap.size ≤ w'.heap.size ∧ ∀ b, lo ≤ b → b < w.heap.size → w'.heap[b]? = w.heap[b]?
theorem Keeps.refl (lo : Nat) (w : World) : Keeps lo w w := ⟨Nat.le_refl _, fun _ _ _ => rfl⟩
theorem Keeps.below {lo : Nat} {w w1 w2 : World} (h : Keeps lo w w1) (hb : Below w1.heap.size w1 w2) : Keeps lo w w2 :=
  ⟨Nat.le_trans h.1 hb.size, fun b h1 h2 => (hb.block b (Nat.lt_of_lt_of_le h2 h.1)).trans (h.2 b h1 h2)⟩
theorem Keeps.trans {lo lo2 : Nat} {w w1 w2 : World} (h : Keeps lo w w1) (hb : Keeps lo2 w1 w2) (hl : lo2 ≤ lo) : Keeps lo w w2 :=
  ⟨Nat.le_trans h.1 hb.1, fun b h1 h2 => (hb.2 b (by omega) (Nat.lt_of_lt_of_le h2 h.1)).trans (h.2 b h1 h2)⟩
theorem Keeps.of_below {lo : Nat} {w w' : World} (hb : Below w.heap.size w w') : Keeps lo w w' := (Keeps.refl lo w).below hb
/-- A talk whose memory lies from lo on. -/
def TkIn (w : World) (lo : Nat) (T : TalkV) (A : Option Addr) (n c : Nat) (B : Option Addr) (m d : Nat) : Prop := ∀ w', Keeps lo w w' → TkAt w' T A n c B m d
theorem TkIn.at_ {w : World} {lo : Nat} {T : TalkV} {A B : Option Addr} {n c m d : Nat} (h : TkIn w lo T A n c B m d) : TkAt w T A n c B m d := h w (Keeps.refl _ _)
theorem TkIn.keep {w w' : World} {lo : Nat} {T : TalkV} {A B : Option Addr} {n c m d : Nat} (h : TkIn w lo T A n c B m d) (hk : Keeps lo w w') : TkIn w' lo T A n c B m d := fun w2 h2 => h w2 (hk.trans h2 (Nat.le_refl _))
theorem TkIn.below {w w' : World} {lo : Nat} {T : TalkV} {A B : Option Addr} {n c m d : Nat} (h : TkIn w lo T A n c B m d) (hb : Below w.heap.size w w') : TkIn w' lo T A n c B m d := h.keep (Keeps.of_below hb)
theorem TkIn.base {w : World} {lo lo2 : Nat} {T : TalkV} {A B : Option Addr} {n c m d : Nat} (h : TkIn w lo T A n c B m d) (hl : lo2 ≤ lo) : TkIn w lo2 T A n c B m d := fun w2 h2 => h w2 ⟨h2.1, fun b h3 h4 => h2.2 b (by omega) h4⟩
/-- What is owned from lo on is such. -/
theorem OwnsS.keep {w w' : World} {lo : Nat} {v : Value} {xs : List ByteArray} (h : OwnsS w lo v xs) (hk : Keeps lo w w') : OwnsS w' lo v xs := by
  refine ⟨h.1, ?_⟩
  rcases h.2 with h | ⟨g, cap, cur, h1, h2, h3, h4⟩
  · exact .inl h
  · exact .inr ⟨g, cap, cur, h1, h2, (hk.2 g h2 (Array.getElem?_eq_some_iff.1 h3).1).trans h3, h4⟩
theorem OwnsX.keep {e : TypeId} {w w' : World} {lo : Nat} {v : Value} {vs : List (Int × Value)} {xs : List (St ByteArray)} (h : OwnsX e w lo v vs xs) (hk : Keeps lo w w') : OwnsX e w' lo v vs xs := by
  refine ⟨⟨h.row.1, ?_⟩, h.sees.len, fun i x hx => by obtain ⟨u, h1, h2, h3⟩ := h.sees.at_ i x hx; exact ⟨u, h1, h2.keep hk, h3⟩⟩
  rcases h.row.2 with h | ⟨g, cap, cur, h1, h2, h3, h4⟩
  · exact .inl h
  · exact .inr ⟨g, cap, cur, h1, h2, (hk.2 g h2 (Array.getElem?_eq_some_iff.1 h3).1).trans h3, h4⟩
theorem tk_of_owns {w : World} {lo : Nat} {T : TalkV} {o p : Value} {vs : List (Int × Value)} (ho : OwnsS w lo o T.now.op) (hp : OwnsX 25 w lo p vs T.past) :
    ∃ A c B d, o = .slice A T.now.op.length c ∧ p = .slice B T.past.length d ∧ TkIn w lo T A T.now.op.length c B T.past.length d := by
  obtain ⟨A, c, rfl, h1, h2, _, _⟩ := ho.form
  obtain ⟨B, d, rfl, h3, h4, _, _⟩ := hp.form
  refine ⟨A, c, B, d, rfl, rfl, fun w' hk => ?_⟩
  obtain ⟨A', c', e, _, _, h5, _⟩ := (ho.keep hk).form
  obtain ⟨B', d', e2, _, _, h6, _⟩ := (hp.keep hk).form
  simp only [Value.slice.injEq] at e e2
  obtain ⟨rfl, _, rfl⟩ := e
  obtain ⟨rfl, _, rfl⟩ := e2
  exact ⟨rfl, h1, h2, h5, rfl, h3, h4, h6⟩
end Go.Proofs.YtmdogidflaplkaaGreat

namespace Go.Proofs.YtmdogidflaplkaaGreat
open Go.RowKit

theorem talk_bad {T : TalkV} {x : St ByteArray} (hm : x ∈ T.past) (h : stateOk asksT T.things x = false) : okT T = false := by
  cases hT : okT T with
  | false => rfl
  | true =>
    have := ((talk_parts asksT).1 hT).2.2 x hm
    rw [h] at this; cases this
theorem talk_end {T : TalkV} (h : ∀ x ∈ T.past, stateOk asksT T.things x = true) : okT T = (stateOk asksT T.things T.now && decide (T.past.length ≤ 10)) := by
  unfold okT talkOk
  rw [show (T.past.all (stateOk asksT T.things)) = true from List.all_eq_true.2 h, Bool.and_true]
theorem sState9_is {t k : Int} {xs : List ByteArray} {b : Bool} (h : Hid (stateOk asksT t ⟨k, xs⟩ = b)) (A : Option Addr) (n c : Nat) (w : World) (hn : n = xs.length) (hl : n ≤ 1048576) (hA : Strs w A xs) (hs : ∀ s ∈ xs, s.size ≤ 1048576) :
    Calls Tryz.prog 45 #[.int .i64 t, .agg #[.int .i64 k, .slice A n c]] w fun e w' => e = .returned (.bool b) ∧ Below w.heap.size w w' := by
  have := sState9 t k A n c xs w hn hl hA hs
  rw [h.out] at this; exact this
set_option maxRecDepth 100000 in
set_option maxHeartbeats 8000000 in
theorem sTalkOk (T : TalkV) (A B : Option Addr) (n c m d : Nat) (w : World) (hT : TkAt w T A n c B m d) (hs : SmallT T) :
    Calls Tryz.prog 19 #[.agg #[.int .i64 T.things, .int .i64 T.now.known, .slice A n c, .slice B m d]] w fun e w' => e = .returned (.bool (okT T)) ∧ Below w.heap.size w w' := by
  have HX0 : Hid (Box (w.alloc (.cells #[.int .i64 T.things, .int .i64 T.now.known, .slice A n c, .slice B m d] 28)) w.heap.size 28 [.int .i64 T.things, .int .i64 T.now.known, .slice A n c, .slice B m d]) := Box.new w _ _
  have HB0 : Hid (Below w.heap.size w (w.alloc (.cells #[.int .i64 T.things, .int .i64 T.now.known, .slice A n c, .slice B m d] 28))) := (Below.refl _ _).alloc (Nat.le_refl _) _
  have HT := Lib.hid hT
  have HS := Lib.hid hs
  obtain rfl := hT.pn
  have hml : T.past.length ≤ 1048576 := hs.past
  have HBAD : Hid (∀ x ∈ T.past, stateOk asksT T.things x = false → okT T = false) := fun x h1 h2 => talk_bad h1 h2
  have HEND := Lib.hid (talk_end (T := T))
  obtain ⟨R, HR⟩ : ∃ R, Hid (okT T = R) := ⟨_, rfl⟩
  rw [HR.out] at HBAD HEND ⊢
  obtain ⟨t, ht⟩ : ∃ t, T.things = t := ⟨_, rfl⟩
  obtain ⟨q, hq⟩ : ∃ q, T.now.known = q := ⟨_, rfl⟩
  rw [ht, hq] at HX0 HB0
  rw [ht] at HBAD HEND
  rw [ht, hq]
  have HNOW : Hid (T.now = ⟨q, T.now.op⟩) := by unfold Hid; rw [← hq]
  clear hT hs
  clear ht hq
  go_enter Tryz.func19, Tryz.ntmps19
  go_wp2_with fail
  obtain ⟨W0, hW0⟩ : ∃ W, w.alloc (.cells #[.int .i64 t, .int .i64 q, .slice A n c, .slice B T.past.length d] 28) = W := ⟨_, rfl⟩
  rw [hW0] at HX0 HB0 ⊢
  clear hW0
  go_loopw [3] (fun i wr => ∃ j : Nat, j ≤ T.past.length ∧ i = .int .i64 j ∧ Hid (∀ i x, i < j → T.past[i]? = some x → stateOk asksT t x = true) ∧ Hid (Box wr w.heap.size 28 [.int .i64 t, .int .i64 q, .slice A n c, .slice B T.past.length d]) ∧ Hid (Below w.heap.size w wr)) (fun i _ => T.past.length - (Go.RowKit.intOf i).toNat)
  case atStart => exact ⟨0, Nat.zero_le _, rfl, (fun i x h => by omega), HX0, HB0⟩
  case round =>
    obtain ⟨j, hj, rfl, HG, HX, HB⟩ := hrel
    have hc0 := HX.out.cell (i := 0) (v := .int .i64 t) rfl
    have hc1 := HX.out.cell (i := 1) (v := .int .i64 q) rfl
    have hc2 := HX.out.cell (i := 2) (v := .slice A n c) rfl
    have hc3 := HX.out.cell (i := 3) (v := .slice B T.past.length d) rfl
    by_cases hlt : j < T.past.length
    · obtain ⟨b, off, Ai, ci, x, rfl, he0, he1, hle, hmi, hx, hA, hbl⟩ := (HT.out.hB.below HB.out).elem hlt
      obtain ⟨hxl, hxs⟩ := HS.out.ops x (List.mem_of_getElem? hx.out)
      obtain ⟨k, hk⟩ : ∃ k, x.known = k := ⟨_, rfl⟩
      rw [hk] at he0
      have HKX : Hid (x = ⟨k, x.op⟩) := by unfold Hid; rw [← hk]
      have HXS := Lib.hid hxs
      obtain ⟨v, HV⟩ : ∃ v, Hid (stateOk asksT t ⟨k, x.op⟩ = v) := ⟨_, rfl⟩
      have HV2 : Hid (stateOk asksT t x = v) := by unfold Hid; rw [HKX.out]; exact HV.out
      have HST : Hid (∀ W : World, Strs W Ai x.op → Calls Tryz.prog 45 #[.int .i64 t, .agg #[.int .i64 k, .slice Ai x.op.length ci]] W fun e w' => e = .returned (.bool v) ∧ Below W.heap.size W w') := fun W h => sState9_is HV Ai x.op.length ci W rfl hxl h HXS.out
      clear hk hxs
      go_wp2_with fail
      go_region_held3 (fun w' => w'.cell? ⟨w.heap.size, 0, none⟩ = some (.int .i64 t) ∧ w'.cell? ⟨w.heap.size, 3, none⟩ = some (.slice (some ⟨b, off, none⟩) T.past.length d) ∧ w'.cell? ⟨b, off + j * 2, none⟩ = some (.int .i64 k) ∧ w'.cell? ⟨b, off + j * 2 + 1, none⟩ = some (.slice Ai x.op.length ci))
        (first | go_keep | exact ⟨hc0, hc3, he0, he1⟩ | exact HK1.out)
        (first | (go_at_call 45; refine (HST.out _ (hA.out.drewN 1)).mono ?_; rintro e w1 ⟨rfl, hb⟩; have HX1 := Lib.hid (Box.below (by exact Box.drew HX.out) hb); have HK1 := Lib.hid (And.intro (HX1.out.cell (i := 0) (v := .int .i64 t) rfl) (And.intro (HX1.out.cell (i := 3) (v := .slice (some ⟨b, off, none⟩) T.past.length d) rfl) (And.intro (((Below.cell hb (p := ⟨b, off + j * 2, none⟩)) hbl.out).trans he0) (((Below.cell hb (p := ⟨b, off + j * 2 + 1, none⟩)) hbl.out).trans he1)))); have HB1 := Lib.hid (bel_trans (bel_drewN HB.out 1) hb); clear hb))
      all_goals
        cases v
        · have HRF := Lib.hid (HBAD.out x (List.mem_of_getElem? hx.out) HV2.out)
          go_wp2_with fail
          go_ret
          exact ⟨by rw [HRF.out] <;> rfl, HB1.out⟩
        · have HGN : Hid (∀ i x, i < j + 1 → T.past[i]? = some x → stateOk asksT t x = true) := by
            intro i y hi hy
            by_cases e : i = j
            · subst e
              rw [hx.out] at hy; cases hy; exact HV2.out
            · exact HG.out i y (by omega) hy
          clear hc0 hc1 hc2 hc3 he0 he1
          go_wp2_with fail
          go_roundw
          case rel => exact ⟨j + 1, by omega, by go_num, HGN, HX1, HB1⟩
          case measure => simp [Go.RowKit.intOf]; omega
    · obtain rfl : j = T.past.length := by omega
      have HALL : Hid (∀ x ∈ T.past, stateOk asksT t x = true) := fun x hx => by
        obtain ⟨i, hi⟩ := List.mem_iff_getElem?.1 hx
        exact HG.out i x (List.getElem?_eq_some_iff.1 hi).1 hi
      have HRF := Lib.hid (HEND.out HALL.out)
      obtain ⟨v, HV⟩ : ∃ v, Hid (stateOk asksT t ⟨q, T.now.op⟩ = v) := ⟨_, rfl⟩
      rw [HNOW.out, HV.out] at HRF
      have HST : Hid (∀ W : World, Strs W A T.now.op → Calls Tryz.prog 45 #[.int .i64 t, .agg #[.int .i64 q, .slice A n c]] W fun e w' => e = .returned (.bool v) ∧ Below W.heap.size W w') := fun W h => sState9_is HV A n c W HT.out.hn (by rw [HT.out.hn]; exact HS.out.op) h HS.out.txt
      have HN4 : Hid (decide ((T.past.length : Int) ≤ 10) = decide (T.past.length ≤ 10)) := by unfold Hid; rw [Bool.eq_iff_iff, decide_eq_true_iff, decide_eq_true_iff]; omega
      have HAW := Lib.hid (HT.out.hA.below HB.out)
      cases v
      · go_wp2_with (go_at_call 45; refine (HST.out _ HAW.out).mono ?_; rintro e w1 ⟨rfl, hb⟩; have HB1 := Lib.hid (bel_trans HB.out hb); clear hb hc0 hc1 hc2 hc3)
        go_ret
        exact ⟨by rw [HRF.out] <;> rfl, HB1.out⟩
      · rw [Bool.true_and] at HRF
        go_wp2_with (go_at_call 45; refine (HST.out _ HAW.out).mono ?_; rintro e w1 ⟨rfl, hb⟩; have HB1 := Lib.hid (bel_trans HB.out hb); replace HX := Lib.hid (HX.out.below hb); clear hb hc0 hc1 hc2 hc3; have hc3 := HX.out.cell (i := 3) (v := .slice B T.past.length d) rfl)
        go_ret
        exact ⟨ret_bool (by rw [HRF.out, ← HN4.out]), HB1.out⟩
end Go.Proofs.YtmdogidflaplkaaGreat
