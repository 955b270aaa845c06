/-
  What the proofs of this seat's statements share (TlkO, TlkP, TlkQ).
-/
import Derived.Lib.SlicesS
import Derived.Test.YtmdogidflaplkaaGreatU19
import Derived.Test.YtmdogidflaplkaaGreatU5
import Derived.Test.YtmdogidflaplkaaGreatU21
import Derived.Test.YtmdogidflaplkaaGreatU17
import Derived.Test.YtmdogidflaplkaaGreatU20

namespace Go.Proofs.YtmdogidflaplkaaGreat
open Go.RowKit

theorem iContainsS {w : World} {A : Option Addr} {xs : List ByteArray} (x : ByteArray) (n c : Nat) (hn : n = xs.length) (hl : n ≤ 1048576) (hA : Strs w A xs) :
    Calls Tryz.prog 82 #[.slice A n c, .string x] w fun e w' => e = .returned (.bool (Lib.containsS xs x)) ∧ w = w' := by
  subst hn
  by_cases h0 : xs.length = 0
  · obtain rfl : xs = [] := List.eq_nil_of_length_eq_zero h0
    refine (Tryz.slices_Contains_string_empty A c x w).mono ?_
    rintro e w' ⟨rfl, rfl⟩
    exact ⟨rfl, rfl⟩
  · obtain ⟨b, off, rfl, _, hc⟩ := hA (by omega)
    refine (Tryz.slices_Contains_string b off xs.length c xs x w (Nat.le_refl _) (by omega) hc).mono ?_
    rintro e w' ⟨rfl, rfl⟩
    refine ⟨ret_bool ?_, rfl⟩
    rw [List.take_length]
set_option maxRecDepth 100000 in
set_option maxHeartbeats 4000000 in
theorem iSettledBy {t k : Int} (s : ByteArray) (w : World) (hk : setOkB t k = true) (hs : s.size ≤ 9223372036854775807) :
    Calls Tryz.prog 81 #[.int .i64 t, .int .i64 k, .string s] w fun e w' => e = .returned (.tuple #[.bool (asksT.isS t s && asksT.sett t k s), .bool (asksT.isS t s)]) ∧ Below w.heap.size w w' := by
  have hlen := issueT_len t s
  have HK := Lib.hid hk
  cases hS : asksT.isS t s with
  | false =>
    have HII : Hid (isT t s = false) := hS
    obtain ⟨l, HL⟩ : ∃ l, Hid (issueT t s = l) := ⟨_, rfl⟩
    clear hS hk hlen
    go_enter Tryz.func81, Tryz.ntmps81
    go_wp2_with fail
    refine (iIssueOf_is HL HII _ hs).mono ?_
    rintro e w1 ⟨v, rfl, ho, hbel⟩
    have HB := Lib.hid hbel
    clear ho hbel
    go_wp2_with fail
    go_ret2
    exact ⟨rfl, HB.out⟩
  | true =>
    have HII : Hid (isT t s = true) := hS
    obtain ⟨b, HSB⟩ : ∃ b, Hid (settlesB t (issueT t s) k = b) := ⟨_, rfl⟩
    have HSE : Hid (asksT.sett t k s = b) := by unfold Hid; rw [← HSB.out]; exact (settles_sett hS hk).symm
    obtain ⟨l, HL⟩ : ∃ l, Hid (issueT t s = l) := ⟨_, rfl⟩
    rw [HL.out] at hlen HSB
    clear hS hk
    go_enter Tryz.func81, Tryz.ntmps81
    go_wp2_with fail
    refine (iIssueOf_is HL HII _ hs).mono ?_
    rintro e w1 ⟨v, rfl, ho, hbel⟩
    obtain ⟨A, c, rfl, _, _, _, _⟩ := ho.form
    have HR := Lib.hid (Owns.row ho (by omega))
    have HB := Lib.hid hbel
    clear ho hbel
    go_wp2_with (go_at_call 96; refine (iSettles_is HSB A l.length c _ HR.out.hn HR.out.hl HR.out.hc HR.out.hm HR.out.hA).mono ?_; rintro e w2 ⟨rfl, n, rfl⟩)
    go_ret2
    exact ⟨by rw [HSE.out] <;> rfl, bel_drewN HB.out _⟩
theorem state_no {t k : Int} {xs : List ByteArray} (h : setOkB t k = false ∨ k = 0 ∨ 4 < xs.length) : stateOk asksT t ⟨k, xs⟩ = false := by
  cases hs : stateOk asksT t ⟨k, xs⟩ with
  | false => rfl
  | true =>
    obtain ⟨h1, h2, h3, _, _⟩ := (state_parts asksT).1 hs
    rcases h with h | h | h
    · rw [h] at h1; cases h1
    · exact absurd h h2
    · exact absurd h3 (by show ¬ xs.length ≤ 4; omega)
theorem bad_in {t k : Int} {xs : List ByteArray} {j : Nat} {x : ByteArray} (hx : Hid (xs[j]? = some x)) (h : x ∈ xs.take j) : stateOk asksT t ⟨k, xs⟩ = false := by
  obtain ⟨i, hi⟩ := List.mem_iff_getElem?.1 h
  have hlt : i < j := by
    have := (List.getElem?_eq_some_iff.1 hi).1
    rw [List.length_take] at this; omega
  rw [List.getElem?_take_of_lt hlt] at hi
  exact bad_twice hx.out hi hlt
set_option maxRecDepth 100000 in
set_option maxHeartbeats 8000000 in
theorem iStateOk (t k : Int) (A : Option Addr) (n c : Nat) (xs : List ByteArray) (w : World) (hn : n = xs.length) (hl : n ≤ 1048576) (hnc : n ≤ c) (hA : Strs w A xs) (hs : ∀ s ∈ xs, s.size ≤ 1048576) :
    Calls Tryz.prog 47 #[.int .i64 t, .agg #[.int .i64 k, .slice A n c]] w fun e w' => e = .returned (.bool (stateOk asksT t ⟨k, xs⟩)) ∧ Below w.heap.size w w' := by
  subst hn
  have HX0 : Hid (Box (w.alloc (.cells #[.int .i64 k, .slice A xs.length c] 25)) w.heap.size 25 [.int .i64 k, .slice A xs.length c]) := Box.new w _ _
  have HB0 : Hid (Below w.heap.size w (w.alloc (.cells #[.int .i64 k, .slice A xs.length c] 25))) := (Below.refl _ _).alloc (Nat.le_refl _) _
  have HA := Lib.hid hA
  have HS := Lib.hid hs
  have HNO := Lib.hid (state_no (t := t) (k := k) (xs := xs))
  have HBS : Hid (∀ x ∈ xs, asksT.isS t x = false ∨ asksT.sett t k x = true → stateOk asksT t ⟨k, xs⟩ = false) := fun x hx h => bad_state hx h
  have HBI : Hid (∀ j x, Hid (xs[j]? = some x) → x ∈ xs.take j → stateOk asksT t ⟨k, xs⟩ = false) := fun j x h1 h2 => bad_in h1 h2
  have HEND : Hid (goodTo t k xs = true → stateOk asksT t ⟨k, xs⟩ = (setOkB t k && decide (k ≠ 0) && decide (xs.length ≤ 4))) := state_end
  obtain ⟨R, HR⟩ : ∃ R, Hid (stateOk asksT t ⟨k, xs⟩ = R) := ⟨_, rfl⟩
  rw [HR.out] at HNO HBS HBI HEND ⊢
  clear hA hs
  cases hset : setOkB t k with
  | false =>
    have HSO := Lib.hid hset
    have HRF := Lib.hid (HNO.out (.inl hset))
    clear hset
    go_enter Tryz.func47, Tryz.ntmps47
    go_wp2_with (go_at_call 52; refine (iSetOk_is HSO _).mono ?_; rintro e w1 ⟨rfl, rfl⟩)
    go_ret
    exact ⟨by rw [HRF.out] <;> rfl, HB0.out⟩
  | true =>
    have HSO := Lib.hid hset
    by_cases hk0 : k = 0
    · have HRF := Lib.hid (HNO.out (.inr (.inl hk0)))
      subst hk0
      clear hset
      go_enter Tryz.func47, Tryz.ntmps47
      go_wp2_with (go_at_call 52; refine (iSetOk_is HSO _).mono ?_; rintro e w1 ⟨rfl, rfl⟩)
      go_ret
      exact ⟨by rw [HRF.out] <;> rfl, HB0.out⟩
    have hk2 : (k == 0) = false := by rw [beq_eq_false_iff_ne]; exact hk0
    by_cases h4 : 4 < xs.length
    · have HRF := Lib.hid (HNO.out (.inr (.inr h4)))
      have hd : decide ((4 : Int) < (xs.length : Int)) = true := decide_eq_true (by omega)
      clear hset hk0 h4
      go_enter Tryz.func47, Tryz.ntmps47
      go_wp2_with (go_at_call 52; refine (iSetOk_is HSO _).mono ?_; rintro e w1 ⟨rfl, rfl⟩)
      go_ret
      exact ⟨by rw [HRF.out] <;> rfl, HB0.out⟩
    have hd : decide ((4 : Int) < (xs.length : Int)) = false := decide_eq_false (by omega)
    have HTRUE : Hid (goodTo t k xs = true → R = true) := fun h => by
      rw [HEND.out h, hset, decide_eq_true hk0, decide_eq_true (show xs.length ≤ 4 by omega)]; rfl
    clear hset hk0 h4
    go_enter Tryz.func47, Tryz.ntmps47
    go_wp2_with (go_at_call 52; refine (iSetOk_is HSO _).mono ?_; rintro e w1 ⟨rfl, rfl⟩)
    clear hd hk2
    go_loopw [28] (fun i wr => ∃ j : Nat, j ≤ xs.length ∧ i = .int .i64 j ∧ Hid (goodTo t k (xs.take j) = true) ∧ Hid (Box wr w.heap.size 25 [.int .i64 k, .slice A xs.length c]) ∧ Hid (Below w.heap.size w wr)) (fun i _ => xs.length - (Go.RowKit.intOf i).toNat)
    case atStart => exact ⟨0, Nat.zero_le _, rfl, rfl, HX0, HB0⟩
    case round =>
      obtain ⟨j, hj, rfl, HG, HX, HB⟩ := hrel
      by_cases hlt : j < xs.length
      · obtain ⟨b, off, x, rfl, hcx, hx, hbl⟩ := (HA.out.below HB.out).elem hlt
        have hxs : x.size ≤ 9223372036854775807 := Nat.le_trans (HS.out x (elem_memS hx)) (by omega)
        have hc0 := HX.out.cell (i := 0) (v := .int .i64 k) rfl
        have HSB : Hid (∀ W : World, Calls Tryz.prog 81 #[.int .i64 t, .int .i64 k, .string x] W fun e w' => e = .returned (.tuple #[.bool (asksT.isS t x && asksT.sett t k x), .bool (asksT.isS t x)]) ∧ Below W.heap.size W w') := fun W => iSettledBy x W HSO.out hxs
        have HBX := Lib.hid (HBS.out x (elem_memS hx))
        have HBJ := Lib.hid (HBI.out j x hx)
        have HCO : Hid (∀ W : World, Strs W (some ⟨b, off, none⟩) (xs.take j) → Calls Tryz.prog 82 #[.slice (some ⟨b, off, none⟩) j c, .string x] W fun e w' => e = .returned (.bool (Lib.containsS (xs.take j) x)) ∧ W = w') := fun W h => iContainsS x j c (by rw [List.length_take]; omega) (by omega) h
        have hjc : (j : Int) ≤ (c : Int) := by omega
        have hj0 : (0 : Int) ≤ (j : Int) := by omega
        cases hS : asksT.isS t x with
        | false =>
          have HRF := Lib.hid (HBX.out (.inl hS))
          rw [hS] at HSB
          clear hS
          go_wp2_with (go_at_call 81; refine (HSB.out _).mono ?_; rintro e w1 ⟨rfl, hb⟩; have HB1 := Lib.hid (bel_trans HB.out hb); clear hb hc0)
          go_ret
          exact ⟨by rw [HRF.out] <;> rfl, HB1.out⟩
        | true =>
          cases hE : asksT.sett t k x with
          | true =>
            have HRF := Lib.hid (HBX.out (.inr hE))
            rw [hS, hE] at HSB
            clear hS hE
            go_wp2_with (go_at_call 81; refine (HSB.out _).mono ?_; rintro e w1 ⟨rfl, hb⟩; have HB1 := Lib.hid (bel_trans HB.out hb); clear hb hc0)
            go_ret
            exact ⟨by rw [HRF.out] <;> rfl, HB1.out⟩
          | false =>
            have HS1 := Lib.hid hS
            have HE1 := Lib.hid hE
            rw [hS, hE] at HSB
            clear hS hE
            cases hm : Lib.containsS (xs.take j) x with
            | true =>
              have HRF := Lib.hid (HBJ.out ((Lib.containsS_iff _ _).1 hm))
              rw [hm] at HCO
              clear hm
              go_wp2_with (first
                | (go_at_call 81; refine (HSB.out _).mono ?_; rintro e w1 ⟨rfl, hb⟩; have HB1 := Lib.hid (bel_trans HB.out hb); have HX1 := Lib.hid (HX.out.below hb); have hc1 := HX1.out.cell (i := 1) (v := .slice (some ⟨b, off, none⟩) xs.length c) rfl; have HA1 := Lib.hid ((HA.out.below HB1.out).take j); clear hb hc0)
                | (go_at_call 82; refine (HCO.out _ HA1.out).mono ?_; rintro e w2 ⟨rfl, rfl⟩))
              go_ret
              exact ⟨by rw [HRF.out] <;> rfl, HB1.out⟩
            | false =>
              have HGN : Hid (goodTo t k (xs.take (j + 1)) = true) := by
                unfold Hid
                rw [take_snocS hx]
                exact good_snocS HG.out HS1.out HE1.out fun h => by rw [(Lib.containsS_iff _ _).2 h] at hm; cases hm
              rw [hm] at HCO
              clear hm
              go_wp2_with (first
                | (go_at_call 81; refine (HSB.out _).mono ?_; rintro e w1 ⟨rfl, hb⟩; have HB1 := Lib.hid (bel_trans HB.out hb); have HX1 := Lib.hid (HX.out.below hb); have hc1 := HX1.out.cell (i := 1) (v := .slice (some ⟨b, off, none⟩) xs.length c) rfl; have HA1 := Lib.hid ((HA.out.below HB1.out).take j); clear hb hc0)
                | (go_at_call 82; refine (HCO.out _ HA1.out).mono ?_; rintro e w2 ⟨rfl, rfl⟩))
              go_roundw
              case rel => exact ⟨j + 1, by omega, by go_num, HGN, HX1, HB1⟩
              case measure => simp [Go.RowKit.intOf]; omega
      · obtain rfl : j = xs.length := by omega
        rw [List.take_length] at HG
        have HRT := Lib.hid (HTRUE.out HG.out)
        go_wp2_with fail
        go_ret
        exact ⟨by rw [HRT.out] <;> rfl, HB.out⟩
end Go.Proofs.YtmdogidflaplkaaGreat

namespace Go.Proofs.YtmdogidflaplkaaGreat
open Go.RowKit

set_option maxRecDepth 100000 in
set_option maxHeartbeats 4000000 in
theorem iTalkOk1 {t k : Int} {A : Option Addr} {n c B : Nat} {xs : List ByteArray} {w : World} {cs : List Value} {b : Bool} (hb : Hid (stateOk asksT t ⟨k, xs⟩ = b)) (hn : n = xs.length) (hl : n ≤ 1048576) (hnc : n ≤ c) (hA : Strs w A xs) (hs : ∀ s ∈ xs, s.size ≤ 1048576) (hB : Box w B 28 (.int .i64 t :: cs)) :
    Calls Tryz.prog 49 #[.agg #[.int .i64 k, .slice A n c], .pointer (some ⟨B, 0, none⟩)] w fun e w' => e = .returned (.bool (!b)) ∧ Below w.heap.size w w' := by
  have HB0 : Hid (Below w.heap.size w (w.alloc (.cells #[.int .i64 k, .slice A n c] 25))) := (Below.refl _ _).alloc (Nat.le_refl _) _
  have hc0 := (hB.alloc (.cells #[.int .i64 k, .slice A n c] 25)).cell (i := 0) (v := .int .i64 t) rfl
  have hc1 := hB.cell (i := 0) (v := .int .i64 t) rfl
  have HST : Hid (∀ W : World, Below w.heap.size w W → Calls Tryz.prog 47 #[.int .i64 t, .agg #[.int .i64 k, .slice A n c]] W fun e w' => e = .returned (.bool b) ∧ Below W.heap.size W w') := fun W h => by
    have := iStateOk t k A n c xs W hn hl hnc (hA.below h) hs
    rw [hb.out] at this; exact this
  clear hA hs hn hl hB hnc
  go_enter Tryz.func49, Tryz.ntmps49
  go_wp2_with fail
  refine (HST.out _ HB0.out).mono ?_
  rintro e w1 ⟨rfl, hb⟩
  have HB1 := Lib.hid (bel_trans HB0.out hb)
  clear hb hc0 hc1
  go_wp2_with fail
  go_ret
  exact ⟨rfl, HB1.out⟩
def badAny (t : Int) (xs : List (St ByteArray)) : Bool := xs.any fun x => !stateOk asksT t x
set_option maxRecDepth 100000 in
set_option maxHeartbeats 4000000 in
theorem iIndexX {t : Int} {A : Option Addr} {n c B : Nat} {xs : List (St ByteArray)} {w : World} {cs : List Value} (hn : n = xs.length) (hl : n ≤ 1048576) (hA : StaRow w A xs) (hs : ∀ x ∈ xs, x.op.length ≤ 1048576 ∧ ∀ s ∈ x.op, s.size ≤ 1048576) (hB : Box w B 28 (.int .i64 t :: cs)) :
    Calls Tryz.prog 83 #[.slice A n c, .func (.func 49) #[] #[.pointer (some ⟨B, 0, none⟩)]] w fun e w' => (∃ v : Int, e = .returned (.int .i64 v) ∧ decide (0 ≤ v) = badAny t xs) ∧ Below w.heap.size w w' := by
  subst hn
  have HA := Lib.hid hA
  have HS := Lib.hid hs
  have HBX := Lib.hid hB
  have HHIT : Hid (∀ x ∈ xs, stateOk asksT t x = false → badAny t xs = true) := fun x hx h => by unfold badAny; exact List.any_eq_true.2 ⟨x, hx, by rw [h]; rfl⟩
  have HEND : Hid ((∀ i x, i < xs.length → xs[i]? = some x → stateOk asksT t x = true) → badAny t xs = false) := fun h => by
    unfold badAny
    rw [List.any_eq_false]
    intro x hx
    obtain ⟨i, hi⟩ := List.mem_iff_getElem?.1 hx
    rw [h i x (List.getElem?_eq_some_iff.1 hi).1 hi]; simp
  obtain ⟨R, HR⟩ : ∃ R, Hid (badAny t xs = R) := ⟨_, rfl⟩
  rw [HR.out] at HHIT HEND ⊢
  clear hA hs hB
  go_enter Tryz.func83, Tryz.ntmps83
  go_wp2_with fail
  go_loopw [5, 8] (fun _ i wr => ∃ k : Nat, k ≤ xs.length ∧ i = .int .i64 k ∧ Hid (∀ i x, i < k → xs[i]? = some x → stateOk asksT t x = true) ∧ Hid (Below w.heap.size w wr)) (fun _ i _ => xs.length - (Go.RowKit.intOf i).toNat)
  case atStart => exact ⟨0, Nat.zero_le _, rfl, (fun i x h => by omega), Below.refl _ _⟩
  case round =>
    obtain ⟨k, hk, rfl, HG, HB⟩ := hrel
    by_cases hlt : k < xs.length
    · obtain ⟨b, off, Ai, ci, x, rfl, he0, he1, hle, hmi, hx, hAi, hbl⟩ := (HA.out.below HB.out).elem hlt
      obtain ⟨hxl, hxs⟩ := HS.out x (List.mem_of_getElem? hx.out)
      obtain ⟨v, HV⟩ : ∃ v, Hid (stateOk asksT t x = v) := ⟨_, rfl⟩
      have HP := Lib.hid (iTalkOk1 (b := v) (k := x.known) (by exact HV.out) rfl hxl hle hAi.out hxs (HBX.out.below HB.out))
      have HH := Lib.hid (HHIT.out x (List.mem_of_getElem? hx.out))
      cases v
      · have HRT := Lib.hid (HH.out HV.out)
        go_wp2_with fail
        refine HP.out.mono ?_
        rintro e w1 ⟨rfl, hb⟩
        have HB1 := Lib.hid (bel_trans HB.out hb)
        clear hb he0 he1
        go_wp2_with fail
        go_ret
        exact ⟨⟨_, rfl, by rw [HRT.out]; exact decide_eq_true (by omega)⟩, HB1.out⟩
      · have HGN : Hid (∀ i x, i < k + 1 → xs[i]? = some x → stateOk asksT t x = true) := by
          intro i y hi hy
          by_cases e : i = k
          · subst e
            rw [hx.out] at hy; cases hy; exact HV.out
          · exact HG.out i y (by omega) hy
        go_wp2_with fail
        refine HP.out.mono ?_
        rintro e w1 ⟨rfl, hb⟩
        have HB1 := Lib.hid (bel_trans HB.out hb)
        clear hb he0 he1
        go_wp2_with fail
        go_roundw
        case rel => exact ⟨k + 1, by omega, by go_num, HGN, HB1⟩
        case measure => simp [Go.RowKit.intOf]; omega
    · obtain rfl : k = xs.length := by omega
      have HRT := Lib.hid (HEND.out HG.out)
      go_wp2_with fail
      go_ret
      exact ⟨⟨-1, rfl, by rw [HRT.out]; rfl⟩, HB.out⟩
set_option maxRecDepth 100000 in
theorem iContainsX {t : Int} {A : Option Addr} {n c B : Nat} {xs : List (St ByteArray)} {w : World} {cs : List Value} {b : Bool} (hb : Hid (badAny t xs = b)) (hn : n = xs.length) (hl : n ≤ 1048576) (hA : StaRow w A xs) (hs : ∀ x ∈ xs, x.op.length ≤ 1048576 ∧ ∀ s ∈ x.op, s.size ≤ 1048576) (hB : Box w B 28 (.int .i64 t :: cs)) :
    Calls Tryz.prog 48 #[.slice A n c, .func (.func 49) #[] #[.pointer (some ⟨B, 0, none⟩)]] w fun e w' => e = .returned (.bool b) ∧ Below w.heap.size w w' := by
  have HC := Lib.hid (iIndexX (c := c) hn hl hA hs hB)
  clear hn hl hA hs hB
  go_enter Tryz.func48, Tryz.ntmps48
  go_wp2_with fail
  refine HC.out.mono ?_
  rintro e w1 ⟨⟨v, rfl, hv⟩, hbel⟩
  have HV := Lib.hid hv
  have HB := Lib.hid hbel
  clear hv hbel
  go_wp2_with fail
  go_ret
  exact ⟨ret_bool (by rw [← hb.out, ← HV.out]), HB.out⟩
theorem talk_is (T : TalkV) : okT T = (decide (T.past.length ≤ 10) && stateOk asksT T.things T.now && !badAny T.things T.past) := by
  unfold okT talkOk badAny
  rw [Bool.eq_iff_iff]
  simp only [Bool.and_eq_true, decide_eq_true_eq, List.all_eq_true, Bool.not_eq_true', List.any_eq_false]
  constructor
  · rintro ⟨⟨a, b⟩, c⟩
    exact ⟨⟨b, a⟩, fun x hx => by rw [c x hx]; simp⟩
  · rintro ⟨⟨a, b⟩, c⟩
    exact ⟨⟨b, a⟩, fun x hx => by have := c x hx; simpa using this⟩
set_option maxRecDepth 100000 in
set_option maxHeartbeats 4000000 in
theorem iTalkOk (T : TalkV) (A B : Option Addr) (n c m d : Nat) (w : World) (hT : TkAt w T A n c B m d) (hs : SmallT T) :
    Calls Tryz.prog 11 #[.agg #[.int .i64 T.things, .int .i64 T.now.known, .slice A n c, .slice B m d]] w fun e w' => e = .returned (.bool (okT T)) ∧ Below w.heap.size w w' := by
  have HRES := Lib.hid (talk_is T)
  rw [HRES.out]
  have hpl : m ≤ 1048576 := by rw [hT.pn]; exact hs.past
  have hm10 : decide ((m : Int) ≤ 10) = decide (T.past.length ≤ 10) := by rw [hT.pn, Bool.eq_iff_iff, decide_eq_true_iff, decide_eq_true_iff]; omega
  obtain ⟨t, ht⟩ : ∃ t, T.things = t := ⟨_, rfl⟩
  obtain ⟨q, hq⟩ : ∃ q, T.now.known = q := ⟨_, rfl⟩
  rw [ht, hq]
  have HX0 : Hid (Box (w.alloc (.cells #[.int .i64 t, .int .i64 q, .slice A n c, .slice B m d] 28)) w.heap.size 28 [.int .i64 t, .int .i64 q, .slice A n c, .slice B m d]) := Box.new w _ _
  have HB0 : Hid (Below w.heap.size w (w.alloc (.cells #[.int .i64 t, .int .i64 q, .slice A n c, .slice B m d] 28))) := (Below.refl _ _).alloc (Nat.le_refl _) _
  obtain ⟨v, HV⟩ : ∃ v, Hid (stateOk asksT t ⟨q, T.now.op⟩ = v) := ⟨_, rfl⟩
  have hnow : T.now = ⟨q, T.now.op⟩ := by rw [← hq]
  rw [hnow, HV.out]
  obtain ⟨u, HU⟩ : ∃ u, Hid (badAny t T.past = u) := ⟨_, rfl⟩
  rw [HU.out]
  have HST : Hid (∀ W : World, Below w.heap.size w W → Calls Tryz.prog 47 #[.int .i64 t, .agg #[.int .i64 q, .slice A n c]] W fun e w' => e = .returned (.bool v) ∧ Below W.heap.size W w') := fun W h => by
    have := iStateOk t q A n c T.now.op W hT.hn (by rw [hT.hn]; exact hs.op) hT.hc (hT.hA.below h) hs.txt
    rw [HV.out] at this; exact this
  have HCF : Hid (∀ W : World, Below w.heap.size w W → Box W w.heap.size 28 [.int .i64 t, .int .i64 q, .slice A n c, .slice B m d] → Calls Tryz.prog 48 #[.slice B m d, .func (.func 49) #[] #[.pointer (some ⟨w.heap.size, 0, none⟩)]] W fun e w' => e = .returned (.bool u) ∧ Below W.heap.size W w') := fun W h hx => iContainsX HU hT.pn (by rw [hT.pn]; exact hs.past) (hT.hB.below h) hs.ops hx
  have hmf : ∀ (fn : Fn) (first cap : Array Value) (w : World), (Instr.makeFunc fn first cap).run Tryz.prog w = .ok (.func fn first cap) w := fun _ _ _ _ => rfl
  obtain ⟨z, HZ⟩ : ∃ z, Hid (decide (T.past.length ≤ 10) = z) := ⟨_, rfl⟩
  rw [HZ.out] at hm10 ⊢
  clear hT hs hnow ht hq
  cases z
  · go_enter Tryz.func11, Tryz.ntmps11
    go_wp2_with fail
    go_ret
    exact ⟨rfl, HB0.out⟩
  · cases v
    · go_enter Tryz.func11, Tryz.ntmps11
      go_wp2_with (go_at_call 47; refine (HST.out _ HB0.out).mono ?_; rintro e w1 ⟨rfl, hb⟩; have HB1 := Lib.hid (bel_trans HB0.out hb); clear hb)
      go_ret
      exact ⟨rfl, HB1.out⟩
    · go_enter Tryz.func11, Tryz.ntmps11
      go_wp2_with (first
        | (go_at_call 47; refine (HST.out _ HB0.out).mono ?_; rintro e w1 ⟨rfl, hb⟩; have HB1 := Lib.hid (bel_trans HB0.out hb); have HX1 := Lib.hid (HX0.out.below hb); have hc3 := HX1.out.cell (i := 3) (v := .slice B m d) rfl; clear hb)
        | (go_at_call 48; refine (HCF.out _ HB1.out HX1.out).mono ?_; rintro e w2 ⟨rfl, hb⟩; have HB2 := Lib.hid (bel_trans HB1.out hb); clear hb hc3))
      go_ret
      exact ⟨ret_bool (by cases u <;> rfl), HB2.out⟩
end Go.Proofs.YtmdogidflaplkaaGreat

namespace Go.Proofs.YtmdogidflaplkaaGreat
open Go.RowKit

set_option maxRecDepth 100000 in
set_option maxHeartbeats 2000000 in
theorem lSzStringS (A : Option Addr) (n c : Nat) (xs : List ByteArray) (l : Int) (w : World) (hn : n = xs.length) (hc : n ≤ c) (hm : c ≤ maxLen) (hA : Strs w A xs) (hs : ∀ s ∈ xs, s.size ≤ maxLen) (hl0 : 0 ≤ l) (hl1 : l ≤ 1048576) :
    Calls Tryz.prog 88 #[.slice A n c, .int .i64 l] w fun e w' => (∃ q : Int, e = .returned (.int .i64 q) ∧ q ≤ l ∧ (0 ≤ q → n ≤ 1048576 ∧ ∀ s ∈ xs, s.size ≤ 1048576) ∧ -1 ≤ q) ∧ w = w' := by
  subst hn
  have hm' : xs.length ≤ 9223372036854775807 := by unfold maxLen at hm; omega
  have HA := Lib.hid hA
  have HS := Lib.hid hs
  clear hA hs hc hm
  by_cases hl : l - (xs.length : Int) < 0
  · have hd : decide (l - (xs.length : Int) < 0) = true := decide_eq_true hl
    go_enter Tryz.func88, Tryz.ntmps88
    go_wp2_with fail
    go_ret
    exact ⟨⟨-1, rfl, by omega, by omega, by omega⟩, rfl⟩
  have hd : decide (l - (xs.length : Int) < 0) = false := decide_eq_false hl
  go_enter Tryz.func88, Tryz.ntmps88
  go_wp2_with fail
  clear hd
  go_loop [1, 5] (fun q i => ∃ (k : Nat) (v : Int), k ≤ xs.length ∧ i = .int .i64 k ∧ q = .int .i64 v ∧ 0 ≤ v ∧ v ≤ l ∧ Hid (∀ j s, j < k → xs[j]? = some s → s.size ≤ 1048576)) (fun _ i => xs.length - (Go.RowKit.intOf i).toNat)
  case atStart => exact ⟨0, _, Nat.zero_le _, rfl, rfl, by omega, by omega, fun j d h => by omega⟩
  case round =>
    obtain ⟨k, v, hk, rfl, rfl, hv0, hv1, HSO⟩ := hrel
    by_cases hlt : k < xs.length
    · obtain ⟨b, off, s, rfl, hc0, hx, _⟩ := HA.out.elem hlt
      have hg : s.size ≤ 9223372036854775807 := by have := HS.out s (elem_memS hx); unfold maxLen at this; exact this
      by_cases hq : v - (s.size : Int) < 0
      · have hd : decide (v - (s.size : Int) < 0) = true := decide_eq_true hq
        go_wp2_with fail
        go_ret
        exact ⟨⟨-1, rfl, by omega, by omega, by omega⟩, rfl⟩
      · have hd : decide (v - (s.size : Int) < 0) = false := decide_eq_false hq
        have HSN : Hid (∀ j s, j < k + 1 → xs[j]? = some s → s.size ≤ 1048576) := by
          intro j d hj hdj
          by_cases e : j = k
          · subst e
            rw [hx.out] at hdj; cases hdj; omega
          · exact HSO.out j d (by omega) hdj
        go_wp2_with fail
        go_round
        case rel => exact ⟨k + 1, _, by omega, by go_num, rfl, by omega, by omega, HSN⟩
        case measure => simp [Go.RowKit.intOf]; omega
    · obtain rfl : k = xs.length := by omega
      have HALL : Hid (∀ s ∈ xs, s.size ≤ 1048576) := fun d hd => by
        obtain ⟨j, hj⟩ := List.mem_iff_getElem?.1 hd
        exact HSO.out j d (List.getElem?_eq_some_iff.1 hj).1 hj
      go_wp2_with fail
      go_ret
      exact ⟨⟨v, rfl, by omega, fun _ => ⟨by omega, HALL.out⟩, by omega⟩, rfl⟩
set_option maxRecDepth 100000 in
theorem lSzState (k : Int) (A : Option Addr) (n c : Nat) (xs : List ByteArray) (l : Int) (w : World) (hn : n = xs.length) (hc : n ≤ c) (hm : c ≤ maxLen) (hA : Strs w A xs) (hs : ∀ s ∈ xs, s.size ≤ maxLen) (hl0 : 0 ≤ l) (hl1 : l ≤ 1048576) :
    Calls Tryz.prog 57 #[.agg #[.int .i64 k, .slice A n c], .int .i64 l] w fun e w' => (∃ q : Int, e = .returned (.int .i64 q) ∧ q ≤ l ∧ (0 ≤ q → n ≤ 1048576 ∧ ∀ s ∈ xs, s.size ≤ 1048576) ∧ -1 ≤ q) ∧ Below w.heap.size w w' := by
  have hb : Below w.heap.size w (w.alloc (.cells #[.int .i64 k, .slice A n c] 47)) := (Below.refl _ _).alloc (Nat.le_refl _) _
  have HB := Lib.hid hb
  have HC := Lib.hid (lSzStringS A n c xs l _ hn hc hm (hA.below hb) hs hl0 hl1)
  clear hb hn hc hm hA hs hl0 hl1
  go_enter Tryz.func57, Tryz.ntmps57
  go_wp2_with fail
  refine HC.out.mono ?_
  rintro e w' ⟨⟨q, rfl, hq1, hq2, hq3⟩, rfl⟩
  have HQ := Lib.hid hq2
  clear hq2
  by_cases hq : q < 0
  · have hd : decide (q < 0) = true := decide_eq_true hq
    go_wp2_with fail
    go_ret
    exact ⟨⟨-1, rfl, by omega, by omega, by omega⟩, HB.out⟩
  · have hd : decide (q < 0) = false := decide_eq_false hq
    go_wp2_with fail
    go_ret
    exact ⟨⟨q, rfl, hq1, HQ.out, hq3⟩, HB.out⟩
/-- No text of a talk is longer than any machine's. -/
structure BigT (T : TalkV) : Prop where
  txt : ∀ s ∈ T.now.op, s.size ≤ maxLen
  ops : ∀ x ∈ T.past, ∀ s ∈ x.op, s.size ≤ maxLen
set_option maxRecDepth 100000 in
set_option maxHeartbeats 2000000 in
theorem lSzStateS (A : Option Addr) (n c : Nat) (xs : List (St ByteArray)) (l : Int) (w : World) (hn : n = xs.length) (hc : n ≤ c) (hm : c ≤ maxLen) (hA : StaRow w A xs) (hs : ∀ x ∈ xs, ∀ s ∈ x.op, s.size ≤ maxLen) (hl0 : 0 ≤ l) (hl1 : l ≤ 1048576) :
    Calls Tryz.prog 58 #[.slice A n c, .int .i64 l] w fun e w' => (∃ q : Int, e = .returned (.int .i64 q) ∧ q ≤ l ∧ (0 ≤ q → n ≤ 1048576 ∧ ∀ x ∈ xs, x.op.length ≤ 1048576 ∧ ∀ s ∈ x.op, s.size ≤ 1048576) ∧ -1 ≤ q) ∧ Below w.heap.size w w' := by
  subst hn
  have hm' : xs.length ≤ 9223372036854775807 := by unfold maxLen at hm; omega
  have HA := Lib.hid hA
  have HS := Lib.hid hs
  clear hA hs hc hm
  by_cases hl : l - (xs.length : Int) < 0
  · have hd : decide (l - (xs.length : Int) < 0) = true := decide_eq_true hl
    go_enter Tryz.func58, Tryz.ntmps58
    go_wp2_with fail
    go_ret
    exact ⟨⟨-1, rfl, by omega, by omega, by omega⟩, Below.refl _ _⟩
  have hd : decide (l - (xs.length : Int) < 0) = false := decide_eq_false hl
  go_enter Tryz.func58, Tryz.ntmps58
  go_wp2_with fail
  clear hd
  go_loopw [1, 5] (fun q i wr => ∃ (k : Nat) (v : Int), k ≤ xs.length ∧ i = .int .i64 k ∧ q = .int .i64 v ∧ 0 ≤ v ∧ v ≤ l ∧ Hid (∀ j x, j < k → xs[j]? = some x → x.op.length ≤ 1048576 ∧ ∀ s ∈ x.op, s.size ≤ 1048576) ∧ Hid (Below w.heap.size w wr)) (fun _ i _ => xs.length - (Go.RowKit.intOf i).toNat)
  case atStart => exact ⟨0, _, Nat.zero_le _, rfl, rfl, by omega, by omega, (fun j d h => by omega), Below.refl _ _⟩
  case round =>
    obtain ⟨k, v, hk, rfl, rfl, hv0, hv1, HSO, HB⟩ := hrel
    by_cases hlt : k < xs.length
    · obtain ⟨b, off, Ai, ci, x, rfl, he0, he1, hle, hmi, hx, hAi, hbl⟩ := (HA.out.below HB.out).elem hlt
      have HC := Lib.hid (lSzState x.known Ai x.op.length ci x.op v wr rfl hle hmi hAi.out (HS.out x (List.mem_of_getElem? hx.out)) hv0 (by omega))
      clear hmi
      go_wp2_with fail
      refine HC.out.mono ?_
      rintro e w2 ⟨⟨q, rfl, hq1, hq2, hq3⟩, hb⟩
      have HB2 := Lib.hid (bel_trans HB.out hb)
      have HQ := Lib.hid hq2
      clear hb hq2 he0 he1
      by_cases hq : q < 0
      · have hd : decide (q < 0) = true := decide_eq_true hq
        go_wp2_with fail
        go_ret
        exact ⟨⟨-1, rfl, by omega, by omega, by omega⟩, HB2.out⟩
      · have hd : decide (q < 0) = false := decide_eq_false hq
        have HSN : Hid (∀ j x, j < k + 1 → xs[j]? = some x → x.op.length ≤ 1048576 ∧ ∀ s ∈ x.op, s.size ≤ 1048576) := by
          intro j d hj hdj
          by_cases e : j = k
          · subst e
            rw [hx.out] at hdj; cases hdj; exact HQ.out (by omega)
          · exact HSO.out j d (by omega) hdj
        go_wp2_with fail
        go_roundw
        case rel => exact ⟨k + 1, q, by omega, by go_num, rfl, by omega, by omega, HSN, HB2⟩
        case measure => simp [Go.RowKit.intOf]; omega
    · obtain rfl : k = xs.length := by omega
      have HALL : Hid (∀ x ∈ xs, x.op.length ≤ 1048576 ∧ ∀ s ∈ x.op, s.size ≤ 1048576) := fun d hd => by
        obtain ⟨j, hj⟩ := List.mem_iff_getElem?.1 hd
        exact HSO.out j d (List.getElem?_eq_some_iff.1 hj).1 hj
      go_wp2_with fail
      go_ret
      exact ⟨⟨v, rfl, by omega, fun _ => ⟨by omega, HALL.out⟩, by omega⟩, HB.out⟩
set_option maxRecDepth 100000 in
set_option maxHeartbeats 2000000 in
theorem lSzTalk (T : TalkV) (A B : Option Addr) (n c m d : Nat) (l : Int) (w : World) (hT : TkAt w T A n c B m d) (hs : BigT T) (hl0 : 0 ≤ l) (hl1 : l ≤ 1048576) :
    Calls Tryz.prog 21 #[.agg #[.int .i64 T.things, .int .i64 T.now.known, .slice A n c, .slice B m d], .int .i64 l] w fun e w' => (∃ q : Int, e = .returned (.int .i64 q) ∧ q ≤ l ∧ (0 ≤ q → SmallT T) ∧ -1 ≤ q) ∧ Below w.heap.size w w' := by
  have hb : Below w.heap.size w (w.alloc (.cells #[.int .i64 T.things, .int .i64 T.now.known, .slice A n c, .slice B m d] 50)) := (Below.refl _ _).alloc (Nat.le_refl _) _
  have HX : Hid (Box (w.alloc (.cells #[.int .i64 T.things, .int .i64 T.now.known, .slice A n c, .slice B m d] 50)) w.heap.size 50 [.int .i64 T.things, .int .i64 T.now.known, .slice A n c, .slice B m d]) := Box.new w _ _
  have HB := Lib.hid hb
  have HC := Lib.hid (lSzState T.now.known A n c T.now.op l _ hT.hn hT.hc hT.hm (hT.hA.below hb) hs.txt hl0 hl1)
  have HC2 : Hid (∀ (W : World) (v : Int), Below w.heap.size w W → 0 ≤ v → v ≤ 1048576 → Calls Tryz.prog 58 #[.slice B m d, .int .i64 v] W fun e w' => (∃ q : Int, e = .returned (.int .i64 q) ∧ q ≤ v ∧ (0 ≤ q → m ≤ 1048576 ∧ ∀ x ∈ T.past, x.op.length ≤ 1048576 ∧ ∀ s ∈ x.op, s.size ≤ 1048576) ∧ -1 ≤ q) ∧ Below W.heap.size W w') :=
    fun W v h h0 h1 => lSzStateS B m d T.past v W hT.pn hT.pc hT.pm (hT.hB.below h) hs.ops h0 h1
  have HFIN : Hid (n ≤ 1048576 ∧ (∀ s ∈ T.now.op, s.size ≤ 1048576) → m ≤ 1048576 ∧ (∀ x ∈ T.past, x.op.length ≤ 1048576 ∧ ∀ s ∈ x.op, s.size ≤ 1048576) → SmallT T) := fun h1 h2 => ⟨by rw [← hT.hn]; exact h1.1, by rw [← hT.pn]; exact h2.1, h1.2, h2.2⟩
  clear hb hT hs
  go_enter Tryz.func21, Tryz.ntmps21
  go_wp2_with fail
  refine HC.out.mono ?_
  rintro e w1 ⟨⟨q, rfl, hq1, hq2, hq3⟩, hb⟩
  have HQ := Lib.hid hq2
  have HB1 := Lib.hid (bel_trans HB.out hb)
  have HX1 := Lib.hid (HX.out.below hb)
  clear hq2 hb
  by_cases hq : q < 0
  · have hd : decide (q < 0) = true := decide_eq_true hq
    go_wp2_with fail
    go_ret
    exact ⟨⟨-1, rfl, by omega, by omega, by omega⟩, HB1.out⟩
  have hd : decide (q < 0) = false := decide_eq_false hq
  have hc3 := HX1.out.cell (i := 3) (v := .slice B m d) rfl
  go_wp2_with fail
  refine (HC2.out _ q HB1.out (by omega) (by omega)).mono ?_
  rintro e w2 ⟨⟨q2, rfl, hr1, hr2, hr3⟩, hb⟩
  have HQ2 := Lib.hid hr2
  have HB2 := Lib.hid (bel_trans HB1.out hb)
  clear hr2 hb hc3 hd
  by_cases hq' : q2 < 0
  · have hd : decide (q2 < 0) = true := decide_eq_true hq'
    go_wp2_with fail
    go_ret
    exact ⟨⟨-1, rfl, by omega, by omega, by omega⟩, HB2.out⟩
  have hd : decide (q2 < 0) = false := decide_eq_false hq'
  go_wp2_with fail
  go_ret
  exact ⟨⟨q2, rfl, by omega, fun h => HFIN.out (HQ.out (by omega)) (HQ2.out h), hr3⟩, HB2.out⟩
end Go.Proofs.YtmdogidflaplkaaGreat
