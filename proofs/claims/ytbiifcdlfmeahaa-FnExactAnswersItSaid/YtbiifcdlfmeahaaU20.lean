/-
  What the proofs of this seat's statements share (ResU, ResS).
-/
import Derived.Test.YtbiifcdlfmeahaaU19
import Derived.Test.YtbiifcdlfmeahaaU18
import Derived.Test.YtbiifcdlfmeahaaU16

namespace Go.Proofs.Ytbiifcdlfmeahaa
open Go.RowKit

set_option maxRecDepth 100000 in
set_option maxHeartbeats 4000000 in
theorem iResOf (t : Int) (s : ByteArray) (w : World) (hs : s.size ≤ 9223372036854775807) :
    Calls Try.prog 12 #[.int .i64 t, .string s] w (IssueOfPost (resL t s) (resOk t s) w) := by
  have hnot : ∀ (x : Bool) (w : World), (Op.unary .not (.bool x)).run Try.prog w = .ok (.bool (!x)) w := fun _ _ => rfl
  rcases hx : senT t s with _ | x
  · have HX := Lib.hid hx
    have e2 := res_none hx
    rw [resL_no e2, e2]
    clear hx e2
    go_enter Try.func12, Try.ntmps12
    go_wp2_with fail
    refine (iRead_none HX _ hs).mono ?_
    rintro e w1 ⟨rfl, hb⟩
    have HB := Lib.hid hb
    clear hb
    go_wp2_with fail
    go_ret2
    exact ⟨_, rfl, Owns.nil _ _, HB.out⟩
  · have HX := Lib.hid hx
    obtain ⟨h1, h3, _, hok, _⟩ := senT_ok hx
    have hlen := res_len t x
    by_cases hl : (resS t x).length ≤ 40
    · obtain ⟨e1, e2⟩ := res_few hx hl
      rw [e1, e2]
      obtain ⟨l, HL⟩ : ∃ l, Hid (resS t x = l) := ⟨_, rfl⟩
      rw [HL.out] at hl hlen ⊢
      have hd : decide ((40 : Int) < (l.length : Int)) = false := decide_eq_false (by omega)
      clear hx e1 e2
      go_enter Try.func12, Try.ntmps12
      go_wp2_with fail
      refine (iRead_some HX _ hs).mono ?_
      rintro e w1 ⟨p, rfl, hn, hb⟩
      have HI := Lib.hid (iResS t h1 h3 x p _ _ hok hn)
      have HB := Lib.hid hb
      clear hb hn
      go_wp2_with fail
      refine Calls.mono HI.out ?_
      rintro e w2 ⟨v, rfl, ho, hb⟩
      rw [HL.out] at ho
      obtain ⟨A1, c1, rfl, _, _, _, _⟩ := ho.form
      have HO := Lib.hid (ho.base HB.out.size)
      have HB2 := Lib.hid (bel_trans HB.out hb)
      clear ho hb
      go_wp2_with fail
      go_ret2
      exact ⟨_, rfl, HO.out, HB2.out⟩
    · have e2 := res_many hx (by omega)
      rw [resL_no e2, e2]
      obtain ⟨l, HL⟩ : ∃ l, Hid (resS t x = l) := ⟨_, rfl⟩
      rw [HL.out] at hl hlen
      have hd : decide ((40 : Int) < (l.length : Int)) = true := decide_eq_true (by omega)
      clear hx e2
      go_enter Try.func12, Try.ntmps12
      go_wp2_with fail
      refine (iRead_some HX _ hs).mono ?_
      rintro e w1 ⟨p, rfl, hn, hb⟩
      have HI := Lib.hid (iResS t h1 h3 x p _ _ hok hn)
      have HB := Lib.hid hb
      clear hb hn
      go_wp2_with fail
      refine Calls.mono HI.out ?_
      rintro e w2 ⟨v, rfl, ho, hb⟩
      rw [HL.out] at ho
      obtain ⟨A1, c1, rfl, _, _, _, _⟩ := ho.form
      have HB2 := Lib.hid (bel_trans HB.out hb)
      clear ho hb
      go_wp2_with fail
      go_ret2
      exact ⟨_, rfl, Owns.nil _ _, HB2.out⟩
theorem iResOf_is {t : Int} {s : ByteArray} {r : List Int} {b : Bool} (h : Hid (resL t s = r)) (h2 : Hid (resOk t s = b)) (w : World) (hs : s.size ≤ 9223372036854775807) :
    Calls Try.prog 12 #[.int .i64 t, .string s] w (IssueOfPost r b w) := by
  have := iResOf t s w hs
  rw [h.out, h2.out] at this; exact this

set_option maxRecDepth 100000 in
set_option maxHeartbeats 4000000 in
theorem iByRes (t : Int) (s u : ByteArray) (w : World) (hs : s.size ≤ 9223372036854775807) (hu : u.size ≤ 9223372036854775807) :
    Calls Try.prog 22 #[.int .i64 t, .string s, .string u] w fun e w' => e = .returned (.bool (byResB t s u)) ∧ Below w.heap.size w w' := by
  have hnot : ∀ (x : Bool) (w : World), (Op.unary .not (.bool x)).run Try.prog w = .ok (.bool (!x)) w := fun _ _ => rfl
  have hla := resL_len t s
  have hlb := resL_len t u
  have HGA : Hid (resOk t s = true → Good t (resL t s)) := res_good
  have HGB : Hid (resOk t u = true → Good t (resL t u)) := res_good
  have HN : Hid (resOk t s = false ∨ resOk t u = false → byResB t s u = false) := byRes_no
  have HY : Hid (resOk t s = true → resOk t u = true → byResB t s u = (resL t s).all fun r => anyWithin r (resL t u)) := byRes_yes
  obtain ⟨a, HA⟩ : ∃ l, Hid (resL t s = l) := ⟨_, rfl⟩
  obtain ⟨b, HB⟩ : ∃ l, Hid (resL t u = l) := ⟨_, rfl⟩
  obtain ⟨p, HP⟩ : ∃ l, Hid (resOk t s = l) := ⟨_, rfl⟩
  obtain ⟨q, HQ⟩ : ∃ l, Hid (resOk t u = l) := ⟨_, rfl⟩
  rw [HA.out] at hla HGA HY
  rw [HB.out] at hlb HGB HY
  rw [HP.out] at HGA HN HY
  rw [HQ.out] at HGB HN HY
  have go : (p = false ∨ q = false) ∨ (p = true ∧ q = true) := by cases p <;> cases q <;> simp
  rcases go with hpq | ⟨rfl, rfl⟩
  · rw [HN.out hpq]
    have h3 : (p = false) ∨ (p = true ∧ q = false) := by rcases hpq with h | h <;> cases p <;> simp_all
    clear hpq
    rcases h3 with rfl | ⟨rfl, rfl⟩
    all_goals
      go_enter Try.func22, Try.ntmps22
      go_wp2_with fail
      refine (iResOf_is HA HP _ hs).mono ?_
      rintro e w1 ⟨v, rfl, ho, hb⟩
      have HB1 := Lib.hid hb
      obtain ⟨A1, c1, rfl, _, _, _, _⟩ := ho.form
      clear hb ho
      go_wp2_with fail
      refine (iResOf_is HB HQ _ hu).mono ?_
      rintro e w2 ⟨v, rfl, ho, hb⟩
      have HB2 := Lib.hid (bel_trans HB1.out hb)
      obtain ⟨A2, c2, rfl, _, _, _, _⟩ := ho.form
      clear hb ho
      go_wp2_with fail
      go_ret
      exact ⟨rfl, HB2.out⟩
  · rw [HY.out rfl rfl]
    have HRA := Lib.hid (HGA.out rfl).range
    have HRB := Lib.hid (HGB.out rfl).range
    go_enter Try.func22, Try.ntmps22
    go_wp2_with fail
    refine (iResOf_is HA HP _ hs).mono ?_
    rintro e w1 ⟨v, rfl, ho, hb⟩
    have HB1 := Lib.hid hb
    obtain ⟨A1, c1, rfl, _, _, _, _⟩ := ho.form
    have HR1 := Lib.hid (Owns.row ho (by omega))
    clear hb ho
    go_wp2_with fail
    refine (iResOf_is HB HQ _ hu).mono ?_
    rintro e w2 ⟨v, rfl, ho, hb⟩
    have HB2 := Lib.hid (bel_trans HB1.out hb)
    obtain ⟨A2, c2, rfl, _, _, _, _⟩ := ho.form
    have HR2 := Lib.hid (Owns.row ho (by omega))
    replace HR1 := Lib.hid (HR1.out.below hb)
    clear hb ho
    go_wp2_with fail
    go_loopw [33] (fun i wr => ∃ k : Nat, k ≤ a.length ∧ i = .int .i64 k ∧ Hid (((a.take k).all fun x => anyWithin x b) = true) ∧ wr = w2) (fun i _ => a.length - (Go.RowKit.intOf i).toNat)
    case atStart => exact ⟨0, Nat.zero_le _, rfl, rfl, rfl⟩
    case round =>
      obtain ⟨k, hk, rfl, hsofar, rfl⟩ := hrel
      by_cases hlt : k < a.length
      · obtain ⟨bb, off, x, rfl, hcell, hx, _⟩ := HR1.out.hA.elem hlt
        obtain ⟨he1, he2⟩ := HRA.out x (elem_mem hx)
        rcases hw : anyWithin x b with _ | _
        · have HW := Lib.hid hw
          clear hw
          go_wp2_with fail
          refine (iWithinAny_is HW _ _ _ _ HR2.out.hn he1 he2 HRB.out HR2.out.hl HR2.out.hA).mono ?_
          rintro e w' ⟨rfl, rfl⟩
          go_wp2_with fail
          go_ret
          exact ⟨ret_bool (by rw [allAny_miss hx HW.out]), HB2.out⟩
        · have HW := Lib.hid hw
          clear hw
          go_wp2_with fail
          refine (iWithinAny_is HW _ _ _ _ HR2.out.hn he1 he2 HRB.out HR2.out.hl HR2.out.hA).mono ?_
          rintro e w' ⟨rfl, rfl⟩
          go_wp2_with fail
          go_roundw
          case rel => exact ⟨k + 1, by omega, by go_num, by unfold Hid; rw [allAny_snoc hx, hsofar.out, HW.out]; rfl, by first | rfl | trivial⟩
          case measure => simp [Go.RowKit.intOf]; omega
      · obtain rfl : k = a.length := by omega
        have HT : Hid ((a.all fun x => anyWithin x b) = true) := by unfold Hid; rw [← hsofar.out, List.take_length]
        clear hsofar
        go_wp2_with fail
        go_ret
        exact ⟨ret_bool (by rw [HT.out]), HB2.out⟩
theorem iByRes_is {t : Int} {s u : ByteArray} {b : Bool} (h : Hid (byResB t s u = b)) (w : World) (hs : s.size ≤ 9223372036854775807) (hu : u.size ≤ 9223372036854775807) :
    Calls Try.prog 22 #[.int .i64 t, .string s, .string u] w fun e w' => e = .returned (.bool b) ∧ Below w.heap.size w w' := by
  have := iByRes t s u w hs hu
  rw [h.out] at this; exact this

set_option maxRecDepth 100000 in
set_option maxHeartbeats 4000000 in
theorem iAnswersOf (t : Int) (s : ByteArray) (w : World) (hs : s.size ≤ 9223372036854775807) :
    Calls Try.prog 26 #[.int .i64 t, .string s] w (OwnPost (answersL t s) w) := by
  have hnot : ∀ (x : Bool) (w : World), (Op.unary .not (.bool x)).run Try.prog w = .ok (.bool (!x)) w := fun _ _ => rfl
  have hla := resL_len t s
  rcases hp : resOk t s with _ | _
  · have HP := Lib.hid hp
    have HA := Lib.hid (resL_no hp)
    rw [answers_no hp]
    clear hp
    go_enter Try.func26, Try.ntmps26
    go_wp2_with fail
    refine (iResOf_is HA HP _ hs).mono ?_
    rintro e w1 ⟨v, rfl, ho, hb⟩
    have HB1 := Lib.hid hb
    obtain ⟨A1, c1, rfl, _, _, _, _⟩ := ho.form
    clear hb ho
    go_wp2_with fail
    go_ret
    exact ⟨_, rfl, Owns.nil _ _, HB1.out⟩
  · have HP := Lib.hid hp
    have hg := res_good hp
    unfold answersL
    obtain ⟨a, HA⟩ : ∃ l, Hid (resL t s = l) := ⟨_, rfl⟩
    rw [HA.out] at hla hg ⊢
    have hpa : 1 ≤ a.length := List.length_pos_iff.2 hg.1
    have HRA := Lib.hid hg.range
    clear hp hg
    go_enter Try.func26, Try.ntmps26
    go_wp2_with fail
    refine (iResOf_is HA HP _ hs).mono ?_
    rintro e w1 ⟨v, rfl, ho, hb⟩
    have HB1 := Lib.hid hb
    obtain ⟨A1, c1, rfl, _, _, _, _⟩ := ho.form
    have HR1 := Lib.hid (Owns.row ho (by omega))
    clear hb ho
    go_wp2_with fail
    refine (iGreatest _ _ _ a _ rfl hpa (by omega) HRA.out HR1.out.hA).mono ?_
    rintro e w2 ⟨v, rfl, ho, hb⟩
    have HO := Lib.hid (ho.base HB1.out.size)
    have HB2 := Lib.hid (bel_trans HB1.out hb)
    clear ho hb
    go_wp2_with fail
    go_ret
    exact ⟨_, rfl, HO.out, HB2.out⟩
theorem iAnswersOf_is {t : Int} {s : ByteArray} {r : List Int} (h : Hid (answersL t s = r)) (w : World) (hs : s.size ≤ 9223372036854775807) :
    Calls Try.prog 26 #[.int .i64 t, .string s] w (OwnPost r w) := by
  have := iAnswersOf t s w hs
  rw [h.out] at this; exact this

def PairPost (b : Bool) (n : Int) (w : World) (e : Ending) (w' : World) : Prop := e = .returned (.tuple #[.bool b, .int .i64 n]) ∧ Below w.heap.size w w'
theorem leftTo_skip {k : Int} {xs : List Int} {j : Nat} {x : Int} (hx : Hid (xs[j]? = some x)) (h : andI k x = 0) : leftTo k (xs.take (j + 1)) = leftTo k (xs.take j) := by rw [leftTo_snoc hx, if_neg (by rw [h]; simp)]; rfl
theorem leftTo_hit {k : Int} {xs : List Int} {j : Nat} {x : Int} (hx : Hid (xs[j]? = some x)) (h : andI k x ≠ 0) : leftTo k (xs.take (j + 1)) = leftTo k (xs.take j) + 1 := by rw [leftTo_snoc hx, if_pos h]
theorem leftTo_small (k : Int) (xs : List Int) (j : Nat) : leftTo k (xs.take j) ≤ xs.length := Nat.le_trans (leftTo_le k _) (by rw [List.length_take]; omega)
set_option maxRecDepth 100000 in
set_option maxHeartbeats 4000000 in
theorem iAnswersIt (t k : Int) (s : ByteArray) (w : World) (hs : s.size ≤ 9223372036854775807) :
    Calls Try.prog 30 #[.int .i64 t, .int .i64 k, .string s] w (PairPost (answersB t k s) (answersN t k s) w) := by
  have hnot : ∀ (x : Bool) (w : World), (Op.unary .not (.bool x)).run Try.prog w = .ok (.bool (!x)) w := fun _ _ => rfl
  have hla := resL_len t s
  have hln := answers_len t s
  rcases hp : resOk t s with _ | _
  · have HP := Lib.hid hp
    have HA := Lib.hid (resL_no hp)
    obtain ⟨e1, e2⟩ := answers_no_set (k := k) (.inl hp)
    rw [e1, e2]
    clear hp e1 e2
    go_enter Try.func30, Try.ntmps30
    go_wp2_with fail
    refine (iResOf_is HA HP _ hs).mono ?_
    rintro e w1 ⟨v, rfl, ho, hb⟩
    have HB1 := Lib.hid hb
    obtain ⟨A1, c1, rfl, _, _, _, _⟩ := ho.form
    clear hb ho
    go_wp2_with fail
    go_ret2
    exact ⟨rfl, HB1.out⟩
  · rcases hk : setOkB t k with _ | _
    · have HP := Lib.hid hp
      have HK := Lib.hid hk
      obtain ⟨a, HA⟩ : ∃ l, Hid (resL t s = l) := ⟨_, rfl⟩
      obtain ⟨e1, e2⟩ := answers_no_set (s := s) (.inr hk)
      rw [e1, e2]
      clear hp hk e1 e2
      go_enter Try.func30, Try.ntmps30
      go_wp2_with fail
      refine (iResOf_is HA HP _ hs).mono ?_
      rintro e w1 ⟨v, rfl, ho, hb⟩
      have HB1 := Lib.hid hb
      obtain ⟨A1, c1, rfl, _, _, _, _⟩ := ho.form
      clear hb ho
      go_wp2_with fail
      refine (iSetOk _ _ _).mono ?_
      rintro e w' ⟨rfl, rfl⟩
      rw [HK.out]
      go_wp2_with fail
      go_ret2
      exact ⟨rfl, HB1.out⟩
    · have HP := Lib.hid hp
      have HK := Lib.hid hk
      have hg := res_good hp
      obtain ⟨_, _, hk0, hka, hk256⟩ := setOkB_lt hk
      rcases ha : anyWithin k (resL t s) with _ | _
      · obtain ⟨e1, e2⟩ := answers_left hp hk ha
        rw [e1, e2]
        have HT : Hid (answersL t s = tidyL (resL t s)) := rfl
        have hrt : ∀ x ∈ answersL t s, 0 ≤ x ∧ x < 256 := fun x hx => hg.range x (tidy_sub hg.range x hx)
        obtain ⟨a, HA⟩ : ∃ l, Hid (resL t s = l) := ⟨_, rfl⟩
        obtain ⟨l, HL⟩ : ∃ l, Hid (answersL t s = l) := ⟨_, rfl⟩
        rw [HA.out] at hla hg HT ha
        rw [HL.out] at hln hrt HT ⊢
        have hpa : 1 ≤ a.length := List.length_pos_iff.2 hg.1
        have HRA := Lib.hid hg.range
        have HRT := Lib.hid hrt
        have HAW := Lib.hid ha
        clear hp hg e1 e2 hk ha hrt
        go_enter Try.func30, Try.ntmps30
        go_wp2_with fail
        refine (iResOf_is HA HP _ hs).mono ?_
        rintro e w1 ⟨v, rfl, ho, hb⟩
        have HB1 := Lib.hid hb
        obtain ⟨A1, c1, rfl, _, _, _, _⟩ := ho.form
        have HR1 := Lib.hid (Owns.row ho (by omega))
        clear hb ho
        go_wp2_with fail
        refine (iSetOk _ _ _).mono ?_
        rintro e w' ⟨rfl, rfl⟩
        rw [HK.out]
        go_wp2_with fail
        refine (iWithinAny_is HAW _ _ _ _ HR1.out.hn hk0 hk256 HRA.out HR1.out.hl HR1.out.hA).mono ?_
        rintro e w' ⟨rfl, rfl⟩
        go_wp2_with fail
        refine (iGreatest _ _ _ a _ rfl hpa (by omega) HRA.out HR1.out.hA).mono ?_
        rintro e w2 ⟨v, rfl, ho, hb⟩
        rw [← HT.out] at ho
        obtain ⟨A2, c2, rfl, _, _, _, _⟩ := ho.form
        have HR2 := Lib.hid (Owns.row ho (by omega))
        have HB2 := Lib.hid (bel_trans HB1.out hb)
        clear ho hb
        go_wp2_with fail
        go_loopw [10, 33] (fun n i wr => ∃ j : Nat, j ≤ l.length ∧ i = .int .i64 j ∧ n = .int .i64 (leftTo k (l.take j) : Nat) ∧ wr = w2) (fun _ i _ => l.length - (Go.RowKit.intOf i).toNat)
        case atStart => exact ⟨0, Nat.zero_le _, rfl, rfl, rfl⟩
        case round =>
          obtain ⟨j, hj, rfl, rfl, rfl⟩ := hrel
          have hsm := leftTo_small k l j
          by_cases hlt : j < l.length
          · obtain ⟨bb, off, x, rfl, hcell, hx, _⟩ := HR2.out.hA.elem hlt
            obtain ⟨he1, he2⟩ := HRT.out x (elem_mem hx)
            have hbi : bits .and .i64 x k = andI k x := by rw [bits_and x k he1 (by omega) hk0 (by omega), andI_comm]
            obtain ⟨m, HM⟩ : ∃ m : Nat, Hid (leftTo k (l.take j) = m) := ⟨_, rfl⟩
            rw [HM.out] at hsm ⊢
            by_cases hz : andI k x = 0
            · have HS := Lib.hid (leftTo_skip hx hz)
              have hbz : (bits .and .i64 x k != 0) = false := by rw [hbi, hz]; rfl
              clear hbi hz
              go_wp2_with fail
              go_roundw
              case rel => exact ⟨j + 1, by omega, by go_num, by rw [HS.out, HM.out], by first | rfl | trivial⟩
              case measure => simp [Go.RowKit.intOf]; omega
            · have HS := Lib.hid (leftTo_hit hx hz)
              have hbz : (bits .and .i64 x k != 0) = true := by rw [hbi]; simpa using hz
              clear hbi hz
              go_wp2_with fail
              go_roundw
              case rel => exact ⟨j + 1, by omega, by go_num, by rw [HS.out, HM.out]; go_num, by first | rfl | trivial⟩
              case measure => simp [Go.RowKit.intOf]; omega
          · obtain rfl : j = l.length := by omega
            rw [List.take_length] at hsm ⊢
            go_wp2_with fail
            go_ret2
            exact ⟨rfl, HB2.out⟩
      · obtain ⟨e1, e2⟩ := answers_yes hp hk ha
        rw [e1, e2]
        obtain ⟨a, HA⟩ : ∃ l, Hid (resL t s = l) := ⟨_, rfl⟩
        rw [HA.out] at hla hg ha
        have HRA := Lib.hid hg.range
        have HAW := Lib.hid ha
        clear hp hg e1 e2 hk ha
        go_enter Try.func30, Try.ntmps30
        go_wp2_with fail
        refine (iResOf_is HA HP _ hs).mono ?_
        rintro e w1 ⟨v, rfl, ho, hb⟩
        have HB1 := Lib.hid hb
        obtain ⟨A1, c1, rfl, _, _, _, _⟩ := ho.form
        have HR1 := Lib.hid (Owns.row ho (by omega))
        clear hb ho
        go_wp2_with fail
        refine (iSetOk _ _ _).mono ?_
        rintro e w' ⟨rfl, rfl⟩
        rw [HK.out]
        go_wp2_with fail
        refine (iWithinAny_is HAW _ _ _ _ HR1.out.hn hk0 hk256 HRA.out HR1.out.hl HR1.out.hA).mono ?_
        rintro e w' ⟨rfl, rfl⟩
        go_wp2_with fail
        go_ret2
        exact ⟨rfl, HB1.out⟩
theorem iAnswersIt_is {t k : Int} {s : ByteArray} {b : Bool} {n : Int} (h : Hid (answersB t k s = b)) (h2 : Hid (answersN t k s = n)) (w : World) (hs : s.size ≤ 9223372036854775807) :
    Calls Try.prog 30 #[.int .i64 t, .int .i64 k, .string s] w (PairPost b n w) := by
  have := iAnswersIt t k s w hs
  rw [h.out, h2.out] at this; exact this
end Go.Proofs.Ytbiifcdlfmeahaa

namespace Go.Proofs.Ytbiifcdlfmeahaa
open Go.RowKit

theorem Nums.at_ {k : IntKind} {w : World} {b off : Nat} {xs : List Int} (h : Nums k w (some ⟨b, off, none⟩) xs) {i : Nat} {x : Int} (hx : Hid (xs[i]? = some x)) : w.cell? ⟨b, off + i, none⟩ = some (.int k x) := by
  have hi := elem_lt hx
  obtain ⟨b', off', hA, hb, hc⟩ := h (by omega)
  cases hA
  have := hc i hi
  rwa [List.getD_eq_getElem?_getD, hx.out] at this
def AddPost (l : List Int) (w : World) (e : Ending) (w' : World) : Prop := ∃ v, e = .returned v ∧ Owns w' w.heap.size v l ∧ Below w.heap.size w w'
set_option maxRecDepth 100000 in
set_option maxHeartbeats 8000000 in
theorem sAdd (s : Int) (A : Option Addr) (n c : Nat) (xs : List Int) (w : World) (hl : n ≤ 100000) (ha : Row w A n c xs) :
    Calls Try.prog 75 #[.slice A n c, .int .i64 s] w (AddPost (addL s xs) w) := by
  have HA := Lib.hid ha
  obtain rfl := ha.hn
  clear ha
  have hnot : ∀ (x : Bool) (w : World), (Op.unary .not (.bool x)).run Try.prog w = .ok (.bool (!x)) w := fun _ _ => rfl
  go_enter Try.func75, Try.ntmps75
  go_wp2_with fail
  go_loopw [5, 6, 7] (fun o p i wr => ∃ (k : Nat) (out : List Int) (b : Bool), k ≤ xs.length ∧ i = .int .i64 k ∧ p = .bool b ∧ Hid (AddAt s xs k out b) ∧ Owns wr w.heap.size o out ∧ Below w.heap.size w wr) (fun _ _ i _ => xs.length - (Go.RowKit.intOf i).toNat)
  case atStart => exact ⟨0, [], false, Nat.zero_le _, rfl, rfl, AddAt.start s xs, Owns.lit w w.heap.size [] (Nat.le_refl _) (by simp [maxLen]), (Below.refl _ _).alloc (Nat.le_refl _) _⟩
  case round =>
    obtain ⟨k, out, b, hk, rfl, rfl, hat, hown, hbel⟩ := hrel
    have HOW := Lib.hid hown
    have HBW := Lib.hid hbel
    have hol := hat.out.len
    clear hown hbel
    by_cases hlt : k < xs.length
    · obtain ⟨bb, off, x, rfl, hcell, hx, _⟩ := (HA.out.hA.below HBW.out).elem hlt
      have hki : (k : Int) < (xs.length : Int) := by omega
      cases b
      · by_cases h1 : x < s
        · have hd : decide (s ≤ x) = false := decide_eq_false (by omega)
          have HT := Lib.hid (hat.out.less hx h1)
          clear h1
          go_wp2_with (at_builtin; refine wp_append1 (W := wr) rfl _ _ rfl w.heap.size u5 out rfl HOW.out x rfl (by omega) HBW.out.size ?_; intro v' w' hown' hgrow)
          have hb' := below_append HBW.out HBW.out.size HOW.out (Nat.le_refl _) hgrow
          go_roundw
          case rel => exact ⟨k + 1, _, _, by omega, by go_num, rfl, HT, hown', hb'⟩
          case measure => simp [Go.RowKit.intOf]; omega
        · by_cases h2 : x = s
          · have hd : decide (s ≤ x) = true := decide_eq_true (by omega)
            have hd2 : decide (s < x) = false := decide_eq_false (by omega)
            have HT := Lib.hid (hat.out.same hx h2)
            clear h1 h2
            go_wp2_with (at_builtin; refine wp_append1 (W := wr) rfl _ _ rfl w.heap.size u5 out rfl HOW.out x rfl (by omega) HBW.out.size ?_; intro v' w' hown' hgrow)
            have hb' := below_append HBW.out HBW.out.size HOW.out (Nat.le_refl _) hgrow
            go_roundw
            case rel => exact ⟨k + 1, _, _, by omega, by go_num, rfl, HT, hown', hb'⟩
            case measure => simp [Go.RowKit.intOf]; omega
          · have hd : decide (s ≤ x) = true := decide_eq_true (by omega)
            have hd2 : decide (s < x) = true := decide_eq_true (by omega)
            have HT := Lib.hid (hat.out.more hx (by omega))
            clear h1 h2
            go_wp2_with (at_builtin; first
              | (refine wp_append1 (W := wr) rfl _ _ rfl w.heap.size u5 out rfl HOW.out s rfl (by omega) HBW.out.size ?_; intro v2 w2 hown2 hgrow2; have HO2 := Lib.hid hown2; have HB2 := Lib.hid (below_append HBW.out HBW.out.size HOW.out (Nat.le_refl _) hgrow2); have hcell2 := Nums.at_ (HA.out.hA.below HB2.out) hx; clear hown2 hgrow2 HOW HBW hcell)
              | (refine wp_append1 (W := w2) rfl _ _ rfl w.heap.size v2 (out ++ [s]) rfl HO2.out x rfl (by simp; omega) HB2.out.size ?_; intro v' w' hown' hgrow))
            have hb' := below_append HB2.out HB2.out.size HO2.out (Nat.le_refl _) hgrow
            go_roundw
            case rel => exact ⟨k + 1, _, _, by omega, by go_num, rfl, HT, hown', hb'⟩
            case measure => simp [Go.RowKit.intOf]; omega
      · have HT := Lib.hid (hat.out.keep hx)
        go_wp2_with (at_builtin; refine wp_append1 (W := wr) rfl _ _ rfl w.heap.size u5 out rfl HOW.out x rfl (by omega) HBW.out.size ?_; intro v' w' hown' hgrow)
        have hb' := below_append HBW.out HBW.out.size HOW.out (Nat.le_refl _) hgrow
        go_roundw
        case rel => exact ⟨k + 1, _, _, by omega, by go_num, rfl, HT, hown', hb'⟩
        case measure => simp [Go.RowKit.intOf]; omega
    · obtain rfl : k = xs.length := by omega
      cases b
      · have HT := Lib.hid (hat.out.end_)
        go_wp2_with (at_builtin; refine wp_append1 (W := wr) rfl _ _ rfl w.heap.size u5 out rfl HOW.out s rfl (by omega) HBW.out.size ?_; intro v' w' hown' hgrow)
        have hb' := below_append HBW.out HBW.out.size HOW.out (Nat.le_refl _) hgrow
        rw [HT.out] at hown'
        go_ret
        exact ⟨_, rfl, hown', hb'⟩
      · have HT := Lib.hid (hat.out.done)
        rw [HT.out] at HOW
        go_wp2_with fail
        go_ret
        exact ⟨_, rfl, HOW.out, HBW.out⟩
theorem sAdd_is {s : Int} {xs l : List Int} (h : Hid (addL s xs = l)) {A : Option Addr} {n c : Nat} {w : World} (hl : n ≤ 100000) (ha : Row w A n c xs) :
    Calls Try.prog 75 #[.slice A n c, .int .i64 s] w (AddPost l w) := by
  have := sAdd s A n c xs w hl ha
  rw [h.out] at this; exact this

def SRes (t : Int) (s : ByteArray) (x : Sen) (rest : List Nat) (w : World) (e : Ending) (w' : World) : Prop :=
  ∃ v, ∃ a2 : Nat, e = .returned (.tuple #[v, .int .i64 a2]) ∧ a2 ≤ s.size ∧ (bytesN s).drop a2 = rest ∧ Owns w' w.heap.size v (resS t x) ∧ Below w.heap.size w w'
def ResAt (t : Int) (s : ByteArray) (at_ : Nat) (x : Sen) (rest : List Nat) : Prop := ∀ W, Calls Try.prog 41 #[.int .i64 t, .string s, .int .i64 at_] W (SRes t s x rest W)
def uniTo (a : List Int) (k : Nat) : Int := unionI (a.take k)
theorem uniTo_end (a : List Int) : uniTo a a.length = unionI a := by unfold uniTo; rw [List.take_length]

set_option maxRecDepth 100000 in
set_option maxHeartbeats 4000000 in
theorem sRs_no (t : Int) (s : ByteArray) (at_ : Nat) (w : World) (hs : s.size ≤ 1048576) (hat : at_ < s.size) (hc : s[at_].toNat = 33) (h1 : 1 ≤ t) (h3 : t ≤ 3) (x : Sen) (rest : List Nat) (hi : ResAt t s (at_ + 1) x rest) :
    Calls Try.prog 41 #[.int .i64 t, .string s, .int .i64 at_] w (SRes t s (.no x) rest w) := by
  have hd : (at_ : Int) < (s.size : Int) := by omega
  have hd0 : (0 : Int) ≤ (at_ : Int) := by omega
  have HI := Lib.hid hi
  have hg := (res_main h1 h3 x).1
  have hl := res_len t x
  have hal := allOf_lt t
  have hu := union_le h1 h3 hg.2
  have HADD : Hid (addL (allOf t - unionI (resS t x)) (resS t x) = setL (resS t x ++ [allOf t - unionI (resS t x)])) := addL_set (res_asc t x) hg.range (by omega) (by omega)
  have HE : Hid (resS t (.no x) = [allOf t - unionI (resS t x)]) := rfl
  obtain ⟨a, HA⟩ : ∃ a, Hid (resS t x = a) := ⟨_, rfl⟩
  rw [HA.out] at hg hl hu HADD HE
  have HST : Hid (∀ (k : Nat) (y : Int), Hid (a[k]? = some y) → 0 ≤ uniTo a k ∧ uniTo a k ≤ allOf t ∧ 0 ≤ y ∧ y ≤ allOf t ∧ uniTo a (k + 1) = orI (uniTo a k) y) := fun k y hy => by
    have hu := union_le h1 h3 (take_sets hg.2 k)
    have := setOkB_lt (hg.2 y (elem_mem hy))
    exact ⟨hu.1, hu.2, this.2.2.1, this.2.2.2.1, union_take hy⟩
  have HUE := Lib.hid (uniTo_end a)
  clear hi hg
  obtain ⟨hal0, hal1⟩ := hal
  obtain ⟨hu0, hu1⟩ := hu
  go_enter Try.func41, Try.ntmps41
  go_wp2_with fail
  refine (HI.out _).mono ?_
  rintro e w1 ⟨v, a2, rfl, ha2, hd2, ho, hb⟩
  rw [HA.out] at ho
  obtain ⟨A1, c1, rfl, _, _, _, _⟩ := ho.form
  have HB := Lib.hid hb
  have HR := Lib.hid (Owns.row ho (by omega))
  have HD := Lib.hid hd2
  have hsz := hb.size
  clear hb ho hd2
  go_wp2_with fail
  go_loopw [10, 11] (fun v i wr => ∃ k : Nat, k ≤ a.length ∧ i = .int .i64 k ∧ v = .int .i64 (uniTo a k) ∧ ∃ q, wr = w1.drewN q) (fun _ i _ => a.length - (Go.RowKit.intOf i).toNat)
  case atStart => exact ⟨0, Nat.zero_le _, rfl, rfl, 0, rfl⟩
  case round =>
    obtain ⟨k, hk, rfl, rfl, q, rfl⟩ := hrel
    by_cases hlt : k < a.length
    · obtain ⟨bb, off, y, rfl, hcell, hy, _⟩ := HR.out.hA.elem hlt
      obtain ⟨g0, g1, y0, y1, hun⟩ := HST.out k y hy
      have HUN := Lib.hid hun
      clear hun
      go_wp2_with fail
      refine (sEither (uniTo a k) y g0 (by omega) y0 (by omega) _).mono ?_
      rintro e w' ⟨rfl, q2, rfl⟩
      go_wp2_with fail
      go_roundw
      case rel => exact ⟨k + 1, by omega, by go_num, by rw [HUN.out], _, rfl⟩
      case measure => simp [Go.RowKit.intOf]; omega
    · obtain rfl : k = a.length := by omega
      rw [HUE.out]
      go_wp2_with fail
      refine (sAll t _ h1 h3).mono ?_
      rintro e w' ⟨rfl, rfl⟩
      go_wp2_with fail
      go_ret2
      exact ⟨_, a2, rfl, ha2, HD.out, by rw [HE.out]; exact Owns.lit (w1.drewN q) w.heap.size [allOf t - unionI a] hsz (by simp [maxLen]), (bel_drewN HB.out q).alloc hsz _⟩
set_option maxRecDepth 100000 in
set_option maxHeartbeats 4000000 in
theorem sRs_ask (t : Int) (s : ByteArray) (at_ : Nat) (w : World) (hs : s.size ≤ 1048576) (hat : at_ < s.size) (hc : s[at_].toNat = 63) (h1 : 1 ≤ t) (h3 : t ≤ 3) (x : Sen) (rest : List Nat) (hi : ResAt t s (at_ + 1) x rest) :
    Calls Try.prog 41 #[.int .i64 t, .string s, .int .i64 at_] w (SRes t s (.ask x) rest w) := by
  have hd : (at_ : Int) < (s.size : Int) := by omega
  have hd0 : (0 : Int) ≤ (at_ : Int) := by omega
  have HI := Lib.hid hi
  have hg := (res_main h1 h3 x).1
  have hl := res_len t x
  have hal := allOf_lt t
  have hu := union_le h1 h3 hg.2
  have HADD : Hid (addL (allOf t - unionI (resS t x)) (resS t x) = setL (resS t x ++ [allOf t - unionI (resS t x)])) := addL_set (res_asc t x) hg.range (by omega) (by omega)
  have HE : Hid (resS t (.ask x) = setL (resS t x ++ [allOf t - unionI (resS t x)])) := rfl
  obtain ⟨a, HA⟩ : ∃ a, Hid (resS t x = a) := ⟨_, rfl⟩
  rw [HA.out] at hg hl hu HADD HE
  have HST : Hid (∀ (k : Nat) (y : Int), Hid (a[k]? = some y) → 0 ≤ uniTo a k ∧ uniTo a k ≤ allOf t ∧ 0 ≤ y ∧ y ≤ allOf t ∧ uniTo a (k + 1) = orI (uniTo a k) y) := fun k y hy => by
    have hu := union_le h1 h3 (take_sets hg.2 k)
    have := setOkB_lt (hg.2 y (elem_mem hy))
    exact ⟨hu.1, hu.2, this.2.2.1, this.2.2.2.1, union_take hy⟩
  have HUE := Lib.hid (uniTo_end a)
  clear hi hg
  obtain ⟨hal0, hal1⟩ := hal
  obtain ⟨hu0, hu1⟩ := hu
  go_enter Try.func41, Try.ntmps41
  go_wp2_with fail
  refine (HI.out _).mono ?_
  rintro e w1 ⟨v, a2, rfl, ha2, hd2, ho, hb⟩
  rw [HA.out] at ho
  obtain ⟨A1, c1, rfl, _, _, _, _⟩ := ho.form
  have HB := Lib.hid hb
  have HR := Lib.hid (Owns.row ho (by omega))
  have HD := Lib.hid hd2
  have hsz := hb.size
  clear hb ho hd2
  go_wp2_with fail
  go_loopw [10, 11] (fun v i wr => ∃ k : Nat, k ≤ a.length ∧ i = .int .i64 k ∧ v = .int .i64 (uniTo a k) ∧ ∃ q, wr = w1.drewN q) (fun _ i _ => a.length - (Go.RowKit.intOf i).toNat)
  case atStart => exact ⟨0, Nat.zero_le _, rfl, rfl, 0, rfl⟩
  case round =>
    obtain ⟨k, hk, rfl, rfl, q, rfl⟩ := hrel
    by_cases hlt : k < a.length
    · obtain ⟨bb, off, y, rfl, hcell, hy, _⟩ := HR.out.hA.elem hlt
      obtain ⟨g0, g1, y0, y1, hun⟩ := HST.out k y hy
      have HUN := Lib.hid hun
      clear hun
      go_wp2_with fail
      refine (sEither (uniTo a k) y g0 (by omega) y0 (by omega) _).mono ?_
      rintro e w' ⟨rfl, q2, rfl⟩
      go_wp2_with fail
      go_roundw
      case rel => exact ⟨k + 1, by omega, by go_num, by rw [HUN.out], _, rfl⟩
      case measure => simp [Go.RowKit.intOf]; omega
    · obtain rfl : k = a.length := by omega
      rw [HUE.out]
      go_wp2_with fail
      refine (sAll t _ h1 h3).mono ?_
      rintro e w' ⟨rfl, rfl⟩
      go_wp2_with fail
      refine (sAdd_is HADD (by omega) (HR.out.drewN q)).mono ?_
      rintro e w3 ⟨v, rfl, ho, hb⟩
      have HO3 := Lib.hid (ho.base (show w.heap.size ≤ (w1.drewN q).heap.size from hsz))
      have HB3 := Lib.hid (bel_trans (bel_drewN HB.out q) hb)
      clear ho hb
      go_wp2_with fail
      go_ret2
      exact ⟨_, a2, rfl, ha2, HD.out, by rw [HE.out]; exact HO3.out, HB3.out⟩
set_option maxRecDepth 100000 in
set_option maxHeartbeats 4000000 in
theorem sRs_word (t : Int) (s : ByteArray) (at_ : Nat) (w : World) (_hs : s.size ≤ 1048576) (hat : at_ < s.size) (h33 : s[at_].toNat ≠ 33) (h63 : s[at_].toNat ≠ 63) (h40 : s[at_].toNat ≠ 40) (x : Sen) (hx : issueS t x = resS t x) (rest : List Nat)
    (hi : ∀ W, Calls Try.prog 72 #[.int .i64 t, .string s, .int .i64 at_] W (SSome t s x rest W)) :
    Calls Try.prog 41 #[.int .i64 t, .string s, .int .i64 at_] w (SRes t s x rest w) := by
  have hd : (at_ : Int) < (s.size : Int) := by omega
  have hd0 : (0 : Int) ≤ (at_ : Int) := by omega
  obtain ⟨c, hc⟩ : ∃ c, s[at_].toNat = c := ⟨_, rfl⟩
  rw [hc] at h33 h63 h40
  have e33 : ((c : Int) == 33) = false := by rw [beq_eq_false_iff_ne]; omega
  have e63 : ((c : Int) == 63) = false := by rw [beq_eq_false_iff_ne]; omega
  have e40 : ((c : Int) == 40) = false := by rw [beq_eq_false_iff_ne]; omega
  have e40b : ((c : Int) != 40) = true := by rw [bne, e40]; rfl
  have HI := Lib.hid hi
  have HX := Lib.hid hx
  clear hi h33 h63 h40 hx
  go_enter Try.func41, Try.ntmps41
  go_wp2_with fail
  refine (HI.out _).mono ?_
  rintro e w1 ⟨v, a2, rfl, ha2, hd2, ho, hb⟩
  rw [HX.out] at ho
  have HO := Lib.hid ho
  have HB := Lib.hid hb
  have HD := Lib.hid hd2
  clear ho hb hd2
  go_wp2_with fail
  go_ret2
  exact ⟨_, a2, rfl, ha2, HD.out, HO.out, HB.out⟩
end Go.Proofs.Ytbiifcdlfmeahaa
