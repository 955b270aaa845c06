/-
  What the proofs of this seat's statements share (ResW, ResD, ResX).
-/
import Derived.Test.YtbiifcdlfmeahaaU21
import Derived.Test.YtbiifcdlfmeahaaU20
import Derived.Test.YtbiifcdlfmeahaaU17

namespace Go.Proofs.Ytbiifcdlfmeahaa
open Go.RowKit

set_option maxRecDepth 100000 in
set_option maxHeartbeats 4000000 in
theorem sResOf (t : Int) (s : ByteArray) (w : World) (hs : s.size ≤ 9223372036854775807) :
    Calls Try.prog 13 #[.int .i64 t, .string s] w (IssueOfPost (resL t s) (resOk t s) w) := by
  have hnot : ∀ (x : Bool) (w : World), (Op.unary .not (.bool x)).run Try.prog w = .ok (.bool (!x)) w := fun _ _ => rfl
  rcases hx : senT t s with _ | x
  · have HT := Lib.hid (isT_none hx)
    have e2 := res_none hx
    rw [resL_no e2, e2]
    clear hx e2
    go_enter Try.func13, Try.ntmps13
    go_wp2_with fail
    refine (sSentence_is HT _ hs).mono ?_
    rintro e w1 ⟨rfl, hb⟩
    have HB := Lib.hid hb
    clear hb
    go_wp2_with fail
    go_ret2
    exact ⟨_, rfl, Owns.lit _ _ [] HB.out.size (by simp [maxLen]), HB.out.alloc HB.out.size _⟩
  · have HX := Lib.hid hx
    have HT := Lib.hid (isT_some hx)
    have hlen := res_len t x
    by_cases hl : (resS t x).length ≤ 40
    · obtain ⟨e1, e2⟩ := res_few hx hl
      rw [e1, e2]
      obtain ⟨l, HL⟩ : ∃ l, Hid (resS t x = l) := ⟨_, rfl⟩
      rw [HL.out] at hl hlen ⊢
      have hd : decide ((40 : Int) < (l.length : Int)) = false := decide_eq_false (by omega)
      clear hx e1 e2
      go_enter Try.func13, Try.ntmps13
      go_wp2_with fail
      refine (sSentence_is HT _ hs).mono ?_
      rintro e w1 ⟨rfl, hb⟩
      have HB := Lib.hid hb
      clear hb
      go_wp2_with fail
      refine (sRes_some HX.out _).mono ?_
      rintro e w2 ⟨v, a2, rfl, ha2, _, ho, hb⟩
      rw [HL.out] at ho
      obtain ⟨A1, c1, rfl, _, _, _, _⟩ := ho.form
      have HO := Lib.hid (ho.base HB.out.size)
      have HB2 := Lib.hid (bel_trans HB.out hb)
      clear ho hb
      go_wp2_with fail
      go_ret2
      exact ⟨_, rfl, HO.out, HB2.out⟩
    · have e2 := res_many hx (by omega)
      rw [resL_no e2, e2]
      obtain ⟨l, HL⟩ : ∃ l, Hid (resS t x = l) := ⟨_, rfl⟩
      rw [HL.out] at hl hlen
      have hd : decide ((40 : Int) < (l.length : Int)) = true := decide_eq_true (by omega)
      clear hx e2
      go_enter Try.func13, Try.ntmps13
      go_wp2_with fail
      refine (sSentence_is HT _ hs).mono ?_
      rintro e w1 ⟨rfl, hb⟩
      have HB := Lib.hid hb
      clear hb
      go_wp2_with fail
      refine (sRes_some HX.out _).mono ?_
      rintro e w2 ⟨v, a2, rfl, ha2, _, ho, hb⟩
      rw [HL.out] at ho
      obtain ⟨A1, c1, rfl, _, _, _, _⟩ := ho.form
      have HB2 := Lib.hid (bel_trans HB.out hb)
      clear ho hb
      go_wp2_with fail
      go_ret2
      exact ⟨_, rfl, Owns.lit _ _ [] HB2.out.size (by simp [maxLen]), HB2.out.alloc HB2.out.size _⟩
theorem sResOf_is {t : Int} {s : ByteArray} {r : List Int} {b : Bool} (h : Hid (resL t s = r)) (h2 : Hid (resOk t s = b)) (w : World) (hs : s.size ≤ 9223372036854775807) :
    Calls Try.prog 13 #[.int .i64 t, .string s] w (IssueOfPost r b w) := by
  have := sResOf t s w hs
  rw [h.out, h2.out] at this; exact this

theorem resL_range (t : Int) (s : ByteArray) : ∀ x ∈ resL t s, 0 ≤ x ∧ x < 256 := by
  rcases h : resOk t s with _ | _
  · rw [resL_no h]; simp
  · exact (res_good h).range
theorem byRes_eq (t : Int) (s u : ByteArray) : byResB t s u = (((resL t s).all fun r => anyWithin r (resL t u)) && (resOk t s && resOk t u)) := by
  unfold byResB; rw [Bool.and_comm]

set_option maxRecDepth 100000 in
set_option maxHeartbeats 8000000 in
theorem sByRes (t : Int) (s u : ByteArray) (w : World) (hs : s.size ≤ 9223372036854775807) (hu : u.size ≤ 9223372036854775807) :
    Calls Try.prog 23 #[.int .i64 t, .string s, .string u] w fun e w' => e = .returned (.bool (byResB t s u)) ∧ Below w.heap.size w w' := by
  have hnot : ∀ (x : Bool) (w : World), (Op.unary .not (.bool x)).run Try.prog w = .ok (.bool (!x)) w := fun _ _ => rfl
  have hla := resL_len t s
  have hlb := resL_len t u
  have HRA := Lib.hid (resL_range t s)
  have HRB := Lib.hid (resL_range t u)
  have HF := Lib.hid (byRes_eq t s u)
  obtain ⟨a, HA⟩ : ∃ l, Hid (resL t s = l) := ⟨_, rfl⟩
  obtain ⟨b, HB⟩ : ∃ l, Hid (resL t u = l) := ⟨_, rfl⟩
  obtain ⟨p, HP⟩ : ∃ l, Hid (resOk t s = l) := ⟨_, rfl⟩
  obtain ⟨q, HQ⟩ : ∃ l, Hid (resOk t u = l) := ⟨_, rfl⟩
  rw [HA.out] at hla HRA HF
  rw [HB.out] at hlb HRB HF
  rw [HP.out, HQ.out] at HF
  rw [HF.out]
  go_enter Try.func23, Try.ntmps23
  go_wp2_with fail
  refine (sResOf_is HA HP _ hs).mono ?_
  rintro e w1 ⟨v, rfl, ho, hb⟩
  have HB1 := Lib.hid hb
  obtain ⟨A1, c1, rfl, _, _, _, _⟩ := ho.form
  have HR1 := Lib.hid (Owns.row ho (by omega))
  clear hb ho
  go_wp2_with fail
  refine (sResOf_is HB HQ _ hu).mono ?_
  rintro e w2 ⟨v, rfl, ho, hb⟩
  have HB2 := Lib.hid (bel_trans HB1.out hb)
  obtain ⟨A2, c2, rfl, _, _, _, _⟩ := ho.form
  have HR2 := Lib.hid (Owns.row ho (by omega))
  replace HR1 := Lib.hid (HR1.out.below hb)
  clear hb ho
  go_wp2_with fail
  go_loopw [11] (fun i wr => ∃ k : Nat, k ≤ a.length ∧ i = .int .i64 k ∧ Hid (((a.take k).all fun x => anyWithin x b) = true) ∧ ∃ m, wr = w2.drewN m) (fun i _ => a.length - (Go.RowKit.intOf i).toNat)
  case atStart => exact ⟨0, Nat.zero_le _, rfl, rfl, 0, rfl⟩
  case round =>
    obtain ⟨k, hk, rfl, hsofar, m, rfl⟩ := hrel
    by_cases hlt : k < a.length
    · obtain ⟨bb, off, x, rfl, hcell, hx, _⟩ := HR1.out.hA.elem hlt
      obtain ⟨he1, he2⟩ := HRA.out x (elem_mem hx)
      have hki : (k : Int) < (a.length : Int) := by omega
      go_wp2_with fail
      go_loopw [12, 13] (fun f i wi => ∃ j : Nat, j ≤ b.length ∧ i = .int .i64 j ∧ f = .bool (anyWithin x (b.take j)) ∧ ∃ m, wi = w2.drewN m) (fun _ i _ => b.length - (Go.RowKit.intOf i).toNat)
      case atStart => exact ⟨0, Nat.zero_le _, rfl, rfl, _, rfl⟩
      case round =>
        obtain ⟨j, hj, rfl, rfl, m2, rfl⟩ := hrel
        by_cases hjt : j < b.length
        · obtain ⟨bb2, off2, y, rfl, hcell2, hy, _⟩ := HR2.out.hA.elem hjt
          obtain ⟨hf1, hf2⟩ := HRB.out y (elem_mem hy)
          have HS := Lib.hid (anyWithin_snoc (s := x) hy)
          have hji : (j : Int) < (b.length : Int) := by omega
          obtain ⟨v, HV⟩ : ∃ v, Hid (anyWithin x (b.take j) = v) := ⟨_, rfl⟩
          obtain ⟨z, HZ⟩ : ∃ z, Hid (withinB x y = z) := ⟨_, rfl⟩
          rw [HV.out]
          cases v
          · go_wp2_with fail
            go_quiet ((go_at_call 51; exact quiet_more (sWithin_is HZ he1 he2 hf1 hf2 _)))
            go_wp2_with fail
            go_roundw
            case rel => exact ⟨j + 1, by omega, by go_num, by rw [HS.out, HV.out, HZ.out]; rfl, _, rfl⟩
            case measure => simp [Go.RowKit.intOf]; omega
          · go_wp2_with fail
            go_quiet (fail)
            go_wp2_with fail
            go_roundw
            case rel => exact ⟨j + 1, by omega, by go_num, by rw [HS.out, HV.out]; rfl, _, rfl⟩
            case measure => simp [Go.RowKit.intOf]; omega
        · obtain rfl : j = b.length := by omega
          rw [List.take_length]
          rcases hw : anyWithin x b with _ | _
          · have HW := Lib.hid hw
            clear hw
            go_wp2_with fail
            go_ret
            exact ⟨ret_bool (by rw [allAny_miss hx HW.out]; rfl), bel_drewN HB2.out _⟩
          · have HW := Lib.hid hw
            clear hw
            go_wp2_with fail
            go_roundw
            case rel => exact ⟨k + 1, by omega, by go_num, by unfold Hid; rw [allAny_snoc hx, hsofar.out, HW.out]; rfl, _, rfl⟩
            case measure => simp [Go.RowKit.intOf]; omega
    · obtain rfl : k = a.length := by omega
      have HT : Hid ((a.all fun x => anyWithin x b) = true) := by unfold Hid; rw [← hsofar.out, List.take_length]
      clear hsofar
      cases p
      all_goals
        go_wp2_with fail
        go_ret
        exact ⟨ret_bool (by rw [HT.out]; rfl), bel_drewN HB2.out _⟩
theorem sByRes_is {t : Int} {s u : ByteArray} {b : Bool} (h : Hid (byResB t s u = b)) (w : World) (hs : s.size ≤ 9223372036854775807) (hu : u.size ≤ 9223372036854775807) :
    Calls Try.prog 23 #[.int .i64 t, .string s, .string u] w fun e w' => e = .returned (.bool b) ∧ Below w.heap.size w w' := by
  have := sByRes t s u w hs hu
  rw [h.out] at this; exact this

set_option maxRecDepth 100000 in
set_option maxHeartbeats 4000000 in
theorem sAnswersOf (t : Int) (s : ByteArray) (w : World) (hs : s.size ≤ 9223372036854775807) :
    Calls Try.prog 27 #[.int .i64 t, .string s] w (OwnPost (answersL t s) w) := by
  have hnot : ∀ (x : Bool) (w : World), (Op.unary .not (.bool x)).run Try.prog w = .ok (.bool (!x)) w := fun _ _ => rfl
  have hla := resL_len t s
  rcases hp : resOk t s with _ | _
  · have HP := Lib.hid hp
    have HA := Lib.hid (resL_no hp)
    rw [answers_no hp]
    clear hp
    go_enter Try.func27, Try.ntmps27
    go_wp2_with fail
    refine (sResOf_is HA HP _ hs).mono ?_
    rintro e w1 ⟨v, rfl, ho, hb⟩
    have HB1 := Lib.hid hb
    obtain ⟨A1, c1, rfl, _, _, _, _⟩ := ho.form
    clear hb ho
    go_wp2_with fail
    go_ret
    exact ⟨_, rfl, Owns.lit _ _ [] HB1.out.size (by simp [maxLen]), HB1.out.alloc HB1.out.size _⟩
  · have HP := Lib.hid hp
    have hg := res_good hp
    unfold answersL
    obtain ⟨a, HA⟩ : ∃ l, Hid (resL t s = l) := ⟨_, rfl⟩
    rw [HA.out] at hla hg ⊢
    have HRA := Lib.hid hg.range
    clear hp hg
    go_enter Try.func27, Try.ntmps27
    go_wp2_with fail
    refine (sResOf_is HA HP _ hs).mono ?_
    rintro e w1 ⟨v, rfl, ho, hb⟩
    have HB1 := Lib.hid hb
    obtain ⟨A1, c1, rfl, _, _, _, _⟩ := ho.form
    have HR1 := Lib.hid (Owns.row ho (by omega))
    clear hb ho
    go_wp2_with fail
    refine (sTidy _ _ _ a _ rfl (by omega) HRA.out HR1.out.hA).mono ?_
    rintro e w2 ⟨v, rfl, ho, hb⟩
    have HO := Lib.hid (ho.base HB1.out.size)
    have HB2 := Lib.hid (bel_trans HB1.out hb)
    clear ho hb
    go_wp2_with fail
    go_ret
    exact ⟨_, rfl, HO.out, HB2.out⟩
theorem sAnswersOf_is {t : Int} {s : ByteArray} {r : List Int} (h : Hid (answersL t s = r)) (w : World) (hs : s.size ≤ 9223372036854775807) :
    Calls Try.prog 27 #[.int .i64 t, .string s] w (OwnPost r w) := by
  have := sAnswersOf t s w hs
  rw [h.out] at this; exact this

/-- What the model says of a set and its list of answers. -/
def itB (t k : Int) (l : List Int) : Bool := setOkB t k && anyWithin k l
def itN (t k : Int) (l : List Int) : Int := if (setOkB t k && decide (l ≠ [])) = true then (if anyWithin k l = true then 0 else (leftTo k l : Int)) else -1
theorem it_answers (t k : Int) (s : ByteArray) : answersB t k s = itB t k (answersL t s) ∧ answersN t k s = itN t k (answersL t s) := by
  unfold itB itN
  rcases hp : resOk t s with _ | _
  · obtain ⟨e1, e2⟩ := answers_no_set (k := k) (.inl hp)
    rw [e1, e2, answers_no hp]
    simp [anyWithin]
  rcases hk : setOkB t k with _ | _
  · obtain ⟨e1, e2⟩ := answers_no_set (s := s) (.inr hk)
    rw [e1, e2]; exact ⟨rfl, rfl⟩
  obtain ⟨_, _, h0, _⟩ := setOkB_lt hk
  have hne : answersL t s ≠ [] := by have := answers_pos hp; intro e; rw [e] at this; simp at this
  rw [answers_any hp h0]
  rcases ha : anyWithin k (resL t s) with _ | _
  · obtain ⟨e1, e2⟩ := answers_left hp hk ha
    rw [e1, e2, decide_eq_true hne]; exact ⟨rfl, rfl⟩
  · obtain ⟨e1, e2⟩ := answers_yes hp hk ha
    rw [e1, e2, decide_eq_true hne]; exact ⟨rfl, rfl⟩

set_option maxRecDepth 100000 in
set_option maxHeartbeats 8000000 in
theorem sAnswersIt (t k : Int) (s : ByteArray) (w : World) (hs : s.size ≤ 9223372036854775807) :
    Calls Try.prog 31 #[.int .i64 t, .int .i64 k, .string s] w (PairPost (answersB t k s) (answersN t k s) w) := by
  have hnot : ∀ (x : Bool) (w : World), (Op.unary .not (.bool x)).run Try.prog w = .ok (.bool (!x)) w := fun _ _ => rfl
  have hln := answers_len t s
  have hrt : ∀ x ∈ answersL t s, 0 ≤ x ∧ x < 256 := fun x hx => resL_range t s x (tidy_sub (resL_range t s) x hx)
  obtain ⟨e1, e2⟩ := it_answers t k s
  rw [e1, e2]
  obtain ⟨l, HL⟩ : ∃ l, Hid (answersL t s = l) := ⟨_, rfl⟩
  rw [HL.out] at hln hrt ⊢
  have HRT := Lib.hid hrt
  clear e1 e2 hrt
  rcases hk : setOkB t k with _ | _
  · have HK := Lib.hid hk
    have E1 : Hid (itB t k l = false) := by unfold Hid itB; rw [hk]; rfl
    have E2 : Hid (itN t k l = -1) := by unfold Hid itN; rw [hk]; rfl
    rw [E1.out, E2.out]
    clear hk
    go_enter Try.func31, Try.ntmps31
    go_wp2_with fail
    refine (sAnswersOf_is HL _ hs).mono ?_
    rintro e w1 ⟨v, rfl, ho, hb⟩
    have HB1 := Lib.hid hb
    obtain ⟨A1, c1, rfl, _, _, _, _⟩ := ho.form
    clear hb ho
    go_wp2_with fail
    refine (sSetOk_is HK _).mono ?_
    rintro e w' ⟨rfl, rfl⟩
    go_wp2_with fail
    go_ret2
    exact ⟨rfl, HB1.out⟩
  · have HK := Lib.hid hk
    obtain ⟨_, _, hk0, hka, hk256⟩ := setOkB_lt hk
    by_cases hz : l.length = 0
    · have E1 : Hid (itB t k l = false) := by unfold Hid itB; rw [List.eq_nil_of_length_eq_zero hz]; simp [anyWithin]
      have E2 : Hid (itN t k l = -1) := by unfold Hid itN; rw [List.eq_nil_of_length_eq_zero hz]; simp
      rw [E1.out, E2.out]
      have hq : ((l.length : Int) == 0) = true := by rw [beq_iff_eq]; omega
      clear hk hz
      go_enter Try.func31, Try.ntmps31
      go_wp2_with fail
      refine (sAnswersOf_is HL _ hs).mono ?_
      rintro e w1 ⟨v, rfl, ho, hb⟩
      have HB1 := Lib.hid hb
      obtain ⟨A1, c1, rfl, _, _, _, _⟩ := ho.form
      clear hb ho
      go_wp2_with fail
      refine (sSetOk_is HK _).mono ?_
      rintro e w' ⟨rfl, rfl⟩
      go_wp2_with fail
      go_ret2
      exact ⟨rfl, HB1.out⟩
    · have hne : l ≠ [] := fun e => hz (by rw [e]; rfl)
      have E1 : Hid (itB t k l = anyWithin k l) := by unfold Hid itB; rw [hk]; rfl
      have E2 : Hid (itN t k l = if anyWithin k l = true then 0 else (leftTo k l : Int)) := by unfold Hid itN; rw [hk, decide_eq_true hne]; rfl
      have hq : ((l.length : Int) == 0) = false := by rw [beq_eq_false_iff_ne]; omega
      obtain ⟨bv, HBV⟩ : ∃ b, Hid (itB t k l = b) := ⟨_, rfl⟩
      obtain ⟨nv, HNV⟩ : ∃ n, Hid (itN t k l = n) := ⟨_, rfl⟩
      rw [HBV.out, HNV.out]
      clear hk hz hne
      go_enter Try.func31, Try.ntmps31
      go_wp2_with fail
      refine (sAnswersOf_is HL _ hs).mono ?_
      rintro e w1 ⟨v, rfl, ho, hb⟩
      have HB1 := Lib.hid hb
      obtain ⟨A1, c1, rfl, _, _, _, _⟩ := ho.form
      have HR1 := Lib.hid (Owns.row ho (by omega))
      clear hb ho
      go_wp2_with fail
      refine (sSetOk_is HK _).mono ?_
      rintro e w' ⟨rfl, rfl⟩
      go_wp2_with fail
      clear hq
      go_loopw [9, 10] (fun n i wr => ∃ j : Nat, j ≤ l.length ∧ i = .int .i64 j ∧ Hid (anyWithin k (l.take j) = false) ∧ n = .int .i64 (leftTo k (l.take j) : Nat) ∧ ∃ m, wr = w1.drewN m) (fun _ i _ => l.length - (Go.RowKit.intOf i).toNat)
      case atStart => exact ⟨0, Nat.zero_le _, rfl, rfl, rfl, 0, rfl⟩
      case round =>
        obtain ⟨j, hj, rfl, hsofar, rfl, m, rfl⟩ := hrel
        have hsm := leftTo_small k l j
        by_cases hlt : j < l.length
        · obtain ⟨bb, off, x, rfl, hcell, hx, _⟩ := HR1.out.hA.elem hlt
          obtain ⟨hx0, hx1⟩ := HRT.out x (elem_mem hx)
          have hji : (j : Int) < (l.length : Int) := by omega
          obtain ⟨c, HC⟩ : ∃ c : Nat, Hid (leftTo k (l.take j) = c) := ⟨_, rfl⟩
          rw [HC.out] at hsm ⊢
          rcases hw : withinB k x with _ | _
          · have HW := Lib.hid hw
            have HN : Hid (anyWithin k (l.take (j + 1)) = false) := by unfold Hid; rw [anyWithin_snoc hx, hsofar.out, hw]; rfl
            clear hw
            by_cases hz : andI k x = 0
            · have HS := Lib.hid (leftTo_skip hx hz)
              have hbz : (andI k x != 0) = false := by rw [hz]; rfl
              clear hz
              go_wp2_with fail
              refine (sWithin_is HW hk0 hk256 hx0 hx1 _).mono ?_
              rintro e w' ⟨rfl, m2, rfl⟩
              go_wp2_with fail
              refine (sBothS _ _ hk0 hk256 hx0 hx1 _).mono ?_
              rintro e w' ⟨rfl, m3, rfl⟩
              go_wp2_with fail
              go_roundw
              case rel => exact ⟨j + 1, by omega, by go_num, HN, by rw [HS.out, HC.out], _, rfl⟩
              case measure => simp [Go.RowKit.intOf]; omega
            · have HS := Lib.hid (leftTo_hit hx hz)
              have hbz : (andI k x != 0) = true := by simpa using hz
              clear hz
              go_wp2_with fail
              refine (sWithin_is HW hk0 hk256 hx0 hx1 _).mono ?_
              rintro e w' ⟨rfl, m2, rfl⟩
              go_wp2_with fail
              refine (sBothS _ _ hk0 hk256 hx0 hx1 _).mono ?_
              rintro e w' ⟨rfl, m3, rfl⟩
              go_wp2_with fail
              go_roundw
              case rel => exact ⟨j + 1, by omega, by go_num, HN, by rw [HS.out, HC.out]; go_num, _, rfl⟩
              case measure => simp [Go.RowKit.intOf]; omega
          · have HW := Lib.hid hw
            clear hw
            go_wp2_with fail
            refine (sWithin_is HW hk0 hk256 hx0 hx1 _).mono ?_
            rintro e w' ⟨rfl, m2, rfl⟩
            go_wp2_with fail
            go_ret2
            exact ⟨by rw [← HBV.out, ← HNV.out, E1.out, E2.out, anyWithin_hit hx HW.out]; rfl, bel_drewN HB1.out _⟩
        · obtain rfl : j = l.length := by omega
          have HN : Hid (anyWithin k l = false) := by unfold Hid; rw [← hsofar.out, List.take_length]
          rw [List.take_length] at hsm ⊢
          clear hsofar
          go_wp2_with fail
          go_ret2
          exact ⟨by rw [← HBV.out, ← HNV.out, E1.out, E2.out, HN.out]; rfl, bel_drewN HB1.out _⟩
theorem sAnswersIt_is {t k : Int} {s : ByteArray} {b : Bool} {n : Int} (h : Hid (answersB t k s = b)) (h2 : Hid (answersN t k s = n)) (w : World) (hs : s.size ≤ 9223372036854775807) :
    Calls Try.prog 31 #[.int .i64 t, .int .i64 k, .string s] w (PairPost b n w) := by
  have := sAnswersIt t k s w hs
  rw [h.out, h2.out] at this; exact this
end Go.Proofs.Ytbiifcdlfmeahaa

namespace Go.Proofs.Ytbiifcdlfmeahaa
open Go.RowKit

set_option maxHeartbeats 1000000 in
theorem drawResolutionsOf_any (A : Option Addr) (nn c : Nat) (zs : List Int) (w : World) (hn : nn = zs.length) (hc : nn ≤ c) (hm : c ≤ maxLen) (hr : ∀ z ∈ zs, 0 ≤ z ∧ z ≤ 255) (hA : Nums .u8 w A zs) :
    Calls Try.prog 11 #[.slice A nn c] w (DrawT w) := by
  have HO := Lib.hid (open_any A nn c zs w hn hc hm hr hA)
  clear hn hc hm hr hA
  go_enter Try.func11, Try.ntmps11
  go_wp2_with fail
  refine HO.out.mono ?_
  rintro e w1 ⟨rfl, hrd, hb⟩
  have HR := Lib.hid hrd
  have HB := Lib.hid hb
  clear hrd hb
  go_wp2_with fail
  refine (text_any _ 0 _ _ (by omega) (by omega) (by omega) HR.out).mono ?_
  rintro e w2 ⟨t, s, rfl, ht0, ht1, hs, _, hg⟩
  have HB2 := Lib.hid (below_grown HB.out hg HB.out.size (Nat.le_refl _))
  clear hg
  go_wp2_with fail
  go_ret2
  exact ⟨t, s, rfl, ht0, ht1, hs, HB2.out⟩

set_option maxHeartbeats 1000000 in
theorem drawAnswersOf_any (A : Option Addr) (nn c : Nat) (zs : List Int) (w : World) (hn : nn = zs.length) (hc : nn ≤ c) (hm : c ≤ maxLen) (hr : ∀ z ∈ zs, 0 ≤ z ∧ z ≤ 255) (hA : Nums .u8 w A zs) :
    Calls Try.prog 25 #[.slice A nn c] w (DrawT w) := by
  have HO := Lib.hid (open_any A nn c zs w hn hc hm hr hA)
  clear hn hc hm hr hA
  go_enter Try.func25, Try.ntmps25
  go_wp2_with fail
  refine HO.out.mono ?_
  rintro e w1 ⟨rfl, hrd, hb⟩
  have HR := Lib.hid hrd
  have HB := Lib.hid hb
  clear hrd hb
  go_wp2_with fail
  refine (text_any _ 0 _ _ (by omega) (by omega) (by omega) HR.out).mono ?_
  rintro e w2 ⟨t, s, rfl, ht0, ht1, hs, _, hg⟩
  have HB2 := Lib.hid (below_grown HB.out hg HB.out.size (Nat.le_refl _))
  clear hg
  go_wp2_with fail
  go_ret2
  exact ⟨t, s, rfl, ht0, ht1, hs, HB2.out⟩

set_option maxHeartbeats 1000000 in
theorem drawByResolutions_any (A : Option Addr) (nn c : Nat) (zs : List Int) (w : World) (hn : nn = zs.length) (hc : nn ≤ c) (hm : c ≤ maxLen) (hr : ∀ z ∈ zs, 0 ≤ z ∧ z ≤ 255) (hA : Nums .u8 w A zs) :
    Calls Try.prog 21 #[.slice A nn c] w (DrawTSS w) := by
  have HO := Lib.hid (drawEntailsOf_any A nn c zs w hn hc hm hr hA)
  clear hn hc hm hr hA
  go_enter Try.func21, Try.ntmps21
  go_wp2_with fail
  refine HO.out.mono ?_
  rintro e w1 ⟨t, s, u, rfl, ht0, ht1, hs, hu, hb⟩
  have HB := Lib.hid hb
  clear hb
  go_wp2_with fail
  go_ret3
  exact ⟨t, s, u, rfl, ht0, ht1, hs, hu, HB.out⟩

set_option maxHeartbeats 1000000 in
theorem drawAnswersIt_any (A : Option Addr) (nn c : Nat) (zs : List Int) (w : World) (hn : nn = zs.length) (hc : nn ≤ c) (hm : c ≤ maxLen) (hr : ∀ z ∈ zs, 0 ≤ z ∧ z ≤ 255) (hA : Nums .u8 w A zs) :
    Calls Try.prog 29 #[.slice A nn c] w (DrawTKS w) := by
  have HO := Lib.hid (drawSupports_any A nn c zs w hn hc hm hr hA)
  clear hn hc hm hr hA
  go_enter Try.func29, Try.ntmps29
  go_wp2_with fail
  refine HO.out.mono ?_
  rintro e w1 ⟨t, k, s, rfl, ht0, ht1, hk0, hk1, hs, hb⟩
  have HB := Lib.hid hb
  clear hb
  go_wp2_with fail
  go_ret3
  exact ⟨t, k, s, rfl, ht0, ht1, hk0, hk1, hs, HB.out⟩
end Go.Proofs.Ytbiifcdlfmeahaa

namespace Go.Proofs.Ytbiifcdlfmeahaa
open Go.RowKit

set_option maxRecDepth 100000 in
set_option maxHeartbeats 4000000 in
theorem wExactResolutionsOf (t : Int) (s : ByteArray) (w : World) (hss : s.size ≤ maxLen) :
    Calls Try.prog 7 #[.int .i64 t, .string s] w fun e w' => e = .returned (.bool true) ∧ Below w.heap.size w w' := by
  unfold maxLen at hss
  by_cases hls : 1048576 < s.size
  · have hd : decide ((1048576 : Int) < (s.size : Int)) = true := decide_eq_true (by omega)
    go_enter Try.func7, Try.ntmps7
    go_wp2_with fail
    go_ret
    exact ⟨rfl, Below.refl _ _⟩
  have hds : decide ((1048576 : Int) < (s.size : Int)) = false := decide_eq_false (by omega)
  have hles : s.size ≤ 1048576 := by omega
  clear hls
  obtain ⟨r, HIS⟩ : ∃ l, Hid (resL t s = l) := ⟨_, rfl⟩
  obtain ⟨b, HT_⟩ : ∃ b, Hid (resOk t s = b) := ⟨_, rfl⟩
  have hrl : r.length ≤ 256 := by rw [← HIS.out]; exact Nat.le_trans (resL_len t s) (by omega)
  have HB : Hid (Below w.heap.size w w) := Below.refl _ _
  go_enter Try.func7, Try.ntmps7
  go_wp2_with fail
  refine (sResOf_is HIS HT_ _ (by omega)).mono ?_
  rintro e w1 ⟨v, rfl, ho, hb⟩
  obtain ⟨A1, c1, rfl, hc1, hm1, hn1, ha1⟩ := ho.form
  have hsz1 : w.heap.size ≤ w1.heap.size := hb.size
  replace HB := Lib.hid (bel_trans (by first | exact HB.out | exact bel_drewN HB.out _) hb)
  have HM1 := Lib.hid hm1
  have HA1 : Hid (∀ ad, A1 = some ad → w.heap.size ≤ ad.block ∧ ad.block < w1.heap.size) := ha1
  have HN1 := Lib.hid hn1
  have HO1 : Hid (Owns w1 w.heap.size _ _) := ho
  clear ho hb hm1 hn1 ha1
  go_wp2_with fail
  refine (iResOf_is HIS HT_ _ (by omega)).mono ?_
  rintro e w2 ⟨v, rfl, ho, hb⟩
  obtain ⟨A2, c2, rfl, hc2, hm2, hn2, ha2⟩ := ho.form
  have hsz2 : w1.heap.size ≤ w2.heap.size := hb.size
  replace HB := Lib.hid (bel_trans (by first | exact HB.out | exact bel_drewN HB.out _) hb)
  replace HN1 := Lib.hid (Nums.below (by exact HN1.out) hb)
  replace HO1 := Lib.hid (Owns.below (by exact HO1.out) hb)
  have HM2 := Lib.hid hm2
  have HA2 : Hid (∀ ad, A2 = some ad → w1.heap.size ≤ ad.block ∧ ad.block < w2.heap.size) := ha2
  have HN2 := Lib.hid hn2
  have HO2 : Hid (Owns w2 w1.heap.size _ _) := ho
  clear ho hb hm2 hn2 ha2
  go_wp2_with fail
  refine (lEqIntS _ _ _ _ _ _ r r _ rfl rfl (by omega) (by omega) (by exact HN2.out) (by exact HN1.out)).mono ?_
  rintro e w' ⟨rfl, m1, rfl⟩
  go_wp2_with fail
  refine (lMarkIntS _ _ _ _ r _ _ rfl (by omega) (by omega) (by omega) (by exact HO2.out)).mono ?_
  rintro e w3 ⟨ys3, rfl, hz, hv, ho, hg⟩
  replace HB := Lib.hid (bel_mark (by first | exact HB.out | exact bel_drewN HB.out _) hg (fun ad h => by have := (HA2.out ad h).1; omega))
  replace HN1 := Lib.hid (Nums.other (B := w1.heap.size) (by exact HN1.out) hg (fun ad h => by have := (HA1.out ad h).2; omega) (fun ad h => (HA2.out ad h).1))
  clear HO1
  obtain ⟨_, _, he, _, _, hnn, _⟩ := ho.form
  simp only [Value.slice.injEq] at he
  obtain ⟨rfl, hx1, rfl⟩ := he
  replace HN2 := Lib.hid hnn
  have hsz3 : w2.heap.size ≤ w3.heap.size := hg.size
  have HZ3 := Lib.hid hz
  have HV3 := Lib.hid hv
  clear ho hg hz hv hnn hx1
  clear HO2
  go_wp2_with fail
  refine (lHeldIntS _ _ _ ys3 _ _ HZ3.out.symm (by omega) (by omega) (by omega) (by exact HN2.out) HV3.out).mono ?_
  rintro e w' ⟨rfl, rfl⟩
  rw [HZ3.out]
  have hneg : decide ((1 : Int) + (r.length : Int) < 0) = false := decide_eq_false (by omega)
  go_wp2_with fail
  refine (iResOf_is HIS HT_ _ (by omega)).mono ?_
  rintro e w4 ⟨v, rfl, ho, hb⟩
  obtain ⟨A4, c4, rfl, hc4, hm4, hn4, ha4⟩ := ho.form
  have hsz4 : w3.heap.size ≤ w4.heap.size := hb.size
  replace HB := Lib.hid (bel_trans (by first | exact HB.out | exact bel_drewN HB.out _) hb)
  replace HN1 := Lib.hid (Nums.below (by exact HN1.out) hb)
  replace HN2 := Lib.hid (Nums.below (by exact HN2.out) hb)
  have HM4 := Lib.hid hm4
  have HA4 : Hid (∀ ad, A4 = some ad → w3.heap.size ≤ ad.block ∧ ad.block < w4.heap.size) := ha4
  have HN4 := Lib.hid hn4
  have HO4 : Hid (Owns w4 w3.heap.size _ _) := ho
  clear ho hb hm4 hn4 ha4
  go_wp2_with fail
  refine (lEqIntS _ _ _ _ _ _ r r _ rfl rfl (by omega) (by omega) (by exact HN4.out) (by exact HN1.out)).mono ?_
  rintro e w' ⟨rfl, m2, rfl⟩
  go_wp2_with fail
  refine (lHeldIntS _ _ _ ys3 _ _ HZ3.out.symm (by omega) (by omega) (by omega) (by exact HN2.out) HV3.out).mono ?_
  rintro e w' ⟨rfl, rfl⟩
  rw [HZ3.out]
  go_wp2_with fail
  go_ret
  exact ⟨rfl, by first | exact HB.out | exact bel_drewN HB.out _⟩
set_option maxRecDepth 100000 in
set_option maxHeartbeats 4000000 in
theorem wExactAnswersOf (t : Int) (s : ByteArray) (w : World) (hss : s.size ≤ maxLen) :
    Calls Try.prog 9 #[.int .i64 t, .string s] w fun e w' => e = .returned (.bool true) ∧ Below w.heap.size w w' := by
  unfold maxLen at hss
  by_cases hls : 1048576 < s.size
  · have hd : decide ((1048576 : Int) < (s.size : Int)) = true := decide_eq_true (by omega)
    go_enter Try.func9, Try.ntmps9
    go_wp2_with fail
    go_ret
    exact ⟨rfl, Below.refl _ _⟩
  have hds : decide ((1048576 : Int) < (s.size : Int)) = false := decide_eq_false (by omega)
  have hles : s.size ≤ 1048576 := by omega
  clear hls
  obtain ⟨r, HIS⟩ : ∃ l, Hid (answersL t s = l) := ⟨_, rfl⟩
  have hrl : r.length ≤ 256 := by rw [← HIS.out]; exact Nat.le_trans (answers_len t s) (by omega)
  have HB : Hid (Below w.heap.size w w) := Below.refl _ _
  go_enter Try.func9, Try.ntmps9
  go_wp2_with fail
  refine (sAnswersOf_is HIS _ (by omega)).mono ?_
  rintro e w1 ⟨v, rfl, ho, hb⟩
  obtain ⟨A1, c1, rfl, hc1, hm1, hn1, ha1⟩ := ho.form
  have hsz1 : w.heap.size ≤ w1.heap.size := hb.size
  replace HB := Lib.hid (bel_trans (by first | exact HB.out | exact bel_drewN HB.out _) hb)
  have HM1 := Lib.hid hm1
  have HA1 : Hid (∀ ad, A1 = some ad → w.heap.size ≤ ad.block ∧ ad.block < w1.heap.size) := ha1
  have HN1 := Lib.hid hn1
  have HO1 : Hid (Owns w1 w.heap.size _ _) := ho
  clear ho hb hm1 hn1 ha1
  go_wp2_with fail
  refine (iAnswersOf_is HIS _ (by omega)).mono ?_
  rintro e w2 ⟨v, rfl, ho, hb⟩
  obtain ⟨A2, c2, rfl, hc2, hm2, hn2, ha2⟩ := ho.form
  have hsz2 : w1.heap.size ≤ w2.heap.size := hb.size
  replace HB := Lib.hid (bel_trans (by first | exact HB.out | exact bel_drewN HB.out _) hb)
  replace HN1 := Lib.hid (Nums.below (by exact HN1.out) hb)
  replace HO1 := Lib.hid (Owns.below (by exact HO1.out) hb)
  have HM2 := Lib.hid hm2
  have HA2 : Hid (∀ ad, A2 = some ad → w1.heap.size ≤ ad.block ∧ ad.block < w2.heap.size) := ha2
  have HN2 := Lib.hid hn2
  have HO2 : Hid (Owns w2 w1.heap.size _ _) := ho
  clear ho hb hm2 hn2 ha2
  go_wp2_with fail
  refine (lEqIntS _ _ _ _ _ _ r r _ rfl rfl (by omega) (by omega) (by exact HN2.out) (by exact HN1.out)).mono ?_
  rintro e w' ⟨rfl, m1, rfl⟩
  go_wp2_with fail
  refine (lMarkIntS _ _ _ _ r _ _ rfl (by omega) (by omega) (by omega) (by exact HO2.out)).mono ?_
  rintro e w3 ⟨ys3, rfl, hz, hv, ho, hg⟩
  replace HB := Lib.hid (bel_mark (by first | exact HB.out | exact bel_drewN HB.out _) hg (fun ad h => by have := (HA2.out ad h).1; omega))
  replace HN1 := Lib.hid (Nums.other (B := w1.heap.size) (by exact HN1.out) hg (fun ad h => by have := (HA1.out ad h).2; omega) (fun ad h => (HA2.out ad h).1))
  clear HO1
  obtain ⟨_, _, he, _, _, hnn, _⟩ := ho.form
  simp only [Value.slice.injEq] at he
  obtain ⟨rfl, hx1, rfl⟩ := he
  replace HN2 := Lib.hid hnn
  have hsz3 : w2.heap.size ≤ w3.heap.size := hg.size
  have HZ3 := Lib.hid hz
  have HV3 := Lib.hid hv
  clear ho hg hz hv hnn hx1
  clear HO2
  go_wp2_with fail
  refine (lHeldIntS _ _ _ ys3 _ _ HZ3.out.symm (by omega) (by omega) (by omega) (by exact HN2.out) HV3.out).mono ?_
  rintro e w' ⟨rfl, rfl⟩
  rw [HZ3.out]
  have hneg : decide ((1 : Int) + (r.length : Int) < 0) = false := decide_eq_false (by omega)
  go_wp2_with fail
  refine (iAnswersOf_is HIS _ (by omega)).mono ?_
  rintro e w4 ⟨v, rfl, ho, hb⟩
  obtain ⟨A4, c4, rfl, hc4, hm4, hn4, ha4⟩ := ho.form
  have hsz4 : w3.heap.size ≤ w4.heap.size := hb.size
  replace HB := Lib.hid (bel_trans (by first | exact HB.out | exact bel_drewN HB.out _) hb)
  replace HN1 := Lib.hid (Nums.below (by exact HN1.out) hb)
  replace HN2 := Lib.hid (Nums.below (by exact HN2.out) hb)
  have HM4 := Lib.hid hm4
  have HA4 : Hid (∀ ad, A4 = some ad → w3.heap.size ≤ ad.block ∧ ad.block < w4.heap.size) := ha4
  have HN4 := Lib.hid hn4
  have HO4 : Hid (Owns w4 w3.heap.size _ _) := ho
  clear ho hb hm4 hn4 ha4
  go_wp2_with fail
  refine (lEqIntS _ _ _ _ _ _ r r _ rfl rfl (by omega) (by omega) (by exact HN4.out) (by exact HN1.out)).mono ?_
  rintro e w' ⟨rfl, m2, rfl⟩
  go_wp2_with fail
  refine (lHeldIntS _ _ _ ys3 _ _ HZ3.out.symm (by omega) (by omega) (by omega) (by exact HN2.out) HV3.out).mono ?_
  rintro e w' ⟨rfl, rfl⟩
  rw [HZ3.out]
  go_wp2_with fail
  go_ret
  exact ⟨rfl, by first | exact HB.out | exact bel_drewN HB.out _⟩
set_option maxRecDepth 100000 in
set_option maxHeartbeats 4000000 in
theorem wExactByResolutions (t : Int) (s u : ByteArray) (w : World) (hss : s.size ≤ maxLen) (hsu : u.size ≤ maxLen) :
    Calls Try.prog 8 #[.int .i64 t, .string s, .string u] w fun e w' => e = .returned (.bool true) ∧ Below w.heap.size w w' := by
  unfold maxLen at hss hsu
  by_cases hls : 1048576 < s.size
  · have hd : decide ((1048576 : Int) < (s.size : Int)) = true := decide_eq_true (by omega)
    go_enter Try.func8, Try.ntmps8
    go_wp2_with fail
    go_ret
    exact ⟨rfl, Below.refl _ _⟩
  have hds : decide ((1048576 : Int) < (s.size : Int)) = false := decide_eq_false (by omega)
  by_cases hlu : 1048576 < u.size
  · have hd : decide ((1048576 : Int) < (u.size : Int)) = true := decide_eq_true (by omega)
    go_enter Try.func8, Try.ntmps8
    go_wp2_with fail
    go_ret
    exact ⟨rfl, Below.refl _ _⟩
  have hdu : decide ((1048576 : Int) < (u.size : Int)) = false := decide_eq_false (by omega)
  clear hls hlu
  obtain ⟨b, HT⟩ : ∃ b, Hid (byResB t s u = b) := ⟨_, rfl⟩
  have HB : Hid (Below w.heap.size w w) := Below.refl _ _
  go_enter Try.func8, Try.ntmps8
  go_wp2_with fail
  refine (sByRes_is HT _ (by omega) (by omega)).mono ?_
  rintro e w' ⟨rfl, hb⟩
  replace HB := Lib.hid (bel_trans (by first | exact HB.out | exact bel_drewN HB.out _) hb)
  clear hb
  go_wp2_with fail
  refine (iByRes_is HT _ (by omega) (by omega)).mono ?_
  rintro e w' ⟨rfl, hb⟩
  replace HB := Lib.hid (bel_trans (by first | exact HB.out | exact bel_drewN HB.out _) hb)
  clear hb
  go_wp2_with fail
  go_ret
  exact ⟨rfl, HB.out⟩
set_option maxRecDepth 100000 in
set_option maxHeartbeats 4000000 in
theorem wExactAnswersIt (t k : Int) (s : ByteArray) (w : World) (hss : s.size ≤ maxLen) :
    Calls Try.prog 10 #[.int .i64 t, .int .i64 k, .string s] w fun e w' => e = .returned (.bool true) ∧ Below w.heap.size w w' := by
  unfold maxLen at hss
  by_cases hls : 1048576 < s.size
  · have hd : decide ((1048576 : Int) < (s.size : Int)) = true := decide_eq_true (by omega)
    go_enter Try.func10, Try.ntmps10
    go_wp2_with fail
    go_ret
    exact ⟨rfl, Below.refl _ _⟩
  have hds : decide ((1048576 : Int) < (s.size : Int)) = false := decide_eq_false (by omega)
  clear hls
  obtain ⟨b, HT⟩ : ∃ b, Hid (answersB t k s = b) := ⟨_, rfl⟩
  obtain ⟨n, HN⟩ : ∃ b, Hid (answersN t k s = b) := ⟨_, rfl⟩
  have HB : Hid (Below w.heap.size w w) := Below.refl _ _
  go_enter Try.func10, Try.ntmps10
  go_wp2_with fail
  refine (sAnswersIt_is HT HN _ (by omega)).mono ?_
  rintro e w' ⟨rfl, hb⟩
  replace HB := Lib.hid (bel_trans (by first | exact HB.out | exact bel_drewN HB.out _) hb)
  clear hb
  go_wp2_with fail
  refine (iAnswersIt_is HT HN _ (by omega)).mono ?_
  rintro e w' ⟨rfl, hb⟩
  replace HB := Lib.hid (bel_trans (by first | exact HB.out | exact bel_drewN HB.out _) hb)
  clear hb
  go_wp2_with fail
  go_ret
  exact ⟨rfl, HB.out⟩
end Go.Proofs.Ytbiifcdlfmeahaa
