/-
  What the proofs of this seat's statements share (Shl, Shx, Shy).
-/
import Derived.Test.YtmdpolllmipppaaU7
import Derived.Test.YtmdpolllmipppaaU4

namespace Go.Proofs.Ytmdpolllmipppaa
open Go.RowKit

theorem bytesN_append (a b : ByteArray) : bytesN (a ++ b) = bytesN a ++ bytesN b := by
  unfold bytesN
  rw [ByteArray.data_append, Array.toList_append, List.map_append]
theorem bytesN_lit (l : List UInt8) : bytesN ⟨l.toArray⟩ = l.map UInt8.toNat := rfl
theorem senT_of {t : Int} {s : ByteArray} {x : Sen} (h1 : 1 ≤ t) (h3 : t ≤ 3) (hl : s.size ≤ 60) (hx : senOk t x = true) (hb : bytesN s = textS x) : senT t s = some x :=
  senOf_iff.2 ⟨h1, h3, by rw [bytesN_len]; exact hl, hx, hb⟩
theorem size1 (b : UInt8) : (ByteArray.mk #[b]).size = 1 := rfl
theorem size2 (b c : UInt8) : (ByteArray.mk #[b, c]).size = 2 := rfl
theorem senT_no {t : Int} {s : ByteArray} {x : Sen} (h : senT t s = some x) (hl : s.size < 60) : senT t (⟨#[33]⟩ ++ s) = some (.no x) := by
  obtain ⟨h1, h3, _, hx, hb⟩ := senT_ok h
  refine senT_of h1 h3 (by rw [ByteArray.size_append, size1]; omega) hx ?_
  rw [bytesN_append, hb]; rfl
theorem senT_nono {t : Int} {s : ByteArray} {x : Sen} (h : senT t s = some x) (hl : s.size < 59) : senT t (⟨#[33, 33]⟩ ++ s) = some (.no (.no x)) := by
  obtain ⟨h1, h3, _, hx, hb⟩ := senT_ok h
  refine senT_of h1 h3 (by rw [ByteArray.size_append, size2]; omega) hx ?_
  rw [bytesN_append, hb]; rfl
theorem senT_ask {t : Int} {s : ByteArray} {x : Sen} (h : senT t s = some x) (hl : s.size < 60) : senT t (⟨#[63]⟩ ++ s) = some (.ask x) := by
  obtain ⟨h1, h3, _, hx, hb⟩ := senT_ok h
  refine senT_of h1 h3 (by rw [ByteArray.size_append, size1]; omega) hx ?_
  rw [bytesN_append, hb]; rfl
theorem senT_if {t : Int} {s u : ByteArray} {x y : Sen} (h : senT t s = some x) (hu : senT t u = some y) (hl : s.size + u.size < 58) : senT t (⟨#[40]⟩ ++ s ++ ⟨#[62]⟩ ++ u ++ ⟨#[41]⟩) = some (.if_ x y) := by
  obtain ⟨h1, h3, _, hx, hb⟩ := senT_ok h
  obtain ⟨_, _, _, hy, hc⟩ := senT_ok hu
  refine senT_of h1 h3 (by simp only [ByteArray.size_append, size1]; omega) (by unfold senOk; rw [hx, hy]; rfl) ?_
  simp only [bytesN_append, hb, hc, textS, List.append_assoc]; rfl

theorem issueT_ok {t : Int} {s : ByteArray} {x : Sen} (h : senT t s = some x) : issueOkB t (issueT t s) = true := by
  obtain ⟨h1, h3, _, _, _⟩ := senT_ok h
  rw [(issueT_some h).1]; exact sen_issue h1 h3 x
theorem issueT_len (t : Int) (s : ByteArray) : (issueT t s).length ≤ 70 := by
  rcases h : senT t s with _ | x
  · rw [(issueT_none h).1]; simp
  · exact (issue_ne (issueT_ok h)).2
theorem issueT_nono {t : Int} {s : ByteArray} {x : Sen} (h : senT t s = some x) (hl : s.size < 59) : issueT t (⟨#[33, 33]⟩ ++ s) = [unionI (issueT t s)] := by
  rw [(issueT_some (senT_nono h hl)).1, (issueT_some h).1]
  obtain ⟨h1, h3, _, _, _⟩ := senT_ok h
  exact law_notnot (sen_issue h1 h3 x)
theorem issueT_ask {t : Int} {s : ByteArray} {x : Sen} (h : senT t s = some x) (hl : s.size < 60) : grantedI t (issueT t (⟨#[63]⟩ ++ s)) = allOf t := by
  rw [granted_ok (issueT_ok (senT_ask h hl)), (issueT_some (senT_ask h hl)).1]
  obtain ⟨h1, h3, _, _, _⟩ := senT_ok h
  exact law_whether_all (sen_issue h1 h3 x)
theorem statement_union {t : Int} {xs : List Int} (h : issueOkB t xs = true) : statementL t (unionI xs) = [unionI xs] := by
  unfold statementL; rw [union_ok h]; rfl
theorem supports_settles {t k : Int} {s : ByteArray} {x : Sen} (h : senT t s = some x) (hk : setOkB t k = true) : settlesB t (issueT t s) k = supportsT t k s := by
  obtain ⟨h1, h3, _, _, _⟩ := senT_ok h
  obtain ⟨_, _, h0, ha, _⟩ := setOkB_lt hk
  rw [settles_any (issueT_ok h) h0 ha, (issueT_some h).1, ← support_settle h1 h3 x k h0 ha]
  unfold supportsT
  rw [h]; simp only [hk, Bool.true_and]
theorem supports_down {t k : Int} {s : ByteArray} (h : supportsT t k s = true) (b : Int) : supportsT t (andI k b) s = true := by
  rcases hx : senT t s with _ | x
  · unfold supportsT at h; rw [hx] at h; cases h
  obtain ⟨h1, h3, _, _, _⟩ := senT_ok hx
  have hk : setOkB t k = true := by unfold supportsT at h; rw [hx] at h; simp only [Bool.and_eq_true] at h; exact h.1
  obtain ⟨_, _, h0, ha, _⟩ := setOkB_lt hk
  have hk2 : setOkB t (andI k b) = true := andI_ok hk
  obtain ⟨_, _, g0, ga, _⟩ := setOkB_lt hk2
  rw [← supports_settles hx hk, settles_any (issueT_ok hx) h0 ha] at h
  rw [← supports_settles hx hk2, settles_any (issueT_ok hx) g0 ga]
  exact any_down g0 h0 (within_andI_left k b) h
theorem plain_some {t : Int} {s : ByteArray} (h : plainT t s = true) : ∃ x, senT t s = some x ∧ plainS x = true := by
  unfold plainT at h
  rcases hx : senT t s with _ | x
  · rw [hx] at h; cases h
  · rw [hx] at h; exact ⟨x, rfl, h⟩
theorem trueT_some {t : Int} {s : ByteArray} {x : Sen} (h : senT t s = some x) : trueT t s = unionI (issueT t s) := by
  obtain ⟨h1, h3, _, _, _⟩ := senT_ok h
  unfold trueT; rw [h, (issueT_some h).1]; exact true_granted h1 h3 x
theorem trueT_none {t : Int} {s : ByteArray} (h : senT t s = none) : trueT t s = -1 := by unfold trueT; rw [h]
theorem plain_law {t : Int} {s : ByteArray} (h : plainT t s = true) : statementL t (trueT t s) = issueT t s := by
  obtain ⟨x, hx, hp⟩ := plain_some h
  obtain ⟨h1, h3, _, _, _⟩ := senT_ok hx
  rw [trueT_some hx, statement_union (issueT_ok hx), (issueT_some hx).1]
  exact (plain_granted h1 h3 hp).symm
theorem true_no {t : Int} {s : ByteArray} {x : Sen} (h : senT t s = some x) (hl : s.size < 60) : trueT t (⟨#[33]⟩ ++ s) = allOf t - trueT t s := by
  obtain ⟨h1, h3, _, _, _⟩ := senT_ok h
  have hi := sen_issue h1 h3 x
  rw [trueT_some h, trueT_some (senT_no h hl), (issueT_some (senT_no h hl)).1, (issueT_some h).1]
  show unionI (notL t (issueS t x)) = _
  have := union_all hi
  rw [law_not hi, union_one (by omega)]
theorem true_range {t : Int} {s : ByteArray} {x : Sen} (h : senT t s = some x) : 0 ≤ trueT t s ∧ trueT t s ≤ allOf t := by
  rw [trueT_some h]; exact union_all (issueT_ok h)
theorem entails_some {t : Int} {s u : ByteArray} {x y : Sen} (h : senT t s = some x) (hu : senT t u = some y) : entailsT t s u = followsB t (issueT t s) (issueT t u) := by
  unfold entailsT; rw [h, hu, (issueT_some h).1, (issueT_some hu).1]
theorem entails_within {t : Int} {s u : ByteArray} (h : entailsT t s u = true) : withinB (trueT t s) (trueT t u) = true := by
  rcases hx : senT t s with _ | x
  · unfold entailsT at h; rw [hx] at h; cases h
  rcases hy : senT t u with _ | y
  · unfold entailsT at h; rw [hx, hy] at h; cases h
  rw [entails_some hx hy] at h
  rw [trueT_some hx, trueT_some hy]
  exact follows_union (issueT_ok hx) (issueT_ok hy) h
theorem entails_supports {t : Int} {s u : ByteArray} {x y : Sen} (h : senT t s = some x) (hu : senT t u = some y) (hl : s.size + u.size < 58) :
    supportsT t (allOf t) (⟨#[40]⟩ ++ s ++ ⟨#[62]⟩ ++ u ++ ⟨#[41]⟩) = entailsT t s u := by
  obtain ⟨h1, h3, _, _, _⟩ := senT_ok h
  unfold supportsT
  rw [senT_if h hu hl]
  show (setOkB t (allOf t) && holdsS t (.if_ x y) (allOf t)) = _
  rw [setOk_of h1 h3 (allOf_lt t).1 (Int.le_refl _), Bool.true_and, entails_if h1 h3, entails_some h hu, (issueT_some h).1, (issueT_some hu).1]
theorem entails_no {t : Int} {s u : ByteArray} (h : senT t s = none ∨ senT t u = none) : entailsT t s u = false := by
  unfold entailsT
  rcases h with h | h
  · rw [h]
  · rw [h]; cases senT t s <;> rfl

theorem iIssueOf_is {t : Int} {s : ByteArray} {r : List Int} {b : Bool} (h : Hid (issueT t s = r)) (h2 : Hid (isT t s = b)) (w : World) (hs : s.size ≤ 9223372036854775807) :
    Calls Try.prog 16 #[.int .i64 t, .string s] w (IssueOfPost r b w) := by
  have := iIssueOf t s w hs
  rw [h.out, h2.out] at this; exact this
theorem iSupportsT_is {t k : Int} {s : ByteArray} {b : Bool} (h : Hid (supportsT t k s = b)) (w : World) (hs : s.size ≤ 9223372036854775807) :
    Calls Try.prog 28 #[.int .i64 t, .int .i64 k, .string s] w fun e w' => e = .returned (.bool b) ∧ Below w.heap.size w w' := by
  have := iSupportsT t k s w hs
  rw [h.out] at this; exact this
theorem iPlainOk_is {t : Int} {s : ByteArray} {b : Bool} (h : Hid (plainT t s = b)) (w : World) (hs : s.size ≤ 9223372036854775807) :
    Calls Try.prog 34 #[.int .i64 t, .string s] w fun e w' => e = .returned (.bool b) ∧ Below w.heap.size w w' := by
  have := iPlainOk t s w hs
  rw [h.out] at this; exact this
theorem iTrueIn_is {t : Int} {s : ByteArray} {b : Int} (h : Hid (trueT t s = b)) (w : World) (hs : s.size ≤ 9223372036854775807) :
    Calls Try.prog 36 #[.int .i64 t, .string s] w fun e w' => e = .returned (.int .i64 b) ∧ Below w.heap.size w w' := by
  have := iTrueIn t s w hs
  rw [h.out] at this; exact this
theorem iEntailsOf_is {t : Int} {s u : ByteArray} {b : Bool} (h : Hid (entailsT t s u = b)) (w : World) (hs : s.size ≤ 9223372036854775807) (hu : u.size ≤ 9223372036854775807) :
    Calls Try.prog 40 #[.int .i64 t, .string s, .string u] w fun e w' => e = .returned (.bool b) ∧ Below w.heap.size w w' := by
  have := iEntailsOf t s u w hs hu
  rw [h.out] at this; exact this
theorem sIssueOf_is {t : Int} {s : ByteArray} {r : List Int} {b : Bool} (h : Hid (issueT t s = r)) (h2 : Hid (isT t s = b)) (w : World) (hs : s.size ≤ 9223372036854775807) :
    Calls Try.prog 17 #[.int .i64 t, .string s] w (IssueOfPost r b w) := by
  have := sIssueOf t s w hs
  rw [h.out, h2.out] at this; exact this
theorem sSupportsT_is {t k : Int} {s : ByteArray} {b : Bool} (h : Hid (supportsT t k s = b)) (w : World) (hs : s.size ≤ 9223372036854775807) :
    Calls Try.prog 29 #[.int .i64 t, .int .i64 k, .string s] w fun e w' => e = .returned (.bool b) ∧ Below w.heap.size w w' := by
  have := sSupportsT t k s w hs
  rw [h.out] at this; exact this
theorem sPlainOk_is {t : Int} {s : ByteArray} {b : Bool} (h : Hid (plainT t s = b)) (w : World) (hs : s.size ≤ 9223372036854775807) :
    Calls Try.prog 35 #[.int .i64 t, .string s] w fun e w' => e = .returned (.bool b) ∧ Below w.heap.size w w' := by
  have := sPlainOk t s w hs
  rw [h.out] at this; exact this
theorem sTrueIn_is {t : Int} {s : ByteArray} {b : Int} (h : Hid (trueT t s = b)) (w : World) (hs : s.size ≤ 9223372036854775807) :
    Calls Try.prog 38 #[.int .i64 t, .string s] w fun e w' => e = .returned (.int .i64 b) ∧ Below w.heap.size w w' := by
  have := sTrueIn t s w hs
  rw [h.out] at this; exact this
theorem sEntailsOf_is {t : Int} {s u : ByteArray} {b : Bool} (h : Hid (entailsT t s u = b)) (w : World) (hs : s.size ≤ 9223372036854775807) (hu : u.size ≤ 9223372036854775807) :
    Calls Try.prog 41 #[.int .i64 t, .string s, .string u] w fun e w' => e = .returned (.bool b) ∧ Below w.heap.size w w' := by
  have := sEntailsOf t s u w hs hu
  rw [h.out] at this; exact this
end Go.Proofs.Ytmdpolllmipppaa

namespace Go.Proofs.Ytmdpolllmipppaa
open Go.RowKit

set_option maxHeartbeats 4000000 in
theorem wExactIssueOf (t : Int) (s : ByteArray) (w : World) (hss : s.size ≤ maxLen) :
    Calls Try.prog 4 #[.int .i64 t, .string s] w fun e w' => e = .returned (.bool true) ∧ Below w.heap.size w w' := by
  unfold maxLen at hss
  by_cases hls : 1048576 < s.size
  · have hd : decide ((1048576 : Int) < (s.size : Int)) = true := decide_eq_true (by omega)
    go_enter Try.func4, Try.ntmps4
    go_wp2_with fail
    go_ret
    exact ⟨rfl, Below.refl _ _⟩
  have hds : decide ((1048576 : Int) < (s.size : Int)) = false := decide_eq_false (by omega)
  have hles : s.size ≤ 1048576 := by omega
  clear hls
  obtain ⟨r, HIS⟩ : ∃ l, Hid (issueT t s = l) := ⟨_, rfl⟩
  obtain ⟨b, HT⟩ : ∃ b, Hid (isT t s = b) := ⟨_, rfl⟩
  have hrl : r.length ≤ 70 := by rw [← HIS.out]; exact issueT_len t s
  have HB : Hid (Below w.heap.size w w) := Below.refl _ _
  go_enter Try.func4, Try.ntmps4
  go_wp2_with fail
  refine (sIssueOf_is HIS HT _ (by omega)).mono ?_
  rintro e w1 ⟨v, rfl, ho, hb⟩
  obtain ⟨A1, c1, rfl, hc1, hm1, hn1, ha1⟩ := ho.form
  have hsz1 : w.heap.size ≤ w1.heap.size := hb.size
  replace HB := Lib.hid (bel_trans (by first | exact HB.out | exact bel_drewN HB.out _) hb)
  have HM1 := Lib.hid hm1
  have HA1 : Hid (∀ ad, A1 = some ad → w.heap.size ≤ ad.block ∧ ad.block < w1.heap.size) := ha1
  have HN1 := Lib.hid hn1
  have HO1 : Hid (Owns w1 w.heap.size _ _) := ho
  clear ho hb hm1 hn1 ha1
  go_wp2_with fail
  refine (iIssueOf_is HIS HT _ (by omega)).mono ?_
  rintro e w2 ⟨v, rfl, ho, hb⟩
  obtain ⟨A2, c2, rfl, hc2, hm2, hn2, ha2⟩ := ho.form
  have hsz2 : w1.heap.size ≤ w2.heap.size := hb.size
  replace HB := Lib.hid (bel_trans (by first | exact HB.out | exact bel_drewN HB.out _) hb)
  replace HN1 := Lib.hid (Nums.below (by exact HN1.out) hb)
  replace HO1 := Lib.hid (Owns.below (by exact HO1.out) hb)
  have HM2 := Lib.hid hm2
  have HA2 : Hid (∀ ad, A2 = some ad → w1.heap.size ≤ ad.block ∧ ad.block < w2.heap.size) := ha2
  have HN2 := Lib.hid hn2
  have HO2 : Hid (Owns w2 w1.heap.size _ _) := ho
  clear ho hb hm2 hn2 ha2
  go_wp2_with fail
  refine (lEqIntS _ _ _ _ _ _ r r _ rfl rfl (by omega) (by omega) (by exact HN2.out) (by exact HN1.out)).mono ?_
  rintro e w' ⟨rfl, m1, rfl⟩
  go_wp2_with fail
  refine (lMarkIntS _ _ _ _ r _ _ rfl (by omega) (by omega) (by omega) (by exact HO2.out)).mono ?_
  rintro e w3 ⟨ys3, rfl, hz, hv, ho, hg⟩
  replace HB := Lib.hid (bel_mark (by first | exact HB.out | exact bel_drewN HB.out _) hg (fun ad h => by have := (HA2.out ad h).1; omega))
  replace HN1 := Lib.hid (Nums.other (B := w1.heap.size) (by exact HN1.out) hg (fun ad h => by have := (HA1.out ad h).2; omega) (fun ad h => (HA2.out ad h).1))
  clear HO1
  obtain ⟨_, _, he, _, _, hnn, _⟩ := ho.form
  simp only [Value.slice.injEq] at he
  obtain ⟨rfl, hx1, rfl⟩ := he
  replace HN2 := Lib.hid hnn
  have hsz3 : w2.heap.size ≤ w3.heap.size := hg.size
  have HZ3 := Lib.hid hz
  have HV3 := Lib.hid hv
  clear ho hg hz hv hnn hx1
  clear HO2
  go_wp2_with fail
  refine (lHeldIntS _ _ _ ys3 _ _ HZ3.out.symm (by omega) (by omega) (by omega) (by exact HN2.out) HV3.out).mono ?_
  rintro e w' ⟨rfl, rfl⟩
  rw [HZ3.out]
  have hneg : decide ((1 : Int) + (r.length : Int) < 0) = false := decide_eq_false (by omega)
  go_wp2_with fail
  refine (iIssueOf_is HIS HT _ (by omega)).mono ?_
  rintro e w4 ⟨v, rfl, ho, hb⟩
  obtain ⟨A4, c4, rfl, hc4, hm4, hn4, ha4⟩ := ho.form
  have hsz4 : w3.heap.size ≤ w4.heap.size := hb.size
  replace HB := Lib.hid (bel_trans (by first | exact HB.out | exact bel_drewN HB.out _) hb)
  replace HN1 := Lib.hid (Nums.below (by exact HN1.out) hb)
  replace HN2 := Lib.hid (Nums.below (by exact HN2.out) hb)
  have HM4 := Lib.hid hm4
  have HA4 : Hid (∀ ad, A4 = some ad → w3.heap.size ≤ ad.block ∧ ad.block < w4.heap.size) := ha4
  have HN4 := Lib.hid hn4
  have HO4 : Hid (Owns w4 w3.heap.size _ _) := ho
  clear ho hb hm4 hn4 ha4
  go_wp2_with fail
  refine (lEqIntS _ _ _ _ _ _ r r _ rfl rfl (by omega) (by omega) (by exact HN4.out) (by exact HN1.out)).mono ?_
  rintro e w' ⟨rfl, m2, rfl⟩
  go_wp2_with fail
  refine (lHeldIntS _ _ _ ys3 _ _ HZ3.out.symm (by omega) (by omega) (by omega) (by exact HN2.out) HV3.out).mono ?_
  rintro e w' ⟨rfl, rfl⟩
  rw [HZ3.out]
  go_wp2_with fail
  go_ret
  exact ⟨rfl, by first | exact HB.out | exact bel_drewN HB.out _⟩

set_option maxHeartbeats 4000000 in
theorem wExactSupports (t : Int) (k : Int) (s : ByteArray) (w : World) (hss : s.size ≤ maxLen) :
    Calls Try.prog 6 #[.int .i64 t, .int .i64 k, .string s] w fun e w' => e = .returned (.bool true) ∧ Below w.heap.size w w' := by
  unfold maxLen at hss
  by_cases hls : 1048576 < s.size
  · have hd : decide ((1048576 : Int) < (s.size : Int)) = true := decide_eq_true (by omega)
    go_enter Try.func6, Try.ntmps6
    go_wp2_with fail
    go_ret
    exact ⟨rfl, Below.refl _ _⟩
  have hds : decide ((1048576 : Int) < (s.size : Int)) = false := decide_eq_false (by omega)
  have hles : s.size ≤ 1048576 := by omega
  clear hls
  obtain ⟨b, HT⟩ : ∃ b, Hid (supportsT t k s = b) := ⟨_, rfl⟩
  have HB : Hid (Below w.heap.size w w) := Below.refl _ _
  go_enter Try.func6, Try.ntmps6
  go_wp2_with fail
  refine (sSupportsT_is HT _ (by omega)).mono ?_
  rintro e w' ⟨rfl, hb⟩
  replace HB := Lib.hid (bel_trans (by first | exact HB.out | exact bel_drewN HB.out _) hb)
  clear hb
  go_wp2_with fail
  refine (iSupportsT_is HT _ (by omega)).mono ?_
  rintro e w' ⟨rfl, hb⟩
  replace HB := Lib.hid (bel_trans (by first | exact HB.out | exact bel_drewN HB.out _) hb)
  clear hb
  go_wp2_with fail
  go_ret
  exact ⟨rfl, by first | exact HB.out | exact bel_drewN HB.out _⟩

set_option maxHeartbeats 4000000 in
theorem wExactPlainOk (t : Int) (s : ByteArray) (w : World) (hss : s.size ≤ maxLen) :
    Calls Try.prog 8 #[.int .i64 t, .string s] w fun e w' => e = .returned (.bool true) ∧ Below w.heap.size w w' := by
  unfold maxLen at hss
  by_cases hls : 1048576 < s.size
  · have hd : decide ((1048576 : Int) < (s.size : Int)) = true := decide_eq_true (by omega)
    go_enter Try.func8, Try.ntmps8
    go_wp2_with fail
    go_ret
    exact ⟨rfl, Below.refl _ _⟩
  have hds : decide ((1048576 : Int) < (s.size : Int)) = false := decide_eq_false (by omega)
  have hles : s.size ≤ 1048576 := by omega
  clear hls
  obtain ⟨b, HT⟩ : ∃ b, Hid (plainT t s = b) := ⟨_, rfl⟩
  have HB : Hid (Below w.heap.size w w) := Below.refl _ _
  go_enter Try.func8, Try.ntmps8
  go_wp2_with fail
  refine (sPlainOk_is HT _ (by omega)).mono ?_
  rintro e w' ⟨rfl, hb⟩
  replace HB := Lib.hid (bel_trans (by first | exact HB.out | exact bel_drewN HB.out _) hb)
  clear hb
  go_wp2_with fail
  refine (iPlainOk_is HT _ (by omega)).mono ?_
  rintro e w' ⟨rfl, hb⟩
  replace HB := Lib.hid (bel_trans (by first | exact HB.out | exact bel_drewN HB.out _) hb)
  clear hb
  go_wp2_with fail
  go_ret
  exact ⟨rfl, by first | exact HB.out | exact bel_drewN HB.out _⟩

set_option maxHeartbeats 4000000 in
theorem wExactTrueIn (t : Int) (s : ByteArray) (w : World) (hss : s.size ≤ maxLen) :
    Calls Try.prog 10 #[.int .i64 t, .string s] w fun e w' => e = .returned (.bool true) ∧ Below w.heap.size w w' := by
  unfold maxLen at hss
  by_cases hls : 1048576 < s.size
  · have hd : decide ((1048576 : Int) < (s.size : Int)) = true := decide_eq_true (by omega)
    go_enter Try.func10, Try.ntmps10
    go_wp2_with fail
    go_ret
    exact ⟨rfl, Below.refl _ _⟩
  have hds : decide ((1048576 : Int) < (s.size : Int)) = false := decide_eq_false (by omega)
  have hles : s.size ≤ 1048576 := by omega
  clear hls
  obtain ⟨b, HT⟩ : ∃ b, Hid (trueT t s = b) := ⟨_, rfl⟩
  have HB : Hid (Below w.heap.size w w) := Below.refl _ _
  go_enter Try.func10, Try.ntmps10
  go_wp2_with fail
  refine (sTrueIn_is HT _ (by omega)).mono ?_
  rintro e w' ⟨rfl, hb⟩
  replace HB := Lib.hid (bel_trans (by first | exact HB.out | exact bel_drewN HB.out _) hb)
  clear hb
  go_wp2_with fail
  refine (iTrueIn_is HT _ (by omega)).mono ?_
  rintro e w' ⟨rfl, hb⟩
  replace HB := Lib.hid (bel_trans (by first | exact HB.out | exact bel_drewN HB.out _) hb)
  clear hb
  go_wp2_with fail
  go_ret
  exact ⟨rfl, by first | exact HB.out | exact bel_drewN HB.out _⟩

set_option maxHeartbeats 4000000 in
theorem wExactEntailsOf (t : Int) (s : ByteArray) (u : ByteArray) (w : World) (hss : s.size ≤ maxLen) (hsu : u.size ≤ maxLen) :
    Calls Try.prog 12 #[.int .i64 t, .string s, .string u] w fun e w' => e = .returned (.bool true) ∧ Below w.heap.size w w' := by
  unfold maxLen at hss
  unfold maxLen at hsu
  by_cases hls : 1048576 < s.size
  · have hd : decide ((1048576 : Int) < (s.size : Int)) = true := decide_eq_true (by omega)
    go_enter Try.func12, Try.ntmps12
    go_wp2_with fail
    go_ret
    exact ⟨rfl, Below.refl _ _⟩
  by_cases hlu : 1048576 < u.size
  · have hd : decide ((1048576 : Int) < (u.size : Int)) = true := decide_eq_true (by omega)
    have hds : decide ((1048576 : Int) < (s.size : Int)) = false := decide_eq_false (by omega)
    go_enter Try.func12, Try.ntmps12
    go_wp2_with fail
    go_ret
    exact ⟨rfl, Below.refl _ _⟩
  have hds : decide ((1048576 : Int) < (s.size : Int)) = false := decide_eq_false (by omega)
  have hles : s.size ≤ 1048576 := by omega
  have hdu : decide ((1048576 : Int) < (u.size : Int)) = false := decide_eq_false (by omega)
  have hleu : u.size ≤ 1048576 := by omega
  clear hls hlu
  obtain ⟨b, HT⟩ : ∃ b, Hid (entailsT t s u = b) := ⟨_, rfl⟩
  have HB : Hid (Below w.heap.size w w) := Below.refl _ _
  go_enter Try.func12, Try.ntmps12
  go_wp2_with fail
  refine (sEntailsOf_is HT _ (by omega) (by omega)).mono ?_
  rintro e w' ⟨rfl, hb⟩
  replace HB := Lib.hid (bel_trans (by first | exact HB.out | exact bel_drewN HB.out _) hb)
  clear hb
  go_wp2_with fail
  refine (iEntailsOf_is HT _ (by omega) (by omega)).mono ?_
  rintro e w' ⟨rfl, hb⟩
  replace HB := Lib.hid (bel_trans (by first | exact HB.out | exact bel_drewN HB.out _) hb)
  clear hb
  go_wp2_with fail
  go_ret
  exact ⟨rfl, by first | exact HB.out | exact bel_drewN HB.out _⟩

end Go.Proofs.Ytmdpolllmipppaa

namespace Go.Proofs.Ytmdpolllmipppaa
open Go.RowKit

set_option maxRecDepth 100000 in
set_option maxHeartbeats 4000000 in
theorem wIssueOf (A : Option Addr) (nn c : Nat) (zs : List Int) (w : World) (hn : nn = zs.length) (hc : nn ≤ c) (hm : c ≤ maxLen) (hr : ∀ z ∈ zs, 0 ≤ z ∧ z ≤ 255) (hA : Nums .u8 w A zs) :
    Calls Try.prog 3 #[.slice A nn c] w fun e w' => e = .returned (.bool true) ∧ Below w.heap.size w w' := by
  have HO := Lib.hid (drawIssueOf_any A nn c zs w hn hc hm hr hA)
  have hm' : nn ≤ 9223372036854775807 := by unfold maxLen at hm; omega
  clear hn hc hm hr hA
  by_cases hl : 1048576 < nn
  · have hd : decide ((1048576 : Int) < (nn : Int)) = true := decide_eq_true (by omega)
    go_enter Try.func3, Try.ntmps3
    go_wp2_with fail
    go_ret
    exact ⟨rfl, Below.refl _ _⟩
  have hd : decide ((1048576 : Int) < (nn : Int)) = false := decide_eq_false (by omega)
  clear hl
  go_enter Try.func3, Try.ntmps3
  go_wp2_with fail
  refine HO.out.mono ?_
  rintro e w1 ⟨t, s, rfl, ht0, ht1, hs, hb⟩
  have HB := Lib.hid hb
  clear hb HO hd
  obtain ⟨r, HIS⟩ : ∃ l, Hid (issueT t s = l) := ⟨_, rfl⟩
  have hrl : r.length ≤ 70 := by rw [← HIS.out]; exact issueT_len t s
  rcases hso : senT t s with _ | x
  · have HT : Hid (isT t s = false) := isT_none hso
    have HE : Hid (r = []) := by unfold Hid; rw [← HIS.out]; exact (issueT_none hso).1
    have hz : r.length ≤ 0 := by rw [HE.out]; simp
    have hq : ((r.length : Int) == 0) = true := by rw [beq_iff_eq]; omega
    clear hz hso HE
    go_wp2_with fail
    refine (iIssueOf_is HIS HT _ (by omega)).mono ?_
    rintro e w3 ⟨v, rfl, ho, hb⟩
    obtain ⟨A3, c3, rfl, _, _, _, _⟩ := ho.form
    replace HB := Lib.hid (bel_trans (by first | exact HB.out | exact bel_drewN HB.out _) hb)
    have HR3 := Lib.hid (Owns.row ho (by omega))
    clear ho hb
    go_wp2_with fail
    refine (sIssueOf_is HIS HT _ (by omega)).mono ?_
    rintro e w4 ⟨v, rfl, ho, hb⟩
    obtain ⟨A4, c4, rfl, _, _, _, _⟩ := ho.form
    replace HB := Lib.hid (bel_trans (by first | exact HB.out | exact bel_drewN HB.out _) hb)
    replace HR3 := Lib.hid (Row.below (by first | exact HR3.out | exact Row.drewN HR3.out _) hb)
    have HR4 := Lib.hid (Owns.row ho (by omega))
    clear ho hb
    go_wp2_with fail
    refine (rSame (same_self r) HR3.out HR4.out).mono ?_
    rintro e w' ⟨rfl, m1, rfl⟩
    go_wp2_with fail
    refine (lAlive _).mono ?_
    rintro e w' ⟨rfl, rfl⟩
    go_wp2_with fail
    go_ret
    exact ⟨rfl, bel_drewN HB.out _⟩
  · have HT : Hid (isT t s = true) := isT_some hso
    have h1 := (senT_ok hso).1
    have h3 := (senT_ok hso).2.1
    have HI : Hid (issueOkB t r = true) := by unfold Hid; rw [← HIS.out]; exact issueT_ok hso
    obtain ⟨al, HAL⟩ : ∃ n, Hid (allOf t = n) := ⟨_, rfl⟩
    obtain ⟨g, HGA⟩ : ∃ n, Hid (grantedI t r = n) := ⟨_, rfl⟩
    obtain ⟨s2, HS2⟩ : ∃ u, Hid (ByteArray.mk #[33, 33] ++ s = u) := ⟨_, rfl⟩
    obtain ⟨s3, HS3⟩ : ∃ u, Hid (ByteArray.mk #[63] ++ s = u) := ⟨_, rfl⟩
    obtain ⟨q, HIQ⟩ : ∃ l, Hid (issueT t s3 = l) := ⟨_, rfl⟩
    have hql : q.length ≤ 70 := by rw [← HIQ.out]; exact issueT_len t s3
    have hz2 : (ByteArray.mk #[33, 33] ++ s).size ≤ 9223372036854775807 := by rw [ByteArray.size_append, size2]; omega
    have hz3 : (ByteArray.mk #[63] ++ s).size ≤ 9223372036854775807 := by rw [ByteArray.size_append, size1]; omega
    have HI2 : Hid (issueT t (ByteArray.mk #[33, 33] ++ s) = [g]) := by unfold Hid; rw [issueT_nono hso (by omega), ← HGA.out, HIS.out, granted_ok HI.out]
    have HT2 : Hid (isT t (ByteArray.mk #[33, 33] ++ s) = true) := isT_some (senT_nono hso (by omega))
    have HI3 : Hid (issueT t (ByteArray.mk #[63] ++ s) = q) := by unfold Hid; rw [HS3.out]; exact HIQ.out
    have HT3 : Hid (isT t (ByteArray.mk #[63] ++ s) = true) := isT_some (senT_ask hso (by omega))
    have HG3 : Hid (grantedI t q = al) := by unfold Hid; rw [← HI3.out, issueT_ask hso (by omega), HAL.out]
    have HST : Hid (statementL t g = [g]) := by unfold Hid; rw [← HGA.out, granted_ok HI.out]; exact statement_union HI.out
    have hgl : [g].length ≤ 70 := by simp
    clear hso HS2 HS3 HIQ
    go_wp2_with fail
    refine (iIssueOf_is HIS HT _ (by omega)).mono ?_
    rintro e w3 ⟨v, rfl, ho, hb⟩
    obtain ⟨A3, c3, rfl, _, _, _, _⟩ := ho.form
    replace HB := Lib.hid (bel_trans (by first | exact HB.out | exact bel_drewN HB.out _) hb)
    have HR3 := Lib.hid (Owns.row ho (by omega))
    clear ho hb
    go_wp2_with fail
    refine (sIssueOf_is HIS HT _ (by omega)).mono ?_
    rintro e w4 ⟨v, rfl, ho, hb⟩
    obtain ⟨A4, c4, rfl, _, _, _, _⟩ := ho.form
    replace HB := Lib.hid (bel_trans (by first | exact HB.out | exact bel_drewN HB.out _) hb)
    replace HR3 := Lib.hid (Row.below (by first | exact HR3.out | exact Row.drewN HR3.out _) hb)
    have HR4 := Lib.hid (Owns.row ho (by omega))
    clear ho hb
    go_wp2_with fail
    refine (rSame (same_self r) HR3.out HR4.out).mono ?_
    rintro e w' ⟨rfl, m2, rfl⟩
    go_wp2_with fail
    refine (iIssueOf_is HI2 HT2 _ hz2).mono ?_
    rintro e w5 ⟨v, rfl, ho, hb⟩
    obtain ⟨A5, c5, rfl, _, _, _, _⟩ := ho.form
    replace HB := Lib.hid (bel_trans (by first | exact HB.out | exact bel_drewN HB.out _) hb)
    replace HR3 := Lib.hid (Row.below (by first | exact HR3.out | exact Row.drewN HR3.out _) hb)
    replace HR4 := Lib.hid (Row.below (by first | exact HR4.out | exact Row.drewN HR4.out _) hb)
    have HR5 := Lib.hid (Owns.row ho (by omega))
    clear ho hb
    go_wp2_with fail
    refine (iIssueOf_is HI3 HT3 _ hz3).mono ?_
    rintro e w6 ⟨v, rfl, ho, hb⟩
    obtain ⟨A6, c6, rfl, _, _, _, _⟩ := ho.form
    replace HB := Lib.hid (bel_trans (by first | exact HB.out | exact bel_drewN HB.out _) hb)
    replace HR3 := Lib.hid (Row.below (by first | exact HR3.out | exact Row.drewN HR3.out _) hb)
    replace HR4 := Lib.hid (Row.below (by first | exact HR4.out | exact Row.drewN HR4.out _) hb)
    replace HR5 := Lib.hid (Row.below (by first | exact HR5.out | exact Row.drewN HR5.out _) hb)
    have HR6 := Lib.hid (Owns.row ho (by omega))
    clear ho hb
    go_wp2_with fail
    refine (rIssueOk HI (by first | exact HR3.out | exact Row.drewN HR3.out _)).mono ?_
    rintro e w' ⟨rfl, m3, rfl⟩
    go_wp2_with fail
    refine (iGrantedBy_ok HGA _ _ _ _ (by first | exact HR3.out | exact Row.drewN HR3.out _)).mono ?_
    rintro e w' ⟨rfl, m4, rfl⟩
    go_wp2_with fail
    refine (iStatementOf _ _ _).mono ?_
    rintro e w7 ⟨v, rfl, ho, hb⟩
    rw [HST.out] at ho
    obtain ⟨A7, c7, rfl, _, _, _, _⟩ := ho.form
    replace HB := Lib.hid (bel_trans (by first | exact HB.out | exact bel_drewN HB.out _) hb)
    replace HR3 := Lib.hid (Row.below (by first | exact HR3.out | exact Row.drewN HR3.out _) hb)
    replace HR4 := Lib.hid (Row.below (by first | exact HR4.out | exact Row.drewN HR4.out _) hb)
    replace HR5 := Lib.hid (Row.below (by first | exact HR5.out | exact Row.drewN HR5.out _) hb)
    replace HR6 := Lib.hid (Row.below (by first | exact HR6.out | exact Row.drewN HR6.out _) hb)
    have HR7 := Lib.hid (Owns.row ho (by omega))
    clear ho hb
    go_wp2_with fail
    refine (rSame (same_self [g]) HR5.out HR7.out).mono ?_
    rintro e w' ⟨rfl, m5, rfl⟩
    go_wp2_with fail
    refine (iGrantedBy_ok HG3 _ _ _ _ (by first | exact HR6.out | exact Row.drewN HR6.out _)).mono ?_
    rintro e w' ⟨rfl, m6, rfl⟩
    go_wp2_with fail
    refine (lWhole_is HAL h1 h3 _).mono ?_
    rintro e w' ⟨rfl, rfl⟩
    go_wp2_with fail
    go_ret
    exact ⟨rfl, bel_drewN HB.out _⟩

set_option maxRecDepth 100000 in
set_option maxHeartbeats 4000000 in
theorem wPlainOk (A : Option Addr) (nn c : Nat) (zs : List Int) (w : World) (hn : nn = zs.length) (hc : nn ≤ c) (hm : c ≤ maxLen) (hr : ∀ z ∈ zs, 0 ≤ z ∧ z ≤ 255) (hA : Nums .u8 w A zs) :
    Calls Try.prog 7 #[.slice A nn c] w fun e w' => e = .returned (.bool true) ∧ Below w.heap.size w w' := by
  have HO := Lib.hid (drawPlainOk_any A nn c zs w hn hc hm hr hA)
  have hm' : nn ≤ 9223372036854775807 := by unfold maxLen at hm; omega
  clear hn hc hm hr hA
  by_cases hl : 1048576 < nn
  · have hd : decide ((1048576 : Int) < (nn : Int)) = true := decide_eq_true (by omega)
    go_enter Try.func7, Try.ntmps7
    go_wp2_with fail
    go_ret
    exact ⟨rfl, Below.refl _ _⟩
  have hd : decide ((1048576 : Int) < (nn : Int)) = false := decide_eq_false (by omega)
  clear hl
  go_enter Try.func7, Try.ntmps7
  go_wp2_with fail
  refine HO.out.mono ?_
  rintro e w1 ⟨t, s, rfl, ht0, ht1, hs, hb⟩
  have HB := Lib.hid hb
  clear hb HO hd
  rcases hp : plainT t s with _ | _
  · have HP := Lib.hid hp
    clear hp
    go_wp2_with fail
    refine (iPlainOk_is HP _ (by omega)).mono ?_
    rintro e w' ⟨rfl, hb⟩
    replace HB := Lib.hid (bel_trans (by first | exact HB.out | exact bel_drewN HB.out _) hb)
    clear hb
    go_wp2_with fail
    refine (sPlainOk_is HP _ (by omega)).mono ?_
    rintro e w' ⟨rfl, hb⟩
    replace HB := Lib.hid (bel_trans (by first | exact HB.out | exact bel_drewN HB.out _) hb)
    clear hb
    go_wp2_with fail
    refine (lAlive _).mono ?_
    rintro e w' ⟨rfl, rfl⟩
    go_wp2_with fail
    go_ret
    exact ⟨rfl, HB.out⟩
  · have HP := Lib.hid hp
    obtain ⟨r, HIS⟩ : ∃ l, Hid (issueT t s = l) := ⟨_, rfl⟩
    have hrl : r.length ≤ 70 := by rw [← HIS.out]; exact issueT_len t s
    obtain ⟨g, HTR⟩ : ∃ n, Hid (trueT t s = n) := ⟨_, rfl⟩
    have HT : Hid (isT t s = true) := by obtain ⟨x, hx, _⟩ := plain_some hp; exact isT_some hx
    have HST : Hid (statementL t g = r) := by unfold Hid; rw [← HTR.out, ← HIS.out]; exact plain_law hp
    clear hp
    go_wp2_with fail
    refine (iPlainOk_is HP _ (by omega)).mono ?_
    rintro e w' ⟨rfl, hb⟩
    replace HB := Lib.hid (bel_trans (by first | exact HB.out | exact bel_drewN HB.out _) hb)
    clear hb
    go_wp2_with fail
    refine (sPlainOk_is HP _ (by omega)).mono ?_
    rintro e w' ⟨rfl, hb⟩
    replace HB := Lib.hid (bel_trans (by first | exact HB.out | exact bel_drewN HB.out _) hb)
    clear hb
    go_wp2_with fail
    refine (iIssueOf_is HIS HT _ (by omega)).mono ?_
    rintro e w3 ⟨v, rfl, ho, hb⟩
    obtain ⟨A3, c3, rfl, _, _, _, _⟩ := ho.form
    replace HB := Lib.hid (bel_trans (by first | exact HB.out | exact bel_drewN HB.out _) hb)
    have HR3 := Lib.hid (Owns.row ho (by omega))
    clear ho hb
    go_wp2_with fail
    refine (iTrueIn_is HTR _ (by omega)).mono ?_
    rintro e w' ⟨rfl, hb⟩
    replace HB := Lib.hid (bel_trans (by first | exact HB.out | exact bel_drewN HB.out _) hb)
    replace HR3 := Lib.hid (Row.below (by first | exact HR3.out | exact Row.drewN HR3.out _) hb)
    clear hb
    go_wp2_with fail
    refine (iStatementOf _ _ _).mono ?_
    rintro e w4 ⟨v, rfl, ho, hb⟩
    rw [HST.out] at ho
    obtain ⟨A4, c4, rfl, _, _, _, _⟩ := ho.form
    replace HB := Lib.hid (bel_trans (by first | exact HB.out | exact bel_drewN HB.out _) hb)
    replace HR3 := Lib.hid (Row.below (by first | exact HR3.out | exact Row.drewN HR3.out _) hb)
    have HR4 := Lib.hid (Owns.row ho (by omega))
    clear ho hb
    go_wp2_with fail
    refine (rSame (same_self r) HR3.out HR4.out).mono ?_
    rintro e w' ⟨rfl, m1, rfl⟩
    go_wp2_with fail
    go_ret
    exact ⟨rfl, bel_drewN HB.out _⟩

set_option maxRecDepth 100000 in
set_option maxHeartbeats 4000000 in
theorem wTrueIn (A : Option Addr) (nn c : Nat) (zs : List Int) (w : World) (hn : nn = zs.length) (hc : nn ≤ c) (hm : c ≤ maxLen) (hr : ∀ z ∈ zs, 0 ≤ z ∧ z ≤ 255) (hA : Nums .u8 w A zs) :
    Calls Try.prog 9 #[.slice A nn c] w fun e w' => e = .returned (.bool true) ∧ Below w.heap.size w w' := by
  have HO := Lib.hid (drawTrueIn_any A nn c zs w hn hc hm hr hA)
  have hm' : nn ≤ 9223372036854775807 := by unfold maxLen at hm; omega
  clear hn hc hm hr hA
  by_cases hl : 1048576 < nn
  · have hd : decide ((1048576 : Int) < (nn : Int)) = true := decide_eq_true (by omega)
    go_enter Try.func9, Try.ntmps9
    go_wp2_with fail
    go_ret
    exact ⟨rfl, Below.refl _ _⟩
  have hd : decide ((1048576 : Int) < (nn : Int)) = false := decide_eq_false (by omega)
  clear hl
  go_enter Try.func9, Try.ntmps9
  go_wp2_with fail
  refine HO.out.mono ?_
  rintro e w1 ⟨t, s, rfl, ht0, ht1, hs, hb⟩
  have HB := Lib.hid hb
  clear hb HO hd
  rcases hso : senT t s with _ | x
  · have HTR : Hid (trueT t s = -1) := trueT_none hso
    clear hso
    go_wp2_with fail
    refine (iTrueIn_is HTR _ (by omega)).mono ?_
    rintro e w' ⟨rfl, hb⟩
    replace HB := Lib.hid (bel_trans (by first | exact HB.out | exact bel_drewN HB.out _) hb)
    clear hb
    go_wp2_with fail
    refine (sTrueIn_is HTR _ (by omega)).mono ?_
    rintro e w' ⟨rfl, hb⟩
    replace HB := Lib.hid (bel_trans (by first | exact HB.out | exact bel_drewN HB.out _) hb)
    clear hb
    go_wp2_with fail
    refine (lAlive _).mono ?_
    rintro e w' ⟨rfl, rfl⟩
    go_wp2_with fail
    go_ret
    exact ⟨rfl, HB.out⟩
  · obtain ⟨r, HIS⟩ : ∃ l, Hid (issueT t s = l) := ⟨_, rfl⟩
    have hrl : r.length ≤ 70 := by rw [← HIS.out]; exact issueT_len t s
    obtain ⟨g, HTR⟩ : ∃ n, Hid (trueT t s = n) := ⟨_, rfl⟩
    obtain ⟨al, HAL⟩ : ∃ n, Hid (allOf t = n) := ⟨_, rfl⟩
    have hal1 : al < 256 := by rw [← HAL.out]; exact (allOf_lt t).2
    have hg0 : 0 ≤ g := by rw [← HTR.out]; exact (true_range hso).1
    have hg1 : g ≤ al := by rw [← HTR.out, ← HAL.out]; exact (true_range hso).2
    have h1 := (senT_ok hso).1
    have h3 := (senT_ok hso).2.1
    have HT : Hid (isT t s = true) := isT_some hso
    have HGA : Hid (grantedI t r = g) := by unfold Hid; rw [← HIS.out, ← HTR.out, granted_ok (issueT_ok hso), trueT_some hso]
    have HT2 : Hid (trueT t (ByteArray.mk #[33] ++ s) = al - g) := by unfold Hid; rw [true_no hso (by omega), HAL.out, HTR.out]
    have hz2 : (ByteArray.mk #[33] ++ s).size ≤ 9223372036854775807 := by rw [ByteArray.size_append, size1]; omega
    have hneg : decide (g < 0) = false := decide_eq_false (by omega)
    have hlen : decide ((60 : Int) ≤ (s.size : Int)) = false := decide_eq_false (by omega)
    clear hso
    go_wp2_with fail
    refine (iTrueIn_is HTR _ (by omega)).mono ?_
    rintro e w' ⟨rfl, hb⟩
    replace HB := Lib.hid (bel_trans (by first | exact HB.out | exact bel_drewN HB.out _) hb)
    clear hb
    go_wp2_with fail
    refine (sTrueIn_is HTR _ (by omega)).mono ?_
    rintro e w' ⟨rfl, hb⟩
    replace HB := Lib.hid (bel_trans (by first | exact HB.out | exact bel_drewN HB.out _) hb)
    clear hb
    go_wp2_with fail
    refine (iIssueOf_is HIS HT _ (by omega)).mono ?_
    rintro e w3 ⟨v, rfl, ho, hb⟩
    obtain ⟨A3, c3, rfl, _, _, _, _⟩ := ho.form
    replace HB := Lib.hid (bel_trans (by first | exact HB.out | exact bel_drewN HB.out _) hb)
    have HR3 := Lib.hid (Owns.row ho (by omega))
    clear ho hb
    go_wp2_with fail
    refine (iGrantedBy_ok HGA _ _ _ _ (by first | exact HR3.out | exact Row.drewN HR3.out _)).mono ?_
    rintro e w' ⟨rfl, m1, rfl⟩
    go_wp2_with fail
    refine (iTrueIn_is HT2 _ hz2).mono ?_
    rintro e w' ⟨rfl, hb⟩
    replace HB := Lib.hid (bel_trans (by first | exact HB.out | exact bel_drewN HB.out _) hb)
    replace HR3 := Lib.hid (Row.below (by first | exact HR3.out | exact Row.drewN HR3.out _) hb)
    clear hb
    go_wp2_with fail
    refine (lWhole_is HAL h1 h3 _).mono ?_
    rintro e w' ⟨rfl, rfl⟩
    go_wp2_with fail
    go_ret
    exact ⟨rfl, by first | exact HB.out | exact bel_drewN HB.out _⟩

set_option maxRecDepth 100000 in
set_option maxHeartbeats 4000000 in
theorem wEntailsOf (A : Option Addr) (nn c : Nat) (zs : List Int) (w : World) (hn : nn = zs.length) (hc : nn ≤ c) (hm : c ≤ maxLen) (hr : ∀ z ∈ zs, 0 ≤ z ∧ z ≤ 255) (hA : Nums .u8 w A zs) :
    Calls Try.prog 11 #[.slice A nn c] w fun e w' => e = .returned (.bool true) ∧ Below w.heap.size w w' := by
  have HO := Lib.hid (drawEntailsOf_any A nn c zs w hn hc hm hr hA)
  have hm' : nn ≤ 9223372036854775807 := by unfold maxLen at hm; omega
  clear hn hc hm hr hA
  by_cases hl : 1048576 < nn
  · have hd : decide ((1048576 : Int) < (nn : Int)) = true := decide_eq_true (by omega)
    go_enter Try.func11, Try.ntmps11
    go_wp2_with fail
    go_ret
    exact ⟨rfl, Below.refl _ _⟩
  have hd : decide ((1048576 : Int) < (nn : Int)) = false := decide_eq_false (by omega)
  clear hl
  go_enter Try.func11, Try.ntmps11
  go_wp2_with fail
  refine HO.out.mono ?_
  rintro e w1 ⟨t, s, u, rfl, ht0, ht1, hs, hu, hb⟩
  have HB := Lib.hid hb
  clear hb HO hd
  obtain ⟨a, HTA⟩ : ∃ n, Hid (trueT t s = n) := ⟨_, rfl⟩
  obtain ⟨b, HTB⟩ : ∃ n, Hid (trueT t u = n) := ⟨_, rfl⟩
  rcases hso : senT t s with _ | x
  · have HEN : Hid (entailsT t s u = false) := entails_no (.inl hso)
    have ha : a < 0 := by rw [← HTA.out, trueT_none hso]; omega
    have hda : decide (a < 0) = true := decide_eq_true ha
    clear hso ha
    go_wp2_with fail
    refine (iEntailsOf_is HEN _ (by omega) (by omega)).mono ?_
    rintro e w' ⟨rfl, hb⟩
    replace HB := Lib.hid (bel_trans (by first | exact HB.out | exact bel_drewN HB.out _) hb)
    clear hb
    go_wp2_with fail
    refine (sEntailsOf_is HEN _ (by omega) (by omega)).mono ?_
    rintro e w' ⟨rfl, hb⟩
    replace HB := Lib.hid (bel_trans (by first | exact HB.out | exact bel_drewN HB.out _) hb)
    clear hb
    go_wp2_with fail
    refine (iTrueIn_is HTA _ (by omega)).mono ?_
    rintro e w' ⟨rfl, hb⟩
    replace HB := Lib.hid (bel_trans (by first | exact HB.out | exact bel_drewN HB.out _) hb)
    clear hb
    go_wp2_with fail
    refine (iTrueIn_is HTB _ (by omega)).mono ?_
    rintro e w' ⟨rfl, hb⟩
    replace HB := Lib.hid (bel_trans (by first | exact HB.out | exact bel_drewN HB.out _) hb)
    clear hb
    go_wp2_with fail
    refine (lAlive _).mono ?_
    rintro e w' ⟨rfl, rfl⟩
    go_wp2_with fail
    go_ret
    exact ⟨rfl, HB.out⟩
  have ha0 : 0 ≤ a := by rw [← HTA.out]; exact (true_range hso).1
  have hda : decide (a < 0) = false := decide_eq_false (by omega)
  rcases hsu : senT t u with _ | y
  · have HEN : Hid (entailsT t s u = false) := entails_no (.inr hsu)
    have hb : b < 0 := by rw [← HTB.out, trueT_none hsu]; omega
    have hdb : decide (b < 0) = true := decide_eq_true hb
    clear hso hsu hb
    go_wp2_with fail
    refine (iEntailsOf_is HEN _ (by omega) (by omega)).mono ?_
    rintro e w' ⟨rfl, hb⟩
    replace HB := Lib.hid (bel_trans (by first | exact HB.out | exact bel_drewN HB.out _) hb)
    clear hb
    go_wp2_with fail
    refine (sEntailsOf_is HEN _ (by omega) (by omega)).mono ?_
    rintro e w' ⟨rfl, hb⟩
    replace HB := Lib.hid (bel_trans (by first | exact HB.out | exact bel_drewN HB.out _) hb)
    clear hb
    go_wp2_with fail
    refine (iTrueIn_is HTA _ (by omega)).mono ?_
    rintro e w' ⟨rfl, hb⟩
    replace HB := Lib.hid (bel_trans (by first | exact HB.out | exact bel_drewN HB.out _) hb)
    clear hb
    go_wp2_with fail
    refine (iTrueIn_is HTB _ (by omega)).mono ?_
    rintro e w' ⟨rfl, hb⟩
    replace HB := Lib.hid (bel_trans (by first | exact HB.out | exact bel_drewN HB.out _) hb)
    clear hb
    go_wp2_with fail
    refine (lAlive _).mono ?_
    rintro e w' ⟨rfl, rfl⟩
    go_wp2_with fail
    go_ret
    exact ⟨rfl, HB.out⟩
  obtain ⟨al, HAL⟩ : ∃ n, Hid (allOf t = n) := ⟨_, rfl⟩
  have hal1 : al < 256 := by rw [← HAL.out]; exact (allOf_lt t).2
  have ha1 : a < 256 := by have : a ≤ al := by rw [← HTA.out, ← HAL.out]; exact (true_range hso).2
                           omega
  have hb0 : 0 ≤ b := by rw [← HTB.out]; exact (true_range hsu).1
  have hdb : decide (b < 0) = false := decide_eq_false (by omega)
  have h1 := (senT_ok hso).1
  have h3 := (senT_ok hso).2.1
  have hz2 : (ByteArray.mk #[40] ++ s ++ ByteArray.mk #[62] ++ u ++ ByteArray.mk #[41]).size ≤ 9223372036854775807 := by simp only [ByteArray.size_append, size1]; omega
  have hlen : decide ((60 : Int) < (s.size : Int) + (u.size : Int) + 3) = false := decide_eq_false (by omega)
  have HSU : Hid (supportsT t al (ByteArray.mk #[40] ++ s ++ ByteArray.mk #[62] ++ u ++ ByteArray.mk #[41]) = entailsT t s u) := by
    unfold Hid; rw [← HAL.out]; exact entails_supports hso hsu (by omega)
  clear hso hsu
  rcases hen : entailsT t s u with _ | _
  · have HEN := Lib.hid hen
    rw [hen] at HSU
    clear hen
    go_wp2_with fail
    refine (iEntailsOf_is HEN _ (by omega) (by omega)).mono ?_
    rintro e w' ⟨rfl, hb⟩
    replace HB := Lib.hid (bel_trans (by first | exact HB.out | exact bel_drewN HB.out _) hb)
    clear hb
    go_wp2_with fail
    refine (sEntailsOf_is HEN _ (by omega) (by omega)).mono ?_
    rintro e w' ⟨rfl, hb⟩
    replace HB := Lib.hid (bel_trans (by first | exact HB.out | exact bel_drewN HB.out _) hb)
    clear hb
    go_wp2_with fail
    refine (iTrueIn_is HTA _ (by omega)).mono ?_
    rintro e w' ⟨rfl, hb⟩
    replace HB := Lib.hid (bel_trans (by first | exact HB.out | exact bel_drewN HB.out _) hb)
    clear hb
    go_wp2_with fail
    refine (iTrueIn_is HTB _ (by omega)).mono ?_
    rintro e w' ⟨rfl, hb⟩
    replace HB := Lib.hid (bel_trans (by first | exact HB.out | exact bel_drewN HB.out _) hb)
    clear hb
    go_wp2_with fail
    refine (lWhole_is HAL h1 h3 _).mono ?_
    rintro e w' ⟨rfl, rfl⟩
    go_wp2_with fail
    refine (iSupportsT_is HSU _ hz2).mono ?_
    rintro e w' ⟨rfl, hb⟩
    replace HB := Lib.hid (bel_trans (by first | exact HB.out | exact bel_drewN HB.out _) hb)
    clear hb
    go_wp2_with fail
    go_ret
    exact ⟨rfl, HB.out⟩
  · have HEN := Lib.hid hen
    have HW : Hid (withinB a b = true) := by unfold Hid; rw [← HTA.out, ← HTB.out]; exact entails_within hen
    rw [hen] at HSU
    clear hen
    go_wp2_with fail
    refine (iEntailsOf_is HEN _ (by omega) (by omega)).mono ?_
    rintro e w' ⟨rfl, hb⟩
    replace HB := Lib.hid (bel_trans (by first | exact HB.out | exact bel_drewN HB.out _) hb)
    clear hb
    go_wp2_with fail
    refine (sEntailsOf_is HEN _ (by omega) (by omega)).mono ?_
    rintro e w' ⟨rfl, hb⟩
    replace HB := Lib.hid (bel_trans (by first | exact HB.out | exact bel_drewN HB.out _) hb)
    clear hb
    go_wp2_with fail
    refine (iTrueIn_is HTA _ (by omega)).mono ?_
    rintro e w' ⟨rfl, hb⟩
    replace HB := Lib.hid (bel_trans (by first | exact HB.out | exact bel_drewN HB.out _) hb)
    clear hb
    go_wp2_with fail
    refine (iTrueIn_is HTB _ (by omega)).mono ?_
    rintro e w' ⟨rfl, hb⟩
    replace HB := Lib.hid (bel_trans (by first | exact HB.out | exact bel_drewN HB.out _) hb)
    clear hb
    go_wp2_with fail
    refine (lWithin_is HW ha0 ha1 hb0 _).mono ?_
    rintro e w' ⟨rfl, rfl⟩
    go_wp2_with fail
    refine (lWhole_is HAL h1 h3 _).mono ?_
    rintro e w' ⟨rfl, rfl⟩
    go_wp2_with fail
    refine (iSupportsT_is HSU _ hz2).mono ?_
    rintro e w' ⟨rfl, hb⟩
    replace HB := Lib.hid (bel_trans (by first | exact HB.out | exact bel_drewN HB.out _) hb)
    clear hb
    go_wp2_with fail
    go_ret
    exact ⟨rfl, HB.out⟩

set_option maxRecDepth 100000 in
set_option maxHeartbeats 4000000 in
theorem wSupports (A B : Option Addr) (nn mm c d : Nat) (zs qs : List Int) (w : World) (hn : nn = zs.length) (hc : nn ≤ c) (hm : c ≤ maxLen) (hr : ∀ z ∈ zs, 0 ≤ z ∧ z ≤ 255) (hA : Nums .u8 w A zs)
    (hn2 : mm = qs.length) (hc2 : mm ≤ d) (hm2 : d ≤ maxLen) (hr2 : ∀ z ∈ qs, 0 ≤ z ∧ z ≤ 255) (hB : Nums .u8 w B qs) :
    Calls Try.prog 5 #[.slice A nn c, .slice B mm d] w fun e w' => e = .returned (.bool true) ∧ Below w.heap.size w w' := by
  have HO := Lib.hid (drawSupports_any A nn c zs w hn hc hm hr hA)
  have hm' : nn ≤ 9223372036854775807 := by unfold maxLen at hm; omega
  have hm2' : mm ≤ 9223372036854775807 := by unfold maxLen at hm2; omega
  clear hn hc hm hr hA hn2 hc2 hm2 hr2 hB
  by_cases hl : 1048576 < nn
  · have hd : decide ((1048576 : Int) < (nn : Int)) = true := decide_eq_true (by omega)
    go_enter Try.func5, Try.ntmps5
    go_wp2_with fail
    go_ret
    exact ⟨rfl, Below.refl _ _⟩
  by_cases hl2 : 1048576 < mm
  · have hd : decide ((1048576 : Int) < (nn : Int)) = false := decide_eq_false (by omega)
    have hd2 : decide ((1048576 : Int) < (mm : Int)) = true := decide_eq_true (by omega)
    go_enter Try.func5, Try.ntmps5
    go_wp2_with fail
    go_ret
    exact ⟨rfl, Below.refl _ _⟩
  have hd : decide ((1048576 : Int) < (nn : Int)) = false := decide_eq_false (by omega)
  have hd2 : decide ((1048576 : Int) < (mm : Int)) = false := decide_eq_false (by omega)
  have hmm : mm ≤ 1048576 := by omega
  clear hl hl2
  go_enter Try.func5, Try.ntmps5
  go_wp2_with fail
  refine HO.out.mono ?_
  rintro e w1 ⟨t, k, s, rfl, ht0, ht1, hk0, hk1, hs, hb⟩
  have HB := Lib.hid hb
  clear hb HO hd hd2
  obtain ⟨r, HIS⟩ : ∃ l, Hid (issueT t s = l) := ⟨_, rfl⟩
  have hrl : r.length ≤ 70 := by rw [← HIS.out]; exact issueT_len t s
  rcases hso : senT t s with _ | x
  · have HT : Hid (isT t s = false) := isT_none hso
    have HP : Hid (supportsT t k s = false) := by unfold Hid supportsT; rw [hso]
    clear hso
    go_wp2_with fail
    refine (iSupportsT_is HP _ (by omega)).mono ?_
    rintro e w' ⟨rfl, hb⟩
    replace HB := Lib.hid (bel_trans (by first | exact HB.out | exact bel_drewN HB.out _) hb)
    clear hb
    go_wp2_with fail
    refine (sSupportsT_is HP _ (by omega)).mono ?_
    rintro e w' ⟨rfl, hb⟩
    replace HB := Lib.hid (bel_trans (by first | exact HB.out | exact bel_drewN HB.out _) hb)
    clear hb
    go_wp2_with fail
    refine (iIssueOf_is HIS HT _ (by omega)).mono ?_
    rintro e w3 ⟨v, rfl, ho, hb⟩
    obtain ⟨A3, c3, rfl, _, _, _, _⟩ := ho.form
    replace HB := Lib.hid (bel_trans (by first | exact HB.out | exact bel_drewN HB.out _) hb)
    have HR3 := Lib.hid (Owns.row ho (by omega))
    clear ho hb
    go_wp2_with fail
    refine (lAlive _).mono ?_
    rintro e w' ⟨rfl, rfl⟩
    go_wp2_with fail
    go_ret
    exact ⟨rfl, HB.out⟩
  have HT : Hid (isT t s = true) := isT_some hso
  rcases hk : setOkB t k with _ | _
  · have HK := Lib.hid hk
    have HP : Hid (supportsT t k s = false) := by unfold Hid supportsT; rw [hso]; simp only [hk]; rfl
    clear hso hk
    go_wp2_with fail
    refine (iSupportsT_is HP _ (by omega)).mono ?_
    rintro e w' ⟨rfl, hb⟩
    replace HB := Lib.hid (bel_trans (by first | exact HB.out | exact bel_drewN HB.out _) hb)
    clear hb
    go_wp2_with fail
    refine (sSupportsT_is HP _ (by omega)).mono ?_
    rintro e w' ⟨rfl, hb⟩
    replace HB := Lib.hid (bel_trans (by first | exact HB.out | exact bel_drewN HB.out _) hb)
    clear hb
    go_wp2_with fail
    refine (iIssueOf_is HIS HT _ (by omega)).mono ?_
    rintro e w3 ⟨v, rfl, ho, hb⟩
    obtain ⟨A3, c3, rfl, _, _, _, _⟩ := ho.form
    replace HB := Lib.hid (bel_trans (by first | exact HB.out | exact bel_drewN HB.out _) hb)
    have HR3 := Lib.hid (Owns.row ho (by omega))
    clear ho hb
    go_wp2_with fail
    refine (sSetOk_is HK _).mono ?_
    rintro e w' ⟨rfl, rfl⟩
    go_wp2_with fail
    refine (lAlive _).mono ?_
    rintro e w' ⟨rfl, rfl⟩
    go_wp2_with fail
    go_ret
    exact ⟨rfl, HB.out⟩
  have HK := Lib.hid hk
  have hkr := setOkB_lt hk
  have hk00 : 0 ≤ k := hkr.2.2.1
  have hk2 : k < 256 := by have := hkr.2.2.2.1; have := (allOf_lt t).2; omega
  clear hkr
  rcases hp : supportsT t k s with _ | _
  · have HP := Lib.hid hp
    have HSE : Hid (settlesB t r k = false) := by unfold Hid; rw [← HIS.out, supports_settles hso hk, hp]
    clear hso hk hp
    go_wp2_with fail
    refine (iSupportsT_is HP _ (by omega)).mono ?_
    rintro e w' ⟨rfl, hb⟩
    replace HB := Lib.hid (bel_trans (by first | exact HB.out | exact bel_drewN HB.out _) hb)
    clear hb
    go_wp2_with fail
    refine (sSupportsT_is HP _ (by omega)).mono ?_
    rintro e w' ⟨rfl, hb⟩
    replace HB := Lib.hid (bel_trans (by first | exact HB.out | exact bel_drewN HB.out _) hb)
    clear hb
    go_wp2_with fail
    refine (iIssueOf_is HIS HT _ (by omega)).mono ?_
    rintro e w3 ⟨v, rfl, ho, hb⟩
    obtain ⟨A3, c3, rfl, _, _, _, _⟩ := ho.form
    replace HB := Lib.hid (bel_trans (by first | exact HB.out | exact bel_drewN HB.out _) hb)
    have HR3 := Lib.hid (Owns.row ho (by omega))
    clear ho hb
    go_wp2_with fail
    refine (sSetOk_is HK _).mono ?_
    rintro e w' ⟨rfl, rfl⟩
    go_wp2_with fail
    refine (rSettles HSE (by first | exact HR3.out | exact Row.drewN HR3.out _)).mono ?_
    rintro e w' ⟨rfl, m1, rfl⟩
    go_wp2_with fail
    go_ret
    exact ⟨rfl, bel_drewN HB.out _⟩
  · have HP := Lib.hid hp
    have HSE : Hid (settlesB t r k = true) := by unfold Hid; rw [← HIS.out, supports_settles hso hk, hp]
    have HDN : Hid (∀ b, supportsT t (andI k b) s = true) := supports_down hp
    clear hso hk hp
    go_wp2_with fail
    refine (iSupportsT_is HP _ (by omega)).mono ?_
    rintro e w' ⟨rfl, hb⟩
    replace HB := Lib.hid (bel_trans (by first | exact HB.out | exact bel_drewN HB.out _) hb)
    clear hb
    go_wp2_with fail
    refine (sSupportsT_is HP _ (by omega)).mono ?_
    rintro e w' ⟨rfl, hb⟩
    replace HB := Lib.hid (bel_trans (by first | exact HB.out | exact bel_drewN HB.out _) hb)
    clear hb
    go_wp2_with fail
    refine (iIssueOf_is HIS HT _ (by omega)).mono ?_
    rintro e w3 ⟨v, rfl, ho, hb⟩
    obtain ⟨A3, c3, rfl, _, _, _, _⟩ := ho.form
    replace HB := Lib.hid (bel_trans (by first | exact HB.out | exact bel_drewN HB.out _) hb)
    have HR3 := Lib.hid (Owns.row ho (by omega))
    clear ho hb
    go_wp2_with fail
    refine (sSetOk_is HK _).mono ?_
    rintro e w' ⟨rfl, rfl⟩
    go_wp2_with fail
    refine (rSettles HSE (by first | exact HR3.out | exact Row.drewN HR3.out _)).mono ?_
    rintro e w' ⟨rfl, m2, rfl⟩
    go_wp2_with fail
    refine (lBoth _ _ hk00 hk2 (by omega) _).mono ?_
    rintro e w' ⟨rfl, rfl⟩
    go_wp2_with fail
    refine (iSupportsT_is (HDN.out _) _ (by omega)).mono ?_
    rintro e w' ⟨rfl, hb⟩
    replace HB := Lib.hid (bel_trans (by first | exact HB.out | exact bel_drewN HB.out _) hb)
    replace HR3 := Lib.hid (Row.below (by first | exact HR3.out | exact Row.drewN HR3.out _) hb)
    clear hb
    go_wp2_with fail
    go_ret
    exact ⟨rfl, by first | exact HB.out | exact bel_drewN HB.out _⟩
end Go.Proofs.Ytmdpolllmipppaa
