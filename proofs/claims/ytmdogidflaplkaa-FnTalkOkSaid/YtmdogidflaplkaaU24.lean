/-
  What the proofs of this seat's statements share (TlkL, TlkN, TlkO, TlkP).
-/
import Derived.Deep.RegionHeld3
import Derived.Lib.SlicesS
import Derived.Test.YtmdogidflaplkaaU22
import Derived.Test.YtmdogidflaplkaaU21
import Derived.Test.YtmdogidflaplkaaU8
import Derived.Test.YtmdogidflaplkaaU11
import Derived.Test.YtmdogidflaplkaaU15
import Derived.Test.YtmdogidflaplkaaU5

namespace Go.Proofs.Ytmdogidflaplkaa
open Go.RowKit

theorem lEqStringS_same (A B : Option Addr) (nn mm c d : Nat) (xs : List ByteArray) (w : World) (hn : nn = xs.length) (hm : mm = xs.length) (hl : nn ≤ 1048576) (hA : Strs w A xs) (hB : Strs w B xs) :
    Calls Try.prog 50 #[.slice A nn c, .slice B mm d] w fun e w' => e = .returned (.bool true) ∧ ∃ n, w' = w.drewN n := by
  refine (lEqStringS A B nn mm c d xs xs w hn hm hl (by omega) hA hB).mono ?_
  rintro e w' ⟨rfl, h⟩
  exact ⟨by rw [decide_eq_true rfl], h⟩
set_option maxRecDepth 100000 in
theorem lEqState (k : Int) (A B : Option Addr) (n m c d : Nat) (xs : List ByteArray) (w : World) (hn : n = xs.length) (hm : m = xs.length) (hl : n ≤ 1048576) (hA : Strs w A xs) (hB : Strs w B xs) :
    Calls Try.prog 35 #[.agg #[.int .i64 k, .slice A n c], .agg #[.int .i64 k, .slice B m d]] w fun e w' => e = .returned (.bool true) ∧ Below w.heap.size w w' := by
  have hb : Below w.heap.size w ((w.alloc (.cells #[.int .i64 k, .slice A n c] 25)).alloc (.cells #[.int .i64 k, .slice B m d] 25)) := ((Below.refl _ _).alloc (Nat.le_refl _) _).alloc (by rw [World.size_alloc]; omega) _
  have HB0 := Lib.hid hb
  have HC := Lib.hid (lEqStringS_same A B n m c d xs _ hn hm hl (hA.below hb) (hB.below hb))
  have hd : (k != k) = false := by simp
  clear hb hn hm hl hA hB
  go_enter Try.func35, Try.ntmps35
  go_wp2_with fail
  refine HC.out.mono ?_
  rintro e w' ⟨rfl, q, rfl⟩
  go_wp2_with fail
  go_ret
  exact ⟨rfl, bel_drewN HB0.out _⟩
set_option maxRecDepth 100000 in
set_option maxHeartbeats 4000000 in
theorem lEqStateS (A B : Option Addr) (n m c d : Nat) (xs : List (St ByteArray)) (w : World) (hn : n = xs.length) (hm : m = xs.length) (hl : n ≤ 1048576) (hA : StaRow w A xs) (hB : StaRow w B xs) (hs : ∀ x ∈ xs, x.op.length ≤ 1048576) :
    Calls Try.prog 36 #[.slice A n c, .slice B m d] w fun e w' => e = .returned (.bool true) ∧ Below w.heap.size w w' := by
  subst hn hm
  have HA := Lib.hid hA
  have HB := Lib.hid hB
  have HS := Lib.hid hs
  have hd : ((xs.length : Int) != (xs.length : Int)) = false := by simp
  clear hA hB hs
  go_enter Try.func36, Try.ntmps36
  go_wp2_with fail
  clear hd
  go_loopw [5] (fun i wr => ∃ k : Nat, k ≤ xs.length ∧ i = .int .i64 k ∧ Hid (Below w.heap.size w wr)) (fun i _ => xs.length - (Go.RowKit.intOf i).toNat)
  case atStart => exact ⟨0, Nat.zero_le _, rfl, Below.refl _ _⟩
  case round =>
    obtain ⟨k, hk, rfl, HBW⟩ := hrel
    by_cases hlt : k < xs.length
    · obtain ⟨b, off, Ai, ci, x, rfl, he0, he1, _, _, hx, hAi, hb1⟩ := (HA.out.below HBW.out).elem hlt
      obtain ⟨b', off', Aj, cj, y, rfl, he2, he3, _, _, hy, hAj, hb2⟩ := (HB.out.below HBW.out).elem hlt
      have e := hx.out.symm.trans hy.out
      simp only [Option.some.injEq] at e
      subst e
      have hxl := HS.out x (List.mem_of_getElem? hx.out)
      have HC : Hid (∀ W : World, Strs W Ai x.op → Strs W Aj x.op → Calls Try.prog 35 #[.agg #[.int .i64 x.known, .slice Ai x.op.length ci], .agg #[.int .i64 x.known, .slice Aj x.op.length cj]] W fun e w' => e = .returned (.bool true) ∧ Below W.heap.size W w') := fun W h1 h2 => lEqState _ _ _ _ _ _ _ x.op W rfl rfl hxl h1 h2
      go_wp2_with fail
      go_region_held3 (fun w' => w'.cell? ⟨b, off + k * 2, none⟩ = some (.int .i64 x.known) ∧ w'.cell? ⟨b, off + k * 2 + 1, none⟩ = some (.slice Ai x.op.length ci) ∧ w'.cell? ⟨b', off' + k * 2, none⟩ = some (.int .i64 x.known) ∧ w'.cell? ⟨b', off' + k * 2 + 1, none⟩ = some (.slice Aj x.op.length cj))
        (first | go_keep | exact ⟨he0, he1, he2, he3⟩ | exact HKEEP.out)
        (first | (go_at_call 35; refine (HC.out _ (hAi.out.drewN 1) (hAj.out.drewN 1)).mono ?_; rintro e w1 ⟨rfl, hb⟩; have HKEEP := Lib.hid (And.intro (((Below.cell hb (p := ⟨b, off + k * 2, none⟩)) hb1.out).trans he0) (And.intro (((Below.cell hb (p := ⟨b, off + k * 2 + 1, none⟩)) hb1.out).trans he1) (And.intro (((Below.cell hb (p := ⟨b', off' + k * 2, none⟩)) hb2.out).trans he2) (((Below.cell hb (p := ⟨b', off' + k * 2 + 1, none⟩)) hb2.out).trans he3)))); have HB2 := Lib.hid (bel_trans (bel_drewN HBW.out 1) hb); clear hb))
      all_goals
        go_wp2_with fail
        go_roundw
        case rel => exact ⟨k + 1, by omega, by go_num, HB2⟩
        case measure => simp [Go.RowKit.intOf]; omega
    · obtain rfl : k = xs.length := by omega
      go_wp2_with fail
      go_ret
      exact ⟨rfl, HBW.out⟩
set_option maxRecDepth 100000 in
set_option maxHeartbeats 4000000 in
theorem lEqTalk (T : TalkV) (A B A2 B2 : Option Addr) (n c m d n2 c2 m2 d2 : Nat) (w : World) (hT : TkAt w T A n c B m d) (hU : TkAt w T A2 n2 c2 B2 m2 d2) (hs : SmallT T) :
    Calls Try.prog 18 #[.agg #[.int .i64 T.things, .int .i64 T.now.known, .slice A n c, .slice B m d], .agg #[.int .i64 T.things, .int .i64 T.now.known, .slice A2 n2 c2, .slice B2 m2 d2]] w fun e w' => e = .returned (.bool true) ∧ Below w.heap.size w w' := by
  obtain ⟨t, ht⟩ : ∃ t, T.things = t := ⟨_, rfl⟩
  obtain ⟨k, hk⟩ : ∃ k, T.now.known = k := ⟨_, rfl⟩
  rw [ht, hk]
  clear ht hk
  have HX0 : Hid (Box ((w.alloc (.cells #[.int .i64 t, .int .i64 k, .slice A n c, .slice B m d] 28)).alloc (.cells #[.int .i64 t, .int .i64 k, .slice A2 n2 c2, .slice B2 m2 d2] 28)) w.heap.size 28 [.int .i64 t, .int .i64 k, .slice A n c, .slice B m d]) := (Box.new w _ [.int .i64 t, .int .i64 k, .slice A n c, .slice B m d]).alloc _
  have HX1 : Hid (Box ((w.alloc (.cells #[.int .i64 t, .int .i64 k, .slice A n c, .slice B m d] 28)).alloc (.cells #[.int .i64 t, .int .i64 k, .slice A2 n2 c2, .slice B2 m2 d2] 28)) (w.heap.size + 1) 28 [.int .i64 t, .int .i64 k, .slice A2 n2 c2, .slice B2 m2 d2]) := by
    have := Box.new (w.alloc (.cells #[.int .i64 t, .int .i64 k, .slice A n c, .slice B m d] 28)) 28 [.int .i64 t, .int .i64 k, .slice A2 n2 c2, .slice B2 m2 d2]
    rw [World.size_alloc] at this
    exact this
  have HB0 : Hid (Below w.heap.size w ((w.alloc (.cells #[.int .i64 t, .int .i64 k, .slice A n c, .slice B m d] 28)).alloc (.cells #[.int .i64 t, .int .i64 k, .slice A2 n2 c2, .slice B2 m2 d2] 28))) := ((Below.refl _ _).alloc (Nat.le_refl _) _).alloc (by rw [World.size_alloc]; omega) _
  have HT := Lib.hid hT
  have HU := Lib.hid hU
  have HS := Lib.hid hs
  have hd : (t != t) = false := by simp
  have HC : Hid (∀ W : World, Below w.heap.size w W → Calls Try.prog 35 #[.agg #[.int .i64 k, .slice A n c], .agg #[.int .i64 k, .slice A2 n2 c2]] W fun e w' => e = .returned (.bool true) ∧ Below W.heap.size W w') := fun W hb => lEqState _ _ _ _ _ _ _ T.now.op W hT.hn hU.hn (by rw [hT.hn]; exact hs.op) (hT.hA.below hb) (hU.hA.below hb)
  have HC2 : Hid (∀ W : World, Below w.heap.size w W → Calls Try.prog 36 #[.slice B m d, .slice B2 m2 d2] W fun e w' => e = .returned (.bool true) ∧ Below W.heap.size W w') := fun W hb => lEqStateS _ _ _ _ _ _ T.past W hT.pn hU.pn (by rw [hT.pn]; exact hs.past) (hT.hB.below hb) (hU.hB.below hb) fun x hx => (hs.ops x hx).1
  clear hT hU hs
  go_enter Try.func18, Try.ntmps18
  go_wp2_with fail
  refine (HC.out _ HB0.out).mono ?_
  rintro e w1 ⟨rfl, hb⟩
  have HX2 := Lib.hid (HX0.out.below hb)
  have HX3 := Lib.hid (HX1.out.below hb)
  have HB1 := Lib.hid (bel_trans HB0.out hb)
  have hc3 := HX2.out.cell (i := 3) (v := .slice B m d) rfl
  have hd3 := HX3.out.cell (i := 3) (v := .slice B2 m2 d2) rfl
  clear hb hd
  go_wp2_with fail
  refine (HC2.out _ HB1.out).mono ?_
  rintro e w2 ⟨rfl, hb⟩
  have HB2 := Lib.hid (bel_trans HB1.out hb)
  clear hb hc3 hd3
  go_wp2_with fail
  go_ret
  exact ⟨rfl, HB2.out⟩
end Go.Proofs.Ytmdogidflaplkaa

namespace Go.Proofs.Ytmdogidflaplkaa
open Go.RowKit

theorem word_all {t : Int} (h1 : 1 ≤ t) (h3 : t ≤ 3) : ∃ n, worldsOf t = ((n : Nat) : Int) ∧ n ≤ 8 ∧ ((wordTo 49 n : Nat) : Int) = allOf t := by
  have h : t = 1 ∨ t = 2 ∨ t = 3 := by omega
  rcases h with rfl | rfl | rfl
  · exact ⟨2, rfl, by decide, by decide⟩
  · exact ⟨4, rfl, by decide, by decide⟩
  · exact ⟨8, rfl, by decide, by decide⟩
/-- The number of things of a new talk, its set. -/
def newN (t : Int) : Int := if 1 ≤ t ∧ t ≤ 3 then t else 0
def newK (t : Int) : Int := if 1 ≤ t ∧ t ≤ 3 then allOf t else 0
theorem talk_box (w : World) (t k : Int) : Hid (Box (w.alloc (.cells #[.int .i64 t, .int .i64 k, .slice none 0 0, .slice none 0 0] 28)) w.heap.size 28 [.int .i64 t, .int .i64 k, .slice none 0 0, .slice none 0 0]) ∧ Hid (Below w.heap.size w (w.alloc (.cells #[.int .i64 t, .int .i64 k, .slice none 0 0, .slice none 0 0] 28))) :=
  ⟨Box.new w _ [.int .i64 t, .int .i64 k, .slice none 0 0, .slice none 0 0], (Below.refl _ _).alloc (Nat.le_refl _) _⟩
set_option maxRecDepth 100000 in
theorem iTalkNew (t : Int) (w : World) : Calls Try.prog 11 #[.int .i64 t] w fun e w' => e = .returned (.agg #[.int .i64 (newN t), .int .i64 (newK t), .slice none 0 0, .slice none 0 0]) ∧ Below w.heap.size w w' := by
  by_cases h : 1 ≤ t ∧ t ≤ 3
  · obtain ⟨n, hn, hn8, hw⟩ := word_all h.1 h.2
    rw [show newN t = t by unfold newN; rw [if_pos h], show newK t = allOf t by unfold newK; rw [if_pos h], ← hw]
    have HW := Lib.hid (fun W => iWorldsOfWord t n hn hn8 49 W (.inr (.inl rfl)))
    have HN := Lib.hid hn
    obtain ⟨q, hq⟩ : ∃ q, ((wordTo 49 n : Nat) : Int) = q := ⟨_, rfl⟩
    rw [hq] at HW ⊢
    have hd : decide ((n : Int) < 0) = false := decide_eq_false (by omega)
    obtain ⟨HZ, HB⟩ := talk_box w t q
    clear h hn hw hq
    go_enter Try.func11, Try.ntmps11
    go_wp2_with fail
    refine (iWorldsOf _ _).mono ?_
    rintro e w' ⟨rfl, rfl⟩
    rw [HN.out]
    go_wp2_with fail
    refine (HW.out _).mono ?_
    rintro e w' ⟨rfl, rfl⟩
    go_wp2_with fail
    refine bodyPost_ret_by (results_talk (b := w.heap.size) rfl rfl HZ) rfl ⟨rfl, HB.out⟩
  · have hb := worldsOf_bad (t := t) (by omega)
    rw [show newN t = 0 by unfold newN; rw [if_neg h], show newK t = 0 by unfold newK; rw [if_neg h]]
    obtain ⟨HZ, HB⟩ := talk_box w 0 0
    have HN := Lib.hid hb
    clear h hb
    go_enter Try.func11, Try.ntmps11
    go_wp2_with fail
    refine (iWorldsOf _ _).mono ?_
    rintro e w' ⟨rfl, rfl⟩
    rw [HN.out]
    go_wp2_with fail
    refine bodyPost_ret_by (results_talk (b := w.heap.size) rfl rfl HZ) rfl ⟨rfl, HB.out⟩
set_option maxRecDepth 100000 in
theorem sTalkNew (t : Int) (w : World) : Calls Try.prog 13 #[.int .i64 t] w fun e w' => e = .returned (.agg #[.int .i64 (newN t), .int .i64 (newK t), .slice none 0 0, .slice none 0 0]) ∧ Below w.heap.size w w' := by
  by_cases h : 1 ≤ t ∧ t ≤ 3
  · rw [show newN t = t by unfold newN; rw [if_pos h], show newK t = allOf t by unfold newK; rw [if_pos h]]
    have HA := Lib.hid (fun W => sAll t W h.1 h.2)
    have HI := Lib.hid (fun W => sIn_yes t 1 3 W h.1 h.2)
    obtain ⟨q, hq⟩ : ∃ q, allOf t = q := ⟨_, rfl⟩
    rw [hq] at HA ⊢
    obtain ⟨HZ, HB⟩ := talk_box w t q
    clear h hq
    go_enter Try.func13, Try.ntmps13
    go_wp2_with fail
    refine (HI.out _).mono ?_
    rintro e w' ⟨rfl, rfl⟩
    go_wp2_with fail
    refine (HA.out _).mono ?_
    rintro e w' ⟨rfl, rfl⟩
    go_wp2_with fail
    refine bodyPost_ret_by (results_talk (b := w.heap.size) rfl rfl HZ) rfl ⟨rfl, HB.out⟩
  · rw [show newN t = 0 by unfold newN; rw [if_neg h], show newK t = 0 by unfold newK; rw [if_neg h]]
    have HI := Lib.hid (fun W => sIn_no t 1 3 W (by omega))
    obtain ⟨HZ, HB⟩ := talk_box w 0 0
    clear h
    go_enter Try.func13, Try.ntmps13
    go_wp2_with fail
    refine (HI.out _).mono ?_
    rintro e w' ⟨rfl, rfl⟩
    go_wp2_with fail
    refine bodyPost_ret_by (results_talk (b := w.heap.size) rfl rfl HZ) rfl ⟨rfl, HB.out⟩

/-! The laws' helpers at talks without questions. -/
set_option maxRecDepth 100000 in
theorem lEqStringN (w : World) : Calls Try.prog 50 #[.slice none 0 0, .slice none 0 0] w fun e w' => e = .returned (.bool true) ∧ w = w' := by
  go_enter Try.func50, Try.ntmps50
  go_wp2_with fail
  refine wp_loop_rounds 1 ?_
  rw [rounds_succ]
  go_wp2_with fail
  go_ret
  exact ⟨rfl, rfl⟩
set_option maxRecDepth 100000 in
theorem lEqStateN (k : Int) (w : World) : Calls Try.prog 35 #[.agg #[.int .i64 k, .slice none 0 0], .agg #[.int .i64 k, .slice none 0 0]] w fun e w' => e = .returned (.bool true) ∧ Below w.heap.size w w' := by
  have hd : (k != k) = false := by simp
  have hb : Below w.heap.size w ((w.alloc (.cells #[.int .i64 k, .slice none 0 0] 25)).alloc (.cells #[.int .i64 k, .slice none 0 0] 25)) := ((Below.refl _ _).alloc (Nat.le_refl _) _).alloc (by rw [World.size_alloc]; omega) _
  have HB := Lib.hid hb
  clear hb
  go_enter Try.func35, Try.ntmps35
  go_wp2_with fail
  refine (lEqStringN _).mono ?_
  rintro e w' ⟨rfl, rfl⟩
  go_wp2_with fail
  go_ret
  exact ⟨rfl, HB.out⟩
set_option maxRecDepth 100000 in
theorem lEqStateSN (w : World) : Calls Try.prog 36 #[.slice none 0 0, .slice none 0 0] w fun e w' => e = .returned (.bool true) ∧ w = w' := by
  go_enter Try.func36, Try.ntmps36
  go_wp2_with fail
  refine wp_loop_rounds 1 ?_
  rw [rounds_succ]
  go_wp2_with fail
  go_ret
  exact ⟨rfl, rfl⟩
set_option maxRecDepth 100000 in
theorem lEqTalkN (t k : Int) (w : World) : Calls Try.prog 18 #[.agg #[.int .i64 t, .int .i64 k, .slice none 0 0, .slice none 0 0], .agg #[.int .i64 t, .int .i64 k, .slice none 0 0, .slice none 0 0]] w fun e w' => e = .returned (.bool true) ∧ Below w.heap.size w w' := by
  have hd : (t != t) = false := by simp
  obtain ⟨HX, HB⟩ := talk_box w t k
  obtain ⟨HY, HC⟩ := talk_box (w.alloc (.cells #[.int .i64 t, .int .i64 k, .slice none 0 0, .slice none 0 0] 28)) t k
  replace HX := Lib.hid (HX.out.alloc (.cells #[.int .i64 t, .int .i64 k, .slice none 0 0, .slice none 0 0] 28))
  rw [World.size_alloc] at HY
  replace HB := Lib.hid (bel_trans HB.out HC.out)
  clear HC
  go_enter Try.func18, Try.ntmps18
  go_wp2_with fail
  refine (lEqStateN k _).mono ?_
  rintro e w1 ⟨rfl, hb⟩
  replace HB := Lib.hid (bel_trans HB.out hb)
  replace HX := Lib.hid (HX.out.below hb)
  replace HY := Lib.hid (HY.out.below hb)
  have hc := HX.out.cell (i := 3) (v := .slice none 0 0) rfl
  have hc2 := HY.out.cell (i := 3) (v := .slice none 0 0) rfl
  clear hb hd
  go_wp2_with fail
  refine (lEqStateSN _).mono ?_
  rintro e w' ⟨rfl, rfl⟩
  go_wp2_with fail
  go_ret
  exact ⟨rfl, HB.out⟩
end Go.Proofs.Ytmdogidflaplkaa

namespace Go.Proofs.Ytmdogidflaplkaa
open Go.RowKit

theorem iContainsS {w : World} {A : Option Addr} {xs : List ByteArray} (x : ByteArray) (n c : Nat) (hn : n = xs.length) (hl : n ≤ 1048576) (hA : Strs w A xs) :
    Calls Try.prog 42 #[.slice A n c, .string x] w fun e w' => e = .returned (.bool (Lib.containsS xs x)) ∧ w = w' := by
  subst hn
  by_cases h0 : xs.length = 0
  · obtain rfl : xs = [] := List.eq_nil_of_length_eq_zero h0
    refine (Try.slices_Contains_string_empty A c x w).mono ?_
    rintro e w' ⟨rfl, rfl⟩
    exact ⟨rfl, rfl⟩
  · obtain ⟨b, off, rfl, _, hc⟩ := hA (by omega)
    refine (Try.slices_Contains_string b off xs.length c xs x w (Nat.le_refl _) (by omega) hc).mono ?_
    rintro e w' ⟨rfl, rfl⟩
    refine ⟨ret_bool ?_, rfl⟩
    rw [List.take_length]
set_option maxRecDepth 100000 in
set_option maxHeartbeats 4000000 in
theorem iSettledBy {t k : Int} (s : ByteArray) (w : World) (hk : setOkB t k = true) (hs : s.size ≤ 9223372036854775807) :
    Calls Try.prog 41 #[.int .i64 t, .int .i64 k, .string s] w fun e w' => e = .returned (.tuple #[.bool (asksT.isS t s && asksT.sett t k s), .bool (asksT.isS t s)]) ∧ Below w.heap.size w w' := by
  have hlen := issueT_len t s
  have HK := Lib.hid hk
  cases hS : asksT.isS t s with
  | false =>
    have HII : Hid (isT t s = false) := hS
    obtain ⟨l, HL⟩ : ∃ l, Hid (issueT t s = l) := ⟨_, rfl⟩
    clear hS hk hlen
    go_enter Try.func41, Try.ntmps41
    go_wp2_with fail
    refine (iIssueOf_is HL HII _ hs).mono ?_
    rintro e w1 ⟨v, rfl, ho, hbel⟩
    have HB := Lib.hid hbel
    clear ho hbel
    go_wp2_with fail
    go_ret2
    exact ⟨rfl, HB.out⟩
  | true =>
    have HII : Hid (isT t s = true) := hS
    obtain ⟨b, HSB⟩ : ∃ b, Hid (settlesB t (issueT t s) k = b) := ⟨_, rfl⟩
    have HSE : Hid (asksT.sett t k s = b) := by unfold Hid; rw [← HSB.out]; exact (settles_sett hS hk).symm
    obtain ⟨l, HL⟩ : ∃ l, Hid (issueT t s = l) := ⟨_, rfl⟩
    rw [HL.out] at hlen HSB
    clear hS hk
    go_enter Try.func41, Try.ntmps41
    go_wp2_with fail
    refine (iIssueOf_is HL HII _ hs).mono ?_
    rintro e w1 ⟨v, rfl, ho, hbel⟩
    obtain ⟨A, c, rfl, _, _, _, _⟩ := ho.form
    have HR := Lib.hid (Owns.row ho (by omega))
    have HB := Lib.hid hbel
    clear ho hbel
    go_wp2_with (go_at_call 57; refine (iSettles_is HSB A l.length c _ HR.out.hn HR.out.hl HR.out.hc HR.out.hm HR.out.hA).mono ?_; rintro e w2 ⟨rfl, n, rfl⟩)
    go_ret2
    exact ⟨by rw [HSE.out] <;> rfl, bel_drewN HB.out _⟩
theorem state_no {t k : Int} {xs : List ByteArray} (h : setOkB t k = false ∨ k = 0 ∨ 4 < xs.length) : stateOk asksT t ⟨k, xs⟩ = false := by
  cases hs : stateOk asksT t ⟨k, xs⟩ with
  | false => rfl
  | true =>
    obtain ⟨h1, h2, h3, _, _⟩ := (state_parts asksT).1 hs
    rcases h with h | h | h
    · rw [h] at h1; cases h1
    · exact absurd h h2
    · exact absurd h3 (by show ¬ xs.length ≤ 4; omega)
theorem bad_in {t k : Int} {xs : List ByteArray} {j : Nat} {x : ByteArray} (hx : Hid (xs[j]? = some x)) (h : x ∈ xs.take j) : stateOk asksT t ⟨k, xs⟩ = false := by
  obtain ⟨i, hi⟩ := List.mem_iff_getElem?.1 h
  have hlt : i < j := by
    have := (List.getElem?_eq_some_iff.1 hi).1
    rw [List.length_take] at this; omega
  rw [List.getElem?_take_of_lt hlt] at hi
  exact bad_twice hx.out hi hlt
set_option maxRecDepth 100000 in
set_option maxHeartbeats 8000000 in
theorem iStateOk (t k : Int) (A : Option Addr) (n c : Nat) (xs : List ByteArray) (w : World) (hn : n = xs.length) (hl : n ≤ 1048576) (hnc : n ≤ c) (hA : Strs w A xs) (hs : ∀ s ∈ xs, s.size ≤ 1048576) :
    Calls Try.prog 21 #[.int .i64 t, .agg #[.int .i64 k, .slice A n c]] w fun e w' => e = .returned (.bool (stateOk asksT t ⟨k, xs⟩)) ∧ Below w.heap.size w w' := by
  subst hn
  have HX0 : Hid (Box (w.alloc (.cells #[.int .i64 k, .slice A xs.length c] 25)) w.heap.size 25 [.int .i64 k, .slice A xs.length c]) := Box.new w _ _
  have HB0 : Hid (Below w.heap.size w (w.alloc (.cells #[.int .i64 k, .slice A xs.length c] 25))) := (Below.refl _ _).alloc (Nat.le_refl _) _
  have HA := Lib.hid hA
  have HS := Lib.hid hs
  have HNO := Lib.hid (state_no (t := t) (k := k) (xs := xs))
  have HBS : Hid (∀ x ∈ xs, asksT.isS t x = false ∨ asksT.sett t k x = true → stateOk asksT t ⟨k, xs⟩ = false) := fun x hx h => bad_state hx h
  have HBI : Hid (∀ j x, Hid (xs[j]? = some x) → x ∈ xs.take j → stateOk asksT t ⟨k, xs⟩ = false) := fun j x h1 h2 => bad_in h1 h2
  have HEND : Hid (goodTo t k xs = true → stateOk asksT t ⟨k, xs⟩ = (setOkB t k && decide (k ≠ 0) && decide (xs.length ≤ 4))) := state_end
  obtain ⟨R, HR⟩ : ∃ R, Hid (stateOk asksT t ⟨k, xs⟩ = R) := ⟨_, rfl⟩
  rw [HR.out] at HNO HBS HBI HEND ⊢
  clear hA hs
  cases hset : setOkB t k with
  | false =>
    have HSO := Lib.hid hset
    have HRF := Lib.hid (HNO.out (.inl hset))
    clear hset
    go_enter Try.func21, Try.ntmps21
    go_wp2_with (go_at_call 40; refine (iSetOk_is HSO _).mono ?_; rintro e w1 ⟨rfl, rfl⟩)
    go_ret
    exact ⟨by rw [HRF.out] <;> rfl, HB0.out⟩
  | true =>
    have HSO := Lib.hid hset
    by_cases hk0 : k = 0
    · have HRF := Lib.hid (HNO.out (.inr (.inl hk0)))
      subst hk0
      clear hset
      go_enter Try.func21, Try.ntmps21
      go_wp2_with (go_at_call 40; refine (iSetOk_is HSO _).mono ?_; rintro e w1 ⟨rfl, rfl⟩)
      go_ret
      exact ⟨by rw [HRF.out] <;> rfl, HB0.out⟩
    have hk2 : (k == 0) = false := by rw [beq_eq_false_iff_ne]; exact hk0
    by_cases h4 : 4 < xs.length
    · have HRF := Lib.hid (HNO.out (.inr (.inr h4)))
      have hd : decide ((4 : Int) < (xs.length : Int)) = true := decide_eq_true (by omega)
      clear hset hk0 h4
      go_enter Try.func21, Try.ntmps21
      go_wp2_with (go_at_call 40; refine (iSetOk_is HSO _).mono ?_; rintro e w1 ⟨rfl, rfl⟩)
      go_ret
      exact ⟨by rw [HRF.out] <;> rfl, HB0.out⟩
    have hd : decide ((4 : Int) < (xs.length : Int)) = false := decide_eq_false (by omega)
    have HTRUE : Hid (goodTo t k xs = true → R = true) := fun h => by
      rw [HEND.out h, hset, decide_eq_true hk0, decide_eq_true (show xs.length ≤ 4 by omega)]; rfl
    clear hset hk0 h4
    go_enter Try.func21, Try.ntmps21
    go_wp2_with (go_at_call 40; refine (iSetOk_is HSO _).mono ?_; rintro e w1 ⟨rfl, rfl⟩)
    clear hd hk2
    go_loopw [28] (fun i wr => ∃ j : Nat, j ≤ xs.length ∧ i = .int .i64 j ∧ Hid (goodTo t k (xs.take j) = true) ∧ Hid (Box wr w.heap.size 25 [.int .i64 k, .slice A xs.length c]) ∧ Hid (Below w.heap.size w wr)) (fun i _ => xs.length - (Go.RowKit.intOf i).toNat)
    case atStart => exact ⟨0, Nat.zero_le _, rfl, rfl, HX0, HB0⟩
    case round =>
      obtain ⟨j, hj, rfl, HG, HX, HB⟩ := hrel
      by_cases hlt : j < xs.length
      · obtain ⟨b, off, x, rfl, hcx, hx, hbl⟩ := (HA.out.below HB.out).elem hlt
        have hxs : x.size ≤ 9223372036854775807 := Nat.le_trans (HS.out x (elem_memS hx)) (by omega)
        have hc0 := HX.out.cell (i := 0) (v := .int .i64 k) rfl
        have HSB : Hid (∀ W : World, Calls Try.prog 41 #[.int .i64 t, .int .i64 k, .string x] W fun e w' => e = .returned (.tuple #[.bool (asksT.isS t x && asksT.sett t k x), .bool (asksT.isS t x)]) ∧ Below W.heap.size W w') := fun W => iSettledBy x W HSO.out hxs
        have HBX := Lib.hid (HBS.out x (elem_memS hx))
        have HBJ := Lib.hid (HBI.out j x hx)
        have HCO : Hid (∀ W : World, Strs W (some ⟨b, off, none⟩) (xs.take j) → Calls Try.prog 42 #[.slice (some ⟨b, off, none⟩) j c, .string x] W fun e w' => e = .returned (.bool (Lib.containsS (xs.take j) x)) ∧ W = w') := fun W h => iContainsS x j c (by rw [List.length_take]; omega) (by omega) h
        have hjc : (j : Int) ≤ (c : Int) := by omega
        have hj0 : (0 : Int) ≤ (j : Int) := by omega
        cases hS : asksT.isS t x with
        | false =>
          have HRF := Lib.hid (HBX.out (.inl hS))
          rw [hS] at HSB
          clear hS
          go_wp2_with (go_at_call 41; refine (HSB.out _).mono ?_; rintro e w1 ⟨rfl, hb⟩; have HB1 := Lib.hid (bel_trans HB.out hb); clear hb hc0)
          go_ret
          exact ⟨by rw [HRF.out] <;> rfl, HB1.out⟩
        | true =>
          cases hE : asksT.sett t k x with
          | true =>
            have HRF := Lib.hid (HBX.out (.inr hE))
            rw [hS, hE] at HSB
            clear hS hE
            go_wp2_with (go_at_call 41; refine (HSB.out _).mono ?_; rintro e w1 ⟨rfl, hb⟩; have HB1 := Lib.hid (bel_trans HB.out hb); clear hb hc0)
            go_ret
            exact ⟨by rw [HRF.out] <;> rfl, HB1.out⟩
          | false =>
            have HS1 := Lib.hid hS
            have HE1 := Lib.hid hE
            rw [hS, hE] at HSB
            clear hS hE
            cases hm : Lib.containsS (xs.take j) x with
            | true =>
              have HRF := Lib.hid (HBJ.out ((Lib.containsS_iff _ _).1 hm))
              rw [hm] at HCO
              clear hm
              go_wp2_with (first
                | (go_at_call 41; refine (HSB.out _).mono ?_; rintro e w1 ⟨rfl, hb⟩; have HB1 := Lib.hid (bel_trans HB.out hb); have HX1 := Lib.hid (HX.out.below hb); have hc1 := HX1.out.cell (i := 1) (v := .slice (some ⟨b, off, none⟩) xs.length c) rfl; have HA1 := Lib.hid ((HA.out.below HB1.out).take j); clear hb hc0)
                | (go_at_call 42; refine (HCO.out _ HA1.out).mono ?_; rintro e w2 ⟨rfl, rfl⟩))
              go_ret
              exact ⟨by rw [HRF.out] <;> rfl, HB1.out⟩
            | false =>
              have HGN : Hid (goodTo t k (xs.take (j + 1)) = true) := by
                unfold Hid
                rw [take_snocS hx]
                exact good_snocS HG.out HS1.out HE1.out fun h => by rw [(Lib.containsS_iff _ _).2 h] at hm; cases hm
              rw [hm] at HCO
              clear hm
              go_wp2_with (first
                | (go_at_call 41; refine (HSB.out _).mono ?_; rintro e w1 ⟨rfl, hb⟩; have HB1 := Lib.hid (bel_trans HB.out hb); have HX1 := Lib.hid (HX.out.below hb); have hc1 := HX1.out.cell (i := 1) (v := .slice (some ⟨b, off, none⟩) xs.length c) rfl; have HA1 := Lib.hid ((HA.out.below HB1.out).take j); clear hb hc0)
                | (go_at_call 42; refine (HCO.out _ HA1.out).mono ?_; rintro e w2 ⟨rfl, rfl⟩))
              go_roundw
              case rel => exact ⟨j + 1, by omega, by go_num, HGN, HX1, HB1⟩
              case measure => simp [Go.RowKit.intOf]; omega
      · obtain rfl : j = xs.length := by omega
        rw [List.take_length] at HG
        have HRT := Lib.hid (HTRUE.out HG.out)
        go_wp2_with fail
        go_ret
        exact ⟨by rw [HRT.out] <;> rfl, HB.out⟩
end Go.Proofs.Ytmdogidflaplkaa

namespace Go.Proofs.Ytmdogidflaplkaa
open Go.RowKit

set_option maxRecDepth 100000 in
set_option maxHeartbeats 4000000 in
theorem iTalkOk1 {t k : Int} {A : Option Addr} {n c B : Nat} {xs : List ByteArray} {w : World} {cs : List Value} {b : Bool} (hb : Hid (stateOk asksT t ⟨k, xs⟩ = b)) (hn : n = xs.length) (hl : n ≤ 1048576) (hnc : n ≤ c) (hA : Strs w A xs) (hs : ∀ s ∈ xs, s.size ≤ 1048576) (hB : Box w B 28 (.int .i64 t :: cs)) :
    Calls Try.prog 23 #[.agg #[.int .i64 k, .slice A n c], .pointer (some ⟨B, 0, none⟩)] w fun e w' => e = .returned (.bool (!b)) ∧ Below w.heap.size w w' := by
  have HB0 : Hid (Below w.heap.size w (w.alloc (.cells #[.int .i64 k, .slice A n c] 25))) := (Below.refl _ _).alloc (Nat.le_refl _) _
  have hc0 := (hB.alloc (.cells #[.int .i64 k, .slice A n c] 25)).cell (i := 0) (v := .int .i64 t) rfl
  have hc1 := hB.cell (i := 0) (v := .int .i64 t) rfl
  have HST : Hid (∀ W : World, Below w.heap.size w W → Calls Try.prog 21 #[.int .i64 t, .agg #[.int .i64 k, .slice A n c]] W fun e w' => e = .returned (.bool b) ∧ Below W.heap.size W w') := fun W h => by
    have := iStateOk t k A n c xs W hn hl hnc (hA.below h) hs
    rw [hb.out] at this; exact this
  clear hA hs hn hl hB hnc
  go_enter Try.func23, Try.ntmps23
  go_wp2_with fail
  refine (HST.out _ HB0.out).mono ?_
  rintro e w1 ⟨rfl, hb⟩
  have HB1 := Lib.hid (bel_trans HB0.out hb)
  clear hb hc0 hc1
  go_wp2_with fail
  go_ret
  exact ⟨rfl, HB1.out⟩
def badAny (t : Int) (xs : List (St ByteArray)) : Bool := xs.any fun x => !stateOk asksT t x
set_option maxRecDepth 100000 in
set_option maxHeartbeats 4000000 in
theorem iIndexX {t : Int} {A : Option Addr} {n c B : Nat} {xs : List (St ByteArray)} {w : World} {cs : List Value} (hn : n = xs.length) (hl : n ≤ 1048576) (hA : StaRow w A xs) (hs : ∀ x ∈ xs, x.op.length ≤ 1048576 ∧ ∀ s ∈ x.op, s.size ≤ 1048576) (hB : Box w B 28 (.int .i64 t :: cs)) :
    Calls Try.prog 43 #[.slice A n c, .func (.func 23) #[] #[.pointer (some ⟨B, 0, none⟩)]] w fun e w' => (∃ v : Int, e = .returned (.int .i64 v) ∧ decide (0 ≤ v) = badAny t xs) ∧ Below w.heap.size w w' := by
  subst hn
  have HA := Lib.hid hA
  have HS := Lib.hid hs
  have HBX := Lib.hid hB
  have HHIT : Hid (∀ x ∈ xs, stateOk asksT t x = false → badAny t xs = true) := fun x hx h => by unfold badAny; exact List.any_eq_true.2 ⟨x, hx, by rw [h]; rfl⟩
  have HEND : Hid ((∀ i x, i < xs.length → xs[i]? = some x → stateOk asksT t x = true) → badAny t xs = false) := fun h => by
    unfold badAny
    rw [List.any_eq_false]
    intro x hx
    obtain ⟨i, hi⟩ := List.mem_iff_getElem?.1 hx
    rw [h i x (List.getElem?_eq_some_iff.1 hi).1 hi]; simp
  obtain ⟨R, HR⟩ : ∃ R, Hid (badAny t xs = R) := ⟨_, rfl⟩
  rw [HR.out] at HHIT HEND ⊢
  clear hA hs hB
  go_enter Try.func43, Try.ntmps43
  go_wp2_with fail
  go_loopw [5, 8] (fun _ i wr => ∃ k : Nat, k ≤ xs.length ∧ i = .int .i64 k ∧ Hid (∀ i x, i < k → xs[i]? = some x → stateOk asksT t x = true) ∧ Hid (Below w.heap.size w wr)) (fun _ i _ => xs.length - (Go.RowKit.intOf i).toNat)
  case atStart => exact ⟨0, Nat.zero_le _, rfl, (fun i x h => by omega), Below.refl _ _⟩
  case round =>
    obtain ⟨k, hk, rfl, HG, HB⟩ := hrel
    by_cases hlt : k < xs.length
    · obtain ⟨b, off, Ai, ci, x, rfl, he0, he1, hle, hmi, hx, hAi, hbl⟩ := (HA.out.below HB.out).elem hlt
      obtain ⟨hxl, hxs⟩ := HS.out x (List.mem_of_getElem? hx.out)
      obtain ⟨v, HV⟩ : ∃ v, Hid (stateOk asksT t x = v) := ⟨_, rfl⟩
      have HP := Lib.hid (iTalkOk1 (b := v) (k := x.known) (by exact HV.out) rfl hxl hle hAi.out hxs (HBX.out.below HB.out))
      have HH := Lib.hid (HHIT.out x (List.mem_of_getElem? hx.out))
      cases v
      · have HRT := Lib.hid (HH.out HV.out)
        go_wp2_with fail
        refine HP.out.mono ?_
        rintro e w1 ⟨rfl, hb⟩
        have HB1 := Lib.hid (bel_trans HB.out hb)
        clear hb he0 he1
        go_wp2_with fail
        go_ret
        exact ⟨⟨_, rfl, by rw [HRT.out]; exact decide_eq_true (by omega)⟩, HB1.out⟩
      · have HGN : Hid (∀ i x, i < k + 1 → xs[i]? = some x → stateOk asksT t x = true) := by
          intro i y hi hy
          by_cases e : i = k
          · subst e
            rw [hx.out] at hy; cases hy; exact HV.out
          · exact HG.out i y (by omega) hy
        go_wp2_with fail
        refine HP.out.mono ?_
        rintro e w1 ⟨rfl, hb⟩
        have HB1 := Lib.hid (bel_trans HB.out hb)
        clear hb he0 he1
        go_wp2_with fail
        go_roundw
        case rel => exact ⟨k + 1, by omega, by go_num, HGN, HB1⟩
        case measure => simp [Go.RowKit.intOf]; omega
    · obtain rfl : k = xs.length := by omega
      have HRT := Lib.hid (HEND.out HG.out)
      go_wp2_with fail
      go_ret
      exact ⟨⟨-1, rfl, by rw [HRT.out]; rfl⟩, HB.out⟩
set_option maxRecDepth 100000 in
theorem iContainsX {t : Int} {A : Option Addr} {n c B : Nat} {xs : List (St ByteArray)} {w : World} {cs : List Value} {b : Bool} (hb : Hid (badAny t xs = b)) (hn : n = xs.length) (hl : n ≤ 1048576) (hA : StaRow w A xs) (hs : ∀ x ∈ xs, x.op.length ≤ 1048576 ∧ ∀ s ∈ x.op, s.size ≤ 1048576) (hB : Box w B 28 (.int .i64 t :: cs)) :
    Calls Try.prog 22 #[.slice A n c, .func (.func 23) #[] #[.pointer (some ⟨B, 0, none⟩)]] w fun e w' => e = .returned (.bool b) ∧ Below w.heap.size w w' := by
  have HC := Lib.hid (iIndexX (c := c) hn hl hA hs hB)
  clear hn hl hA hs hB
  go_enter Try.func22, Try.ntmps22
  go_wp2_with fail
  refine HC.out.mono ?_
  rintro e w1 ⟨⟨v, rfl, hv⟩, hbel⟩
  have HV := Lib.hid hv
  have HB := Lib.hid hbel
  clear hv hbel
  go_wp2_with fail
  go_ret
  exact ⟨ret_bool (by rw [← hb.out, ← HV.out]), HB.out⟩
theorem talk_is (T : TalkV) : okT T = (decide (T.past.length ≤ 10) && stateOk asksT T.things T.now && !badAny T.things T.past) := by
  unfold okT talkOk badAny
  rw [Bool.eq_iff_iff]
  simp only [Bool.and_eq_true, decide_eq_true_eq, List.all_eq_true, Bool.not_eq_true', List.any_eq_false]
  constructor
  · rintro ⟨⟨a, b⟩, c⟩
    exact ⟨⟨b, a⟩, fun x hx => by rw [c x hx]; simp⟩
  · rintro ⟨⟨a, b⟩, c⟩
    exact ⟨⟨b, a⟩, fun x hx => by have := c x hx; simpa using this⟩
set_option maxRecDepth 100000 in
set_option maxHeartbeats 4000000 in
theorem iTalkOk (T : TalkV) (A B : Option Addr) (n c m d : Nat) (w : World) (hT : TkAt w T A n c B m d) (hs : SmallT T) :
    Calls Try.prog 7 #[.agg #[.int .i64 T.things, .int .i64 T.now.known, .slice A n c, .slice B m d]] w fun e w' => e = .returned (.bool (okT T)) ∧ Below w.heap.size w w' := by
  have HRES := Lib.hid (talk_is T)
  rw [HRES.out]
  have hpl : m ≤ 1048576 := by rw [hT.pn]; exact hs.past
  have hm10 : decide ((m : Int) ≤ 10) = decide (T.past.length ≤ 10) := by rw [hT.pn, Bool.eq_iff_iff, decide_eq_true_iff, decide_eq_true_iff]; omega
  obtain ⟨t, ht⟩ : ∃ t, T.things = t := ⟨_, rfl⟩
  obtain ⟨q, hq⟩ : ∃ q, T.now.known = q := ⟨_, rfl⟩
  rw [ht, hq]
  have HX0 : Hid (Box (w.alloc (.cells #[.int .i64 t, .int .i64 q, .slice A n c, .slice B m d] 28)) w.heap.size 28 [.int .i64 t, .int .i64 q, .slice A n c, .slice B m d]) := Box.new w _ _
  have HB0 : Hid (Below w.heap.size w (w.alloc (.cells #[.int .i64 t, .int .i64 q, .slice A n c, .slice B m d] 28))) := (Below.refl _ _).alloc (Nat.le_refl _) _
  obtain ⟨v, HV⟩ : ∃ v, Hid (stateOk asksT t ⟨q, T.now.op⟩ = v) := ⟨_, rfl⟩
  have hnow : T.now = ⟨q, T.now.op⟩ := by rw [← hq]
  rw [hnow, HV.out]
  obtain ⟨u, HU⟩ : ∃ u, Hid (badAny t T.past = u) := ⟨_, rfl⟩
  rw [HU.out]
  have HST : Hid (∀ W : World, Below w.heap.size w W → Calls Try.prog 21 #[.int .i64 t, .agg #[.int .i64 q, .slice A n c]] W fun e w' => e = .returned (.bool v) ∧ Below W.heap.size W w') := fun W h => by
    have := iStateOk t q A n c T.now.op W hT.hn (by rw [hT.hn]; exact hs.op) hT.hc (hT.hA.below h) hs.txt
    rw [HV.out] at this; exact this
  have HCF : Hid (∀ W : World, Below w.heap.size w W → Box W w.heap.size 28 [.int .i64 t, .int .i64 q, .slice A n c, .slice B m d] → Calls Try.prog 22 #[.slice B m d, .func (.func 23) #[] #[.pointer (some ⟨w.heap.size, 0, none⟩)]] W fun e w' => e = .returned (.bool u) ∧ Below W.heap.size W w') := fun W h hx => iContainsX HU hT.pn (by rw [hT.pn]; exact hs.past) (hT.hB.below h) hs.ops hx
  have hmf : ∀ (fn : Fn) (first cap : Array Value) (w : World), (Instr.makeFunc fn first cap).run Try.prog w = .ok (.func fn first cap) w := fun _ _ _ _ => rfl
  obtain ⟨z, HZ⟩ : ∃ z, Hid (decide (T.past.length ≤ 10) = z) := ⟨_, rfl⟩
  rw [HZ.out] at hm10 ⊢
  clear hT hs hnow ht hq
  cases z
  · go_enter Try.func7, Try.ntmps7
    go_wp2_with fail
    go_ret
    exact ⟨rfl, HB0.out⟩
  · cases v
    · go_enter Try.func7, Try.ntmps7
      go_wp2_with (go_at_call 21; refine (HST.out _ HB0.out).mono ?_; rintro e w1 ⟨rfl, hb⟩; have HB1 := Lib.hid (bel_trans HB0.out hb); clear hb)
      go_ret
      exact ⟨rfl, HB1.out⟩
    · go_enter Try.func7, Try.ntmps7
      go_wp2_with (first
        | (go_at_call 21; refine (HST.out _ HB0.out).mono ?_; rintro e w1 ⟨rfl, hb⟩; have HB1 := Lib.hid (bel_trans HB0.out hb); have HX1 := Lib.hid (HX0.out.below hb); have hc3 := HX1.out.cell (i := 3) (v := .slice B m d) rfl; clear hb)
        | (go_at_call 22; refine (HCF.out _ HB1.out HX1.out).mono ?_; rintro e w2 ⟨rfl, hb⟩; have HB2 := Lib.hid (bel_trans HB1.out hb); clear hb hc3))
      go_ret
      exact ⟨ret_bool (by cases u <;> rfl), HB2.out⟩
end Go.Proofs.Ytmdogidflaplkaa
