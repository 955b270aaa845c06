/-
  What the proofs of this seat's statements share (TlkL, TlkN, TlkQ, TlkR).
-/
import Derived.Deep.RegionHeld3
import Derived.Test.YtobgnbgmpcilgaaU21
import Derived.Test.YtobgnbgmpcilgaaU17
import Derived.Test.YtobgnbgmpcilgaaU7
import Derived.Test.YtobgnbgmpcilgaaU9
import Derived.Test.YtobgnbgmpcilgaaU12
import Derived.Test.YtobgnbgmpcilgaaU18
import Derived.Test.YtobgnbgmpcilgaaU22

namespace Go.Proofs.Ytobgnbgmpcilgaa
open Go.RowKit

theorem lEqStringS_same (A B : Option Addr) (nn mm c d : Nat) (xs : List ByteArray) (w : World) (hn : nn = xs.length) (hm : mm = xs.length) (hl : nn ≤ 1048576) (hA : Strs w A xs) (hB : Strs w B xs) :
    Calls Try.prog 67 #[.slice A nn c, .slice B mm d] w fun e w' => e = .returned (.bool true) ∧ ∃ n, w' = w.drewN n := by
  refine (lEqStringS A B nn mm c d xs xs w hn hm hl (by omega) hA hB).mono ?_
  rintro e w' ⟨rfl, h⟩
  exact ⟨by rw [decide_eq_true rfl], h⟩
set_option maxRecDepth 100000 in
theorem lEqState (k : Int) (A B : Option Addr) (n m c d : Nat) (xs : List ByteArray) (w : World) (hn : n = xs.length) (hm : m = xs.length) (hl : n ≤ 1048576) (hA : Strs w A xs) (hB : Strs w B xs) :
    Calls Try.prog 54 #[.agg #[.int .i64 k, .slice A n c], .agg #[.int .i64 k, .slice B m d]] w fun e w' => e = .returned (.bool true) ∧ Below w.heap.size w w' := by
  have hb : Below w.heap.size w ((w.alloc (.cells #[.int .i64 k, .slice A n c] 40)).alloc (.cells #[.int .i64 k, .slice B m d] 40)) := ((Below.refl _ _).alloc (Nat.le_refl _) _).alloc (by rw [World.size_alloc]; omega) _
  have HB0 := Lib.hid hb
  have HC := Lib.hid (lEqStringS_same A B n m c d xs _ hn hm hl (hA.below hb) (hB.below hb))
  have hd : (k != k) = false := by simp
  clear hb hn hm hl hA hB
  go_enter Try.func54, Try.ntmps54
  go_wp2_with fail
  refine HC.out.mono ?_
  rintro e w' ⟨rfl, q, rfl⟩
  go_wp2_with fail
  go_ret
  exact ⟨rfl, bel_drewN HB0.out _⟩
set_option maxRecDepth 100000 in
set_option maxHeartbeats 4000000 in
theorem lEqStateS (A B : Option Addr) (n m c d : Nat) (xs : List (St ByteArray)) (w : World) (hn : n = xs.length) (hm : m = xs.length) (hl : n ≤ 1048576) (hA : StaRow w A xs) (hB : StaRow w B xs) (hs : ∀ x ∈ xs, x.op.length ≤ 1048576) :
    Calls Try.prog 55 #[.slice A n c, .slice B m d] w fun e w' => e = .returned (.bool true) ∧ Below w.heap.size w w' := by
  subst hn hm
  have HA := Lib.hid hA
  have HB := Lib.hid hB
  have HS := Lib.hid hs
  have hd : ((xs.length : Int) != (xs.length : Int)) = false := by simp
  clear hA hB hs
  go_enter Try.func55, Try.ntmps55
  go_wp2_with fail
  clear hd
  go_loopw [5] (fun i wr => ∃ k : Nat, k ≤ xs.length ∧ i = .int .i64 k ∧ Hid (Below w.heap.size w wr)) (fun i _ => xs.length - (Go.RowKit.intOf i).toNat)
  case atStart => exact ⟨0, Nat.zero_le _, rfl, Below.refl _ _⟩
  case round =>
    obtain ⟨k, hk, rfl, HBW⟩ := hrel
    by_cases hlt : k < xs.length
    · obtain ⟨b, off, Ai, ci, x, rfl, he0, he1, _, _, hx, hAi, hb1⟩ := (HA.out.below HBW.out).elem hlt
      obtain ⟨b', off', Aj, cj, y, rfl, he2, he3, _, _, hy, hAj, hb2⟩ := (HB.out.below HBW.out).elem hlt
      have e := hx.out.symm.trans hy.out
      simp only [Option.some.injEq] at e
      subst e
      have hxl := HS.out x (List.mem_of_getElem? hx.out)
      have HC : Hid (∀ W : World, Strs W Ai x.op → Strs W Aj x.op → Calls Try.prog 54 #[.agg #[.int .i64 x.known, .slice Ai x.op.length ci], .agg #[.int .i64 x.known, .slice Aj x.op.length cj]] W fun e w' => e = .returned (.bool true) ∧ Below W.heap.size W w') := fun W h1 h2 => lEqState _ _ _ _ _ _ _ x.op W rfl rfl hxl h1 h2
      go_wp2_with fail
      go_region_held3 (fun w' => w'.cell? ⟨b, off + k * 2, none⟩ = some (.int .i64 x.known) ∧ w'.cell? ⟨b, off + k * 2 + 1, none⟩ = some (.slice Ai x.op.length ci) ∧ w'.cell? ⟨b', off' + k * 2, none⟩ = some (.int .i64 x.known) ∧ w'.cell? ⟨b', off' + k * 2 + 1, none⟩ = some (.slice Aj x.op.length cj))
        (first | go_keep | exact ⟨he0, he1, he2, he3⟩ | exact HKEEP.out)
        (first | (go_at_call 54; refine (HC.out _ (hAi.out.drewN 1) (hAj.out.drewN 1)).mono ?_; rintro e w1 ⟨rfl, hb⟩; have HKEEP := Lib.hid (And.intro (((Below.cell hb (p := ⟨b, off + k * 2, none⟩)) hb1.out).trans he0) (And.intro (((Below.cell hb (p := ⟨b, off + k * 2 + 1, none⟩)) hb1.out).trans he1) (And.intro (((Below.cell hb (p := ⟨b', off' + k * 2, none⟩)) hb2.out).trans he2) (((Below.cell hb (p := ⟨b', off' + k * 2 + 1, none⟩)) hb2.out).trans he3)))); have HB2 := Lib.hid (bel_trans (bel_drewN HBW.out 1) hb); clear hb))
      all_goals
        go_wp2_with fail
        go_roundw
        case rel => exact ⟨k + 1, by omega, by go_num, HB2⟩
        case measure => simp [Go.RowKit.intOf]; omega
    · obtain rfl : k = xs.length := by omega
      go_wp2_with fail
      go_ret
      exact ⟨rfl, HBW.out⟩
set_option maxRecDepth 100000 in
set_option maxHeartbeats 4000000 in
theorem lEqTalk (T : TalkV) (A B A2 B2 : Option Addr) (n c m d n2 c2 m2 d2 : Nat) (w : World) (hT : TkAt w T A n c B m d) (hU : TkAt w T A2 n2 c2 B2 m2 d2) (hs : SmallT T) :
    Calls Try.prog 25 #[.agg #[.int .i64 T.things, .int .i64 T.now.known, .slice A n c, .slice B m d], .agg #[.int .i64 T.things, .int .i64 T.now.known, .slice A2 n2 c2, .slice B2 m2 d2]] w fun e w' => e = .returned (.bool true) ∧ Below w.heap.size w w' := by
  obtain ⟨t, ht⟩ : ∃ t, T.things = t := ⟨_, rfl⟩
  obtain ⟨k, hk⟩ : ∃ k, T.now.known = k := ⟨_, rfl⟩
  rw [ht, hk]
  clear ht hk
  have HX0 : Hid (Box ((w.alloc (.cells #[.int .i64 t, .int .i64 k, .slice A n c, .slice B m d] 43)).alloc (.cells #[.int .i64 t, .int .i64 k, .slice A2 n2 c2, .slice B2 m2 d2] 43)) w.heap.size 43 [.int .i64 t, .int .i64 k, .slice A n c, .slice B m d]) := (Box.new w _ [.int .i64 t, .int .i64 k, .slice A n c, .slice B m d]).alloc _
  have HX1 : Hid (Box ((w.alloc (.cells #[.int .i64 t, .int .i64 k, .slice A n c, .slice B m d] 43)).alloc (.cells #[.int .i64 t, .int .i64 k, .slice A2 n2 c2, .slice B2 m2 d2] 43)) (w.heap.size + 1) 43 [.int .i64 t, .int .i64 k, .slice A2 n2 c2, .slice B2 m2 d2]) := by
    have := Box.new (w.alloc (.cells #[.int .i64 t, .int .i64 k, .slice A n c, .slice B m d] 43)) 43 [.int .i64 t, .int .i64 k, .slice A2 n2 c2, .slice B2 m2 d2]
    rw [World.size_alloc] at this
    exact this
  have HB0 : Hid (Below w.heap.size w ((w.alloc (.cells #[.int .i64 t, .int .i64 k, .slice A n c, .slice B m d] 43)).alloc (.cells #[.int .i64 t, .int .i64 k, .slice A2 n2 c2, .slice B2 m2 d2] 43))) := ((Below.refl _ _).alloc (Nat.le_refl _) _).alloc (by rw [World.size_alloc]; omega) _
  have HT := Lib.hid hT
  have HU := Lib.hid hU
  have HS := Lib.hid hs
  have hd : (t != t) = false := by simp
  have HC : Hid (∀ W : World, Below w.heap.size w W → Calls Try.prog 54 #[.agg #[.int .i64 k, .slice A n c], .agg #[.int .i64 k, .slice A2 n2 c2]] W fun e w' => e = .returned (.bool true) ∧ Below W.heap.size W w') := fun W hb => lEqState _ _ _ _ _ _ _ T.now.op W hT.hn hU.hn (by rw [hT.hn]; exact hs.op) (hT.hA.below hb) (hU.hA.below hb)
  have HC2 : Hid (∀ W : World, Below w.heap.size w W → Calls Try.prog 55 #[.slice B m d, .slice B2 m2 d2] W fun e w' => e = .returned (.bool true) ∧ Below W.heap.size W w') := fun W hb => lEqStateS _ _ _ _ _ _ T.past W hT.pn hU.pn (by rw [hT.pn]; exact hs.past) (hT.hB.below hb) (hU.hB.below hb) fun x hx => (hs.ops x hx).1
  clear hT hU hs
  go_enter Try.func25, Try.ntmps25
  go_wp2_with fail
  refine (HC.out _ HB0.out).mono ?_
  rintro e w1 ⟨rfl, hb⟩
  have HX2 := Lib.hid (HX0.out.below hb)
  have HX3 := Lib.hid (HX1.out.below hb)
  have HB1 := Lib.hid (bel_trans HB0.out hb)
  have hc3 := HX2.out.cell (i := 3) (v := .slice B m d) rfl
  have hd3 := HX3.out.cell (i := 3) (v := .slice B2 m2 d2) rfl
  clear hb hd
  go_wp2_with fail
  refine (HC2.out _ HB1.out).mono ?_
  rintro e w2 ⟨rfl, hb⟩
  have HB2 := Lib.hid (bel_trans HB1.out hb)
  clear hb hc3 hd3
  go_wp2_with fail
  go_ret
  exact ⟨rfl, HB2.out⟩
end Go.Proofs.Ytobgnbgmpcilgaa

namespace Go.Proofs.Ytobgnbgmpcilgaa
open Go.RowKit

theorem word_all {t : Int} (h1 : 1 ≤ t) (h3 : t ≤ 3) : ∃ n, worldsOf t = ((n : Nat) : Int) ∧ n ≤ 8 ∧ ((wordTo 49 n : Nat) : Int) = allOf t := by
  have h : t = 1 ∨ t = 2 ∨ t = 3 := by omega
  rcases h with rfl | rfl | rfl
  · exact ⟨2, rfl, by decide, by decide⟩
  · exact ⟨4, rfl, by decide, by decide⟩
  · exact ⟨8, rfl, by decide, by decide⟩
/-- The number of things of a new talk, its set. -/
def newN (t : Int) : Int := if 1 ≤ t ∧ t ≤ 3 then t else 0
def newK (t : Int) : Int := if 1 ≤ t ∧ t ≤ 3 then allOf t else 0
theorem talk_box (w : World) (t k : Int) : Hid (Box (w.alloc (.cells #[.int .i64 t, .int .i64 k, .slice none 0 0, .slice none 0 0] 43)) w.heap.size 43 [.int .i64 t, .int .i64 k, .slice none 0 0, .slice none 0 0]) ∧ Hid (Below w.heap.size w (w.alloc (.cells #[.int .i64 t, .int .i64 k, .slice none 0 0, .slice none 0 0] 43))) :=
  ⟨Box.new w _ [.int .i64 t, .int .i64 k, .slice none 0 0, .slice none 0 0], (Below.refl _ _).alloc (Nat.le_refl _) _⟩
set_option maxRecDepth 100000 in
theorem iTalkNew (t : Int) (w : World) : Calls Try.prog 24 #[.int .i64 t] w fun e w' => e = .returned (.agg #[.int .i64 (newN t), .int .i64 (newK t), .slice none 0 0, .slice none 0 0]) ∧ Below w.heap.size w w' := by
  by_cases h : 1 ≤ t ∧ t ≤ 3
  · obtain ⟨n, hn, hn8, hw⟩ := word_all h.1 h.2
    rw [show newN t = t by unfold newN; rw [if_pos h], show newK t = allOf t by unfold newK; rw [if_pos h], ← hw]
    have HW := Lib.hid (fun W => iWorldsOfWord t n hn hn8 49 W (.inr (.inl rfl)))
    have HN := Lib.hid hn
    obtain ⟨q, hq⟩ : ∃ q, ((wordTo 49 n : Nat) : Int) = q := ⟨_, rfl⟩
    rw [hq] at HW ⊢
    have hd : decide ((n : Int) < 0) = false := decide_eq_false (by omega)
    obtain ⟨HZ, HB⟩ := talk_box w t q
    clear h hn hw hq
    go_enter Try.func24, Try.ntmps24
    go_wp2_with fail
    refine (iWorldsOf _ _).mono ?_
    rintro e w' ⟨rfl, rfl⟩
    rw [HN.out]
    go_wp2_with fail
    refine (HW.out _).mono ?_
    rintro e w' ⟨rfl, rfl⟩
    go_wp2_with fail
    refine bodyPost_ret_by (results_talk (b := w.heap.size) rfl rfl HZ) rfl ⟨rfl, HB.out⟩
  · have hb := worldsOf_bad (t := t) (by omega)
    rw [show newN t = 0 by unfold newN; rw [if_neg h], show newK t = 0 by unfold newK; rw [if_neg h]]
    obtain ⟨HZ, HB⟩ := talk_box w 0 0
    have HN := Lib.hid hb
    clear h hb
    go_enter Try.func24, Try.ntmps24
    go_wp2_with fail
    refine (iWorldsOf _ _).mono ?_
    rintro e w' ⟨rfl, rfl⟩
    rw [HN.out]
    go_wp2_with fail
    refine bodyPost_ret_by (results_talk (b := w.heap.size) rfl rfl HZ) rfl ⟨rfl, HB.out⟩
set_option maxRecDepth 100000 in
theorem sTalkNew (t : Int) (w : World) : Calls Try.prog 23 #[.int .i64 t] w fun e w' => e = .returned (.agg #[.int .i64 (newN t), .int .i64 (newK t), .slice none 0 0, .slice none 0 0]) ∧ Below w.heap.size w w' := by
  by_cases h : 1 ≤ t ∧ t ≤ 3
  · rw [show newN t = t by unfold newN; rw [if_pos h], show newK t = allOf t by unfold newK; rw [if_pos h]]
    have HA := Lib.hid (fun W => sAll t W h.1 h.2)
    have HI := Lib.hid (fun W => sIn_yes t 1 3 W h.1 h.2)
    obtain ⟨q, hq⟩ : ∃ q, allOf t = q := ⟨_, rfl⟩
    rw [hq] at HA ⊢
    obtain ⟨HZ, HB⟩ := talk_box w t q
    clear h hq
    go_enter Try.func23, Try.ntmps23
    go_wp2_with fail
    refine (HI.out _).mono ?_
    rintro e w' ⟨rfl, rfl⟩
    go_wp2_with fail
    refine (HA.out _).mono ?_
    rintro e w' ⟨rfl, rfl⟩
    go_wp2_with fail
    refine bodyPost_ret_by (results_talk (b := w.heap.size) rfl rfl HZ) rfl ⟨rfl, HB.out⟩
  · rw [show newN t = 0 by unfold newN; rw [if_neg h], show newK t = 0 by unfold newK; rw [if_neg h]]
    have HI := Lib.hid (fun W => sIn_no t 1 3 W (by omega))
    obtain ⟨HZ, HB⟩ := talk_box w 0 0
    clear h
    go_enter Try.func23, Try.ntmps23
    go_wp2_with fail
    refine (HI.out _).mono ?_
    rintro e w' ⟨rfl, rfl⟩
    go_wp2_with fail
    refine bodyPost_ret_by (results_talk (b := w.heap.size) rfl rfl HZ) rfl ⟨rfl, HB.out⟩

/-! The laws' helpers at talks without questions. -/
set_option maxRecDepth 100000 in
theorem lEqStringN (w : World) : Calls Try.prog 67 #[.slice none 0 0, .slice none 0 0] w fun e w' => e = .returned (.bool true) ∧ w = w' := by
  go_enter Try.func67, Try.ntmps67
  go_wp2_with fail
  refine wp_loop_rounds 1 ?_
  rw [rounds_succ]
  go_wp2_with fail
  go_ret
  exact ⟨rfl, rfl⟩
set_option maxRecDepth 100000 in
theorem lEqStateN (k : Int) (w : World) : Calls Try.prog 54 #[.agg #[.int .i64 k, .slice none 0 0], .agg #[.int .i64 k, .slice none 0 0]] w fun e w' => e = .returned (.bool true) ∧ Below w.heap.size w w' := by
  have hd : (k != k) = false := by simp
  have hb : Below w.heap.size w ((w.alloc (.cells #[.int .i64 k, .slice none 0 0] 40)).alloc (.cells #[.int .i64 k, .slice none 0 0] 40)) := ((Below.refl _ _).alloc (Nat.le_refl _) _).alloc (by rw [World.size_alloc]; omega) _
  have HB := Lib.hid hb
  clear hb
  go_enter Try.func54, Try.ntmps54
  go_wp2_with fail
  refine (lEqStringN _).mono ?_
  rintro e w' ⟨rfl, rfl⟩
  go_wp2_with fail
  go_ret
  exact ⟨rfl, HB.out⟩
set_option maxRecDepth 100000 in
theorem lEqStateSN (w : World) : Calls Try.prog 55 #[.slice none 0 0, .slice none 0 0] w fun e w' => e = .returned (.bool true) ∧ w = w' := by
  go_enter Try.func55, Try.ntmps55
  go_wp2_with fail
  refine wp_loop_rounds 1 ?_
  rw [rounds_succ]
  go_wp2_with fail
  go_ret
  exact ⟨rfl, rfl⟩
set_option maxRecDepth 100000 in
theorem lEqTalkN (t k : Int) (w : World) : Calls Try.prog 25 #[.agg #[.int .i64 t, .int .i64 k, .slice none 0 0, .slice none 0 0], .agg #[.int .i64 t, .int .i64 k, .slice none 0 0, .slice none 0 0]] w fun e w' => e = .returned (.bool true) ∧ Below w.heap.size w w' := by
  have hd : (t != t) = false := by simp
  obtain ⟨HX, HB⟩ := talk_box w t k
  obtain ⟨HY, HC⟩ := talk_box (w.alloc (.cells #[.int .i64 t, .int .i64 k, .slice none 0 0, .slice none 0 0] 43)) t k
  replace HX := Lib.hid (HX.out.alloc (.cells #[.int .i64 t, .int .i64 k, .slice none 0 0, .slice none 0 0] 43))
  rw [World.size_alloc] at HY
  replace HB := Lib.hid (bel_trans HB.out HC.out)
  clear HC
  go_enter Try.func25, Try.ntmps25
  go_wp2_with fail
  refine (lEqStateN k _).mono ?_
  rintro e w1 ⟨rfl, hb⟩
  replace HB := Lib.hid (bel_trans HB.out hb)
  replace HX := Lib.hid (HX.out.below hb)
  replace HY := Lib.hid (HY.out.below hb)
  have hc := HX.out.cell (i := 3) (v := .slice none 0 0) rfl
  have hc2 := HY.out.cell (i := 3) (v := .slice none 0 0) rfl
  clear hb hd
  go_wp2_with fail
  refine (lEqStateSN _).mono ?_
  rintro e w' ⟨rfl, rfl⟩
  go_wp2_with fail
  go_ret
  exact ⟨rfl, HB.out⟩
set_option maxRecDepth 100000 in
theorem lMarkStringN (m : Int) (w : World) : Calls Try.prog 68 #[.slice none 0 0, .int .i64 m] w fun e w' => e = .returned (.int .i64 m) ∧ w = w' := by
  go_enter Try.func68, Try.ntmps68
  go_wp2_with fail
  refine wp_loop_rounds 1 ?_
  rw [rounds_succ]
  go_wp2_with fail
  go_ret
  exact ⟨rfl, rfl⟩
set_option maxRecDepth 100000 in
theorem lHeldStringN (m : Int) (w : World) : Calls Try.prog 69 #[.slice none 0 0, .int .i64 m] w fun e w' => e = .returned (.int .i64 m) ∧ w = w' := by
  go_enter Try.func69, Try.ntmps69
  go_wp2_with fail
  refine wp_loop_rounds 1 ?_
  rw [rounds_succ]
  go_wp2_with fail
  go_ret
  exact ⟨rfl, rfl⟩
set_option maxRecDepth 100000 in
theorem lMarkStateSN (m : Int) (w : World) : Calls Try.prog 57 #[.slice none 0 0, .int .i64 m] w fun e w' => e = .returned (.int .i64 m) ∧ w = w' := by
  go_enter Try.func57, Try.ntmps57
  go_wp2_with fail
  refine wp_loop_rounds 1 ?_
  rw [rounds_succ]
  go_wp2_with fail
  go_ret
  exact ⟨rfl, rfl⟩
set_option maxRecDepth 100000 in
theorem lHeldStateSN (m : Int) (w : World) : Calls Try.prog 59 #[.slice none 0 0, .int .i64 m] w fun e w' => e = .returned (.int .i64 m) ∧ w = w' := by
  go_enter Try.func59, Try.ntmps59
  go_wp2_with fail
  refine wp_loop_rounds 1 ?_
  rw [rounds_succ]
  go_wp2_with fail
  go_ret
  exact ⟨rfl, rfl⟩
set_option maxRecDepth 100000 in
theorem lMarkStateN (k m : Int) (w : World) : Calls Try.prog 56 #[.agg #[.int .i64 k, .slice none 0 0], .int .i64 m] w fun e w' => e = .returned (.int .i64 m) ∧ Below w.heap.size w w' := by
  go_enter Try.func56, Try.ntmps56
  go_wp2_with fail
  refine (lMarkStringN m _).mono ?_
  rintro e w' ⟨rfl, rfl⟩
  go_wp2_with fail
  go_ret
  exact ⟨rfl, (Below.refl _ _).alloc (Nat.le_refl _) _⟩
set_option maxRecDepth 100000 in
theorem lHeldStateN (k : Int) (m : Nat) (w : World) : Calls Try.prog 58 #[.agg #[.int .i64 k, .slice none 0 0], .int .i64 m] w fun e w' => e = .returned (.int .i64 m) ∧ Below w.heap.size w w' := by
  have hd : decide ((m : Int) < 0) = false := decide_eq_false (by omega)
  go_enter Try.func58, Try.ntmps58
  go_wp2_with fail
  refine (lHeldStringN m _).mono ?_
  rintro e w' ⟨rfl, rfl⟩
  go_wp2_with fail
  go_ret
  exact ⟨rfl, (Below.refl _ _).alloc (Nat.le_refl _) _⟩
set_option maxRecDepth 100000 in
theorem lMarkTalkN (t k : Int) (m : Nat) (w : World) : Calls Try.prog 26 #[.agg #[.int .i64 t, .int .i64 k, .slice none 0 0, .slice none 0 0], .int .i64 m] w fun e w' => e = .returned (.int .i64 m) ∧ Below w.heap.size w w' := by
  have hd : decide ((m : Int) < 0) = false := decide_eq_false (by omega)
  obtain ⟨HX, HB⟩ := talk_box w t k
  go_enter Try.func26, Try.ntmps26
  go_wp2_with fail
  refine (lMarkStateN k m _).mono ?_
  rintro e w1 ⟨rfl, hb⟩
  replace HB := Lib.hid (bel_trans HB.out hb)
  replace HX := Lib.hid (HX.out.below hb)
  have hc := HX.out.cell (i := 3) (v := .slice none 0 0) rfl
  clear hb
  go_wp2_with fail
  refine (lMarkStateSN m _).mono ?_
  rintro e w' ⟨rfl, rfl⟩
  go_wp2_with fail
  go_ret
  exact ⟨rfl, HB.out⟩
set_option maxRecDepth 100000 in
theorem lHeldTalkN (t k : Int) (m : Nat) (w : World) : Calls Try.prog 27 #[.agg #[.int .i64 t, .int .i64 k, .slice none 0 0, .slice none 0 0], .int .i64 m] w fun e w' => e = .returned (.int .i64 m) ∧ Below w.heap.size w w' := by
  have hd : decide ((m : Int) < 0) = false := decide_eq_false (by omega)
  obtain ⟨HX, HB⟩ := talk_box w t k
  go_enter Try.func27, Try.ntmps27
  go_wp2_with fail
  refine (lHeldStateN k m _).mono ?_
  rintro e w1 ⟨rfl, hb⟩
  replace HB := Lib.hid (bel_trans HB.out hb)
  replace HX := Lib.hid (HX.out.below hb)
  have hc := HX.out.cell (i := 3) (v := .slice none 0 0) rfl
  clear hb
  go_wp2_with fail
  refine (lHeldStateSN m _).mono ?_
  rintro e w' ⟨rfl, rfl⟩
  go_wp2_with fail
  go_ret
  exact ⟨rfl, HB.out⟩
set_option maxRecDepth 100000 in
set_option maxHeartbeats 4000000 in
theorem wExactTalkNew (t : Int) (w : World) : Calls Try.prog 6 #[.int .i64 t] w fun e w' => e = .returned (.bool true) ∧ Below w.heap.size w w' := by
  have HS := Lib.hid (fun W => sTalkNew t W)
  have HI := Lib.hid (fun W => iTalkNew t W)
  obtain ⟨n, hn⟩ : ∃ n, newN t = n := ⟨_, rfl⟩
  obtain ⟨k, hk⟩ : ∃ k, newK t = k := ⟨_, rfl⟩
  rw [hn, hk] at HS HI
  clear hn hk
  go_enter Try.func6, Try.ntmps6
  go_wp2_with fail
  refine (HS.out _).mono ?_
  rintro e w1 ⟨rfl, hb⟩
  have HB := Lib.hid (hb.alloc hb.size (.cells #[.int .i64 n, .int .i64 k, .slice none 0 0, .slice none 0 0] 43))
  have HX := (talk_box w1 n k).1
  clear hb
  go_wp2_with fail
  refine (HI.out _).mono ?_
  rintro e w2 ⟨rfl, hb⟩
  replace HB := Lib.hid (bel_trans HB.out hb)
  replace HX := Lib.hid (HX.out.below hb)
  have HY := (talk_box w2 n k).1
  replace HX := Lib.hid (HX.out.alloc (.cells #[.int .i64 n, .int .i64 k, .slice none 0 0, .slice none 0 0] 43))
  replace HB := Lib.hid (HB.out.alloc HB.out.size (.cells #[.int .i64 n, .int .i64 k, .slice none 0 0, .slice none 0 0] 43))
  have hx0 := HX.out.cell (i := 0) (v := .int .i64 n) rfl
  have hx1 := HX.out.cell (i := 1) (v := .int .i64 k) rfl
  have hx2 := HX.out.cell (i := 2) (v := .slice none 0 0) rfl
  have hx3 := HX.out.cell (i := 3) (v := .slice none 0 0) rfl
  clear hb
  go_wp2_with fail
  refine (lEqTalkN n k _).mono ?_
  rintro e w3 ⟨rfl, hb⟩
  clear hx0 hx1 hx2 hx3
  replace HB := Lib.hid (bel_trans HB.out hb)
  replace HX := Lib.hid (HX.out.below hb)
  replace HY := Lib.hid (HY.out.below hb)
  have hy0 := HY.out.cell (i := 0) (v := .int .i64 n) rfl
  have hy1 := HY.out.cell (i := 1) (v := .int .i64 k) rfl
  have hy2 := HY.out.cell (i := 2) (v := .slice none 0 0) rfl
  have hy3 := HY.out.cell (i := 3) (v := .slice none 0 0) rfl
  clear hb
  go_wp2_with fail
  refine (lMarkTalkN n k 1 _).mono ?_
  rintro e w4 ⟨rfl, hb⟩
  clear hy0 hy1 hy2 hy3
  replace HB := Lib.hid (bel_trans HB.out hb)
  replace HX := Lib.hid (HX.out.below hb)
  replace HY := Lib.hid (HY.out.below hb)
  have hy0 := HY.out.cell (i := 0) (v := .int .i64 n) rfl
  have hy1 := HY.out.cell (i := 1) (v := .int .i64 k) rfl
  have hy2 := HY.out.cell (i := 2) (v := .slice none 0 0) rfl
  have hy3 := HY.out.cell (i := 3) (v := .slice none 0 0) rfl
  clear hb
  go_wp2_with fail
  refine (lHeldTalkN n k 1 _).mono ?_
  rintro e w5 ⟨rfl, hb⟩
  clear hy0 hy1 hy2 hy3
  replace HB := Lib.hid (bel_trans HB.out hb)
  replace HX := Lib.hid (HX.out.below hb)
  replace HY := Lib.hid (HY.out.below hb)
  clear hb
  go_wp2_with fail
  refine (HI.out _).mono ?_
  rintro e w6 ⟨rfl, hb⟩
  replace HB := Lib.hid (bel_trans HB.out hb)
  replace HX := Lib.hid ((HX.out.below hb).alloc (.cells #[.int .i64 n, .int .i64 k, .slice none 0 0, .slice none 0 0] 43))
  replace HY := Lib.hid ((HY.out.below hb).alloc (.cells #[.int .i64 n, .int .i64 k, .slice none 0 0, .slice none 0 0] 43))
  replace HB := Lib.hid (HB.out.alloc HB.out.size (.cells #[.int .i64 n, .int .i64 k, .slice none 0 0, .slice none 0 0] 43))
  have hx0 := HX.out.cell (i := 0) (v := .int .i64 n) rfl
  have hx1 := HX.out.cell (i := 1) (v := .int .i64 k) rfl
  have hx2 := HX.out.cell (i := 2) (v := .slice none 0 0) rfl
  have hx3 := HX.out.cell (i := 3) (v := .slice none 0 0) rfl
  clear hb
  go_wp2_with fail
  refine (lEqTalkN n k _).mono ?_
  rintro e w7 ⟨rfl, hb⟩
  clear hx0 hx1 hx2 hx3
  replace HB := Lib.hid (bel_trans HB.out hb)
  replace HY := Lib.hid (HY.out.below hb)
  have hy0 := HY.out.cell (i := 0) (v := .int .i64 n) rfl
  have hy1 := HY.out.cell (i := 1) (v := .int .i64 k) rfl
  have hy2 := HY.out.cell (i := 2) (v := .slice none 0 0) rfl
  have hy3 := HY.out.cell (i := 3) (v := .slice none 0 0) rfl
  clear hb
  go_wp2_with fail
  refine (lHeldTalkN n k 1 _).mono ?_
  rintro e w8 ⟨rfl, hb⟩
  replace HB := Lib.hid (bel_trans HB.out hb)
  clear hb hy0 hy1 hy2 hy3
  go_wp2_with fail
  go_ret
  exact ⟨rfl, HB.out⟩
end Go.Proofs.Ytobgnbgmpcilgaa

namespace Go.Proofs.Ytobgnbgmpcilgaa
open Go.RowKit

/-- No text of a talk is longer than any machine's. -/
structure BigT (T : TalkV) : Prop where
  txt : ∀ s ∈ T.now.op, s.size ≤ maxLen
  ops : ∀ x ∈ T.past, ∀ s ∈ x.op, s.size ≤ maxLen
end Go.Proofs.Ytobgnbgmpcilgaa

namespace Go.Proofs.Ytobgnbgmpcilgaa
open Go.RowKit

/-! Slices of states. -/
def partX (vs : List (Int × Value)) : Nat → Value := fun j => if j < vs.length * 2 then ((cellsX vs)[j]?).getD (.int .i64 0) else (if j % 2 = 0 then .int .i64 0 else .slice none 0 0)
theorem made_twoX (m : Nat) : ∀ i, i < (madeCells #[Value.int .i64 0, .slice none 0 0] (m * 2)).size → (madeCells #[Value.int .i64 0, .slice none 0 0] (m * 2))[i]? = some (if i % 2 = 0 then .int .i64 0 else .slice none 0 0) := by
  intro i hi
  rw [size_madeCells] at hi
  have h2 : i % 2 = 0 ∨ i % 2 = 1 := by omega
  unfold madeCells
  rw [Array.getElem?_map, Array.getElem?_range, if_pos hi]
  rcases h2 with h | h <;> simp [h]
theorem rowX_made (w : World) (n : Nat) : (w.alloc (.cells (madeCells #[Value.int .i64 0, .slice none 0 0] (n * 2)) 40)).rowIs w.heap.size 40 (n * 2) (partX []) := by
  have := World.rowIs_alloc w (madeCells #[Value.int .i64 0, .slice none 0 0] (n * 2)) 40 (partX []) (fun i hi => by rw [made_twoX _ i hi]; unfold partX; rw [if_neg (show ¬ i < ([] : List (Int × Value)).length * 2 by simp)])
  rwa [size_madeCells] at this
theorem partX_next {w : World} {g n : Nat} {vs : List (Int × Value)} {a : Int} {v : Value} (h : w.rowIs g 40 (n * 2) (partX vs)) :
    ((w.setCell ⟨g, vs.length * 2, none⟩ (.int .i64 a)).setCell ⟨g, vs.length * 2 + 1, none⟩ v).rowIs g 40 (n * 2) (partX (vs ++ [(a, v)])) := by
  have hg : (vs ++ [(a, v)])[vs.length]? = some (a, v) := by rw [List.getElem?_append_right (Nat.le_refl _), Nat.sub_self]; rfl
  obtain ⟨e1, e2⟩ := cellsX_get _ _ _ hg
  refine ((h.set (vs.length * 2) _).set (vs.length * 2 + 1) _).congr fun j hj => ?_
  unfold partX
  rw [List.length_append, List.length_singleton]
  by_cases e : j = vs.length * 2 + 1
  · subst e
    rw [if_pos rfl, if_pos (show vs.length * 2 + 1 < (vs.length + 1) * 2 by omega), e2]; rfl
  · rw [if_neg e]
    by_cases e' : j = vs.length * 2
    · subst e'
      rw [if_pos rfl, if_pos (show vs.length * 2 < (vs.length + 1) * 2 by omega), e1]; rfl
    · rw [if_neg e']
      by_cases h1 : j < vs.length * 2
      · rw [if_pos h1, if_pos (show j < (vs.length + 1) * 2 by omega), cellsX_append, List.getElem?_append_left (by rw [cellsX_len]; exact h1)]
      · rw [if_neg h1, if_neg (show ¬ j < (vs.length + 1) * 2 by omega)]
theorem row_of_partX {w : World} {base g : Nat} {vs : List (Int × Value)} (h : w.rowIs g 40 (vs.length * 2) (partX vs)) (hb : base ≤ g) (hm : vs.length ≤ maxLen) : w.ownsRow base 40 2 (.slice (some ⟨g, 0, none⟩) vs.length vs.length) vs.length (cellsX vs) := by
  obtain ⟨c, hg, hn, hc⟩ := h
  refine ⟨cellsX_len vs, .inr ⟨g, vs.length, c, rfl, hb, hg, Nat.le_refl _, hm, by omega, ?_⟩⟩
  apply List.ext_getElem?
  intro i
  rw [List.getElem?_take]
  by_cases hi : i < vs.length * 2
  · rw [if_pos (by omega), Array.getElem?_toList, hc i hi]
    unfold partX
    rw [if_pos hi, List.getElem?_eq_getElem (by rw [cellsX_len]; exact hi)]; rfl
  · rw [if_neg (by omega), List.getElem?_eq_none (by rw [cellsX_len]; omega)]
theorem run_make_X (n : Nat) (hn : n ≤ 1048576) (W : World) : (Instr.makeSlice 41 (.int .i64 (n : Int)) (.int .i64 (n : Int))).run Try.prog W = .ok (.slice (some ⟨W.heap.size, 0, none⟩) n n) (W.alloc (.cells (madeCells #[Value.int .i64 0, .slice none 0 0] (n * 2)) 40)) := by
  obtain ⟨i0, hi0, hz0, hz1, hz2⟩ := info_parts state_info
  have h := run_make (P := Try.prog) W 41 40 i0 _ Try.underlying41 hi0 hz0 .i64 .i64 (n : Int) (n : Int) (by omega) (Int.le_refl _) (by rw [hz2]; omega) (by omega)
  rw [hz1, Int.toNat_natCast] at h
  exact h
/-- The copies so far: each open slice lies by itself, the later ones later. -/
def SeenTo (w : World) (base : Nat) (vs : List (Int × Value)) (xs : List (St ByteArray)) : Prop :=
  (∀ (i : Nat) (x : St ByteArray), i < vs.length → xs[i]? = some x → ∃ v, vs[i]? = some (x.known, v) ∧ OwnsS w base v x.op) ∧ vs.Pairwise fun u v => ∀ k j, u.2.ownBlock = some k → v.2.ownBlock = some j → k < j
theorem SeenTo.next {w w' : World} {base : Nat} {vs : List (Int × Value)} {xs : List (St ByteArray)} {x : St ByteArray} {v : Value} (h : SeenTo w base vs xs) (hvl : vs.length ≤ xs.length) (hx : xs[vs.length]? = some x) (hk : Keeps base w w') (hv : OwnsS w' base v x.op) (hlt : ∀ k, v.ownBlock = some k → w.heap.size ≤ k) :
    SeenTo w' base (vs ++ [(x.known, v)]) xs := by
  refine ⟨fun i y hi hy => ?_, ?_⟩
  · rw [List.length_append, List.length_singleton] at hi
    by_cases e : i < vs.length
    · obtain ⟨u, h1, h2⟩ := h.1 i y e hy
      exact ⟨u, by rw [List.getElem?_append_left e]; exact h1, h2.keep hk⟩
    · have e2 : i = vs.length := by omega
      subst e2
      rw [hx] at hy
      cases hy
      exact ⟨v, by rw [List.getElem?_append_right (Nat.le_refl _), Nat.sub_self]; rfl, hv⟩
  · rw [List.pairwise_append]
    refine ⟨h.2, List.pairwise_singleton _ _, fun a ha b hb k j h1 h2 => ?_⟩
    rw [List.mem_singleton] at hb
    subst hb
    obtain ⟨i, hi⟩ := List.mem_iff_getElem?.1 ha
    have hil := (List.getElem?_eq_some_iff.1 hi).1
    obtain ⟨u, h3, h4⟩ := h.1 i xs[i] hil (List.getElem?_eq_getElem (by omega))
    rw [hi] at h3
    cases h3
    have := (h4.lt h1).2
    have := hlt j h2
    omega
theorem Keeps.set {lo : Nat} {w : World} {g i : Nat} {v : Value} (h : g < lo) : Keeps lo w (w.setCell ⟨g, i, none⟩ v) :=
  ⟨by rw [show (w.setCell ⟨g, i, none⟩ v).heap.size = w.heap.size by simp [World.setCell]]; exact Nat.le_refl _, fun b hb _ => Below.heap_setCell w ⟨g, i, none⟩ v b (fun e => by simp only at e; omega)⟩
end Go.Proofs.Ytobgnbgmpcilgaa
