/-
  What the proofs of this seat's statements share (TlkL, SamT, MrkS, MrkD, TlkN).
-/
import Derived.Deep.RegionHeld3
import Derived.Test.YtmdogidflaplkaaGreatU19
import Derived.Test.YtmdogidflaplkaaGreatU17
import Derived.Test.YtmdogidflaplkaaGreatU8
import Derived.Test.YtmdogidflaplkaaGreatU18
import Derived.Test.YtmdogidflaplkaaGreatU9
import Derived.Test.YtmdogidflaplkaaGreatU14

namespace Go.Proofs.YtmdogidflaplkaaGreat
open Go.RowKit

theorem lEqStringS_same (A B : Option Addr) (nn mm c d : Nat) (xs : List ByteArray) (w : World) (hn : nn = xs.length) (hm : mm = xs.length) (hl : nn ≤ 1048576) (hA : Strs w A xs) (hB : Strs w B xs) :
    Calls Tryz.prog 90 #[.slice A nn c, .slice B mm d] w fun e w' => e = .returned (.bool true) ∧ ∃ n, w' = w.drewN n := by
  refine (lEqStringS A B nn mm c d xs xs w hn hm hl (by omega) hA hB).mono ?_
  rintro e w' ⟨rfl, h⟩
  exact ⟨by rw [decide_eq_true rfl], h⟩
set_option maxRecDepth 100000 in
theorem lEqState (k : Int) (A B : Option Addr) (n m c d : Nat) (xs : List ByteArray) (w : World) (hn : n = xs.length) (hm : m = xs.length) (hl : n ≤ 1048576) (hA : Strs w A xs) (hB : Strs w B xs) :
    Calls Tryz.prog 61 #[.agg #[.int .i64 k, .slice A n c], .agg #[.int .i64 k, .slice B m d]] w fun e w' => e = .returned (.bool true) ∧ Below w.heap.size w w' := by
  have hb : Below w.heap.size w ((w.alloc (.cells #[.int .i64 k, .slice A n c] 25)).alloc (.cells #[.int .i64 k, .slice B m d] 25)) := ((Below.refl _ _).alloc (Nat.le_refl _) _).alloc (by rw [World.size_alloc]; omega) _
  have HB0 := Lib.hid hb
  have HC := Lib.hid (lEqStringS_same A B n m c d xs _ hn hm hl (hA.below hb) (hB.below hb))
  have hd : (k != k) = false := by simp
  clear hb hn hm hl hA hB
  go_enter Tryz.func61, Tryz.ntmps61
  go_wp2_with fail
  refine HC.out.mono ?_
  rintro e w' ⟨rfl, q, rfl⟩
  go_wp2_with fail
  go_ret
  exact ⟨rfl, bel_drewN HB0.out _⟩
set_option maxRecDepth 100000 in
set_option maxHeartbeats 4000000 in
theorem lEqStateS (A B : Option Addr) (n m c d : Nat) (xs : List (St ByteArray)) (w : World) (hn : n = xs.length) (hm : m = xs.length) (hl : n ≤ 1048576) (hA : StaRow w A xs) (hB : StaRow w B xs) (hs : ∀ x ∈ xs, x.op.length ≤ 1048576) :
    Calls Tryz.prog 62 #[.slice A n c, .slice B m d] w fun e w' => e = .returned (.bool true) ∧ Below w.heap.size w w' := by
  subst hn hm
  have HA := Lib.hid hA
  have HB := Lib.hid hB
  have HS := Lib.hid hs
  have hd : ((xs.length : Int) != (xs.length : Int)) = false := by simp
  clear hA hB hs
  go_enter Tryz.func62, Tryz.ntmps62
  go_wp2_with fail
  clear hd
  go_loopw [5] (fun i wr => ∃ k : Nat, k ≤ xs.length ∧ i = .int .i64 k ∧ Hid (Below w.heap.size w wr)) (fun i _ => xs.length - (Go.RowKit.intOf i).toNat)
  case atStart => exact ⟨0, Nat.zero_le _, rfl, Below.refl _ _⟩
  case round =>
    obtain ⟨k, hk, rfl, HBW⟩ := hrel
    by_cases hlt : k < xs.length
    · obtain ⟨b, off, Ai, ci, x, rfl, he0, he1, _, _, hx, hAi, hb1⟩ := (HA.out.below HBW.out).elem hlt
      obtain ⟨b', off', Aj, cj, y, rfl, he2, he3, _, _, hy, hAj, hb2⟩ := (HB.out.below HBW.out).elem hlt
      have e := hx.out.symm.trans hy.out
      simp only [Option.some.injEq] at e
      subst e
      have hxl := HS.out x (List.mem_of_getElem? hx.out)
      have HC : Hid (∀ W : World, Strs W Ai x.op → Strs W Aj x.op → Calls Tryz.prog 61 #[.agg #[.int .i64 x.known, .slice Ai x.op.length ci], .agg #[.int .i64 x.known, .slice Aj x.op.length cj]] W fun e w' => e = .returned (.bool true) ∧ Below W.heap.size W w') := fun W h1 h2 => lEqState _ _ _ _ _ _ _ x.op W rfl rfl hxl h1 h2
      go_wp2_with fail
      go_region_held3 (fun w' => w'.cell? ⟨b, off + k * 2, none⟩ = some (.int .i64 x.known) ∧ w'.cell? ⟨b, off + k * 2 + 1, none⟩ = some (.slice Ai x.op.length ci) ∧ w'.cell? ⟨b', off' + k * 2, none⟩ = some (.int .i64 x.known) ∧ w'.cell? ⟨b', off' + k * 2 + 1, none⟩ = some (.slice Aj x.op.length cj))
        (first | go_keep | exact ⟨he0, he1, he2, he3⟩ | exact HKEEP.out)
        (first | (go_at_call 61; refine (HC.out _ (hAi.out.drewN 1) (hAj.out.drewN 1)).mono ?_; rintro e w1 ⟨rfl, hb⟩; have HKEEP := Lib.hid (And.intro (((Below.cell hb (p := ⟨b, off + k * 2, none⟩)) hb1.out).trans he0) (And.intro (((Below.cell hb (p := ⟨b, off + k * 2 + 1, none⟩)) hb1.out).trans he1) (And.intro (((Below.cell hb (p := ⟨b', off' + k * 2, none⟩)) hb2.out).trans he2) (((Below.cell hb (p := ⟨b', off' + k * 2 + 1, none⟩)) hb2.out).trans he3)))); have HB2 := Lib.hid (bel_trans (bel_drewN HBW.out 1) hb); clear hb))
      all_goals
        go_wp2_with fail
        go_roundw
        case rel => exact ⟨k + 1, by omega, by go_num, HB2⟩
        case measure => simp [Go.RowKit.intOf]; omega
    · obtain rfl : k = xs.length := by omega
      go_wp2_with fail
      go_ret
      exact ⟨rfl, HBW.out⟩
set_option maxRecDepth 100000 in
set_option maxHeartbeats 4000000 in
theorem lEqTalk (T : TalkV) (A B A2 B2 : Option Addr) (n c m d n2 c2 m2 d2 : Nat) (w : World) (hT : TkAt w T A n c B m d) (hU : TkAt w T A2 n2 c2 B2 m2 d2) (hs : SmallT T) :
    Calls Tryz.prog 25 #[.agg #[.int .i64 T.things, .int .i64 T.now.known, .slice A n c, .slice B m d], .agg #[.int .i64 T.things, .int .i64 T.now.known, .slice A2 n2 c2, .slice B2 m2 d2]] w fun e w' => e = .returned (.bool true) ∧ Below w.heap.size w w' := by
  obtain ⟨t, ht⟩ : ∃ t, T.things = t := ⟨_, rfl⟩
  obtain ⟨k, hk⟩ : ∃ k, T.now.known = k := ⟨_, rfl⟩
  rw [ht, hk]
  clear ht hk
  have HX0 : Hid (Box ((w.alloc (.cells #[.int .i64 t, .int .i64 k, .slice A n c, .slice B m d] 28)).alloc (.cells #[.int .i64 t, .int .i64 k, .slice A2 n2 c2, .slice B2 m2 d2] 28)) w.heap.size 28 [.int .i64 t, .int .i64 k, .slice A n c, .slice B m d]) := (Box.new w _ [.int .i64 t, .int .i64 k, .slice A n c, .slice B m d]).alloc _
  have HX1 : Hid (Box ((w.alloc (.cells #[.int .i64 t, .int .i64 k, .slice A n c, .slice B m d] 28)).alloc (.cells #[.int .i64 t, .int .i64 k, .slice A2 n2 c2, .slice B2 m2 d2] 28)) (w.heap.size + 1) 28 [.int .i64 t, .int .i64 k, .slice A2 n2 c2, .slice B2 m2 d2]) := by
    have := Box.new (w.alloc (.cells #[.int .i64 t, .int .i64 k, .slice A n c, .slice B m d] 28)) 28 [.int .i64 t, .int .i64 k, .slice A2 n2 c2, .slice B2 m2 d2]
    rw [World.size_alloc] at this
    exact this
  have HB0 : Hid (Below w.heap.size w ((w.alloc (.cells #[.int .i64 t, .int .i64 k, .slice A n c, .slice B m d] 28)).alloc (.cells #[.int .i64 t, .int .i64 k, .slice A2 n2 c2, .slice B2 m2 d2] 28))) := ((Below.refl _ _).alloc (Nat.le_refl _) _).alloc (by rw [World.size_alloc]; omega) _
  have HT := Lib.hid hT
  have HU := Lib.hid hU
  have HS := Lib.hid hs
  have hd : (t != t) = false := by simp
  have HC : Hid (∀ W : World, Below w.heap.size w W → Calls Tryz.prog 61 #[.agg #[.int .i64 k, .slice A n c], .agg #[.int .i64 k, .slice A2 n2 c2]] W fun e w' => e = .returned (.bool true) ∧ Below W.heap.size W w') := fun W hb => lEqState _ _ _ _ _ _ _ T.now.op W hT.hn hU.hn (by rw [hT.hn]; exact hs.op) (hT.hA.below hb) (hU.hA.below hb)
  have HC2 : Hid (∀ W : World, Below w.heap.size w W → Calls Tryz.prog 62 #[.slice B m d, .slice B2 m2 d2] W fun e w' => e = .returned (.bool true) ∧ Below W.heap.size W w') := fun W hb => lEqStateS _ _ _ _ _ _ T.past W hT.pn hU.pn (by rw [hT.pn]; exact hs.past) (hT.hB.below hb) (hU.hB.below hb) fun x hx => (hs.ops x hx).1
  clear hT hU hs
  go_enter Tryz.func25, Tryz.ntmps25
  go_wp2_with fail
  refine (HC.out _ HB0.out).mono ?_
  rintro e w1 ⟨rfl, hb⟩
  have HX2 := Lib.hid (HX0.out.below hb)
  have HX3 := Lib.hid (HX1.out.below hb)
  have HB1 := Lib.hid (bel_trans HB0.out hb)
  have hc3 := HX2.out.cell (i := 3) (v := .slice B m d) rfl
  have hd3 := HX3.out.cell (i := 3) (v := .slice B2 m2 d2) rfl
  clear hb hd
  go_wp2_with fail
  refine (HC2.out _ HB1.out).mono ?_
  rintro e w2 ⟨rfl, hb⟩
  have HB2 := Lib.hid (bel_trans HB1.out hb)
  clear hb hc3 hd3
  go_wp2_with fail
  go_ret
  exact ⟨rfl, HB2.out⟩
end Go.Proofs.YtmdogidflaplkaaGreat

namespace Go.Proofs.YtmdogidflaplkaaGreat
open Go.RowKit

set_option maxHeartbeats 400000 in
theorem lSameTexts (A B : Option Addr) (nn mm c d : Nat) (xs ys : List ByteArray) (w : World) (hn : nn = xs.length) (hm : mm = ys.length) (hl : nn ≤ 1048576) (hl2 : mm ≤ 1048576) (hA : Strs w A xs) (hB : Strs w B ys) :
    Calls Tryz.prog 80 #[.slice A nn c, .slice B mm d] w fun e w' => e = .returned (.bool (decide (xs = ys))) ∧ ∃ n, w' = w.drewN n := by
  subst hn hm
  have HA := Lib.hid hA
  have HB := Lib.hid hB
  clear hA hB
  by_cases hlen : xs.length = ys.length
  · have hd : ((xs.length : Int) != (ys.length : Int)) = false := by simp; omega
    have HL := Lib.hid hlen
    have hle1 : xs.length ≤ ys.length := by omega
    have hle2 : ys.length ≤ xs.length := by omega
    clear hlen
    go_enter Tryz.func80, Tryz.ntmps80
    go_wp2
    go_loopw [5] (fun i wr => ∃ k : Nat, k ≤ xs.length ∧ i = .int .i64 k ∧ Hid (xs.take k = ys.take k) ∧ ∃ n, wr = w.drewN n) (fun i _ => xs.length - (Go.RowKit.intOf i).toNat)
    case atStart => exact ⟨0, Nat.zero_le _, rfl, rfl, 0, rfl⟩
    case round =>
      obtain ⟨k, hk, rfl, hsofar, n, rfl⟩ := hrel
      by_cases hlt : k < xs.length
      · have hlt2 : k < ys.length := by omega
        obtain ⟨b, off, x, rfl, hcell, hx, _⟩ := HA.out.elem hlt
        obtain ⟨b', off', y, rfl, hcell', hy, _⟩ := HB.out.elem hlt2
        by_cases hxy : x = y
        · have HXY := Lib.hid hxy
          subst hxy
          go_wp2
          go_quiet (fail)
          go_wp2
          exact ⟨⟨k + 1, by omega, by go_num, by unfold Hid; rw [take_snocS hx, take_snocS hy, hsofar.out], _, rfl⟩, by simp [Go.RowKit.intOf]; omega⟩
        · have hxy' : (x.toList == y.toList) = false := str_ne hxy
          have HXY := Lib.hid hxy
          go_wp2
          go_quiet (fail)
          go_wp2
          go_ret
          exact ⟨ret_bool (by symm; apply decide_eq_false; intro e; subst e; have := hx.out.symm.trans hy.out; cases this; exact HXY.out rfl), _, World.drewN_drewN _ _ _⟩
      · obtain rfl : k = xs.length := by omega
        have HE : Hid (xs = ys) := by
          have := hsofar.out
          rw [List.take_length, HL.out, List.take_length] at this
          exact this
        clear hsofar
        go_wp2
        go_ret
        exact ⟨ret_bool (by rw [decide_eq_true HE.out]), _, rfl⟩
  · have hd : ((xs.length : Int) != (ys.length : Int)) = true := by simp; omega
    have HL := Lib.hid hlen
    clear hlen
    go_enter Tryz.func80, Tryz.ntmps80
    go_wp2
    go_ret
    exact ⟨ret_bool (by symm; apply decide_eq_false; intro e; exact HL.out (by rw [e])), 0, rfl⟩
set_option maxRecDepth 100000 in
theorem lSameState (k1 k2 : Int) (A B : Option Addr) (n m c d : Nat) (xs ys : List ByteArray) (w : World) (hn : n = xs.length) (hm : m = ys.length) (hl : n ≤ 1048576) (hl2 : m ≤ 1048576) (hA : Strs w A xs) (hB : Strs w B ys) :
    Calls Tryz.prog 46 #[.agg #[.int .i64 k1, .slice A n c], .agg #[.int .i64 k2, .slice B m d]] w fun e w' => (∃ b, e = .returned (.bool b) ∧ (b = true ↔ k1 = k2 ∧ xs = ys)) ∧ Below w.heap.size w w' := by
  have hb : Below w.heap.size w ((w.alloc (.cells #[.int .i64 k1, .slice A n c] 25)).alloc (.cells #[.int .i64 k2, .slice B m d] 25)) := ((Below.refl _ _).alloc (Nat.le_refl _) _).alloc (by rw [World.size_alloc]; omega) _
  have HB0 := Lib.hid hb
  have HC := Lib.hid (lSameTexts A B n m c d xs ys _ hn hm hl hl2 (hA.below hb) (hB.below hb))
  clear hb hn hm hl hl2 hA hB
  by_cases hk : k1 = k2
  · have hd : (k1 == k2) = true := by simp [hk]
    have HK := Lib.hid hk
    clear hk
    go_enter Tryz.func46, Tryz.ntmps46
    go_wp2_with fail
    refine HC.out.mono ?_
    rintro e w' ⟨rfl, q, rfl⟩
    obtain ⟨b, hbb⟩ : ∃ b, decide (xs = ys) = b := ⟨_, rfl⟩
    have HBB := Lib.hid hbb
    rw [hbb]
    clear hbb
    go_wp2_with fail
    go_ret
    exact ⟨⟨b, rfl, by rw [← HBB.out, decide_eq_true_eq]; exact ⟨fun h => ⟨HK.out, h⟩, fun h => h.2⟩⟩, bel_drewN HB0.out _⟩
  · have hd : (k1 == k2) = false := by simp [hk]
    have HK := Lib.hid hk
    clear hk
    go_enter Tryz.func46, Tryz.ntmps46
    go_wp2_with fail
    go_ret
    exact ⟨⟨false, rfl, (fun h => nomatch h), (fun h => absurd h.1 HK.out)⟩, HB0.out⟩
def talk2 (w : World) (t k u q : Int) (o p o2 p2 : Value) : World := (w.alloc (.cells #[.int .i64 t, .int .i64 k, o, p] 28)).alloc (.cells #[.int .i64 u, .int .i64 q, o2, p2] 28)
theorem talk2_at (w : World) (t k u q : Int) (o p o2 p2 : Value) : Hid (Box (talk2 w t k u q o p o2 p2) w.heap.size 28 [.int .i64 t, .int .i64 k, o, p]) ∧ Hid (Box (talk2 w t k u q o p o2 p2) (w.heap.size + 1) 28 [.int .i64 u, .int .i64 q, o2, p2]) ∧ Hid (Below w.heap.size w (talk2 w t k u q o p o2 p2)) := by
  have := Box.new (w.alloc (.cells #[.int .i64 t, .int .i64 k, o, p] 28)) 28 [.int .i64 u, .int .i64 q, o2, p2]
  rw [World.size_alloc] at this
  exact ⟨(Box.new w _ [.int .i64 t, .int .i64 k, o, p]).alloc _, this, ((Below.refl _ _).alloc (Nat.le_refl _) _).alloc (by rw [World.size_alloc]; omega) _⟩
set_option maxRecDepth 100000 in
set_option maxHeartbeats 4000000 in
/-- Whether two talks are the same: told where they are, some answer where they are not. -/
theorem lSameTalk (T U : TalkV) (A B A2 B2 : Option Addr) (n c m d n2 c2 m2 d2 : Nat) (w : World) (hT : TkAt w T A n c B m d) (hU : TkAt w U A2 n2 c2 B2 m2 d2) (hs : SmallT T) (hs2 : SmallT U) :
    Calls Tryz.prog 10 #[.agg #[.int .i64 T.things, .int .i64 T.now.known, .slice A n c, .slice B m d], .agg #[.int .i64 U.things, .int .i64 U.now.known, .slice A2 n2 c2, .slice B2 m2 d2]] w fun e w' => (∃ b, e = .returned (.bool b) ∧ (T = U → b = true)) ∧ Below w.heap.size w w' := by
  obtain rfl := hT.pn
  obtain rfl := hU.pn
  obtain ⟨HX, HY, HB⟩ := talk2_at w T.things T.now.known U.things U.now.known (.slice A n c) (.slice B T.past.length d) (.slice A2 n2 c2) (.slice B2 U.past.length d2)
  have HT := Lib.hid (hT.below HB.out)
  have HU := Lib.hid (hU.below HB.out)
  have HS := Lib.hid hs
  have HS2 := Lib.hid hs2
  have HST : Hid (∀ W : World, Below (talk2 w T.things T.now.known U.things U.now.known (.slice A n c) (.slice B T.past.length d) (.slice A2 n2 c2) (.slice B2 U.past.length d2)).heap.size (talk2 w T.things T.now.known U.things U.now.known (.slice A n c) (.slice B T.past.length d) (.slice A2 n2 c2) (.slice B2 U.past.length d2)) W → Calls Tryz.prog 46 #[.agg #[.int .i64 T.now.known, .slice A n c], .agg #[.int .i64 U.now.known, .slice A2 n2 c2]] W fun e w' => (∃ b, e = .returned (.bool b) ∧ (b = true ↔ T.now.known = U.now.known ∧ T.now.op = U.now.op)) ∧ Below W.heap.size W w') := fun W hb =>
    lSameState _ _ _ _ _ _ _ _ _ _ W hT.hn hU.hn (by rw [hT.hn]; exact hs.op) (by rw [hU.hn]; exact hs2.op) ((hT.below HB.out).below hb).hA ((hU.below HB.out).below hb).hA
  have HI : Hid (∀ b : Bool, (b = true ↔ T.now.known = U.now.known ∧ T.now.op = U.now.op) → T = U → b = true) := fun b h e => h.2 ⟨by rw [e], by rw [e]⟩
  have HN1 : Hid (T.things ≠ U.things → T ≠ U) := fun h e => h (by rw [e])
  have HN2 : Hid (T.past.length ≠ U.past.length → T ≠ U) := fun h e => h (by rw [e])
  have HN3 : Hid (∀ (k : Nat) (x y : St ByteArray), T.past[k]? = some x → U.past[k]? = some y → ¬ (x.known = y.known ∧ x.op = y.op) → T ≠ U) := fun k x y h1 h2 h3 e => by
    subst e
    rw [h1] at h2
    cases h2
    exact h3 ⟨rfl, rfl⟩
  obtain ⟨t, ht⟩ : ∃ t, T.things = t := ⟨_, rfl⟩
  obtain ⟨q, hq⟩ : ∃ q, T.now.known = q := ⟨_, rfl⟩
  obtain ⟨u, hu⟩ : ∃ u, U.things = u := ⟨_, rfl⟩
  obtain ⟨r, hr⟩ : ∃ r, U.now.known = r := ⟨_, rfl⟩
  obtain ⟨W0, hW0⟩ : ∃ W, talk2 w t q u r (.slice A n c) (.slice B T.past.length d) (.slice A2 n2 c2) (.slice B2 U.past.length d2) = W := ⟨_, rfl⟩
  rw [ht, hq, hu, hr, hW0] at HX HY HB HT HU HST
  rw [ht, hq, hu, hr]
  rw [ht, hu] at HN1
  rw [hq, hr] at HI
  clear hT hU hs hs2 ht hq hu hr
  have hc0 := HX.out.cell (i := 0) (v := .int .i64 t) rfl
  have hc1 := HX.out.cell (i := 1) (v := .int .i64 q) rfl
  have hc2 := HX.out.cell (i := 2) (v := .slice A n c) rfl
  have hc3 := HX.out.cell (i := 3) (v := .slice B T.past.length d) rfl
  have hd0 := HY.out.cell (i := 0) (v := .int .i64 u) rfl
  have hd1 := HY.out.cell (i := 1) (v := .int .i64 r) rfl
  have hd2 := HY.out.cell (i := 2) (v := .slice A2 n2 c2) rfl
  have hd3 := HY.out.cell (i := 3) (v := .slice B2 U.past.length d2) rfl
  unfold talk2 at hW0
  by_cases htu : t = u
  · have hne : (t != u) = false := by simp [htu]
    clear htu
    by_cases hl : T.past.length = U.past.length
    · have hnl : ((T.past.length : Int) != (U.past.length : Int)) = false := by simp; omega
      have hle1 : T.past.length ≤ U.past.length := by omega
      have hle0 : T.past.length ≤ 1048576 := HS.out.past
      have hle2 : U.past.length ≤ T.past.length := by omega
      clear hl HN1 HN2
      go_enter Tryz.func10, Tryz.ntmps10
      go_upto_region 1 with fail
      try rw [hW0]
      clear hW0
      go_wp2_with fail
      clear hne hnl
      go_loopw [5] (fun i wr => ∃ k : Nat, k ≤ T.past.length ∧ i = .int .i64 k ∧ Hid (Below W0.heap.size W0 wr)) (fun i _ => T.past.length - (Go.RowKit.intOf i).toNat)
      case atStart => exact ⟨0, Nat.zero_le _, rfl, Below.refl _ _⟩
      case round =>
        obtain ⟨k, hk, rfl, HBW⟩ := hrel
        have HXR := Lib.hid (HX.out.below HBW.out)
        have HYR := Lib.hid (HY.out.below HBW.out)
        clear hc0 hc1 hc2 hc3 hd0 hd1 hd2 hd3
        have hc1 := HXR.out.cell (i := 1) (v := .int .i64 q) rfl
        have hc2 := HXR.out.cell (i := 2) (v := .slice A n c) rfl
        have hc3 := HXR.out.cell (i := 3) (v := .slice B T.past.length d) rfl
        have hd1 := HYR.out.cell (i := 1) (v := .int .i64 r) rfl
        have hd2 := HYR.out.cell (i := 2) (v := .slice A2 n2 c2) rfl
        have hd3 := HYR.out.cell (i := 3) (v := .slice B2 U.past.length d2) rfl
        by_cases hlt : k < T.past.length
        · have hlt2 : k < U.past.length := by omega
          obtain ⟨b, off, Ai, ci, x, rfl, he0, he1, _, _, hx, hAi, hb1⟩ := ((HT.out.below HBW.out).hB).elem hlt
          obtain ⟨b', off', Aj, cj, y, rfl, he2, he3, _, _, hy, hAj, hb2⟩ := ((HU.out.below HBW.out).hB).elem hlt2
          have HKA : Hid (wr.cell? ⟨w.heap.size, 3, none⟩ = some (.slice (some ⟨b, off, none⟩) T.past.length d) ∧ wr.cell? ⟨w.heap.size + 1, 3, none⟩ = some (.slice (some ⟨b', off', none⟩) U.past.length d2) ∧ wr.cell? ⟨b, off + k * 2, none⟩ = some (.int .i64 x.known) ∧ wr.cell? ⟨b, off + k * 2 + 1, none⟩ = some (.slice Ai x.op.length ci) ∧ wr.cell? ⟨b', off' + k * 2, none⟩ = some (.int .i64 y.known) ∧ wr.cell? ⟨b', off' + k * 2 + 1, none⟩ = some (.slice Aj y.op.length cj)) := ⟨hc3, hd3, he0, he1, he2, he3⟩
          have HK : Hid (∀ W, Below wr.heap.size wr W → W.cell? ⟨w.heap.size, 3, none⟩ = some (.slice (some ⟨b, off, none⟩) T.past.length d) ∧ W.cell? ⟨w.heap.size + 1, 3, none⟩ = some (.slice (some ⟨b', off', none⟩) U.past.length d2) ∧ W.cell? ⟨b, off + k * 2, none⟩ = some (.int .i64 x.known) ∧ W.cell? ⟨b, off + k * 2 + 1, none⟩ = some (.slice Ai x.op.length ci) ∧ W.cell? ⟨b', off' + k * 2, none⟩ = some (.int .i64 y.known) ∧ W.cell? ⟨b', off' + k * 2 + 1, none⟩ = some (.slice Aj y.op.length cj)) := fun W hb => ⟨(HXR.out.below hb).cell rfl, (HYR.out.below hb).cell rfl, (Below.cell hb (p := ⟨b, off + k * 2, none⟩) hb1.out).trans he0, (Below.cell hb (p := ⟨b, off + k * 2 + 1, none⟩) hb1.out).trans he1, (Below.cell hb (p := ⟨b', off' + k * 2, none⟩) hb2.out).trans he2, (Below.cell hb (p := ⟨b', off' + k * 2 + 1, none⟩) hb2.out).trans he3⟩
          have HC : Hid (∀ W : World, Strs W Ai x.op → Strs W Aj y.op → Calls Tryz.prog 46 #[.agg #[.int .i64 x.known, .slice Ai x.op.length ci], .agg #[.int .i64 y.known, .slice Aj y.op.length cj]] W fun e w' => (∃ b, e = .returned (.bool b) ∧ (b = true ↔ x.known = y.known ∧ x.op = y.op)) ∧ Below W.heap.size W w') := fun W h1 h2 => lSameState _ _ _ _ _ _ _ _ _ _ W rfl rfl (HS.out.ops x (List.mem_of_getElem? hx.out)).1 (HS2.out.ops y (List.mem_of_getElem? hy.out)).1 h1 h2
          clear hc1 hc2 hc3 hd1 hd2 hd3 he0 he1 he2 he3
          obtain ⟨hc3, hd3, he0, he1, he2, he3⟩ := HKA.out
          go_wp2_with fail
          go_region_held3 (fun w' => w'.cell? ⟨w.heap.size, 3, none⟩ = some (.slice (some ⟨b, off, none⟩) T.past.length d) ∧ w'.cell? ⟨w.heap.size + 1, 3, none⟩ = some (.slice (some ⟨b', off', none⟩) U.past.length d2) ∧ w'.cell? ⟨b, off + k * 2, none⟩ = some (.int .i64 x.known) ∧ w'.cell? ⟨b, off + k * 2 + 1, none⟩ = some (.slice Ai x.op.length ci) ∧ w'.cell? ⟨b', off' + k * 2, none⟩ = some (.int .i64 y.known) ∧ w'.cell? ⟨b', off' + k * 2 + 1, none⟩ = some (.slice Aj y.op.length cj))
            (first | go_keep | exact HKA.out | exact HKEEP.out)
            (first | (go_at_call 46; refine (HC.out _ (hAi.out.drewN 1) (hAj.out.drewN 1)).mono ?_; rintro e w1 ⟨⟨z, rfl, hz⟩, hb⟩; have HKEEP := Lib.hid (HK.out _ (bel_trans (bel_drewN (Below.refl _ _) 1) hb)); have HB2 := Lib.hid (bel_trans (bel_drewN HBW.out 1) hb); have HZ := Lib.hid hz; clear hb hz))
          all_goals
            cases z
            · go_wp2_with fail
              go_ret
              exact ⟨⟨false, rfl, fun e => absurd e (HN3.out k x y hx.out hy.out fun h => by have := HZ.out.2 h; cases this)⟩, bel_trans HB.out HB2.out⟩
            · go_wp2_with fail
              go_roundw
              case rel => exact ⟨k + 1, by omega, by go_num, HB2⟩
              case measure => simp [Go.RowKit.intOf]; omega
        · obtain rfl : k = T.past.length := by omega
          go_wp2_with fail
          refine (HST.out _ HBW.out).mono ?_
          rintro e w1 ⟨⟨z, rfl, hz⟩, hb⟩
          have HZ := Lib.hid hz
          have HBE := Lib.hid (bel_trans (bel_trans HB.out HBW.out) hb)
          clear hz hb
          go_wp2_with fail
          go_ret
          exact ⟨⟨z, rfl, fun e => HI.out z HZ.out e⟩, HBE.out⟩
    · have hnl : ((T.past.length : Int) != (U.past.length : Int)) = true := by simp; omega
      have HNL := Lib.hid hl
      clear hl
      go_enter Tryz.func10, Tryz.ntmps10
      go_upto_region 1 with fail
      try rw [hW0]
      clear hW0
      go_wp2_with fail
      go_ret
      exact ⟨⟨false, rfl, fun e => absurd e (HN2.out HNL.out)⟩, HB.out⟩
  · have hne : (t != u) = true := by simp [htu]
    have HTU := Lib.hid htu
    clear htu
    go_enter Tryz.func10, Tryz.ntmps10
    go_upto_region 1 with fail
    try rw [hW0]
    clear hW0
    go_wp2_with fail
    go_ret
    exact ⟨⟨false, rfl, fun e => absurd e (HN1.out HTU.out)⟩, HB.out⟩
end Go.Proofs.YtmdogidflaplkaaGreat

namespace Go.Proofs.YtmdogidflaplkaaGreat
open Go.RowKit

/-- The marks of n texts from k on. -/
def marksS (k n : Nat) : List ByteArray := (List.range n).map fun i : Nat => markB (k + i)
theorem marksS_len (k n : Nat) : (marksS k n).length = n := by unfold marksS; simp
theorem marksS_at {k n i : Nat} {g : ByteArray} (h : Hid ((marksS k n)[i]? = some g)) : g = markB (k + i) := by
  have h := h.out
  unfold marksS at h
  rw [List.getElem?_map] at h
  by_cases hi : i < n
  · rw [List.getElem?_range hi] at h
    simp only [Option.map_some, Option.some.injEq] at h
    exact h.symm
  · rw [List.getElem?_eq_none (by simp; omega)] at h
    cases h
set_option maxHeartbeats 2000000 in
theorem lHeldStringS (A : Option Addr) (n c : Nat) (k0 : Nat) (w : World) (hk : 1 ≤ k0) (hk2 : k0 ≤ 35184372088832) (hn : n ≤ 1048576) (ha : Strs w A (marksS k0 n)) :
    Calls Tryz.prog 92 #[.slice A n c, .int .i64 k0] w fun e w' => e = .returned (.int .i64 ((k0 + n : Nat) : Int)) ∧ Below w.heap.size w w' := by
  have HA := Lib.hid ha
  clear ha
  go_enter Tryz.func92, Tryz.ntmps92
  go_wp2_with fail
  go_loopw [1, 5] (fun q i wr => ∃ k : Nat, k ≤ n ∧ i = .int .i64 k ∧ q = .int .i64 ((k0 + k : Nat) : Int) ∧ Hid (Below w.heap.size w wr)) (fun _ i _ => n - (Go.RowKit.intOf i).toNat)
  case atStart => exact ⟨0, Nat.zero_le _, rfl, by simp, Below.refl _ _⟩
  case round =>
    obtain ⟨k, hk', rfl, rfl, HB⟩ := hrel
    by_cases hlt : k < n
    · obtain ⟨b, off, g, rfl, hc0, hx, hbl⟩ := (HA.out.below HB.out).elem (i := k) (by rw [marksS_len]; exact hlt)
      have HGM := Lib.hid (marksS_at hx)
      clear hx
      have hd2 := str_eq g
      obtain ⟨p, HP⟩ : ∃ p : Nat, Hid (p = k0 + k) := ⟨_, rfl⟩
      have hp1 : 1 ≤ p := by rw [HP.out]; omega
      have hp2 : p ≤ 35184372088832 + 1048576 := by rw [HP.out]; omega
      have hpe : ((k0 + k : Nat) : Int) = (p : Int) := by rw [HP.out]
      rw [hpe]
      have HM : Hid (∀ W : World, Calls Tryz.prog 68 #[.int .i64 (p : Int)] W fun e w' => e = .returned (.string g) ∧ Below W.heap.size W w') := fun W => by
        have := lMarkText p (by omega) (by omega) W
        rw [HP.out, ← HGM.out] at this
        rw [HP.out]; exact this
      clear hpe
      go_wp2_with fail
      go_region_held3 (fun w' => w'.cell? ⟨b, off + k, none⟩ = some (.string g))
        (first | go_keep | exact hc0 | exact HKEEP.out)
        (first | (go_at_call 68; refine (HM.out _).mono ?_; rintro e w1 ⟨rfl, hb⟩; have HKEEP := Lib.hid (((Below.cell hb (p := ⟨b, off + k, none⟩)) hbl.out).trans hc0); have HB2 := Lib.hid (bel_trans (bel_drewN HB.out 1) hb); clear hb))
      all_goals
        go_wp2_with fail
        go_roundw
        case rel => exact ⟨k + 1, by omega, by go_num, by rw [show k0 + (k + 1) = p + 1 by rw [HP.out]; omega]; go_num, HB2⟩
        case measure => simp [Go.RowKit.intOf]; omega
    · obtain rfl : k = n := by omega
      go_wp2_with fail
      go_ret
      exact ⟨rfl, HB.out⟩
set_option maxHeartbeats 4000000 in
theorem lMarkStringS (base : Nat) (A : Option Addr) (n c : Nat) (ds : List ByteArray) (k0 : Nat) (w : World) (hn : n = ds.length) (hl : n ≤ 1048576) (hk : 1 ≤ k0) (hk2 : k0 ≤ 35184372088832) (hO : OwnsS w base (.slice A n c) ds) :
    Calls Tryz.prog 91 #[.slice A n c, .int .i64 k0] w fun e w' => e = .returned (.int .i64 ((k0 + n : Nat) : Int)) ∧ OwnsS w' base (.slice A n c) (marksS k0 n) ∧ w.grownBy w' (Value.slice A n c).ownBlock := by
  subst hn
  have HO := Lib.hid hO
  rcases hO.2 with ⟨hv, hz⟩ | ⟨g, cap, cur, hv, hb, hg, hnc, hcm, hcs, _⟩
  · simp only [Value.slice.injEq] at hv
    obtain ⟨rfl, _, rfl⟩ := hv
    obtain rfl : ds = [] := List.eq_nil_of_length_eq_zero (by omega)
    clear hO hz
    go_enter Tryz.func91, Tryz.ntmps91
    go_wp2_with fail
    refine wp_loop_rounds 1 ?_
    rw [rounds_succ]
    go_wp2_with fail
    go_ret
    exact ⟨by simp, HO.out, World.grownBy.refl w _⟩
  · simp only [Value.slice.injEq] at hv
    obtain ⟨rfl, _, rfl⟩ := hv
    have hgl : g < w.heap.size := (Array.getElem?_eq_some_iff.1 hg).1
    clear hO hg hcs
    go_enter Tryz.func91, Tryz.ntmps91
    go_wp2_with fail
    go_loopw [1, 5] (fun q i wr => ∃ (k : Nat) (es : List ByteArray), k ≤ ds.length ∧ i = .int .i64 k ∧ q = .int .i64 ((k0 + k : Nat) : Int) ∧ Hid (es.length = ds.length) ∧ Hid (∀ (i : Nat) (d : ByteArray), i < k → es[i]? = some d → d = markB (k0 + i)) ∧
      Hid (wr.ownsRow base 9 1 (.slice (some ⟨g, 0, none⟩) ds.length c) ds.length (es.map Value.string)) ∧ Hid (w.grownBy wr (some g))) (fun _ i _ => ds.length - (Go.RowKit.intOf i).toNat)
    case atStart => exact ⟨0, ds, Nat.zero_le _, rfl, by simp, rfl, (fun i y h => by omega), HO.out, World.grownBy.refl w _⟩
    case round =>
      obtain ⟨k, es, hk', rfl, rfl, hlen, hso, HW, HG⟩ := hrel
      by_cases hlt : k < ds.length
      · obtain ⟨d, hd⟩ : ∃ d, es[k]? = some d := ⟨_, List.getElem?_eq_getElem (by rw [hlen.out]; exact hlt)⟩
        obtain ⟨p, HP⟩ : ∃ p : Nat, Hid (k0 + k = p) := ⟨_, rfl⟩
        have hp1 : 1 ≤ p := by rw [← HP.out]; omega
        have hp2 : p ≤ 35184372088832 + 1048576 := by rw [← HP.out]; omega
        rw [HP.out]
        have HM := Lib.hid (fun W => lMarkText p (by omega) (by omega) W)
        have HD := Lib.hid hd
        clear hd
        go_wp2_with fail
        refine (HM.out _).mono ?_
        rintro e w2 ⟨rfl, hb⟩
        have HG2 := Lib.hid (HG.out.trans (grownB hb _))
        have HW3 : Hid (w2.ownsRow base 9 1 (.slice (some ⟨g, 0, none⟩) ds.length c) ds.length (es.map Value.string)) := World.ownsRow.kept HW.out (grownB hb none) (Or.inr (by simp [Value.ownBlock]))
        have hc2 := HW3.out.cellAt k (by omega)
        have hf2 := HW3.out.frozenAt k
        rw [List.getElem?_map, HD.out, Option.map_some] at hc2
        clear hb
        go_wp2_with fail
        go_roundw
        case rel =>
          have hst := (HW3.out.stored k (.string (markB p))).1
          rw [← List.map_set] at hst
          refine ⟨k + 1, es.set k (markB p), by omega, by go_num, by rw [show k0 + (k + 1) = p + 1 by rw [← HP.out]; omega]; go_num, by unfold Hid; rw [List.length_set]; exact hlen.out, ?_, hst, grown_set HG2.out _ _⟩
          intro i y hi hy
          rw [List.getElem?_set] at hy
          by_cases e : k = i
          · subst e
            rw [if_pos rfl, if_pos (by rw [hlen.out]; exact hlt)] at hy
            cases hy
            rw [HP.out]
          · rw [if_neg e] at hy
            exact hso.out i y (by omega) hy
        case measure => simp [Go.RowKit.intOf]; omega
      · obtain rfl : k = ds.length := by omega
        have HE : Hid (es = marksS k0 ds.length) := by
          unfold Hid
          apply List.ext_getElem?
          intro i
          by_cases hi : i < ds.length
          · obtain ⟨d, hd⟩ : ∃ d, es[i]? = some d := ⟨_, List.getElem?_eq_getElem (by rw [hlen.out]; exact hi)⟩
            rw [hd, hso.out i d hi hd]
            unfold marksS
            rw [List.getElem?_map, List.getElem?_range hi]; rfl
          · rw [List.getElem?_eq_none (by rw [hlen.out]; omega), List.getElem?_eq_none (by rw [marksS_len]; omega)]
        rw [HE.out] at HW
        go_wp2_with fail
        go_ret
        refine ⟨rfl, ?_, HG.out⟩
        have := HW.out
        unfold OwnsS
        rw [marksS_len]
        exact this
end Go.Proofs.YtmdogidflaplkaaGreat

namespace Go.Proofs.YtmdogidflaplkaaGreat
open Go.RowKit

set_option maxHeartbeats 4000000 in
theorem lMarkDeedL (base : Nat) (A : Option Addr) (n c : Nat) (ds : List DeedV) (k0 : Nat) (w : World) (hn : n = ds.length) (hl : n ≤ 1048576) (hk : 1 ≤ k0) (hk2 : k0 ≤ 35184372088832) (hO : OwnsD w base (.slice A n c) ds) :
    Calls Tryz.prog 31 #[.slice A n c, .int .i64 k0] w fun e w' => e = .returned (.int .i64 ((k0 + 2 * n : Nat) : Int)) ∧ OwnsD w' base (.slice A n c) (marksD k0 n) ∧ w.grownBy w' (Value.slice A n c).ownBlock := by
  subst hn
  have HO := Lib.hid hO
  rcases hO.2 with ⟨hv, hz⟩ | ⟨g, cap, cur, hv, hb, hg, hnc, hcm, hcs, _⟩
  · simp only [Value.slice.injEq] at hv
    obtain ⟨rfl, _, rfl⟩ := hv
    obtain rfl : ds = [] := List.eq_nil_of_length_eq_zero (by omega)
    clear hO hz
    go_enter Tryz.func31, Tryz.ntmps31
    go_wp2_with fail
    refine wp_loop_rounds 1 ?_
    rw [rounds_succ]
    go_wp2_with fail
    go_ret
    exact ⟨by simp, HO.out, World.grownBy.refl w _⟩
  · simp only [Value.slice.injEq] at hv
    obtain ⟨rfl, _, rfl⟩ := hv
    have hgl : g < w.heap.size := (Array.getElem?_eq_some_iff.1 hg).1
    clear hO hg hcs
    go_enter Tryz.func31, Tryz.ntmps31
    go_wp2_with fail
    go_loopw [1, 5] (fun q i wr => ∃ (k : Nat) (es : List DeedV), k ≤ ds.length ∧ i = .int .i64 k ∧ q = .int .i64 ((k0 + 2 * k : Nat) : Int) ∧ Hid (es.length = ds.length) ∧ Hid (∀ (i : Nat) (d : DeedV), i < k → es[i]? = some d → d = (((k0 + 2 * i : Nat) : Int), markB (k0 + 2 * i + 1))) ∧
      Hid (wr.ownsRow base 30 2 (.slice (some ⟨g, 0, none⟩) ds.length c) ds.length (flatD es)) ∧ Hid (w.grownBy wr (some g))) (fun _ i _ => ds.length - (Go.RowKit.intOf i).toNat)
    case atStart => exact ⟨0, ds, Nat.zero_le _, rfl, by simp, rfl, (fun i y h => by omega), HO.out, World.grownBy.refl w _⟩
    case round =>
      obtain ⟨k, es, hk', rfl, rfl, hlen, hso, HW, HG⟩ := hrel
      by_cases hlt : k < ds.length
      · obtain ⟨d, hd⟩ : ∃ d, es[k]? = some d := ⟨_, List.getElem?_eq_getElem (by rw [hlen.out]; exact hlt)⟩
        have HD := Lib.hid hd
        obtain ⟨e1, e2⟩ := flatD_at hd
        have hc1 := HW.out.cellAt (k * 2) (by omega)
        have hf1 := HW.out.frozenAt (k * 2)
        rw [e1] at hc1
        obtain ⟨p, HP⟩ : ∃ p : Nat, Hid (k0 + 2 * k = p) := ⟨_, rfl⟩
        have hp1 : 1 ≤ p := by rw [← HP.out]; omega
        have hp2 : p ≤ 35184372088832 + 2 * 1048576 := by rw [← HP.out]; omega
        rw [HP.out]
        have HW2 : Hid ((World.setCell wr ⟨g, k * 2, none⟩ (.int .i64 (p : Int))).ownsRow base 30 2 (.slice (some ⟨g, 0, none⟩) ds.length c) ds.length (flatD (es.set k ((p : Int), d.2)))) := by
          have := (HW.out.stored (k * 2) (.int .i64 (p : Int))).1
          rw [flatD_set0 es k _ hd] at this
          exact this
        have HM : Hid (∀ W : World, Calls Tryz.prog 68 #[.int .i64 ((p : Int) + 1)] W fun e w' => e = .returned (.string (markB (p + 1))) ∧ Below W.heap.size W w') := fun W => by
          have := lMarkText (p + 1) (by omega) (by omega) W
          rw [show ((p + 1 : Nat) : Int) = (p : Int) + 1 by omega] at this
          exact this
        clear e1 e2 hd
        go_wp2_with fail
        refine (HM.out _).mono ?_
        rintro e w2 ⟨rfl, hb⟩
        have HG2 := Lib.hid ((grown_set HG.out (k * 2) (.int .i64 (p : Int))).trans (grownB hb _))
        have HW3 : Hid (w2.ownsRow base 30 2 (.slice (some ⟨g, 0, none⟩) ds.length c) ds.length (flatD (es.set k ((p : Int), d.2)))) := World.ownsRow.kept HW2.out (grownB hb none) (Or.inr (by simp [Value.ownBlock]))
        have hget : (es.set k ((p : Int), d.2))[k]? = some ((p : Int), d.2) := by rw [List.getElem?_set_self (by rw [hlen.out]; exact hlt)]
        have hc2 := HW3.out.cellAt (k * 2 + 1) (by omega)
        have hf2 := HW3.out.frozenAt (k * 2 + 1)
        rw [(flatD_at hget).2] at hc2
        have HGET := Lib.hid hget
        clear hget hb hc1 hf1
        go_wp2_with fail
        go_roundw
        case rel =>
          have hst := (HW3.out.stored (k * 2 + 1) (.string (markB (p + 1)))).1
          rw [flatD_set1 _ k _ HGET.out, List.set_set] at hst
          refine ⟨k + 1, es.set k ((p : Int), markB (p + 1)), by omega, by go_num, by rw [show k0 + 2 * (k + 1) = p + 2 by rw [← HP.out]; omega]; go_num, by unfold Hid; rw [List.length_set]; exact hlen.out, ?_, hst, grown_set HG2.out _ _⟩
          intro i y hi hy
          rw [List.getElem?_set] at hy
          by_cases e : k = i
          · subst e
            rw [if_pos rfl, if_pos (by rw [hlen.out]; exact hlt)] at hy
            cases hy
            rw [HP.out]
          · rw [if_neg e] at hy
            exact hso.out i y (by omega) hy
        case measure => simp [Go.RowKit.intOf]; omega
      · obtain rfl : k = ds.length := by omega
        have HE : Hid (es = marksD k0 ds.length) := by
          unfold Hid
          apply List.ext_getElem?
          intro i
          by_cases hi : i < ds.length
          · obtain ⟨d, hd⟩ : ∃ d, es[i]? = some d := ⟨_, List.getElem?_eq_getElem (by rw [hlen.out]; exact hi)⟩
            rw [hd, hso.out i d hi hd]
            unfold marksD
            rw [List.getElem?_map, List.getElem?_range hi]; rfl
          · rw [List.getElem?_eq_none (by rw [hlen.out]; omega), List.getElem?_eq_none (by rw [marksD_len]; omega)]
        rw [HE.out] at HW
        go_wp2_with fail
        go_ret
        refine ⟨rfl, ?_, HG.out⟩
        have := HW.out
        unfold OwnsD
        rw [marksD_len]
        exact this
end Go.Proofs.YtmdogidflaplkaaGreat

namespace Go.Proofs.YtmdogidflaplkaaGreat
open Go.RowKit

/-- The number of things of a new talk, its set. -/
def newN (t : Int) : Int := if 1 ≤ t ∧ t ≤ 3 then t else 0
def newK (t : Int) : Int := if 1 ≤ t ∧ t ≤ 3 then allOf t else 0
theorem talk_box (w : World) (t k : Int) : Hid (Box (w.alloc (.cells #[.int .i64 t, .int .i64 k, .slice none 0 0, .slice none 0 0] 28)) w.heap.size 28 [.int .i64 t, .int .i64 k, .slice none 0 0, .slice none 0 0]) ∧ Hid (Below w.heap.size w (w.alloc (.cells #[.int .i64 t, .int .i64 k, .slice none 0 0, .slice none 0 0] 28))) :=
  ⟨Box.new w _ [.int .i64 t, .int .i64 k, .slice none 0 0, .slice none 0 0], (Below.refl _ _).alloc (Nat.le_refl _) _⟩
set_option maxRecDepth 100000 in
theorem sTalkNew (t : Int) (w : World) : Calls Tryz.prog 69 #[.int .i64 t] w fun e w' => e = .returned (.agg #[.int .i64 (newN t), .int .i64 (newK t), .slice none 0 0, .slice none 0 0]) ∧ Below w.heap.size w w' := by
  by_cases h : 1 ≤ t ∧ t ≤ 3
  · rw [show newN t = t by unfold newN; rw [if_pos h], show newK t = allOf t by unfold newK; rw [if_pos h]]
    have HA := Lib.hid (fun W => sAll t W h.1 h.2)
    have HI := Lib.hid (fun W => sIn_yes t 1 3 W h.1 h.2)
    obtain ⟨q, hq⟩ : ∃ q, allOf t = q := ⟨_, rfl⟩
    rw [hq] at HA ⊢
    obtain ⟨HZ, HB⟩ := talk_box w t q
    clear h hq
    go_enter Tryz.func69, Tryz.ntmps69
    go_wp2_with fail
    refine (HI.out _).mono ?_
    rintro e w' ⟨rfl, rfl⟩
    go_wp2_with fail
    refine (HA.out _).mono ?_
    rintro e w' ⟨rfl, rfl⟩
    go_wp2_with fail
    refine bodyPost_ret_by (results_talk (b := w.heap.size) rfl rfl HZ) rfl ⟨rfl, HB.out⟩
  · rw [show newN t = 0 by unfold newN; rw [if_neg h], show newK t = 0 by unfold newK; rw [if_neg h]]
    have HI := Lib.hid (fun W => sIn_no t 1 3 W (by omega))
    obtain ⟨HZ, HB⟩ := talk_box w 0 0
    clear h
    go_enter Tryz.func69, Tryz.ntmps69
    go_wp2_with fail
    refine (HI.out _).mono ?_
    rintro e w' ⟨rfl, rfl⟩
    go_wp2_with fail
    refine bodyPost_ret_by (results_talk (b := w.heap.size) rfl rfl HZ) rfl ⟨rfl, HB.out⟩

/-! The laws' helpers at talks without questions. -/
end Go.Proofs.YtmdogidflaplkaaGreat
