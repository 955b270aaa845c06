/-
  What the proofs of this seat's statements share (Sign, Held).
-/
import Derived.Deep.RegionHeld3
import Derived.OrdersIn
import Derived.RangeFuncCalls
import Derived.TacticsIn
import Derived.Test.YtannpnhboeopdaaDoorU10

namespace Go.Proofs.YtannpnhboeopdaaDoor
open Go.RowKit

def signS : Sen → Nat
  | .one => 49
  | .zero => 48
  | .thing i => 97 + i
  | .no _ => 33
  | .ask _ => 63
  | .and_ _ _ => 38
  | .or_ _ _ => 124
  | .if_ _ _ => 62
theorem worlds_n {t : Int} (h1 : 1 ≤ t) (h3 : t ≤ 3) : worldsOf t = (nWorlds t : Int) ∧ nWorlds t ≤ 8 := by
  have : t = 1 ∨ t = 2 ∨ t = 3 := by omega
  rcases this with rfl | rfl | rfl <;> exact ⟨rfl, by decide⟩
theorem word_one {t : Int} (h1 : 1 ≤ t) (h3 : t ≤ 3) : (wordTo 49 (nWorlds t) : Int) = allOf t := by
  have : t = 1 ∨ t = 2 ∨ t = 3 := by omega
  rcases this with rfl | rfl | rfl <;> rfl
theorem word_zero {t : Int} (h1 : 1 ≤ t) (h3 : t ≤ 3) : (wordTo 48 (nWorlds t) : Int) = 0 := by
  have : t = 1 ∨ t = 2 ∨ t = 3 := by omega
  rcases this with rfl | rfl | rfl <;> rfl
theorem word_thing {t : Int} {i : Nat} (h1 : 1 ≤ t) (h3 : t ≤ 3) (hi : (i : Int) < t) : (wordTo (97 + i) (nWorlds t) : Int) = letterSet t i := by
  have : t = 1 ∨ t = 2 ∨ t = 3 := by omega
  rcases this with rfl | rfl | rfl
  · obtain rfl : i = 0 := by omega
    rfl
  · have : i = 0 ∨ i = 1 := by omega
    rcases this with rfl | rfl <;> rfl
  · have : i = 0 ∨ i = 1 ∨ i = 2 := by omega
    rcases this with rfl | rfl | rfl <;> rfl
theorem word_range (c : Nat) {t : Int} (h1 : 1 ≤ t) (h3 : t ≤ 3) (hc : isWord c) : wordTo c (nWorlds t) < 256 := by
  have : t = 1 ∨ t = 2 ∨ t = 3 := by omega
  rcases this with rfl | rfl | rfl <;> rcases hc with rfl | rfl | rfl | rfl | rfl <;> decide
theorem deny_worlds {t s : Int} (h1 : 1 ≤ t) (h3 : t ≤ 3) (hs0 : 0 ≤ s) (hs : s ≤ allOf t) (f : Int → Bool) : ((List.range (nWorlds t)).all fun w => !hasW s w || !f (worldS w)) = denyB s f := by
  unfold denyB
  rw [Bool.eq_iff_iff, List.all_eq_true, List.all_eq_true]
  have hn := (worlds_n h1 h3).2
  constructor
  · intro h w hw
    rcases Nat.lt_or_ge w (nWorlds t) with h2 | h2
    · exact h w (List.mem_range.2 h2)
    · cases h4 : hasW s w
      · rfl
      · have := has_lt h1 h3 hs0 hs h4; omega
  · intro h w hw
    exact h w (List.mem_range.2 (by have := List.mem_range.1 hw; omega))
theorem holds_no {t s : Int} (h1 : 1 ≤ t) (h3 : t ≤ 3) (hs0 : 0 ≤ s) (hs : s ≤ allOf t) (x : Sen) : holdsS t (.no x) s = denyB s (holdsS t x) := deny_worlds h1 h3 hs0 hs _
theorem holds_ask {t s : Int} (h1 : 1 ≤ t) (h3 : t ≤ 3) (hs0 : 0 ≤ s) (hs : s ≤ allOf t) (x : Sen) : holdsS t (.ask x) s = (holdsS t x s || denyB s (holdsS t x)) := by
  rw [← deny_worlds h1 h3 hs0 hs]; rfl
theorem holds_if (t : Int) (x y : Sen) (s : Int) : holdsS t (.if_ x y) s = ifB s (holdsS t x) (holdsS t y) := rfl

def TellsV (w : World) (v : Value) (s : Int) (f : Int → Bool) : Prop := ∃ b o n c, v = .slice (some ⟨b, o, none⟩) n c ∧ Told w b o n s f
def KidsTold (w : World) (t : Int) (x : Sen) (s : Int) (v1 v2 : Value) : Prop :=
  match x with
  | .no a => TellsV w v1 s (holdsS t a)
  | .ask a => TellsV w v1 s (holdsS t a)
  | .and_ a b => TellsV w v1 s (holdsS t a) ∧ TellsV w v2 s (holdsS t b)
  | .or_ a b => TellsV w v1 s (holdsS t a) ∧ TellsV w v2 s (holdsS t b)
  | .if_ a b => TellsV w v1 s (holdsS t a) ∧ TellsV w v2 s (holdsS t b)
  | _ => True
theorem TellsV.below {w w' : World} {v : Value} {s : Int} {f : Int → Bool} (h : TellsV w v s f) (hb : Below w.heap.size w w') : TellsV w' v s f := by
  obtain ⟨b, o, n, c, rfl, h⟩ := h; exact ⟨b, o, n, c, rfl, h.below hb⟩
theorem TellsV.sub {w : World} {v : Value} {s s2 : Int} {f : Int → Bool} (h : TellsV w v s f) (hs0 : 0 ≤ s2) (hs : withinB s2 s = true) : TellsV w v s2 f := by
  obtain ⟨b, o, n, c, rfl, h⟩ := h; exact ⟨b, o, n, c, rfl, h.sub hs0 hs⟩
theorem KidsTold.below {w w' : World} {t : Int} {x : Sen} {s : Int} {v1 v2 : Value} (h : KidsTold w t x s v1 v2) (hb : Below w.heap.size w w') : KidsTold w' t x s v1 v2 := by
  cases x with
  | one => trivial
  | zero => trivial
  | thing i => trivial
  | no a => exact TellsV.below h hb
  | ask a => exact TellsV.below h hb
  | and_ a b => exact ⟨TellsV.below h.1 hb, TellsV.below h.2 hb⟩
  | or_ a b => exact ⟨TellsV.below h.1 hb, TellsV.below h.2 hb⟩
  | if_ a b => exact ⟨TellsV.below h.1 hb, TellsV.below h.2 hb⟩
theorem KidsTold.sub {w : World} {t : Int} {x : Sen} {s s2 : Int} {v1 v2 : Value} (h : KidsTold w t x s v1 v2) (hs0 : 0 ≤ s2) (hs : withinB s2 s = true) : KidsTold w t x s2 v1 v2 := by
  cases x with
  | one => trivial
  | zero => trivial
  | thing i => trivial
  | no a => exact TellsV.sub h hs0 hs
  | ask a => exact TellsV.sub h hs0 hs
  | and_ a b => exact ⟨TellsV.sub h.1 hs0 hs, TellsV.sub h.2 hs0 hs⟩
  | or_ a b => exact ⟨TellsV.sub h.1 hs0 hs, TellsV.sub h.2 hs0 hs⟩
  | if_ a b => exact ⟨TellsV.sub h.1 hs0 hs, TellsV.sub h.2 hs0 hs⟩
theorem iDenies_is {s : Int} {f : Int → Bool} {v : Bool} (h : Hid (denyB s f = v)) {b o n c : Nat} {w : World} (hs0 : 0 ≤ s) (hs : s < 256) (hT : Told w b o n s f) :
    Calls Tryd.prog 73 #[.int .i64 s, .slice (some ⟨b, o, none⟩) n c] w fun e w' => e = .returned (.bool v) ∧ w = w' :=
  (iDenies s b o n c f w hs0 hs hT).mono fun _ _ ⟨he, hw⟩ => ⟨he.trans (ret_bool h.out), hw⟩

set_option maxRecDepth 100000 in
set_option maxHeartbeats 4000000 in
theorem iBySign_word (t s : Int) (c : Nat) (hc : isWord c) (v1 v2 : Value) (w : World) (h1 : 1 ≤ t) (h3 : t ≤ 3) (hs0 : 0 ≤ s) (hs : s ≤ allOf t) :
    Calls Tryd.prog 63 #[.int .i64 t, .int .i64 s, .int .u8 c, v1, v2] w fun e w' => e = .returned (.bool (withinB s (wordTo c (nWorlds t)))) ∧ w = w' := by
  obtain ⟨hn, hn8⟩ := worlds_n h1 h3
  have hr := word_range c h1 h3 hc
  have hal := (allOf_lt t).2
  have HN := Lib.hid hn
  have HC := Lib.hid hc
  obtain ⟨g, HG⟩ : ∃ g : Nat, Hid (wordTo c (nWorlds t) = g) := ⟨_, rfl⟩
  have hg : g < 256 := by rw [← HG.out]; exact hr
  rw [HG.out]
  clear hn hr
  rcases hc with rfl | rfl | rfl | rfl | rfl
  all_goals
    go_enter Tryd.func63, Tryd.ntmps63
    go_wp2_with (first | (go_at_call 56; refine (iWorldsOfWord _ _ HN.out hn8 _ _ HC.out).mono ?_; rintro e w' ⟨rfl, rfl⟩; rw [HG.out]) | (go_at_call 43; refine (iWithin _ _ hs0 (by omega) (by omega) (by omega) _).mono ?_; rintro e w' ⟨rfl, rfl⟩))
    go_ret
    exact ⟨rfl, rfl⟩

set_option maxRecDepth 100000 in
set_option maxHeartbeats 4000000 in
theorem iBySign (t s : Int) (x : Sen) (v1 v2 : Value) (w : World) (hx : senOk t x = true) (h1 : 1 ≤ t) (h3 : t ≤ 3) (hs0 : 0 ≤ s) (hs : s ≤ allOf t) (hk : KidsTold w t x s v1 v2) :
    Calls Tryd.prog 63 #[.int .i64 t, .int .i64 s, .int .u8 (signS x), v1, v2] w fun e w' => e = .returned (.bool (holdsS t x s)) ∧ Below w.heap.size w w' := by
  have hal := (allOf_lt t).2
  have hsr : withinB s s = true := within_refl s hs0
  cases x with
  | one =>
    refine (iBySign_word t s 49 (.inr (.inl rfl)) v1 v2 w h1 h3 hs0 hs).mono ?_
    rintro e w' ⟨rfl, rfl⟩
    exact ⟨ret_bool (by rw [word_one h1 h3, (within_all h1 h3 hs0).2 hs]; rfl), Below.refl _ _⟩
  | zero =>
    refine (iBySign_word t s 48 (.inl rfl) v1 v2 w h1 h3 hs0 hs).mono ?_
    rintro e w' ⟨rfl, rfl⟩
    refine ⟨ret_bool ?_, Below.refl _ _⟩
    rw [word_zero h1 h3]
    show _ = decide (s = 0)
    rw [Bool.eq_iff_iff, decide_eq_true_eq, within_nothing hs0]
  | thing i =>
    have hi : (i : Int) < t := of_decide_eq_true hx
    refine (iBySign_word t s (97 + i) (by unfold isWord; omega) v1 v2 w h1 h3 hs0 hs).mono ?_
    rintro e w' ⟨rfl, rfl⟩
    exact ⟨ret_bool (by rw [word_thing h1 h3 hi]; rfl), Below.refl _ _⟩
  | no a =>
    obtain ⟨b, o, n, c, rfl, hT⟩ := hk
    have HT := Lib.hid hT
    have HF := Lib.hid (holds_no h1 h3 hs0 hs a)
    clear hT hsr hx
    show Calls Tryd.prog 63 #[.int .i64 t, .int .i64 s, .int .u8 33, _, v2] w _
    go_enter Tryd.func63, Tryd.ntmps63
    go_wp2_with (go_at_call 73; refine (iDenies s _ _ _ _ _ _ hs0 (by omega) HT.out).mono ?_; rintro e w' ⟨rfl, rfl⟩)
    go_ret
    exact ⟨ret_bool HF.out.symm, Below.refl _ _⟩
  | ask a =>
    obtain ⟨b, o, n, c, rfl, hT⟩ := hk
    have HT := Lib.hid hT
    obtain ⟨hi, hcell⟩ := hT.2 s hs0 hsr
    have HF := Lib.hid (holds_ask h1 h3 hs0 hs a)
    obtain ⟨fs, HFS⟩ : ∃ x, Hid (holdsS t a s = x) := ⟨_, rfl⟩
    obtain ⟨ds, HDS⟩ : ∃ x, Hid (denyB s (holdsS t a) = x) := ⟨_, rfl⟩
    rw [HFS.out] at hcell
    clear hT hsr hx
    show Calls Tryd.prog 63 #[.int .i64 t, .int .i64 s, .int .u8 63, _, v2] w _
    cases fs
    all_goals
      go_enter Tryd.func63, Tryd.ntmps63
      go_wp2_with (go_at_call 73; refine (iDenies_is HDS hs0 (by omega) HT.out).mono ?_; rintro e w' ⟨rfl, rfl⟩)
      go_ret
      exact ⟨ret_bool (by rw [HF.out, HFS.out, HDS.out]; rfl), Below.refl _ _⟩
  | and_ a c =>
    obtain ⟨⟨b, o, n, c1, rfl, hT⟩, b2, o2, n2, c2, rfl, hT2⟩ := hk
    obtain ⟨hi, hcell⟩ := hT.2 s hs0 hsr
    obtain ⟨hi2, hcell2⟩ := hT2.2 s hs0 hsr
    have HF : Hid (holdsS t (.and_ a c) s = (holdsS t a s && holdsS t c s)) := rfl
    obtain ⟨fs, HFS⟩ : ∃ x, Hid (holdsS t a s = x) := ⟨_, rfl⟩
    obtain ⟨ds, HDS⟩ : ∃ x, Hid (holdsS t c s = x) := ⟨_, rfl⟩
    rw [HFS.out] at hcell
    rw [HDS.out] at hcell2
    clear hT hT2 hsr hx
    show Calls Tryd.prog 63 #[.int .i64 t, .int .i64 s, .int .u8 38, _, _] w _
    cases fs
    all_goals
      go_enter Tryd.func63, Tryd.ntmps63
      go_wp2_with fail
      go_ret
      exact ⟨ret_bool (by rw [HF.out, HFS.out, HDS.out]; rfl), Below.refl _ _⟩
  | or_ a c =>
    obtain ⟨⟨b, o, n, c1, rfl, hT⟩, b2, o2, n2, c2, rfl, hT2⟩ := hk
    obtain ⟨hi, hcell⟩ := hT.2 s hs0 hsr
    obtain ⟨hi2, hcell2⟩ := hT2.2 s hs0 hsr
    have HF : Hid (holdsS t (.or_ a c) s = (holdsS t a s || holdsS t c s)) := rfl
    obtain ⟨fs, HFS⟩ : ∃ x, Hid (holdsS t a s = x) := ⟨_, rfl⟩
    obtain ⟨ds, HDS⟩ : ∃ x, Hid (holdsS t c s = x) := ⟨_, rfl⟩
    rw [HFS.out] at hcell
    rw [HDS.out] at hcell2
    clear hT hT2 hsr hx
    show Calls Tryd.prog 63 #[.int .i64 t, .int .i64 s, .int .u8 124, _, _] w _
    cases fs
    all_goals
      go_enter Tryd.func63, Tryd.ntmps63
      go_wp2_with fail
      go_ret
      exact ⟨ret_bool (by rw [HF.out, HFS.out, HDS.out]; rfl), Below.refl _ _⟩
  | if_ a c =>
    obtain ⟨⟨b, o, n, c1, rfl, hT⟩, b2, o2, n2, c2, rfl, hT2⟩ := hk
    have HT := Lib.hid hT
    have HT2 := Lib.hid hT2
    have HF := Lib.hid (holds_if t a c s)
    clear hT hT2 hsr hx
    show Calls Tryd.prog 63 #[.int .i64 t, .int .i64 s, .int .u8 62, _, _] w _
    go_enter Tryd.func63, Tryd.ntmps63
    go_wp2_with fail
    refine (iCarriesOver s _ _ _ _ _ _ _ _ _ _ _ hs0 (by omega) HT.out HT2.out).mono ?_
    rintro e w' ⟨rfl, hb⟩
    have HB := Lib.hid hb
    clear hb
    go_wp2_with fail
    go_ret
    exact ⟨ret_bool HF.out.symm, HB.out⟩
end Go.Proofs.YtannpnhboeopdaaDoor

namespace Go.Proofs.YtannpnhboeopdaaDoor
open Go.RowKit

theorem oper_round {l n : Nat} {P : Program} {o : Oper} {a : Act} {w : World} {K : Act → World → Prop} {Q : Exit → Act → World → Prop} (hd : ∀ c, o.op ≠ .defer c) (h : o.wp P a w K Q) : o.wpIn (Fence.wide.inRound l) n P a w K Q := by
  refine ⟨fun _ _ => trivial, ?_⟩
  rw [Oper.semAt_eq _ _ _ hd]
  unfold Oper.wp at h
  generalize (execOp a.eval o).run P w = r at h ⊢
  cases r with
  | ok x w' =>
    cases x with
    | value v => exact h
    | skip => exact h
    | defer d => exact h
    | enter f args =>
      refine ⟨fun e => (by cases e), ?_⟩
      refine (callsIn_wide (n := n - 1)).2 ?_
      refine Calls.mono h fun e w'' he => ?_
      cases e <;> exact he
    | row r args =>
      refine ⟨fun e => (by cases e), fun c cs _ => ?_⟩
      obtain ⟨v, w'', hr, hs⟩ := h c cs
      exact ⟨v, w'', hr, stepsIn_wide.2 hs⟩
    | _ => exact h.elim
  | halt x w' => cases x <;> exact h
def noDefer (o : Oper) : Bool := match o.op with | .defer _ => false | _ => true
theorem noDefer_ne {o : Oper} (h : noDefer o = true) : ∀ c, o.op ≠ .defer c := fun c e => by unfold noDefer at h; rw [e] at h; cases h
theorem anyIn_round {l n : Nat} {P : Program} {md : Region.Mode} {ops : Array Oper} {Q : Exit → Act → World → Prop} (hd : ops.all noDefer = true) (hQ : ¬ LetsOut Q) :
    ∀ (fuel : Nat) (listed : Array Bool) (a : Act) (w : World), wpAny P md ops Q fuel listed a w → wpAnyIn (Fence.wide.inRound l) n P md ops Q fuel listed a w
  | 0, _, _, _, h => h
  | fuel + 1, listed, a, w, h => by
    refine ⟨h.1, fun i hi => ?_⟩
    have h2 := h.2 i hi
    unfold wpOp at h2
    unfold wpOpIn
    cases ho : ops[i]? with
    | none => rw [ho] at h2; exact anyIn_round hd hQ fuel _ _ _ h2
    | some o =>
      rw [ho] at h2
      simp only at h2 ⊢
      have hdo : noDefer o = true := by
        obtain ⟨hlt, e⟩ := Array.getElem?_eq_some_iff.1 ho
        rw [Array.all_eq_true] at hd
        have := hd i hlt
        rwa [e] at this
      split
      · rename_i hw
        rw [if_pos hw] at h2
        rcases h2 with h2 | h2
        · exact oper_round (noDefer_ne hdo) (Oper.wp_mono (fun a w => anyIn_round hd hQ fuel _ a w) h2)
        · exact absurd h2.2 hQ
      · rename_i hw
        rw [if_neg hw] at h2
        exact ⟨fun _ _ => trivial, anyIn_round hd hQ fuel _ _ _ h2⟩
/-- The beginning, in a round. -/
theorem round_held {l n : Nat} {P : Program} {ops : Array Oper} {Q : Exit → Act → World → Prop} {S : World → Prop} {id : Nat} {a : Act} {w : World} (hm : P.follows .mixedOrders = true) (hd : ops.all noDefer = true) (hQ : ¬ LetsOut Q) (hS : S w.drew)
    (h : S w.drew → wpAnyH P .any ops Q S ops.size (Array.replicate ops.size false) a w.drew) : (Code.region id ops true).wpIn (Fence.wide.inRound l) n P Q a w :=
  wpIn_region_any hm (anyIn_round hd hQ _ _ _ _ (wpAny_of_held _ _ _ _ (h hS)))
end Go.Proofs.YtannpnhboeopdaaDoor
