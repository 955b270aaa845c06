/-
  What the proofs of this seat's statements share (LdcI).
-/
import Derived.RangeFuncBox
import Derived.Shelf.Abstract
import Derived.Test.YtjilcnehndmoaaaU14

namespace Go.Proofs.Ytjilcnehndmoaaa
open Go.RowKit

/-- What a call that changes a set hands back: what is left, and whether it makes sense; memory stays as it is. -/
def ChgPost (o : Option Int) (w : World) (e : Ending) (w' : World) : Prop :=
  (∃ u b, e = .returned (.tuple #[.int .i64 u, .bool b]) ∧ (b = true → o = some u) ∧ (b = false → o = none)) ∧ w' = w
/-- The function value v changes sets as the sentence x does. -/
def LdRuns (t : Int) (x : Ld) (v : Value) (w : World) : Prop :=
  ∃ g cap, v = .func (.func g) #[] cap ∧ Enters Try.prog g ∧ ∀ s, 0 ≤ s → s ≤ allOf t → Calls Try.prog g (#[.int .i64 s] ++ cap) w (ChgPost (chgI t x s) w)

theorem chg_no {o : Option Int} (ho : o = none) {g : Nat} {args : Array Value} {w : World} (h : Calls Try.prog g args w (ChgPost o w)) : Calls Try.prog g args w fun e w' => (∃ u, e = .returned (.tuple #[.int .i64 u, .bool false])) ∧ w' = w := by
  refine h.mono ?_
  rintro e w' ⟨⟨u, b, rfl, h1, h2⟩, rfl⟩
  cases b
  · exact ⟨⟨u, rfl⟩, rfl⟩
  · rw [ho] at h1; cases h1 rfl
theorem chg_yes {o : Option Int} {u : Int} (ho : o = some u) {g : Nat} {args : Array Value} {w : World} (h : Calls Try.prog g args w (ChgPost o w)) : Calls Try.prog g args w fun e w' => e = .returned (.tuple #[.int .i64 u, .bool true]) ∧ w' = w := by
  refine h.mono ?_
  rintro e w' ⟨⟨v, b, rfl, h1, h2⟩, rfl⟩
  cases b
  · rw [ho] at h2; cases h2 rfl
  · rw [ho] at h1; cases h1 rfl; exact ⟨rfl, rfl⟩
theorem ChgPost.none {o : Option Int} (ho : o = .none) {u : Int} {w : World} : ChgPost o w (.returned (.tuple #[.int .i64 u, .bool false])) w := ⟨⟨u, false, rfl, fun h => (by cases h), fun _ => ho⟩, rfl⟩
theorem ChgPost.some {o : Option Int} {u : Int} (ho : o = .some u) {w : World} : ChgPost o w (.returned (.tuple #[.int .i64 u, .bool true])) w := ⟨⟨u, true, rfl, fun _ => ho, fun h => by cases h⟩, rfl⟩

set_option maxRecDepth 100000 in
set_option maxHeartbeats 4000000 in
theorem iChgNot (t : Int) (x : Ld) (b : Nat) (v : Value) (w : World) (hb : Boxed w b 43 v) (hx : LdRuns t x v w) (s : Int) (h0 : 0 ≤ s) (hall : s ≤ allOf t) :
    Calls Try.prog 69 #[.int .i64 s, .pointer (some ⟨b, 0, none⟩)] w (ChgPost (chgI t (.no x) s) w) := by
  have h8 : s < 256 := by have := (allOf_lt t).2; omega
  obtain ⟨g, cap, rfl, hg, hc⟩ := hx
  have hcell := hb.cell
  have hg : ∀ (args : Array Value) (w : World), (callFunc g args).run Try.prog w = .ok (.enter g args) w := hg
  have HC := Lib.hid (hc s h0 hall)
  clear hc hb
  rcases hxs : chgI t x s with _ | u
  · have H : Hid (chgI t (.no x) s = none) := by
      show (chgI t x s).map _ = _
      rw [hxs]; rfl
    replace HC := Lib.hid (chg_no hxs HC.out)
    clear hxs
    go_enter Try.func69, Try.ntmps69
    go_wp2_with (go_at_fn g; refine HC.out.mono ?_; rintro e w' ⟨⟨u, rfl⟩, rfl⟩)
    go_ret2
    exact ChgPost.none H.out
  · have H : Hid (chgI t (.no x) s = some (bits .andNot .i64 s u)) := by
      show (chgI t x s).map _ = _
      rw [(less_chg h0 h8 hxs).1, hxs]; rfl
    replace HC := Lib.hid (chg_yes hxs HC.out)
    clear hxs
    go_enter Try.func69, Try.ntmps69
    go_wp2_with (go_at_fn g; refine HC.out.mono ?_; rintro e w' ⟨rfl, rfl⟩)
    go_ret2
    exact ChgPost.some H.out

set_option maxRecDepth 100000 in
set_option maxHeartbeats 4000000 in
theorem iChgWord (t : Int) (x : Ld) (so : Int) (b : Nat) (w : World) (hb : Boxed w b 3 (.int .i64 so)) (h : ∀ s, 0 ≤ s → s ≤ allOf t → chgI t x s = some (bits .and .i64 s so)) (s : Int) (h0 : 0 ≤ s) (hall : s ≤ allOf t) :
    Calls Try.prog 74 #[.int .i64 s, .pointer (some ⟨b, 0, none⟩)] w (ChgPost (chgI t x s) w) := by
  have hcell := hb.cell
  have HR := Lib.hid (h s h0 hall)
  clear hb h
  go_enter Try.func74, Try.ntmps74
  go_wp2_with fail
  go_ret2
  exact ChgPost.some HR.out

set_option maxRecDepth 100000 in
set_option maxHeartbeats 4000000 in
theorem iChgPre (t : Int) (x y : Ld) (b b2 : Nat) (v v2 : Value) (w : World) (hb : Boxed w b 43 v) (hb2 : Boxed w b2 43 v2) (hx : LdRuns t x v w) (hy : LdRuns t y v2 w) (s : Int) (h0 : 0 ≤ s) (hall : s ≤ allOf t) :
    Calls Try.prog 70 #[.int .i64 s, .pointer (some ⟨b, 0, none⟩), .pointer (some ⟨b2, 0, none⟩)] w (ChgPost (chgI t (.pre x y) s) w) := by
  have h8 : s < 256 := by have := (allOf_lt t).2; omega
  obtain ⟨g, cap, rfl, hg, hc⟩ := hx
  obtain ⟨g2, cap2, rfl, hg2, hc2⟩ := hy
  have hcell := hb.cell
  have hcell2 := hb2.cell
  have hg : ∀ (args : Array Value) (w : World), (callFunc g args).run Try.prog w = .ok (.enter g args) w := hg
  have hg2 : ∀ (args : Array Value) (w : World), (callFunc g2 args).run Try.prog w = .ok (.enter g2 args) w := hg2
  have HC := Lib.hid (hc s h0 hall)
  clear hc hb hb2
  rcases hxs : chgI t x s with _ | u
  · have H : Hid (chgI t (.pre x y) s = none) := by
      show (chgI t x s).bind _ = _
      rw [hxs]; rfl
    replace HC := Lib.hid (chg_no hxs HC.out)
    clear hxs hc2
    go_enter Try.func70, Try.ntmps70
    go_wp2_with (go_at_fn g; refine HC.out.mono ?_; rintro e w' ⟨⟨u, rfl⟩, rfl⟩)
    go_ret2
    exact ChgPost.none H.out
  · replace HC := Lib.hid (chg_yes hxs HC.out)
    by_cases hne : u = s
    · subst hne
      have H : Hid (chgI t (.pre x y) u = chgI t y u) := by
        show (chgI t x u).bind _ = _
        rw [hxs, Option.bind_some, if_pos rfl]
      have HC2 := Lib.hid (hc2 u h0 hall)
      have hbb : (u != u) = false := by simp
      rw [H.out]
      clear hxs hc2
      go_enter Try.func70, Try.ntmps70
      go_wp2_with (first
        | (go_at_fn g; refine HC.out.mono ?_; clear HC; rintro e w' ⟨rfl, rfl⟩)
        | (go_at_fn g2; refine HC2.out.mono ?_; clear HC2; rintro e w' ⟨⟨u2, c2, rfl, h3, h4⟩, rfl⟩))
      go_ret2
      exact ⟨⟨_, _, rfl, h3, h4⟩, rfl⟩
    · have H : Hid (chgI t (.pre x y) s = none) := by
        show (chgI t x s).bind _ = _
        rw [hxs, Option.bind_some, if_neg hne]
      have hbb : (u != s) = true := by simp [hne]
      clear hxs hc2 hne
      go_enter Try.func70, Try.ntmps70
      go_wp2_with (go_at_fn g; refine HC.out.mono ?_; rintro e w' ⟨rfl, rfl⟩)
      go_ret2
      exact ChgPost.none H.out

set_option maxRecDepth 100000 in
set_option maxHeartbeats 4000000 in
theorem iChgAnd (t : Int) (x y : Ld) (b b2 : Nat) (v v2 : Value) (w : World) (hb : Boxed w b 43 v) (hb2 : Boxed w b2 43 v2) (hx : LdRuns t x v w) (hy : LdRuns t y v2 w) (s : Int) (h0 : 0 ≤ s) (hall : s ≤ allOf t) :
    Calls Try.prog 80 #[.int .i64 s, .pointer (some ⟨b, 0, none⟩), .pointer (some ⟨b2, 0, none⟩)] w (ChgPost (chgI t (.and_ x y) s) w) := by
  have h8 : s < 256 := by have := (allOf_lt t).2; omega
  obtain ⟨g, cap, rfl, hg, hc⟩ := hx
  obtain ⟨g2, cap2, rfl, hg2, hc2⟩ := hy
  have hcell := hb.cell
  have hcell2 := hb2.cell
  have hg : ∀ (args : Array Value) (w : World), (callFunc g args).run Try.prog w = .ok (.enter g args) w := hg
  have hg2 : ∀ (args : Array Value) (w : World), (callFunc g2 args).run Try.prog w = .ok (.enter g2 args) w := hg2
  have HC := Lib.hid (hc s h0 hall)
  clear hc hb hb2
  rcases hxs : chgI t x s with _ | u
  · have H : Hid (chgI t (.and_ x y) s = none) := by
      show (chgI t x s).bind _ = _
      rw [hxs]; rfl
    replace HC := Lib.hid (chg_no hxs HC.out)
    clear hxs hc2
    go_enter Try.func80, Try.ntmps80
    go_wp2_with (go_at_fn g; refine HC.out.mono ?_; rintro e w' ⟨⟨u, rfl⟩, rfl⟩)
    go_ret2
    exact ChgPost.none H.out
  · replace HC := Lib.hid (chg_yes hxs HC.out)
    have H : Hid (chgI t (.and_ x y) s = chgI t y u) := by
      show (chgI t x s).bind _ = _
      rw [hxs]; rfl
    have hr := chg_sub h0 h8 hxs
    have HC2 := Lib.hid (hc2 u hr.1 (by omega))
    rw [H.out]
    clear hxs hc2 hr
    go_enter Try.func80, Try.ntmps80
    go_wp2_with (first
      | (go_at_fn g; refine HC.out.mono ?_; clear HC; rintro e w' ⟨rfl, rfl⟩)
      | (go_at_fn g2; refine HC2.out.mono ?_; clear HC2; rintro e w' ⟨⟨u2, c2, rfl, h3, h4⟩, rfl⟩))
    go_ret2
    exact ⟨⟨_, _, rfl, h3, h4⟩, rfl⟩

set_option maxRecDepth 100000 in
set_option maxHeartbeats 4000000 in
theorem iChgOr (t : Int) (x y : Ld) (b b2 : Nat) (v v2 : Value) (w : World) (hb : Boxed w b 43 v) (hb2 : Boxed w b2 43 v2) (hx : LdRuns t x v w) (hy : LdRuns t y v2 w) (s : Int) (h0 : 0 ≤ s) (hall : s ≤ allOf t) :
    Calls Try.prog 81 #[.int .i64 s, .pointer (some ⟨b, 0, none⟩), .pointer (some ⟨b2, 0, none⟩)] w (ChgPost (chgI t (.or_ x y) s) w) := by
  have h8 : s < 256 := by have := (allOf_lt t).2; omega
  obtain ⟨g, cap, rfl, hg, hc⟩ := hx
  obtain ⟨g2, cap2, rfl, hg2, hc2⟩ := hy
  have hcell := hb.cell
  have hcell2 := hb2.cell
  have hg : ∀ (args : Array Value) (w : World), (callFunc g args).run Try.prog w = .ok (.enter g args) w := hg
  have hg2 : ∀ (args : Array Value) (w : World), (callFunc g2 args).run Try.prog w = .ok (.enter g2 args) w := hg2
  have HC := Lib.hid (hc s h0 hall)
  clear hc hb hb2
  rcases hxs : chgI t x s with _ | u
  · have H : Hid (chgI t (.or_ x y) s = none) := by
      show (chgI t x s).bind _ = _
      rw [hxs]; rfl
    replace HC := Lib.hid (chg_no hxs HC.out)
    clear hxs hc2
    go_enter Try.func81, Try.ntmps81
    go_wp2_with (go_at_fn g; refine HC.out.mono ?_; rintro e w' ⟨⟨u, rfl⟩, rfl⟩)
    go_ret2
    exact ChgPost.none H.out
  · replace HC := Lib.hid (chg_yes hxs HC.out)
    have hl := less_chg h0 h8 hxs
    have HC2 : Hid (Calls Try.prog g2 (#[.int .i64 (bits .andNot .i64 s u)] ++ cap2) w (ChgPost (chgI t y (s - u)) w)) := by
      rw [hl.1]
      exact hc2 (s - u) (by omega) (by omega)
    have HY : Hid (∀ v, chgI t y (s - u) = some v → chgI t (.or_ x y) s = some (bits .or .i64 u v)) := fun v hv => by
      rw [or_chg h0 h8 hxs hv]
      show (chgI t x s).bind _ = _
      rw [hxs]
      show (chgI t y (s - u)).map _ = _
      rw [hv]; rfl
    have HN : Hid (chgI t y (s - u) = none → chgI t (.or_ x y) s = none) := fun hv => by
      show (chgI t x s).bind _ = _
      rw [hxs]
      show (chgI t y (s - u)).map _ = _
      rw [hv]; rfl
    clear hxs hc2 hl
    go_enter Try.func81, Try.ntmps81
    go_wp2_with (first
      | (go_at_fn g; refine HC.out.mono ?_; clear HC; rintro e w' ⟨rfl, rfl⟩)
      | (go_at_fn g2; refine HC2.out.mono ?_; clear HC2; rintro e w' ⟨⟨u2, c2, rfl, h3, h4⟩, rfl⟩))
    go_ret2
    exact ⟨⟨_, _, rfl, fun h => HY.out u2 (h3 h), fun h => HN.out (h4 h)⟩, rfl⟩

set_option maxRecDepth 100000 in
set_option maxHeartbeats 4000000 in
theorem iChgIf (t : Int) (x y : Ld) (b b2 : Nat) (v v2 : Value) (w : World) (hb : Boxed w b 43 v) (hb2 : Boxed w b2 43 v2) (hx : LdRuns t x v w) (hy : LdRuns t y v2 w) (s : Int) (h0 : 0 ≤ s) (hall : s ≤ allOf t) :
    Calls Try.prog 82 #[.int .i64 s, .pointer (some ⟨b, 0, none⟩), .pointer (some ⟨b2, 0, none⟩)] w (ChgPost (chgI t (.if_ x y) s) w) := by
  have h8 : s < 256 := by have := (allOf_lt t).2; omega
  obtain ⟨g, cap, rfl, hg, hc⟩ := hx
  obtain ⟨g2, cap2, rfl, hg2, hc2⟩ := hy
  have hcell := hb.cell
  have hcell2 := hb2.cell
  have hg : ∀ (args : Array Value) (w : World), (callFunc g args).run Try.prog w = .ok (.enter g args) w := hg
  have hg2 : ∀ (args : Array Value) (w : World), (callFunc g2 args).run Try.prog w = .ok (.enter g2 args) w := hg2
  have HC := Lib.hid (hc s h0 hall)
  clear hc hb hb2
  rcases hxs : chgI t x s with _ | u
  · have H : Hid (chgI t (.if_ x y) s = none) := by
      show (chgI t x s).bind _ = _
      rw [hxs]; rfl
    replace HC := Lib.hid (chg_no hxs HC.out)
    clear hxs hc2
    go_enter Try.func82, Try.ntmps82
    go_wp2_with (go_at_fn g; refine HC.out.mono ?_; rintro e w' ⟨⟨u, rfl⟩, rfl⟩)
    go_ret2
    exact ChgPost.none H.out
  · replace HC := Lib.hid (chg_yes hxs HC.out)
    have hl := less_chg h0 h8 hxs
    have HC2 := Lib.hid (hc2 u hl.2.1 (by omega))
    have HY : Hid (∀ v, chgI t y u = some v → chgI t (.if_ x y) s = some (bits .or .i64 (bits .andNot .i64 s u) v)) := fun v hv => by
      rw [hl.1, if_chg h0 h8 hxs hv]
      show (chgI t x s).bind _ = _
      rw [hxs]
      show (chgI t y u).map _ = _
      rw [hv]; rfl
    have HN : Hid (chgI t y u = none → chgI t (.if_ x y) s = none) := fun hv => by
      show (chgI t x s).bind _ = _
      rw [hxs]
      show (chgI t y u).map _ = _
      rw [hv]; rfl
    clear hxs hc2 hl
    go_enter Try.func82, Try.ntmps82
    go_wp2_with (first
      | (go_at_fn g; refine HC.out.mono ?_; clear HC; rintro e w' ⟨rfl, rfl⟩)
      | (go_at_fn g2; refine HC2.out.mono ?_; clear HC2; rintro e w' ⟨⟨u2, c2, rfl, h3, h4⟩, rfl⟩))
    go_ret2
    exact ⟨⟨_, _, rfl, fun h => HY.out u2 (h3 h), fun h => HN.out (h4 h)⟩, rfl⟩
end Go.Proofs.Ytjilcnehndmoaaa
