/-
  What the proofs of this seat's statements share (Deny, Sign, Held, Supg, Supi, Byt, Rdr, Rdp, Rdq, Rds, Iss, Imp).
-/
import Derived.Deep.RegionHeld3
import Derived.OrdersIn
import Derived.RangeFuncCalls
import Derived.TacticsIn
import Derived.Sort.CutIn
import Derived.Outline
import Derived.Defers
import Derived.Recover
import Derived.Laws.Pointers
import Derived.Lib.IndexAny
import Derived.Test.YtobgnbgmpcilgaaU9
import Derived.Test.YtobgnbgmpcilgaaU1
import Derived.Test.YtobgnbgmpcilgaaU8
import Derived.Test.YtobgnbgmpcilgaaU5
import Derived.Test.YtobgnbgmpcilgaaU7

namespace Go.Proofs.Ytobgnbgmpcilgaa
open Go.RowKit

def denyB (s : Int) (f : Int → Bool) : Bool := (List.range 8).all fun w => !hasW s w || !f (worldS w)
def NoneTo (s : Int) (f : Int → Bool) (k : Nat) : Prop := ∀ j, j < k → hasW s j = true → f (worldS j) = false
theorem noneTo_next {s : Int} {f : Int → Bool} {k : Nat} (h : NoneTo s f k) (hk : hasW s k = true → f (worldS k) = false) : NoneTo s f (k + 1) := fun j hj => by
  by_cases e : j = k
  · subst e; exact hk
  · exact h j (by omega)
theorem has_pow {s : Int} {k : Nat} (h : hasW s k = true) : worldS k ≤ s := by
  have := Nat.ge_two_pow_of_testBit (x := s.toNat) (i := k) h
  have h2 := Nat.two_pow_pos k
  unfold worldS
  omega
theorem deny_end {s : Int} {f : Int → Bool} {k : Nat} (h : NoneTo s f k) (hk : s < worldS k) : denyB s f = true := by
  unfold denyB
  rw [List.all_eq_true]
  intro w _
  cases hw : hasW s w
  · rfl
  · have h1 := has_pow hw
    have : w < k := by
      rcases Nat.lt_or_ge w k with h2 | h2
      · exact h2
      · have : 2 ^ k ≤ 2 ^ w := Nat.pow_le_pow_right (by omega) h2
        unfold worldS at h1 hk
        omega
    rw [h w this hw]; rfl
theorem deny_hit {s : Int} {f : Int → Bool} {k : Nat} (hk : k < 8) (h1 : hasW s k = true) (h2 : f (worldS k) = true) : denyB s f = false := by
  unfold denyB
  rw [List.all_eq_false]
  exact ⟨k, List.mem_range.2 hk, by rw [h1, h2]; decide⟩
theorem world_is {s : Int} {k : Nat} {p : Int} {v : Bool} (hp : worldS k = p) (h : hasW s k = v) : Hid (withinB p s = v) := by
  unfold Hid
  subst hp
  cases v
  · cases h2 : withinB (worldS k) s
    · rfl
    · rw [(world_within k).1 h2] at h; cases h
  · exact (world_within k).2 h

end Go.Proofs.Ytobgnbgmpcilgaa

namespace Go.Proofs.Ytobgnbgmpcilgaa
open Go.RowKit

def signS : Sen → Nat
  | .one => 49
  | .zero => 48
  | .thing i => 97 + i
  | .no _ => 33
  | .ask _ => 63
  | .and_ _ _ => 38
  | .or_ _ _ => 124
  | .if_ _ _ => 62
theorem worlds_n {t : Int} (h1 : 1 ≤ t) (h3 : t ≤ 3) : worldsOf t = (nWorlds t : Int) ∧ nWorlds t ≤ 8 := by
  have : t = 1 ∨ t = 2 ∨ t = 3 := by omega
  rcases this with rfl | rfl | rfl <;> exact ⟨rfl, by decide⟩
theorem word_one {t : Int} (h1 : 1 ≤ t) (h3 : t ≤ 3) : (wordTo 49 (nWorlds t) : Int) = allOf t := by
  have : t = 1 ∨ t = 2 ∨ t = 3 := by omega
  rcases this with rfl | rfl | rfl <;> rfl
theorem word_zero {t : Int} (h1 : 1 ≤ t) (h3 : t ≤ 3) : (wordTo 48 (nWorlds t) : Int) = 0 := by
  have : t = 1 ∨ t = 2 ∨ t = 3 := by omega
  rcases this with rfl | rfl | rfl <;> rfl
theorem word_thing {t : Int} {i : Nat} (h1 : 1 ≤ t) (h3 : t ≤ 3) (hi : (i : Int) < t) : (wordTo (97 + i) (nWorlds t) : Int) = letterSet t i := by
  have : t = 1 ∨ t = 2 ∨ t = 3 := by omega
  rcases this with rfl | rfl | rfl
  · obtain rfl : i = 0 := by omega
    rfl
  · have : i = 0 ∨ i = 1 := by omega
    rcases this with rfl | rfl <;> rfl
  · have : i = 0 ∨ i = 1 ∨ i = 2 := by omega
    rcases this with rfl | rfl | rfl <;> rfl
theorem word_range (c : Nat) {t : Int} (h1 : 1 ≤ t) (h3 : t ≤ 3) (hc : isWord c) : wordTo c (nWorlds t) < 256 := by
  have : t = 1 ∨ t = 2 ∨ t = 3 := by omega
  rcases this with rfl | rfl | rfl <;> rcases hc with rfl | rfl | rfl | rfl | rfl <;> decide
theorem deny_worlds {t s : Int} (h1 : 1 ≤ t) (h3 : t ≤ 3) (hs0 : 0 ≤ s) (hs : s ≤ allOf t) (f : Int → Bool) : ((List.range (nWorlds t)).all fun w => !hasW s w || !f (worldS w)) = denyB s f := by
  unfold denyB
  rw [Bool.eq_iff_iff, List.all_eq_true, List.all_eq_true]
  have hn := (worlds_n h1 h3).2
  constructor
  · intro h w hw
    rcases Nat.lt_or_ge w (nWorlds t) with h2 | h2
    · exact h w (List.mem_range.2 h2)
    · cases h4 : hasW s w
      · rfl
      · have := has_lt h1 h3 hs0 hs h4; omega
  · intro h w hw
    exact h w (List.mem_range.2 (by have := List.mem_range.1 hw; omega))
theorem holds_no {t s : Int} (h1 : 1 ≤ t) (h3 : t ≤ 3) (hs0 : 0 ≤ s) (hs : s ≤ allOf t) (x : Sen) : holdsS t (.no x) s = denyB s (holdsS t x) := deny_worlds h1 h3 hs0 hs _
theorem holds_ask {t s : Int} (h1 : 1 ≤ t) (h3 : t ≤ 3) (hs0 : 0 ≤ s) (hs : s ≤ allOf t) (x : Sen) : holdsS t (.ask x) s = (holdsS t x s || denyB s (holdsS t x)) := by
  rw [← deny_worlds h1 h3 hs0 hs]; rfl
theorem holds_if (t : Int) (x y : Sen) (s : Int) : holdsS t (.if_ x y) s = ifB s (holdsS t x) (holdsS t y) := rfl

def TellsV (w : World) (v : Value) (s : Int) (f : Int → Bool) : Prop := ∃ b o n c, v = .slice (some ⟨b, o, none⟩) n c ∧ Told w b o n s f
def KidsTold (w : World) (t : Int) (x : Sen) (s : Int) (v1 v2 : Value) : Prop :=
  match x with
  | .no a => TellsV w v1 s (holdsS t a)
  | .ask a => TellsV w v1 s (holdsS t a)
  | .and_ a b => TellsV w v1 s (holdsS t a) ∧ TellsV w v2 s (holdsS t b)
  | .or_ a b => TellsV w v1 s (holdsS t a) ∧ TellsV w v2 s (holdsS t b)
  | .if_ a b => TellsV w v1 s (holdsS t a) ∧ TellsV w v2 s (holdsS t b)
  | _ => True
theorem TellsV.below {w w' : World} {v : Value} {s : Int} {f : Int → Bool} (h : TellsV w v s f) (hb : Below w.heap.size w w') : TellsV w' v s f := by
  obtain ⟨b, o, n, c, rfl, h⟩ := h; exact ⟨b, o, n, c, rfl, h.below hb⟩
theorem TellsV.sub {w : World} {v : Value} {s s2 : Int} {f : Int → Bool} (h : TellsV w v s f) (hs0 : 0 ≤ s2) (hs : withinB s2 s = true) : TellsV w v s2 f := by
  obtain ⟨b, o, n, c, rfl, h⟩ := h; exact ⟨b, o, n, c, rfl, h.sub hs0 hs⟩
theorem KidsTold.below {w w' : World} {t : Int} {x : Sen} {s : Int} {v1 v2 : Value} (h : KidsTold w t x s v1 v2) (hb : Below w.heap.size w w') : KidsTold w' t x s v1 v2 := by
  cases x with
  | one => trivial
  | zero => trivial
  | thing i => trivial
  | no a => exact TellsV.below h hb
  | ask a => exact TellsV.below h hb
  | and_ a b => exact ⟨TellsV.below h.1 hb, TellsV.below h.2 hb⟩
  | or_ a b => exact ⟨TellsV.below h.1 hb, TellsV.below h.2 hb⟩
  | if_ a b => exact ⟨TellsV.below h.1 hb, TellsV.below h.2 hb⟩
theorem KidsTold.sub {w : World} {t : Int} {x : Sen} {s s2 : Int} {v1 v2 : Value} (h : KidsTold w t x s v1 v2) (hs0 : 0 ≤ s2) (hs : withinB s2 s = true) : KidsTold w t x s2 v1 v2 := by
  cases x with
  | one => trivial
  | zero => trivial
  | thing i => trivial
  | no a => exact TellsV.sub h hs0 hs
  | ask a => exact TellsV.sub h hs0 hs
  | and_ a b => exact ⟨TellsV.sub h.1 hs0 hs, TellsV.sub h.2 hs0 hs⟩
  | or_ a b => exact ⟨TellsV.sub h.1 hs0 hs, TellsV.sub h.2 hs0 hs⟩
  | if_ a b => exact ⟨TellsV.sub h.1 hs0 hs, TellsV.sub h.2 hs0 hs⟩
end Go.Proofs.Ytobgnbgmpcilgaa

namespace Go.Proofs.Ytobgnbgmpcilgaa
open Go.RowKit

theorem oper_round {l n : Nat} {P : Program} {o : Oper} {a : Act} {w : World} {K : Act → World → Prop} {Q : Exit → Act → World → Prop} (hd : ∀ c, o.op ≠ .defer c) (h : o.wp P a w K Q) : o.wpIn (Fence.wide.inRound l) n P a w K Q := by
  refine ⟨fun _ _ => trivial, ?_⟩
  rw [Oper.semAt_eq _ _ _ hd]
  unfold Oper.wp at h
  generalize (execOp a.eval o).run P w = r at h ⊢
  cases r with
  | ok x w' =>
    cases x with
    | value v => exact h
    | skip => exact h
    | defer d => exact h
    | enter f args =>
      refine ⟨fun e => (by cases e), ?_⟩
      refine (callsIn_wide (n := n - 1)).2 ?_
      refine Calls.mono h fun e w'' he => ?_
      cases e <;> exact he
    | row r args =>
      refine ⟨fun e => (by cases e), fun c cs _ => ?_⟩
      obtain ⟨v, w'', hr, hs⟩ := h c cs
      exact ⟨v, w'', hr, stepsIn_wide.2 hs⟩
    | _ => exact h.elim
  | halt x w' => cases x <;> exact h
def noDefer (o : Oper) : Bool := match o.op with | .defer _ => false | _ => true
theorem noDefer_ne {o : Oper} (h : noDefer o = true) : ∀ c, o.op ≠ .defer c := fun c e => by unfold noDefer at h; rw [e] at h; cases h
theorem anyIn_round {l n : Nat} {P : Program} {md : Region.Mode} {ops : Array Oper} {Q : Exit → Act → World → Prop} (hd : ops.all noDefer = true) (hQ : ¬ LetsOut Q) :
    ∀ (fuel : Nat) (listed : Array Bool) (a : Act) (w : World), wpAny P md ops Q fuel listed a w → wpAnyIn (Fence.wide.inRound l) n P md ops Q fuel listed a w
  | 0, _, _, _, h => h
  | fuel + 1, listed, a, w, h => by
    refine ⟨h.1, fun i hi => ?_⟩
    have h2 := h.2 i hi
    unfold wpOp at h2
    unfold wpOpIn
    cases ho : ops[i]? with
    | none => rw [ho] at h2; exact anyIn_round hd hQ fuel _ _ _ h2
    | some o =>
      rw [ho] at h2
      simp only at h2 ⊢
      have hdo : noDefer o = true := by
        obtain ⟨hlt, e⟩ := Array.getElem?_eq_some_iff.1 ho
        rw [Array.all_eq_true] at hd
        have := hd i hlt
        rwa [e] at this
      split
      · rename_i hw
        rw [if_pos hw] at h2
        rcases h2 with h2 | h2
        · exact oper_round (noDefer_ne hdo) (Oper.wp_mono (fun a w => anyIn_round hd hQ fuel _ a w) h2)
        · exact absurd h2.2 hQ
      · rename_i hw
        rw [if_neg hw] at h2
        exact ⟨fun _ _ => trivial, anyIn_round hd hQ fuel _ _ _ h2⟩
/-- The beginning, in a round. -/
theorem round_held {l n : Nat} {P : Program} {ops : Array Oper} {Q : Exit → Act → World → Prop} {S : World → Prop} {id : Nat} {a : Act} {w : World} (hm : P.follows .mixedOrders = true) (hd : ops.all noDefer = true) (hQ : ¬ LetsOut Q) (hS : S w.drew)
    (h : S w.drew → wpAnyH P .any ops Q S ops.size (Array.replicate ops.size false) a w.drew) : (Code.region id ops true).wpIn (Fence.wide.inRound l) n P Q a w :=
  wpIn_region_any hm (anyIn_round hd hQ _ _ _ _ (wpAny_of_held _ _ _ _ (h hS)))
end Go.Proofs.Ytobgnbgmpcilgaa

namespace Go.Proofs.Ytobgnbgmpcilgaa
open Go.RowKit Go.Shelf
attribute [local go_sem] Oper.semAt_some

def KidPost (P : World → Value → Prop) (w : World) (e : Ending) (w' : World) : Prop := ∃ A n c, e = .returned (.slice A n c) ∧ P w' (.slice A n c) ∧ Below w.heap.size w w'
def Kid1 (t s : Int) (x : Sen) (w : World) (v : Value) : Prop :=
  match x with
  | .no a => TellsV w v s (holdsS t a)
  | .ask a => TellsV w v s (holdsS t a)
  | .and_ a _ => TellsV w v s (holdsS t a)
  | .or_ a _ => TellsV w v s (holdsS t a)
  | .if_ a _ => TellsV w v s (holdsS t a)
  | _ => True
def Kid2 (t s : Int) (x : Sen) (w : World) (v : Value) : Prop :=
  match x with
  | .and_ _ a => TellsV w v s (holdsS t a)
  | .or_ _ a => TellsV w v s (holdsS t a)
  | .if_ _ a => TellsV w v s (holdsS t a)
  | _ => True
theorem Kid1.below {t s : Int} {x : Sen} {w w' : World} {v : Value} (h : Kid1 t s x w v) (hb : Below w.heap.size w w') : Kid1 t s x w' v := by
  cases x <;> first | exact TellsV.below h hb | trivial
theorem Kid2.below {t s : Int} {x : Sen} {w w' : World} {v : Value} (h : Kid2 t s x w v) (hb : Below w.heap.size w w') : Kid2 t s x w' v := by
  cases x <;> first | exact TellsV.below h hb | trivial
theorem zero_within (s : Int) : withinB 0 s = true := by unfold withinB andI; simp
theorem Told.set {w : World} {b o n : Nat} {s : Int} {f : Int → Bool} {B k c : Nat} {t : TypeId} {A : Option Addr} (h : Told w b o n s f) (hx : Boxed w B t (.slice A k c)) (v : Value) : Told (w.setCell ⟨B, 0, none⟩ v) b o n s f := by
  have hne : B ≠ b := by
    rintro rfl
    have h0 := (h.2 0 (Int.le_refl _) (zero_within s)).2
    simp [World.cell?, show w.heap[B]? = _ from hx] at h0
    cases o with
    | zero => simp at h0
    | succ o => simp at h0
  exact ⟨by have := (KeepsWalks.setCell w ⟨B, 0, none⟩ v).size; have := h.1; omega, fun u h0 hu => ⟨(h.2 u h0 hu).1, (World.cell?_setCell_far _ _ _ _ hne).trans (h.2 u h0 hu).2⟩⟩
theorem TellsV.set {w : World} {v : Value} {s : Int} {f : Int → Bool} {B k c : Nat} {t : TypeId} {A : Option Addr} (h : TellsV w v s f) (hx : Boxed w B t (.slice A k c)) (u : Value) : TellsV (w.setCell ⟨B, 0, none⟩ u) v s f := by
  obtain ⟨b, o, n, c', rfl, h⟩ := h; exact ⟨b, o, n, c', rfl, h.set hx u⟩
theorem Kid1.set {t s : Int} {x : Sen} {w : World} {v : Value} {B k c : Nat} {ty : TypeId} {A : Option Addr} (h : Kid1 t s x w v) (hx : Boxed w B ty (.slice A k c)) (u : Value) : Kid1 t s x (w.setCell ⟨B, 0, none⟩ u) v := by
  cases x <;> first | exact TellsV.set h hx u | trivial
theorem Kid2.set {t s : Int} {x : Sen} {w : World} {v : Value} {B k c : Nat} {ty : TypeId} {A : Option Addr} (h : Kid2 t s x w v) (hx : Boxed w B ty (.slice A k c)) (u : Value) : Kid2 t s x (w.setCell ⟨B, 0, none⟩ u) v := by
  cases x <;> first | exact TellsV.set h hx u | trivial
theorem cut_size {W w2 : World} (h : Below W.drew.heap.size W.drew w2) : W.heap.size ≤ w2.heap.size := h.size
theorem cut_new {W w2 : World} (h : Below W.drew.heap.size W.drew w2) (o : Obj) : Below W.heap.size W (w2.alloc o) :=
  ((below_drewN (Below.refl W.heap.size W) 1).trans h).alloc (cut_size h) o
theorem cut_set {W w2 : World} {o : Obj} (h : Below (W.alloc o).drew.heap.size (W.alloc o).drew w2) (v : Value) : Below W.heap.size W (w2.setCell ⟨W.heap.size, 0, none⟩ v) := by
  have h1 : Below W.heap.size (W.alloc o).drew w2 := h.mono (by show W.heap.size ≤ (W.alloc o).heap.size; simp)
  exact ((below_drewN ((Below.refl W.heap.size W).alloc (Nat.le_refl _) o) 1).trans h1).setCell (p := ⟨W.heap.size, 0, none⟩) (Nat.le_refl _) v
def toldF {s : Int} (f : Int → Bool) (pre : List (Sub s)) : Nat → Value := fun i => .bool (decide ((i : Int) ∈ pre.map (·.1)) && f i)
theorem toldF_next {s : Int} {f : Int → Bool} (pre : List (Sub s)) (y : Sub s) (i : Nat) : (if i = y.1.toNat then Value.bool (f y.1) else toldF f pre i) = toldF f (pre ++ [y]) i := by
  have h0 := y.2.1
  unfold toldF
  by_cases e : i = y.1.toNat
  · rw [if_pos e]
    have e2 : (i : Int) = y.1 := by omega
    rw [e2, decide_eq_true (by simp)]; rfl
  · rw [if_neg e]
    congr 2
    rw [decide_eq_decide]
    have e2 : ¬ (i : Int) = y.1 := by omega
    simp [e2]
theorem row_keep {W W' : World} {row : Option Nat} {b n : Nat} {t : TypeId} {f : Nat → Value} (h : W.rowIs b t n f) (hg : W.grownBy W' row) (hr : ∀ r, row = some r → ∃ o : Obj, W.heap[r]? = some o ∧ o.isCells = false) : W'.rowIs b t n f := by
  refine h.of_block (hg.block b h.lt fun e => ?_)
  obtain ⟨o, ho, hc⟩ := hr b e.symm
  obtain ⟨C, hC, _⟩ := h
  rw [hC] at ho; cases ho; cases hc
structure SigHeld (N b B7 B8 T m : Nat) (t : Int) (sg : Nat) (v1 v2 : Value) (w : World) : Prop where
  c9 : w.cell? ⟨T + 1, 0, none⟩ = some (.slice (some ⟨T, 0, none⟩) (m + 1) (m + 1))
  ct : w.cell? ⟨N, 0, none⟩ = some (.int .i64 t)
  cb : w.cell? ⟨N + 1, 0, none⟩ = some (.pointer (some ⟨b, 0, none⟩))
  cs : w.cell? ⟨b, 0, none⟩ = some (.int .u8 sg)
  c7 : w.cell? ⟨B7, 0, none⟩ = some v1
  c8 : w.cell? ⟨B8, 0, none⟩ = some v2
theorem SigHeld.keep {N b B7 B8 T m : Nat} {t : Int} {sg : Nat} {v1 v2 : Value} {w w' : World} (h : SigHeld N b B7 B8 T m t sg v1 v2 w) (hk : ∀ a : Addr, a.block ≠ T → (w.cell? a).isSome = true → w'.cell? a = w.cell? a) (_h1 : N < T) (h2 : N + 1 < T) (h3 : b < T) (h4 : B7 < T) (h5 : B8 < T) : SigHeld N b B7 B8 T m t sg v1 v2 w' :=
  ⟨(hk _ (by show T + 1 ≠ T; omega) (by rw [h.c9]; rfl)).trans h.c9, (hk _ (by show N ≠ T; omega) (by rw [h.ct]; rfl)).trans h.ct, (hk _ (by show N + 1 ≠ T; omega) (by rw [h.cb]; rfl)).trans h.cb,
    (hk _ (by show b ≠ T; omega) (by rw [h.cs]; rfl)).trans h.cs, (hk _ (by show B7 ≠ T; omega) (by rw [h.c7]; rfl)).trans h.c7, (hk _ (by show B8 ≠ T; omega) (by rw [h.c8]; rfl)).trans h.c8⟩
theorem SigHeld.below {N b B7 B8 T m : Nat} {t : Int} {sg : Nat} {v1 v2 : Value} {w w' : World} (h : SigHeld N b B7 B8 T m t sg v1 v2 w) (hb : Below w.heap.size w w') : SigHeld N b B7 B8 T m t sg v1 v2 w' :=
  ⟨(hb.cell (World.block_lt_of_cell? w _ h.c9)).trans h.c9, (hb.cell (World.block_lt_of_cell? w _ h.ct)).trans h.ct, (hb.cell (World.block_lt_of_cell? w _ h.cb)).trans h.cb,
    (hb.cell (World.block_lt_of_cell? w _ h.cs)).trans h.cs, (hb.cell (World.block_lt_of_cell? w _ h.c7)).trans h.c7, (hb.cell (World.block_lt_of_cell? w _ h.c8)).trans h.c8⟩
theorem keeps_below {w w' : World} (h : Below w.heap.size w w') : KeepsOthers w w' := ⟨h.size, fun k _ hk _ => (h.block k (Array.getElem?_eq_some_iff.1 hk).1).trans hk⟩
theorem kids_told {t s : Int} {x : Sen} {w : World} {v1 v2 : Value} (h1 : Kid1 t s x w v1) (h2 : Kid2 t s x w v2) : KidsTold w t x s v1 v2 := by
  cases x <;> first | exact ⟨h1, h2⟩ | exact h1 | trivial
theorem bool_info : (Try.prog.info? 4).map (fun i => (i.zero, i.size, i.bytes)) = some (some (.bool false), 1, 1) := by kernel_rfl
end Go.Proofs.Ytobgnbgmpcilgaa

namespace Go.Proofs.Ytobgnbgmpcilgaa
open Go.RowKit

end Go.Proofs.Ytobgnbgmpcilgaa

namespace Go.Proofs.Ytobgnbgmpcilgaa
open Go.RowKit

def bytesN (s : ByteArray) : List Nat := s.data.toList.map UInt8.toNat
theorem bytesN_len (s : ByteArray) : (bytesN s).length = s.size := by unfold bytesN; rw [List.length_map]; rfl
theorem bytesN_drop {s : ByteArray} {at_ : Nat} (h : at_ < s.size) : (bytesN s).drop at_ = s[at_].toNat :: (bytesN s).drop (at_ + 1) := by
  rw [List.drop_eq_getElem_cons (by rw [bytesN_len]; exact h)]
  congr 1
  unfold bytesN
  rw [List.getElem_map]; rfl
end Go.Proofs.Ytobgnbgmpcilgaa

namespace Go.Proofs.Ytobgnbgmpcilgaa
open Go.RowKit

def Panics (R : Nat) (w : World) (e : Ending) (w' : World) : Prop := ∃ v : Value, e = .panicked [{ v := .iface 3 v, recovered := false }] ∧ w.grownBy w' (some R)
theorem hasByte {l : List UInt8} {c : UInt8} : decide (Lib.indexByte l c < 0) = !l.contains c := by
  have := Lib.indexByte_ge l c
  by_cases h : Lib.indexByte l c < 0
  · have e : Lib.indexByte l c = -1 := by omega
    have hn := Lib.indexByte_none e
    rw [decide_eq_true h]
    cases hc : l.contains c
    · rfl
    · obtain ⟨i, hi⟩ := List.mem_iff_getElem?.1 (List.contains_iff_mem.1 hc)
      exact absurd hi (hn i)
  · obtain ⟨o, ho⟩ : ∃ o : Nat, Lib.indexByte l c = o := ⟨(Lib.indexByte l c).toNat, by omega⟩
    have := (Lib.indexByte_some ho).1
    rw [decide_eq_false h, List.contains_iff_mem.2 (List.mem_of_getElem? this)]; rfl

theorem byte_u8 (b : UInt8) : (b.toNat : Int).toNat.toUInt8 = b := by simp

/-! Reading. -/
def startB (t : Int) (c : Nat) : Bool := decide (c = 49) || decide (c = 48) || decide (97 ≤ c ∧ (c : Int) - 97 < t) || decide (c = 33) || decide (c = 63) || decide (c = 40)
def StOk (t : Int) (st : ByteArray) : Prop := ∀ c : UInt8, st.data.toList.contains c = startB t c.toNat
def pairS (t : Int) (k : Nat) (l : List Nat) : Option (Sen × List Nat) :=
  match readS t k l with
  | some (x, m :: l2) =>
    match readS t k l2 with
    | some (y, e :: r) => if e = 41 then (twoS m x y).map fun z => (z, r) else none
    | _ => none
  | _ => none
theorem read_no (t : Int) (k c : Nat) (l : List Nat) (h : startB t c = false) : readS t (k + 1) (c :: l) = none := by
  unfold startB at h
  simp only [Bool.or_eq_false_iff, decide_eq_false_iff_not] at h
  unfold readS
  rw [if_neg h.1.1.1.1.1, if_neg h.1.1.1.1.2, if_neg h.1.1.1.2, if_neg h.1.1.2, if_neg h.1.2, if_neg h.2]
theorem read_empty (t : Int) : ∀ n, readS t n [] = none
  | 0 => rfl
  | _ + 1 => rfl
theorem drop_lt {s : ByteArray} {at_ m : Nat} {l : List Nat} (h : (bytesN s).drop at_ = m :: l) : ∃ h : at_ < s.size, s[at_].toNat = m ∧ (bytesN s).drop (at_ + 1) = l := by
  have hlt : at_ < s.size := by
    rcases Nat.lt_or_ge at_ s.size with h2 | h2
    · exact h2
    · rw [List.drop_eq_nil_of_le (by rw [bytesN_len]; exact h2)] at h; cases h
  rw [bytesN_drop hlt] at h
  injection h with h1 h2
  exact ⟨hlt, h1, h2⟩
theorem drop_end {s : ByteArray} {at_ : Nat} (h : (bytesN s).drop at_ = []) (hle : at_ ≤ s.size) : at_ = s.size := by
  have := List.drop_eq_nil_iff.1 h
  rw [bytesN_len] at this
  omega
theorem panics_trans {R : Nat} {w w1 : World} (hg : w.grownBy w1 (some R)) {e : Ending} {w' : World} (h : Panics R w1 e w') : Panics R w e w' := by
  obtain ⟨v, he, hg2⟩ := h
  exact ⟨v, he, hg.trans hg2⟩
def signs2 : ByteArray := ⟨#[38, 124, 62]⟩
theorem signs2_has (c : UInt8) : (ByteArray.mk #[38, 124, 62]).data.toList.contains c = (decide (c.toNat = 38) || decide (c.toNat = 124) || decide (c.toNat = 62)) := by
  rw [Bool.eq_iff_iff]
  simp only [List.contains_iff_mem, Bool.or_eq_true, decide_eq_true_eq]
  have e : ∀ k : UInt8, c = k ↔ c.toNat = k.toNat := fun k => UInt8.toNat_inj.symm
  simp [e]
  omega
theorem close_has (c : UInt8) : (ByteArray.mk #[41]).data.toList.contains c = decide (c.toNat = 41) := by
  rw [Bool.eq_iff_iff]
  simp only [List.contains_iff_mem, decide_eq_true_eq]
  have e : ∀ k : UInt8, c = k ↔ c.toNat = k.toNat := fun k => UInt8.toNat_inj.symm
  simp [e]
theorem twoS_none {m : Nat} {x y : Sen} (h : (decide (m = 38) || decide (m = 124) || decide (m = 62)) = false) : twoS m x y = none := by
  simp only [Bool.or_eq_false_iff, decide_eq_false_iff_not] at h
  unfold twoS
  rw [if_neg h.1.1, if_neg h.1.2, if_neg h.2]
end Go.Proofs.Ytobgnbgmpcilgaa

namespace Go.Proofs.Ytobgnbgmpcilgaa
open Go.RowKit

theorem less_left {t : Int} {k at_ a2 : Nat} {s : ByteArray} {x : Sen} {rest : List Nat} (h : readS t k ((bytesN s).drop at_) = some (x, rest)) (e : (bytesN s).drop a2 = rest) (hle : at_ ≤ s.size) (hle2 : a2 ≤ s.size) : at_ < a2 := by
  have := readS_less t k _ _ _ h
  rw [← e, List.length_drop, List.length_drop, bytesN_len] at this
  omega
end Go.Proofs.Ytobgnbgmpcilgaa

namespace Go.Proofs.Ytobgnbgmpcilgaa
open Go.RowKit

theorem read_no33 (t : Int) (k : Nat) (l : List Nat) : readS t (k + 1) (33 :: l) = (readS t k l).map fun p => (.no p.1, p.2) := by
  conv => lhs; unfold readS
  simp
theorem read_ask63 (t : Int) (k : Nat) (l : List Nat) : readS t (k + 1) (63 :: l) = (readS t k l).map fun p => (.ask p.1, p.2) := by
  conv => lhs; unfold readS
  simp
theorem read_pair40 (t : Int) (k : Nat) (l : List Nat) : readS t (k + 1) (40 :: l) = pairS t k l := by
  conv => lhs; unfold readS
  simp only [show ¬ (40 : Nat) = 49 by omega, show ¬ (40 : Nat) = 48 by omega, show ¬ (97 ≤ 40 ∧ ((40 : Nat) : Int) - 97 < t) by omega, show ¬ (40 : Nat) = 33 by omega, show ¬ (40 : Nat) = 63 by omega, if_false, if_true]
  rfl

end Go.Proofs.Ytobgnbgmpcilgaa

namespace Go.Proofs.Ytobgnbgmpcilgaa
open Go.RowKit

def nothing : Value := .tuple #[.pointer none, .bool false]
theorem box_set {W : World} {B : Nat} {t : TypeId} {v : Value} (h : Boxed W B t v) (u : Value) {C : Nat} (hne : C ≠ B) : Boxed (W.setCell ⟨C, 0, none⟩ u) B t v :=
  (Below.heap_setCell _ _ _ _ (fun e => hne e.symm)).trans h

def startsOf (n : Nat) : ByteArray := ⟨#[48, 49, 33, 63, 40]⟩ ++ (⟨#[97, 98, 99]⟩ : ByteArray).extract 0 n
theorem starts_ok (n : Nat) (h1 : 1 ≤ n) (h3 : n ≤ 3) : StOk n (startsOf n) := by
  intro c
  have e : ∀ k : UInt8, c = k ↔ c.toNat = k.toNat := fun k => UInt8.toNat_inj.symm
  have hl : (startsOf n).data.toList = [48, 49, 33, 63, 40] ++ [97, 98, 99].take n := by
    have : n = 1 ∨ n = 2 ∨ n = 3 := by omega
    rcases this with rfl | rfl | rfl <;> rfl
  rw [hl, Bool.eq_iff_iff]
  unfold startB
  have : n = 1 ∨ n = 2 ∨ n = 3 := by omega
  rcases this with rfl | rfl | rfl <;> simp [e] <;> omega
theorem senOf_none {t : Int} {l : List Nat} (h1 : 1 ≤ t) (h3 : t ≤ 3) (hl : l.length ≤ 60) (h : readS t l.length l = none) : senOf t l = none := by
  unfold senOf; rw [if_pos ⟨h1, h3, hl⟩, h]
theorem senOf_more {t : Int} {l : List Nat} {x : Sen} {c : Nat} {r : List Nat} (h1 : 1 ≤ t) (h3 : t ≤ 3) (hl : l.length ≤ 60) (h : readS t l.length l = some (x, c :: r)) : senOf t l = none := by
  unfold senOf; rw [if_pos ⟨h1, h3, hl⟩, h]
theorem senOf_some {t : Int} {l : List Nat} {x : Sen} (h1 : 1 ≤ t) (h3 : t ≤ 3) (hl : l.length ≤ 60) (h : readS t l.length l = some (x, [])) : senOf t l = some x := by
  unfold senOf; rw [if_pos ⟨h1, h3, hl⟩, h]
theorem below_caught {w W w1 : World} {u0 u1 : Value} (hB : Below w.heap.size w W) (hg : W.grownBy w1 (some (w.heap.size + 1 + 1))) : Below w.heap.size w ((w1.setCell ⟨w.heap.size, 0, none⟩ u0).setCell ⟨w.heap.size + 1, 0, none⟩ u1) :=
  ((hB.grown hg hB.size (fun k e => by cases e; omega)).setCell (p := ⟨w.heap.size, 0, none⟩) (Nat.le_refl _) _).setCell (p := ⟨w.heap.size + 1, 0, none⟩) (by show w.heap.size ≤ w.heap.size + 1; omega) _
end Go.Proofs.Ytobgnbgmpcilgaa

namespace Go.Proofs.Ytobgnbgmpcilgaa
open Go.RowKit

def OwnPost (l : List Int) (w : World) (e : Ending) (w' : World) : Prop := ∃ v, e = .returned v ∧ Owns w' w.heap.size v l ∧ Below w.heap.size w w'
theorem statement_ok {t s : Int} (h : setOkB t s = true) : statementL t s = [s] := by unfold statementL; rw [h]; rfl
end Go.Proofs.Ytobgnbgmpcilgaa

namespace Go.Proofs.Ytobgnbgmpcilgaa
open Go.RowKit

def senT (t : Int) (s : ByteArray) : Option Sen := senOf t (bytesN s)
def issueT (t : Int) (s : ByteArray) : List Int := match senT t s with | some x => issueS t x | none => []
def isT (t : Int) (s : ByteArray) : Bool := (senT t s).isSome
def supportsT (t k : Int) (s : ByteArray) : Bool := match senT t s with | some x => setOkB t k && holdsS t x k | none => false
def plainT (t : Int) (s : ByteArray) : Bool := match senT t s with | some x => plainS x | none => false
def trueT (t : Int) (s : ByteArray) : Int := match senT t s with | some x => (trueTo t x (nWorlds t) : Int) | none => -1
def entailsT (t : Int) (s u : ByteArray) : Bool := match senT t s, senT t u with | some x, some y => followsB t (issueS t x) (issueS t y) | _, _ => false
theorem senT_ok {t : Int} {s : ByteArray} {x : Sen} (h : senT t s = some x) : 1 ≤ t ∧ t ≤ 3 ∧ s.size ≤ 60 ∧ senOk t x = true ∧ bytesN s = textS x := by
  have := senOf_iff.1 h
  rwa [bytesN_len] at this
def IssueOfPost (l : List Int) (b : Bool) (w : World) (e : Ending) (w' : World) : Prop := ∃ v, e = .returned (.tuple #[v, .bool b]) ∧ Owns w' w.heap.size v l ∧ Below w.heap.size w w'
theorem issueT_none {t : Int} {s : ByteArray} (h : senT t s = none) : issueT t s = [] ∧ isT t s = false := by unfold issueT isT; rw [h]; exact ⟨rfl, rfl⟩
theorem issueT_some {t : Int} {s : ByteArray} {x : Sen} (h : senT t s = some x) : issueT t s = issueS t x ∧ isT t s = true := by unfold issueT isT; rw [h]; exact ⟨rfl, rfl⟩

theorem indexAny_any : ∀ (l chars : List UInt8), Lib.containsAny l chars = l.any fun b => chars.contains b
  | [], chars => rfl
  | b :: l, chars => by
    have ih := indexAny_any l chars
    have hg := Lib.indexAny_ge chars l
    unfold Lib.containsAny at *
    rw [Lib.indexAny, List.any_cons, ← ih]
    cases h : chars.contains b
    · simp only [Bool.false_eq_true, if_false, Bool.false_or]
      by_cases h2 : Lib.indexAny l chars = -1
      · rw [h2]; rfl
      · have : (Lib.indexAny l chars == -1) = false := by rw [beq_eq_false_iff_ne]; exact h2
        rw [this]
        simp only [Bool.false_eq_true, if_false, decide_eq_decide]
        omega
    · simp
def askB (c : Nat) : Bool := decide (c = 124) || decide (c = 63)
theorem text_plain {t : Int} (h3 : t ≤ 3) : ∀ x : Sen, senOk t x = true → (textS x).any askB = !plainS x
  | .one, _ => rfl
  | .zero, _ => rfl
  | .thing i, h => by
    have : (i : Int) < t := of_decide_eq_true h
    simp [textS, plainS, askB]; omega
  | .no x, h => by
    have := text_plain h3 x h
    simp only [textS, plainS, List.any_cons, this]; rfl
  | .ask x, h => by simp [textS, plainS, askB]
  | .and_ x y, h => by
    unfold senOk at h
    rw [Bool.and_eq_true] at h
    have e1 := text_plain h3 x h.1
    have e2 := text_plain h3 y h.2
    simp only [textS, plainS, List.any_cons, List.any_append, e1, e2, List.any_nil, Bool.not_and]
    simp [askB]
  | .or_ x y, h => by simp [textS, plainS, askB]
  | .if_ x y, h => by
    unfold senOk at h
    rw [Bool.and_eq_true] at h
    have e1 := text_plain h3 x h.1
    have e2 := text_plain h3 y h.2
    simp only [textS, plainS, List.any_cons, List.any_append, e1, e2, List.any_nil, Bool.not_and]
    simp [askB]
theorem text_ascii {t : Int} (h3 : t ≤ 3) : ∀ x : Sen, senOk t x = true → ∀ c ∈ textS x, c < 128
  | .one, _ => by simp [textS]
  | .zero, _ => by simp [textS]
  | .thing i, h => by
    have : (i : Int) < t := of_decide_eq_true h
    simp [textS]; omega
  | .no x, h => by
    have := text_ascii h3 x h
    intro c hc; rcases List.mem_cons.1 hc with rfl | hc
    · omega
    · exact this c hc
  | .ask x, h => by
    have := text_ascii h3 x h
    intro c hc; rcases List.mem_cons.1 hc with rfl | hc
    · omega
    · exact this c hc
  | .and_ x y, h => by
    unfold senOk at h
    rw [Bool.and_eq_true] at h
    have e1 := text_ascii h3 x h.1
    have e2 := text_ascii h3 y h.2
    intro c hc
    simp only [textS, List.mem_cons, List.mem_append, List.not_mem_nil, or_false] at hc
    rcases hc with rfl | hc | rfl | hc | rfl <;> first | omega | exact e1 c hc | exact e2 c hc
  | .or_ x y, h => by
    unfold senOk at h
    rw [Bool.and_eq_true] at h
    have e1 := text_ascii h3 x h.1
    have e2 := text_ascii h3 y h.2
    intro c hc
    simp only [textS, List.mem_cons, List.mem_append, List.not_mem_nil, or_false] at hc
    rcases hc with rfl | hc | rfl | hc | rfl <;> first | omega | exact e1 c hc | exact e2 c hc
  | .if_ x y, h => by
    unfold senOk at h
    rw [Bool.and_eq_true] at h
    have e1 := text_ascii h3 x h.1
    have e2 := text_ascii h3 y h.2
    intro c hc
    simp only [textS, List.mem_cons, List.mem_append, List.not_mem_nil, or_false] at hc
    rcases hc with rfl | hc | rfl | hc | rfl <;> first | omega | exact e1 c hc | exact e2 c hc
theorem sen_contains {t : Int} {s : ByteArray} {x : Sen} (h : senT t s = some x) : Lib.containsAny s.data.toList (ByteArray.mk #[124, 63]).data.toList = !plainS x := by
  obtain ⟨h1, h3, _, hok, ht⟩ := senT_ok h
  rw [indexAny_any, ← text_plain h3 x hok, ← ht]
  unfold bytesN
  rw [List.any_map]
  congr 1
  funext c
  have e : ∀ k : UInt8, c = k ↔ c.toNat = k.toNat := fun k => UInt8.toNat_inj.symm
  rw [Bool.eq_iff_iff]
  simp [askB, e]
theorem sen_ascii {t : Int} {s : ByteArray} {x : Sen} (h : senT t s = some x) : ∀ (j : Nat) b, s.data.toList[j]? = some b → b.toNat < 128 := by
  obtain ⟨h1, h3, _, hok, ht⟩ := senT_ok h
  intro j b hb
  refine text_ascii h3 x hok _ ?_
  rw [← ht]
  unfold bytesN
  exact List.mem_map.2 ⟨b, List.mem_of_getElem? hb, rfl⟩
theorem trueTo_lt (t : Int) (x : Sen) : ∀ k, k ≤ 8 → trueTo t x k < 2 ^ k
  | 0, _ => by simp [trueTo]
  | k + 1, h => by
    have := trueTo_lt t x k (by omega)
    unfold trueTo
    rw [Nat.pow_succ]
    split <;> omega
theorem true_or {t : Int} {x : Sen} {k : Nat} (hk : k ≤ 7) (h : holdsS t x (worldS k) = true) : trueTo t x k ||| 2 ^ k = trueTo t x (k + 1) := by
  have := trueTo_lt t x k (by omega)
  conv => rhs; unfold trueTo
  have e := Nat.two_pow_add_eq_or_of_lt this 1
  rw [Nat.mul_one] at e
  rw [if_pos h, Nat.or_comm, ← e, Nat.add_comm]
theorem true_skip {t : Int} {x : Sen} {k : Nat} (h : holdsS t x (worldS k) = false) : trueTo t x k = trueTo t x (k + 1) := by
  conv => rhs; unfold trueTo
  rw [if_neg (by rw [h]; decide)]; rfl

end Go.Proofs.Ytobgnbgmpcilgaa
