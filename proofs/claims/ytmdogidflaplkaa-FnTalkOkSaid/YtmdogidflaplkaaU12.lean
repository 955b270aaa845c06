/-
  What the proofs of this seat's statements share (Deny, Sign, Held, Supg, Supi, Byt, Rdr).
-/
import Derived.Deep.RegionHeld3
import Derived.OrdersIn
import Derived.RangeFuncCalls
import Derived.TacticsIn
import Derived.Sort.CutIn
import Derived.Outline
import Derived.Test.YtmdogidflaplkaaU11
import Derived.Test.YtmdogidflaplkaaU1
import Derived.Test.YtmdogidflaplkaaU9
import Derived.Test.YtmdogidflaplkaaU5

namespace Go.Proofs.Ytmdogidflaplkaa
open Go.RowKit

def denyB (s : Int) (f : Int → Bool) : Bool := (List.range 8).all fun w => !hasW s w || !f (worldS w)
def NoneTo (s : Int) (f : Int → Bool) (k : Nat) : Prop := ∀ j, j < k → hasW s j = true → f (worldS j) = false
theorem noneTo_next {s : Int} {f : Int → Bool} {k : Nat} (h : NoneTo s f k) (hk : hasW s k = true → f (worldS k) = false) : NoneTo s f (k + 1) := fun j hj => by
  by_cases e : j = k
  · subst e; exact hk
  · exact h j (by omega)
theorem has_pow {s : Int} {k : Nat} (h : hasW s k = true) : worldS k ≤ s := by
  have := Nat.ge_two_pow_of_testBit (x := s.toNat) (i := k) h
  have h2 := Nat.two_pow_pos k
  unfold worldS
  omega
theorem deny_end {s : Int} {f : Int → Bool} {k : Nat} (h : NoneTo s f k) (hk : s < worldS k) : denyB s f = true := by
  unfold denyB
  rw [List.all_eq_true]
  intro w _
  cases hw : hasW s w
  · rfl
  · have h1 := has_pow hw
    have : w < k := by
      rcases Nat.lt_or_ge w k with h2 | h2
      · exact h2
      · have : 2 ^ k ≤ 2 ^ w := Nat.pow_le_pow_right (by omega) h2
        unfold worldS at h1 hk
        omega
    rw [h w this hw]; rfl
theorem deny_hit {s : Int} {f : Int → Bool} {k : Nat} (hk : k < 8) (h1 : hasW s k = true) (h2 : f (worldS k) = true) : denyB s f = false := by
  unfold denyB
  rw [List.all_eq_false]
  exact ⟨k, List.mem_range.2 hk, by rw [h1, h2]; decide⟩
theorem iWithin_is {a b : Int} {v : Bool} (h : Hid (withinB a b = v)) (ha : 0 ≤ a) (ha2 : a < 1024) (hb : 0 ≤ b) (hb2 : b < 1024) (w : World) :
    Calls Try.prog 83 #[.int .i64 a, .int .i64 b] w fun e w' => e = .returned (.bool v) ∧ w = w' :=
  (iWithin a b ha ha2 hb hb2 w).mono fun _ _ ⟨he, hw⟩ => ⟨he.trans (ret_bool h.out), hw⟩
theorem world_is {s : Int} {k : Nat} {p : Int} {v : Bool} (hp : worldS k = p) (h : hasW s k = v) : Hid (withinB p s = v) := by
  unfold Hid
  subst hp
  cases v
  · cases h2 : withinB (worldS k) s
    · rfl
    · rw [(world_within k).1 h2] at h; cases h
  · exact (world_within k).2 h

end Go.Proofs.Ytmdogidflaplkaa

namespace Go.Proofs.Ytmdogidflaplkaa
open Go.RowKit

def signS : Sen → Nat
  | .one => 49
  | .zero => 48
  | .thing i => 97 + i
  | .no _ => 33
  | .ask _ => 63
  | .and_ _ _ => 38
  | .or_ _ _ => 124
  | .if_ _ _ => 62
theorem worlds_n {t : Int} (h1 : 1 ≤ t) (h3 : t ≤ 3) : worldsOf t = (nWorlds t : Int) ∧ nWorlds t ≤ 8 := by
  have : t = 1 ∨ t = 2 ∨ t = 3 := by omega
  rcases this with rfl | rfl | rfl <;> exact ⟨rfl, by decide⟩
theorem word_one {t : Int} (h1 : 1 ≤ t) (h3 : t ≤ 3) : (wordTo 49 (nWorlds t) : Int) = allOf t := by
  have : t = 1 ∨ t = 2 ∨ t = 3 := by omega
  rcases this with rfl | rfl | rfl <;> rfl
theorem word_zero {t : Int} (h1 : 1 ≤ t) (h3 : t ≤ 3) : (wordTo 48 (nWorlds t) : Int) = 0 := by
  have : t = 1 ∨ t = 2 ∨ t = 3 := by omega
  rcases this with rfl | rfl | rfl <;> rfl
theorem word_thing {t : Int} {i : Nat} (h1 : 1 ≤ t) (h3 : t ≤ 3) (hi : (i : Int) < t) : (wordTo (97 + i) (nWorlds t) : Int) = letterSet t i := by
  have : t = 1 ∨ t = 2 ∨ t = 3 := by omega
  rcases this with rfl | rfl | rfl
  · obtain rfl : i = 0 := by omega
    rfl
  · have : i = 0 ∨ i = 1 := by omega
    rcases this with rfl | rfl <;> rfl
  · have : i = 0 ∨ i = 1 ∨ i = 2 := by omega
    rcases this with rfl | rfl | rfl <;> rfl
theorem word_range (c : Nat) {t : Int} (h1 : 1 ≤ t) (h3 : t ≤ 3) (hc : isWord c) : wordTo c (nWorlds t) < 256 := by
  have : t = 1 ∨ t = 2 ∨ t = 3 := by omega
  rcases this with rfl | rfl | rfl <;> rcases hc with rfl | rfl | rfl | rfl | rfl <;> decide
theorem deny_worlds {t s : Int} (h1 : 1 ≤ t) (h3 : t ≤ 3) (hs0 : 0 ≤ s) (hs : s ≤ allOf t) (f : Int → Bool) : ((List.range (nWorlds t)).all fun w => !hasW s w || !f (worldS w)) = denyB s f := by
  unfold denyB
  rw [Bool.eq_iff_iff, List.all_eq_true, List.all_eq_true]
  have hn := (worlds_n h1 h3).2
  constructor
  · intro h w hw
    rcases Nat.lt_or_ge w (nWorlds t) with h2 | h2
    · exact h w (List.mem_range.2 h2)
    · cases h4 : hasW s w
      · rfl
      · have := has_lt h1 h3 hs0 hs h4; omega
  · intro h w hw
    exact h w (List.mem_range.2 (by have := List.mem_range.1 hw; omega))
theorem holds_no {t s : Int} (h1 : 1 ≤ t) (h3 : t ≤ 3) (hs0 : 0 ≤ s) (hs : s ≤ allOf t) (x : Sen) : holdsS t (.no x) s = denyB s (holdsS t x) := deny_worlds h1 h3 hs0 hs _
theorem holds_ask {t s : Int} (h1 : 1 ≤ t) (h3 : t ≤ 3) (hs0 : 0 ≤ s) (hs : s ≤ allOf t) (x : Sen) : holdsS t (.ask x) s = (holdsS t x s || denyB s (holdsS t x)) := by
  rw [← deny_worlds h1 h3 hs0 hs]; rfl
theorem holds_if (t : Int) (x y : Sen) (s : Int) : holdsS t (.if_ x y) s = ifB s (holdsS t x) (holdsS t y) := rfl

def TellsV (w : World) (v : Value) (s : Int) (f : Int → Bool) : Prop := ∃ b o n c, v = .slice (some ⟨b, o, none⟩) n c ∧ Told w b o n s f
def KidsTold (w : World) (t : Int) (x : Sen) (s : Int) (v1 v2 : Value) : Prop :=
  match x with
  | .no a => TellsV w v1 s (holdsS t a)
  | .ask a => TellsV w v1 s (holdsS t a)
  | .and_ a b => TellsV w v1 s (holdsS t a) ∧ TellsV w v2 s (holdsS t b)
  | .or_ a b => TellsV w v1 s (holdsS t a) ∧ TellsV w v2 s (holdsS t b)
  | .if_ a b => TellsV w v1 s (holdsS t a) ∧ TellsV w v2 s (holdsS t b)
  | _ => True
theorem TellsV.below {w w' : World} {v : Value} {s : Int} {f : Int → Bool} (h : TellsV w v s f) (hb : Below w.heap.size w w') : TellsV w' v s f := by
  obtain ⟨b, o, n, c, rfl, h⟩ := h; exact ⟨b, o, n, c, rfl, h.below hb⟩
theorem TellsV.sub {w : World} {v : Value} {s s2 : Int} {f : Int → Bool} (h : TellsV w v s f) (hs0 : 0 ≤ s2) (hs : withinB s2 s = true) : TellsV w v s2 f := by
  obtain ⟨b, o, n, c, rfl, h⟩ := h; exact ⟨b, o, n, c, rfl, h.sub hs0 hs⟩
theorem KidsTold.below {w w' : World} {t : Int} {x : Sen} {s : Int} {v1 v2 : Value} (h : KidsTold w t x s v1 v2) (hb : Below w.heap.size w w') : KidsTold w' t x s v1 v2 := by
  cases x with
  | one => trivial
  | zero => trivial
  | thing i => trivial
  | no a => exact TellsV.below h hb
  | ask a => exact TellsV.below h hb
  | and_ a b => exact ⟨TellsV.below h.1 hb, TellsV.below h.2 hb⟩
  | or_ a b => exact ⟨TellsV.below h.1 hb, TellsV.below h.2 hb⟩
  | if_ a b => exact ⟨TellsV.below h.1 hb, TellsV.below h.2 hb⟩
theorem KidsTold.sub {w : World} {t : Int} {x : Sen} {s s2 : Int} {v1 v2 : Value} (h : KidsTold w t x s v1 v2) (hs0 : 0 ≤ s2) (hs : withinB s2 s = true) : KidsTold w t x s2 v1 v2 := by
  cases x with
  | one => trivial
  | zero => trivial
  | thing i => trivial
  | no a => exact TellsV.sub h hs0 hs
  | ask a => exact TellsV.sub h hs0 hs
  | and_ a b => exact ⟨TellsV.sub h.1 hs0 hs, TellsV.sub h.2 hs0 hs⟩
  | or_ a b => exact ⟨TellsV.sub h.1 hs0 hs, TellsV.sub h.2 hs0 hs⟩
  | if_ a b => exact ⟨TellsV.sub h.1 hs0 hs, TellsV.sub h.2 hs0 hs⟩
end Go.Proofs.Ytmdogidflaplkaa

namespace Go.Proofs.Ytmdogidflaplkaa
open Go.RowKit

theorem oper_round {l n : Nat} {P : Program} {o : Oper} {a : Act} {w : World} {K : Act → World → Prop} {Q : Exit → Act → World → Prop} (hd : ∀ c, o.op ≠ .defer c) (h : o.wp P a w K Q) : o.wpIn (Fence.wide.inRound l) n P a w K Q := by
  refine ⟨fun _ _ => trivial, ?_⟩
  rw [Oper.semAt_eq _ _ _ hd]
  unfold Oper.wp at h
  generalize (execOp a.eval o).run P w = r at h ⊢
  cases r with
  | ok x w' =>
    cases x with
    | value v => exact h
    | skip => exact h
    | defer d => exact h
    | enter f args =>
      refine ⟨fun e => (by cases e), ?_⟩
      refine (callsIn_wide (n := n - 1)).2 ?_
      refine Calls.mono h fun e w'' he => ?_
      cases e <;> exact he
    | row r args =>
      refine ⟨fun e => (by cases e), fun c cs _ => ?_⟩
      obtain ⟨v, w'', hr, hs⟩ := h c cs
      exact ⟨v, w'', hr, stepsIn_wide.2 hs⟩
    | _ => exact h.elim
  | halt x w' => cases x <;> exact h
def noDefer (o : Oper) : Bool := match o.op with | .defer _ => false | _ => true
theorem noDefer_ne {o : Oper} (h : noDefer o = true) : ∀ c, o.op ≠ .defer c := fun c e => by unfold noDefer at h; rw [e] at h; cases h
theorem anyIn_round {l n : Nat} {P : Program} {md : Region.Mode} {ops : Array Oper} {Q : Exit → Act → World → Prop} (hd : ops.all noDefer = true) (hQ : ¬ LetsOut Q) :
    ∀ (fuel : Nat) (listed : Array Bool) (a : Act) (w : World), wpAny P md ops Q fuel listed a w → wpAnyIn (Fence.wide.inRound l) n P md ops Q fuel listed a w
  | 0, _, _, _, h => h
  | fuel + 1, listed, a, w, h => by
    refine ⟨h.1, fun i hi => ?_⟩
    have h2 := h.2 i hi
    unfold wpOp at h2
    unfold wpOpIn
    cases ho : ops[i]? with
    | none => rw [ho] at h2; exact anyIn_round hd hQ fuel _ _ _ h2
    | some o =>
      rw [ho] at h2
      simp only at h2 ⊢
      have hdo : noDefer o = true := by
        obtain ⟨hlt, e⟩ := Array.getElem?_eq_some_iff.1 ho
        rw [Array.all_eq_true] at hd
        have := hd i hlt
        rwa [e] at this
      split
      · rename_i hw
        rw [if_pos hw] at h2
        rcases h2 with h2 | h2
        · exact oper_round (noDefer_ne hdo) (Oper.wp_mono (fun a w => anyIn_round hd hQ fuel _ a w) h2)
        · exact absurd h2.2 hQ
      · rename_i hw
        rw [if_neg hw] at h2
        exact ⟨fun _ _ => trivial, anyIn_round hd hQ fuel _ _ _ h2⟩
/-- The beginning, in a round. -/
theorem round_held {l n : Nat} {P : Program} {ops : Array Oper} {Q : Exit → Act → World → Prop} {S : World → Prop} {id : Nat} {a : Act} {w : World} (hm : P.follows .mixedOrders = true) (hd : ops.all noDefer = true) (hQ : ¬ LetsOut Q) (hS : S w.drew)
    (h : S w.drew → wpAnyH P .any ops Q S ops.size (Array.replicate ops.size false) a w.drew) : (Code.region id ops true).wpIn (Fence.wide.inRound l) n P Q a w :=
  wpIn_region_any hm (anyIn_round hd hQ _ _ _ _ (wpAny_of_held _ _ _ _ (h hS)))
end Go.Proofs.Ytmdogidflaplkaa

namespace Go.Proofs.Ytmdogidflaplkaa
open Go.RowKit Go.Shelf
attribute [local go_sem] Oper.semAt_some

def KidPost (P : World → Value → Prop) (w : World) (e : Ending) (w' : World) : Prop := ∃ A n c, e = .returned (.slice A n c) ∧ P w' (.slice A n c) ∧ Below w.heap.size w w'
def Kid1 (t s : Int) (x : Sen) (w : World) (v : Value) : Prop :=
  match x with
  | .no a => TellsV w v s (holdsS t a)
  | .ask a => TellsV w v s (holdsS t a)
  | .and_ a _ => TellsV w v s (holdsS t a)
  | .or_ a _ => TellsV w v s (holdsS t a)
  | .if_ a _ => TellsV w v s (holdsS t a)
  | _ => True
def Kid2 (t s : Int) (x : Sen) (w : World) (v : Value) : Prop :=
  match x with
  | .and_ _ a => TellsV w v s (holdsS t a)
  | .or_ _ a => TellsV w v s (holdsS t a)
  | .if_ _ a => TellsV w v s (holdsS t a)
  | _ => True
theorem Kid1.below {t s : Int} {x : Sen} {w w' : World} {v : Value} (h : Kid1 t s x w v) (hb : Below w.heap.size w w') : Kid1 t s x w' v := by
  cases x <;> first | exact TellsV.below h hb | trivial
theorem Kid2.below {t s : Int} {x : Sen} {w w' : World} {v : Value} (h : Kid2 t s x w v) (hb : Below w.heap.size w w') : Kid2 t s x w' v := by
  cases x <;> first | exact TellsV.below h hb | trivial
theorem zero_within (s : Int) : withinB 0 s = true := by unfold withinB andI; simp
theorem Told.set {w : World} {b o n : Nat} {s : Int} {f : Int → Bool} {B k c : Nat} {t : TypeId} {A : Option Addr} (h : Told w b o n s f) (hx : Boxed w B t (.slice A k c)) (v : Value) : Told (w.setCell ⟨B, 0, none⟩ v) b o n s f := by
  have hne : B ≠ b := by
    rintro rfl
    have h0 := (h.2 0 (Int.le_refl _) (zero_within s)).2
    simp [World.cell?, show w.heap[B]? = _ from hx] at h0
    cases o with
    | zero => simp at h0
    | succ o => simp at h0
  exact ⟨by have := (KeepsWalks.setCell w ⟨B, 0, none⟩ v).size; have := h.1; omega, fun u h0 hu => ⟨(h.2 u h0 hu).1, (World.cell?_setCell_far _ _ _ _ hne).trans (h.2 u h0 hu).2⟩⟩
theorem TellsV.set {w : World} {v : Value} {s : Int} {f : Int → Bool} {B k c : Nat} {t : TypeId} {A : Option Addr} (h : TellsV w v s f) (hx : Boxed w B t (.slice A k c)) (u : Value) : TellsV (w.setCell ⟨B, 0, none⟩ u) v s f := by
  obtain ⟨b, o, n, c', rfl, h⟩ := h; exact ⟨b, o, n, c', rfl, h.set hx u⟩
theorem Kid1.set {t s : Int} {x : Sen} {w : World} {v : Value} {B k c : Nat} {ty : TypeId} {A : Option Addr} (h : Kid1 t s x w v) (hx : Boxed w B ty (.slice A k c)) (u : Value) : Kid1 t s x (w.setCell ⟨B, 0, none⟩ u) v := by
  cases x <;> first | exact TellsV.set h hx u | trivial
theorem Kid2.set {t s : Int} {x : Sen} {w : World} {v : Value} {B k c : Nat} {ty : TypeId} {A : Option Addr} (h : Kid2 t s x w v) (hx : Boxed w B ty (.slice A k c)) (u : Value) : Kid2 t s x (w.setCell ⟨B, 0, none⟩ u) v := by
  cases x <;> first | exact TellsV.set h hx u | trivial
theorem cut_size {W w2 : World} (h : Below W.drew.heap.size W.drew w2) : W.heap.size ≤ w2.heap.size := h.size
theorem cut_new {W w2 : World} (h : Below W.drew.heap.size W.drew w2) (o : Obj) : Below W.heap.size W (w2.alloc o) :=
  ((below_drewN (Below.refl W.heap.size W) 1).trans h).alloc (cut_size h) o
theorem cut_set {W w2 : World} {o : Obj} (h : Below (W.alloc o).drew.heap.size (W.alloc o).drew w2) (v : Value) : Below W.heap.size W (w2.setCell ⟨W.heap.size, 0, none⟩ v) := by
  have h1 : Below W.heap.size (W.alloc o).drew w2 := h.mono (by show W.heap.size ≤ (W.alloc o).heap.size; simp)
  exact ((below_drewN ((Below.refl W.heap.size W).alloc (Nat.le_refl _) o) 1).trans h1).setCell (p := ⟨W.heap.size, 0, none⟩) (Nat.le_refl _) v
def toldF {s : Int} (f : Int → Bool) (pre : List (Sub s)) : Nat → Value := fun i => .bool (decide ((i : Int) ∈ pre.map (·.1)) && f i)
theorem toldF_next {s : Int} {f : Int → Bool} (pre : List (Sub s)) (y : Sub s) (i : Nat) : (if i = y.1.toNat then Value.bool (f y.1) else toldF f pre i) = toldF f (pre ++ [y]) i := by
  have h0 := y.2.1
  unfold toldF
  by_cases e : i = y.1.toNat
  · rw [if_pos e]
    have e2 : (i : Int) = y.1 := by omega
    rw [e2, decide_eq_true (by simp)]; rfl
  · rw [if_neg e]
    congr 2
    rw [decide_eq_decide]
    have e2 : ¬ (i : Int) = y.1 := by omega
    simp [e2]
theorem row_keep {W W' : World} {row : Option Nat} {b n : Nat} {t : TypeId} {f : Nat → Value} (h : W.rowIs b t n f) (hg : W.grownBy W' row) (hr : ∀ r, row = some r → ∃ o : Obj, W.heap[r]? = some o ∧ o.isCells = false) : W'.rowIs b t n f := by
  refine h.of_block (hg.block b h.lt fun e => ?_)
  obtain ⟨o, ho, hc⟩ := hr b e.symm
  obtain ⟨C, hC, _⟩ := h
  rw [hC] at ho; cases ho; cases hc
structure SigHeld (N b B7 B8 T m : Nat) (t : Int) (sg : Nat) (v1 v2 : Value) (w : World) : Prop where
  c9 : w.cell? ⟨T + 1, 0, none⟩ = some (.slice (some ⟨T, 0, none⟩) (m + 1) (m + 1))
  ct : w.cell? ⟨N, 0, none⟩ = some (.int .i64 t)
  cb : w.cell? ⟨N + 1, 0, none⟩ = some (.pointer (some ⟨b, 0, none⟩))
  cs : w.cell? ⟨b, 0, none⟩ = some (.int .u8 sg)
  c7 : w.cell? ⟨B7, 0, none⟩ = some v1
  c8 : w.cell? ⟨B8, 0, none⟩ = some v2
theorem SigHeld.keep {N b B7 B8 T m : Nat} {t : Int} {sg : Nat} {v1 v2 : Value} {w w' : World} (h : SigHeld N b B7 B8 T m t sg v1 v2 w) (hk : ∀ a : Addr, a.block ≠ T → (w.cell? a).isSome = true → w'.cell? a = w.cell? a) (_h1 : N < T) (h2 : N + 1 < T) (h3 : b < T) (h4 : B7 < T) (h5 : B8 < T) : SigHeld N b B7 B8 T m t sg v1 v2 w' :=
  ⟨(hk _ (by show T + 1 ≠ T; omega) (by rw [h.c9]; rfl)).trans h.c9, (hk _ (by show N ≠ T; omega) (by rw [h.ct]; rfl)).trans h.ct, (hk _ (by show N + 1 ≠ T; omega) (by rw [h.cb]; rfl)).trans h.cb,
    (hk _ (by show b ≠ T; omega) (by rw [h.cs]; rfl)).trans h.cs, (hk _ (by show B7 ≠ T; omega) (by rw [h.c7]; rfl)).trans h.c7, (hk _ (by show B8 ≠ T; omega) (by rw [h.c8]; rfl)).trans h.c8⟩
theorem SigHeld.below {N b B7 B8 T m : Nat} {t : Int} {sg : Nat} {v1 v2 : Value} {w w' : World} (h : SigHeld N b B7 B8 T m t sg v1 v2 w) (hb : Below w.heap.size w w') : SigHeld N b B7 B8 T m t sg v1 v2 w' :=
  ⟨(hb.cell (World.block_lt_of_cell? w _ h.c9)).trans h.c9, (hb.cell (World.block_lt_of_cell? w _ h.ct)).trans h.ct, (hb.cell (World.block_lt_of_cell? w _ h.cb)).trans h.cb,
    (hb.cell (World.block_lt_of_cell? w _ h.cs)).trans h.cs, (hb.cell (World.block_lt_of_cell? w _ h.c7)).trans h.c7, (hb.cell (World.block_lt_of_cell? w _ h.c8)).trans h.c8⟩
theorem keeps_below {w w' : World} (h : Below w.heap.size w w') : KeepsOthers w w' := ⟨h.size, fun k _ hk _ => (h.block k (Array.getElem?_eq_some_iff.1 hk).1).trans hk⟩
theorem kids_told {t s : Int} {x : Sen} {w : World} {v1 v2 : Value} (h1 : Kid1 t s x w v1) (h2 : Kid2 t s x w v2) : KidsTold w t x s v1 v2 := by
  cases x <;> first | exact ⟨h1, h2⟩ | exact h1 | trivial
theorem bool_info : (Try.prog.info? 4).map (fun i => (i.zero, i.size, i.bytes)) = some (some (.bool false), 1, 1) := by kernel_rfl
abbrev NodeAt (w : World) (b : Nat) (sg : Nat) (q1 q2 : Option Addr) : Prop := w.heap[b]? = some (.cells #[.int .u8 sg, .pointer q1, .pointer q2] 102 (0, 0))
theorem node_cells {w : World} {b sg : Nat} {q1 q2 : Option Addr} (h : NodeAt w b sg q1 q2) : w.cell? ⟨b, 0, none⟩ = some (.int .u8 sg) ∧ w.cell? ⟨b, 1, none⟩ = some (.pointer q1) ∧ w.cell? ⟨b, 2, none⟩ = some (.pointer q2) ∧ b < w.heap.size := by
  refine ⟨?_, ?_, ?_, (Array.getElem?_eq_some_iff.1 h).1⟩ <;> simp [World.cell?, show w.heap[b]? = _ from h]

end Go.Proofs.Ytmdogidflaplkaa

namespace Go.Proofs.Ytmdogidflaplkaa
open Go.RowKit

/-- The sentence x stands at p, in blocks from lo on. -/
def SenAt (w : World) (lo : Nat) : Sen → Option Addr → Prop
  | .no a, p => ∃ b q, p = some ⟨b, 0, none⟩ ∧ lo ≤ b ∧ NodeAt w b 33 q none ∧ SenAt w lo a q
  | .ask a, p => ∃ b q, p = some ⟨b, 0, none⟩ ∧ lo ≤ b ∧ NodeAt w b 63 q none ∧ SenAt w lo a q
  | .and_ a c, p => ∃ b q r, p = some ⟨b, 0, none⟩ ∧ lo ≤ b ∧ NodeAt w b 38 q r ∧ SenAt w lo a q ∧ SenAt w lo c r
  | .or_ a c, p => ∃ b q r, p = some ⟨b, 0, none⟩ ∧ lo ≤ b ∧ NodeAt w b 124 q r ∧ SenAt w lo a q ∧ SenAt w lo c r
  | .if_ a c, p => ∃ b q r, p = some ⟨b, 0, none⟩ ∧ lo ≤ b ∧ NodeAt w b 62 q r ∧ SenAt w lo a q ∧ SenAt w lo c r
  | .one, p => ∃ b, p = some ⟨b, 0, none⟩ ∧ lo ≤ b ∧ NodeAt w b 49 none none
  | .zero, p => ∃ b, p = some ⟨b, 0, none⟩ ∧ lo ≤ b ∧ NodeAt w b 48 none none
  | .thing i, p => ∃ b, p = some ⟨b, 0, none⟩ ∧ lo ≤ b ∧ NodeAt w b (97 + i) none none
theorem NodeAt.keep {w w' : World} {b sg : Nat} {q r : Option Addr} (h : NodeAt w b sg q r) {lo : Nat} (hlo : lo ≤ b) (hk : ∀ b, lo ≤ b → b < w.heap.size → w'.heap[b]? = w.heap[b]?) : NodeAt w' b sg q r :=
  (hk b hlo (Array.getElem?_eq_some_iff.1 h).1).trans h
theorem SenAt.keep {w w' : World} {lo : Nat} (hk : ∀ b, lo ≤ b → b < w.heap.size → w'.heap[b]? = w.heap[b]?) : ∀ (x : Sen) (p : Option Addr), SenAt w lo x p → SenAt w' lo x p
  | .no a, _, ⟨b, q, hp, hl, hn, h⟩ => ⟨b, q, hp, hl, hn.keep hl hk, SenAt.keep hk a q h⟩
  | .ask a, _, ⟨b, q, hp, hl, hn, h⟩ => ⟨b, q, hp, hl, hn.keep hl hk, SenAt.keep hk a q h⟩
  | .and_ a c, _, ⟨b, q, r, hp, hl, hn, h, h2⟩ => ⟨b, q, r, hp, hl, hn.keep hl hk, SenAt.keep hk a q h, SenAt.keep hk c r h2⟩
  | .or_ a c, _, ⟨b, q, r, hp, hl, hn, h, h2⟩ => ⟨b, q, r, hp, hl, hn.keep hl hk, SenAt.keep hk a q h, SenAt.keep hk c r h2⟩
  | .if_ a c, _, ⟨b, q, r, hp, hl, hn, h, h2⟩ => ⟨b, q, r, hp, hl, hn.keep hl hk, SenAt.keep hk a q h, SenAt.keep hk c r h2⟩
  | .one, _, ⟨b, hp, hl, hn⟩ => ⟨b, hp, hl, hn.keep hl hk⟩
  | .zero, _, ⟨b, hp, hl, hn⟩ => ⟨b, hp, hl, hn.keep hl hk⟩
  | .thing _, _, ⟨b, hp, hl, hn⟩ => ⟨b, hp, hl, hn.keep hl hk⟩
theorem SenAt.below {w w' : World} {lo : Nat} {x : Sen} {p : Option Addr} (h : SenAt w lo x p) (hb : Below w.heap.size w w') : SenAt w' lo x p :=
  SenAt.keep (fun b _ hlt => hb.block b hlt) x p h
theorem SenAt.grown {w w' : World} {lo R : Nat} {x : Sen} {p : Option Addr} (h : SenAt w lo x p) (hg : w.grownBy w' (some R)) (hR : R < lo) : SenAt w' lo x p :=
  SenAt.keep (fun b hl hlt => hg.block b hlt (fun e => by cases e; omega)) x p h
theorem SenAt.low {w : World} {lo lo' : Nat} (hlo : lo' ≤ lo) : ∀ (x : Sen) (p : Option Addr), SenAt w lo x p → SenAt w lo' x p
  | .no a, _, ⟨b, q, hp, hl, hn, h⟩ => ⟨b, q, hp, by omega, hn, SenAt.low hlo a q h⟩
  | .ask a, _, ⟨b, q, hp, hl, hn, h⟩ => ⟨b, q, hp, by omega, hn, SenAt.low hlo a q h⟩
  | .and_ a c, _, ⟨b, q, r, hp, hl, hn, h, h2⟩ => ⟨b, q, r, hp, by omega, hn, SenAt.low hlo a q h, SenAt.low hlo c r h2⟩
  | .or_ a c, _, ⟨b, q, r, hp, hl, hn, h, h2⟩ => ⟨b, q, r, hp, by omega, hn, SenAt.low hlo a q h, SenAt.low hlo c r h2⟩
  | .if_ a c, _, ⟨b, q, r, hp, hl, hn, h, h2⟩ => ⟨b, q, r, hp, by omega, hn, SenAt.low hlo a q h, SenAt.low hlo c r h2⟩
  | .one, _, ⟨b, hp, hl, hn⟩ => ⟨b, hp, by omega, hn⟩
  | .zero, _, ⟨b, hp, hl, hn⟩ => ⟨b, hp, by omega, hn⟩
  | .thing _, _, ⟨b, hp, hl, hn⟩ => ⟨b, hp, by omega, hn⟩

end Go.Proofs.Ytmdogidflaplkaa

namespace Go.Proofs.Ytmdogidflaplkaa
open Go.RowKit

def bytesN (s : ByteArray) : List Nat := s.data.toList.map UInt8.toNat
theorem bytesN_len (s : ByteArray) : (bytesN s).length = s.size := by unfold bytesN; rw [List.length_map]; rfl
theorem bytesN_drop {s : ByteArray} {at_ : Nat} (h : at_ < s.size) : (bytesN s).drop at_ = s[at_].toNat :: (bytesN s).drop (at_ + 1) := by
  rw [List.drop_eq_getElem_cons (by rw [bytesN_len]; exact h)]
  congr 1
  unfold bytesN
  rw [List.getElem_map]; rfl
end Go.Proofs.Ytmdogidflaplkaa

namespace Go.Proofs.Ytmdogidflaplkaa
open Go.RowKit

abbrev RdrAt (w : World) (R : Nat) (s : ByteArray) (at_ : Nat) (st : ByteArray) : Prop := w.heap[R]? = some (.cells #[.string s, .int .i64 at_, .string st] 99 (0, 0))
theorem rdr_cells {w : World} {R : Nat} {s st : ByteArray} {at_ : Nat} (h : RdrAt w R s at_ st) : w.cell? ⟨R, 0, none⟩ = some (.string s) ∧ w.cell? ⟨R, 1, none⟩ = some (.int .i64 at_) ∧ w.cell? ⟨R, 2, none⟩ = some (.string st) ∧ w.frozen? ⟨R, 1, none⟩ = false ∧ R < w.heap.size := by
  refine ⟨?_, ?_, ?_, ?_, (Array.getElem?_eq_some_iff.1 h).1⟩ <;> simp [World.cell?, World.frozen?, show w.heap[R]? = _ from h]
def Panics (R : Nat) (w : World) (e : Ending) (w' : World) : Prop := ∃ v : Value, e = .panicked [{ v := .iface 3 v, recovered := false }] ∧ w.grownBy w' (some R)
theorem hasByte {l : List UInt8} {c : UInt8} : decide (Lib.indexByte l c < 0) = !l.contains c := by
  have := Lib.indexByte_ge l c
  by_cases h : Lib.indexByte l c < 0
  · have e : Lib.indexByte l c = -1 := by omega
    have hn := Lib.indexByte_none e
    rw [decide_eq_true h]
    cases hc : l.contains c
    · rfl
    · obtain ⟨i, hi⟩ := List.mem_iff_getElem?.1 (List.contains_iff_mem.1 hc)
      exact absurd hi (hn i)
  · obtain ⟨o, ho⟩ : ∃ o : Nat, Lib.indexByte l c = o := ⟨(Lib.indexByte l c).toNat, by omega⟩
    have := (Lib.indexByte_some ho).1
    rw [decide_eq_false h, List.contains_iff_mem.2 (List.mem_of_getElem? this)]; rfl

set_option maxRecDepth 100000 in
set_option maxHeartbeats 4000000 in
theorem iTake_end (R : Nat) (s st al : ByteArray) (w : World) (_hs : s.size ≤ 1048576) (hr : RdrAt w R s s.size st) :
    Calls Try.prog 86 #[.pointer (some ⟨R, 0, none⟩), .string al] w (Panics R w) := by
  obtain ⟨hc0, hc1, hc2, hf, hlt⟩ := rdr_cells hr
  have hd : ((s.size : Int) == (s.size : Int)) = true := by simp
  clear hr
  go_enter Try.func86, Try.ntmps86
  go_wp2_with fail
  go_quiet (fail)
  go_wp2_with fail
  exact ⟨rfl, _, rfl, grown_drewN (World.grownBy.refl _ _) _⟩

theorem rdr_step {w : World} {R : Nat} {s st : ByteArray} {at_ : Nat} (h : RdrAt w R s at_ st) (u : Int) (hu : u = ((at_ + 1 : Nat) : Int)) : RdrAt (w.setCell ⟨R, 1, none⟩ (.int .i64 u)) R s (at_ + 1) st := by
  subst hu
  obtain ⟨hlt, e⟩ := Array.getElem?_eq_some_iff.1 h
  show (w.heap.modify R _)[R]? = _
  rw [Array.getElem?_eq_getElem (by rw [Array.size_modify]; exact hlt), Array.getElem_modify_self, e]
  rfl
theorem byte_u8 (b : UInt8) : (b.toNat : Int).toNat.toUInt8 = b := by simp

set_option maxRecDepth 100000 in
set_option maxHeartbeats 4000000 in
theorem iTake_bad (R : Nat) (s st al : ByteArray) (at_ : Nat) (w : World) (_hs : s.size ≤ 1048576) (hat : at_ < s.size) (hr : RdrAt w R s at_ st) (hal : al.data.toList.contains s[at_] = false) :
    Calls Try.prog 86 #[.pointer (some ⟨R, 0, none⟩), .string al] w (Panics R w) := by
  obtain ⟨hc0, hc1, hc2, hf, hlt⟩ := rdr_cells hr
  have hd : ((at_ : Int) == (s.size : Int)) = false := by rw [beq_eq_false_iff_ne]; omega
  have hi : (at_ : Int) < (s.size : Int) := by omega
  have hi0 : (0 : Int) ≤ (at_ : Int) := by omega
  have hx : decide (Lib.indexByte al.data.toList s[at_] < 0) = true := by rw [hasByte, hal]; rfl
  have HC : Hid (∀ W, Calls Try.prog 94 #[.string al, .int .u8 (s[at_].toNat)] W fun e w' => e = .returned (.int .i64 (Lib.indexByte al.data.toList s[at_])) ∧ w' = W) := fun W => by
    have := Try.strings_IndexByte al (s[at_].toNat) W
    rwa [byte_u8] at this
  clear hr hal
  go_enter Try.func86, Try.ntmps86
  go_wp2_with fail
  go_quiet ((go_at_call 94; exact Calls.quiet_of_same (HC.out _)))
  go_wp2_with fail
  exact ⟨rfl, _, rfl, grown_drewN (World.grownBy.refl _ _) _⟩

set_option maxRecDepth 100000 in
set_option maxHeartbeats 4000000 in
theorem iTake_ok (R : Nat) (s st al : ByteArray) (at_ : Nat) (w : World) (hs : s.size ≤ 1048576) (hat : at_ < s.size) (hr : RdrAt w R s at_ st) (hal : al.data.toList.contains s[at_] = true) :
    Calls Try.prog 86 #[.pointer (some ⟨R, 0, none⟩), .string al] w fun e w' => e = .returned (.int .u8 (s[at_].toNat)) ∧ RdrAt w' R s (at_ + 1) st ∧ w.grownBy w' (some R) := by
  obtain ⟨hc0, hc1, hc2, hf, hlt⟩ := rdr_cells hr
  have hd : ((at_ : Int) == (s.size : Int)) = false := by rw [beq_eq_false_iff_ne]; omega
  have hi : (at_ : Int) < (s.size : Int) := by omega
  have hi0 : (0 : Int) ≤ (at_ : Int) := by omega
  have hx : decide (Lib.indexByte al.data.toList s[at_] < 0) = false := by rw [hasByte, hal]; rfl
  have HC : Hid (∀ W, Calls Try.prog 94 #[.string al, .int .u8 (s[at_].toNat)] W fun e w' => e = .returned (.int .i64 (Lib.indexByte al.data.toList s[at_])) ∧ w' = W) := fun W => by
    have := Try.strings_IndexByte al (s[at_].toNat) W
    rwa [byte_u8] at this
  have HR := Lib.hid hr
  clear hr hal
  go_enter Try.func86, Try.ntmps86
  go_wp2_with fail
  go_quiet ((go_at_call 94; exact Calls.quiet_of_same (HC.out _)))
  go_wp2_with fail
  go_quiet (fail)
  go_wp2_with fail
  go_ret
  exact ⟨rfl, rdr_step HR.out _ (by omega), grown_set (grown_drewN (World.grownBy.refl _ _) _) 1 _⟩
theorem iTake_is {R : Nat} {s st al : ByteArray} {at_ c : Nat} {w : World} (hs : s.size ≤ 1048576) (hat : at_ < s.size) (hc : s[at_].toNat = c) (hr : RdrAt w R s at_ st) (hal : al.data.toList.contains s[at_] = true) :
    Calls Try.prog 86 #[.pointer (some ⟨R, 0, none⟩), .string al] w fun e w' => e = .returned (.int .u8 c) ∧ RdrAt w' R s (at_ + 1) st ∧ w.grownBy w' (some R) := by
  subst hc; exact iTake_ok R s st al at_ w hs hat hr hal

/-! Reading. -/
def ReadPost (R : Nat) (s st : ByteArray) (o : Option (Sen × List Nat)) (w : World) (e : Ending) (w' : World) : Prop :=
  match o with
  | some (x, rest) => ∃ p at_, e = .returned (.pointer p) ∧ at_ ≤ s.size ∧ (bytesN s).drop at_ = rest ∧ RdrAt w' R s at_ st ∧ SenAt w' w.heap.size x p ∧ w.grownBy w' (some R)
  | none => Panics R w e w'
def startB (t : Int) (c : Nat) : Bool := decide (c = 49) || decide (c = 48) || decide (97 ≤ c ∧ (c : Int) - 97 < t) || decide (c = 33) || decide (c = 63) || decide (c = 40)
def StOk (t : Int) (st : ByteArray) : Prop := ∀ c : UInt8, st.data.toList.contains c = startB t c.toNat
def pairS (t : Int) (k : Nat) (l : List Nat) : Option (Sen × List Nat) :=
  match readS t k l with
  | some (x, m :: l2) =>
    match readS t k l2 with
    | some (y, e :: r) => if e = 41 then (twoS m x y).map fun z => (z, r) else none
    | _ => none
  | _ => none
theorem read_no (t : Int) (k c : Nat) (l : List Nat) (h : startB t c = false) : readS t (k + 1) (c :: l) = none := by
  unfold startB at h
  simp only [Bool.or_eq_false_iff, decide_eq_false_iff_not] at h
  unfold readS
  rw [if_neg h.1.1.1.1.1, if_neg h.1.1.1.1.2, if_neg h.1.1.1.2, if_neg h.1.1.2, if_neg h.1.2, if_neg h.2]
theorem read_empty (t : Int) : ∀ n, readS t n [] = none
  | 0 => rfl
  | _ + 1 => rfl
theorem drop_lt {s : ByteArray} {at_ m : Nat} {l : List Nat} (h : (bytesN s).drop at_ = m :: l) : ∃ h : at_ < s.size, s[at_].toNat = m ∧ (bytesN s).drop (at_ + 1) = l := by
  have hlt : at_ < s.size := by
    rcases Nat.lt_or_ge at_ s.size with h2 | h2
    · exact h2
    · rw [List.drop_eq_nil_of_le (by rw [bytesN_len]; exact h2)] at h; cases h
  rw [bytesN_drop hlt] at h
  injection h with h1 h2
  exact ⟨hlt, h1, h2⟩
theorem drop_end {s : ByteArray} {at_ : Nat} (h : (bytesN s).drop at_ = []) (hle : at_ ≤ s.size) : at_ = s.size := by
  have := List.drop_eq_nil_iff.1 h
  rw [bytesN_len] at this
  omega
theorem panics_trans {R : Nat} {w w1 : World} (hg : w.grownBy w1 (some R)) {e : Ending} {w' : World} (h : Panics R w1 e w') : Panics R w e w' := by
  obtain ⟨v, he, hg2⟩ := h
  exact ⟨v, he, hg.trans hg2⟩
def signs2 : ByteArray := ⟨#[38, 124, 62]⟩
theorem signs2_has (c : UInt8) : (ByteArray.mk #[38, 124, 62]).data.toList.contains c = (decide (c.toNat = 38) || decide (c.toNat = 124) || decide (c.toNat = 62)) := by
  rw [Bool.eq_iff_iff]
  simp only [List.contains_iff_mem, Bool.or_eq_true, decide_eq_true_eq]
  have e : ∀ k : UInt8, c = k ↔ c.toNat = k.toNat := fun k => UInt8.toNat_inj.symm
  simp [e]
  omega
theorem close_has (c : UInt8) : (ByteArray.mk #[41]).data.toList.contains c = decide (c.toNat = 41) := by
  rw [Bool.eq_iff_iff]
  simp only [List.contains_iff_mem, decide_eq_true_eq]
  have e : ∀ k : UInt8, c = k ↔ c.toNat = k.toNat := fun k => UInt8.toNat_inj.symm
  simp [e]
theorem twoS_none {m : Nat} {x y : Sen} (h : (decide (m = 38) || decide (m = 124) || decide (m = 62)) = false) : twoS m x y = none := by
  simp only [Bool.or_eq_false_iff, decide_eq_false_iff_not] at h
  unfold twoS
  rw [if_neg h.1.1, if_neg h.1.2, if_neg h.2]
end Go.Proofs.Ytmdogidflaplkaa
