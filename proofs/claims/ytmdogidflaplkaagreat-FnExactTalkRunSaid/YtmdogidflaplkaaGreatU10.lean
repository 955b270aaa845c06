/-
  What the proofs of this seat's statements share (Held, Supg, Supi, Byt).
-/
import Derived.Deep.RegionHeld3
import Derived.OrdersIn
import Derived.RangeFuncCalls
import Derived.TacticsIn
import Derived.Sort.CutIn
import Derived.Test.YtmdogidflaplkaaGreatU9
import Derived.Test.YtmdogidflaplkaaGreatU1

namespace Go.Proofs.YtmdogidflaplkaaGreat
open Go.RowKit

theorem oper_round {l n : Nat} {P : Program} {o : Oper} {a : Act} {w : World} {K : Act → World → Prop} {Q : Exit → Act → World → Prop} (hd : ∀ c, o.op ≠ .defer c) (h : o.wp P a w K Q) : o.wpIn (Fence.wide.inRound l) n P a w K Q := by
  refine ⟨fun _ _ => trivial, ?_⟩
  rw [Oper.semAt_eq _ _ _ hd]
  unfold Oper.wp at h
  generalize (execOp a.eval o).run P w = r at h ⊢
  cases r with
  | ok x w' =>
    cases x with
    | value v => exact h
    | skip => exact h
    | defer d => exact h
    | enter f args =>
      refine ⟨fun e => (by cases e), ?_⟩
      refine (callsIn_wide (n := n - 1)).2 ?_
      refine Calls.mono h fun e w'' he => ?_
      cases e <;> exact he
    | row r args =>
      refine ⟨fun e => (by cases e), fun c cs _ => ?_⟩
      obtain ⟨v, w'', hr, hs⟩ := h c cs
      exact ⟨v, w'', hr, stepsIn_wide.2 hs⟩
    | _ => exact h.elim
  | halt x w' => cases x <;> exact h
def noDefer (o : Oper) : Bool := match o.op with | .defer _ => false | _ => true
theorem noDefer_ne {o : Oper} (h : noDefer o = true) : ∀ c, o.op ≠ .defer c := fun c e => by unfold noDefer at h; rw [e] at h; cases h
theorem anyIn_round {l n : Nat} {P : Program} {md : Region.Mode} {ops : Array Oper} {Q : Exit → Act → World → Prop} (hd : ops.all noDefer = true) (hQ : ¬ LetsOut Q) :
    ∀ (fuel : Nat) (listed : Array Bool) (a : Act) (w : World), wpAny P md ops Q fuel listed a w → wpAnyIn (Fence.wide.inRound l) n P md ops Q fuel listed a w
  | 0, _, _, _, h => h
  | fuel + 1, listed, a, w, h => by
    refine ⟨h.1, fun i hi => ?_⟩
    have h2 := h.2 i hi
    unfold wpOp at h2
    unfold wpOpIn
    cases ho : ops[i]? with
    | none => rw [ho] at h2; exact anyIn_round hd hQ fuel _ _ _ h2
    | some o =>
      rw [ho] at h2
      simp only at h2 ⊢
      have hdo : noDefer o = true := by
        obtain ⟨hlt, e⟩ := Array.getElem?_eq_some_iff.1 ho
        rw [Array.all_eq_true] at hd
        have := hd i hlt
        rwa [e] at this
      split
      · rename_i hw
        rw [if_pos hw] at h2
        rcases h2 with h2 | h2
        · exact oper_round (noDefer_ne hdo) (Oper.wp_mono (fun a w => anyIn_round hd hQ fuel _ a w) h2)
        · exact absurd h2.2 hQ
      · rename_i hw
        rw [if_neg hw] at h2
        exact ⟨fun _ _ => trivial, anyIn_round hd hQ fuel _ _ _ h2⟩
/-- The beginning, in a round. -/
theorem round_held {l n : Nat} {P : Program} {ops : Array Oper} {Q : Exit → Act → World → Prop} {S : World → Prop} {id : Nat} {a : Act} {w : World} (hm : P.follows .mixedOrders = true) (hd : ops.all noDefer = true) (hQ : ¬ LetsOut Q) (hS : S w.drew)
    (h : S w.drew → wpAnyH P .any ops Q S ops.size (Array.replicate ops.size false) a w.drew) : (Code.region id ops true).wpIn (Fence.wide.inRound l) n P Q a w :=
  wpIn_region_any hm (anyIn_round hd hQ _ _ _ _ (wpAny_of_held _ _ _ _ (h hS)))
end Go.Proofs.YtmdogidflaplkaaGreat

namespace Go.Proofs.YtmdogidflaplkaaGreat
open Go.RowKit Go.Shelf
attribute [local go_sem] Oper.semAt_some

def KidPost (P : World → Value → Prop) (w : World) (e : Ending) (w' : World) : Prop := ∃ A n c, e = .returned (.slice A n c) ∧ P w' (.slice A n c) ∧ Below w.heap.size w w'
def Kid1 (t s : Int) (x : Sen) (w : World) (v : Value) : Prop :=
  match x with
  | .no a => TellsV w v s (holdsS t a)
  | .ask a => TellsV w v s (holdsS t a)
  | .and_ a _ => TellsV w v s (holdsS t a)
  | .or_ a _ => TellsV w v s (holdsS t a)
  | .if_ a _ => TellsV w v s (holdsS t a)
  | _ => True
def Kid2 (t s : Int) (x : Sen) (w : World) (v : Value) : Prop :=
  match x with
  | .and_ _ a => TellsV w v s (holdsS t a)
  | .or_ _ a => TellsV w v s (holdsS t a)
  | .if_ _ a => TellsV w v s (holdsS t a)
  | _ => True
theorem Kid1.below {t s : Int} {x : Sen} {w w' : World} {v : Value} (h : Kid1 t s x w v) (hb : Below w.heap.size w w') : Kid1 t s x w' v := by
  cases x <;> first | exact TellsV.below h hb | trivial
theorem Kid2.below {t s : Int} {x : Sen} {w w' : World} {v : Value} (h : Kid2 t s x w v) (hb : Below w.heap.size w w') : Kid2 t s x w' v := by
  cases x <;> first | exact TellsV.below h hb | trivial
theorem zero_within (s : Int) : withinB 0 s = true := by unfold withinB andI; simp
theorem Told.set {w : World} {b o n : Nat} {s : Int} {f : Int → Bool} {B k c : Nat} {t : TypeId} {A : Option Addr} (h : Told w b o n s f) (hx : Boxed w B t (.slice A k c)) (v : Value) : Told (w.setCell ⟨B, 0, none⟩ v) b o n s f := by
  have hne : B ≠ b := by
    rintro rfl
    have h0 := (h.2 0 (Int.le_refl _) (zero_within s)).2
    simp [World.cell?, show w.heap[B]? = _ from hx] at h0
    cases o with
    | zero => simp at h0
    | succ o => simp at h0
  exact ⟨by have := (KeepsWalks.setCell w ⟨B, 0, none⟩ v).size; have := h.1; omega, fun u h0 hu => ⟨(h.2 u h0 hu).1, (World.cell?_setCell_far _ _ _ _ hne).trans (h.2 u h0 hu).2⟩⟩
theorem TellsV.set {w : World} {v : Value} {s : Int} {f : Int → Bool} {B k c : Nat} {t : TypeId} {A : Option Addr} (h : TellsV w v s f) (hx : Boxed w B t (.slice A k c)) (u : Value) : TellsV (w.setCell ⟨B, 0, none⟩ u) v s f := by
  obtain ⟨b, o, n, c', rfl, h⟩ := h; exact ⟨b, o, n, c', rfl, h.set hx u⟩
theorem Kid1.set {t s : Int} {x : Sen} {w : World} {v : Value} {B k c : Nat} {ty : TypeId} {A : Option Addr} (h : Kid1 t s x w v) (hx : Boxed w B ty (.slice A k c)) (u : Value) : Kid1 t s x (w.setCell ⟨B, 0, none⟩ u) v := by
  cases x <;> first | exact TellsV.set h hx u | trivial
theorem Kid2.set {t s : Int} {x : Sen} {w : World} {v : Value} {B k c : Nat} {ty : TypeId} {A : Option Addr} (h : Kid2 t s x w v) (hx : Boxed w B ty (.slice A k c)) (u : Value) : Kid2 t s x (w.setCell ⟨B, 0, none⟩ u) v := by
  cases x <;> first | exact TellsV.set h hx u | trivial
theorem cut_size {W w2 : World} (h : Below W.drew.heap.size W.drew w2) : W.heap.size ≤ w2.heap.size := h.size
theorem cut_new {W w2 : World} (h : Below W.drew.heap.size W.drew w2) (o : Obj) : Below W.heap.size W (w2.alloc o) :=
  ((below_drewN (Below.refl W.heap.size W) 1).trans h).alloc (cut_size h) o
theorem cut_set {W w2 : World} {o : Obj} (h : Below (W.alloc o).drew.heap.size (W.alloc o).drew w2) (v : Value) : Below W.heap.size W (w2.setCell ⟨W.heap.size, 0, none⟩ v) := by
  have h1 : Below W.heap.size (W.alloc o).drew w2 := h.mono (by show W.heap.size ≤ (W.alloc o).heap.size; simp)
  exact ((below_drewN ((Below.refl W.heap.size W).alloc (Nat.le_refl _) o) 1).trans h1).setCell (p := ⟨W.heap.size, 0, none⟩) (Nat.le_refl _) v
def toldF {s : Int} (f : Int → Bool) (pre : List (Sub s)) : Nat → Value := fun i => .bool (decide ((i : Int) ∈ pre.map (·.1)) && f i)
theorem toldF_next {s : Int} {f : Int → Bool} (pre : List (Sub s)) (y : Sub s) (i : Nat) : (if i = y.1.toNat then Value.bool (f y.1) else toldF f pre i) = toldF f (pre ++ [y]) i := by
  have h0 := y.2.1
  unfold toldF
  by_cases e : i = y.1.toNat
  · rw [if_pos e]
    have e2 : (i : Int) = y.1 := by omega
    rw [e2, decide_eq_true (by simp)]; rfl
  · rw [if_neg e]
    congr 2
    rw [decide_eq_decide]
    have e2 : ¬ (i : Int) = y.1 := by omega
    simp [e2]
theorem row_keep {W W' : World} {row : Option Nat} {b n : Nat} {t : TypeId} {f : Nat → Value} (h : W.rowIs b t n f) (hg : W.grownBy W' row) (hr : ∀ r, row = some r → ∃ o : Obj, W.heap[r]? = some o ∧ o.isCells = false) : W'.rowIs b t n f := by
  refine h.of_block (hg.block b h.lt fun e => ?_)
  obtain ⟨o, ho, hc⟩ := hr b e.symm
  obtain ⟨C, hC, _⟩ := h
  rw [hC] at ho; cases ho; cases hc
structure SigHeld (N b B7 B8 T m : Nat) (t : Int) (sg : Nat) (v1 v2 : Value) (w : World) : Prop where
  c9 : w.cell? ⟨T + 1, 0, none⟩ = some (.slice (some ⟨T, 0, none⟩) (m + 1) (m + 1))
  ct : w.cell? ⟨N, 0, none⟩ = some (.int .i64 t)
  cb : w.cell? ⟨N + 1, 0, none⟩ = some (.pointer (some ⟨b, 0, none⟩))
  cs : w.cell? ⟨b, 0, none⟩ = some (.int .u8 sg)
  c7 : w.cell? ⟨B7, 0, none⟩ = some v1
  c8 : w.cell? ⟨B8, 0, none⟩ = some v2
theorem SigHeld.keep {N b B7 B8 T m : Nat} {t : Int} {sg : Nat} {v1 v2 : Value} {w w' : World} (h : SigHeld N b B7 B8 T m t sg v1 v2 w) (hk : ∀ a : Addr, a.block ≠ T → (w.cell? a).isSome = true → w'.cell? a = w.cell? a) (_h1 : N < T) (h2 : N + 1 < T) (h3 : b < T) (h4 : B7 < T) (h5 : B8 < T) : SigHeld N b B7 B8 T m t sg v1 v2 w' :=
  ⟨(hk _ (by show T + 1 ≠ T; omega) (by rw [h.c9]; rfl)).trans h.c9, (hk _ (by show N ≠ T; omega) (by rw [h.ct]; rfl)).trans h.ct, (hk _ (by show N + 1 ≠ T; omega) (by rw [h.cb]; rfl)).trans h.cb,
    (hk _ (by show b ≠ T; omega) (by rw [h.cs]; rfl)).trans h.cs, (hk _ (by show B7 ≠ T; omega) (by rw [h.c7]; rfl)).trans h.c7, (hk _ (by show B8 ≠ T; omega) (by rw [h.c8]; rfl)).trans h.c8⟩
theorem SigHeld.below {N b B7 B8 T m : Nat} {t : Int} {sg : Nat} {v1 v2 : Value} {w w' : World} (h : SigHeld N b B7 B8 T m t sg v1 v2 w) (hb : Below w.heap.size w w') : SigHeld N b B7 B8 T m t sg v1 v2 w' :=
  ⟨(hb.cell (World.block_lt_of_cell? w _ h.c9)).trans h.c9, (hb.cell (World.block_lt_of_cell? w _ h.ct)).trans h.ct, (hb.cell (World.block_lt_of_cell? w _ h.cb)).trans h.cb,
    (hb.cell (World.block_lt_of_cell? w _ h.cs)).trans h.cs, (hb.cell (World.block_lt_of_cell? w _ h.c7)).trans h.c7, (hb.cell (World.block_lt_of_cell? w _ h.c8)).trans h.c8⟩
theorem keeps_below {w w' : World} (h : Below w.heap.size w w') : KeepsOthers w w' := ⟨h.size, fun k _ hk _ => (h.block k (Array.getElem?_eq_some_iff.1 hk).1).trans hk⟩
theorem kids_told {t s : Int} {x : Sen} {w : World} {v1 v2 : Value} (h1 : Kid1 t s x w v1) (h2 : Kid2 t s x w v2) : KidsTold w t x s v1 v2 := by
  cases x <;> first | exact ⟨h1, h2⟩ | exact h1 | trivial
theorem bool_info : (Tryz.prog.info? 4).map (fun i => (i.zero, i.size, i.bytes)) = some (some (.bool false), 1, 1) := by kernel_rfl
abbrev NodeAt (w : World) (b : Nat) (sg : Nat) (q1 q2 : Option Addr) : Prop := w.heap[b]? = some (.cells #[.int .u8 sg, .pointer q1, .pointer q2] 133 (0, 0))
theorem node_cells {w : World} {b sg : Nat} {q1 q2 : Option Addr} (h : NodeAt w b sg q1 q2) : w.cell? ⟨b, 0, none⟩ = some (.int .u8 sg) ∧ w.cell? ⟨b, 1, none⟩ = some (.pointer q1) ∧ w.cell? ⟨b, 2, none⟩ = some (.pointer q2) ∧ b < w.heap.size := by
  refine ⟨?_, ?_, ?_, (Array.getElem?_eq_some_iff.1 h).1⟩ <;> simp [World.cell?, show w.heap[b]? = _ from h]

set_option maxRecDepth 100000 in
set_option maxHeartbeats 4000000 in
theorem iSupporting_node (t : Int) (m : Nat) (x : Sen) (b : Nat) (q1 q2 : Option Addr) (w : World) (hx : senOk t x = true) (h1 : 1 ≤ t) (h3 : t ≤ 3) (hs : (m : Int) ≤ allOf t) (hnode : NodeAt w b (signS x) q1 q2)
    (hk1 : ∀ W, Below w.heap.size w W → Calls Tryz.prog 87 #[.int .i64 t, .int .i64 m, .pointer q1] W (KidPost (Kid1 t m x) W))
    (hk2 : ∀ W, Below w.heap.size w W → Calls Tryz.prog 87 #[.int .i64 t, .int .i64 m, .pointer q2] W (KidPost (Kid2 t m x) W)) :
    Calls Tryz.prog 87 #[.int .i64 t, .int .i64 m, .pointer (some ⟨b, 0, none⟩)] w (KidPost (fun W v => TellsV W v m (holdsS t x)) w) := by
  have hal := (allOf_lt t).2
  have hm : m < 256 := by omega
  refine (callsIn_wide (n := 5)).1 ?_
  have HK1 := Lib.hid hk1
  have HK2 := Lib.hid hk2
  obtain ⟨hc0, hc1, hc2, hlt⟩ := node_cells hnode
  have HN := Lib.hid hnode
  clear hk1 hk2 hnode hal
  refine callsIn_of_wp_marks Tryz.func87 rfl trivial ?_ rfl
  simp only [Tryz.ntmps87, List.size_toArray, List.length_cons, List.length_nil, Nat.reduceAdd, Nat.reduceSub, Array.replicate_succ, Array.replicate_zero, List.push_toArray, List.append_toArray, List.nil_append, List.cons_append]
  gi_wp2_with fail
  obtain ⟨W1, hW1⟩ : ∃ W1, (w.alloc (.cells #[.int .i64 t] 3)).alloc (.cells #[.pointer (some ⟨b, 0, none⟩)] 83) = W1 := ⟨_, rfl⟩
  have X0 : Boxed W1 w.heap.size 3 (.int .i64 t) := by rw [← hW1]; exact (Boxed.new w 3 (.int .i64 t)).alloc _
  have X1 : Boxed W1 (w.heap.size + 1) 83 (.pointer (some ⟨b, 0, none⟩)) := by rw [← hW1]; have := Boxed.new (w.alloc (.cells #[.int .i64 t] 3)) 83 (.pointer (some ⟨b, 0, none⟩)); rwa [World.size_alloc] at this
  have B1 : Below w.heap.size w W1 := by rw [← hW1]; exact ((Below.refl _ w).alloc (Nat.le_refl _) _).alloc (by simp) _
  have HSZ : Hid (w.heap.size + 2 ≤ W1.heap.size) := by unfold Hid; rw [← hW1]; simp
  rw [hW1]
  have hx0 := X0.cell
  have hx1 := X1.cell
  have hn1 : W1.cell? ⟨b, 1, none⟩ = some (.pointer q1) := (B1.cell (p := ⟨b, 1, none⟩) hlt).trans hc1
  have HB1 := Lib.hid B1
  have HX0 := Lib.hid X0
  replace HN := Lib.hid ((B1.block b hlt).trans HN.out)
  have HX1 := Lib.hid X1
  have HLT := Lib.hid hlt
  clear hW1 B1 X0 X1 hc0 hc1 hc2 hlt
  have hsz : w.heap.size + 2 ≤ W1.heap.size := HSZ.out
  have HBd7 : Hid (Below w.heap.size w W1.drew) := bel_drewN HB1.out 1
  have HBa7 : Hid (Below w.heap.size w (W1.alloc (.cells #[.slice none 0 0] 116)).drew) := bel_drewN (HB1.out.alloc HB1.out.size _) 1
  have X0a7 : Hid (Boxed (W1.alloc (.cells #[.slice none 0 0] 116)).drew w.heap.size 3 (.int .i64 t)) := HX0.out.alloc _
  have X1a7 : Hid (Boxed (W1.alloc (.cells #[.slice none 0 0] 116)).drew (w.heap.size + 1) 83 (.pointer (some ⟨b, 0, none⟩))) := HX1.out.alloc _
  have XBa7 : Hid (Boxed (W1.alloc (.cells #[.slice none 0 0] 116)).drew W1.heap.size 116 (.slice none 0 0)) := Boxed.new W1 _ _
  have XNa7 : Hid ((W1.alloc (.cells #[.slice none 0 0] 116)).drew.cell? ⟨b, 1, none⟩ = some (.pointer q1)) := (((Below.refl _ W1).alloc (Nat.le_refl _) _).cell (p := ⟨b, 1, none⟩) (by have := HLT.out; show b < _; omega)).trans hn1
  gi_cut [7] from 13 (fun sv wc => ∃ Bk A n c, sv = .pointer (some ⟨Bk, 0, none⟩) ∧ Boxed wc Bk 116 (.slice A n c) ∧ w.heap.size ≤ Bk ∧ Kid1 t m x wc (.slice A n c) ∧ Below W1.heap.size W1 wc)
  case first =>
    refine wpIn_wide.2 ?_
    go_region_held3 (fun w' => w'.cell? ⟨w.heap.size, 0, none⟩ = some (.int .i64 t) ∧ w'.cell? ⟨w.heap.size + 1, 0, none⟩ = some (.pointer (some ⟨b, 0, none⟩)) ∧ w'.cell? ⟨b, 1, none⟩ = some (.pointer q1))
      (first | go_keep | exact ⟨he0, he1, he2⟩ | exact ⟨(World.cell?_setCell_far _ _ _ _ (by show W1.heap.size ≠ w.heap.size; omega)).trans he0, (World.cell?_setCell_far _ _ _ _ (by show W1.heap.size ≠ w.heap.size + 1; omega)).trans he1, (World.cell?_setCell_far _ _ _ _ (by show W1.heap.size ≠ b; have := HLT.out; omega)).trans he2⟩)
      (first
        | (go_at_call 87; ((with_reducible refine (HK1.out W1.drew HBd7.out).mono ?_)); rintro e w2 ⟨A, n, c, rfl, hP, hb⟩; have he0 := (hb.cell (p := ⟨w.heap.size, 0, none⟩) (by simp; omega)).trans hx0; have he1 := (hb.cell (p := ⟨w.heap.size + 1, 0, none⟩) (by simp; omega)).trans hx1; have he2 := (hb.cell (p := ⟨b, 1, none⟩) (by have := HLT.out; simp; omega)).trans hn1; have HB2 := Lib.hid hb; have HP := Lib.hid hP; clear hb hP)
        | (go_at_call 87; ((with_reducible refine (HK1.out (W1.alloc (.cells #[.slice none 0 0] 116)).drew HBa7.out).mono ?_)); rintro e w2 ⟨A, n, c, rfl, hP, hb⟩; have he0 := (hb.cell (p := ⟨w.heap.size, 0, none⟩) (by simp; omega)).trans ((X0a7.out).cell); have he1 := (hb.cell (p := ⟨w.heap.size + 1, 0, none⟩) (by simp; omega)).trans ((X1a7.out).cell); have he2 := (hb.cell (p := ⟨b, 1, none⟩) (by have := HLT.out; simp; omega)).trans XNa7.out; have XB2 := Lib.hid (Boxed.below XBa7.out hb); have he3 := XB2.out.cell; have he4 := XB2.out.frozen; have HB2 := Lib.hid hb; have HP := Lib.hid hP; clear hb hP))
    all_goals
      gi_wp2_with fail
      gi_meet
      case rel =>
        first
          | exact ⟨_, _, _, _, rfl, Boxed.new _ _ _, by have := cut_size HB2.out; omega, Kid1.below HP.out ((Below.refl _ _).alloc (Nat.le_refl _) _), cut_new HB2.out _⟩
          | exact ⟨_, _, _, _, rfl, XB2.out.set _, by omega, Kid1.set HP.out XB2.out _, cut_set HB2.out _⟩
  case rest =>
    obtain ⟨B7, A1, n1, c1, rfl, X7, hB7, hk1, hb7⟩ := hcut
    have hszc : w.heap.size + 2 ≤ wc.heap.size := by have := hb7.size; omega
    replace HB1 := Lib.hid (bel_trans HB1.out (hb7.mono (Nat.le_refl _)))
    replace HX0 := Lib.hid (Boxed.below HX0.out hb7)
    replace HX1 := Lib.hid (Boxed.below HX1.out hb7)
    replace HN := Lib.hid ((hb7.block b (by have := HLT.out; omega)).trans HN.out)
    have hx0 := HX0.out.cell
    have hx1 := HX1.out.cell
    have hn2 := (node_cells HN.out).2.2.1
    have HX7 := Lib.hid X7
    have HKD1 := Lib.hid hk1
    have hlt7 : B7 < wc.heap.size := X7.lt
    clear X7 hk1 hb7
    obtain ⟨W2, rfl⟩ : ∃ W2, W2 = wc := ⟨_, rfl⟩
    gi_wp2_with fail
    have HBd8 : Hid (Below w.heap.size w W2.drew) := bel_drewN HB1.out 1
    have HBa8 : Hid (Below w.heap.size w (W2.alloc (.cells #[.slice none 0 0] 116)).drew) := bel_drewN (HB1.out.alloc HB1.out.size _) 1
    have X0a8 : Hid (Boxed (W2.alloc (.cells #[.slice none 0 0] 116)).drew w.heap.size 3 (.int .i64 t)) := HX0.out.alloc _
    have X1a8 : Hid (Boxed (W2.alloc (.cells #[.slice none 0 0] 116)).drew (w.heap.size + 1) 83 (.pointer (some ⟨b, 0, none⟩))) := HX1.out.alloc _
    have XBa8 : Hid (Boxed (W2.alloc (.cells #[.slice none 0 0] 116)).drew W2.heap.size 116 (.slice none 0 0)) := Boxed.new W2 _ _
    have XNa8 : Hid ((W2.alloc (.cells #[.slice none 0 0] 116)).drew.cell? ⟨b, 2, none⟩ = some (.pointer q2)) := (((Below.refl _ W2).alloc (Nat.le_refl _) _).cell (p := ⟨b, 2, none⟩) (by have := HLT.out; show b < _; omega)).trans hn2
    gi_cut [8] from 20 (fun sv wc => ∃ Bk A n c, sv = .pointer (some ⟨Bk, 0, none⟩) ∧ Boxed wc Bk 116 (.slice A n c) ∧ w.heap.size ≤ Bk ∧ Kid2 t m x wc (.slice A n c) ∧ Below W2.heap.size W2 wc)
    case first =>
      refine wpIn_wide.2 ?_
      go_region_held3 (fun w' => w'.cell? ⟨w.heap.size, 0, none⟩ = some (.int .i64 t) ∧ w'.cell? ⟨w.heap.size + 1, 0, none⟩ = some (.pointer (some ⟨b, 0, none⟩)) ∧ w'.cell? ⟨b, 2, none⟩ = some (.pointer q2))
        (first | go_keep | exact ⟨he0, he1, he2⟩ | exact ⟨(World.cell?_setCell_far _ _ _ _ (by show W2.heap.size ≠ w.heap.size; omega)).trans he0, (World.cell?_setCell_far _ _ _ _ (by show W2.heap.size ≠ w.heap.size + 1; omega)).trans he1, (World.cell?_setCell_far _ _ _ _ (by show W2.heap.size ≠ b; have := HLT.out; omega)).trans he2⟩)
        (first
          | (go_at_call 87; ((with_reducible refine (HK2.out W2.drew HBd8.out).mono ?_)); rintro e w2 ⟨A, n, c, rfl, hP, hb⟩; have he0 := (hb.cell (p := ⟨w.heap.size, 0, none⟩) (by simp; omega)).trans hx0; have he1 := (hb.cell (p := ⟨w.heap.size + 1, 0, none⟩) (by simp; omega)).trans hx1; have he2 := (hb.cell (p := ⟨b, 2, none⟩) (by have := HLT.out; simp; omega)).trans hn2; have HB2 := Lib.hid hb; have HP := Lib.hid hP; clear hb hP)
          | (go_at_call 87; ((with_reducible refine (HK2.out (W2.alloc (.cells #[.slice none 0 0] 116)).drew HBa8.out).mono ?_)); rintro e w2 ⟨A, n, c, rfl, hP, hb⟩; have he0 := (hb.cell (p := ⟨w.heap.size, 0, none⟩) (by simp; omega)).trans ((X0a8.out).cell); have he1 := (hb.cell (p := ⟨w.heap.size + 1, 0, none⟩) (by simp; omega)).trans ((X1a8.out).cell); have he2 := (hb.cell (p := ⟨b, 2, none⟩) (by have := HLT.out; simp; omega)).trans XNa8.out; have XB2 := Lib.hid (Boxed.below XBa8.out hb); have he3 := XB2.out.cell; have he4 := XB2.out.frozen; have HB2 := Lib.hid hb; have HP := Lib.hid hP; clear hb hP))
      all_goals
        gi_wp2_with fail
        gi_meet
        case rel =>
          first
            | exact ⟨_, _, _, _, rfl, Boxed.new _ _ _, by have := cut_size HB2.out; omega, Kid2.below HP.out ((Below.refl _ _).alloc (Nat.le_refl _) _), cut_new HB2.out _⟩
            | exact ⟨_, _, _, _, rfl, XB2.out.set _, by omega, Kid2.set HP.out XB2.out _, cut_set HB2.out _⟩
    case rest =>
      obtain ⟨B8, A2, n2, c2, rfl, X8, hB8, hk2, hb8⟩ := hcut
      have hszd : w.heap.size + 2 ≤ wc.heap.size := by have := hb8.size; omega
      obtain ⟨W3, rfl⟩ : ∃ W3, W3 = wc := ⟨_, rfl⟩
      replace HB1 := Lib.hid (bel_trans HB1.out hb8)
      replace HX0 := Lib.hid (Boxed.below HX0.out hb8)
      replace HX1 := Lib.hid (Boxed.below HX1.out hb8)
      replace HN := Lib.hid ((hb8.block b (by have := HLT.out; omega)).trans HN.out)
      replace HX7 := Lib.hid (Boxed.below HX7.out hb8)
      have HX8 := Lib.hid X8
      have HKT := Lib.hid (kids_told (HKD1.out.below hb8) hk2)
      have hlt8 : B8 < W3.heap.size := X8.lt
      have hlt7 : B7 < W3.heap.size := by have := hb8.size; omega
      clear X8 hk2 hb8 HKD1 hn1 hn2 hx0 hx1
      have hmk := fun W => run_make_row' (P := Tryz.prog) 116 4 (.bool false) 1 Tryz.underlying116 bool_info rfl .i64 .i64 (m + 1) (by omega) (by omega) W
      push_cast at hmk
      gi_wp2_with (refine ⟨trivial, ?_⟩; gi_at_call 109; refine (iSetsWithin _ _ _).mono ?_; rintro e w' ⟨rfl, rfl⟩)
      clear hmk
      have R0 := World.rowIs_made W3 (.bool false) (m + 1) 4
      have X9 := Boxed.new (W3.alloc (.cells (madeCells #[.bool false] (m + 1)) 4)) 116 (.slice (some ⟨W3.heap.size, 0, none⟩) (m + 1) (m + 1))
      have XS := Boxed.new ((W3.alloc (.cells (madeCells #[.bool false] (m + 1)) 4)).alloc (.cells #[.slice (some ⟨W3.heap.size, 0, none⟩) (m + 1) (m + 1)] 116)) 3 (.int .i64 m)
      simp only [World.size_alloc] at X9 XS
      have hB4 : Below W3.heap.size W3 (((W3.alloc (.cells (madeCells #[.bool false] (m + 1)) 4)).alloc (.cells #[.slice (some ⟨W3.heap.size, 0, none⟩) (m + 1) (m + 1)] 116)).alloc (.cells #[.int .i64 m] 3)) := (((Below.refl _ W3).alloc (Nat.le_refl _) _).alloc (by simp) _).alloc (by simp; omega) _
      refine wpIn_rangeFunc_ownF rfl (by decide) (gf := 118) (lb := #[.pointer (some ⟨W3.heap.size + 1 + 1, 0, none⟩)]) rfl trivial (enters_of Tryz.func118 (by kernel_rfl) rfl)
        (iSets_stops 4 (by decide) (W3.heap.size + 1 + 1) m (by omega) (by omega) _ (by simp) XS.cell) (fun h k => kept_t h k) (kept_b (by simp)) (Below.refl _ _) (fun _ => rfl)
        (fun pre W => (W.rowIs W3.heap.size 4 (m + 1) (toldF (holdsS t x) pre) ∧ Boxed W (W3.heap.size + 1) 116 (.slice (some ⟨W3.heap.size, 0, none⟩) (m + 1) (m + 1)) ∧ W3.heap.size + 3 ≤ W.heap.size) ∧ Below W3.heap.size W3 W)
        (fun _ _ _ => False)
        (OwnFrom.and (Own.from (fun s A B row hs hg hr => ⟨row_keep hs.1 hg hr, box_keep hs.2.1 hg hr, Nat.le_trans hs.2.2 hg.size⟩) _) (ownFrom_below (Nat.le_refl _) (by simp; omega)))
        (fun _ _ _ _ _ hs _ _ => hs)
        ⟨⟨((R0.alloc _).alloc _).congr (fun i hi => rfl), X9.alloc _, by simp⟩, hB4⟩
        (fun y => { tmps := #[.int .i64 t, .int .i64 m, .pointer (some ⟨b, 0, none⟩), .pointer (some ⟨w.heap.size, 0, none⟩), undef, .pointer (some ⟨w.heap.size + 1, 0, none⟩), .slice none 0 0, .pointer (some ⟨B7, 0, none⟩), .pointer (some ⟨B8, 0, none⟩), .pointer (some ⟨W3.heap.size + 1, 0, none⟩), .int .i64 y.1, .pointer (some ⟨b, 0, none⟩), .bool false, u13, u14, u15, u16, u17, u18, u19, u20, u21, u22, u23, u24, u25, u26, .int .i64 m, .int .i64 (m + 1), .slice (some ⟨W3.heap.size, 0, none⟩) (m + 1) (m + 1), .int .i64 m, .func (.func 118) #[] #[.pointer (some ⟨W3.heap.size + 1 + 1, 0, none⟩)], .int .i64 y.1, u33, u34, u35, u36, u37, u38, u39, u40, u41, u42, u43, u44, u45], defers := [] }) ?assign ?body ?done ?stop
      case assign =>
        intro l y W K hK
        gi_wp2
        exact hK
      case body =>
        rintro l pre y W ⟨⟨hR, h9, hszW⟩, hB⟩ _
        have hy0 := y.2.1
        have hy1 := y.2.2.1
        have HKY : Hid (KidsTold W.drew t x y.1 (.slice A1 n1 c1) (.slice A2 n2 c2)) := (HKT.out.below (below_drewN hB 1)).sub (s2 := y.1) hy0 y.2.2.2
        have hsg := Lib.hid (node_cells ((hB.block b (by have := HLT.out; omega)).trans HN.out)).1
        have HS : Hid (SigHeld w.heap.size b B7 B8 W3.heap.size m t (signS x) (.slice A1 n1 c1) (.slice A2 n2 c2) W.drew) :=
          ⟨h9.cell, (Boxed.below HX0.out hB).cell, (Boxed.below HX1.out hB).cell, hsg.out, (Boxed.below HX7.out hB).cell, (Boxed.below HX8.out hB).cell⟩
        have hi1 : y.1 < (m : Int) + 1 := by omega
        have hcT := hR.cell (i := y.1.toNat) (by omega)
        have hfT := hR.frozen y.1.toNat
        have HR := Lib.hid hR
        have HBW := Lib.hid hB
        have H9 := Lib.hid h9
        clear hB hR h9
        gi_wp2
        refine round_held (S := SigHeld w.heap.size b B7 B8 W3.heap.size m t (signS x) (.slice A1 n1 c1) (.slice A2 n2 c2)) (by kernel_rfl) (by kernel_rfl) (fun ⟨_, _, h⟩ => h) HS.out (fun hHeld => ?_)
        refine wpAnyH_take (i := 0) (v := ?_) rfl (by kernel_rfl) (by kernel_rfl) (by kernel_rfl) (fun _ _ _ h => h) (Or.inl ⟨by rfl, ?hy⟩) hHeld ?_
        case hy => intro w' hSw; obtain ⟨f1, f2, f3, f4, f5, f6⟩ := hSw; go_simp; try with_reducible rfl
        simp only [List.getElem_toArray, List.getElem_cons_zero, Act.put, List.setIfInBounds_toArray, List.set_cons_zero, List.set_cons_succ]
        refine wpAnyH_take (i := 1) (v := ?_) rfl (by kernel_rfl) (by kernel_rfl) (by kernel_rfl) (fun _ _ _ h => h) (Or.inl ⟨by rfl, ?hy⟩) hHeld ?_
        case hy => intro w' hSw; obtain ⟨f1, f2, f3, f4, f5, f6⟩ := hSw; go_simp; try with_reducible rfl
        simp only [List.getElem_toArray, List.getElem_cons_succ, List.getElem_cons_zero, Act.put, List.setIfInBounds_toArray, List.set_cons_zero, List.set_cons_succ]
        refine wpAnyH_take (i := 2) (v := ?_) rfl (by kernel_rfl) (by kernel_rfl) (by kernel_rfl) (fun _ _ _ h => h) (Or.inl ⟨by rfl, ?hy⟩) hHeld ?_
        case hy => intro w' hSw; obtain ⟨f1, f2, f3, f4, f5, f6⟩ := hSw; go_simp; try with_reducible rfl
        simp only [List.getElem_toArray, List.getElem_cons_succ, List.getElem_cons_zero, Act.put, List.setIfInBounds_toArray, List.set_cons_zero, List.set_cons_succ]
        refine wpAnyH_take (i := 3) (v := ?_) rfl (by kernel_rfl) (by kernel_rfl) (by kernel_rfl) (fun _ _ _ h => h) (Or.inl ⟨by rfl, ?hy⟩) hHeld ?_
        case hy => intro w' hSw; obtain ⟨f1, f2, f3, f4, f5, f6⟩ := hSw; go_simp; try with_reducible rfl
        simp only [List.getElem_toArray, List.getElem_cons_succ, List.getElem_cons_zero, Act.put, List.setIfInBounds_toArray, List.set_cons_zero, List.set_cons_succ]
        refine wpAnyH_take (i := 4) (v := ?_) rfl (by kernel_rfl) (by kernel_rfl) (by kernel_rfl) (fun _ _ _ h => h) (Or.inl ⟨by rfl, ?hy⟩) hHeld ?_
        case hy => intro w' hSw; obtain ⟨f1, f2, f3, f4, f5, f6⟩ := hSw; go_simp; try with_reducible rfl
        simp only [List.getElem_toArray, List.getElem_cons_succ, List.getElem_cons_zero, Act.put, List.setIfInBounds_toArray, List.set_cons_zero, List.set_cons_succ]
        refine wpAnyH_take (i := 5) (v := ?_) rfl (by kernel_rfl) (by kernel_rfl) (by kernel_rfl) (fun _ _ _ h => h) (Or.inl ⟨by rfl, ?hy⟩) hHeld ?_
        case hy => intro w' hSw; obtain ⟨f1, f2, f3, f4, f5, f6⟩ := hSw; go_simp; try with_reducible rfl
        simp only [List.getElem_toArray, List.getElem_cons_succ, List.getElem_cons_zero, Act.put, List.setIfInBounds_toArray, List.set_cons_zero, List.set_cons_succ]
        refine wpAnyH_take (i := 6) (v := ?_) rfl (by kernel_rfl) (by kernel_rfl) (by kernel_rfl) (fun _ _ _ h => h) (Or.inl ⟨by rfl, ?hy⟩) hHeld ?_
        case hy => intro w' hSw; obtain ⟨f1, f2, f3, f4, f5, f6⟩ := hSw; go_simp; try with_reducible rfl
        simp only [List.getElem_toArray, List.getElem_cons_succ, List.getElem_cons_zero, Act.put, List.setIfInBounds_toArray, List.set_cons_zero, List.set_cons_succ]
        refine wpAnyH_take (i := 7) (v := ?_) rfl (by kernel_rfl) (by kernel_rfl) (by kernel_rfl) (fun _ _ _ h => h) (Or.inl ⟨by rfl, ?hy⟩) hHeld ?_
        case hy => intro w' hSw; obtain ⟨f1, f2, f3, f4, f5, f6⟩ := hSw; go_simp; try with_reducible rfl
        simp only [List.getElem_toArray, List.getElem_cons_succ, List.getElem_cons_zero, Act.put, List.setIfInBounds_toArray, List.set_cons_zero, List.set_cons_succ]
        refine wpAnyH_take (i := 8) (v := ?_) rfl (by kernel_rfl) (by kernel_rfl) (by kernel_rfl) (fun _ _ _ h => h) (Or.inl ⟨by rfl, ?hy⟩) hHeld ?_
        case hy => intro w' hSw; obtain ⟨f1, f2, f3, f4, f5, f6⟩ := hSw; go_simp; try with_reducible rfl
        simp only [List.getElem_toArray, List.getElem_cons_succ, List.getElem_cons_zero, Act.put, List.setIfInBounds_toArray, List.set_cons_zero, List.set_cons_succ]
        refine wpAnyH_take (i := 9) (v := ?_) rfl (by kernel_rfl) (by kernel_rfl) (by kernel_rfl) (fun _ _ _ h => h) (Or.inl ⟨by rfl, ?hy⟩) hHeld ?_
        case hy => intro w' hSw; obtain ⟨f1, f2, f3, f4, f5, f6⟩ := hSw; go_simp; try with_reducible rfl
        simp only [List.getElem_toArray, List.getElem_cons_succ, List.getElem_cons_zero, Act.put, List.setIfInBounds_toArray, List.set_cons_zero, List.set_cons_succ]
        refine wpAnyH_ready (rs := [10]) (by kernel_rfl) (by simp) (AllReadyH.cons (i := 10) rfl (fun K hK => ?_) AllReadyH.nil)
        go_simp
        go_at_call 110
        ((with_reducible refine (iBySign t y.1 x (.slice A1 n1 c1) (.slice A2 n2 c2) W.drew hx h1 h3 hy0 (by omega) HKY.out).mono ?_))
        rintro e w2 ⟨rfl, hb⟩
        have HB2 := Lib.hid hb
        have HCT := Lib.hid ((hb.cell (p := ⟨W3.heap.size, y.1.toNat, none⟩) (by show W3.heap.size < W.heap.size; omega)).trans hcT)
        have HFT := Lib.hid ((hb.frozen (p := ⟨W3.heap.size, y.1.toNat, none⟩) (by show W3.heap.size < W.heap.size; omega)).trans hfT)
        clear hb hcT hfT
        refine hK.out _ _ (hHeld.below HB2.out) (fun hHeld2 => ?_)
        clear hK K hHeld
        refine wpAnyH_take (i := 11) (v := ?_) rfl (by kernel_rfl) (by kernel_rfl) (by kernel_rfl) (fun _ _ _ h => h) (Or.inl ⟨by rfl, ?hy⟩) hHeld2 ?_
        case hy => intro w' hSw; clear hSw; go_simp; try with_reducible rfl
        simp only [List.getElem_toArray, List.getElem_cons_succ, List.getElem_cons_zero, Act.put, List.setIfInBounds_toArray, List.set_cons_zero, List.set_cons_succ]
        refine wpAnyH_ready (rs := [12]) (by kernel_rfl) (by simp) (AllReadyH.cons (i := 12) rfl (fun K hK => ?_) AllReadyH.nil)
        have hct := HCT.out
        have hft := HFT.out
        go_simp
        clear hct hft
        have HST := Lib.hid (hHeld2.keep (w' := w2.setCell ⟨W3.heap.size, y.1.toNat, none⟩ (.bool (holdsS t x y.1))) (fun a ha _ => World.cell?_setCell_far _ _ _ _ (Ne.symm ha)) (by omega) (by omega) (by have := HLT.out; omega) hlt7 hlt8)
        refine hK.out _ _ HST.out (fun _ => ?_)
        clear hK K
        refine wpAnyH_done (by kernel_rfl) ?_ _
        have hb2 : Below W.heap.size W w2 := (below_drewN (Below.refl _ W) 1).trans HB2.out
        have hs2 := hb2.size
        have hkp : Below W3.heap.size W3 w2 := HBW.out.trans (hb2.mono (by omega))
        have hrow : w2.rowIs W3.heap.size 4 (m + 1) (toldF (holdsS t x) pre) := HR.out.of_block (hb2.block _ (by omega))
        refine ⟨(keeps_below hb2).trans (KeepsOthers.setCell _ _ _), ?_, ⟨?_, ?_, ?_⟩, ?_⟩
        · exact (Below.heap_setCell _ _ _ _ (by show W3.heap.size + 1 + 1 ≠ W3.heap.size; omega)).trans (hb2.block _ (by omega))
        · exact (hrow.set y.1.toNat (.bool (holdsS t x y.1))).congr (fun i _ => toldF_next pre y i)
        · exact ((Below.heap_setCell _ _ _ _ (by show W3.heap.size + 1 ≠ W3.heap.size; omega)).trans (hb2.block _ (by omega))).trans H9.out
        · have := (KeepsWalks.setCell w2 ⟨W3.heap.size, y.1.toNat, none⟩ (.bool (holdsS t x y.1))).size; omega
        · exact hkp.setCell (p := ⟨W3.heap.size, y.1.toNat, none⟩) (Nat.le_refl _) _
      case done =>
        rintro D ys W hD hfull ⟨⟨hR, h9, hszW⟩, hB⟩ hK
        have hc9 := h9.cell
        have HR := Lib.hid (row_keep hR (grownBy_putObj' W D (.deferred none)) (fun r e => by cases e; exact ⟨_, hK, rfl⟩))
        have HBB := Lib.hid (((HB1.out.trans (hB.mono (by omega))).trans (belowK_b (w := w) (Nat.le_refl _) W D _ (.deferred none) (by simp at hD; omega) hK rfl rfl)))
        gi_wp2
        refine ⟨by simp, .inl ⟨_, _, rfl, run_takeDeferred hK, ?_⟩⟩
        refine ⟨_, results_tmp rfl _ _ _, _, _, _, rfl, ⟨_, _, _, _, rfl, HR.out.lt, fun u h0 hu => ?_⟩, HBB.out⟩
        have hle := within_le hu (by omega)
        refine ⟨by omega, ?_⟩
        have := HR.out.cell (i := u.toNat) (by omega)
        rw [Nat.zero_add, this]
        unfold toldF
        rw [Int.toNat_of_nonneg h0, decide_eq_true (List.mem_map.2 ⟨⟨u, h0, hle, hu⟩, hfull _, rfl⟩)]
        rfl
      case stop =>
        rintro D c pre W _ _ h _
        exact h.elim
end Go.Proofs.YtmdogidflaplkaaGreat

namespace Go.Proofs.YtmdogidflaplkaaGreat
open Go.RowKit

/-- The sentence x stands at p, in blocks from lo on. -/
def SenAt (w : World) (lo : Nat) : Sen → Option Addr → Prop
  | .no a, p => ∃ b q, p = some ⟨b, 0, none⟩ ∧ lo ≤ b ∧ NodeAt w b 33 q none ∧ SenAt w lo a q
  | .ask a, p => ∃ b q, p = some ⟨b, 0, none⟩ ∧ lo ≤ b ∧ NodeAt w b 63 q none ∧ SenAt w lo a q
  | .and_ a c, p => ∃ b q r, p = some ⟨b, 0, none⟩ ∧ lo ≤ b ∧ NodeAt w b 38 q r ∧ SenAt w lo a q ∧ SenAt w lo c r
  | .or_ a c, p => ∃ b q r, p = some ⟨b, 0, none⟩ ∧ lo ≤ b ∧ NodeAt w b 124 q r ∧ SenAt w lo a q ∧ SenAt w lo c r
  | .if_ a c, p => ∃ b q r, p = some ⟨b, 0, none⟩ ∧ lo ≤ b ∧ NodeAt w b 62 q r ∧ SenAt w lo a q ∧ SenAt w lo c r
  | .one, p => ∃ b, p = some ⟨b, 0, none⟩ ∧ lo ≤ b ∧ NodeAt w b 49 none none
  | .zero, p => ∃ b, p = some ⟨b, 0, none⟩ ∧ lo ≤ b ∧ NodeAt w b 48 none none
  | .thing i, p => ∃ b, p = some ⟨b, 0, none⟩ ∧ lo ≤ b ∧ NodeAt w b (97 + i) none none
theorem NodeAt.keep {w w' : World} {b sg : Nat} {q r : Option Addr} (h : NodeAt w b sg q r) {lo : Nat} (hlo : lo ≤ b) (hk : ∀ b, lo ≤ b → b < w.heap.size → w'.heap[b]? = w.heap[b]?) : NodeAt w' b sg q r :=
  (hk b hlo (Array.getElem?_eq_some_iff.1 h).1).trans h
theorem SenAt.keep {w w' : World} {lo : Nat} (hk : ∀ b, lo ≤ b → b < w.heap.size → w'.heap[b]? = w.heap[b]?) : ∀ (x : Sen) (p : Option Addr), SenAt w lo x p → SenAt w' lo x p
  | .no a, _, ⟨b, q, hp, hl, hn, h⟩ => ⟨b, q, hp, hl, hn.keep hl hk, SenAt.keep hk a q h⟩
  | .ask a, _, ⟨b, q, hp, hl, hn, h⟩ => ⟨b, q, hp, hl, hn.keep hl hk, SenAt.keep hk a q h⟩
  | .and_ a c, _, ⟨b, q, r, hp, hl, hn, h, h2⟩ => ⟨b, q, r, hp, hl, hn.keep hl hk, SenAt.keep hk a q h, SenAt.keep hk c r h2⟩
  | .or_ a c, _, ⟨b, q, r, hp, hl, hn, h, h2⟩ => ⟨b, q, r, hp, hl, hn.keep hl hk, SenAt.keep hk a q h, SenAt.keep hk c r h2⟩
  | .if_ a c, _, ⟨b, q, r, hp, hl, hn, h, h2⟩ => ⟨b, q, r, hp, hl, hn.keep hl hk, SenAt.keep hk a q h, SenAt.keep hk c r h2⟩
  | .one, _, ⟨b, hp, hl, hn⟩ => ⟨b, hp, hl, hn.keep hl hk⟩
  | .zero, _, ⟨b, hp, hl, hn⟩ => ⟨b, hp, hl, hn.keep hl hk⟩
  | .thing _, _, ⟨b, hp, hl, hn⟩ => ⟨b, hp, hl, hn.keep hl hk⟩
theorem SenAt.below {w w' : World} {lo : Nat} {x : Sen} {p : Option Addr} (h : SenAt w lo x p) (hb : Below w.heap.size w w') : SenAt w' lo x p :=
  SenAt.keep (fun b _ hlt => hb.block b hlt) x p h
theorem SenAt.grown {w w' : World} {lo R : Nat} {x : Sen} {p : Option Addr} (h : SenAt w lo x p) (hg : w.grownBy w' (some R)) (hR : R < lo) : SenAt w' lo x p :=
  SenAt.keep (fun b hl hlt => hg.block b hlt (fun e => by cases e; omega)) x p h
theorem SenAt.low {w : World} {lo lo' : Nat} (hlo : lo' ≤ lo) : ∀ (x : Sen) (p : Option Addr), SenAt w lo x p → SenAt w lo' x p
  | .no a, _, ⟨b, q, hp, hl, hn, h⟩ => ⟨b, q, hp, by omega, hn, SenAt.low hlo a q h⟩
  | .ask a, _, ⟨b, q, hp, hl, hn, h⟩ => ⟨b, q, hp, by omega, hn, SenAt.low hlo a q h⟩
  | .and_ a c, _, ⟨b, q, r, hp, hl, hn, h, h2⟩ => ⟨b, q, r, hp, by omega, hn, SenAt.low hlo a q h, SenAt.low hlo c r h2⟩
  | .or_ a c, _, ⟨b, q, r, hp, hl, hn, h, h2⟩ => ⟨b, q, r, hp, by omega, hn, SenAt.low hlo a q h, SenAt.low hlo c r h2⟩
  | .if_ a c, _, ⟨b, q, r, hp, hl, hn, h, h2⟩ => ⟨b, q, r, hp, by omega, hn, SenAt.low hlo a q h, SenAt.low hlo c r h2⟩
  | .one, _, ⟨b, hp, hl, hn⟩ => ⟨b, hp, by omega, hn⟩
  | .zero, _, ⟨b, hp, hl, hn⟩ => ⟨b, hp, by omega, hn⟩
  | .thing _, _, ⟨b, hp, hl, hn⟩ => ⟨b, hp, by omega, hn⟩

set_option maxRecDepth 100000 in
set_option maxHeartbeats 4000000 in
theorem iSupporting_nil (t s : Int) (w : World) (P : World → Value → Prop) (hP : ∀ W v, P W v) : Calls Tryz.prog 87 #[.int .i64 t, .int .i64 s, .pointer none] w (KidPost P w) := by
  have HP := Lib.hid hP
  clear hP
  go_enter Tryz.func87, Tryz.ntmps87
  go_wp2_with fail
  go_ret
  exact ⟨_, _, _, rfl, HP.out _ _, ((Below.refl _ _).alloc (Nat.le_refl _) _).alloc (by simp) _⟩

theorem iSupporting (t : Int) (m : Nat) (h1 : 1 ≤ t) (h3 : t ≤ 3) (hs : (m : Int) ≤ allOf t) : ∀ (x : Sen) (p : Option Addr) (lo : Nat) (w : World), senOk t x = true → SenAt w lo x p →
    Calls Tryz.prog 87 #[.int .i64 t, .int .i64 m, .pointer p] w (KidPost (fun W v => TellsV W v m (holdsS t x)) w)
  | .no a, _, lo, w, hx, ⟨b, q, rfl, _, hn, h⟩ => iSupporting_node t m (.no a) b q none w hx h1 h3 hs hn (fun W hb => iSupporting t m h1 h3 hs a q lo W hx (h.below hb)) (fun W _ => iSupporting_nil t m W _ (fun _ _ => trivial))
  | .ask a, _, lo, w, hx, ⟨b, q, rfl, _, hn, h⟩ => iSupporting_node t m (.ask a) b q none w hx h1 h3 hs hn (fun W hb => iSupporting t m h1 h3 hs a q lo W hx (h.below hb)) (fun W _ => iSupporting_nil t m W _ (fun _ _ => trivial))
  | .and_ a c, _, lo, w, hx, ⟨b, q, r, rfl, _, hn, h, h2⟩ => by
    have hx2 := hx
    unfold senOk at hx2
    rw [Bool.and_eq_true] at hx2
    exact iSupporting_node t m (.and_ a c) b q r w hx h1 h3 hs hn (fun W hb => iSupporting t m h1 h3 hs a q lo W hx2.1 (h.below hb)) (fun W hb => iSupporting t m h1 h3 hs c r lo W hx2.2 (h2.below hb))
  | .or_ a c, _, lo, w, hx, ⟨b, q, r, rfl, _, hn, h, h2⟩ => by
    have hx2 := hx
    unfold senOk at hx2
    rw [Bool.and_eq_true] at hx2
    exact iSupporting_node t m (.or_ a c) b q r w hx h1 h3 hs hn (fun W hb => iSupporting t m h1 h3 hs a q lo W hx2.1 (h.below hb)) (fun W hb => iSupporting t m h1 h3 hs c r lo W hx2.2 (h2.below hb))
  | .if_ a c, _, lo, w, hx, ⟨b, q, r, rfl, _, hn, h, h2⟩ => by
    have hx2 := hx
    unfold senOk at hx2
    rw [Bool.and_eq_true] at hx2
    exact iSupporting_node t m (.if_ a c) b q r w hx h1 h3 hs hn (fun W hb => iSupporting t m h1 h3 hs a q lo W hx2.1 (h.below hb)) (fun W hb => iSupporting t m h1 h3 hs c r lo W hx2.2 (h2.below hb))
  | .one, _, _, w, hx, ⟨b, rfl, _, hn⟩ => iSupporting_node t m .one b none none w hx h1 h3 hs hn (fun W _ => iSupporting_nil t m W _ (fun _ _ => trivial)) (fun W _ => iSupporting_nil t m W _ (fun _ _ => trivial))
  | .zero, _, _, w, hx, ⟨b, rfl, _, hn⟩ => iSupporting_node t m .zero b none none w hx h1 h3 hs hn (fun W _ => iSupporting_nil t m W _ (fun _ _ => trivial)) (fun W _ => iSupporting_nil t m W _ (fun _ _ => trivial))
  | .thing i, _, _, w, hx, ⟨b, rfl, _, hn⟩ => iSupporting_node t m (.thing i) b none none w hx h1 h3 hs hn (fun W _ => iSupporting_nil t m W _ (fun _ _ => trivial)) (fun W _ => iSupporting_nil t m W _ (fun _ _ => trivial))

set_option maxRecDepth 100000 in
set_option maxHeartbeats 4000000 in
theorem iSupports (t : Int) (m : Nat) (h1 : 1 ≤ t) (h3 : t ≤ 3) (hs : (m : Int) ≤ allOf t) (x : Sen) (p : Option Addr) (lo : Nat) (w : World) (hx : senOk t x = true) (h : SenAt w lo x p) :
    Calls Tryz.prog 53 #[.int .i64 t, .int .i64 m, .pointer p] w fun e w' => e = .returned (.bool (holdsS t x m)) ∧ Below w.heap.size w w' := by
  have HS := Lib.hid (iSupporting t m h1 h3 hs x p lo w hx h)
  clear hx h
  go_enter Tryz.func53, Tryz.ntmps53
  go_wp2_with fail
  refine HS.out.mono ?_
  rintro e w2 ⟨_, _, _, rfl, ⟨b, o, n, c, he, hT⟩, hb⟩
  cases he
  obtain ⟨hlt, hc⟩ := hT.2 m (by omega) (within_refl m (by omega))
  have hc : w2.cell? ⟨b, o + m, none⟩ = some (.bool (holdsS t x m)) := hc
  have HB := Lib.hid hb
  clear hT hb HS
  go_wp2_with fail
  go_ret
  exact ⟨rfl, HB.out⟩
end Go.Proofs.YtmdogidflaplkaaGreat

namespace Go.Proofs.YtmdogidflaplkaaGreat
open Go.RowKit

def bytesN (s : ByteArray) : List Nat := s.data.toList.map UInt8.toNat
theorem bytesN_len (s : ByteArray) : (bytesN s).length = s.size := by unfold bytesN; rw [List.length_map]; rfl
theorem bytesN_drop {s : ByteArray} {at_ : Nat} (h : at_ < s.size) : (bytesN s).drop at_ = s[at_].toNat :: (bytesN s).drop (at_ + 1) := by
  rw [List.drop_eq_getElem_cons (by rw [bytesN_len]; exact h)]
  congr 1
  unfold bytesN
  rw [List.getElem_map]; rfl
end Go.Proofs.YtmdogidflaplkaaGreat
