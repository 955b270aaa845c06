/-
  What the proofs of this seat's statements share (StaO, FrmS, TlkM, StrC, DedS, DedT, DedI, DdO, BoxO, RdD, BldI, JnT, MrkT).
-/
import Derived.WalkKit
import Derived.ProofKit
import Derived.OpenShut
import Derived.ChangeOld
import Derived.SliceStrings
import Derived.Laws.Strings
import Derived.RangeFuncBox
import Derived.Deep.RegionWith
import Derived.Deep.Cut
import Derived.Deep.RegionHeld3
import Derived.Lib.Builder
import Derived.Laws.BytesArg
import Derived.Test.YtmdogidflaplkaaGreatU16
import Derived.Test.YtmdogidflaplkaaGreatU2
import Derived.Test.YtmdogidflaplkaaGreatU1
import Derived.Test.YtmdogidflaplkaaGreatU5

namespace Go.Proofs.YtmdogidflaplkaaGreat
open Go.RowKit

/-- The cells of states whose open questions stand in the given slices. -/
def cellsX (vs : List (Int × Value)) : List Value := vs.flatMap fun v => [.int .i64 v.1, v.2]
theorem cellsX_len (vs : List (Int × Value)) : (cellsX vs).length = vs.length * 2 := by
  unfold cellsX
  induction vs with
  | nil => rfl
  | cons v vs ih => rw [List.flatMap_cons, List.length_append, ih, List.length_cons]; simp; omega
theorem cellsX_append (vs us : List (Int × Value)) : cellsX (vs ++ us) = cellsX vs ++ cellsX us := by unfold cellsX; rw [List.flatMap_append]
theorem cellsX_get : ∀ (vs : List (Int × Value)) (i : Nat) (v : Int × Value), vs[i]? = some v → (cellsX vs)[i * 2]? = some (.int .i64 v.1) ∧ (cellsX vs)[i * 2 + 1]? = some v.2
  | [], i, v, h => by simp at h
  | u :: vs, 0, v, h => by
    simp only [List.getElem?_cons_zero, Option.some.injEq] at h
    subst h
    exact ⟨rfl, rfl⟩
  | u :: vs, i + 1, v, h => by
    rw [List.getElem?_cons_succ] at h
    have ih := cellsX_get vs i v h
    have e : cellsX (u :: vs) = .int .i64 u.1 :: u.2 :: cellsX vs := rfl
    rw [e, show (i + 1) * 2 = i * 2 + 1 + 1 by omega, show i * 2 + 1 + 1 + 1 = (i * 2 + 1) + 1 + 1 by omega]
    simpa using ih

/-! Read only. -/
/-- The slice at A reads as the states xs. -/
def StaRow (w : World) (A : Option Addr) (xs : List (St ByteArray)) : Prop :=
  0 < xs.length → ∃ b off, A = some ⟨b, off, none⟩ ∧ b < w.heap.size ∧ ∀ i x, xs[i]? = some x → ∃ Ai ci, w.cell? ⟨b, off + i * 2, none⟩ = some (.int .i64 x.known) ∧ w.cell? ⟨b, off + i * 2 + 1, none⟩ = some (.slice Ai x.op.length ci) ∧
    x.op.length ≤ ci ∧ ci ≤ maxLen ∧ Strs w Ai x.op
theorem StaRow.nil (w : World) (A : Option Addr) : StaRow w A [] := fun h => absurd h (by simp)
theorem StaRow.below {w w' : World} {A : Option Addr} {xs : List (St ByteArray)} (h : StaRow w A xs) (hb : Below w.heap.size w w') : StaRow w' A xs := by
  intro hn
  obtain ⟨b, off, rfl, hlt, hc⟩ := h hn
  refine ⟨b, off, rfl, Nat.lt_of_lt_of_le hlt hb.size, fun i x hx => ?_⟩
  obtain ⟨Ai, ci, h1, h2, h3, h4, h5⟩ := hc i x hx
  exact ⟨Ai, ci, (World.cell?_of_block (hb.block b hlt)).trans h1, (World.cell?_of_block (hb.block b hlt)).trans h2, h3, h4, h5.below hb⟩
theorem StaRow.drewN {w : World} {A : Option Addr} {xs : List (St ByteArray)} (h : StaRow w A xs) (n : Nat) : StaRow (w.drewN n) A xs := by
  intro hn
  obtain ⟨b, off, rfl, hlt, hc⟩ := h hn
  exact ⟨b, off, rfl, hlt, fun i x hx => by
    obtain ⟨Ai, ci, h1, h2, h3, h4, h5⟩ := hc i x hx
    exact ⟨Ai, ci, h1, h2, h3, h4, h5.drewN n⟩⟩
/-- One state: its cells, its slice. -/
theorem StaRow.elem {w : World} {A : Option Addr} {xs : List (St ByteArray)} (h : StaRow w A xs) {i : Nat} (hi : i < xs.length) :
    ∃ b off Ai ci x, A = some ⟨b, off, none⟩ ∧ w.cell? ⟨b, off + i * 2, none⟩ = some (.int .i64 x.known) ∧ w.cell? ⟨b, off + i * 2 + 1, none⟩ = some (.slice Ai x.op.length ci) ∧ x.op.length ≤ ci ∧ ci ≤ maxLen ∧ Hid (xs[i]? = some x) ∧ Hid (Strs w Ai x.op) ∧ Hid (b < w.heap.size) := by
  obtain ⟨b, off, rfl, hlt, hc⟩ := h (by omega)
  obtain ⟨Ai, ci, h1, h2, h3, h4, h5⟩ := hc i xs[i] (List.getElem?_eq_getElem hi)
  exact ⟨b, off, Ai, ci, xs[i], rfl, h1, h2, h3, h4, List.getElem?_eq_getElem hi, h5, hlt⟩

/-! Of the call's own. -/
structure SeesX (w : World) (base : Nat) (o : Option Nat) (vs : List (Int × Value)) (xs : List (St ByteArray)) : Prop where
  len : vs.length = xs.length
  at_ : ∀ (i : Nat) (x : St ByteArray), xs[i]? = some x → ∃ v, vs[i]? = some (x.known, v) ∧ OwnsS w base v x.op ∧ (v.ownBlock = none ∨ v.ownBlock ≠ o)
structure OwnsX (e : TypeId) (w : World) (base : Nat) (v : Value) (vs : List (Int × Value)) (xs : List (St ByteArray)) : Prop where
  row : w.ownsRow base e 2 v vs.length (cellsX vs)
  sees : SeesX w base v.ownBlock vs xs
theorem OwnsX.nil (e : TypeId) (w : World) (base : Nat) : OwnsX e w base (.slice none 0 0) [] [] := ⟨World.ownsRow_nil w base e 2, rfl, fun i x h => by simp at h⟩
theorem SeesX.below {w w' : World} {base : Nat} {o : Option Nat} {vs : List (Int × Value)} {xs : List (St ByteArray)} (h : SeesX w base o vs xs) (hb : Below w.heap.size w w') : SeesX w' base o vs xs :=
  ⟨h.len, fun i x hx => by obtain ⟨v, h1, h2, h3⟩ := h.at_ i x hx; exact ⟨v, h1, h2.below hb, h3⟩⟩
theorem OwnsX.below {e : TypeId} {w w' : World} {base : Nat} {v : Value} {vs : List (Int × Value)} {xs : List (St ByteArray)} (h : OwnsX e w base v vs xs) (hb : Below w.heap.size w w') : OwnsX e w' base v vs xs :=
  ⟨World.ownsRow.kept (row := none) h.row ⟨hb.os, hb.tape, hb.output, hb.size, fun k hk _ => hb.block k hk⟩ (by cases v.ownBlock <;> simp), h.sees.below hb⟩
theorem OwnsX.drewN {e : TypeId} {w : World} {base : Nat} {v : Value} {vs : List (Int × Value)} {xs : List (St ByteArray)} (h : OwnsX e w base v vs xs) (n : Nat) : OwnsX e (w.drewN n) base v vs xs :=
  ⟨h.row, h.sees.len, fun i x hx => by obtain ⟨v, h1, h2, h3⟩ := h.sees.at_ i x hx; exact ⟨v, h1, h2, h3⟩⟩
theorem OwnsX.base {e : TypeId} {w : World} {base base' : Nat} {v : Value} {vs : List (Int × Value)} {xs : List (St ByteArray)} (h : OwnsX e w base v vs xs) (hb : base' ≤ base) : OwnsX e w base' v vs xs := by
  refine ⟨⟨h.row.1, ?_⟩, h.sees.len, fun i x hx => ?_⟩
  · rcases h.row.2 with h | ⟨g, cap, cur, h1, h2, h3⟩
    · exact .inl h
    · exact .inr ⟨g, cap, cur, h1, by omega, h3⟩
  · obtain ⟨v, h1, h2, h3⟩ := h.sees.at_ i x hx
    exact ⟨v, h1, h2.base hb, h3⟩
theorem OwnsX.form {e : TypeId} {w : World} {base : Nat} {v : Value} {vs : List (Int × Value)} {xs : List (St ByteArray)} (h : OwnsX e w base v vs xs) :
    ∃ A c, v = .slice A xs.length c ∧ xs.length ≤ c ∧ c ≤ maxLen ∧ StaRow w A xs ∧ ∀ ad, A = some ad → base ≤ ad.block ∧ ad.block < w.heap.size := by
  have hcells := fun g => World.ownsRow.cells h.row (g := g)
  rcases h.row.2 with ⟨rfl, hl⟩ | ⟨g, cap, cur, rfl, hb, hg, hn, hm, _, _⟩
  · have hl2 : xs.length = 0 := by rw [← h.sees.len]; exact hl
    exact ⟨none, 0, by rw [hl2], by omega, by simp [maxLen], fun hp => absurd hp (by omega), fun ad h => by cases h⟩
  · have hlt : g < w.heap.size := (Array.getElem?_eq_some_iff.1 hg).1
    refine ⟨some ⟨g, 0, none⟩, cap, by rw [h.sees.len], by rw [← h.sees.len]; exact hn, hm, fun hp => ⟨g, 0, rfl, hlt, fun i x hx => ?_⟩, fun ad h => by cases h; exact ⟨hb, hlt⟩⟩
    obtain ⟨v, h1, h2, _⟩ := h.sees.at_ i x hx
    obtain ⟨g1, g2⟩ := cellsX_get vs i _ h1
    obtain ⟨Ai, ci, rfl, h3, h4, h5, _⟩ := h2.form
    have e1 := hcells g rfl _ _ g1
    have e2 := hcells g rfl _ _ g2
    have ea : ∀ j, (⟨g, 0, none⟩ : Addr).add j = ⟨g, 0 + j, none⟩ := fun j => by unfold Addr.add; split <;> simp_all
    rw [ea] at e1 e2
    rw [← Nat.add_assoc] at e2
    exact ⟨Ai, ci, e1, e2, h3, h4, h5⟩
/-- Kept where neither the row nor any slice of texts is written. -/
theorem OwnsX.kept {e : TypeId} {w w' : World} {base : Nat} {v : Value} {vs : List (Int × Value)} {xs : List (St ByteArray)} (h : OwnsX e w base v vs xs) {row : Option Nat} (hg : w.grownBy w' row) (hne : v.ownBlock = none ∨ v.ownBlock ≠ row) (hne2 : ∀ u ∈ vs, u.2.ownBlock = none ∨ u.2.ownBlock ≠ row) : OwnsX e w' base v vs xs :=
  ⟨World.ownsRow.kept h.row hg hne, h.sees.len, fun i x hx => by
    obtain ⟨u, h1, h2, h3⟩ := h.sees.at_ i x hx
    exact ⟨u, h1, h2.kept hg (hne2 _ (List.mem_of_getElem? h1)), h3⟩⟩
/-- Behind a block of another's all stays. -/
theorem OwnsX.other {e : TypeId} {w w' : World} {base : Nat} {v : Value} {vs : List (Int × Value)} {xs : List (St ByteArray)} (h : OwnsX e w base v vs xs) {g : Nat} (hg : w.grownBy w' (some g)) (hlt : g < base) : OwnsX e w' base v vs xs := by
  have key : ∀ k : Option Nat, (∀ j, k = some j → base ≤ j) → k = none ∨ k ≠ some g := fun k hk => by
    cases k with
    | none => exact .inl rfl
    | some j => right; intro e; have := hk j rfl; have := Option.some.inj e; omega
  have hsome : ∀ (i : Nat) (u : Int × Value), vs[i]? = some u → u.2.ownBlock = none ∨ u.2.ownBlock ≠ some g := fun i u hu => by
    have hil : i < xs.length := by rw [← h.sees.len]; exact (List.getElem?_eq_some_iff.1 hu).1
    obtain ⟨v2, h1, h2, _⟩ := h.sees.at_ i xs[i] (List.getElem?_eq_getElem hil)
    rw [hu] at h1
    cases h1
    exact key _ fun j hj => (World.ownsRow.lt h2 j hj).1
  refine h.kept hg (key _ fun j hj => (World.ownsRow.lt h.row j hj).1) fun u hu => ?_
  obtain ⟨i, hi⟩ := List.mem_iff_getElem?.1 hu
  exact hsome i u hi
end Go.Proofs.YtmdogidflaplkaaGreat

namespace Go.Proofs.YtmdogidflaplkaaGreat
open Go.ChangeShapes Go.WideShapes Go.ChangeAt Go.RowKit

section
variable {H : Type} {enc : TypeId × Value → H} {w : World} {base : Nat} {spare : Nat → Bool} {held : Bool}
set_option maxRecDepth 100000 in
theorem strs_of_cells {fuel : Nat} {v : Value} {x : DataW H × List MemPlace} (h : DataW.trod enc Tryz.prog w base spare held fuel 23 [v] = some x) :
    ∃ (A : Option Addr) (ss : List ByteArray) (c : Nat), v = .slice A ss.length c ∧ ss.length ≤ c ∧ c ≤ maxLen ∧ Strs w A ss ∧ ∀ s ∈ ss, s.size ≤ maxLen := by
  rcases open_strings Tryz.underlying23 Tryz.underlying9 (by kernel_rfl) h with ⟨hcs, _⟩ | ⟨a, l, c, ss, hcs, _, hl, hm, hlen, _, hcell, hsz⟩
  · simp only [List.cons.injEq, and_true] at hcs
    subst hcs
    exact ⟨none, [], 0, rfl, Nat.le_refl _, Nat.zero_le _, Strs.nil _ _, fun s hs => by cases hs⟩
  · simp only [List.cons.injEq, and_true] at hcs
    subst hcs
    have hls : l ≤ ss.length := by rw [hlen]; split <;> omega
    have hlt : (ss.take l).length = l := by rw [List.length_take]; omega
    refine ⟨some a, ss.take l, c, by rw [hlt], by rw [hlt]; exact hl, hm, fun hp => ?_, fun s hs => hsz s (List.mem_of_mem_take hs)⟩
    rw [hlt] at hp
    have h0 := hcell 0 (by omega)
    obtain ⟨b, off, spot⟩ := a
    have hs : spot = none := by simpa [Addr.add] using World.cell?_spot h0
    subst hs
    refine ⟨b, off, rfl, World.block_lt_of_cell? w _ h0, fun i hi => ?_⟩
    rw [hlt] at hi
    have := hcell i (by omega)
    have e : (⟨b, off, none⟩ : Addr).add i = ⟨b, off + i, none⟩ := by unfold Addr.add; split <;> simp_all
    rw [e] at this
    rw [this]
    simp [hi]
end
end Go.Proofs.YtmdogidflaplkaaGreat

namespace Go.Proofs.YtmdogidflaplkaaGreat
open Go.RowKit

/-- What is asked of texts: whether one is a sentence, whether a set settles its issue, where it is true. -/
def asksT : Asks ByteArray := ⟨fun t s => (senT t s).isSome, fun t k s => anyWithin k (issueT t s), fun t s => trueT t s, ByteArray.empty⟩
abbrev TalkV := Tk ByteArray
def okT (T : TalkV) : Bool := talkOk asksT T
def doT (T : TalkV) (k : Int) (s : ByteArray) : Option TalkV := talkDo asksT T k s
def noTalk : TalkV := ⟨0, ⟨0, []⟩, []⟩
def newT (t : Int) : TalkV := if 1 ≤ t ∧ t ≤ 3 then ⟨t, ⟨allOf t, []⟩, []⟩ else noTalk
theorem isS_some {t : Int} {s : ByteArray} : asksT.isS t s = true ↔ ∃ x, senT t s = some x := by
  show (senT t s).isSome = true ↔ _
  rw [Option.isSome_iff_exists]
theorem settles_sett {t k : Int} {s : ByteArray} (hS : asksT.isS t s = true) (hk : setOkB t k = true) : settlesB t (issueT t s) k = asksT.sett t k s := by
  obtain ⟨x, hx⟩ := isS_some.1 hS
  obtain ⟨_, _, h0, ha, _⟩ := setOkB_lt hk
  exact settles_any (issueT_ok hx) h0 ha
/-- In new talks everything is possible. -/
theorem new_ok {t : Int} (h1 : 1 ≤ t) (h3 : t ≤ 3) : okT (newT t) = true ∧ (newT t).now.known = allOf t ∧ (newT t).now.op = [] := by
  unfold newT
  rw [if_pos ⟨h1, h3⟩]
  refine ⟨?_, rfl, rfl⟩
  have hp := (nW_pos h1 h3).2
  have hn : (2 : Nat) ≤ 2 ^ nWorlds t := by
    have : t = 1 ∨ t = 2 ∨ t = 3 := by omega
    rcases this with rfl | rfl | rfl <;> decide
  refine (talk_parts asksT).2 ⟨(state_parts asksT).2 ⟨setOk_of h1 h3 (allOf_lt t).1 (Int.le_refl _), ?_, Nat.zero_le _, fun s hs => (by cases hs), List.nodup_nil⟩, Nat.zero_le _, fun x hx => (by cases hx)⟩
  show allOf t ≠ 0
  omega
end Go.Proofs.YtmdogidflaplkaaGreat

namespace Go.Proofs.YtmdogidflaplkaaGreat
open Go.RowKit

theorem str_ne {x y : ByteArray} (h : x ≠ y) : (x.toList == y.toList) = false := by
  rw [ByteArray.toList_eq, ByteArray.toList_eq, beq_eq_false_iff_ne]
  intro e
  exact h (ByteArray.ext (Array.toList_inj.mp e))
theorem str_eq (x : ByteArray) : (x.toList == x.toList) = true := by simp

/-- The row that a loop fills: behind k rounds the first k places hold what they shall. -/
def partS (xs : List ByteArray) (k : Nat) : Nat → Value := fun j => if j < k then .string (xs.getD j ByteArray.empty) else .string ByteArray.empty
theorem partS_next {w : World} {g : Nat} {xs : List ByteArray} {k : Nat} {x : ByteArray} (h : w.rowIs g 9 xs.length (partS xs k)) (hx : Hid (xs[k]? = some x)) : (w.setCell ⟨g, k, none⟩ (.string x)).rowIs g 9 xs.length (partS xs (k + 1)) := by
  refine (h.set k _).congr fun j hj => ?_
  unfold partS
  by_cases e : j = k
  · subst e
    rw [if_pos rfl, if_pos (by omega), List.getD_eq_getElem?_getD, hx.out]; rfl
  · rw [if_neg e]
    by_cases h1 : j < k
    · rw [if_pos h1, if_pos (by omega)]
    · rw [if_neg h1, if_neg (by omega)]
theorem ownsS_of_row {w : World} {base g : Nat} {xs : List ByteArray} (h : w.rowIs g 9 xs.length (partS xs xs.length)) (hb : base ≤ g) (hm : xs.length ≤ maxLen) : OwnsS w base (.slice (some ⟨g, 0, none⟩) xs.length xs.length) xs := by
  obtain ⟨c, hg, hn, hc⟩ := h
  refine ⟨by simp, .inr ⟨g, xs.length, c, rfl, hb, hg, Nat.le_refl _, hm, by omega, ?_⟩⟩
  apply List.ext_getElem?
  intro i
  rw [List.getElem?_take, List.getElem?_map]
  by_cases hi : i < xs.length
  · rw [if_pos (by omega), Array.getElem?_toList, hc i hi]
    simp [partS, hi]
  · rw [if_neg (by omega), List.getElem?_eq_none (by omega)]; rfl

set_option maxHeartbeats 400000 in
theorem lToStringS (A : Option Addr) (nn c : Nat) (xs : List ByteArray) (w : World) (hn : nn = xs.length) (hl : nn ≤ 1048576) (hA : Strs w A xs) :
    Calls Tryz.prog 89 #[.slice A nn c] w fun e w' => ∃ v, e = .returned v ∧ OwnsS w' w.heap.size v xs ∧ Below w.heap.size w w' := by
  subst hn
  have HA := Lib.hid hA
  clear hA
  have hmk := fun W => run_make_row' (P := Tryz.prog) 23 9 (.string ByteArray.empty) 16 Tryz.underlying23 str_info rfl .i64 .i64 xs.length (by omega) (by omega) W
  go_enter Tryz.func89, Tryz.ntmps89
  go_wp2_with fail
  clear hmk
  go_loopw [4] (fun i wr => ∃ k : Nat, k ≤ xs.length ∧ i = .int .i64 k ∧ wr.rowIs w.heap.size 9 xs.length (partS xs k) ∧ Below w.heap.size w wr) (fun i _ => xs.length - (Go.RowKit.intOf i).toNat)
  case atStart => exact ⟨0, Nat.zero_le _, rfl, World.rowIs_made _ _ _ _, (Below.refl _ _).alloc (Nat.le_refl _) _⟩
  case round =>
    obtain ⟨k, hk, rfl, hrow, hbel⟩ := hrel
    have HB := Lib.hid hbel
    have HW := Lib.hid hrow
    clear hbel hrow
    by_cases hlt : k < xs.length
    · obtain ⟨b, off, x, rfl, hcell, hx, _⟩ := (HA.out.below HB.out).elem hlt
      have hc1 := HW.out.cell hlt
      have hf1 := HW.out.frozen k
      unfold partS at hc1
      rw [if_neg (by omega)] at hc1
      go_wp2
      go_roundw
      case rel => exact ⟨k + 1, by omega, by go_num, partS_next HW.out hx, HB.out.setCell (Nat.le_refl _) _⟩
      case measure => simp [Go.RowKit.intOf]; omega
    · obtain rfl : k = xs.length := by omega
      go_wp2
      go_ret
      exact ⟨_, rfl, ownsS_of_row HW.out (Nat.le_refl _) (by unfold maxLen; omega), HB.out⟩

set_option maxHeartbeats 400000 in
theorem lEqStringS (A B : Option Addr) (nn mm c d : Nat) (xs ys : List ByteArray) (w : World) (hn : nn = xs.length) (hm : mm = ys.length) (hl : nn ≤ 1048576) (hl2 : mm ≤ 1048576) (hA : Strs w A xs) (hB : Strs w B ys) :
    Calls Tryz.prog 90 #[.slice A nn c, .slice B mm d] w fun e w' => e = .returned (.bool (decide (xs = ys))) ∧ ∃ n, w' = w.drewN n := by
  subst hn hm
  have HA := Lib.hid hA
  have HB := Lib.hid hB
  clear hA hB
  by_cases hlen : xs.length = ys.length
  · have hd : ((xs.length : Int) != (ys.length : Int)) = false := by simp; omega
    have HL := Lib.hid hlen
    have hle1 : xs.length ≤ ys.length := by omega
    have hle2 : ys.length ≤ xs.length := by omega
    clear hlen
    go_enter Tryz.func90, Tryz.ntmps90
    go_wp2
    go_loopw [5] (fun i wr => ∃ k : Nat, k ≤ xs.length ∧ i = .int .i64 k ∧ Hid (xs.take k = ys.take k) ∧ ∃ n, wr = w.drewN n) (fun i _ => xs.length - (Go.RowKit.intOf i).toNat)
    case atStart => exact ⟨0, Nat.zero_le _, rfl, rfl, 0, rfl⟩
    case round =>
      obtain ⟨k, hk, rfl, hsofar, n, rfl⟩ := hrel
      by_cases hlt : k < xs.length
      · have hlt2 : k < ys.length := by omega
        obtain ⟨b, off, x, rfl, hcell, hx, _⟩ := HA.out.elem hlt
        obtain ⟨b', off', y, rfl, hcell', hy, _⟩ := HB.out.elem hlt2
        by_cases hxy : x = y
        · have HXY := Lib.hid hxy
          subst hxy
          go_wp2
          go_quiet (fail)
          go_wp2
          exact ⟨⟨k + 1, by omega, by go_num, by unfold Hid; rw [take_snocS hx, take_snocS hy, hsofar.out], _, rfl⟩, by simp [Go.RowKit.intOf]; omega⟩
        · have hxy' : (x.toList == y.toList) = false := str_ne hxy
          have HXY := Lib.hid hxy
          go_wp2
          go_quiet (fail)
          go_wp2
          go_ret
          exact ⟨ret_bool (by symm; apply decide_eq_false; intro e; subst e; have := hx.out.symm.trans hy.out; cases this; exact HXY.out rfl), _, World.drewN_drewN _ _ _⟩
      · obtain rfl : k = xs.length := by omega
        have HE : Hid (xs = ys) := by
          have := hsofar.out
          rw [List.take_length, HL.out, List.take_length] at this
          exact this
        clear hsofar
        go_wp2
        go_ret
        exact ⟨ret_bool (by rw [decide_eq_true HE.out]), _, rfl⟩
  · have hd : ((xs.length : Int) != (ys.length : Int)) = true := by simp; omega
    have HL := Lib.hid hlen
    clear hlen
    go_enter Tryz.func90, Tryz.ntmps90
    go_wp2
    go_ret
    exact ⟨ret_bool (by symm; apply decide_eq_false; intro e; exact HL.out (by rw [e])), 0, rfl⟩

end Go.Proofs.YtmdogidflaplkaaGreat

namespace Go.Proofs.YtmdogidflaplkaaGreat
open Go.RowKit

end Go.Proofs.YtmdogidflaplkaaGreat

namespace Go.Proofs.YtmdogidflaplkaaGreat
open Go.RowKit

theorem bL_append (a b : ByteArray) : bL (a ++ b) = bL a ++ bL b := by unfold bL; rw [ByteArray.data_append, Array.toList_append]
def DeedAt (w : World) (B : Nat) (k : Int) (s : ByteArray) : Prop := w.heap[B]? = some (.cells #[.int .i64 k, .string s] 30 (0, 0))
theorem DeedAt.cells {w : World} {B : Nat} {k : Int} {s : ByteArray} (h : DeedAt w B k s) : w.cell? ⟨B, 0, none⟩ = some (.int .i64 k) ∧ w.cell? ⟨B, 1, none⟩ = some (.string s) := by
  constructor <;> simp [World.cell?, show w.heap[B]? = _ from h]
theorem DeedAt.new (w : World) (k : Int) (s : ByteArray) : DeedAt (w.alloc (.cells #[.int .i64 k, .string s] 30)) w.heap.size k s := World.alloc_heap_new w _

end Go.Proofs.YtmdogidflaplkaaGreat

namespace Go.Proofs.YtmdogidflaplkaaGreat
open Go.RowKit

end Go.Proofs.YtmdogidflaplkaaGreat

namespace Go.Proofs.YtmdogidflaplkaaGreat
open Go.RowKit

abbrev DeedV := Int × ByteArray
/-- The slice at A reads as the deeds ds. -/
def Deeds (w : World) (A : Option Addr) (ds : List DeedV) : Prop :=
  0 < ds.length → ∃ b off, A = some ⟨b, off, none⟩ ∧ b < w.heap.size ∧ ∀ (i : Nat) (d : DeedV), ds[i]? = some d → w.cell? ⟨b, off + i * 2, none⟩ = some (.int .i64 d.1) ∧ w.cell? ⟨b, off + i * 2 + 1, none⟩ = some (.string d.2)
theorem Deeds.nil (w : World) (A : Option Addr) : Deeds w A [] := fun h => absurd h (by simp)
theorem Deeds.below {w w' : World} {A : Option Addr} {ds : List DeedV} (h : Deeds w A ds) (hb : Below w.heap.size w w') : Deeds w' A ds := by
  intro hn
  obtain ⟨b, off, rfl, hlt, hc⟩ := h hn
  have := hb.size
  refine ⟨b, off, rfl, by omega, fun i d hd => ?_⟩
  obtain ⟨h1, h2⟩ := hc i d hd
  exact ⟨(hb.cell (p := ⟨b, off + i * 2, none⟩) hlt).trans h1, (hb.cell (p := ⟨b, off + i * 2 + 1, none⟩) hlt).trans h2⟩
theorem Deeds.grown {w w' : World} {A : Option Addr} {ds : List DeedV} {row : Option Nat} (h : Deeds w A ds) (hg : w.grownBy w' row) (hr : ∀ ad, A = some ad → some ad.block ≠ row) : Deeds w' A ds := by
  intro hn
  obtain ⟨b, off, rfl, hlt, hc⟩ := h hn
  have := hg.size
  refine ⟨b, off, rfl, by omega, fun i d hd => ?_⟩
  obtain ⟨h1, h2⟩ := hc i d hd
  have hbk := hg.block b hlt (hr _ rfl)
  exact ⟨(World.cell?_of_block hbk).trans h1, (World.cell?_of_block hbk).trans h2⟩
structure DRow (w : World) (A : Option Addr) (n c : Nat) (ds : List DeedV) : Prop where
  hn : n = ds.length
  hl : n ≤ 1048576
  hc : n ≤ c
  hm : c ≤ maxLen
  hA : Deeds w A ds
theorem DRow.below {w w' : World} {A : Option Addr} {n c : Nat} {ds : List DeedV} (h : DRow w A n c ds) (hb : Below w.heap.size w w') : DRow w' A n c ds := ⟨h.hn, h.hl, h.hc, h.hm, h.hA.below hb⟩
theorem DRow.drewN {w : World} {A : Option Addr} {n c : Nat} {ds : List DeedV} (h : DRow w A n c ds) (m : Nat) : DRow (w.drewN m) A n c ds := ⟨h.hn, h.hl, h.hc, h.hm, h.hA⟩
theorem Deeds.elem {w : World} {A : Option Addr} {ds : List DeedV} (h : Deeds w A ds) {i : Nat} (hi : i < ds.length) :
    ∃ b off f g, A = some ⟨b, off, none⟩ ∧ w.cell? ⟨b, off + i * 2, none⟩ = some (.int .i64 f) ∧ w.cell? ⟨b, off + i * 2 + 1, none⟩ = some (.string g) ∧ Hid (ds[i]? = some (f, g)) ∧ Hid (b < w.heap.size) := by
  obtain ⟨b, off, rfl, hlt, hc⟩ := h (by omega)
  obtain ⟨d, hd⟩ : ∃ d, ds[i]? = some d := ⟨_, List.getElem?_eq_getElem hi⟩
  obtain ⟨h1, h2⟩ := hc i d hd
  exact ⟨b, off, d.1, d.2, rfl, h1, h2, hd, hlt⟩
theorem takeD_snoc {ds : List DeedV} {i : Nat} {d : DeedV} (h : Hid (ds[i]? = some d)) : ds.take (i + 1) = ds.take i ++ [d] := by
  obtain ⟨hlt, he⟩ := List.getElem?_eq_some_iff.1 h.out
  rw [List.take_succ_eq_append_getElem hlt, he]
theorem elem_memD {ds : List DeedV} {i : Nat} {d : DeedV} (h : Hid (ds[i]? = some d)) : d ∈ ds := List.mem_of_getElem? h.out

/-- The cells of a list of deeds, one behind the other. -/
def flatD (ds : List DeedV) : List Value := ds.flatMap fun d => [.int .i64 d.1, .string d.2]
theorem flatD_cons (d : DeedV) (ds : List DeedV) : flatD (d :: ds) = .int .i64 d.1 :: .string d.2 :: flatD ds := rfl
theorem flatD_snoc (ds : List DeedV) (d : DeedV) : flatD (ds ++ [d]) = flatD ds ++ [.int .i64 d.1, .string d.2] := by
  unfold flatD; rw [List.flatMap_append]; rfl
theorem flatD_len : ∀ ds : List DeedV, (flatD ds).length = ds.length * 2
  | [] => rfl
  | d :: ds => by rw [flatD_cons, List.length_cons, List.length_cons, flatD_len ds, List.length_cons]; omega
theorem flatD_at : ∀ {ds : List DeedV} {i : Nat} {d : DeedV}, ds[i]? = some d → (flatD ds)[i * 2]? = some (.int .i64 d.1) ∧ (flatD ds)[i * 2 + 1]? = some (.string d.2)
  | [], i, d, h => by simp at h
  | x :: ds, 0, d, h => by
    rw [List.getElem?_cons_zero] at h
    cases h
    exact ⟨rfl, rfl⟩
  | x :: ds, i + 1, d, h => by
    rw [List.getElem?_cons_succ] at h
    obtain ⟨h1, h2⟩ := flatD_at h
    rw [flatD_cons, show (i + 1) * 2 = i * 2 + 1 + 1 by omega]
    simp only [List.getElem?_cons_succ]
    exact ⟨h1, h2⟩
theorem deed_info : (Tryz.prog.info? 30).map (fun i => (i.zero, i.size, i.bytes)) = some (some (.agg #[.int .i64 0, .string ByteArray.empty]), 2, 24) := by kernel_rfl
/-- A slice of the call's own: the value v, from block 'base' on, holds the deeds ds. -/
def OwnsD (w : World) (base : Nat) (v : Value) (ds : List DeedV) : Prop := w.ownsRow base 30 2 v ds.length (flatD ds)
theorem OwnsD.form {w : World} {base : Nat} {v : Value} {ds : List DeedV} (h : OwnsD w base v ds) :
    ∃ A c, v = .slice A ds.length c ∧ ds.length ≤ c ∧ c ≤ maxLen ∧ Deeds w A ds ∧ (∀ ad, A = some ad → base ≤ ad.block ∧ ad.block < w.heap.size) := by
  have hcells := fun g => World.ownsRow.cells h (g := g)
  rcases h.2 with ⟨rfl, hl⟩ | ⟨g, cap, cur, rfl, hb, hg, hn, hm, _, _⟩
  · exact ⟨none, 0, by rw [hl], by omega, by simp [maxLen], fun hp => absurd hp (by omega), fun ad h => by cases h⟩
  · have hlt : g < w.heap.size := (Array.getElem?_eq_some_iff.1 hg).1
    refine ⟨some ⟨g, 0, none⟩, cap, rfl, hn, hm, fun hp => ⟨g, 0, rfl, hlt, fun i d hd => ?_⟩, fun ad h => by cases h; exact ⟨hb, hlt⟩⟩
    obtain ⟨h1, h2⟩ := flatD_at hd
    have e1 : (⟨g, 0, none⟩ : Addr).add (i * 2) = ⟨g, 0 + i * 2, none⟩ := by unfold Addr.add; split <;> simp_all
    have e2 : (⟨g, 0, none⟩ : Addr).add (i * 2 + 1) = ⟨g, 0 + i * 2 + 1, none⟩ := by unfold Addr.add; split <;> simp_all; try omega
    have h1 := hcells g rfl _ _ h1
    have h2 := hcells g rfl _ _ h2
    rw [e1] at h1
    rw [e2] at h2
    exact ⟨h1, h2⟩
theorem OwnsD.row {w : World} {base : Nat} {A : Option Addr} {n c : Nat} {ds : List DeedV} (h : OwnsD w base (.slice A n c) ds) (hl : ds.length ≤ 1048576) : DRow w A n c ds := by
  obtain ⟨A', c', e, hc, hm, hn, _⟩ := h.form
  simp only [Value.slice.injEq] at e
  obtain ⟨rfl, rfl, rfl⟩ := e
  exact ⟨rfl, hl, hc, hm, hn⟩
theorem OwnsD.below {w w' : World} {base : Nat} {v : Value} {ds : List DeedV} (h : OwnsD w base v ds) (hb : Below w.heap.size w w') : OwnsD w' base v ds :=
  World.ownsRow.kept (row := none) h ⟨hb.os, hb.tape, hb.output, hb.size, fun k hk _ => hb.block k hk⟩ (by cases v.ownBlock <;> simp)
theorem OwnsD.drewN {w : World} {base : Nat} {v : Value} {ds : List DeedV} (h : OwnsD w base v ds) (n : Nat) : OwnsD (w.drewN n) base v ds := h
theorem OwnsD.kept {w w' : World} {base : Nat} {v : Value} {ds : List DeedV} (h : OwnsD w base v ds) {row : Option Nat} (hg : w.grownBy w' row) (hne : v.ownBlock = none ∨ v.ownBlock ≠ row) : OwnsD w' base v ds :=
  World.ownsRow.kept h hg hne
theorem OwnsD.base {w : World} {base base' : Nat} {v : Value} {ds : List DeedV} (h : OwnsD w base v ds) (hb : base' ≤ base) : OwnsD w base' v ds := by
  refine ⟨h.1, ?_⟩
  rcases h.2 with h | ⟨g, cap, cur, h1, h2, h3⟩
  · exact .inl h
  · exact .inr ⟨g, cap, cur, h1, by omega, h3⟩
theorem OwnsD.nil (w : World) (base : Nat) : OwnsD w base (.slice none 0 0) [] := World.ownsRow_nil w base _ 2
theorem OwnsD.lit0 (w : World) (base : Nat) (hb : base ≤ w.heap.size) : OwnsD (w.alloc (.cells #[] 30)) base (.slice (some ⟨w.heap.size, 0, none⟩) 0 0) [] := by
  have h := World.ownsRow_lit (base := base) (e := 30) (size := 2) w #[] 0 hb (by simp [maxLen]) (by simp)
  simpa [OwnsD, flatD] using h
end Go.Proofs.YtmdogidflaplkaaGreat

namespace Go.Proofs.YtmdogidflaplkaaGreat
open Go.RowKit

/-- Block b is a variable of type T that holds cs. -/
def Box (W : World) (b : Nat) (T : TypeId) (cs : List Value) : Prop := W.heap[b]? = some (.cells cs.toArray T (0, 0))
section
variable {W W' : World} {b : Nat} {T : TypeId} {cs : List Value}
theorem Box.new (W : World) (T : TypeId) (cs : List Value) : Box (W.alloc (.cells cs.toArray T)) W.heap.size T cs := World.alloc_heap_new W _
theorem Box.lt (h : Box W b T cs) : b < W.heap.size := (Array.getElem?_eq_some_iff.1 h).1
theorem Box.alloc (h : Box W b T cs) (o : Obj) : Box (W.alloc o) b T cs := (Below.heap_alloc W o b h.lt).trans h
theorem Box.grown {g : Nat} (h : Box W b T cs) (hg : W.grownBy W' (some g)) (hne : g ≠ b) : Box W' b T cs :=
  (hg.block b h.lt (by simp; omega)).trans h
theorem Box.below (h : Box W b T cs) (hb : Below W.heap.size W W') : Box W' b T cs := (hb.block b h.lt).trans h
theorem Box.drewN (h : Box W b T cs) (n : Nat) : Box (W.drewN n) b T cs := h
theorem Box.drew (h : Box W b T cs) : Box W.drew b T cs := h
theorem Box.cell (h : Box W b T cs) {i : Nat} {v : Value} (hv : cs[i]? = some v) : W.cell? ⟨b, i, none⟩ = some v := by
  unfold Box at h
  simp [World.cell?, h, hv]
theorem Box.frozen (h : Box W b T cs) (i : Nat) : W.frozen? ⟨b, i, none⟩ = false := by
  unfold Box at h
  simp [World.frozen?, h]
theorem Box.set (h : Box W b T cs) (i : Nat) (v : Value) : Box (W.setCell ⟨b, i, none⟩ v) b T (cs.set i v) := by
  unfold Box at *
  simp [World.setCell, Array.getElem?_modify, h]
theorem Box.other {a i : Nat} (h : Box W b T cs) (hne : a ≠ b) (v : Value) : Box (W.setCell ⟨a, i, none⟩ v) b T cs :=
  (Below.heap_setCell W ⟨a, i, none⟩ v b (fun e => hne e.symm)).trans h
/-- What a store of two cells asks and leaves. -/
theorem Box.store2 {x y : Value} (h : Box W b T [x, y]) (u v : Value) :
    (W.cell? ⟨b, 0, none⟩ = some x ∧ W.cell? ⟨b, 1, none⟩ = some y ∧ W.frozen? ⟨b, 0, none⟩ = false ∧ W.frozen? ⟨b, 1, none⟩ = false) ∧
    ((W.setCell ⟨b, 0, none⟩ u).cell? ⟨b, 1, none⟩ = some y ∧ (W.setCell ⟨b, 0, none⟩ u).frozen? ⟨b, 1, none⟩ = false) ∧
    Hid (Box ((W.setCell ⟨b, 0, none⟩ u).setCell ⟨b, 1, none⟩ v) b T [u, v]) :=
  ⟨⟨h.cell rfl, h.cell rfl, h.frozen 0, h.frozen 1⟩, ⟨(h.set 0 u).cell rfl, (h.set 0 u).frozen 1⟩, (h.set 0 u).set 1 v⟩
theorem Box.store4 {x y z p : Value} (h : Box W b T [x, y, z, p]) (u v r q : Value) :
    (W.cell? ⟨b, 0, none⟩ = some x ∧ W.cell? ⟨b, 1, none⟩ = some y ∧ W.cell? ⟨b, 2, none⟩ = some z ∧ W.cell? ⟨b, 3, none⟩ = some p ∧ W.frozen? ⟨b, 0, none⟩ = false ∧ W.frozen? ⟨b, 1, none⟩ = false ∧ W.frozen? ⟨b, 2, none⟩ = false ∧ W.frozen? ⟨b, 3, none⟩ = false) ∧
    ((W.setCell ⟨b, 0, none⟩ u).cell? ⟨b, 1, none⟩ = some y ∧ (W.setCell ⟨b, 0, none⟩ u).frozen? ⟨b, 1, none⟩ = false) ∧
    (((W.setCell ⟨b, 0, none⟩ u).setCell ⟨b, 1, none⟩ v).cell? ⟨b, 2, none⟩ = some z ∧ ((W.setCell ⟨b, 0, none⟩ u).setCell ⟨b, 1, none⟩ v).frozen? ⟨b, 2, none⟩ = false) ∧
    ((((W.setCell ⟨b, 0, none⟩ u).setCell ⟨b, 1, none⟩ v).setCell ⟨b, 2, none⟩ r).cell? ⟨b, 3, none⟩ = some p ∧ (((W.setCell ⟨b, 0, none⟩ u).setCell ⟨b, 1, none⟩ v).setCell ⟨b, 2, none⟩ r).frozen? ⟨b, 3, none⟩ = false) ∧
    Hid (Box ((((W.setCell ⟨b, 0, none⟩ u).setCell ⟨b, 1, none⟩ v).setCell ⟨b, 2, none⟩ r).setCell ⟨b, 3, none⟩ q) b T [u, v, r, q]) :=
  ⟨⟨h.cell rfl, h.cell rfl, h.cell rfl, h.cell rfl, h.frozen 0, h.frozen 1, h.frozen 2, h.frozen 3⟩, ⟨(h.set 0 u).cell rfl, (h.set 0 u).frozen 1⟩, ⟨((h.set 0 u).set 1 v).cell rfl, ((h.set 0 u).set 1 v).frozen 2⟩, ⟨(((h.set 0 u).set 1 v).set 2 r).cell rfl, (((h.set 0 u).set 1 v).set 2 r).frozen 3⟩, (((h.set 0 u).set 1 v).set 2 r).set 3 q⟩
end
theorem Box.grownO {W W' : World} {b : Nat} {T : TypeId} {cs : List Value} {row : Option Nat} (h : Box W b T cs) (hg : W.grownBy W' row) (hne : ∀ k, row = some k → k ≠ b) : Box W' b T cs :=
  (hg.block b h.lt (fun e => hne b e.symm rfl)).trans h
theorem Box.other2 {W : World} {b g : Nat} {T : TypeId} {cs : List Value} (h : Box W b T cs) (hne : g ≠ b) (u v : Value) : Box ((W.setCell ⟨g, 0, none⟩ u).setCell ⟨g, 1, none⟩ v) b T cs := (h.other hne u).other hne v
theorem Box.other4 {W : World} {b g : Nat} {T : TypeId} {cs : List Value} (h : Box W b T cs) (hne : g ≠ b) (u v r q : Value) : Box ((((W.setCell ⟨g, 0, none⟩ u).setCell ⟨g, 1, none⟩ v).setCell ⟨g, 2, none⟩ r).setCell ⟨g, 3, none⟩ q) b T cs := (((h.other hne u).other hne v).other hne r).other hne q
theorem bel_set2 {B : Nat} {w W : World} {b : Nat} (h : Below B w W) (hb : B ≤ b) (u v : Value) : Below B w ((W.setCell ⟨b, 0, none⟩ u).setCell ⟨b, 1, none⟩ v) :=
  (h.setCell (p := ⟨b, 0, none⟩) hb _).setCell (p := ⟨b, 1, none⟩) hb _
theorem bel_set4 {B : Nat} {w W : World} {b : Nat} (h : Below B w W) (hb : B ≤ b) (u v r q : Value) : Below B w ((((W.setCell ⟨b, 0, none⟩ u).setCell ⟨b, 1, none⟩ v).setCell ⟨b, 2, none⟩ r).setCell ⟨b, 3, none⟩ q) :=
  (((h.setCell (p := ⟨b, 0, none⟩) hb _).setCell (p := ⟨b, 1, none⟩) hb _).setCell (p := ⟨b, 2, none⟩) hb _).setCell (p := ⟨b, 3, none⟩) hb _
/-- Results that lie in a variable: alone, with a second result behind. -/
theorem results_deed {fn : Func} {r : Tmp} (h : fn.results = #[.cell r 30]) {tmps : Array Value} {w : World} {b : Nat} {x y : Value} (ht : tmps.getD r undef = .pointer (some ⟨b, 0, none⟩))
   (hb : Hid (Box w b 30 [x, y])) : (results fn tmps).run Tryz.prog w = .ok (.agg #[x, y]) w := by
  have ht : tmps[r]?.getD undef = .pointer (some ⟨b, 0, none⟩) := by simpa using ht
  have hc0 := hb.out.cell (i := 0) (v := x) rfl
  have hc1 := hb.out.cell (i := 1) (v := y) rfl
  simp [results, h, ht, go_sem, hc0, hc1]
theorem results_state {fn : Func} {r : Tmp} (h : fn.results = #[.cell r 25]) {tmps : Array Value} {w : World} {b : Nat} {x y : Value} (ht : tmps.getD r undef = .pointer (some ⟨b, 0, none⟩))
   (hb : Hid (Box w b 25 [x, y])) : (results fn tmps).run Tryz.prog w = .ok (.agg #[x, y]) w := by
  have ht : tmps[r]?.getD undef = .pointer (some ⟨b, 0, none⟩) := by simpa using ht
  have hc0 := hb.out.cell (i := 0) (v := x) rfl
  have hc1 := hb.out.cell (i := 1) (v := y) rfl
  simp [results, h, ht, go_sem, hc0, hc1]
theorem results_talk {fn : Func} {r : Tmp} (h : fn.results = #[.cell r 28]) {tmps : Array Value} {w : World} {b : Nat} {x y z p : Value} (ht : tmps.getD r undef = .pointer (some ⟨b, 0, none⟩))
   (hb : Hid (Box w b 28 [x, y, z, p])) : (results fn tmps).run Tryz.prog w = .ok (.agg #[x, y, z, p]) w := by
  have ht : tmps[r]?.getD undef = .pointer (some ⟨b, 0, none⟩) := by simpa using ht
  have hc0 := hb.out.cell (i := 0) (v := x) rfl
  have hc1 := hb.out.cell (i := 1) (v := y) rfl
  have hc2 := hb.out.cell (i := 2) (v := z) rfl
  have hc3 := hb.out.cell (i := 3) (v := p) rfl
  simp [results, h, ht, go_sem, hc0, hc1, hc2, hc3]
theorem results_talkB {fn : Func} {r q : Tmp} (h : fn.results = #[.cell r 28, .tmp q]) {tmps : Array Value} {w : World} {b : Nat} {x y z p v : Value} (ht : tmps.getD r undef = .pointer (some ⟨b, 0, none⟩)) (hv : tmps.getD q undef = v)
   (hb : Hid (Box w b 28 [x, y, z, p])) : (results fn tmps).run Tryz.prog w = .ok (.tuple #[.agg #[x, y, z, p], v]) w := by
  have ht : tmps[r]?.getD undef = .pointer (some ⟨b, 0, none⟩) := by simpa using ht
  have hv : tmps[q]?.getD undef = v := by simpa using hv
  have hc0 := hb.out.cell (i := 0) (v := x) rfl
  have hc1 := hb.out.cell (i := 1) (v := y) rfl
  have hc2 := hb.out.cell (i := 2) (v := z) rfl
  have hc3 := hb.out.cell (i := 3) (v := p) rfl
  simp [results, h, ht, hv, go_sem, hc0, hc1, hc2, hc3]
end Go.Proofs.YtmdogidflaplkaaGreat

namespace Go.Proofs.YtmdogidflaplkaaGreat
open Go.RowKit

end Go.Proofs.YtmdogidflaplkaaGreat

namespace Go.Proofs.YtmdogidflaplkaaGreat
open Go.RowKit

end Go.Proofs.YtmdogidflaplkaaGreat

namespace Go.Proofs.YtmdogidflaplkaaGreat
open Go.RowKit

/-- The deeds so far have texts. -/
def TextsTo (ds : List DeedV) (k : Nat) : Prop := ∀ j d, j < k → ds[j]? = some d → deedB d ≠ ⟨#[]⟩
theorem TextsTo.next {ds : List DeedV} {k : Nat} {d : DeedV} (h : TextsTo ds k) (hx : Hid (ds[k]? = some d)) (hd : deedB d ≠ ⟨#[]⟩) : TextsTo ds (k + 1) := by
  intro j x hj hx2
  by_cases e : j = k
  · subst e
    rw [hx.out] at hx2; cases hx2; exact hd
  · exact h j x (by omega) hx2
end Go.Proofs.YtmdogidflaplkaaGreat

namespace Go.Proofs.YtmdogidflaplkaaGreat
open Go.RowKit

def numD (k : Nat) : List UInt8 := if k = 0 then [] else numU k
theorem numD_step {k : Nat} (h : 0 < k) : numD k = numD (k / 10) ++ [(48 + k % 10).toUInt8] := by
  unfold numD
  rw [if_neg (by omega)]
  by_cases h10 : k < 10
  · rw [if_pos (by omega)]
    unfold numU
    rw [if_pos h10, Nat.mod_eq_of_lt h10]; rfl
  · rw [if_neg (by omega)]
    conv => lhs; unfold numU
    rw [if_neg h10]
/-- The text of a mark. -/
def markB (k : Nat) : ByteArray := ofL (109 :: numD k)
theorem one_byte (d : Nat) (h : d < 10) : bL (strOfNums [(48 : Int) + (d : Int)]) = [(48 + d).toUInt8] := by
  have : d = 0 ∨ d = 1 ∨ d = 2 ∨ d = 3 ∨ d = 4 ∨ d = 5 ∨ d = 6 ∨ d = 7 ∨ d = 8 ∨ d = 9 := by omega
  rcases this with rfl | rfl | rfl | rfl | rfl | rfl | rfl | rfl | rfl | rfl <;> decide
theorem one_sizeM (v : Int) : (strOfNums [v]).size = 1 := rfl
theorem conv_one (v : Int) (w : World) : (convert 22 9 (.slice (some ⟨w.heap.size, 0, none⟩) 1 1)).run Tryz.prog (w.alloc (.cells #[.int .u8 v] 5)) = .ok (.string (strOfNums [v])) (w.alloc (.cells #[.int .u8 v] 5)) :=
  run_convert_bytes_arg _ 22 5 Tryz.underlying22 Tryz.underlying5 _ 0 1 1 [v] rfl (fun i hi => by
    obtain rfl : i = 0 := by omega
    exact (Boxed.new w 5 (.int .u8 v)).cell) _ Tryz.underlying9
set_option maxRecDepth 100000 in
set_option maxHeartbeats 4000000 in
theorem lMarkText (k0 : Nat) (h1 : 1 ≤ k0) (h2 : k0 ≤ 1125899906842624) (w : World) :
    Calls Tryz.prog 68 #[.int .i64 k0] w fun e w' => e = .returned (.string (markB k0)) ∧ Below w.heap.size w w' := by
  have hcv := fun (v : Int) W => conv_one v W
  have hd : decide ((k0 : Int) ≤ 0) = false := decide_eq_false (by omega)
  go_enter Tryz.func68, Tryz.ntmps68
  go_wp2_with fail
  clear hd
  go_loopw [0, 3] (fun q o wr => ∃ (k : Nat) (u : ByteArray), k ≤ k0 ∧ q = .int .i64 k ∧ o = .string u ∧ u.size ≤ k0 - k ∧ Hid (numD k ++ bL u = numD k0) ∧ Hid (Below w.heap.size w wr)) (fun q _ _ => (Go.RowKit.intOf q).toNat)
  case atStart => exact ⟨k0, ⟨#[]⟩, Nat.le_refl _, rfl, rfl, Nat.zero_le _, List.append_nil _, Below.refl _ _⟩
  case round =>
    obtain ⟨k, u, hk, rfl, rfl, hus, HN, HB⟩ := hrel
    by_cases hlt : 0 < k
    · have hd : decide ((0 : Int) < (k : Int)) = true := decide_eq_true (by omega)
      have hz : (9223372036854775807 < (strOfNums [(48 : Int) + (k : Int) % 10]).size + u.size) = False := by rw [one_sizeM]; simp; omega
      have HNX : Hid (numD (k / 10) ++ bL (strOfNums [(48 : Int) + (k : Int) % 10] ++ u) = numD k0) := by
        unfold Hid
        rw [← HN.out, numD_step hlt, bL_append, show (48 : Int) + (k : Int) % 10 = (48 : Int) + ((k % 10 : Nat) : Int) by omega, one_byte _ (by omega), List.append_assoc]
      have HSZ : Hid ((strOfNums [(48 : Int) + (k : Int) % 10] ++ u).size ≤ k0 - k / 10) := by
        unfold Hid
        rw [ByteArray.size_append, one_sizeM]; omega
      go_wp2_with fail
      go_roundw
      case rel => exact ⟨k / 10, _, by omega, by go_num, rfl, HSZ.out, HNX, HB.out.alloc HB.out.size _⟩
      case measure => simp [Go.RowKit.intOf]; omega
    · obtain rfl : k = 0 := by omega
      have hz : (9223372036854775807 < 1 + u.size) = False := by simp; omega
      have HE : Hid (⟨#[109]⟩ ++ u = markB k0) := by
        apply bL_inj
        unfold markB
        rw [bL_append, bL_of, ← HN.out]; rfl
      go_wp2_with fail
      go_ret
      exact ⟨by rw [← HE.out] <;> rfl, HB.out⟩
end Go.Proofs.YtmdogidflaplkaaGreat
