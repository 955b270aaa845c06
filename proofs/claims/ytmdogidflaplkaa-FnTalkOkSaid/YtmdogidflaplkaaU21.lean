/-
  What the proofs of this seat's statements share (TlkM, StrC, DedS, DedT, BoxO, TlkS).
-/
import Derived.Laws.Strings
import Derived.RangeFuncBox
import Derived.Deep.RegionWith
import Derived.Deep.Cut
import Derived.Deep.RegionHeld3
import Derived.Deep.QuietTactic
import Derived.Test.YtmdogidflaplkaaU20
import Derived.Test.YtmdogidflaplkaaU19
import Derived.Test.YtmdogidflaplkaaU18
import Derived.Test.YtmdogidflaplkaaU2
import Derived.Test.YtmdogidflaplkaaU1

namespace Go.Proofs.Ytmdogidflaplkaa
open Go.RowKit

/-- What is asked of texts: whether one is a sentence, whether a set settles its issue, where it is true. -/
def asksT : Asks ByteArray := ⟨fun t s => (senT t s).isSome, fun t k s => anyWithin k (issueT t s), fun t s => trueT t s, ByteArray.empty⟩
def isLT (t : Int) (s : ByteArray) : Bool := loadedT t s
def senseT (t k : Int) (s : ByteArray) : Bool := (changedT t k s).isSome
abbrev TalkV := Tk ByteArray
def okT (T : TalkV) : Bool := talkOk asksT T
def doT (T : TalkV) (k : Int) (s : ByteArray) : Option TalkV := talkDo asksT T k s
def lineT (T : TalkV) (l : ByteArray) : TalkV × List UInt8 := talkLine asksT isLT senseT T l
def sayT (T : TalkV) (ls : List ByteArray) : TalkV × List (List UInt8) := talkSay asksT isLT senseT T ls
def noTalk : TalkV := ⟨0, ⟨0, []⟩, []⟩
def newT (t : Int) : TalkV := if 1 ≤ t ∧ t ≤ 3 then ⟨t, ⟨allOf t, []⟩, []⟩ else noTalk
theorem isS_some {t : Int} {s : ByteArray} : asksT.isS t s = true ↔ ∃ x, senT t s = some x := by
  show (senT t s).isSome = true ↔ _
  rw [Option.isSome_iff_exists]
theorem textS_ne (x : Sen) : textS x ≠ [] := by cases x <;> simp [textS]
theorem isS_ne (t : Int) (s : ByteArray) (h : asksT.isS t s = true) : bL s ≠ [] := by
  obtain ⟨x, hx⟩ := isS_some.1 h
  obtain ⟨_, _, _, _, hb⟩ := senT_ok hx
  intro hn
  apply textS_ne x
  rw [← hb]
  unfold bytesN
  rw [show s.data.toList = bL s from rfl, hn]; rfl
theorem isS_bad {t : Int} (s : ByteArray) (h : t < 1 ∨ 3 < t) : asksT.isS t s = false := by
  cases hs : asksT.isS t s with
  | false => rfl
  | true =>
    obtain ⟨x, hx⟩ := isS_some.1 hs
    have := senT_ok hx
    omega
/-- An open question is not supported. -/
theorem unsettled_supports {t k : Int} {s : ByteArray} (hS : asksT.isS t s = true) (hk : setOkB t k = true) (h : asksT.sett t k s = false) : supportsT t k s = false := by
  obtain ⟨x, hx⟩ := isS_some.1 hS
  obtain ⟨_, _, h0, ha, _⟩ := setOkB_lt hk
  rw [← supports_settles hx hk, settles_any (issueT_ok hx) h0 ha]
  exact h
theorem settles_sett {t k : Int} {s : ByteArray} (hS : asksT.isS t s = true) (hk : setOkB t k = true) : settlesB t (issueT t s) k = asksT.sett t k s := by
  obtain ⟨x, hx⟩ := isS_some.1 hS
  obtain ⟨_, _, h0, ha, _⟩ := setOkB_lt hk
  exact settles_any (issueT_ok hx) h0 ha
theorem noTalk_bad : okT noTalk = false := by decide
/-- In new talks everything is possible. -/
theorem new_ok {t : Int} (h1 : 1 ≤ t) (h3 : t ≤ 3) : okT (newT t) = true ∧ (newT t).now.known = allOf t ∧ (newT t).now.op = [] := by
  unfold newT
  rw [if_pos ⟨h1, h3⟩]
  refine ⟨?_, rfl, rfl⟩
  have hp := (nW_pos h1 h3).2
  have hn : (2 : Nat) ≤ 2 ^ nWorlds t := by
    have : t = 1 ∨ t = 2 ∨ t = 3 := by omega
    rcases this with rfl | rfl | rfl <;> decide
  refine (talk_parts asksT).2 ⟨(state_parts asksT).2 ⟨setOk_of h1 h3 (allOf_lt t).1 (Int.le_refl _), ?_, Nat.zero_le _, fun s hs => (by cases hs), List.nodup_nil⟩, Nat.zero_le _, fun x hx => (by cases hx)⟩
  show allOf t ≠ 0
  omega
end Go.Proofs.Ytmdogidflaplkaa

namespace Go.Proofs.Ytmdogidflaplkaa
open Go.RowKit

theorem str_ne {x y : ByteArray} (h : x ≠ y) : (x.toList == y.toList) = false := by
  rw [ByteArray.toList_eq, ByteArray.toList_eq, beq_eq_false_iff_ne]
  intro e
  exact h (ByteArray.ext (Array.toList_inj.mp e))
theorem str_eq (x : ByteArray) : (x.toList == x.toList) = true := by simp

/-- The row that a loop fills: behind k rounds the first k places hold what they shall. -/
def partS (xs : List ByteArray) (k : Nat) : Nat → Value := fun j => if j < k then .string (xs.getD j ByteArray.empty) else .string ByteArray.empty
theorem partS_next {w : World} {g : Nat} {xs : List ByteArray} {k : Nat} {x : ByteArray} (h : w.rowIs g 9 xs.length (partS xs k)) (hx : Hid (xs[k]? = some x)) : (w.setCell ⟨g, k, none⟩ (.string x)).rowIs g 9 xs.length (partS xs (k + 1)) := by
  refine (h.set k _).congr fun j hj => ?_
  unfold partS
  by_cases e : j = k
  · subst e
    rw [if_pos rfl, if_pos (by omega), List.getD_eq_getElem?_getD, hx.out]; rfl
  · rw [if_neg e]
    by_cases h1 : j < k
    · rw [if_pos h1, if_pos (by omega)]
    · rw [if_neg h1, if_neg (by omega)]
theorem ownsS_of_row {w : World} {base g : Nat} {xs : List ByteArray} (h : w.rowIs g 9 xs.length (partS xs xs.length)) (hb : base ≤ g) (hm : xs.length ≤ maxLen) : OwnsS w base (.slice (some ⟨g, 0, none⟩) xs.length xs.length) xs := by
  obtain ⟨c, hg, hn, hc⟩ := h
  refine ⟨by simp, .inr ⟨g, xs.length, c, rfl, hb, hg, Nat.le_refl _, hm, by omega, ?_⟩⟩
  apply List.ext_getElem?
  intro i
  rw [List.getElem?_take, List.getElem?_map]
  by_cases hi : i < xs.length
  · rw [if_pos (by omega), Array.getElem?_toList, hc i hi]
    simp [partS, hi]
  · rw [if_neg (by omega), List.getElem?_eq_none (by omega)]; rfl

set_option maxHeartbeats 400000 in
theorem lToStringS (A : Option Addr) (nn c : Nat) (xs : List ByteArray) (w : World) (hn : nn = xs.length) (hl : nn ≤ 1048576) (hA : Strs w A xs) :
    Calls Try.prog 49 #[.slice A nn c] w fun e w' => ∃ v, e = .returned v ∧ OwnsS w' w.heap.size v xs ∧ Below w.heap.size w w' := by
  subst hn
  have HA := Lib.hid hA
  clear hA
  have hmk := fun W => run_make_row' (P := Try.prog) 23 9 (.string ByteArray.empty) 16 Try.underlying23 str_info rfl .i64 .i64 xs.length (by omega) (by omega) W
  go_enter Try.func49, Try.ntmps49
  go_wp2_with fail
  clear hmk
  go_loopw [4] (fun i wr => ∃ k : Nat, k ≤ xs.length ∧ i = .int .i64 k ∧ wr.rowIs w.heap.size 9 xs.length (partS xs k) ∧ Below w.heap.size w wr) (fun i _ => xs.length - (Go.RowKit.intOf i).toNat)
  case atStart => exact ⟨0, Nat.zero_le _, rfl, World.rowIs_made _ _ _ _, (Below.refl _ _).alloc (Nat.le_refl _) _⟩
  case round =>
    obtain ⟨k, hk, rfl, hrow, hbel⟩ := hrel
    have HB := Lib.hid hbel
    have HW := Lib.hid hrow
    clear hbel hrow
    by_cases hlt : k < xs.length
    · obtain ⟨b, off, x, rfl, hcell, hx, _⟩ := (HA.out.below HB.out).elem hlt
      have hc1 := HW.out.cell hlt
      have hf1 := HW.out.frozen k
      unfold partS at hc1
      rw [if_neg (by omega)] at hc1
      go_wp2
      go_roundw
      case rel => exact ⟨k + 1, by omega, by go_num, partS_next HW.out hx, HB.out.setCell (Nat.le_refl _) _⟩
      case measure => simp [Go.RowKit.intOf]; omega
    · obtain rfl : k = xs.length := by omega
      go_wp2
      go_ret
      exact ⟨_, rfl, ownsS_of_row HW.out (Nat.le_refl _) (by unfold maxLen; omega), HB.out⟩

set_option maxHeartbeats 400000 in
theorem lEqStringS (A B : Option Addr) (nn mm c d : Nat) (xs ys : List ByteArray) (w : World) (hn : nn = xs.length) (hm : mm = ys.length) (hl : nn ≤ 1048576) (hl2 : mm ≤ 1048576) (hA : Strs w A xs) (hB : Strs w B ys) :
    Calls Try.prog 50 #[.slice A nn c, .slice B mm d] w fun e w' => e = .returned (.bool (decide (xs = ys))) ∧ ∃ n, w' = w.drewN n := by
  subst hn hm
  have HA := Lib.hid hA
  have HB := Lib.hid hB
  clear hA hB
  by_cases hlen : xs.length = ys.length
  · have hd : ((xs.length : Int) != (ys.length : Int)) = false := by simp; omega
    have HL := Lib.hid hlen
    have hle1 : xs.length ≤ ys.length := by omega
    have hle2 : ys.length ≤ xs.length := by omega
    clear hlen
    go_enter Try.func50, Try.ntmps50
    go_wp2
    go_loopw [5] (fun i wr => ∃ k : Nat, k ≤ xs.length ∧ i = .int .i64 k ∧ Hid (xs.take k = ys.take k) ∧ ∃ n, wr = w.drewN n) (fun i _ => xs.length - (Go.RowKit.intOf i).toNat)
    case atStart => exact ⟨0, Nat.zero_le _, rfl, rfl, 0, rfl⟩
    case round =>
      obtain ⟨k, hk, rfl, hsofar, n, rfl⟩ := hrel
      by_cases hlt : k < xs.length
      · have hlt2 : k < ys.length := by omega
        obtain ⟨b, off, x, rfl, hcell, hx, _⟩ := HA.out.elem hlt
        obtain ⟨b', off', y, rfl, hcell', hy, _⟩ := HB.out.elem hlt2
        by_cases hxy : x = y
        · have HXY := Lib.hid hxy
          subst hxy
          go_wp2
          go_quiet (fail)
          go_wp2
          exact ⟨⟨k + 1, by omega, by go_num, by unfold Hid; rw [take_snocS hx, take_snocS hy, hsofar.out], _, rfl⟩, by simp [Go.RowKit.intOf]; omega⟩
        · have hxy' : (x.toList == y.toList) = false := str_ne hxy
          have HXY := Lib.hid hxy
          go_wp2
          go_quiet (fail)
          go_wp2
          go_ret
          exact ⟨ret_bool (by symm; apply decide_eq_false; intro e; subst e; have := hx.out.symm.trans hy.out; cases this; exact HXY.out rfl), _, World.drewN_drewN _ _ _⟩
      · obtain rfl : k = xs.length := by omega
        have HE : Hid (xs = ys) := by
          have := hsofar.out
          rw [List.take_length, HL.out, List.take_length] at this
          exact this
        clear hsofar
        go_wp2
        go_ret
        exact ⟨ret_bool (by rw [decide_eq_true HE.out]), _, rfl⟩
  · have hd : ((xs.length : Int) != (ys.length : Int)) = true := by simp; omega
    have HL := Lib.hid hlen
    clear hlen
    go_enter Try.func50, Try.ntmps50
    go_wp2
    go_ret
    exact ⟨ret_bool (by symm; apply decide_eq_false; intro e; exact HL.out (by rw [e])), 0, rfl⟩

end Go.Proofs.Ytmdogidflaplkaa

namespace Go.Proofs.Ytmdogidflaplkaa
open Go.RowKit

theorem ink_byte (b : UInt8) : inkU b = (decide ((32 : Int) ≤ (b.toNat : Int)) && decide ((b.toNat : Int) ≤ 126)) := by
  unfold inkU
  have h : ∀ c : UInt8, (c ≤ b ↔ c.toNat ≤ b.toNat) ∧ (b ≤ c ↔ b.toNat ≤ c.toNat) := fun c => ⟨UInt8.le_iff_toNat_le, UInt8.le_iff_toNat_le⟩
  rw [Bool.eq_iff_iff]
  simp only [Bool.and_eq_true, decide_eq_true_eq, (h 32).1, (h 126).2]
  have e1 : (32 : UInt8).toNat = 32 := rfl
  have e2 : (126 : UInt8).toNat = 126 := rfl
  omega
theorem ink_take {s : ByteArray} {k : Nat} (h : k < s.size) : ((bL s).take (k + 1)).all inkU = (((bL s).take k).all inkU && inkU s[k]) := by
  rw [List.take_succ_eq_append_getElem (by rw [bL_size]; exact h), List.all_append]
  simp [bL]; rfl

end Go.Proofs.Ytmdogidflaplkaa

namespace Go.Proofs.Ytmdogidflaplkaa
open Go.RowKit

theorem bL_append (a b : ByteArray) : bL (a ++ b) = bL a ++ bL b := by unfold bL; rw [ByteArray.data_append, Array.toList_append]
theorem deed_tell {s : ByteArray} (h : plainU (bL s) = true) : deedB (0, s) = (⟨#[116, 101, 108, 108]⟩ ++ ⟨#[32]⟩) ++ s := bL_inj (by
  rw [bL_append, bL_append]
  unfold deedB deedU
  rw [bL_of, if_pos ⟨rfl, h⟩]
  rfl)
theorem deed_ask {s : ByteArray} (h : plainU (bL s) = true) : deedB (1, s) = (⟨#[97, 115, 107]⟩ ++ ⟨#[32]⟩) ++ s := bL_inj (by
  rw [bL_append, bL_append]
  unfold deedB deedU
  rw [bL_of, if_neg (fun h => absurd (show (1 : Int) = 0 from h.1) (by decide)), if_pos ⟨rfl, h⟩]
  rfl)
theorem deed_back : deedB (2, ⟨#[]⟩) = ⟨#[98, 97, 99, 107]⟩ := by decide
theorem deed_none {k : Int} {s : ByteArray} (h1 : ¬ ((k = 0 ∨ k = 1) ∧ plainU (bL s) = true)) (h2 : ¬ (k = 2 ∧ bL s = [])) : deedB (k, s) = ⟨#[]⟩ := by
  unfold deedB deedU
  rw [if_neg fun h => h1 ⟨.inl h.1, h.2⟩, if_neg fun h => h1 ⟨.inr h.1, h.2⟩, if_neg fun h => h2 (by injection h with a b; exact ⟨a, b⟩)]
  rfl
def DeedAt (w : World) (B : Nat) (k : Int) (s : ByteArray) : Prop := w.heap[B]? = some (.cells #[.int .i64 k, .string s] 63 (0, 0))
theorem DeedAt.cells {w : World} {B : Nat} {k : Int} {s : ByteArray} (h : DeedAt w B k s) : w.cell? ⟨B, 0, none⟩ = some (.int .i64 k) ∧ w.cell? ⟨B, 1, none⟩ = some (.string s) := by
  constructor <;> simp [World.cell?, show w.heap[B]? = _ from h]
theorem DeedAt.new (w : World) (k : Int) (s : ByteArray) : DeedAt (w.alloc (.cells #[.int .i64 k, .string s] 63)) w.heap.size k s := World.alloc_heap_new w _

end Go.Proofs.Ytmdogidflaplkaa

namespace Go.Proofs.Ytmdogidflaplkaa
open Go.RowKit

/-- Block b is a variable of type T that holds cs. -/
def Box (W : World) (b : Nat) (T : TypeId) (cs : List Value) : Prop := W.heap[b]? = some (.cells cs.toArray T (0, 0))
section
variable {W W' : World} {b : Nat} {T : TypeId} {cs : List Value}
theorem Box.new (W : World) (T : TypeId) (cs : List Value) : Box (W.alloc (.cells cs.toArray T)) W.heap.size T cs := World.alloc_heap_new W _
theorem Box.lt (h : Box W b T cs) : b < W.heap.size := (Array.getElem?_eq_some_iff.1 h).1
theorem Box.alloc (h : Box W b T cs) (o : Obj) : Box (W.alloc o) b T cs := (Below.heap_alloc W o b h.lt).trans h
theorem Box.grown {g : Nat} (h : Box W b T cs) (hg : W.grownBy W' (some g)) (hne : g ≠ b) : Box W' b T cs :=
  (hg.block b h.lt (by simp; omega)).trans h
theorem Box.below (h : Box W b T cs) (hb : Below W.heap.size W W') : Box W' b T cs := (hb.block b h.lt).trans h
theorem Box.drewN (h : Box W b T cs) (n : Nat) : Box (W.drewN n) b T cs := h
theorem Box.drew (h : Box W b T cs) : Box W.drew b T cs := h
theorem Box.cell (h : Box W b T cs) {i : Nat} {v : Value} (hv : cs[i]? = some v) : W.cell? ⟨b, i, none⟩ = some v := by
  unfold Box at h
  simp [World.cell?, h, hv]
theorem Box.frozen (h : Box W b T cs) (i : Nat) : W.frozen? ⟨b, i, none⟩ = false := by
  unfold Box at h
  simp [World.frozen?, h]
theorem Box.set (h : Box W b T cs) (i : Nat) (v : Value) : Box (W.setCell ⟨b, i, none⟩ v) b T (cs.set i v) := by
  unfold Box at *
  simp [World.setCell, Array.getElem?_modify, h]
theorem Box.other {a i : Nat} (h : Box W b T cs) (hne : a ≠ b) (v : Value) : Box (W.setCell ⟨a, i, none⟩ v) b T cs :=
  (Below.heap_setCell W ⟨a, i, none⟩ v b (fun e => hne e.symm)).trans h
/-- What a store of two cells asks and leaves. -/
theorem Box.store2 {x y : Value} (h : Box W b T [x, y]) (u v : Value) :
    (W.cell? ⟨b, 0, none⟩ = some x ∧ W.cell? ⟨b, 1, none⟩ = some y ∧ W.frozen? ⟨b, 0, none⟩ = false ∧ W.frozen? ⟨b, 1, none⟩ = false) ∧
    ((W.setCell ⟨b, 0, none⟩ u).cell? ⟨b, 1, none⟩ = some y ∧ (W.setCell ⟨b, 0, none⟩ u).frozen? ⟨b, 1, none⟩ = false) ∧
    Hid (Box ((W.setCell ⟨b, 0, none⟩ u).setCell ⟨b, 1, none⟩ v) b T [u, v]) :=
  ⟨⟨h.cell rfl, h.cell rfl, h.frozen 0, h.frozen 1⟩, ⟨(h.set 0 u).cell rfl, (h.set 0 u).frozen 1⟩, (h.set 0 u).set 1 v⟩
theorem Box.store4 {x y z p : Value} (h : Box W b T [x, y, z, p]) (u v r q : Value) :
    (W.cell? ⟨b, 0, none⟩ = some x ∧ W.cell? ⟨b, 1, none⟩ = some y ∧ W.cell? ⟨b, 2, none⟩ = some z ∧ W.cell? ⟨b, 3, none⟩ = some p ∧ W.frozen? ⟨b, 0, none⟩ = false ∧ W.frozen? ⟨b, 1, none⟩ = false ∧ W.frozen? ⟨b, 2, none⟩ = false ∧ W.frozen? ⟨b, 3, none⟩ = false) ∧
    ((W.setCell ⟨b, 0, none⟩ u).cell? ⟨b, 1, none⟩ = some y ∧ (W.setCell ⟨b, 0, none⟩ u).frozen? ⟨b, 1, none⟩ = false) ∧
    (((W.setCell ⟨b, 0, none⟩ u).setCell ⟨b, 1, none⟩ v).cell? ⟨b, 2, none⟩ = some z ∧ ((W.setCell ⟨b, 0, none⟩ u).setCell ⟨b, 1, none⟩ v).frozen? ⟨b, 2, none⟩ = false) ∧
    ((((W.setCell ⟨b, 0, none⟩ u).setCell ⟨b, 1, none⟩ v).setCell ⟨b, 2, none⟩ r).cell? ⟨b, 3, none⟩ = some p ∧ (((W.setCell ⟨b, 0, none⟩ u).setCell ⟨b, 1, none⟩ v).setCell ⟨b, 2, none⟩ r).frozen? ⟨b, 3, none⟩ = false) ∧
    Hid (Box ((((W.setCell ⟨b, 0, none⟩ u).setCell ⟨b, 1, none⟩ v).setCell ⟨b, 2, none⟩ r).setCell ⟨b, 3, none⟩ q) b T [u, v, r, q]) :=
  ⟨⟨h.cell rfl, h.cell rfl, h.cell rfl, h.cell rfl, h.frozen 0, h.frozen 1, h.frozen 2, h.frozen 3⟩, ⟨(h.set 0 u).cell rfl, (h.set 0 u).frozen 1⟩, ⟨((h.set 0 u).set 1 v).cell rfl, ((h.set 0 u).set 1 v).frozen 2⟩, ⟨(((h.set 0 u).set 1 v).set 2 r).cell rfl, (((h.set 0 u).set 1 v).set 2 r).frozen 3⟩, (((h.set 0 u).set 1 v).set 2 r).set 3 q⟩
end
theorem Box.grownO {W W' : World} {b : Nat} {T : TypeId} {cs : List Value} {row : Option Nat} (h : Box W b T cs) (hg : W.grownBy W' row) (hne : ∀ k, row = some k → k ≠ b) : Box W' b T cs :=
  (hg.block b h.lt (fun e => hne b e.symm rfl)).trans h
theorem Box.other2 {W : World} {b g : Nat} {T : TypeId} {cs : List Value} (h : Box W b T cs) (hne : g ≠ b) (u v : Value) : Box ((W.setCell ⟨g, 0, none⟩ u).setCell ⟨g, 1, none⟩ v) b T cs := (h.other hne u).other hne v
theorem Box.other4 {W : World} {b g : Nat} {T : TypeId} {cs : List Value} (h : Box W b T cs) (hne : g ≠ b) (u v r q : Value) : Box ((((W.setCell ⟨g, 0, none⟩ u).setCell ⟨g, 1, none⟩ v).setCell ⟨g, 2, none⟩ r).setCell ⟨g, 3, none⟩ q) b T cs := (((h.other hne u).other hne v).other hne r).other hne q
theorem bel_set2 {B : Nat} {w W : World} {b : Nat} (h : Below B w W) (hb : B ≤ b) (u v : Value) : Below B w ((W.setCell ⟨b, 0, none⟩ u).setCell ⟨b, 1, none⟩ v) :=
  (h.setCell (p := ⟨b, 0, none⟩) hb _).setCell (p := ⟨b, 1, none⟩) hb _
theorem bel_set4 {B : Nat} {w W : World} {b : Nat} (h : Below B w W) (hb : B ≤ b) (u v r q : Value) : Below B w ((((W.setCell ⟨b, 0, none⟩ u).setCell ⟨b, 1, none⟩ v).setCell ⟨b, 2, none⟩ r).setCell ⟨b, 3, none⟩ q) :=
  (((h.setCell (p := ⟨b, 0, none⟩) hb _).setCell (p := ⟨b, 1, none⟩) hb _).setCell (p := ⟨b, 2, none⟩) hb _).setCell (p := ⟨b, 3, none⟩) hb _
/-- Results that lie in a variable: alone, with a second result behind. -/
theorem results_deed {fn : Func} {r : Tmp} (h : fn.results = #[.cell r 63]) {tmps : Array Value} {w : World} {b : Nat} {x y : Value} (ht : tmps.getD r undef = .pointer (some ⟨b, 0, none⟩))
   (hb : Hid (Box w b 63 [x, y])) : (results fn tmps).run Try.prog w = .ok (.agg #[x, y]) w := by
  have ht : tmps[r]?.getD undef = .pointer (some ⟨b, 0, none⟩) := by simpa using ht
  have hc0 := hb.out.cell (i := 0) (v := x) rfl
  have hc1 := hb.out.cell (i := 1) (v := y) rfl
  simp [results, h, ht, go_sem, hc0, hc1]
theorem results_deedB {fn : Func} {r q : Tmp} (h : fn.results = #[.cell r 63, .tmp q]) {tmps : Array Value} {w : World} {b : Nat} {x y v : Value} (ht : tmps.getD r undef = .pointer (some ⟨b, 0, none⟩)) (hv : tmps.getD q undef = v)
   (hb : Hid (Box w b 63 [x, y])) : (results fn tmps).run Try.prog w = .ok (.tuple #[.agg #[x, y], v]) w := by
  have ht : tmps[r]?.getD undef = .pointer (some ⟨b, 0, none⟩) := by simpa using ht
  have hv : tmps[q]?.getD undef = v := by simpa using hv
  have hc0 := hb.out.cell (i := 0) (v := x) rfl
  have hc1 := hb.out.cell (i := 1) (v := y) rfl
  simp [results, h, ht, hv, go_sem, hc0, hc1]
theorem results_state {fn : Func} {r : Tmp} (h : fn.results = #[.cell r 25]) {tmps : Array Value} {w : World} {b : Nat} {x y : Value} (ht : tmps.getD r undef = .pointer (some ⟨b, 0, none⟩))
   (hb : Hid (Box w b 25 [x, y])) : (results fn tmps).run Try.prog w = .ok (.agg #[x, y]) w := by
  have ht : tmps[r]?.getD undef = .pointer (some ⟨b, 0, none⟩) := by simpa using ht
  have hc0 := hb.out.cell (i := 0) (v := x) rfl
  have hc1 := hb.out.cell (i := 1) (v := y) rfl
  simp [results, h, ht, go_sem, hc0, hc1]
theorem results_talk {fn : Func} {r : Tmp} (h : fn.results = #[.cell r 28]) {tmps : Array Value} {w : World} {b : Nat} {x y z p : Value} (ht : tmps.getD r undef = .pointer (some ⟨b, 0, none⟩))
   (hb : Hid (Box w b 28 [x, y, z, p])) : (results fn tmps).run Try.prog w = .ok (.agg #[x, y, z, p]) w := by
  have ht : tmps[r]?.getD undef = .pointer (some ⟨b, 0, none⟩) := by simpa using ht
  have hc0 := hb.out.cell (i := 0) (v := x) rfl
  have hc1 := hb.out.cell (i := 1) (v := y) rfl
  have hc2 := hb.out.cell (i := 2) (v := z) rfl
  have hc3 := hb.out.cell (i := 3) (v := p) rfl
  simp [results, h, ht, go_sem, hc0, hc1, hc2, hc3]
theorem results_talkB {fn : Func} {r q : Tmp} (h : fn.results = #[.cell r 28, .tmp q]) {tmps : Array Value} {w : World} {b : Nat} {x y z p v : Value} (ht : tmps.getD r undef = .pointer (some ⟨b, 0, none⟩)) (hv : tmps.getD q undef = v)
   (hb : Hid (Box w b 28 [x, y, z, p])) : (results fn tmps).run Try.prog w = .ok (.tuple #[.agg #[x, y, z, p], v]) w := by
  have ht : tmps[r]?.getD undef = .pointer (some ⟨b, 0, none⟩) := by simpa using ht
  have hv : tmps[q]?.getD undef = v := by simpa using hv
  have hc0 := hb.out.cell (i := 0) (v := x) rfl
  have hc1 := hb.out.cell (i := 1) (v := y) rfl
  have hc2 := hb.out.cell (i := 2) (v := z) rfl
  have hc3 := hb.out.cell (i := 3) (v := p) rfl
  simp [results, h, ht, hv, go_sem, hc0, hc1, hc2, hc3]
end Go.Proofs.Ytmdogidflaplkaa

namespace Go.Proofs.Ytmdogidflaplkaa
open Go.RowKit

theorem sett_is {t k : Int} {s : ByteArray} : asksT.sett t k s = anyWithin k (issueT t s) := rfl
theorem isS_is {t : Int} {s : ByteArray} : asksT.isS t s = isT t s := rfl
set_option maxRecDepth 100000 in
theorem sSettled9 {t k : Int} {s : ByteArray} {b : Bool} (hx : Hid (asksT.isS t s = true)) (hb : Hid (asksT.sett t k s = b)) (w : World) (hk : 0 ≤ k) (hk2 : k < 256) :
    Calls Try.prog 45 #[.int .i64 t, .int .i64 k, .string s] w fun e w' => e = .returned (.bool b) ∧ Below w.heap.size w w' := by
  obtain ⟨x, hx⟩ := isS_some.1 hx.out
  have HX := Lib.hid hx
  have hi := (issueT_some hx).1
  have hlen := issueT_len t s
  rw [sett_is, hi] at hb
  rw [hi] at hlen
  have HOK : Hid (∀ y ∈ issueS t x, 0 ≤ y ∧ y < 256) := by have := issue_range (issueT_ok hx); rw [hi] at this; exact this
  obtain ⟨l, HL⟩ : ∃ l, Hid (issueS t x = l) := ⟨_, rfl⟩
  rw [HL.out] at hb hlen HOK
  clear hx hi
  go_enter Try.func45, Try.ntmps45
  go_wp2_with fail
  refine (sRead_some HX.out _).mono ?_
  rintro e w1 ⟨v, a2, rfl, _, _, ho, hbel⟩
  rw [HL.out] at ho
  obtain ⟨A, c, rfl, _, _, _, _⟩ := ho.form
  have HR := Lib.hid (Owns.row ho (by omega))
  have HB := Lib.hid hbel
  clear ho hbel
  go_wp2_with fail
  refine (sL2Settles_is hb A l.length c _ rfl hk hk2 HOK.out (by omega) (by exact HR.out.hA)).mono ?_
  rintro e w2 ⟨rfl, n, rfl⟩
  go_wp2_with fail
  go_ret
  exact ⟨rfl, bel_drewN HB.out _⟩

/-- No two of them equal, all of them open. -/
def goodTo (t k : Int) (xs : List ByteArray) : Bool := xs.all (fun s => asksT.isS t s && !asksT.sett t k s) && decide xs.Nodup
theorem good_snocS {t k : Int} {xs : List ByteArray} {x : ByteArray} (h : goodTo t k xs = true) (h1 : asksT.isS t x = true) (h2 : asksT.sett t k x = false) (h3 : x ∉ xs) : goodTo t k (xs ++ [x]) = true := by
  unfold goodTo at *
  rw [Bool.and_eq_true, decide_eq_true_eq] at *
  refine ⟨?_, ?_⟩
  · rw [List.all_append, h.1]; simp [h1, h2]
  · rw [List.nodup_append]
    exact ⟨h.2, by simp, fun a ha b hb e => by rw [List.mem_singleton] at hb; rw [e, hb] at ha; exact h3 ha⟩
theorem bad_state {t k : Int} {xs : List ByteArray} {x : ByteArray} (hm : x ∈ xs) (h : asksT.isS t x = false ∨ asksT.sett t k x = true) : stateOk asksT t ⟨k, xs⟩ = false := by
  cases hs : stateOk asksT t ⟨k, xs⟩ with
  | false => rfl
  | true =>
    obtain ⟨_, _, _, h4, _⟩ := (state_parts asksT).1 hs
    obtain ⟨h5, h6⟩ := h4 x hm
    rcases h with h | h
    · rw [h] at h5; cases h5
    · rw [h] at h6; cases h6
theorem bad_twice {t k : Int} {xs : List ByteArray} {i j : Nat} {x : ByteArray} (hi : xs[i]? = some x) (hj : xs[j]? = some x) (hne : j < i) : stateOk asksT t ⟨k, xs⟩ = false := by
  cases hs : stateOk asksT t ⟨k, xs⟩ with
  | false => rfl
  | true =>
    obtain ⟨_, _, _, _, h5⟩ := (state_parts asksT).1 hs
    obtain ⟨hi1, hi2⟩ := List.getElem?_eq_some_iff.1 hi
    obtain ⟨hj1, hj2⟩ := List.getElem?_eq_some_iff.1 hj
    exact absurd (by show xs[j] = xs[i]; rw [hj2, hi2]) (List.pairwise_iff_getElem.1 h5 j i hj1 hi1 hne)
theorem state_end {t k : Int} {xs : List ByteArray} (h : goodTo t k xs = true) : stateOk asksT t ⟨k, xs⟩ = (setOkB t k && decide (k ≠ 0) && decide (xs.length ≤ 4)) := by
  unfold goodTo at h
  rw [Bool.and_eq_true] at h
  unfold stateOk
  show (setOkB t k && decide (k ≠ 0) && decide (xs.length ≤ 4) && (xs.all fun s => asksT.isS t s && !asksT.sett t k s) && decide xs.Nodup) = _
  rw [h.1, h.2, Bool.and_true, Bool.and_true]
theorem settled_bad {t k : Int} {xs : List ByteArray} (h : setOkB t k = false) : stateOk asksT t ⟨k, xs⟩ = false := by
  unfold stateOk
  show (setOkB t k && decide (k ≠ 0) && _ && _ && _) = false
  rw [h]; rfl
/-! The same for sets that are none. -/
set_option maxHeartbeats 400000 in
theorem sBothAny (a b : Int) (w : World) : Calls Try.prog 52 #[.int .i64 a, .int .i64 b] w fun e w' => (∃ v : Int, e = .returned (.int .i64 v)) ∧ ∃ n, w' = w.drewN n := by
  go_enter Try.func52, Try.ntmps52
  go_wp2
  go_loopw [5, 6] (fun t i wr => ∃ (k : Nat) (v : Int), k ≤ 8 ∧ i = .int .i64 k ∧ t = .int .i64 v ∧ ∃ n, wr = w.drewN n) (fun _ i _ => 8 - (Go.RowKit.intOf i).toNat)
  case atStart => exact ⟨0, 0, by omega, rfl, rfl, 0, rfl⟩
  case round =>
    obtain ⟨k, v, hk, rfl, rfl, n, rfl⟩ := hrel
    by_cases hlt : k < 8
    · go_wp2
      go_quiet (fail)
      go_wp2
      go_roundw
      case rel => exact ⟨k + 1, _, by omega, by go_num, rfl, _, rfl⟩
      case measure => simp [Go.RowKit.intOf]; omega
    · obtain rfl : k = 8 := by omega
      go_wp2
      go_ret
      exact ⟨⟨_, rfl⟩, _, rfl⟩
theorem sWithinAny (a b : Int) (w : World) : Calls Try.prog 54 #[.int .i64 a, .int .i64 b] w fun e w' => (∃ v : Bool, e = .returned (.bool v)) ∧ ∃ n, w' = w.drewN n := by
  go_enter Try.func54, Try.ntmps54
  go_wp2_with fail
  refine (sBothAny a b _).mono ?_
  rintro e w' ⟨⟨v, rfl⟩, n, rfl⟩
  go_wp2_with fail
  go_ret
  exact ⟨⟨_, rfl⟩, _, rfl⟩
set_option maxHeartbeats 1000000 in
theorem sL2SettlesAny (A : Option Addr) (n c : Nat) (xs : List Int) (s : Int) (w : World) (hn : n = xs.length) (hl : n ≤ 1048576) (hA : Nums .i64 w A xs) :
    Calls Try.prog 60 #[.slice A n c, .int .i64 s] w fun e w' => (∃ v : Bool, e = .returned (.bool v)) ∧ ∃ n, w' = w.drewN n := by
  subst hn
  have HA := Lib.hid hA
  clear hA
  go_enter Try.func60, Try.ntmps60
  go_wp2
  go_loopw [5] (fun i wr => ∃ k : Nat, k ≤ xs.length ∧ i = .int .i64 k ∧ ∃ n, wr = w.drewN n) (fun i _ => xs.length - (Go.RowKit.intOf i).toNat)
  case atStart => exact ⟨0, Nat.zero_le _, rfl, 0, rfl⟩
  case round =>
    obtain ⟨k, hk, rfl, n, rfl⟩ := hrel
    by_cases hlt : k < xs.length
    · obtain ⟨b, off, x, rfl, hcell, hx, _⟩ := HA.out.elem hlt
      go_wp2_with fail
      refine (sWithinAny s x _).mono ?_
      rintro e w' ⟨⟨v, rfl⟩, m, rfl⟩
      cases v
      · go_wp2_with fail
        go_roundw
        case rel => exact ⟨k + 1, by omega, by go_num, _, rfl⟩
        case measure => simp [Go.RowKit.intOf]; omega
      · go_wp2_with fail
        go_ret
        exact ⟨⟨_, rfl⟩, _, rfl⟩
    · obtain rfl : k = xs.length := by omega
      go_wp2
      go_ret
      exact ⟨⟨_, rfl⟩, _, rfl⟩
set_option maxRecDepth 100000 in
theorem sSettledAny {t k : Int} {s : ByteArray} (hx : Hid (asksT.isS t s = true)) (w : World) :
    Calls Try.prog 45 #[.int .i64 t, .int .i64 k, .string s] w fun e w' => ∃ b : Bool, e = .returned (.bool b) ∧ (setOkB t k = true → b = asksT.sett t k s) ∧ Below w.heap.size w w' := by
  by_cases hk : setOkB t k = true
  · obtain ⟨_, _, h0, _, h256⟩ := setOkB_lt hk
    refine (sSettled9 hx (b := asksT.sett t k s) rfl w h0 h256).mono ?_
    rintro e w' ⟨rfl, hb⟩
    exact ⟨_, rfl, fun _ => rfl, hb⟩
  obtain ⟨x, hx⟩ := isS_some.1 hx.out
  have HX := Lib.hid hx
  have hi := (issueT_some hx).1
  have hlen := issueT_len t s
  rw [hi] at hlen
  obtain ⟨l, HL⟩ : ∃ l, Hid (issueS t x = l) := ⟨_, rfl⟩
  rw [HL.out] at hlen
  have HK := Lib.hid hk
  clear hx hi hk
  go_enter Try.func45, Try.ntmps45
  go_wp2_with fail
  refine (sRead_some HX.out _).mono ?_
  rintro e w1 ⟨v, a2, rfl, _, _, ho, hbel⟩
  rw [HL.out] at ho
  obtain ⟨A, c, rfl, _, _, _, _⟩ := ho.form
  have HR := Lib.hid (Owns.row ho (by omega))
  have HB := Lib.hid hbel
  clear ho hbel
  go_wp2_with fail
  refine (sL2SettlesAny A l.length c l k _ rfl (by omega) (by exact HR.out.hA)).mono ?_
  rintro e w2 ⟨⟨b, rfl⟩, n, rfl⟩
  go_wp2_with fail
  go_ret
  exact ⟨b, rfl, fun h => absurd h HK.out, bel_drewN HB.out _⟩
end Go.Proofs.Ytmdogidflaplkaa
