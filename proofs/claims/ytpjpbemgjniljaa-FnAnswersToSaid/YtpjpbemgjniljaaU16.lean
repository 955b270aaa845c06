/-
  What the proofs of this seat's statements share (QstS, QstT, CntM, CntI).
-/
import Derived.Maps.OwnOps
import Derived.Maps.OwnSet
import Derived.Maps.Views
import Derived.Carry
import Derived.RangeFuncBox
import Derived.Test.YtpjpbemgjniljaaU15
import Derived.Test.YtpjpbemgjniljaaU10
import Derived.Test.YtpjpbemgjniljaaU11
import Derived.Test.YtpjpbemgjniljaaU14
import Derived.Test.YtpjpbemgjniljaaU2

namespace Go.Proofs.Ytpjpbemgjniljaa
open Go.RowKit

theorem catchP_panicking (p q : Addr) (v0 v1 : Value) (u : TypeId) (pv : Value) (w : World) (h0 : w.cell? p = some v0) (h1 : w.cell? q = some v1) (f0 : w.frozen? p = false) (f1 : w.frozen? q = false) (hne : p.block ≠ q.block) :
    CallsD Try.prog 67 #[.pointer (some p), .pointer (some q)] (.panicking [{ v := .iface u pv, recovered := false }]) w fun e u' w' =>
      e = .returned (.tuple #[]) ∧ u' = .panicking [{ v := .iface u pv, recovered := true }] ∧ w' = (w.setCell p (.pointer none)).setCell q (.bool false) := by
  refine callsD_of_wpS Try.func67 rfl fun c₀ cs hu => ?_
  apply wpS_seq
  apply wpS_region
  simp [wpOpsS, go_sem, recoverD, hu, Try.ntmps67, Exit.thenS]
  refine wpS_cond (t := true) (by simp [Act.eval, Array.replicate]) ?_
  simp only [if_true]
  apply wpS_region
  have h2 : (w.setCell p (.pointer none)).cell? q = some v1 := (World.cell?_setCell_far w p q _ hne).trans h1
  have f2 : (w.setCell p (.pointer none)).frozen? q = false := by rw [World.frozen?_setCell]; exact f1
  simp [wpOpsS, go_sem, h0, f0, h2, f2, bodyPostS, results, Try.results67]
theorem catchP_idle (p q : Addr) (w : World) :
    CallsD Try.prog 67 #[.pointer (some p), .pointer (some q)] .returning w fun e u' w' => e = .returned (.tuple #[]) ∧ u' = .returning ∧ w' = w := by
  refine callsD_of_wpS Try.func67 rfl fun c₀ cs hu => ?_
  apply wpS_seq
  apply wpS_region
  simp [wpOpsS, go_sem, recoverD, hu, Try.ntmps67, Exit.thenS]
  refine wpS_cond (t := false) (by simp [Act.eval, Array.replicate]) ?_
  simp only [Bool.false_eq_true, if_false]
  refine wpS_of_wp (wp_skip ?_)
  cases c₀
  simp_all [bodyPostS, results, Try.results67]

/-- The plan that a text is. -/
def planOf (m : Nat) (s : ByteArray) : Option PlanT :=
  if s.size ≤ 60 then match readP m (s.size + 1) (bytesN s) with | some (x, []) => some x | _ => none else none
def PTextPost (m : Nat) (s : ByteArray) (w : World) (e : Ending) (w' : World) : Prop :=
  match planOf m s with
  | some x => ∃ p, e = .returned (.tuple #[.pointer p, .bool true]) ∧ QAt w' w.heap.size x p ∧ Below w.heap.size w w'
  | none => e = .returned nothing ∧ Below w.heap.size w w'
section
variable {m : Nat} {s : ByteArray} {w : World} {e : Ending} {w' : World} {x : PlanT}
theorem PTextPost.of_none (h : planOf m s = none) (he : e = .returned nothing) (hb : Below w.heap.size w w') : PTextPost m s w e w' := by
  unfold PTextPost; rw [h]; exact ⟨he, hb⟩
theorem PTextPost.of_some (h : planOf m s = some x) {p : Option Addr} (he : e = .returned (.tuple #[.pointer p, .bool true])) (hn : QAt w' w.heap.size x p) (hb : Below w.heap.size w w') : PTextPost m s w e w' := by
  unfold PTextPost; rw [h]; exact ⟨p, he, hn, hb⟩
theorem planOf_none (hl : s.size ≤ 60) (h : readP m (s.size + 1) (bytesN s) = none) : planOf m s = none := by unfold planOf; rw [if_pos hl, h]
theorem planOf_more {c : Nat} {r : List Nat} (hl : s.size ≤ 60) (h : readP m (s.size + 1) (bytesN s) = some (x, c :: r)) : planOf m s = none := by unfold planOf; rw [if_pos hl, h]
theorem planOf_some (hl : s.size ≤ 60) (h : readP m (s.size + 1) (bytesN s) = some (x, [])) : planOf m s = some x := by unfold planOf; rw [if_pos hl, h]
end
def startsP (n : Nat) : ByteArray := (⟨#[46, 48, 49, 50, 51, 52]⟩ : ByteArray).extract 0 (n + 1)
theorem startsP_ok (n : Nat) (h5 : n ≤ 5) : StP n (startsP n) := by
  intro c
  have e : ∀ k : UInt8, c = k ↔ c.toNat = k.toNat := fun k => UInt8.toNat_inj.symm
  have hl : (startsP n).data.toList = [46, 48, 49, 50, 51, 52].take (n + 1) := by
    have : n = 0 ∨ n = 1 ∨ n = 2 ∨ n = 3 ∨ n = 4 ∨ n = 5 := by omega
    rcases this with rfl | rfl | rfl | rfl | rfl | rfl <;> rfl
  rw [hl, Bool.eq_iff_iff]
  have : n = 0 ∨ n = 1 ∨ n = 2 ∨ n = 3 ∨ n = 4 ∨ n = 5 := by omega
  rcases this with rfl | rfl | rfl | rfl | rfl | rfl <;> simp [e] <;> omega

set_option maxRecDepth 100000 in
set_option maxHeartbeats 4000000 in
theorem iReadP_long (n : Nat) (s : ByteArray) (w : World) (h : 60 < s.size) (hs : s.size ≤ 9223372036854775807) :
    Calls Try.prog 58 #[.int .i64 n, .string s] w fun e w' => e = .returned nothing ∧ Below w.heap.size w w' := by
  have x0 := Boxed.new w 53 (.pointer none)
  have x1 := Boxed.new (w.alloc (.cells #[.pointer none] 53)) 4 (.bool false)
  rw [World.size_alloc] at x1
  have HB : Hid (Below w.heap.size w ((w.alloc (.cells #[.pointer none] 53)).alloc (.cells #[.bool false] 4))) := ((Below.refl _ _).alloc (Nat.le_refl _) _).alloc (by simp) _
  have y0 := x0.alloc (.cells #[.bool false] 4)
  have hc0 := y0.cell
  have hc1 := x1.cell
  have hf0 := y0.frozen
  have hf1 := x1.frozen
  have X0 := Lib.hid y0
  have X1 := Lib.hid x1
  have z0 := (box_set (y0.set (.pointer none)) (.bool false) (C := w.heap.size + 1) (by omega)).cell
  have z1 := ((box_set x1 (.pointer none) (C := w.heap.size) (by omega)).set (.bool false)).cell
  have HB2 : Hid (Below w.heap.size w ((((w.alloc (.cells #[.pointer none] 53)).alloc (.cells #[.bool false] 4)).setCell ⟨w.heap.size, 0, none⟩ (.pointer none)).setCell ⟨w.heap.size + 1, 0, none⟩ (.bool false))) :=
    (HB.out.setCell (p := ⟨w.heap.size, 0, none⟩) (Nat.le_refl _) _).setCell (p := ⟨w.heap.size + 1, 0, none⟩) (by show w.heap.size ≤ w.heap.size + 1; omega) _
  clear x0 x1 y0
  have hd2 : decide ((60 : Int) < (s.size : Int)) = true := decide_eq_true (by omega)
  clear h
  go_enter_defers Try.func58, Try.ntmps58
  go_wp2_with fail
  exact ⟨nothing, by simp [results, Try.results58, go_sem, hc0, hc1, nothing], rfl, by first | exact HB.out | exact HB2.out⟩

set_option maxRecDepth 100000 in
set_option maxHeartbeats 4000000 in
theorem iReadP_ok (n : Nat) (s : ByteArray) (w : World) (h5 : n ≤ 5) (hs : s.size ≤ 60) :
    Calls Try.prog 58 #[.int .i64 n, .string s] w (PTextPost n s w) := by
  have hmf : ∀ (fn : Fn) (first cap : Array Value) (w : World), (Instr.makeFunc fn first cap).run Try.prog w = .ok (.func fn first cap) w := fun _ _ _ _ => rfl
  have hd : decide ((60 : Int) < (s.size : Int)) = false := decide_eq_false (by omega)
  have htn : (1 + (n : Int)).toNat = n + 1 := by omega
  have hle6 : (1 + (n : Int)) ≤ 6 := by omega
  have hge0 : (0 : Int) ≤ 1 + (n : Int) := by omega
  go_enter_defers Try.func58, Try.ntmps58
  go_wp2_with fail
  obtain ⟨W, hW⟩ : ∃ W, ((w.alloc (.cells #[.pointer none] 53)).alloc (.cells #[.bool false] 4)).alloc (.cells #[.string s, .int .i64 0, .string ⟨#[]⟩] 84) = W := ⟨_, rfl⟩
  have x0 : Boxed W w.heap.size 53 (.pointer none) := by rw [← hW]; exact ((Boxed.new w 53 (.pointer none)).alloc _).alloc _
  have x1 : Boxed W (w.heap.size + 1) 4 (.bool false) := by
    rw [← hW]; have := Boxed.new (w.alloc (.cells #[.pointer none] 53)) 4 (.bool false); rw [World.size_alloc] at this; exact this.alloc _
  have hr : RdrAt W (w.heap.size + 1 + 1) s 0 ⟨#[]⟩ := by
    rw [← hW]; have := World.alloc_heap_new ((w.alloc (.cells #[.pointer none] 53)).alloc (.cells #[.bool false] 4)) (.cells #[.string s, .int .i64 0, .string ⟨#[]⟩] 84); simp only [World.size_alloc] at this; exact this
  have hB : Below w.heap.size w W := by rw [← hW]; exact (((Below.refl _ _).alloc (Nat.le_refl _) _).alloc (by simp) _).alloc (by simp; omega) _
  have hsz : w.heap.size + 3 ≤ W.heap.size := by rw [← hW]; simp
  rw [hW]
  clear hW
  have hread := iPlan n (w.heap.size + 1 + 1) s ⟨#[]⟩ (startsP n) (by omega) (startsP_ok n h5) (s.size + 1) 0 W hr (by omega) (by omega)
  rw [List.drop_zero] at hread
  have HB := Lib.hid hB
  have X0 := Lib.hid x0
  have X1 := Lib.hid x1
  clear x0 x1 hB hr
  rcases hrd : readP n (s.size + 1) (bytesN s) with _ | ⟨x, rest⟩
  · rw [hrd] at hread
    have HI : Hid (Calls Try.prog 68 #[.pointer (some ⟨w.heap.size + 1 + 1, 0, none⟩), .string (startsP n)] W (Panics (w.heap.size + 1 + 1) W)) := hread
    have HE := Lib.hid (planOf_none hs hrd)
    clear hread hrd
    refine HI.out.mono ?_
    rintro e w1 ⟨v, rfl, hg⟩
    have y0 : Boxed w1 w.heap.size 53 (.pointer none) := X0.out.kept hg (fun e => by have := Option.some.inj e; omega)
    have y1 : Boxed w1 (w.heap.size + 1) 4 (.bool false) := X1.out.kept hg (fun e => by have := Option.some.inj e; omega)
    refine leaves_cons (f := 67) (args := #[.pointer (some ⟨w.heap.size, 0, none⟩), .pointer (some ⟨w.heap.size + 1, 0, none⟩)]) (by simp) (by simp [go_sem]) ?_
    refine (catchP_panicking ⟨w.heap.size, 0, none⟩ ⟨w.heap.size + 1, 0, none⟩ _ _ _ _ _ y0.cell y1.cell y0.frozen y1.frozen (by simp)).mono ?_
    rintro e u' w'' ⟨rfl, rfl, rfl⟩
    have z0 := (box_set (y0.set (.pointer none)) (.bool false) (C := w.heap.size + 1) (by omega)).cell
    have z1 := ((box_set y1 (.pointer none) (C := w.heap.size) (by omega)).set (.bool false)).cell
    have HP := Lib.hid (PTextPost.of_none HE.out rfl (below_caught (u0 := .pointer none) (u1 := .bool false) HB.out hg))
    simp [Leaves, settle, results, Try.results58, go_sem, z0, z1]
    exact HP.out
  · rw [hrd] at hread
    have HI : Hid (Calls Try.prog 68 #[.pointer (some ⟨w.heap.size + 1 + 1, 0, none⟩), .string (startsP n)] W (PlanSome (w.heap.size + 1 + 1) s ⟨#[]⟩ x rest W)) := hread
    have HRD := Lib.hid hrd
    clear hread hrd
    refine HI.out.mono ?_
    rintro e w1 ⟨p, a1, rfl, ha1, hda, hr1, hn1, hg⟩
    have y0 : Boxed w1 w.heap.size 53 (.pointer none) := X0.out.kept hg (fun e => by have := Option.some.inj e; omega)
    have y1 : Boxed w1 (w.heap.size + 1) 4 (.bool false) := X1.out.kept hg (fun e => by have := Option.some.inj e; omega)
    have hc0 := y0.cell
    have hf0 := y0.frozen
    rcases rest with _ | ⟨c, r⟩
    · have HE := Lib.hid (planOf_some hs HRD.out)
      obtain rfl := drop_end hda ha1
      have hr2 : RdrAt (w1.setCell ⟨w.heap.size, 0, none⟩ (.pointer p)) (w.heap.size + 1 + 1) s s.size ⟨#[]⟩ := (Below.heap_setCell _ _ _ _ (by show w.heap.size + 1 + 1 ≠ w.heap.size; omega)).trans hr1
      have HT := Lib.hid (iEnd_ok _ s ⟨#[]⟩ _ (by omega) hr2)
      have HG := Lib.hid hg
      have Y0 := Lib.hid (y0.set (.pointer p))
      have Y1 := Lib.hid (box_set y1 (.pointer p) (C := w.heap.size) (by omega))
      have HN := Lib.hid hn1
      clear hda hr1 hn1 hg y0 y1 hr2
      go_wp2_with fail
      refine HT.out.mono ?_
      rintro e w2 ⟨rfl, q, rfl⟩
      clear hc0 hf0
      have hc0 := Y0.out.cell
      have hf0 := Y0.out.frozen
      have hc1 := Y1.out.cell
      have hf1 := Y1.out.frozen
      go_wp2_with fail
      refine leaves_cons (f := 67) (args := #[.pointer (some ⟨w.heap.size, 0, none⟩), .pointer (some ⟨w.heap.size + 1, 0, none⟩)]) (by simp) (by simp [go_sem]) ?_
      refine (catchP_idle ⟨w.heap.size, 0, none⟩ ⟨w.heap.size + 1, 0, none⟩ _).mono ?_
      rintro e u' w'' ⟨rfl, rfl, rfl⟩
      have Y0q : Boxed ((w1.setCell ⟨w.heap.size, 0, none⟩ (.pointer p)).drewN q) w.heap.size 53 (.pointer p) := Y0.out
      have Y1q : Boxed ((w1.setCell ⟨w.heap.size, 0, none⟩ (.pointer p)).drewN q) (w.heap.size + 1) 4 (.bool false) := Y1.out
      have z0 := (box_set (Y0q.set (.pointer p)) (.bool true) (C := w.heap.size + 1) (by omega)).cell
      have z1 := ((box_set Y1q (.pointer p) (C := w.heap.size) (by omega)).set (.bool true)).cell
      have hsn : QAt ((((w1.setCell ⟨w.heap.size, 0, none⟩ (.pointer p)).drewN q).setCell ⟨w.heap.size, 0, none⟩ (.pointer p)).setCell ⟨w.heap.size + 1, 0, none⟩ (.bool true)) w.heap.size x p :=
        QAt.low (lo := W.heap.size) (by omega) x p (QAt.set (QAt.set (QAt.drewN (QAt.set HN.out (by omega) _) _) (by omega) _) (by omega) _)
      have hbl : Below w.heap.size w ((((w1.setCell ⟨w.heap.size, 0, none⟩ (.pointer p)).drewN q).setCell ⟨w.heap.size, 0, none⟩ (.pointer p)).setCell ⟨w.heap.size + 1, 0, none⟩ (.bool true)) :=
        ((bel_drewN ((HB.out.grown HG.out HB.out.size (fun k e => by have := Option.some.inj e; omega)).setCell (p := ⟨w.heap.size, 0, none⟩) (Nat.le_refl _) _) q).setCell (p := ⟨w.heap.size, 0, none⟩) (Nat.le_refl _) _).setCell (p := ⟨w.heap.size + 1, 0, none⟩) (by show w.heap.size ≤ w.heap.size + 1; omega) _
      have HP := Lib.hid (PTextPost.of_some HE.out rfl hsn hbl)
      simp [Leaves, settle, results, Try.results58, go_sem, z0, z1]
      exact HP.out
    · have HE := Lib.hid (planOf_more hs HRD.out)
      obtain ⟨hlt, _, _⟩ := drop_lt hda
      have hr2 : RdrAt (w1.setCell ⟨w.heap.size, 0, none⟩ (.pointer p)) (w.heap.size + 1 + 1) s a1 ⟨#[]⟩ := (Below.heap_setCell _ _ _ _ (by show w.heap.size + 1 + 1 ≠ w.heap.size; omega)).trans hr1
      have HT := Lib.hid (iEnd_bad _ s ⟨#[]⟩ a1 _ (by omega) hlt hr2)
      have HG := Lib.hid hg
      have Y0 := Lib.hid (y0.set (.pointer p))
      have Y1 := Lib.hid (box_set y1 (.pointer p) (C := w.heap.size) (by omega))
      clear hda hr1 hn1 hg y0 y1 hr2
      go_wp2_with fail
      refine HT.out.mono ?_
      rintro e w2 ⟨v, rfl, hg2⟩
      have y0 : Boxed w2 w.heap.size 53 (.pointer p) := Boxed.kept Y0.out hg2 (fun e => by have := Option.some.inj e; omega)
      have y1 : Boxed w2 (w.heap.size + 1) 4 (.bool false) := Boxed.kept Y1.out hg2 (fun e => by have := Option.some.inj e; omega)
      refine leaves_cons (f := 67) (args := #[.pointer (some ⟨w.heap.size, 0, none⟩), .pointer (some ⟨w.heap.size + 1, 0, none⟩)]) (by simp) (by simp [go_sem]) ?_
      refine (catchP_panicking ⟨w.heap.size, 0, none⟩ ⟨w.heap.size + 1, 0, none⟩ _ _ _ _ _ y0.cell y1.cell y0.frozen y1.frozen (by simp)).mono ?_
      rintro e u' w'' ⟨rfl, rfl, rfl⟩
      have z0 := (box_set (y0.set (.pointer none)) (.bool false) (C := w.heap.size + 1) (by omega)).cell
      have z1 := ((box_set y1 (.pointer none) (C := w.heap.size) (by omega)).set (.bool false)).cell
      have hb1 : Below w.heap.size w (w1.setCell ⟨w.heap.size, 0, none⟩ (.pointer p)) := (HB.out.grown HG.out HB.out.size (fun k e => by have := Option.some.inj e; omega)).setCell (p := ⟨w.heap.size, 0, none⟩) (Nat.le_refl _) _
      have HP := Lib.hid (PTextPost.of_none HE.out rfl (below_caught (u0 := .pointer none) (u1 := .bool false) hb1 hg2))
      simp [Leaves, settle, results, Try.results58, go_sem, z0, z1]
      exact HP.out
theorem iReadPlan (n : Nat) (s : ByteArray) (w : World) (h5 : n ≤ 5) (hs : s.size ≤ 9223372036854775807) : Calls Try.prog 58 #[.int .i64 n, .string s] w (PTextPost n s w) := by
  by_cases h : 60 < s.size
  · refine (iReadP_long n s w h hs).mono ?_
    rintro e w' ⟨he, hb⟩
    exact PTextPost.of_none (by unfold planOf; rw [if_neg (by omega)]) he hb
  · exact iReadP_ok n s w h5 (by omega)
end Go.Proofs.Ytpjpbemgjniljaa

namespace Go.Proofs.Ytpjpbemgjniljaa
open Go.RowKit

theorem bits_sub {s q : Int} (hs : 0 ≤ s) (hs2 : s < 256) (hq : 0 ≤ q) (hq2 : q < 256) : bits .andNot .i64 s q = s - andI s q := by
  obtain ⟨h1, h2⟩ := bits_less hs hs2 hq hq2
  refine has_ext h1 (sub_pos hs) fun w => ?_
  rw [h2, has_sub w hs]
theorem ask_cells_below {w W : World} {b k : Nat} {q r : Option Addr} (h : AskAt w b k q r) (hb : Below w.heap.size w W) : W.cell? ⟨b, 1, none⟩ = some (.pointer q) ∧ W.cell? ⟨b, 2, none⟩ = some (.pointer r) := by
  have := ask_cells ((hb.block b (Array.getElem?_eq_some_iff.1 h).1).trans h)
  exact ⟨this.2.1, this.2.2.1⟩
def LongPost (d : Nat) (w : World) (e : Ending) (w' : World) : Prop := e = .returned (.int .i64 d) ∧ Below w.heap.size w w'
set_option maxRecDepth 100000 in
set_option maxHeartbeats 4000000 in
theorem iLong_nil (w : World) : Calls Try.prog 37 #[.pointer none] w (LongPost 0 w) := by
  go_enter Try.func37, Try.ntmps37
  go_wp2_with fail
  go_ret
  exact ⟨rfl, Below.refl _ _⟩
set_option maxRecDepth 100000 in
set_option maxHeartbeats 4000000 in
theorem iLong_ask {b k : Nat} {q r : Option Addr} {w : World} {d1 d2 : Nat} (hn : AskAt w b k q r) (hd1 : d1 ≤ 1048576) (hd2 : d2 ≤ 1048576)
    (hk : ∀ W, Below w.heap.size w W → Calls Try.prog 37 #[.pointer q] W (LongPost d1 W))
    (hk2 : ∀ W, Below w.heap.size w W → Calls Try.prog 37 #[.pointer r] W (LongPost d2 W)) :
    Calls Try.prog 37 #[.pointer (some ⟨b, 0, none⟩)] w (LongPost (max d1 d2 + 1) w) := by
  obtain ⟨hc0, hc1, hc2, hlt⟩ := ask_cells hn
  have HK := Lib.hid hk
  have HK2 := Lib.hid hk2
  have HN := Lib.hid hn
  have HBd : Hid (Below w.heap.size w w.drew) := bel_drewN (Below.refl _ w) 1
  have hwr : IntKind.i64.wrap (1 + max (d1 : Int) (d2 : Int)) = 1 + max (d1 : Int) (d2 : Int) := by rw [IntKind.wrap_i64]; omega
  clear hk hn hk2
  go_enter Try.func37, Try.ntmps37
  go_wp2_with fail
  go_region_held3 (fun w' => w'.cell? ⟨b, 1, none⟩ = some (.pointer q) ∧ w'.cell? ⟨b, 2, none⟩ = some (.pointer r))
    (first | go_keep | exact ask_cells_below HN.out HB2.out | exact ask_cells_below HN.out HB1.out)
    (first
      | (go_at_call 37; ((with_reducible refine (HK.out w.drew HBd.out).mono ?_)); rintro e w1 ⟨rfl, hb⟩; have HB1 : Hid (Below w.heap.size w w1) := bel_trans HBd.out hb; clear hb HK HBd)
      | (go_at_call 37; ((with_reducible refine (HK2.out _ HB1.out).mono ?_)); rintro e w2 ⟨rfl, hb⟩; have HB2 : Hid (Below w.heap.size w w2) := bel_trans HB1.out hb; clear hb HK2 HB1))
  all_goals
    go_wp2_with fail
    go_ret
    refine ⟨ret_int ?_, HB2.out⟩
    first | omega | (rw [hwr]; omega)
theorem iLong : ∀ (x : PlanT) (p : Option Addr) (lo : Nat) (w : World), (textP x).length ≤ 1048576 → QAt w lo x p → Calls Try.prog 37 #[.pointer p] w (LongPost (depthP x) w)
  | .dot, _, _, w, _, h => by cases h; exact iLong_nil w
  | .ask k a c, _, lo, w, hl, ⟨b, q, r, rfl, _, hn, h1, h2⟩ => by
    have hla : (textP a).length ≤ 1048576 := by unfold textP at hl; simp at hl; omega
    have hlc : (textP c).length ≤ 1048576 := by unfold textP at hl; simp at hl; omega
    have hd : ∀ y : PlanT, depthP y ≤ (textP y).length := by
      intro y
      induction y with
      | dot => simp [depthP]
      | ask k y z h1 h2 => unfold depthP textP; simp; omega
    exact iLong_ask hn (by have := hd a; omega) (by have := hd c; omega) (fun W hb => iLong a q lo W hla (h1.below hb)) (fun W hb => iLong c r lo W hlc (h2.below hb))

set_option maxRecDepth 100000 in
set_option maxHeartbeats 4000000 in
theorem iWith_nil {issue : List Int} {A B : Option Addr} {na ca nb cb : Nat} {u : Int} {w : World} {v : Bool} (h : Hid (anyWithin u issue = v)) (hb : Row w B nb cb issue) (hi : ∀ x ∈ issue, 0 ≤ x ∧ x < 256) (hu0 : 0 ≤ u) (hu : u < 256) :
    Calls Try.prog 59 #[.slice A na ca, .slice B nb cb, .int .i64 u, .pointer none] w fun e w' => e = .returned (.bool v) ∧ w' = w := by
  have HB := Lib.hid hb
  have HI := Lib.hid hi
  clear hb hi
  go_enter Try.func59, Try.ntmps59
  go_wp2_with fail
  refine (iWithinAny_is h _ _ _ _ HB.out.hn hu0 hu HI.out HB.out.hl HB.out.hA).mono ?_
  rintro e w' ⟨rfl, rfl⟩
  go_wp2_with fail
  go_ret
  exact ⟨rfl, rfl⟩
set_option maxRecDepth 100000 in
set_option maxHeartbeats 4000000 in
theorem iWith_ask {asks : List Int} {A B : Option Addr} {na ca nb cb : Nat} {u x y : Int} {w : World} {v1 v2 : Bool} {b k : Nat} {q r : Option Addr} (hn : AskAt w b k q r) (ha : Row w A na ca asks) (hx : Hid (asks[k]? = some x)) (hr : ∀ q ∈ asks, 0 ≤ q ∧ q < 256) (hu0 : 0 ≤ u) (hu : u < 256) (hy : Hid (andI u x = y))
    (hk : Calls Try.prog 59 #[.slice A na ca, .slice B nb cb, .int .i64 y, .pointer q] w fun e w' => e = .returned (.bool v1) ∧ w' = w)
    (hk2 : Calls Try.prog 59 #[.slice A na ca, .slice B nb cb, .int .i64 (u - y), .pointer r] w fun e w' => e = .returned (.bool v2) ∧ w' = w) :
    Calls Try.prog 59 #[.slice A na ca, .slice B nb cb, .int .i64 u, .pointer (some ⟨b, 0, none⟩)] w fun e w' => e = .returned (.bool (v1 && v2)) ∧ w' = w := by
  obtain ⟨hc0, hc1, hc2, hlt⟩ := ask_cells hn
  have HK := Lib.hid hk
  have HK2 := Lib.hid hk2
  have hkl : k < asks.length := (List.getElem?_eq_some_iff.1 hx.out).1
  obtain ⟨hq0, hq1⟩ := hr x (List.mem_of_getElem? hx.out)
  obtain ⟨b2, off, x', rfl, hcell, hx', _⟩ := ha.hA.elem hkl
  obtain rfl : x' = x := by have h1 := hx.out; have h2 := hx'.out; rw [h1] at h2; exact (Option.some.inj h2).symm
  obtain rfl := ha.hn
  have hl := ha.hl
  have hb1 : bits .and .i64 u x' = y := by rw [bits_and u x' hu0 (by omega) hq0 (by omega), hy.out]
  have hb2 : bits .andNot .i64 u x' = u - y := by rw [bits_sub hu0 hu hq0 hq1, hy.out]
  clear hk hn hk2 ha hr hx'
  cases v1
  · go_enter Try.func59, Try.ntmps59
    go_wp2_with fail
    refine HK.out.mono ?_
    rintro e w' ⟨rfl, rfl⟩
    go_wp2_with fail
    go_ret
    exact ⟨rfl, rfl⟩
  · go_enter Try.func59, Try.ntmps59
    go_wp2_with fail
    refine HK.out.mono ?_
    rintro e w' ⟨rfl, rfl⟩
    go_wp2_with fail
    refine HK2.out.mono ?_
    rintro e w' ⟨rfl, rfl⟩
    go_wp2_with fail
    go_ret
    exact ⟨rfl, rfl⟩
theorem iWith {asks issue : List Int} {A B : Option Addr} {na ca nb cb : Nat} (hr : ∀ q ∈ asks, 0 ≤ q ∧ q < 256) (hi : ∀ x ∈ issue, 0 ≤ x ∧ x < 256) : ∀ (x : PlanT) (p : Option Addr) (lo : Nat) (u : Int) (w : World), knowsP asks.length x → QAt w lo x p → Row w A na ca asks → Row w B nb cb issue → 0 ≤ u → u < 256 →
    Calls Try.prog 59 #[.slice A na ca, .slice B nb cb, .int .i64 u, .pointer p] w fun e w' => e = .returned (.bool (okP asks issue x u)) ∧ w' = w
  | .dot, _, _, u, w, _, h, ha, hb, hu0, hu => by cases h; exact iWith_nil rfl hb hi hu0 hu
  | .ask k a c, _, lo, u, w, ⟨hk, hk1, hk2⟩, ⟨b, q, r, rfl, _, hn, h1, h2⟩, ha, hb, hu0, hu => by
    obtain ⟨hy0, hy1, hz0, hz1⟩ := andI_lt asks[k] hu0 hu
    have e : okP asks issue (.ask k a c) u = (okP asks issue a (andI u asks[k]) && okP asks issue c (u - andI u asks[k])) := by
      show (match asks[k]? with | some q => _ | none => _) = _
      rw [List.getElem?_eq_getElem hk]
    rw [e]
    exact iWith_ask hn ha (List.getElem?_eq_getElem hk) hr hu0 hu rfl (iWith hr hi a q lo _ w hk1 h1 ha hb hy0 hy1) (iWith hr hi c r lo _ w hk2 h2 ha hb hz0 hz1)
end Go.Proofs.Ytpjpbemgjniljaa

namespace Go.Proofs.Ytpjpbemgjniljaa
open Go.RowKit Go.Maps

theorem num_keyed : Keyed Try.prog 3 := int_keyed Try.underlying3
theorem num_zero (w : World) : (zeroValue 3).run Try.prog w = .ok (.int .i64 0) w := by kernel_rfl
theorem wf_256 {s : Int} (h0 : -1048576 ≤ s) (h1 : s ≤ 1048576) : (Lit.int .i64 s).wf = true := WalkArith.wf_i64 (by omega)
theorem num_key {s : Int} (h0 : 0 ≤ s) (h1 : s < 256) : keyOf Try.prog 3 (.int .i64 s) = some (.int .i64 s) := keyOf_int_mk Try.underlying3 (wf_256 (by omega) (by omega))
abbrev NMap (w : World) (B n : Nat) (D : DataW Unit) : Prop := w.ownsMap Try.prog 3 (plainElem Try.prog 3) B n D
theorem NMap.sized {w : World} {B n : Nat} {D : DataW Unit} (h : NMap w B n D) : NMap w B (Maps.size D) D := by
  obtain ⟨es, clock, hb, F, hs, rfl⟩ := h
  exact ⟨es, clock, hb, F, by simp [Maps.size, length_sorted], rfl⟩
theorem count_set {f g : Nat → Bool} {k : Nat} : ∀ N : Nat, k < N → (∀ i, i ≠ k → g i = f i) → g k = true → (List.range N).countP g = (List.range N).countP f + (if f k = true then 0 else 1)
  | 0, h, _, _ => by omega
  | N + 1, h, hne, hk => by
    rw [List.range_succ, List.countP_append, List.countP_append, List.countP_singleton, List.countP_singleton]
    by_cases e : k = N
    · subst e
      have hh : (List.range k).countP g = (List.range k).countP f := List.countP_congr fun i hi => by
        rw [hne i (by have := List.mem_range.1 hi; omega)]
      rw [hh, hk, if_pos rfl]
      cases f k <;> simp
    · rw [count_set N (by omega) hne hk, hne N (fun h => e h.symm)]
      omega
/-- How many sets are remembered. -/
def cntM (D : DataW Unit) : Nat := (List.range 256).countP fun i : Nat => Maps.has D (.int .i64 i)
theorem cntM_le (D : DataW Unit) : cntM D ≤ 256 := by unfold cntM; exact Nat.le_trans List.countP_le_length (by simp)
theorem cntM_put {D : DataW Unit} (hD : IsMap D) {s : Nat} (hs : s < 256) (d : DataW Unit) : cntM (D.put (.int .i64 s) d) = cntM D + (if Maps.has D (.int .i64 s) = true then 0 else 1) := by
  unfold cntM
  refine count_set (f := fun i : Nat => Maps.has D (.int .i64 i)) (g := fun i : Nat => Maps.has (D.put (.int .i64 s) d) (.int .i64 i)) 256 hs (fun i hi => ?_) ?_
  · exact has_put_other (fun e => hi (by have := Lit.int.inj e; omega)) d
  · exact has_put_same hD (by trivial) d
/-- What is remembered is what the function tells. -/
def Remb (f : Int → Int) (D : DataW Unit) : Prop := Maps.size D = cntM D ∧ ∀ s : Nat, s < 256 → Maps.has D (.int .i64 s) = true → D.atKey (.int .i64 s) (.lit (.int .i64 0)) = .lit (.int .i64 (f s))
theorem Remb.start (f : Int → Int) : Remb f (.map []) := ⟨(List.countP_eq_zero.2 (fun i _ => by show ¬ (false = true); decide)).symm, fun s _ h => by cases h⟩
theorem Remb.put {f : Int → Int} {D : DataW Unit} (h : Remb f D) (ht : Tidy D) {s : Int} (h0 : 0 ≤ s) (hs : s < 256) : Remb f (D.put (.int .i64 s) (.lit (.int .i64 (f s)))) := by
  obtain ⟨k, rfl⟩ : ∃ k : Nat, s = k := ⟨s.toNat, by omega⟩
  have hk : k < 256 := by omega
  refine ⟨?_, fun i hi hh => ?_⟩
  · rw [size_put ht, cntM_put ht.isMap hk, h.1]
    split <;> rfl
  · by_cases e : i = k
    · subst e
      exact atKey_put_same ht.isMap (by trivial) _ _
    · have hne : (Lit.int .i64 (i : Int)) ≠ .int .i64 (k : Int) := fun e2 => e (by have := Lit.int.inj e2; omega)
      rw [atKey_put_other hne]
      rw [has_put_other hne] at hh
      exact h.2 i hi hh
theorem Remb.look {f : Int → Int} {D : DataW Unit} (h : Remb f D) {s c : Int} (h0 : 0 ≤ s) (hs : s < 256) (hh : Maps.has D (.int .i64 s) = true) (hc : D.atKey (.int .i64 s) (.lit (.int .i64 0)) = .lit (.int .i64 c)) : c = f s := by
  obtain ⟨k, rfl⟩ : ∃ k : Nat, s = k := ⟨s.toNat, by omega⟩
  rw [h.2 k (by omega) hh] at hc
  have := DataW.lit.inj hc
  exact (Lit.int.inj this).2.symm

/-- The function that counts, and what it has captured. -/
abbrev cntFn (bI bR bA bF : Nat) : Value := .func (.func 49) #[] #[.pointer (some ⟨bI, 0, none⟩), .pointer (some ⟨bR, 0, none⟩), .pointer (some ⟨bA, 0, none⟩), .pointer (some ⟨bF, 0, none⟩)]
structure CntIds (asks issue : List Int) (bI bR bA bF bM base : Nat) (A B : Option Addr) : Prop where
  nI : bI ≠ bM
  nR : bR ≠ bM
  nA : bA ≠ bM
  nF : bF ≠ bM
  hM : base ≤ bM
  oA : asks.length = 0 ∨ ∀ ad, A = some ad → ad.block ≠ bM
  oB : issue.length = 0 ∨ ∀ ad, B = some ad → ad.block ≠ bM
structure Cnt (f : Int → Int) (asks issue : List Int) (A B : Option Addr) (na ca nb cb bI bR bA bF bM base : Nat) (w0 w : World) : Prop where
  xI : Boxed w bI 23 (.slice B nb cb)
  xR : Boxed w bR 68 (.map (some bM))
  xA : Boxed w bA 23 (.slice A na ca)
  xF : Boxed w bF 40 (cntFn bI bR bA bF)
  ra : Nums .i64 w A asks
  rb : Nums .i64 w B issue
  hb : Below base w0 w
  mp : ∃ D : DataW Unit, NMap w bM (Maps.size D) D ∧ Remb f D
theorem Cnt.put {f : Int → Int} {asks issue : List Int} {A B : Option Addr} {na ca nb cb bI bR bA bF bM base : Nat} {w0 w w' : World} (ids : CntIds asks issue bI bR bA bF bM base A B) (h : Cnt f asks issue A B na ca nb cb bI bR bA bF bM base w0 w)
    (hg : w.grownBy w' (some bM)) {n : Nat} {D : DataW Unit} (hr : Remb f D) (hm : NMap w' bM n D) (hbase : base ≤ w.heap.size) : Cnt f asks issue A B na ca nb cb bI bR bA bF bM base w0 w' :=
  ⟨h.xI.kept hg (fun e => ids.nI (Option.some.inj e)), h.xR.kept hg (fun e => ids.nR (Option.some.inj e)), h.xA.kept hg (fun e => ids.nA (Option.some.inj e)), h.xF.kept hg (fun e => ids.nF (Option.some.inj e)),
    ids.oA.elim Nums.none_ (fun o => h.ra.grown hg (fun ad e e2 => o ad e (Option.some.inj e2))), ids.oB.elim Nums.none_ (fun o => h.rb.grown hg (fun ad e e2 => o ad e (Option.some.inj e2))), h.hb.grown hg hbase (fun k e => by cases e; exact ids.hM), ⟨D, hm.sized, hr⟩⟩
end Go.Proofs.Ytpjpbemgjniljaa

namespace Go.Proofs.Ytpjpbemgjniljaa
open Go.RowKit

/-- A call of the function that counts, at a set. -/
def NeedAt (P : World → Prop) (f : Int → Int) (c1 c2 c3 c4 : Value) (s : Int) : Prop := ∀ w, P w → Calls Try.prog 49 #[.int .i64 s, c1, c2, c3, c4] w fun e w' => e = .returned (.int .i64 (f s)) ∧ P w'
def worthYZ (f : Int → Int) (y z : Int) : Int := if y = 0 ∨ z = 0 then -1 else if 0 ≤ f y ∧ 0 ≤ f z then 1 + max (f y) (f z) else -1
theorem worth_yz (f : Int → Int) (s q : Int) : worthI f s q = worthYZ f (andI s q) (s - andI s q) := by
  unfold worthI worthYZ
  by_cases h : andI s q = 0 ∨ andI s q = s
  · have h2 : andI s q = 0 ∨ s - andI s q = 0 := by omega
    rw [if_pos h, if_pos h2]
  · have h2 : ¬ (andI s q = 0 ∨ s - andI s q = 0) := by omega
    rw [if_neg h, if_neg h2]
theorem NeedAt.call {P : World → Prop} {f : Int → Int} {c1 c2 c3 c4 : Value} {s v : Int} (h : NeedAt P f c1 c2 c3 c4 s) (hv : Hid (f s = v)) {w : World} (hp : P w) : Calls Try.prog 49 #[.int .i64 s, c1, c2, c3, c4] w fun e w' => e = .returned (.int .i64 v) ∧ P w' := by
  have := h w hp
  rw [hv.out] at this; exact this
set_option maxRecDepth 100000 in
set_option maxHeartbeats 4000000 in
theorem iNeededWith {P : World → Prop} {f : Int → Int} {c1 c2 c3 c4 : Value} {y z : Int} {w : World} (hp : P w) (hf : ∀ x, 0 ≤ x → -1 ≤ f x ∧ f x ≤ 1048576) (hy0 : 0 ≤ y) (hz0 : 0 ≤ z)
    (h1 : y ≠ 0 → z ≠ 0 → NeedAt P f c1 c2 c3 c4 y) (h2 : y ≠ 0 → z ≠ 0 → NeedAt P f c1 c2 c3 c4 z) :
    Calls Try.prog 63 #[.int .i64 y, .int .i64 z, .func (.func 49) #[] #[c1, c2, c3, c4]] w fun e w' => e = .returned (.int .i64 (worthYZ f y z)) ∧ P w' := by
  have HP := Lib.hid hp
  obtain ⟨res, HRES⟩ : ∃ r, Hid (worthYZ f y z = r) := ⟨_, rfl⟩
  rw [HRES.out]
  have hres := HRES.out
  unfold worthYZ at hres
  clear hp HRES
  by_cases hy : y = 0
  · subst hy
    have HN : Hid (-1 = res) := by rw [if_pos (.inl rfl)] at hres; exact hres
    clear hres h1 h2
    go_enter Try.func63, Try.ntmps63
    go_wp2_with fail
    go_ret
    exact ⟨ret_int HN.out, HP.out⟩
  · by_cases hz : z = 0
    · subst hz
      have e0 : (y == (0 : Int)) = false := by rw [beq_eq_false_iff_ne]; exact hy
      have HN : Hid (-1 = res) := by rw [if_pos (.inr rfl)] at hres; exact hres
      clear hres h1 h2
      go_enter Try.func63, Try.ntmps63
      go_wp2_with fail
      go_ret
      exact ⟨ret_int HN.out, HP.out⟩
    · have e0 : (y == (0 : Int)) = false := by rw [beq_eq_false_iff_ne]; exact hy
      have e1 : (z == (0 : Int)) = false := by rw [beq_eq_false_iff_ne]; exact hz
      rw [if_neg (by omega)] at hres
      have H1 := Lib.hid (h1 hy hz)
      have H2 := Lib.hid (h2 hy hz)
      have hr1 := hf y hy0
      have hr2 := hf z hz0
      obtain ⟨a1, HA1⟩ : ∃ a, Hid (f y = a) := ⟨_, rfl⟩
      obtain ⟨a2, HA2⟩ : ∃ a, Hid (f z = a) := ⟨_, rfl⟩
      rw [HA1.out] at hr1 hres
      rw [HA2.out] at hr2 hres
      clear h1 h2 hf hy hz
      by_cases hp : 0 ≤ a1 ∧ 0 ≤ a2
      · have HN : Hid (1 + max a1 a2 = res) := by rw [if_pos hp] at hres; exact hres
        have hq1 : decide (a1 < (0 : Int)) = false := decide_eq_false (by omega)
        have hq2 : decide (a2 < (0 : Int)) = false := decide_eq_false (by omega)
        clear hres
        go_enter Try.func63, Try.ntmps63
        go_wp2_with fail
        refine (NeedAt.call H1.out HA1 HP.out).mono ?_
        rintro e w1 ⟨rfl, hp1⟩
        have HP1 := Lib.hid hp1
        clear hp1
        go_wp2_with fail
        refine (NeedAt.call H2.out HA2 HP1.out).mono ?_
        rintro e w2 ⟨rfl, hp2⟩
        have HP2 := Lib.hid hp2
        clear hp2
        go_wp2_with fail
        all_goals
          go_ret
          refine ⟨ret_int ?_, HP2.out⟩
          have := HN.out
          omega
      · have HN : Hid (-1 = res) := by rw [if_neg hp] at hres; exact hres
        clear hres
        by_cases hp1 : 0 ≤ a1
        · have hq1 : decide (a1 < (0 : Int)) = false := decide_eq_false (by omega)
          have hq2 : decide (a2 < (0 : Int)) = true := decide_eq_true (by omega)
          clear hp
          go_enter Try.func63, Try.ntmps63
          go_wp2_with fail
          refine (NeedAt.call H1.out HA1 HP.out).mono ?_
          rintro e w1 ⟨rfl, hp1⟩
          have HP1 := Lib.hid hp1
          clear hp1
          go_wp2_with fail
          refine (NeedAt.call H2.out HA2 HP1.out).mono ?_
          rintro e w2 ⟨rfl, hp2⟩
          have HP2 := Lib.hid hp2
          clear hp2
          go_wp2_with fail
          go_ret
          exact ⟨ret_int HN.out, HP2.out⟩
        · have hq1 : decide (a1 < (0 : Int)) = true := decide_eq_true (by omega)
          clear hp
          go_enter Try.func63, Try.ntmps63
          go_wp2_with fail
          refine (NeedAt.call H1.out HA1 HP.out).mono ?_
          rintro e w1 ⟨rfl, hp1⟩
          have HP1 := Lib.hid hp1
          clear hp1
          go_wp2_with fail
          refine (NeedAt.call H2.out HA2 HP1.out).mono ?_
          rintro e w2 ⟨rfl, hp2⟩
          have HP2 := Lib.hid hp2
          clear hp2
          go_wp2_with fail
          go_ret
          exact ⟨ret_int HN.out, HP2.out⟩
/-- What asking best tells. -/
def BestPost (P : World → Prop) (v : Int → Int) (asks : List Int) (e : Ending) (w' : World) : Prop := ∃ b l : Int, e = .returned (.tuple #[.int .i64 b, .int .i64 l]) ∧ BestOf v asks asks.length b l ∧ P w'
set_option maxRecDepth 100000 in
set_option maxHeartbeats 8000000 in
theorem iBest {P : World → Prop} {f : Int → Int} {c1 c2 c3 c4 : Value} {A : Option Addr} {na ca : Nat} {asks : List Int} {s : Int} {w : World} (hp : P w) (hf : ∀ x, 0 ≤ x → -1 ≤ f x ∧ f x ≤ 5) (hrow : ∀ W, P W → Nums .i64 W A asks) (hna : na = asks.length) (hl5 : asks.length ≤ 5)
    (hr : ∀ q ∈ asks, 0 ≤ q ∧ q < 256) (hs0 : 0 ≤ s) (hs : s < 256) (hcall : ∀ x, 0 ≤ x → x < s → NeedAt P f c1 c2 c3 c4 x) :
    Calls Try.prog 50 #[.slice A na ca, .int .i64 s, .func (.func 49) #[] #[c1, c2, c3, c4]] w (BestPost P (worthI f s) asks) := by
  subst hna
  have HP := Lib.hid hp
  have HROW := Lib.hid hrow
  have HRQ := Lib.hid hr
  have HV : Hid (∀ q, worthI f s q ≤ 6 ∧ -1 ≤ worthI f s q) := fun q => by
    have h1 := hf (andI s q) (and_pos s q)
    have h2 := hf (s - andI s q) (sub_pos hs0)
    unfold worthI
    split
    · omega
    · split <;> omega
  have HC : Hid (∀ y z W, 0 ≤ y → 0 ≤ z → y + z = s → P W → Calls Try.prog 63 #[.int .i64 y, .int .i64 z, .func (.func 49) #[] #[c1, c2, c3, c4]] W fun e w' => e = .returned (.int .i64 (worthYZ f y z)) ∧ P w') := fun y z W hy hz hyz hpw =>
    iNeededWith hpw (fun x hx => by have := hf x hx; omega) hy hz (fun n1 n2 => hcall y hy (by omega)) (fun n1 n2 => hcall z hz (by omega))
  have HQ : Hid (∀ q, worthI f s q = worthYZ f (andI s q) (s - andI s q)) := worth_yz f s
  obtain ⟨v, HVE⟩ : ∃ v, Hid (worthI f s = v) := ⟨_, rfl⟩
  rw [HVE.out] at HV HQ ⊢
  clear hp hrow hr hcall hf
  go_enter Try.func50, Try.ntmps50
  go_wp2_with fail
  go_loopw [8, 9, 15] (fun b l i wr => ∃ (k : Nat) (bb ll : Int), k ≤ asks.length ∧ i = .int .i64 k ∧ b = .int .i64 bb ∧ l = .int .i64 ll ∧ Hid (BestOf v asks k bb ll) ∧ P wr) (fun _ _ i _ => asks.length - (Go.RowKit.intOf i).toNat)
  case atStart => exact ⟨0, -1, -1, Nat.zero_le _, rfl, rfl, rfl, BestOf.start _ _, HP.out⟩
  case round =>
    obtain ⟨k, bb, ll, hk, rfl, rfl, rfl, hbest, hpw⟩ := hrel
    have HB := Lib.hid hbest.out
    have HPW := Lib.hid hpw
    by_cases hlt : k < asks.length
    · obtain ⟨bA, off, q, rfl, hcell, hq, _⟩ := (HROW.out _ hpw).elem hlt
      obtain ⟨hq0, hq1⟩ := HRQ.out q (elem_mem hq)
      have hb1 : bits .and .i64 s q = andI s q := bits_and s q hs0 (by omega) hq0 (by omega)
      have hb2 : bits .andNot .i64 s q = s - andI s q := bits_sub hs0 hs hq0 hq1
      obtain ⟨hy0, hy1, hz0, hz1⟩ := andI_lt q hs0 hs
      have hvq := HV.out q
      have hqq := HQ.out q
      obtain ⟨y, HY⟩ : ∃ y, Hid (andI s q = y) := ⟨_, rfl⟩
      rw [HY.out] at hy0 hy1 hz0 hz1 hb1 hb2 hqq
      have HCC := Lib.hid (HC.out y (s - y) wr hy0 hz0 (by omega) HPW.out)
      rw [← hqq] at HCC
      obtain ⟨x, HX⟩ : ∃ x, Hid (v q = x) := ⟨_, rfl⟩
      rw [HX.out] at HCC hvq
      have hrg := BestOf.range HB.out hk (fun q => (HV.out q).1)
      obtain ⟨hx1, hx2⟩ := hvq
      clear hqq hbest hpw
      by_cases hx0 : 0 ≤ x
      · have hd1 : decide ((0 : Int) ≤ x) = true := decide_eq_true hx0
        by_cases hbb : bb < 0
        · have hd2 : decide (bb < (0 : Int)) = true := decide_eq_true hbb
          have HN : Hid (BestOf v asks (k + 1) k x) := by have := BestOf.take HB.out hq.out ⟨by rw [HX.out]; exact hx0, .inl hbb⟩; rw [HX.out] at this; exact this
          go_wp2_with fail
          refine HCC.out.mono ?_
          rintro e w1 ⟨rfl, hp1⟩
          have HP1 := Lib.hid hp1
          clear hp1
          go_wp2_with fail
          go_roundw
          case rel => exact ⟨k + 1, k, x, by omega, by go_num, rfl, rfl, HN, HP1.out⟩
          case measure => simp [Go.RowKit.intOf]; omega
        · have hd2 : decide (bb < (0 : Int)) = false := decide_eq_false hbb
          by_cases hxl : x < ll
          · have hd3 : decide (x < ll) = true := decide_eq_true hxl
            have HN : Hid (BestOf v asks (k + 1) k x) := by have := BestOf.take HB.out hq.out ⟨by rw [HX.out]; exact hx0, .inr (by rw [HX.out]; exact hxl)⟩; rw [HX.out] at this; exact this
            go_wp2_with fail
            refine HCC.out.mono ?_
            rintro e w1 ⟨rfl, hp1⟩
            have HP1 := Lib.hid hp1
            clear hp1
            go_wp2_with fail
            go_roundw
            case rel => exact ⟨k + 1, k, x, by omega, by go_num, rfl, rfl, HN, HP1.out⟩
            case measure => simp [Go.RowKit.intOf]; omega
          · have hd3 : decide (x < ll) = false := decide_eq_false hxl
            have HN : Hid (BestOf v asks (k + 1) bb ll) := BestOf.skip HB.out hq.out (by rw [HX.out]; omega)
            go_wp2_with fail
            refine HCC.out.mono ?_
            rintro e w1 ⟨rfl, hp1⟩
            have HP1 := Lib.hid hp1
            clear hp1
            go_wp2_with fail
            go_roundw
            case rel => exact ⟨k + 1, bb, ll, by omega, by go_num, rfl, rfl, HN, HP1.out⟩
            case measure => simp [Go.RowKit.intOf]; omega
      · have hd1 : decide ((0 : Int) ≤ x) = false := decide_eq_false hx0
        have HN : Hid (BestOf v asks (k + 1) bb ll) := BestOf.skip HB.out hq.out (by rw [HX.out]; omega)
        go_wp2_with fail
        refine HCC.out.mono ?_
        rintro e w1 ⟨rfl, hp1⟩
        have HP1 := Lib.hid hp1
        clear hp1
        go_wp2_with fail
        go_roundw
        case rel => exact ⟨k + 1, bb, ll, by omega, by go_num, rfl, rfl, HN, HP1.out⟩
        case measure => simp [Go.RowKit.intOf]; omega
    · obtain rfl : k = asks.length := by omega
      clear hbest hpw
      go_wp2_with fail
      go_ret2
      exact ⟨bb, ll, rfl, HB.out, HPW.out⟩
end Go.Proofs.Ytpjpbemgjniljaa
