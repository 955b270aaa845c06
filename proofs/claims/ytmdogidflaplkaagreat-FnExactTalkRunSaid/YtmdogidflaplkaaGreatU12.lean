/-
  What the proofs of this seat's statements share (Rds, Iss, Imp).
-/
import Derived.Defers
import Derived.Recover
import Derived.Laws.Pointers
import Derived.Lib.IndexAny
import Derived.Test.YtmdogidflaplkaaGreatU11
import Derived.Test.YtmdogidflaplkaaGreatU8

namespace Go.Proofs.YtmdogidflaplkaaGreat
open Go.RowKit

theorem iEnd_ok (R : Nat) (s st : ByteArray) (w : World) (_hs : s.size ≤ 1048576) (hr : RdrAt w R s s.size st) :
    Calls Tryz.prog 86 #[.pointer (some ⟨R, 0, none⟩)] w fun e w' => e = .returned (.tuple #[]) ∧ ∃ n, w' = w.drewN n := by
  obtain ⟨hc0, hc1, hc2, hf, hlt⟩ := rdr_cells hr
  have hd : decide ((s.size : Int) < (s.size : Int)) = false := decide_eq_false (by omega)
  clear hr
  go_enter Tryz.func86, Tryz.ntmps86
  go_wp2_with fail
  go_quiet (fail)
  go_wp2_with fail
  go_end0
  exact ⟨rfl, _, rfl⟩
theorem iEnd_bad (R : Nat) (s st : ByteArray) (at_ : Nat) (w : World) (_hs : s.size ≤ 1048576) (hat : at_ < s.size) (hr : RdrAt w R s at_ st) :
    Calls Tryz.prog 86 #[.pointer (some ⟨R, 0, none⟩)] w (Panics R w) := by
  obtain ⟨hc0, hc1, hc2, hf, hlt⟩ := rdr_cells hr
  have hd : decide ((at_ : Int) < (s.size : Int)) = true := decide_eq_true (by omega)
  clear hr
  go_enter Tryz.func86, Tryz.ntmps86
  go_wp2_with fail
  go_quiet (fail)
  go_wp2_with fail
  exact ⟨rfl, _, rfl, grown_drewN (World.grownBy.refl _ _) _⟩

theorem catch_panicking (p q : Addr) (v0 v1 : Value) (u : TypeId) (pv : Value) (w : World) (h0 : w.cell? p = some v0) (h1 : w.cell? q = some v1) (f0 : w.frozen? p = false) (f1 : w.frozen? q = false) (hne : p.block ≠ q.block) :
    CallsD Tryz.prog 84 #[.pointer (some p), .pointer (some q)] (.panicking [{ v := .iface u pv, recovered := false }]) w fun e u' w' =>
      e = .returned (.tuple #[]) ∧ u' = .panicking [{ v := .iface u pv, recovered := true }] ∧ w' = (w.setCell p (.pointer none)).setCell q (.bool false) := by
  refine callsD_of_wpS Tryz.func84 rfl fun c₀ cs hu => ?_
  apply wpS_seq
  apply wpS_region
  simp [wpOpsS, go_sem, recoverD, hu, Tryz.ntmps84, Exit.thenS]
  refine wpS_cond (t := true) (by simp [Act.eval, Array.replicate]) ?_
  simp only [if_true]
  apply wpS_region
  have h2 : (w.setCell p (.pointer none)).cell? q = some v1 := (World.cell?_setCell_far w p q _ hne).trans h1
  have f2 : (w.setCell p (.pointer none)).frozen? q = false := by rw [World.frozen?_setCell]; exact f1
  simp [wpOpsS, go_sem, h0, f0, h2, f2, bodyPostS, results, Tryz.results84]
theorem catch_idle (p q : Addr) (w : World) :
    CallsD Tryz.prog 84 #[.pointer (some p), .pointer (some q)] .returning w fun e u' w' => e = .returned (.tuple #[]) ∧ u' = .returning ∧ w' = w := by
  refine callsD_of_wpS Tryz.func84 rfl fun c₀ cs hu => ?_
  apply wpS_seq
  apply wpS_region
  simp [wpOpsS, go_sem, recoverD, hu, Tryz.ntmps84, Exit.thenS]
  refine wpS_cond (t := false) (by simp [Act.eval, Array.replicate]) ?_
  simp only [Bool.false_eq_true, if_false]
  refine wpS_of_wp (wp_skip ?_)
  cases c₀
  simp_all [bodyPostS, results, Tryz.results84]

def nothing : Value := .tuple #[.pointer none, .bool false]
theorem box_set {W : World} {B : Nat} {t : TypeId} {v : Value} (h : Boxed W B t v) (u : Value) {C : Nat} (hne : C ≠ B) : Boxed (W.setCell ⟨C, 0, none⟩ u) B t v :=
  (Below.heap_setCell _ _ _ _ (fun e => hne e.symm)).trans h

set_option maxRecDepth 100000 in
set_option maxHeartbeats 4000000 in
theorem iReadS_bad (t : Int) (s : ByteArray) (w : World) (h : t < 1 ∨ 3 < t ∨ 60 < s.size) (hs : s.size ≤ 9223372036854775807) :
    Calls Tryz.prog 51 #[.int .i64 t, .string s] w fun e w' => e = .returned nothing ∧ Below w.heap.size w w' := by
  have x0 := Boxed.new w 83 (.pointer none)
  have x1 := Boxed.new (w.alloc (.cells #[.pointer none] 83)) 4 (.bool false)
  rw [World.size_alloc] at x1
  have hc0 := (x0.alloc (.cells #[.bool false] 4)).cell
  have hc1 := x1.cell
  have HB : Hid (Below w.heap.size w ((w.alloc (.cells #[.pointer none] 83)).alloc (.cells #[.bool false] 4))) := ((Below.refl _ _).alloc (Nat.le_refl _) _).alloc (by simp) _
  clear x0 x1
  obtain ⟨n, HN⟩ : ∃ n, Hid (worldsOf t = n) := ⟨_, rfl⟩
  by_cases h1 : t < 1 ∨ 3 < t
  · have hd : decide (n < 0) = true := decide_eq_true (by rw [← HN.out, worldsOf_bad h1]; omega)
    clear h h1
    go_enter_defers Tryz.func51, Tryz.ntmps51
    go_wp2_with (go_at_call 50; refine (iWorldsOf _ _).mono ?_; rintro e w' ⟨rfl, rfl⟩; rw [HN.out])
    exact ⟨nothing, by simp [results, Tryz.results51, go_sem, hc0, hc1, nothing], rfl, HB.out⟩
  · have hd : decide (n < 0) = false := decide_eq_false (by rw [← HN.out, (worlds_n (t := t) (by omega) (by omega)).1]; omega)
    have hd2 : decide ((60 : Int) < (s.size : Int)) = true := decide_eq_true (by omega)
    clear h h1
    go_enter_defers Tryz.func51, Tryz.ntmps51
    go_wp2_with (go_at_call 50; refine (iWorldsOf _ _).mono ?_; rintro e w' ⟨rfl, rfl⟩; rw [HN.out])
    exact ⟨nothing, by simp [results, Tryz.results51, go_sem, hc0, hc1, nothing], rfl, HB.out⟩

def startsOf (n : Nat) : ByteArray := ⟨#[48, 49, 33, 63, 40]⟩ ++ (⟨#[97, 98, 99]⟩ : ByteArray).extract 0 n
theorem starts_ok (n : Nat) (h1 : 1 ≤ n) (h3 : n ≤ 3) : StOk n (startsOf n) := by
  intro c
  have e : ∀ k : UInt8, c = k ↔ c.toNat = k.toNat := fun k => UInt8.toNat_inj.symm
  have hl : (startsOf n).data.toList = [48, 49, 33, 63, 40] ++ [97, 98, 99].take n := by
    have : n = 1 ∨ n = 2 ∨ n = 3 := by omega
    rcases this with rfl | rfl | rfl <;> rfl
  rw [hl, Bool.eq_iff_iff]
  unfold startB
  have : n = 1 ∨ n = 2 ∨ n = 3 := by omega
  rcases this with rfl | rfl | rfl <;> simp [e] <;> omega
theorem senOf_none {t : Int} {l : List Nat} (h1 : 1 ≤ t) (h3 : t ≤ 3) (hl : l.length ≤ 60) (h : readS t l.length l = none) : senOf t l = none := by
  unfold senOf; rw [if_pos ⟨h1, h3, hl⟩, h]
theorem senOf_more {t : Int} {l : List Nat} {x : Sen} {c : Nat} {r : List Nat} (h1 : 1 ≤ t) (h3 : t ≤ 3) (hl : l.length ≤ 60) (h : readS t l.length l = some (x, c :: r)) : senOf t l = none := by
  unfold senOf; rw [if_pos ⟨h1, h3, hl⟩, h]
theorem senOf_some {t : Int} {l : List Nat} {x : Sen} (h1 : 1 ≤ t) (h3 : t ≤ 3) (hl : l.length ≤ 60) (h : readS t l.length l = some (x, [])) : senOf t l = some x := by
  unfold senOf; rw [if_pos ⟨h1, h3, hl⟩, h]
theorem below_caught {w W w1 : World} {u0 u1 : Value} (hB : Below w.heap.size w W) (hg : W.grownBy w1 (some (w.heap.size + 1 + 1))) : Below w.heap.size w ((w1.setCell ⟨w.heap.size, 0, none⟩ u0).setCell ⟨w.heap.size + 1, 0, none⟩ u1) :=
  ((hB.grown hg hB.size (fun k e => by cases e; omega)).setCell (p := ⟨w.heap.size, 0, none⟩) (Nat.le_refl _) _).setCell (p := ⟨w.heap.size + 1, 0, none⟩) (by show w.heap.size ≤ w.heap.size + 1; omega) _
theorem sen_set {w : World} {lo C : Nat} {x : Sen} {p : Option Addr} (h : SenAt w lo x p) (hC : C < lo) (v : Value) : SenAt (w.setCell ⟨C, 0, none⟩ v) lo x p :=
  SenAt.keep (fun b hl _ => Below.heap_setCell _ _ _ b (by show b ≠ C; omega)) x p h
theorem sen_drewN {w : World} {lo : Nat} {x : Sen} {p : Option Addr} (h : SenAt w lo x p) (n : Nat) : SenAt (w.drewN n) lo x p :=
  SenAt.keep (w := w) (w' := w.drewN n) (fun _ _ _ => rfl) x p h
def SentPost (t : Int) (s : ByteArray) (w : World) (e : Ending) (w' : World) : Prop :=
  match senOf t (bytesN s) with
  | some x => ∃ p, e = .returned (.tuple #[.pointer p, .bool true]) ∧ SenAt w' w.heap.size x p ∧ Below w.heap.size w w'
  | none => e = .returned nothing ∧ Below w.heap.size w w'
theorem SentPost.of_none {t : Int} {s : ByteArray} {w : World} {e : Ending} {w' : World} (h : senOf t (bytesN s) = none) (he : e = .returned nothing) (hb : Below w.heap.size w w') : SentPost t s w e w' := by
  unfold SentPost; rw [h]; exact ⟨he, hb⟩
theorem SentPost.of_some {t : Int} {s : ByteArray} {w : World} {e : Ending} {w' : World} {x : Sen} (h : senOf t (bytesN s) = some x) {p : Option Addr} (he : e = .returned (.tuple #[.pointer p, .bool true])) (hn : SenAt w' w.heap.size x p) (hb : Below w.heap.size w w') : SentPost t s w e w' := by
  unfold SentPost; rw [h]; exact ⟨p, he, hn, hb⟩

set_option maxRecDepth 100000 in
set_option maxHeartbeats 4000000 in
theorem iReadS_ok (n : Nat) (s : ByteArray) (w : World) (h1 : 1 ≤ n) (h3 : n ≤ 3) (hs : s.size ≤ 60) :
    Calls Tryz.prog 51 #[.int .i64 n, .string s] w (SentPost n s w) := by
  have hmf : ∀ (fn : Fn) (first cap : Array Value) (w : World), (Instr.makeFunc fn first cap).run Tryz.prog w = .ok (.func fn first cap) w := fun _ _ _ _ => rfl
  have hd : decide ((60 : Int) < (s.size : Int)) = false := decide_eq_false (by omega)
  obtain ⟨m, HN⟩ : ∃ m, Hid (worldsOf n = m) := ⟨_, rfl⟩
  have hd2 : decide (m < 0) = false := decide_eq_false (by rw [← HN.out, (worlds_n (t := n) (by omega) (by omega)).1]; omega)
  go_enter_defers Tryz.func51, Tryz.ntmps51
  go_wp2_with (go_at_call 50; refine (iWorldsOf _ _).mono ?_; rintro e w' ⟨rfl, rfl⟩; rw [HN.out])
  obtain ⟨W, hW⟩ : ∃ W, ((w.alloc (.cells #[.pointer none] 83)).alloc (.cells #[.bool false] 4)).alloc (.cells #[.string s, .int .i64 0, .string (⟨#[48, 49, 33, 63, 40]⟩ ++ (⟨#[97, 98, 99]⟩ : ByteArray).extract 0 n)] 114) = W := ⟨_, rfl⟩
  have x0 : Boxed W w.heap.size 83 (.pointer none) := by rw [← hW]; exact ((Boxed.new w 83 (.pointer none)).alloc _).alloc _
  have x1 : Boxed W (w.heap.size + 1) 4 (.bool false) := by
    rw [← hW]; have := Boxed.new (w.alloc (.cells #[.pointer none] 83)) 4 (.bool false); rw [World.size_alloc] at this; exact this.alloc _
  have hr : RdrAt W (w.heap.size + 1 + 1) s 0 (startsOf n) := by
    rw [← hW]; have := World.alloc_heap_new ((w.alloc (.cells #[.pointer none] 83)).alloc (.cells #[.bool false] 4)) (.cells #[.string s, .int .i64 0, .string (startsOf n)] 114); simp only [World.size_alloc] at this; exact this
  have hB : Below w.heap.size w W := by rw [← hW]; exact (((Below.refl _ _).alloc (Nat.le_refl _) _).alloc (by simp) _).alloc (by simp; omega) _
  have hsz : w.heap.size + 3 ≤ W.heap.size := by rw [← hW]; simp
  rw [hW]
  clear hW
  have hread := iRead n (w.heap.size + 1 + 1) s (startsOf n) (by omega) (by omega) (starts_ok n h1 h3) s.size 0 W hr (by omega) (by omega)
  rw [List.drop_zero] at hread
  have HB := Lib.hid hB
  have X0 := Lib.hid x0
  have X1 := Lib.hid x1
  have hlen : (bytesN s).length = s.size := bytesN_len s
  have hln : ∀ o, readS n s.size (bytesN s) = o → readS n (bytesN s).length (bytesN s) = o := fun o h => by rw [hlen]; exact h
  clear x0 x1 hB hr
  rcases hrd : readS n s.size (bytesN s) with _ | ⟨x, rest⟩
  · rw [hrd] at hread
    have HI : Hid (Calls Tryz.prog 85 #[.pointer (some ⟨w.heap.size + 1 + 1, 0, none⟩)] W (Panics (w.heap.size + 1 + 1) W)) := hread
    have HE := Lib.hid (senOf_none (t := n) (by omega) (by omega) (by rw [hlen]; exact hs) (hln _ hrd))
    clear hread hrd hln hlen
    refine HI.out.mono ?_
    rintro e w1 ⟨v, rfl, hg⟩
    have y0 : Boxed w1 w.heap.size 83 (.pointer none) := X0.out.kept hg (fun e => by have := Option.some.inj e; omega)
    have y1 : Boxed w1 (w.heap.size + 1) 4 (.bool false) := X1.out.kept hg (fun e => by have := Option.some.inj e; omega)
    refine leaves_cons (f := 84) (args := #[.pointer (some ⟨w.heap.size, 0, none⟩), .pointer (some ⟨w.heap.size + 1, 0, none⟩)]) (by simp) (by simp [go_sem]) ?_
    refine (catch_panicking ⟨w.heap.size, 0, none⟩ ⟨w.heap.size + 1, 0, none⟩ _ _ _ _ _ y0.cell y1.cell y0.frozen y1.frozen (by simp)).mono ?_
    rintro e u' w'' ⟨rfl, rfl, rfl⟩
    have z0 := (box_set (y0.set (.pointer none)) (.bool false) (C := w.heap.size + 1) (by omega)).cell
    have z1 := ((box_set y1 (.pointer none) (C := w.heap.size) (by omega)).set (.bool false)).cell
    have HP := Lib.hid (SentPost.of_none HE.out rfl (below_caught (u0 := .pointer none) (u1 := .bool false) HB.out hg))
    simp [Leaves, settle, results, Tryz.results51, go_sem, z0, z1]
    exact HP.out
  · rw [hrd] at hread
    have HI : Hid (Calls Tryz.prog 85 #[.pointer (some ⟨w.heap.size + 1 + 1, 0, none⟩)] W (ReadSome (w.heap.size + 1 + 1) s (startsOf n) x rest W)) := hread
    have HRD := Lib.hid (hln _ hrd)
    have HLN := Lib.hid hlen
    clear hread hrd hln hlen
    refine HI.out.mono ?_
    rintro e w1 ⟨p, a1, rfl, ha1, hda, hr1, hn1, hg⟩
    have y0 : Boxed w1 w.heap.size 83 (.pointer none) := X0.out.kept hg (fun e => by have := Option.some.inj e; omega)
    have y1 : Boxed w1 (w.heap.size + 1) 4 (.bool false) := X1.out.kept hg (fun e => by have := Option.some.inj e; omega)
    have hc0 := y0.cell
    have hf0 := y0.frozen
    rcases rest with _ | ⟨c, r⟩
    · have HE := Lib.hid (senOf_some (t := n) (by omega) (by omega) (by rw [HLN.out]; exact hs) HRD.out)
      obtain rfl := drop_end hda ha1
      have hr2 : RdrAt (w1.setCell ⟨w.heap.size, 0, none⟩ (.pointer p)) (w.heap.size + 1 + 1) s s.size (startsOf n) := (Below.heap_setCell _ _ _ _ (by show w.heap.size + 1 + 1 ≠ w.heap.size; omega)).trans hr1
      have HT := Lib.hid (iEnd_ok _ s (startsOf n) _ (by omega) hr2)
      have HG := Lib.hid hg
      have Y0 := Lib.hid (y0.set (.pointer p))
      have Y1 := Lib.hid (box_set y1 (.pointer p) (C := w.heap.size) (by omega))
      have HN := Lib.hid hn1
      clear hda hr1 hn1 hg y0 y1 hr2
      go_wp2_with fail
      refine HT.out.mono ?_
      rintro e w2 ⟨rfl, q, rfl⟩
      clear hc0 hf0
      have hc0 := Y0.out.cell
      have hf0 := Y0.out.frozen
      have hc1 := Y1.out.cell
      have hf1 := Y1.out.frozen
      go_wp2_with fail
      refine leaves_cons (f := 84) (args := #[.pointer (some ⟨w.heap.size, 0, none⟩), .pointer (some ⟨w.heap.size + 1, 0, none⟩)]) (by simp) (by simp [go_sem]) ?_
      refine (catch_idle ⟨w.heap.size, 0, none⟩ ⟨w.heap.size + 1, 0, none⟩ _).mono ?_
      rintro e u' w'' ⟨rfl, rfl, rfl⟩
      have Y0q : Boxed ((w1.setCell ⟨w.heap.size, 0, none⟩ (.pointer p)).drewN q) w.heap.size 83 (.pointer p) := Y0.out
      have Y1q : Boxed ((w1.setCell ⟨w.heap.size, 0, none⟩ (.pointer p)).drewN q) (w.heap.size + 1) 4 (.bool false) := Y1.out
      have z0 := (box_set (Y0q.set (.pointer p)) (.bool true) (C := w.heap.size + 1) (by omega)).cell
      have z1 := ((box_set Y1q (.pointer p) (C := w.heap.size) (by omega)).set (.bool true)).cell
      have hsn : SenAt ((((w1.setCell ⟨w.heap.size, 0, none⟩ (.pointer p)).drewN q).setCell ⟨w.heap.size, 0, none⟩ (.pointer p)).setCell ⟨w.heap.size + 1, 0, none⟩ (.bool true)) w.heap.size x p :=
        SenAt.low (lo := W.heap.size) (by omega) x p (sen_set (sen_set (sen_drewN (sen_set HN.out (by omega) _) _) (by omega) _) (by omega) _)
      have hbl : Below w.heap.size w ((((w1.setCell ⟨w.heap.size, 0, none⟩ (.pointer p)).drewN q).setCell ⟨w.heap.size, 0, none⟩ (.pointer p)).setCell ⟨w.heap.size + 1, 0, none⟩ (.bool true)) :=
        ((bel_drewN ((HB.out.grown HG.out HB.out.size (fun k e => by have := Option.some.inj e; omega)).setCell (p := ⟨w.heap.size, 0, none⟩) (Nat.le_refl _) _) q).setCell (p := ⟨w.heap.size, 0, none⟩) (Nat.le_refl _) _).setCell (p := ⟨w.heap.size + 1, 0, none⟩) (by show w.heap.size ≤ w.heap.size + 1; omega) _
      have HP := Lib.hid (SentPost.of_some HE.out rfl hsn hbl)
      simp [Leaves, settle, results, Tryz.results51, go_sem, z0, z1]
      exact HP.out
    · have HE := Lib.hid (senOf_more (t := n) (by omega) (by omega) (by rw [HLN.out]; exact hs) HRD.out)
      obtain ⟨hlt, _, _⟩ := drop_lt hda
      have hr2 : RdrAt (w1.setCell ⟨w.heap.size, 0, none⟩ (.pointer p)) (w.heap.size + 1 + 1) s a1 (startsOf n) := (Below.heap_setCell _ _ _ _ (by show w.heap.size + 1 + 1 ≠ w.heap.size; omega)).trans hr1
      have HT := Lib.hid (iEnd_bad _ s (startsOf n) a1 _ (by omega) hlt hr2)
      have HG := Lib.hid hg
      have Y0 := Lib.hid (y0.set (.pointer p))
      have Y1 := Lib.hid (box_set y1 (.pointer p) (C := w.heap.size) (by omega))
      clear hda hr1 hn1 hg y0 y1 hr2
      go_wp2_with fail
      refine HT.out.mono ?_
      rintro e w2 ⟨v, rfl, hg2⟩
      have y0 : Boxed w2 w.heap.size 83 (.pointer p) := Boxed.kept Y0.out hg2 (fun e => by have := Option.some.inj e; omega)
      have y1 : Boxed w2 (w.heap.size + 1) 4 (.bool false) := Boxed.kept Y1.out hg2 (fun e => by have := Option.some.inj e; omega)
      refine leaves_cons (f := 84) (args := #[.pointer (some ⟨w.heap.size, 0, none⟩), .pointer (some ⟨w.heap.size + 1, 0, none⟩)]) (by simp) (by simp [go_sem]) ?_
      refine (catch_panicking ⟨w.heap.size, 0, none⟩ ⟨w.heap.size + 1, 0, none⟩ _ _ _ _ _ y0.cell y1.cell y0.frozen y1.frozen (by simp)).mono ?_
      rintro e u' w'' ⟨rfl, rfl, rfl⟩
      have z0 := (box_set (y0.set (.pointer none)) (.bool false) (C := w.heap.size + 1) (by omega)).cell
      have z1 := ((box_set y1 (.pointer none) (C := w.heap.size) (by omega)).set (.bool false)).cell
      have hb1 : Below w.heap.size w (w1.setCell ⟨w.heap.size, 0, none⟩ (.pointer p)) := (HB.out.grown HG.out HB.out.size (fun k e => by have := Option.some.inj e; omega)).setCell (p := ⟨w.heap.size, 0, none⟩) (Nat.le_refl _) _
      have HP := Lib.hid (SentPost.of_none HE.out rfl (below_caught (u0 := .pointer none) (u1 := .bool false) hb1 hg2))
      simp [Leaves, settle, results, Tryz.results51, go_sem, z0, z1]
      exact HP.out
theorem iReadS (t : Int) (s : ByteArray) (w : World) (hs : s.size ≤ 9223372036854775807) : Calls Tryz.prog 51 #[.int .i64 t, .string s] w (SentPost t s w) := by
  by_cases h : t < 1 ∨ 3 < t ∨ 60 < s.size
  · refine (iReadS_bad t s w h hs).mono ?_
    rintro e w' ⟨he, hb⟩
    exact SentPost.of_none (by unfold senOf; rw [if_neg (by rw [bytesN_len]; omega)]) he hb
  · obtain ⟨n, rfl⟩ : ∃ n : Nat, t = n := ⟨t.toNat, by omega⟩
    exact iReadS_ok n s w (by omega) (by omega) (by omega)
end Go.Proofs.YtmdogidflaplkaaGreat

namespace Go.Proofs.YtmdogidflaplkaaGreat
open Go.RowKit

def OwnPost (l : List Int) (w : World) (e : Ending) (w' : World) : Prop := ∃ v, e = .returned v ∧ Owns w' w.heap.size v l ∧ Below w.heap.size w w'
theorem node_cells_below {w W : World} {b sg : Nat} {q r : Option Addr} (h : NodeAt w b sg q r) (hb : Below w.heap.size w W) : W.cell? ⟨b, 1, none⟩ = some (.pointer q) ∧ W.cell? ⟨b, 2, none⟩ = some (.pointer r) := by
  have := node_cells ((hb.block b (Array.getElem?_eq_some_iff.1 h).1).trans h)
  exact ⟨this.2.1, this.2.2.1⟩

set_option maxRecDepth 100000 in
set_option maxHeartbeats 4000000 in
theorem iIssNot (t : Int) (b : Nat) (q r : Option Addr) (w : World) (a : List Int) (ha : a.length ≤ 70) (hn : NodeAt w b 33 q r)
    (hk : ∀ W, Below w.heap.size w W → Calls Tryz.prog 112 #[.int .i64 t, .pointer q] W (OwnPost a W)) :
    Calls Tryz.prog 112 #[.int .i64 t, .pointer (some ⟨b, 0, none⟩)] w (OwnPost (notL t a) w) := by
  obtain ⟨hc0, hc1, hc2, hlt⟩ := node_cells hn
  have HK := Lib.hid hk
  have hc0 : w.cell? ⟨b, 0, none⟩ = some (.int .u8 33) := hc0
  clear hk hn
  go_enter Tryz.func112, Tryz.ntmps112
  go_wp2_with fail
  refine (HK.out _ (Below.refl _ _)).mono ?_
  rintro e w1 ⟨v, rfl, ho, hb⟩
  obtain ⟨A1, c1, rfl, _, _, _, _⟩ := ho.form
  have HR := Lib.hid (Owns.row ho (by omega))
  have HB := Lib.hid hb
  clear ho hb
  go_wp2_with fail
  refine (iNotIssue t _ _ _ a _ HR.out).mono ?_
  rintro e w2 ⟨v, rfl, ho, hb⟩
  have HO := Lib.hid (ho.base HB.out.size)
  have HB2 := Lib.hid (bel_trans HB.out hb)
  clear ho hb
  go_wp2_with fail
  go_ret
  exact ⟨_, rfl, HO.out, HB2.out⟩
set_option maxRecDepth 100000 in
set_option maxHeartbeats 4000000 in
theorem iIssWhether (t : Int) (b : Nat) (q r : Option Addr) (w : World) (a : List Int) (ha : a.length ≤ 70) (hn : NodeAt w b 63 q r)
    (hk : ∀ W, Below w.heap.size w W → Calls Tryz.prog 112 #[.int .i64 t, .pointer q] W (OwnPost a W)) :
    Calls Tryz.prog 112 #[.int .i64 t, .pointer (some ⟨b, 0, none⟩)] w (OwnPost (whetherL t a) w) := by
  obtain ⟨hc0, hc1, hc2, hlt⟩ := node_cells hn
  have HK := Lib.hid hk
  have hc0 : w.cell? ⟨b, 0, none⟩ = some (.int .u8 63) := hc0
  clear hk hn
  go_enter Tryz.func112, Tryz.ntmps112
  go_wp2_with fail
  refine (HK.out _ (Below.refl _ _)).mono ?_
  rintro e w1 ⟨v, rfl, ho, hb⟩
  obtain ⟨A1, c1, rfl, _, _, _, _⟩ := ho.form
  have HR := Lib.hid (Owns.row ho (by omega))
  have HB := Lib.hid hb
  clear ho hb
  go_wp2_with fail
  refine (iWhetherIssue t _ _ _ a _ HR.out).mono ?_
  rintro e w2 ⟨v, rfl, ho, hb⟩
  have HO := Lib.hid (ho.base HB.out.size)
  have HB2 := Lib.hid (bel_trans HB.out hb)
  clear ho hb
  go_wp2_with fail
  go_ret
  exact ⟨_, rfl, HO.out, HB2.out⟩
set_option maxRecDepth 100000 in
set_option maxHeartbeats 4000000 in
theorem iIssBoth (t : Int) (b : Nat) (q r : Option Addr) (w : World) (a c : List Int) (ha : a.length ≤ 70) (hc : c.length ≤ 70) (hn : NodeAt w b 38 q r)
    (hk : ∀ W, Below w.heap.size w W → Calls Tryz.prog 112 #[.int .i64 t, .pointer q] W (OwnPost a W))
    (hk2 : ∀ W, Below w.heap.size w W → Calls Tryz.prog 112 #[.int .i64 t, .pointer r] W (OwnPost c W)) :
    Calls Tryz.prog 112 #[.int .i64 t, .pointer (some ⟨b, 0, none⟩)] w (OwnPost (bothL t a c) w) := by
  obtain ⟨hc0, hc1, hc2, hlt⟩ := node_cells hn
  have HK := Lib.hid hk
  have HK2 := Lib.hid hk2
  have HN := Lib.hid hn
  have hc0 : w.cell? ⟨b, 0, none⟩ = some (.int .u8 38) := hc0
  have HBd : Hid (Below w.heap.size w w.drew) := bel_drewN (Below.refl _ w) 1
  clear hk hn hk2
  go_enter Tryz.func112, Tryz.ntmps112
  go_wp2_with fail
  go_region_held3 (fun w' => w'.cell? ⟨b, 1, none⟩ = some (.pointer q) ∧ w'.cell? ⟨b, 2, none⟩ = some (.pointer r))
    (first | go_keep | exact node_cells_below HN.out HB3.out | exact node_cells_below HN.out HB2.out | exact node_cells_below HN.out HB1.out)
    (first
      | (go_at_call 112; ((with_reducible refine (HK.out w.drew HBd.out).mono ?_)); rintro e w1 ⟨v, rfl, ho, hb⟩; obtain ⟨A1, c1, rfl, _, _, _, _⟩ := ho.form; have HR1 := Lib.hid (Owns.row ho (by omega)); have HB1 : Hid (Below w.heap.size w w1) := bel_trans HBd.out hb; clear ho hb HK HBd)
      | (go_at_call 112; ((with_reducible refine (HK2.out _ HB1.out).mono ?_)); rintro e w2 ⟨v, rfl, ho, hb⟩; obtain ⟨A2, c2, rfl, _, _, _, _⟩ := ho.form; have HR2 := Lib.hid (Owns.row ho (by omega)); replace HR1 := Lib.hid (HR1.out.below hb); have HB2 : Hid (Below w.heap.size w w2) := bel_trans HB1.out hb; clear ho hb HK2 HB1)
      | (go_at_call 124; refine (iBothIssues t _ _ _ _ _ _ a c _ HR1.out HR2.out).mono ?_; rintro e w3 ⟨v, rfl, ho, hb⟩; have HO := Lib.hid (ho.base HB2.out.size); have HB3 : Hid (Below w.heap.size w w3) := bel_trans HB2.out hb; clear ho hb))
  go_wp2_with fail
  go_ret
  exact ⟨_, rfl, HO.out, HB3.out⟩
set_option maxRecDepth 100000 in
set_option maxHeartbeats 4000000 in
theorem iIssEither (t : Int) (b : Nat) (q r : Option Addr) (w : World) (a c : List Int) (ha : a.length ≤ 70) (hc : c.length ≤ 70) (hn : NodeAt w b 124 q r)
    (hk : ∀ W, Below w.heap.size w W → Calls Tryz.prog 112 #[.int .i64 t, .pointer q] W (OwnPost a W))
    (hk2 : ∀ W, Below w.heap.size w W → Calls Tryz.prog 112 #[.int .i64 t, .pointer r] W (OwnPost c W)) :
    Calls Tryz.prog 112 #[.int .i64 t, .pointer (some ⟨b, 0, none⟩)] w (OwnPost (eitherL t a c) w) := by
  obtain ⟨hc0, hc1, hc2, hlt⟩ := node_cells hn
  have HK := Lib.hid hk
  have HK2 := Lib.hid hk2
  have HN := Lib.hid hn
  have hc0 : w.cell? ⟨b, 0, none⟩ = some (.int .u8 124) := hc0
  have HBd : Hid (Below w.heap.size w w.drew) := bel_drewN (Below.refl _ w) 1
  clear hk hn hk2
  go_enter Tryz.func112, Tryz.ntmps112
  go_wp2_with fail
  go_region_held3 (fun w' => w'.cell? ⟨b, 1, none⟩ = some (.pointer q) ∧ w'.cell? ⟨b, 2, none⟩ = some (.pointer r))
    (first | go_keep | exact node_cells_below HN.out HB3.out | exact node_cells_below HN.out HB2.out | exact node_cells_below HN.out HB1.out)
    (first
      | (go_at_call 112; ((with_reducible refine (HK.out w.drew HBd.out).mono ?_)); rintro e w1 ⟨v, rfl, ho, hb⟩; obtain ⟨A1, c1, rfl, _, _, _, _⟩ := ho.form; have HR1 := Lib.hid (Owns.row ho (by omega)); have HB1 : Hid (Below w.heap.size w w1) := bel_trans HBd.out hb; clear ho hb HK HBd)
      | (go_at_call 112; ((with_reducible refine (HK2.out _ HB1.out).mono ?_)); rintro e w2 ⟨v, rfl, ho, hb⟩; obtain ⟨A2, c2, rfl, _, _, _, _⟩ := ho.form; have HR2 := Lib.hid (Owns.row ho (by omega)); replace HR1 := Lib.hid (HR1.out.below hb); have HB2 : Hid (Below w.heap.size w w2) := bel_trans HB1.out hb; clear ho hb HK2 HB1)
      | (go_at_call 125; refine (iEitherIssue t _ _ _ _ _ _ a c _ HR1.out HR2.out).mono ?_; rintro e w3 ⟨v, rfl, ho, hb⟩; have HO := Lib.hid (ho.base HB2.out.size); have HB3 : Hid (Below w.heap.size w w3) := bel_trans HB2.out hb; clear ho hb))
  go_wp2_with fail
  go_ret
  exact ⟨_, rfl, HO.out, HB3.out⟩
set_option maxRecDepth 100000 in
set_option maxHeartbeats 4000000 in
theorem iIssIf (t : Int) (b : Nat) (q r : Option Addr) (w : World) (a c : List Int) (ha : a.length ≤ 70) (hc : c.length ≤ 70) (hn : NodeAt w b 62 q r)
    (hk : ∀ W, Below w.heap.size w W → Calls Tryz.prog 112 #[.int .i64 t, .pointer q] W (OwnPost a W))
    (hk2 : ∀ W, Below w.heap.size w W → Calls Tryz.prog 112 #[.int .i64 t, .pointer r] W (OwnPost c W)) :
    Calls Tryz.prog 112 #[.int .i64 t, .pointer (some ⟨b, 0, none⟩)] w (OwnPost (ifL t a c) w) := by
  obtain ⟨hc0, hc1, hc2, hlt⟩ := node_cells hn
  have HK := Lib.hid hk
  have HK2 := Lib.hid hk2
  have HN := Lib.hid hn
  have hc0 : w.cell? ⟨b, 0, none⟩ = some (.int .u8 62) := hc0
  have HBd : Hid (Below w.heap.size w w.drew) := bel_drewN (Below.refl _ w) 1
  clear hk hn hk2
  go_enter Tryz.func112, Tryz.ntmps112
  go_wp2_with fail
  go_region_held3 (fun w' => w'.cell? ⟨b, 1, none⟩ = some (.pointer q) ∧ w'.cell? ⟨b, 2, none⟩ = some (.pointer r))
    (first | go_keep | exact node_cells_below HN.out HB3.out | exact node_cells_below HN.out HB2.out | exact node_cells_below HN.out HB1.out)
    (first
      | (go_at_call 112; ((with_reducible refine (HK.out w.drew HBd.out).mono ?_)); rintro e w1 ⟨v, rfl, ho, hb⟩; obtain ⟨A1, c1, rfl, _, _, _, _⟩ := ho.form; have HR1 := Lib.hid (Owns.row ho (by omega)); have HB1 : Hid (Below w.heap.size w w1) := bel_trans HBd.out hb; clear ho hb HK HBd)
      | (go_at_call 112; ((with_reducible refine (HK2.out _ HB1.out).mono ?_)); rintro e w2 ⟨v, rfl, ho, hb⟩; obtain ⟨A2, c2, rfl, _, _, _, _⟩ := ho.form; have HR2 := Lib.hid (Owns.row ho (by omega)); replace HR1 := Lib.hid (HR1.out.below hb); have HB2 : Hid (Below w.heap.size w w2) := bel_trans HB1.out hb; clear ho hb HK2 HB1)
      | (go_at_call 126; refine (iIfIssue t _ _ _ _ _ _ a c _ HR1.out HR2.out).mono ?_; rintro e w3 ⟨v, rfl, ho, hb⟩; have HO := Lib.hid (ho.base HB2.out.size); have HB3 : Hid (Below w.heap.size w w3) := bel_trans HB2.out hb; clear ho hb))
  go_wp2_with fail
  go_ret
  exact ⟨_, rfl, HO.out, HB3.out⟩
set_option maxRecDepth 100000 in
set_option maxHeartbeats 4000000 in
theorem iIssWord (t : Int) (b c : Nat) (q r : Option Addr) (w : World) (h1 : 1 ≤ t) (h3 : t ≤ 3) (hc : isWord c) (hn : NodeAt w b c q r) :
    Calls Tryz.prog 112 #[.int .i64 t, .pointer (some ⟨b, 0, none⟩)] w (OwnPost (statementL t (wordTo c (nWorlds t))) w) := by
  obtain ⟨hc0, hc1, hc2, hlt⟩ := node_cells hn
  obtain ⟨hw, hw8⟩ := worlds_n h1 h3
  have HW := Lib.hid hw
  have HC := Lib.hid hc
  obtain ⟨n, HNW⟩ : ∃ n, Hid (nWorlds t = n) := ⟨_, rfl⟩
  clear hn hw
  rw [HNW.out] at hw8 HW ⊢
  obtain ⟨g, HG⟩ : ∃ g : Nat, Hid (wordTo c n = g) := ⟨_, rfl⟩
  rw [HG.out]
  rcases hc with rfl | rfl | rfl | rfl | rfl
  all_goals
    go_enter Tryz.func112, Tryz.ntmps112
    go_wp2_with fail
    refine (iWorldsOfWord _ _ HW.out hw8 _ _ HC.out).mono ?_
    rintro e w' ⟨rfl, rfl⟩
    rw [HG.out]
    go_wp2_with fail
    refine (iStatementOf _ _ _).mono ?_
    rintro e w2 ⟨v, rfl, ho, hb⟩
    have HO := Lib.hid ho
    have HB := Lib.hid hb
    clear ho hb
    go_wp2_with fail
    go_ret
    exact ⟨_, rfl, HO.out, HB.out⟩
theorem statement_ok {t s : Int} (h : setOkB t s = true) : statementL t s = [s] := by unfold statementL; rw [h]; rfl
theorem iIssueS (t : Int) (h1 : 1 ≤ t) (h3 : t ≤ 3) : ∀ (x : Sen) (p : Option Addr) (lo : Nat) (w : World), senOk t x = true → SenAt w lo x p →
    Calls Tryz.prog 112 #[.int .i64 t, .pointer p] w (OwnPost (issueS t x) w)
  | .no a, _, lo, w, hx, ⟨b, q, rfl, _, hn, h⟩ => iIssNot t b q none w _ (issue_ne (sen_issue h1 h3 a)).2 hn (fun W hb => iIssueS t h1 h3 a q lo W hx (h.below hb))
  | .ask a, _, lo, w, hx, ⟨b, q, rfl, _, hn, h⟩ => iIssWhether t b q none w _ (issue_ne (sen_issue h1 h3 a)).2 hn (fun W hb => iIssueS t h1 h3 a q lo W hx (h.below hb))
  | .and_ a c, _, lo, w, hx, ⟨b, q, r, rfl, _, hn, h, h2⟩ => by
    unfold senOk at hx
    rw [Bool.and_eq_true] at hx
    exact iIssBoth t b q r w _ _ (issue_ne (sen_issue h1 h3 a)).2 (issue_ne (sen_issue h1 h3 c)).2 hn (fun W hb => iIssueS t h1 h3 a q lo W hx.1 (h.below hb)) (fun W hb => iIssueS t h1 h3 c r lo W hx.2 (h2.below hb))
  | .or_ a c, _, lo, w, hx, ⟨b, q, r, rfl, _, hn, h, h2⟩ => by
    unfold senOk at hx
    rw [Bool.and_eq_true] at hx
    exact iIssEither t b q r w _ _ (issue_ne (sen_issue h1 h3 a)).2 (issue_ne (sen_issue h1 h3 c)).2 hn (fun W hb => iIssueS t h1 h3 a q lo W hx.1 (h.below hb)) (fun W hb => iIssueS t h1 h3 c r lo W hx.2 (h2.below hb))
  | .if_ a c, _, lo, w, hx, ⟨b, q, r, rfl, _, hn, h, h2⟩ => by
    unfold senOk at hx
    rw [Bool.and_eq_true] at hx
    exact iIssIf t b q r w _ _ (issue_ne (sen_issue h1 h3 a)).2 (issue_ne (sen_issue h1 h3 c)).2 hn (fun W hb => iIssueS t h1 h3 a q lo W hx.1 (h.below hb)) (fun W hb => iIssueS t h1 h3 c r lo W hx.2 (h2.below hb))
  | .one, _, _, w, hx, ⟨b, rfl, _, hn⟩ => by
    have := iIssWord t b 49 none none w h1 h3 (.inr (.inl rfl)) hn
    rw [word_one h1 h3, statement_ok (setOk_of h1 h3 (allOf_lt t).1 (Int.le_refl _))] at this
    exact this
  | .zero, _, _, w, hx, ⟨b, rfl, _, hn⟩ => by
    have := iIssWord t b 48 none none w h1 h3 (.inl rfl) hn
    rw [word_zero h1 h3, statement_ok (setOk_of h1 h3 (Int.le_refl _) (allOf_lt t).1)] at this
    exact this
  | .thing i, _, _, w, hx, ⟨b, rfl, _, hn⟩ => by
    have hi : (i : Int) < t := of_decide_eq_true hx
    have := iIssWord t b (97 + i) none none w h1 h3 (by unfold isWord; omega) hn
    rw [word_thing h1 h3 hi, statement_ok (letter_ok h1 h3 i)] at this
    exact this
end Go.Proofs.YtmdogidflaplkaaGreat

namespace Go.Proofs.YtmdogidflaplkaaGreat
open Go.RowKit

def senT (t : Int) (s : ByteArray) : Option Sen := senOf t (bytesN s)
def issueT (t : Int) (s : ByteArray) : List Int := match senT t s with | some x => issueS t x | none => []
def isT (t : Int) (s : ByteArray) : Bool := (senT t s).isSome
def supportsT (t k : Int) (s : ByteArray) : Bool := match senT t s with | some x => setOkB t k && holdsS t x k | none => false
def trueT (t : Int) (s : ByteArray) : Int := match senT t s with | some x => (trueTo t x (nWorlds t) : Int) | none => -1
theorem senT_ok {t : Int} {s : ByteArray} {x : Sen} (h : senT t s = some x) : 1 ≤ t ∧ t ≤ 3 ∧ s.size ≤ 60 ∧ senOk t x = true ∧ bytesN s = textS x := by
  have := senOf_iff.1 h
  rwa [bytesN_len] at this
theorem iRead_none {t : Int} {s : ByteArray} (h : Hid (senT t s = none)) (w : World) (hs : s.size ≤ 9223372036854775807) :
    Calls Tryz.prog 51 #[.int .i64 t, .string s] w fun e w' => e = .returned (.tuple #[.pointer none, .bool false]) ∧ Below w.heap.size w w' := by
  refine (iReadS t s w hs).mono ?_
  intro e w' hp
  unfold SentPost at hp
  rw [show senOf t (bytesN s) = none from h.out] at hp
  exact hp
theorem iRead_some {t : Int} {s : ByteArray} {x : Sen} (h : Hid (senT t s = some x)) (w : World) (hs : s.size ≤ 9223372036854775807) :
    Calls Tryz.prog 51 #[.int .i64 t, .string s] w fun e w' => ∃ p, e = .returned (.tuple #[.pointer p, .bool true]) ∧ SenAt w' w.heap.size x p ∧ Below w.heap.size w w' := by
  refine (iReadS t s w hs).mono ?_
  intro e w' hp
  unfold SentPost at hp
  rw [show senOf t (bytesN s) = some x from h.out] at hp
  exact hp

def IssueOfPost (l : List Int) (b : Bool) (w : World) (e : Ending) (w' : World) : Prop := ∃ v, e = .returned (.tuple #[v, .bool b]) ∧ Owns w' w.heap.size v l ∧ Below w.heap.size w w'
theorem issueT_none {t : Int} {s : ByteArray} (h : senT t s = none) : issueT t s = [] ∧ isT t s = false := by unfold issueT isT; rw [h]; exact ⟨rfl, rfl⟩
theorem issueT_some {t : Int} {s : ByteArray} {x : Sen} (h : senT t s = some x) : issueT t s = issueS t x ∧ isT t s = true := by unfold issueT isT; rw [h]; exact ⟨rfl, rfl⟩

set_option maxRecDepth 100000 in
set_option maxHeartbeats 4000000 in
theorem iIssueOf (t : Int) (s : ByteArray) (w : World) (hs : s.size ≤ 9223372036854775807) :
    Calls Tryz.prog 95 #[.int .i64 t, .string s] w (IssueOfPost (issueT t s) (isT t s) w) := by
  rcases hx : senT t s with _ | x
  · have HX := Lib.hid hx
    obtain ⟨e1, e2⟩ := issueT_none hx
    rw [e1, e2]
    clear hx e1 e2
    go_enter Tryz.func95, Tryz.ntmps95
    go_wp2_with fail
    refine (iRead_none HX _ hs).mono ?_
    rintro e w1 ⟨rfl, hb⟩
    have HB := Lib.hid hb
    clear hb
    go_wp2_with fail
    go_ret2
    exact ⟨_, rfl, Owns.nil _ _, HB.out⟩
  · have HX := Lib.hid hx
    obtain ⟨h1, h3, _, hok, _⟩ := senT_ok hx
    obtain ⟨e1, e2⟩ := issueT_some hx
    rw [e1, e2]
    clear hx e1 e2
    go_enter Tryz.func95, Tryz.ntmps95
    go_wp2_with fail
    refine (iRead_some HX _ hs).mono ?_
    rintro e w1 ⟨p, rfl, hn, hb⟩
    have HI := Lib.hid (iIssueS t h1 h3 x p _ _ hok hn)
    have HB := Lib.hid hb
    clear hb hn
    go_wp2_with fail
    refine HI.out.mono ?_
    rintro e w2 ⟨v, rfl, ho, hb⟩
    have HO := Lib.hid (ho.base HB.out.size)
    have HB2 := Lib.hid (bel_trans HB.out hb)
    clear ho hb
    go_wp2_with fail
    go_ret2
    exact ⟨_, rfl, HO.out, HB2.out⟩

theorem trueTo_lt (t : Int) (x : Sen) : ∀ k, k ≤ 8 → trueTo t x k < 2 ^ k
  | 0, _ => by simp [trueTo]
  | k + 1, h => by
    have := trueTo_lt t x k (by omega)
    unfold trueTo
    rw [Nat.pow_succ]
    split <;> omega
theorem true_or {t : Int} {x : Sen} {k : Nat} (hk : k ≤ 7) (h : holdsS t x (worldS k) = true) : trueTo t x k ||| 2 ^ k = trueTo t x (k + 1) := by
  have := trueTo_lt t x k (by omega)
  conv => rhs; unfold trueTo
  have e := Nat.two_pow_add_eq_or_of_lt this 1
  rw [Nat.mul_one] at e
  rw [if_pos h, Nat.or_comm, ← e, Nat.add_comm]
theorem true_skip {t : Int} {x : Sen} {k : Nat} (h : holdsS t x (worldS k) = false) : trueTo t x k = trueTo t x (k + 1) := by
  conv => rhs; unfold trueTo
  rw [if_neg (by rw [h]; decide)]; rfl

set_option maxRecDepth 100000 in
set_option maxHeartbeats 4000000 in
theorem iTrueIn (t : Int) (s : ByteArray) (w : World) (hs : s.size ≤ 9223372036854775807) :
    Calls Tryz.prog 15 #[.int .i64 t, .string s] w fun e w' => e = .returned (.int .i64 (trueT t s)) ∧ Below w.heap.size w w' := by
  rcases hx : senT t s with _ | x
  · have HX := Lib.hid hx
    rw [show trueT t s = -1 by unfold trueT; rw [hx]]
    clear hx
    go_enter Tryz.func15, Tryz.ntmps15
    go_wp2_with fail
    refine (iRead_none HX _ hs).mono ?_
    rintro e w1 ⟨rfl, hb⟩
    have HB := Lib.hid hb
    clear hb
    go_wp2_with fail
    go_ret
    exact ⟨rfl, HB.out⟩
  · have HX := Lib.hid hx
    obtain ⟨h1, h3, _, hok, _⟩ := senT_ok hx
    rw [show trueT t s = (trueTo t x (nWorlds t) : Int) by unfold trueT; rw [hx]]
    obtain ⟨hw, hw8⟩ := worlds_n h1 h3
    have HW := Lib.hid hw
    clear hx hw
    go_enter Tryz.func15, Tryz.ntmps15
    go_wp2_with fail
    refine (iRead_some HX _ hs).mono ?_
    rintro e w1 ⟨p, rfl, hn, hb⟩
    have HN := Lib.hid hn
    have HB := Lib.hid hb
    clear hb hn
    go_wp2_with (go_at_call 50; refine (iWorldsOf _ _).mono ?_; rintro e w' ⟨rfl, rfl⟩)
    rw [HW.out]
    obtain ⟨n, HNW⟩ : ∃ n, Hid (nWorlds t = n) := ⟨_, rfl⟩
    rw [HNW.out] at hw8 ⊢
    go_loopw [7, 19] (fun v i wr => ∃ k : Nat, k ≤ n ∧ i = .int .i64 k ∧ v = .int .i64 (trueTo t x k) ∧ Below w1.heap.size w1 wr) (fun _ i _ => n - (Go.RowKit.intOf i).toNat)
    case atStart => exact ⟨0, Nat.zero_le _, rfl, rfl, Below.refl _ _⟩
    case round =>
      obtain ⟨k, hk, rfl, rfl, hbr⟩ := hrel
      have HBR := Lib.hid hbr
      clear hbr
      by_cases hlt : k < n
      · have hall : worldS k ≤ allOf t := (world_ok h1 h3 (by rw [HNW.out]; exact hlt)).2
        have HI : Hid (Calls Tryz.prog 53 #[.int .i64 t, .int .i64 ((2 ^ k : Nat) : Int), .pointer p] wr fun e w' => e = .returned (.bool (holdsS t x (worldS k))) ∧ Below wr.heap.size wr w') :=
          iSupports t (2 ^ k) h1 h3 hall x p _ _ hok (HN.out.below HBR.out)
        have h8 : k = 0 ∨ k = 1 ∨ k = 2 ∨ k = 3 ∨ k = 4 ∨ k = 5 ∨ k = 6 ∨ k = 7 := by omega
        have HLT := Lib.hid hlt
        have hlti : (k : Int) < (n : Int) := by omega
        have htl := trueTo_lt t x k (by omega)
        rcases hh : holdsS t x (worldS k) with _ | _
        · rw [hh] at HI
          have HS := Lib.hid (true_skip hh)
          clear hk hh hall hw8
          rcases h8 with rfl | rfl | rfl | rfl | rfl | rfl | rfl | rfl
          all_goals
            go_wp2_with fail
            refine HI.out.mono ?_
            rintro e w2 ⟨rfl, hb⟩
            have HB2 := Lib.hid (bel_trans HBR.out hb)
            clear hb
            go_wp2_with fail
            refine ⟨⟨_, HLT.out, rfl, by rw [HS.out], HB2.out⟩, ?_⟩
            have := HLT.out
            simp [Go.RowKit.intOf]
            omega
        · rw [hh] at HI
          have HS := Lib.hid (true_or (by omega) hh)
          obtain ⟨tv, HTV⟩ : ∃ tv, Hid (trueTo t x k = tv) := ⟨_, rfl⟩
          rw [HTV.out] at HS htl ⊢
          clear hk hh hall hw8
          rcases h8 with rfl | rfl | rfl | rfl | rfl | rfl | rfl | rfl
          all_goals
            go_wp2_with fail
            refine HI.out.mono ?_
            rintro e w2 ⟨rfl, hb⟩
            have HB2 := Lib.hid (bel_trans HBR.out hb)
            clear hb
            go_wp2_with fail
            rw [bits_or _ _ (by omega) (by simp at htl; omega) (by omega) (by omega)]
            refine ⟨⟨_, HLT.out, rfl, by rw [← HS.out]; rfl, HB2.out⟩, ?_⟩
            have := HLT.out
            simp [Go.RowKit.intOf]
            omega
      · obtain rfl : k = n := by omega
        have HB2 := Lib.hid (bel_trans HB.out HBR.out)
        go_wp2_with fail
        go_ret
        exact ⟨ret_int (by rw [HNW.out]), HB2.out⟩

end Go.Proofs.YtmdogidflaplkaaGreat
