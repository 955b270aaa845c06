/-
  What the proofs of this seat's statements share (Rds, Iss, Imp, Srd, Sre, Srf, Srg, Sho).
-/
import Derived.Defers
import Derived.Recover
import Derived.Laws.Pointers
import Derived.Test.YtmdpolllmipppaaU5
import Derived.Test.YtmdpolllmipppaaU4

namespace Go.Proofs.Ytmdpolllmipppaa
open Go.RowKit

theorem iEnd_ok (R : Nat) (s st : ByteArray) (w : World) (hs : s.size ≤ 1048576) (hr : RdrAt w R s s.size st) :
    Calls Try.prog 78 #[.pointer (some ⟨R, 0, none⟩)] w fun e w' => e = .returned (.tuple #[]) ∧ ∃ n, w' = w.drewN n := by
  obtain ⟨hc0, hc1, hc2, hf, hlt⟩ := rdr_cells hr
  have hd : decide ((s.size : Int) < (s.size : Int)) = false := decide_eq_false (by omega)
  clear hr
  go_enter Try.func78, Try.ntmps78
  go_wp2_with fail
  go_quiet (fail)
  go_wp2_with fail
  go_end0
  exact ⟨rfl, _, rfl⟩
theorem iEnd_bad (R : Nat) (s st : ByteArray) (at_ : Nat) (w : World) (hs : s.size ≤ 1048576) (hat : at_ < s.size) (hr : RdrAt w R s at_ st) :
    Calls Try.prog 78 #[.pointer (some ⟨R, 0, none⟩)] w (Panics R w) := by
  obtain ⟨hc0, hc1, hc2, hf, hlt⟩ := rdr_cells hr
  have hd : decide ((at_ : Int) < (s.size : Int)) = true := decide_eq_true (by omega)
  clear hr
  go_enter Try.func78, Try.ntmps78
  go_wp2_with fail
  go_quiet (fail)
  go_wp2_with fail
  exact ⟨rfl, _, rfl, grown_drewN (World.grownBy.refl _ _) _⟩

theorem catch_panicking (p q : Addr) (v0 v1 : Value) (u : TypeId) (pv : Value) (w : World) (h0 : w.cell? p = some v0) (h1 : w.cell? q = some v1) (f0 : w.frozen? p = false) (f1 : w.frozen? q = false) (hne : p.block ≠ q.block) :
    CallsD Try.prog 76 #[.pointer (some p), .pointer (some q)] (.panicking [{ v := .iface u pv, recovered := false }]) w fun e u' w' =>
      e = .returned (.tuple #[]) ∧ u' = .panicking [{ v := .iface u pv, recovered := true }] ∧ w' = (w.setCell p (.pointer none)).setCell q (.bool false) := by
  refine callsD_of_wpS Try.func76 rfl fun c₀ cs hu => ?_
  apply wpS_seq
  apply wpS_region
  simp [wpOpsS, go_sem, recoverD, hu, Try.ntmps76, Exit.thenS]
  refine wpS_cond (t := true) (by simp [Act.eval, Array.replicate]) ?_
  simp only [if_true]
  apply wpS_region
  have h2 : (w.setCell p (.pointer none)).cell? q = some v1 := (World.cell?_setCell_far w p q _ hne).trans h1
  have f2 : (w.setCell p (.pointer none)).frozen? q = false := by rw [World.frozen?_setCell]; exact f1
  simp [wpOpsS, go_sem, h0, f0, h2, f2, bodyPostS, results, Try.results76]
theorem catch_idle (p q : Addr) (w : World) :
    CallsD Try.prog 76 #[.pointer (some p), .pointer (some q)] .returning w fun e u' w' => e = .returned (.tuple #[]) ∧ u' = .returning ∧ w' = w := by
  refine callsD_of_wpS Try.func76 rfl fun c₀ cs hu => ?_
  apply wpS_seq
  apply wpS_region
  simp [wpOpsS, go_sem, recoverD, hu, Try.ntmps76, Exit.thenS]
  refine wpS_cond (t := false) (by simp [Act.eval, Array.replicate]) ?_
  simp only [Bool.false_eq_true, if_false]
  refine wpS_of_wp (wp_skip ?_)
  cases c₀
  simp_all [bodyPostS, results, Try.results76]

def nothing : Value := .tuple #[.pointer none, .bool false]
theorem box_set {W : World} {B : Nat} {t : TypeId} {v : Value} (h : Boxed W B t v) (u : Value) {C : Nat} (hne : C ≠ B) : Boxed (W.setCell ⟨C, 0, none⟩ u) B t v :=
  (Below.heap_setCell _ _ _ _ (fun e => hne e.symm)).trans h

set_option maxRecDepth 100000 in
set_option maxHeartbeats 4000000 in
theorem iReadS_bad (t : Int) (s : ByteArray) (w : World) (h : t < 1 ∨ 3 < t ∨ 60 < s.size) (hs : s.size ≤ 9223372036854775807) :
    Calls Try.prog 52 #[.int .i64 t, .string s] w fun e w' => e = .returned nothing ∧ Below w.heap.size w w' := by
  have x0 := Boxed.new w 57 (.pointer none)
  have x1 := Boxed.new (w.alloc (.cells #[.pointer none] 57)) 4 (.bool false)
  rw [World.size_alloc] at x1
  have hc0 := (x0.alloc (.cells #[.bool false] 4)).cell
  have hc1 := x1.cell
  have HB : Hid (Below w.heap.size w ((w.alloc (.cells #[.pointer none] 57)).alloc (.cells #[.bool false] 4))) := ((Below.refl _ _).alloc (Nat.le_refl _) _).alloc (by simp) _
  clear x0 x1
  obtain ⟨n, HN⟩ : ∃ n, Hid (worldsOf t = n) := ⟨_, rfl⟩
  by_cases h1 : t < 1 ∨ 3 < t
  · have hd : decide (n < 0) = true := decide_eq_true (by rw [← HN.out, worldsOf_bad h1]; omega)
    clear h h1
    go_enter_defers Try.func52, Try.ntmps52
    go_wp2_with (go_at_call 56; refine (iWorldsOf _ _).mono ?_; rintro e w' ⟨rfl, rfl⟩; rw [HN.out])
    exact ⟨nothing, by simp [results, Try.results52, go_sem, hc0, hc1, nothing], rfl, HB.out⟩
  · have hd : decide (n < 0) = false := decide_eq_false (by rw [← HN.out, (worlds_n (t := t) (by omega) (by omega)).1]; omega)
    have hd2 : decide ((60 : Int) < (s.size : Int)) = true := decide_eq_true (by omega)
    clear h h1
    go_enter_defers Try.func52, Try.ntmps52
    go_wp2_with (go_at_call 56; refine (iWorldsOf _ _).mono ?_; rintro e w' ⟨rfl, rfl⟩; rw [HN.out])
    exact ⟨nothing, by simp [results, Try.results52, go_sem, hc0, hc1, nothing], rfl, HB.out⟩

def startsOf (n : Nat) : ByteArray := ⟨#[48, 49, 33, 63, 40]⟩ ++ (⟨#[97, 98, 99]⟩ : ByteArray).extract 0 n
theorem starts_ok (n : Nat) (h1 : 1 ≤ n) (h3 : n ≤ 3) : StOk n (startsOf n) := by
  intro c
  have e : ∀ k : UInt8, c = k ↔ c.toNat = k.toNat := fun k => UInt8.toNat_inj.symm
  have hl : (startsOf n).data.toList = [48, 49, 33, 63, 40] ++ [97, 98, 99].take n := by
    have : n = 1 ∨ n = 2 ∨ n = 3 := by omega
    rcases this with rfl | rfl | rfl <;> rfl
  rw [hl, Bool.eq_iff_iff]
  unfold startB
  have : n = 1 ∨ n = 2 ∨ n = 3 := by omega
  rcases this with rfl | rfl | rfl <;> simp [e] <;> omega
theorem senOf_none {t : Int} {l : List Nat} (h1 : 1 ≤ t) (h3 : t ≤ 3) (hl : l.length ≤ 60) (h : readS t l.length l = none) : senOf t l = none := by
  unfold senOf; rw [if_pos ⟨h1, h3, hl⟩, h]
theorem senOf_more {t : Int} {l : List Nat} {x : Sen} {c : Nat} {r : List Nat} (h1 : 1 ≤ t) (h3 : t ≤ 3) (hl : l.length ≤ 60) (h : readS t l.length l = some (x, c :: r)) : senOf t l = none := by
  unfold senOf; rw [if_pos ⟨h1, h3, hl⟩, h]
theorem senOf_some {t : Int} {l : List Nat} {x : Sen} (h1 : 1 ≤ t) (h3 : t ≤ 3) (hl : l.length ≤ 60) (h : readS t l.length l = some (x, [])) : senOf t l = some x := by
  unfold senOf; rw [if_pos ⟨h1, h3, hl⟩, h]
theorem below_caught {w W w1 : World} {u0 u1 : Value} (hB : Below w.heap.size w W) (hg : W.grownBy w1 (some (w.heap.size + 1 + 1))) : Below w.heap.size w ((w1.setCell ⟨w.heap.size, 0, none⟩ u0).setCell ⟨w.heap.size + 1, 0, none⟩ u1) :=
  ((hB.grown hg hB.size (fun k e => by cases e; omega)).setCell (p := ⟨w.heap.size, 0, none⟩) (Nat.le_refl _) _).setCell (p := ⟨w.heap.size + 1, 0, none⟩) (by show w.heap.size ≤ w.heap.size + 1; omega) _
theorem sen_set {w : World} {lo C : Nat} {x : Sen} {p : Option Addr} (h : SenAt w lo x p) (hC : C < lo) (v : Value) : SenAt (w.setCell ⟨C, 0, none⟩ v) lo x p :=
  SenAt.keep (fun b hl _ => Below.heap_setCell _ _ _ b (by show b ≠ C; omega)) x p h
theorem sen_drewN {w : World} {lo : Nat} {x : Sen} {p : Option Addr} (h : SenAt w lo x p) (n : Nat) : SenAt (w.drewN n) lo x p :=
  SenAt.keep (w := w) (w' := w.drewN n) (fun _ _ _ => rfl) x p h
def SentPost (t : Int) (s : ByteArray) (w : World) (e : Ending) (w' : World) : Prop :=
  match senOf t (bytesN s) with
  | some x => ∃ p, e = .returned (.tuple #[.pointer p, .bool true]) ∧ SenAt w' w.heap.size x p ∧ Below w.heap.size w w'
  | none => e = .returned nothing ∧ Below w.heap.size w w'
theorem SentPost.of_none {t : Int} {s : ByteArray} {w : World} {e : Ending} {w' : World} (h : senOf t (bytesN s) = none) (he : e = .returned nothing) (hb : Below w.heap.size w w') : SentPost t s w e w' := by
  unfold SentPost; rw [h]; exact ⟨he, hb⟩
theorem SentPost.of_some {t : Int} {s : ByteArray} {w : World} {e : Ending} {w' : World} {x : Sen} (h : senOf t (bytesN s) = some x) {p : Option Addr} (he : e = .returned (.tuple #[.pointer p, .bool true])) (hn : SenAt w' w.heap.size x p) (hb : Below w.heap.size w w') : SentPost t s w e w' := by
  unfold SentPost; rw [h]; exact ⟨p, he, hn, hb⟩

set_option maxRecDepth 100000 in
set_option maxHeartbeats 4000000 in
theorem iReadS_ok (n : Nat) (s : ByteArray) (w : World) (h1 : 1 ≤ n) (h3 : n ≤ 3) (hs : s.size ≤ 60) :
    Calls Try.prog 52 #[.int .i64 n, .string s] w (SentPost n s w) := by
  have hmf : ∀ (fn : Fn) (first cap : Array Value) (w : World), (Instr.makeFunc fn first cap).run Try.prog w = .ok (.func fn first cap) w := fun _ _ _ _ => rfl
  have hd : decide ((60 : Int) < (s.size : Int)) = false := decide_eq_false (by omega)
  obtain ⟨m, HN⟩ : ∃ m, Hid (worldsOf n = m) := ⟨_, rfl⟩
  have hd2 : decide (m < 0) = false := decide_eq_false (by rw [← HN.out, (worlds_n (t := n) (by omega) (by omega)).1]; omega)
  go_enter_defers Try.func52, Try.ntmps52
  go_wp2_with (go_at_call 56; refine (iWorldsOf _ _).mono ?_; rintro e w' ⟨rfl, rfl⟩; rw [HN.out])
  obtain ⟨W, hW⟩ : ∃ W, ((w.alloc (.cells #[.pointer none] 57)).alloc (.cells #[.bool false] 4)).alloc (.cells #[.string s, .int .i64 0, .string (⟨#[48, 49, 33, 63, 40]⟩ ++ (⟨#[97, 98, 99]⟩ : ByteArray).extract 0 n)] 82) = W := ⟨_, rfl⟩
  have x0 : Boxed W w.heap.size 57 (.pointer none) := by rw [← hW]; exact ((Boxed.new w 57 (.pointer none)).alloc _).alloc _
  have x1 : Boxed W (w.heap.size + 1) 4 (.bool false) := by
    rw [← hW]; have := Boxed.new (w.alloc (.cells #[.pointer none] 57)) 4 (.bool false); rw [World.size_alloc] at this; exact this.alloc _
  have hr : RdrAt W (w.heap.size + 1 + 1) s 0 (startsOf n) := by
    rw [← hW]; have := World.alloc_heap_new ((w.alloc (.cells #[.pointer none] 57)).alloc (.cells #[.bool false] 4)) (.cells #[.string s, .int .i64 0, .string (startsOf n)] 82); simp only [World.size_alloc] at this; exact this
  have hB : Below w.heap.size w W := by rw [← hW]; exact (((Below.refl _ _).alloc (Nat.le_refl _) _).alloc (by simp) _).alloc (by simp; omega) _
  have hsz : w.heap.size + 3 ≤ W.heap.size := by rw [← hW]; simp
  rw [hW]
  clear hW
  have hread := iRead n (w.heap.size + 1 + 1) s (startsOf n) (by omega) (by omega) (starts_ok n h1 h3) s.size 0 W hr (by omega) (by omega)
  rw [List.drop_zero] at hread
  have HB := Lib.hid hB
  have X0 := Lib.hid x0
  have X1 := Lib.hid x1
  have hlen : (bytesN s).length = s.size := bytesN_len s
  have hln : ∀ o, readS n s.size (bytesN s) = o → readS n (bytesN s).length (bytesN s) = o := fun o h => by rw [hlen]; exact h
  clear x0 x1 hB hr
  rcases hrd : readS n s.size (bytesN s) with _ | ⟨x, rest⟩
  · rw [hrd] at hread
    have HI : Hid (Calls Try.prog 77 #[.pointer (some ⟨w.heap.size + 1 + 1, 0, none⟩)] W (Panics (w.heap.size + 1 + 1) W)) := hread
    have HE := Lib.hid (senOf_none (t := n) (by omega) (by omega) (by rw [hlen]; exact hs) (hln _ hrd))
    clear hread hrd hln hlen
    refine HI.out.mono ?_
    rintro e w1 ⟨v, rfl, hg⟩
    have y0 : Boxed w1 w.heap.size 57 (.pointer none) := X0.out.kept hg (fun e => by have := Option.some.inj e; omega)
    have y1 : Boxed w1 (w.heap.size + 1) 4 (.bool false) := X1.out.kept hg (fun e => by have := Option.some.inj e; omega)
    refine leaves_cons (f := 76) (args := #[.pointer (some ⟨w.heap.size, 0, none⟩), .pointer (some ⟨w.heap.size + 1, 0, none⟩)]) (by simp) (by simp [go_sem]) ?_
    refine (catch_panicking ⟨w.heap.size, 0, none⟩ ⟨w.heap.size + 1, 0, none⟩ _ _ _ _ _ y0.cell y1.cell y0.frozen y1.frozen (by simp)).mono ?_
    rintro e u' w'' ⟨rfl, rfl, rfl⟩
    have z0 := (box_set (y0.set (.pointer none)) (.bool false) (C := w.heap.size + 1) (by omega)).cell
    have z1 := ((box_set y1 (.pointer none) (C := w.heap.size) (by omega)).set (.bool false)).cell
    have HP := Lib.hid (SentPost.of_none HE.out rfl (below_caught (u0 := .pointer none) (u1 := .bool false) HB.out hg))
    simp [Leaves, settle, results, Try.results52, go_sem, z0, z1]
    exact HP.out
  · rw [hrd] at hread
    have HI : Hid (Calls Try.prog 77 #[.pointer (some ⟨w.heap.size + 1 + 1, 0, none⟩)] W (ReadSome (w.heap.size + 1 + 1) s (startsOf n) x rest W)) := hread
    have HRD := Lib.hid (hln _ hrd)
    have HLN := Lib.hid hlen
    clear hread hrd hln hlen
    refine HI.out.mono ?_
    rintro e w1 ⟨p, a1, rfl, ha1, hda, hr1, hn1, hg⟩
    have y0 : Boxed w1 w.heap.size 57 (.pointer none) := X0.out.kept hg (fun e => by have := Option.some.inj e; omega)
    have y1 : Boxed w1 (w.heap.size + 1) 4 (.bool false) := X1.out.kept hg (fun e => by have := Option.some.inj e; omega)
    have hc0 := y0.cell
    have hf0 := y0.frozen
    rcases rest with _ | ⟨c, r⟩
    · have HE := Lib.hid (senOf_some (t := n) (by omega) (by omega) (by rw [HLN.out]; exact hs) HRD.out)
      obtain rfl := drop_end hda ha1
      have hr2 : RdrAt (w1.setCell ⟨w.heap.size, 0, none⟩ (.pointer p)) (w.heap.size + 1 + 1) s s.size (startsOf n) := (Below.heap_setCell _ _ _ _ (by show w.heap.size + 1 + 1 ≠ w.heap.size; omega)).trans hr1
      have HT := Lib.hid (iEnd_ok _ s (startsOf n) _ (by omega) hr2)
      have HG := Lib.hid hg
      have Y0 := Lib.hid (y0.set (.pointer p))
      have Y1 := Lib.hid (box_set y1 (.pointer p) (C := w.heap.size) (by omega))
      have HN := Lib.hid hn1
      clear hda hr1 hn1 hg y0 y1 hr2
      go_wp2_with fail
      refine HT.out.mono ?_
      rintro e w2 ⟨rfl, q, rfl⟩
      clear hc0 hf0
      have hc0 := Y0.out.cell
      have hf0 := Y0.out.frozen
      have hc1 := Y1.out.cell
      have hf1 := Y1.out.frozen
      go_wp2_with fail
      refine leaves_cons (f := 76) (args := #[.pointer (some ⟨w.heap.size, 0, none⟩), .pointer (some ⟨w.heap.size + 1, 0, none⟩)]) (by simp) (by simp [go_sem]) ?_
      refine (catch_idle ⟨w.heap.size, 0, none⟩ ⟨w.heap.size + 1, 0, none⟩ _).mono ?_
      rintro e u' w'' ⟨rfl, rfl, rfl⟩
      have Y0q : Boxed ((w1.setCell ⟨w.heap.size, 0, none⟩ (.pointer p)).drewN q) w.heap.size 57 (.pointer p) := Y0.out
      have Y1q : Boxed ((w1.setCell ⟨w.heap.size, 0, none⟩ (.pointer p)).drewN q) (w.heap.size + 1) 4 (.bool false) := Y1.out
      have z0 := (box_set (Y0q.set (.pointer p)) (.bool true) (C := w.heap.size + 1) (by omega)).cell
      have z1 := ((box_set Y1q (.pointer p) (C := w.heap.size) (by omega)).set (.bool true)).cell
      have hsn : SenAt ((((w1.setCell ⟨w.heap.size, 0, none⟩ (.pointer p)).drewN q).setCell ⟨w.heap.size, 0, none⟩ (.pointer p)).setCell ⟨w.heap.size + 1, 0, none⟩ (.bool true)) w.heap.size x p :=
        SenAt.low (lo := W.heap.size) (by omega) x p (sen_set (sen_set (sen_drewN (sen_set HN.out (by omega) _) _) (by omega) _) (by omega) _)
      have hbl : Below w.heap.size w ((((w1.setCell ⟨w.heap.size, 0, none⟩ (.pointer p)).drewN q).setCell ⟨w.heap.size, 0, none⟩ (.pointer p)).setCell ⟨w.heap.size + 1, 0, none⟩ (.bool true)) :=
        ((bel_drewN ((HB.out.grown HG.out HB.out.size (fun k e => by have := Option.some.inj e; omega)).setCell (p := ⟨w.heap.size, 0, none⟩) (Nat.le_refl _) _) q).setCell (p := ⟨w.heap.size, 0, none⟩) (Nat.le_refl _) _).setCell (p := ⟨w.heap.size + 1, 0, none⟩) (by show w.heap.size ≤ w.heap.size + 1; omega) _
      have HP := Lib.hid (SentPost.of_some HE.out rfl hsn hbl)
      simp [Leaves, settle, results, Try.results52, go_sem, z0, z1]
      exact HP.out
    · have HE := Lib.hid (senOf_more (t := n) (by omega) (by omega) (by rw [HLN.out]; exact hs) HRD.out)
      obtain ⟨hlt, _, _⟩ := drop_lt hda
      have hr2 : RdrAt (w1.setCell ⟨w.heap.size, 0, none⟩ (.pointer p)) (w.heap.size + 1 + 1) s a1 (startsOf n) := (Below.heap_setCell _ _ _ _ (by show w.heap.size + 1 + 1 ≠ w.heap.size; omega)).trans hr1
      have HT := Lib.hid (iEnd_bad _ s (startsOf n) a1 _ (by omega) hlt hr2)
      have HG := Lib.hid hg
      have Y0 := Lib.hid (y0.set (.pointer p))
      have Y1 := Lib.hid (box_set y1 (.pointer p) (C := w.heap.size) (by omega))
      clear hda hr1 hn1 hg y0 y1 hr2
      go_wp2_with fail
      refine HT.out.mono ?_
      rintro e w2 ⟨v, rfl, hg2⟩
      have y0 : Boxed w2 w.heap.size 57 (.pointer p) := Boxed.kept Y0.out hg2 (fun e => by have := Option.some.inj e; omega)
      have y1 : Boxed w2 (w.heap.size + 1) 4 (.bool false) := Boxed.kept Y1.out hg2 (fun e => by have := Option.some.inj e; omega)
      refine leaves_cons (f := 76) (args := #[.pointer (some ⟨w.heap.size, 0, none⟩), .pointer (some ⟨w.heap.size + 1, 0, none⟩)]) (by simp) (by simp [go_sem]) ?_
      refine (catch_panicking ⟨w.heap.size, 0, none⟩ ⟨w.heap.size + 1, 0, none⟩ _ _ _ _ _ y0.cell y1.cell y0.frozen y1.frozen (by simp)).mono ?_
      rintro e u' w'' ⟨rfl, rfl, rfl⟩
      have z0 := (box_set (y0.set (.pointer none)) (.bool false) (C := w.heap.size + 1) (by omega)).cell
      have z1 := ((box_set y1 (.pointer none) (C := w.heap.size) (by omega)).set (.bool false)).cell
      have hb1 : Below w.heap.size w (w1.setCell ⟨w.heap.size, 0, none⟩ (.pointer p)) := (HB.out.grown HG.out HB.out.size (fun k e => by have := Option.some.inj e; omega)).setCell (p := ⟨w.heap.size, 0, none⟩) (Nat.le_refl _) _
      have HP := Lib.hid (SentPost.of_none HE.out rfl (below_caught (u0 := .pointer none) (u1 := .bool false) hb1 hg2))
      simp [Leaves, settle, results, Try.results52, go_sem, z0, z1]
      exact HP.out
theorem iReadS (t : Int) (s : ByteArray) (w : World) (hs : s.size ≤ 9223372036854775807) : Calls Try.prog 52 #[.int .i64 t, .string s] w (SentPost t s w) := by
  by_cases h : t < 1 ∨ 3 < t ∨ 60 < s.size
  · refine (iReadS_bad t s w h hs).mono ?_
    rintro e w' ⟨he, hb⟩
    exact SentPost.of_none (by unfold senOf; rw [if_neg (by rw [bytesN_len]; omega)]) he hb
  · obtain ⟨n, rfl⟩ : ∃ n : Nat, t = n := ⟨t.toNat, by omega⟩
    exact iReadS_ok n s w (by omega) (by omega) (by omega)
end Go.Proofs.Ytmdpolllmipppaa

namespace Go.Proofs.Ytmdpolllmipppaa
open Go.RowKit

def OwnPost (l : List Int) (w : World) (e : Ending) (w' : World) : Prop := ∃ v, e = .returned v ∧ Owns w' w.heap.size v l ∧ Below w.heap.size w w'
theorem node_cells_below {w W : World} {b sg : Nat} {q r : Option Addr} (h : NodeAt w b sg q r) (hb : Below w.heap.size w W) : W.cell? ⟨b, 1, none⟩ = some (.pointer q) ∧ W.cell? ⟨b, 2, none⟩ = some (.pointer r) := by
  have := node_cells ((hb.block b (Array.getElem?_eq_some_iff.1 h).1).trans h)
  exact ⟨this.2.1, this.2.2.1⟩

set_option maxRecDepth 100000 in
set_option maxHeartbeats 4000000 in
theorem iIssNot (t : Int) (b : Nat) (q r : Option Addr) (w : World) (a : List Int) (ha : a.length ≤ 70) (hn : NodeAt w b 33 q r)
    (hk : ∀ W, Below w.heap.size w W → Calls Try.prog 53 #[.int .i64 t, .pointer q] W (OwnPost a W)) :
    Calls Try.prog 53 #[.int .i64 t, .pointer (some ⟨b, 0, none⟩)] w (OwnPost (notL t a) w) := by
  obtain ⟨hc0, hc1, hc2, hlt⟩ := node_cells hn
  have HK := Lib.hid hk
  have hc0 : w.cell? ⟨b, 0, none⟩ = some (.int .u8 33) := hc0
  clear hk hn
  go_enter Try.func53, Try.ntmps53
  go_wp2_with fail
  refine (HK.out _ (Below.refl _ _)).mono ?_
  rintro e w1 ⟨v, rfl, ho, hb⟩
  obtain ⟨A1, c1, rfl, _, _, _, _⟩ := ho.form
  have HR := Lib.hid (Owns.row ho (by omega))
  have HB := Lib.hid hb
  clear ho hb
  go_wp2_with fail
  refine (iNotIssue t _ _ _ a _ HR.out).mono ?_
  rintro e w2 ⟨v, rfl, ho, hb⟩
  have HO := Lib.hid (ho.base HB.out.size)
  have HB2 := Lib.hid (bel_trans HB.out hb)
  clear ho hb
  go_wp2_with fail
  go_ret
  exact ⟨_, rfl, HO.out, HB2.out⟩
set_option maxRecDepth 100000 in
set_option maxHeartbeats 4000000 in
theorem iIssWhether (t : Int) (b : Nat) (q r : Option Addr) (w : World) (a : List Int) (ha : a.length ≤ 70) (hn : NodeAt w b 63 q r)
    (hk : ∀ W, Below w.heap.size w W → Calls Try.prog 53 #[.int .i64 t, .pointer q] W (OwnPost a W)) :
    Calls Try.prog 53 #[.int .i64 t, .pointer (some ⟨b, 0, none⟩)] w (OwnPost (whetherL t a) w) := by
  obtain ⟨hc0, hc1, hc2, hlt⟩ := node_cells hn
  have HK := Lib.hid hk
  have hc0 : w.cell? ⟨b, 0, none⟩ = some (.int .u8 63) := hc0
  clear hk hn
  go_enter Try.func53, Try.ntmps53
  go_wp2_with fail
  refine (HK.out _ (Below.refl _ _)).mono ?_
  rintro e w1 ⟨v, rfl, ho, hb⟩
  obtain ⟨A1, c1, rfl, _, _, _, _⟩ := ho.form
  have HR := Lib.hid (Owns.row ho (by omega))
  have HB := Lib.hid hb
  clear ho hb
  go_wp2_with fail
  refine (iWhetherIssue t _ _ _ a _ HR.out).mono ?_
  rintro e w2 ⟨v, rfl, ho, hb⟩
  have HO := Lib.hid (ho.base HB.out.size)
  have HB2 := Lib.hid (bel_trans HB.out hb)
  clear ho hb
  go_wp2_with fail
  go_ret
  exact ⟨_, rfl, HO.out, HB2.out⟩
set_option maxRecDepth 100000 in
set_option maxHeartbeats 4000000 in
theorem iIssBoth (t : Int) (b : Nat) (q r : Option Addr) (w : World) (a c : List Int) (ha : a.length ≤ 70) (hc : c.length ≤ 70) (hn : NodeAt w b 38 q r)
    (hk : ∀ W, Below w.heap.size w W → Calls Try.prog 53 #[.int .i64 t, .pointer q] W (OwnPost a W))
    (hk2 : ∀ W, Below w.heap.size w W → Calls Try.prog 53 #[.int .i64 t, .pointer r] W (OwnPost c W)) :
    Calls Try.prog 53 #[.int .i64 t, .pointer (some ⟨b, 0, none⟩)] w (OwnPost (bothL t a c) w) := by
  obtain ⟨hc0, hc1, hc2, hlt⟩ := node_cells hn
  have HK := Lib.hid hk
  have HK2 := Lib.hid hk2
  have HN := Lib.hid hn
  have hc0 : w.cell? ⟨b, 0, none⟩ = some (.int .u8 38) := hc0
  have HBd : Hid (Below w.heap.size w w.drew) := bel_drewN (Below.refl _ w) 1
  clear hk hn hk2
  go_enter Try.func53, Try.ntmps53
  go_wp2_with fail
  go_region_held3 (fun w' => w'.cell? ⟨b, 1, none⟩ = some (.pointer q) ∧ w'.cell? ⟨b, 2, none⟩ = some (.pointer r))
    (first | go_keep | exact node_cells_below HN.out HB3.out | exact node_cells_below HN.out HB2.out | exact node_cells_below HN.out HB1.out)
    (first
      | (go_at_call 53; ((with_reducible refine (HK.out w.drew HBd.out).mono ?_)); rintro e w1 ⟨v, rfl, ho, hb⟩; obtain ⟨A1, c1, rfl, _, _, _, _⟩ := ho.form; have HR1 := Lib.hid (Owns.row ho (by omega)); have HB1 : Hid (Below w.heap.size w w1) := bel_trans HBd.out hb; clear ho hb HK HBd)
      | (go_at_call 53; ((with_reducible refine (HK2.out _ HB1.out).mono ?_)); rintro e w2 ⟨v, rfl, ho, hb⟩; obtain ⟨A2, c2, rfl, _, _, _, _⟩ := ho.form; have HR2 := Lib.hid (Owns.row ho (by omega)); replace HR1 := Lib.hid (HR1.out.below hb); have HB2 : Hid (Below w.heap.size w w2) := bel_trans HB1.out hb; clear ho hb HK2 HB1)
      | (go_at_call 81; refine (iBothIssues t _ _ _ _ _ _ a c _ HR1.out HR2.out).mono ?_; rintro e w3 ⟨v, rfl, ho, hb⟩; have HO := Lib.hid (ho.base HB2.out.size); have HB3 : Hid (Below w.heap.size w w3) := bel_trans HB2.out hb; clear ho hb))
  go_wp2_with fail
  go_ret
  exact ⟨_, rfl, HO.out, HB3.out⟩
set_option maxRecDepth 100000 in
set_option maxHeartbeats 4000000 in
theorem iIssEither (t : Int) (b : Nat) (q r : Option Addr) (w : World) (a c : List Int) (ha : a.length ≤ 70) (hc : c.length ≤ 70) (hn : NodeAt w b 124 q r)
    (hk : ∀ W, Below w.heap.size w W → Calls Try.prog 53 #[.int .i64 t, .pointer q] W (OwnPost a W))
    (hk2 : ∀ W, Below w.heap.size w W → Calls Try.prog 53 #[.int .i64 t, .pointer r] W (OwnPost c W)) :
    Calls Try.prog 53 #[.int .i64 t, .pointer (some ⟨b, 0, none⟩)] w (OwnPost (eitherL t a c) w) := by
  obtain ⟨hc0, hc1, hc2, hlt⟩ := node_cells hn
  have HK := Lib.hid hk
  have HK2 := Lib.hid hk2
  have HN := Lib.hid hn
  have hc0 : w.cell? ⟨b, 0, none⟩ = some (.int .u8 124) := hc0
  have HBd : Hid (Below w.heap.size w w.drew) := bel_drewN (Below.refl _ w) 1
  clear hk hn hk2
  go_enter Try.func53, Try.ntmps53
  go_wp2_with fail
  go_region_held3 (fun w' => w'.cell? ⟨b, 1, none⟩ = some (.pointer q) ∧ w'.cell? ⟨b, 2, none⟩ = some (.pointer r))
    (first | go_keep | exact node_cells_below HN.out HB3.out | exact node_cells_below HN.out HB2.out | exact node_cells_below HN.out HB1.out)
    (first
      | (go_at_call 53; ((with_reducible refine (HK.out w.drew HBd.out).mono ?_)); rintro e w1 ⟨v, rfl, ho, hb⟩; obtain ⟨A1, c1, rfl, _, _, _, _⟩ := ho.form; have HR1 := Lib.hid (Owns.row ho (by omega)); have HB1 : Hid (Below w.heap.size w w1) := bel_trans HBd.out hb; clear ho hb HK HBd)
      | (go_at_call 53; ((with_reducible refine (HK2.out _ HB1.out).mono ?_)); rintro e w2 ⟨v, rfl, ho, hb⟩; obtain ⟨A2, c2, rfl, _, _, _, _⟩ := ho.form; have HR2 := Lib.hid (Owns.row ho (by omega)); replace HR1 := Lib.hid (HR1.out.below hb); have HB2 : Hid (Below w.heap.size w w2) := bel_trans HB1.out hb; clear ho hb HK2 HB1)
      | (go_at_call 82; refine (iEitherIssue t _ _ _ _ _ _ a c _ HR1.out HR2.out).mono ?_; rintro e w3 ⟨v, rfl, ho, hb⟩; have HO := Lib.hid (ho.base HB2.out.size); have HB3 : Hid (Below w.heap.size w w3) := bel_trans HB2.out hb; clear ho hb))
  go_wp2_with fail
  go_ret
  exact ⟨_, rfl, HO.out, HB3.out⟩
set_option maxRecDepth 100000 in
set_option maxHeartbeats 4000000 in
theorem iIssIf (t : Int) (b : Nat) (q r : Option Addr) (w : World) (a c : List Int) (ha : a.length ≤ 70) (hc : c.length ≤ 70) (hn : NodeAt w b 62 q r)
    (hk : ∀ W, Below w.heap.size w W → Calls Try.prog 53 #[.int .i64 t, .pointer q] W (OwnPost a W))
    (hk2 : ∀ W, Below w.heap.size w W → Calls Try.prog 53 #[.int .i64 t, .pointer r] W (OwnPost c W)) :
    Calls Try.prog 53 #[.int .i64 t, .pointer (some ⟨b, 0, none⟩)] w (OwnPost (ifL t a c) w) := by
  obtain ⟨hc0, hc1, hc2, hlt⟩ := node_cells hn
  have HK := Lib.hid hk
  have HK2 := Lib.hid hk2
  have HN := Lib.hid hn
  have hc0 : w.cell? ⟨b, 0, none⟩ = some (.int .u8 62) := hc0
  have HBd : Hid (Below w.heap.size w w.drew) := bel_drewN (Below.refl _ w) 1
  clear hk hn hk2
  go_enter Try.func53, Try.ntmps53
  go_wp2_with fail
  go_region_held3 (fun w' => w'.cell? ⟨b, 1, none⟩ = some (.pointer q) ∧ w'.cell? ⟨b, 2, none⟩ = some (.pointer r))
    (first | go_keep | exact node_cells_below HN.out HB3.out | exact node_cells_below HN.out HB2.out | exact node_cells_below HN.out HB1.out)
    (first
      | (go_at_call 53; ((with_reducible refine (HK.out w.drew HBd.out).mono ?_)); rintro e w1 ⟨v, rfl, ho, hb⟩; obtain ⟨A1, c1, rfl, _, _, _, _⟩ := ho.form; have HR1 := Lib.hid (Owns.row ho (by omega)); have HB1 : Hid (Below w.heap.size w w1) := bel_trans HBd.out hb; clear ho hb HK HBd)
      | (go_at_call 53; ((with_reducible refine (HK2.out _ HB1.out).mono ?_)); rintro e w2 ⟨v, rfl, ho, hb⟩; obtain ⟨A2, c2, rfl, _, _, _, _⟩ := ho.form; have HR2 := Lib.hid (Owns.row ho (by omega)); replace HR1 := Lib.hid (HR1.out.below hb); have HB2 : Hid (Below w.heap.size w w2) := bel_trans HB1.out hb; clear ho hb HK2 HB1)
      | (go_at_call 83; refine (iIfIssue t _ _ _ _ _ _ a c _ HR1.out HR2.out).mono ?_; rintro e w3 ⟨v, rfl, ho, hb⟩; have HO := Lib.hid (ho.base HB2.out.size); have HB3 : Hid (Below w.heap.size w w3) := bel_trans HB2.out hb; clear ho hb))
  go_wp2_with fail
  go_ret
  exact ⟨_, rfl, HO.out, HB3.out⟩
set_option maxRecDepth 100000 in
set_option maxHeartbeats 4000000 in
theorem iIssWord (t : Int) (b c : Nat) (q r : Option Addr) (w : World) (h1 : 1 ≤ t) (h3 : t ≤ 3) (hc : isWord c) (hn : NodeAt w b c q r) :
    Calls Try.prog 53 #[.int .i64 t, .pointer (some ⟨b, 0, none⟩)] w (OwnPost (statementL t (wordTo c (nWorlds t))) w) := by
  obtain ⟨hc0, hc1, hc2, hlt⟩ := node_cells hn
  obtain ⟨hw, hw8⟩ := worlds_n h1 h3
  have HW := Lib.hid hw
  have HC := Lib.hid hc
  obtain ⟨n, HNW⟩ : ∃ n, Hid (nWorlds t = n) := ⟨_, rfl⟩
  clear hn hw
  rw [HNW.out] at hw8 HW ⊢
  obtain ⟨g, HG⟩ : ∃ g : Nat, Hid (wordTo c n = g) := ⟨_, rfl⟩
  rw [HG.out]
  rcases hc with rfl | rfl | rfl | rfl | rfl
  all_goals
    go_enter Try.func53, Try.ntmps53
    go_wp2_with fail
    refine (iWorldsOfWord _ _ HW.out hw8 _ _ HC.out).mono ?_
    rintro e w' ⟨rfl, rfl⟩
    rw [HG.out]
    go_wp2_with fail
    refine (iStatementOf _ _ _).mono ?_
    rintro e w2 ⟨v, rfl, ho, hb⟩
    have HO := Lib.hid ho
    have HB := Lib.hid hb
    clear ho hb
    go_wp2_with fail
    go_ret
    exact ⟨_, rfl, HO.out, HB.out⟩
theorem statement_ok {t s : Int} (h : setOkB t s = true) : statementL t s = [s] := by unfold statementL; rw [h]; rfl
theorem iIssueS (t : Int) (h1 : 1 ≤ t) (h3 : t ≤ 3) : ∀ (x : Sen) (p : Option Addr) (lo : Nat) (w : World), senOk t x = true → SenAt w lo x p →
    Calls Try.prog 53 #[.int .i64 t, .pointer p] w (OwnPost (issueS t x) w)
  | .no a, _, lo, w, hx, ⟨b, q, rfl, _, hn, h⟩ => iIssNot t b q none w _ (issue_ne (sen_issue h1 h3 a)).2 hn (fun W hb => iIssueS t h1 h3 a q lo W hx (h.below hb))
  | .ask a, _, lo, w, hx, ⟨b, q, rfl, _, hn, h⟩ => iIssWhether t b q none w _ (issue_ne (sen_issue h1 h3 a)).2 hn (fun W hb => iIssueS t h1 h3 a q lo W hx (h.below hb))
  | .and_ a c, _, lo, w, hx, ⟨b, q, r, rfl, _, hn, h, h2⟩ => by
    unfold senOk at hx
    rw [Bool.and_eq_true] at hx
    exact iIssBoth t b q r w _ _ (issue_ne (sen_issue h1 h3 a)).2 (issue_ne (sen_issue h1 h3 c)).2 hn (fun W hb => iIssueS t h1 h3 a q lo W hx.1 (h.below hb)) (fun W hb => iIssueS t h1 h3 c r lo W hx.2 (h2.below hb))
  | .or_ a c, _, lo, w, hx, ⟨b, q, r, rfl, _, hn, h, h2⟩ => by
    unfold senOk at hx
    rw [Bool.and_eq_true] at hx
    exact iIssEither t b q r w _ _ (issue_ne (sen_issue h1 h3 a)).2 (issue_ne (sen_issue h1 h3 c)).2 hn (fun W hb => iIssueS t h1 h3 a q lo W hx.1 (h.below hb)) (fun W hb => iIssueS t h1 h3 c r lo W hx.2 (h2.below hb))
  | .if_ a c, _, lo, w, hx, ⟨b, q, r, rfl, _, hn, h, h2⟩ => by
    unfold senOk at hx
    rw [Bool.and_eq_true] at hx
    exact iIssIf t b q r w _ _ (issue_ne (sen_issue h1 h3 a)).2 (issue_ne (sen_issue h1 h3 c)).2 hn (fun W hb => iIssueS t h1 h3 a q lo W hx.1 (h.below hb)) (fun W hb => iIssueS t h1 h3 c r lo W hx.2 (h2.below hb))
  | .one, _, _, w, hx, ⟨b, rfl, _, hn⟩ => by
    have := iIssWord t b 49 none none w h1 h3 (.inr (.inl rfl)) hn
    rw [word_one h1 h3, statement_ok (setOk_of h1 h3 (allOf_lt t).1 (Int.le_refl _))] at this
    exact this
  | .zero, _, _, w, hx, ⟨b, rfl, _, hn⟩ => by
    have := iIssWord t b 48 none none w h1 h3 (.inl rfl) hn
    rw [word_zero h1 h3, statement_ok (setOk_of h1 h3 (Int.le_refl _) (allOf_lt t).1)] at this
    exact this
  | .thing i, _, _, w, hx, ⟨b, rfl, _, hn⟩ => by
    have hi : (i : Int) < t := of_decide_eq_true hx
    have := iIssWord t b (97 + i) none none w h1 h3 (by unfold isWord; omega) hn
    rw [word_thing h1 h3 hi, statement_ok (letter_ok h1 h3 i)] at this
    exact this
end Go.Proofs.Ytmdpolllmipppaa

namespace Go.Proofs.Ytmdpolllmipppaa
open Go.RowKit

def senT (t : Int) (s : ByteArray) : Option Sen := senOf t (bytesN s)
def issueT (t : Int) (s : ByteArray) : List Int := match senT t s with | some x => issueS t x | none => []
def isT (t : Int) (s : ByteArray) : Bool := (senT t s).isSome
def supportsT (t k : Int) (s : ByteArray) : Bool := match senT t s with | some x => setOkB t k && holdsS t x k | none => false
def plainT (t : Int) (s : ByteArray) : Bool := match senT t s with | some x => plainS x | none => false
def trueT (t : Int) (s : ByteArray) : Int := match senT t s with | some x => (trueTo t x (nWorlds t) : Int) | none => -1
def entailsT (t : Int) (s u : ByteArray) : Bool := match senT t s, senT t u with | some x, some y => followsB t (issueS t x) (issueS t y) | _, _ => false
theorem senT_ok {t : Int} {s : ByteArray} {x : Sen} (h : senT t s = some x) : 1 ≤ t ∧ t ≤ 3 ∧ s.size ≤ 60 ∧ senOk t x = true ∧ bytesN s = textS x := by
  have := senOf_iff.1 h
  rwa [bytesN_len] at this
theorem iRead_none {t : Int} {s : ByteArray} (h : Hid (senT t s = none)) (w : World) (hs : s.size ≤ 9223372036854775807) :
    Calls Try.prog 52 #[.int .i64 t, .string s] w fun e w' => e = .returned (.tuple #[.pointer none, .bool false]) ∧ Below w.heap.size w w' := by
  refine (iReadS t s w hs).mono ?_
  intro e w' hp
  unfold SentPost at hp
  rw [show senOf t (bytesN s) = none from h.out] at hp
  exact hp
theorem iRead_some {t : Int} {s : ByteArray} {x : Sen} (h : Hid (senT t s = some x)) (w : World) (hs : s.size ≤ 9223372036854775807) :
    Calls Try.prog 52 #[.int .i64 t, .string s] w fun e w' => ∃ p, e = .returned (.tuple #[.pointer p, .bool true]) ∧ SenAt w' w.heap.size x p ∧ Below w.heap.size w w' := by
  refine (iReadS t s w hs).mono ?_
  intro e w' hp
  unfold SentPost at hp
  rw [show senOf t (bytesN s) = some x from h.out] at hp
  exact hp

def IssueOfPost (l : List Int) (b : Bool) (w : World) (e : Ending) (w' : World) : Prop := ∃ v, e = .returned (.tuple #[v, .bool b]) ∧ Owns w' w.heap.size v l ∧ Below w.heap.size w w'
theorem issueT_none {t : Int} {s : ByteArray} (h : senT t s = none) : issueT t s = [] ∧ isT t s = false := by unfold issueT isT; rw [h]; exact ⟨rfl, rfl⟩
theorem issueT_some {t : Int} {s : ByteArray} {x : Sen} (h : senT t s = some x) : issueT t s = issueS t x ∧ isT t s = true := by unfold issueT isT; rw [h]; exact ⟨rfl, rfl⟩

set_option maxRecDepth 100000 in
set_option maxHeartbeats 4000000 in
theorem iIssueOf (t : Int) (s : ByteArray) (w : World) (hs : s.size ≤ 9223372036854775807) :
    Calls Try.prog 16 #[.int .i64 t, .string s] w (IssueOfPost (issueT t s) (isT t s) w) := by
  rcases hx : senT t s with _ | x
  · have HX := Lib.hid hx
    obtain ⟨e1, e2⟩ := issueT_none hx
    rw [e1, e2]
    clear hx e1 e2
    go_enter Try.func16, Try.ntmps16
    go_wp2_with fail
    refine (iRead_none HX _ hs).mono ?_
    rintro e w1 ⟨rfl, hb⟩
    have HB := Lib.hid hb
    clear hb
    go_wp2_with fail
    go_ret2
    exact ⟨_, rfl, Owns.nil _ _, HB.out⟩
  · have HX := Lib.hid hx
    obtain ⟨h1, h3, _, hok, _⟩ := senT_ok hx
    obtain ⟨e1, e2⟩ := issueT_some hx
    rw [e1, e2]
    clear hx e1 e2
    go_enter Try.func16, Try.ntmps16
    go_wp2_with fail
    refine (iRead_some HX _ hs).mono ?_
    rintro e w1 ⟨p, rfl, hn, hb⟩
    have HI := Lib.hid (iIssueS t h1 h3 x p _ _ hok hn)
    have HB := Lib.hid hb
    clear hb hn
    go_wp2_with fail
    refine HI.out.mono ?_
    rintro e w2 ⟨v, rfl, ho, hb⟩
    have HO := Lib.hid (ho.base HB.out.size)
    have HB2 := Lib.hid (bel_trans HB.out hb)
    clear ho hb
    go_wp2_with fail
    go_ret2
    exact ⟨_, rfl, HO.out, HB2.out⟩

set_option maxRecDepth 100000 in
set_option maxHeartbeats 4000000 in
theorem iSupportsT (t k : Int) (s : ByteArray) (w : World) (hs : s.size ≤ 9223372036854775807) :
    Calls Try.prog 28 #[.int .i64 t, .int .i64 k, .string s] w fun e w' => e = .returned (.bool (supportsT t k s)) ∧ Below w.heap.size w w' := by
  rcases hx : senT t s with _ | x
  · have HX := Lib.hid hx
    rw [show supportsT t k s = false by unfold supportsT; rw [hx]]
    clear hx
    go_enter Try.func28, Try.ntmps28
    go_wp2_with fail
    refine (iRead_none HX _ hs).mono ?_
    rintro e w1 ⟨rfl, hb⟩
    have HB := Lib.hid hb
    clear hb
    go_wp2_with fail
    go_ret
    exact ⟨rfl, HB.out⟩
  · have HX := Lib.hid hx
    obtain ⟨h1, h3, _, hok, _⟩ := senT_ok hx
    rw [show supportsT t k s = (setOkB t k && holdsS t x k) by unfold supportsT; rw [hx]]
    clear hx
    rcases hset : setOkB t k with _ | _
    · have HS := Lib.hid hset
      rw [Bool.false_and]
      clear hset
      go_enter Try.func28, Try.ntmps28
      go_wp2_with fail
      refine (iRead_some HX _ hs).mono ?_
      rintro e w1 ⟨p, rfl, hn, hb⟩
      have HB := Lib.hid hb
      clear hb hn
      go_wp2_with fail
      refine (iSetOk_is HS _).mono ?_
      rintro e w' ⟨rfl, rfl⟩
      go_wp2_with fail
      go_ret
      exact ⟨rfl, HB.out⟩
    · have HS := Lib.hid hset
      obtain ⟨_, _, hk0, hka, _⟩ := setOkB_lt hset
      rw [Bool.true_and]
      obtain ⟨m, rfl⟩ : ∃ m : Nat, k = m := ⟨k.toNat, by omega⟩
      clear hset
      go_enter Try.func28, Try.ntmps28
      go_wp2_with fail
      refine (iRead_some HX _ hs).mono ?_
      rintro e w1 ⟨p, rfl, hn, hb⟩
      have HI := Lib.hid (iSupports t m h1 h3 hka x p _ _ hok hn)
      have HB := Lib.hid hb
      clear hb hn
      go_wp2_with fail
      refine (iSetOk_is HS _).mono ?_
      rintro e w' ⟨rfl, rfl⟩
      go_wp2_with fail
      refine HI.out.mono ?_
      rintro e w2 ⟨rfl, hb⟩
      have HB2 := Lib.hid (bel_trans HB.out hb)
      clear hb
      go_wp2_with fail
      go_ret
      exact ⟨rfl, HB2.out⟩

theorem indexAny_any : ∀ (l chars : List UInt8), Lib.containsAny l chars = l.any fun b => chars.contains b
  | [], chars => rfl
  | b :: l, chars => by
    have ih := indexAny_any l chars
    have hg := Lib.indexAny_ge chars l
    unfold Lib.containsAny at *
    rw [Lib.indexAny, List.any_cons, ← ih]
    cases h : chars.contains b
    · simp only [Bool.false_eq_true, if_false, Bool.false_or]
      by_cases h2 : Lib.indexAny l chars = -1
      · rw [h2]; rfl
      · have : (Lib.indexAny l chars == -1) = false := by rw [beq_eq_false_iff_ne]; exact h2
        rw [this]
        simp only [Bool.false_eq_true, if_false, decide_eq_decide]
        omega
    · simp
def askB (c : Nat) : Bool := decide (c = 124) || decide (c = 63)
theorem text_plain {t : Int} (h3 : t ≤ 3) : ∀ x : Sen, senOk t x = true → (textS x).any askB = !plainS x
  | .one, _ => rfl
  | .zero, _ => rfl
  | .thing i, h => by
    have : (i : Int) < t := of_decide_eq_true h
    simp [textS, plainS, askB]; omega
  | .no x, h => by
    have := text_plain h3 x h
    simp only [textS, plainS, List.any_cons, this]; rfl
  | .ask x, h => by simp [textS, plainS, askB]
  | .and_ x y, h => by
    unfold senOk at h
    rw [Bool.and_eq_true] at h
    have e1 := text_plain h3 x h.1
    have e2 := text_plain h3 y h.2
    simp only [textS, plainS, List.any_cons, List.any_append, e1, e2, List.any_nil, Bool.not_and]
    simp [askB]
  | .or_ x y, h => by simp [textS, plainS, askB]
  | .if_ x y, h => by
    unfold senOk at h
    rw [Bool.and_eq_true] at h
    have e1 := text_plain h3 x h.1
    have e2 := text_plain h3 y h.2
    simp only [textS, plainS, List.any_cons, List.any_append, e1, e2, List.any_nil, Bool.not_and]
    simp [askB]
theorem text_ascii {t : Int} (h3 : t ≤ 3) : ∀ x : Sen, senOk t x = true → ∀ c ∈ textS x, c < 128
  | .one, _ => by simp [textS]
  | .zero, _ => by simp [textS]
  | .thing i, h => by
    have : (i : Int) < t := of_decide_eq_true h
    simp [textS]; omega
  | .no x, h => by
    have := text_ascii h3 x h
    intro c hc; rcases List.mem_cons.1 hc with rfl | hc
    · omega
    · exact this c hc
  | .ask x, h => by
    have := text_ascii h3 x h
    intro c hc; rcases List.mem_cons.1 hc with rfl | hc
    · omega
    · exact this c hc
  | .and_ x y, h => by
    unfold senOk at h
    rw [Bool.and_eq_true] at h
    have e1 := text_ascii h3 x h.1
    have e2 := text_ascii h3 y h.2
    intro c hc
    simp only [textS, List.mem_cons, List.mem_append, List.not_mem_nil, or_false] at hc
    rcases hc with rfl | hc | rfl | hc | rfl <;> first | omega | exact e1 c hc | exact e2 c hc
  | .or_ x y, h => by
    unfold senOk at h
    rw [Bool.and_eq_true] at h
    have e1 := text_ascii h3 x h.1
    have e2 := text_ascii h3 y h.2
    intro c hc
    simp only [textS, List.mem_cons, List.mem_append, List.not_mem_nil, or_false] at hc
    rcases hc with rfl | hc | rfl | hc | rfl <;> first | omega | exact e1 c hc | exact e2 c hc
  | .if_ x y, h => by
    unfold senOk at h
    rw [Bool.and_eq_true] at h
    have e1 := text_ascii h3 x h.1
    have e2 := text_ascii h3 y h.2
    intro c hc
    simp only [textS, List.mem_cons, List.mem_append, List.not_mem_nil, or_false] at hc
    rcases hc with rfl | hc | rfl | hc | rfl <;> first | omega | exact e1 c hc | exact e2 c hc
theorem sen_contains {t : Int} {s : ByteArray} {x : Sen} (h : senT t s = some x) : Lib.containsAny s.data.toList (ByteArray.mk #[124, 63]).data.toList = !plainS x := by
  obtain ⟨h1, h3, _, hok, ht⟩ := senT_ok h
  rw [indexAny_any, ← text_plain h3 x hok, ← ht]
  unfold bytesN
  rw [List.any_map]
  congr 1
  funext c
  have e : ∀ k : UInt8, c = k ↔ c.toNat = k.toNat := fun k => UInt8.toNat_inj.symm
  rw [Bool.eq_iff_iff]
  simp [askB, e]
theorem sen_ascii {t : Int} {s : ByteArray} {x : Sen} (h : senT t s = some x) : ∀ (j : Nat) b, s.data.toList[j]? = some b → b.toNat < 128 := by
  obtain ⟨h1, h3, _, hok, ht⟩ := senT_ok h
  intro j b hb
  refine text_ascii h3 x hok _ ?_
  rw [← ht]
  unfold bytesN
  exact List.mem_map.2 ⟨b, List.mem_of_getElem? hb, rfl⟩
theorem iContains {t : Int} {s : ByteArray} {x : Sen} (h : senT t s = some x) (w : World) :
    Calls Try.prog 66 #[.string s, .string ⟨#[124, 63]⟩] w fun e w' => e = .returned (.bool (!plainS x)) ∧ Below w.heap.size w w' := by
  have := (senT_ok h).2.2.1
  refine (Try.strings_ContainsAny_laid s ⟨#[124, 63]⟩ w (by omega) (by decide) (sen_ascii h) ?_).mono ?_
  · intro j b hb
    have : b ∈ ([124, 63] : List UInt8) := List.mem_of_getElem? hb
    simp at this
    rcases this with rfl | rfl <;> decide
  · rintro e w' ⟨rfl, hb⟩
    exact ⟨ret_bool (sen_contains h), hb⟩

set_option maxRecDepth 100000 in
set_option maxHeartbeats 4000000 in
theorem iPlainOk (t : Int) (s : ByteArray) (w : World) (hs : s.size ≤ 9223372036854775807) :
    Calls Try.prog 34 #[.int .i64 t, .string s] w fun e w' => e = .returned (.bool (plainT t s)) ∧ Below w.heap.size w w' := by
  rcases hx : senT t s with _ | x
  · have HX := Lib.hid hx
    rw [show plainT t s = false by unfold plainT; rw [hx]]
    clear hx
    go_enter Try.func34, Try.ntmps34
    go_wp2_with fail
    refine (iRead_none HX _ hs).mono ?_
    rintro e w1 ⟨rfl, hb⟩
    have HB := Lib.hid hb
    clear hb
    go_wp2_with fail
    go_ret
    exact ⟨rfl, HB.out⟩
  · have HX := Lib.hid hx
    rw [show plainT t s = plainS x by unfold plainT; rw [hx]]
    clear hx
    go_enter Try.func34, Try.ntmps34
    go_wp2_with fail
    refine (iRead_some HX _ hs).mono ?_
    rintro e w1 ⟨p, rfl, hn, hb⟩
    have HB := Lib.hid hb
    clear hb hn
    go_wp2_with fail
    refine (iContains HX.out _).mono ?_
    rintro e w2 ⟨rfl, hb⟩
    have HB2 := Lib.hid (bel_trans HB.out hb)
    clear hb
    have hnot : ∀ (x : Bool) (w : World), (Op.unary .not (.bool x)).run Try.prog w = .ok (.bool (!x)) w := fun _ _ => rfl
    go_wp2_with fail
    go_ret
    exact ⟨ret_bool (by simp), HB2.out⟩

theorem trueTo_lt (t : Int) (x : Sen) : ∀ k, k ≤ 8 → trueTo t x k < 2 ^ k
  | 0, _ => by simp [trueTo]
  | k + 1, h => by
    have := trueTo_lt t x k (by omega)
    unfold trueTo
    rw [Nat.pow_succ]
    split <;> omega
theorem true_or {t : Int} {x : Sen} {k : Nat} (hk : k ≤ 7) (h : holdsS t x (worldS k) = true) : trueTo t x k ||| 2 ^ k = trueTo t x (k + 1) := by
  have := trueTo_lt t x k (by omega)
  conv => rhs; unfold trueTo
  have e := Nat.two_pow_add_eq_or_of_lt this 1
  rw [Nat.mul_one] at e
  rw [if_pos h, Nat.or_comm, ← e, Nat.add_comm]
theorem true_skip {t : Int} {x : Sen} {k : Nat} (h : holdsS t x (worldS k) = false) : trueTo t x k = trueTo t x (k + 1) := by
  conv => rhs; unfold trueTo
  rw [if_neg (by rw [h]; decide)]; rfl

set_option maxRecDepth 100000 in
set_option maxHeartbeats 4000000 in
theorem iTrueIn (t : Int) (s : ByteArray) (w : World) (hs : s.size ≤ 9223372036854775807) :
    Calls Try.prog 36 #[.int .i64 t, .string s] w fun e w' => e = .returned (.int .i64 (trueT t s)) ∧ Below w.heap.size w w' := by
  rcases hx : senT t s with _ | x
  · have HX := Lib.hid hx
    rw [show trueT t s = -1 by unfold trueT; rw [hx]]
    clear hx
    go_enter Try.func36, Try.ntmps36
    go_wp2_with fail
    refine (iRead_none HX _ hs).mono ?_
    rintro e w1 ⟨rfl, hb⟩
    have HB := Lib.hid hb
    clear hb
    go_wp2_with fail
    go_ret
    exact ⟨rfl, HB.out⟩
  · have HX := Lib.hid hx
    obtain ⟨h1, h3, _, hok, _⟩ := senT_ok hx
    rw [show trueT t s = (trueTo t x (nWorlds t) : Int) by unfold trueT; rw [hx]]
    obtain ⟨hw, hw8⟩ := worlds_n h1 h3
    have HW := Lib.hid hw
    clear hx hw
    go_enter Try.func36, Try.ntmps36
    go_wp2_with fail
    refine (iRead_some HX _ hs).mono ?_
    rintro e w1 ⟨p, rfl, hn, hb⟩
    have HN := Lib.hid hn
    have HB := Lib.hid hb
    clear hb hn
    go_wp2_with (go_at_call 56; refine (iWorldsOf _ _).mono ?_; rintro e w' ⟨rfl, rfl⟩)
    rw [HW.out]
    obtain ⟨n, HNW⟩ : ∃ n, Hid (nWorlds t = n) := ⟨_, rfl⟩
    rw [HNW.out] at hw8 ⊢
    go_loopw [7, 19] (fun v i wr => ∃ k : Nat, k ≤ n ∧ i = .int .i64 k ∧ v = .int .i64 (trueTo t x k) ∧ Below w1.heap.size w1 wr) (fun _ i _ => n - (Go.RowKit.intOf i).toNat)
    case atStart => exact ⟨0, Nat.zero_le _, rfl, rfl, Below.refl _ _⟩
    case round =>
      obtain ⟨k, hk, rfl, rfl, hbr⟩ := hrel
      have HBR := Lib.hid hbr
      clear hbr
      by_cases hlt : k < n
      · have hall : worldS k ≤ allOf t := (world_ok h1 h3 (by rw [HNW.out]; exact hlt)).2
        have HI : Hid (Calls Try.prog 62 #[.int .i64 t, .int .i64 ((2 ^ k : Nat) : Int), .pointer p] wr fun e w' => e = .returned (.bool (holdsS t x (worldS k))) ∧ Below wr.heap.size wr w') :=
          iSupports t (2 ^ k) h1 h3 hall x p _ _ hok (HN.out.below HBR.out)
        have h8 : k = 0 ∨ k = 1 ∨ k = 2 ∨ k = 3 ∨ k = 4 ∨ k = 5 ∨ k = 6 ∨ k = 7 := by omega
        have HLT := Lib.hid hlt
        have hlti : (k : Int) < (n : Int) := by omega
        have htl := trueTo_lt t x k (by omega)
        rcases hh : holdsS t x (worldS k) with _ | _
        · rw [hh] at HI
          have HS := Lib.hid (true_skip hh)
          clear hk hh hall hw8
          rcases h8 with rfl | rfl | rfl | rfl | rfl | rfl | rfl | rfl
          all_goals
            go_wp2_with fail
            refine HI.out.mono ?_
            rintro e w2 ⟨rfl, hb⟩
            have HB2 := Lib.hid (bel_trans HBR.out hb)
            clear hb
            go_wp2_with fail
            refine ⟨⟨_, HLT.out, rfl, by rw [HS.out], HB2.out⟩, ?_⟩
            have := HLT.out
            simp [Go.RowKit.intOf]
            omega
        · rw [hh] at HI
          have HS := Lib.hid (true_or (by omega) hh)
          obtain ⟨tv, HTV⟩ : ∃ tv, Hid (trueTo t x k = tv) := ⟨_, rfl⟩
          rw [HTV.out] at HS htl ⊢
          clear hk hh hall hw8
          rcases h8 with rfl | rfl | rfl | rfl | rfl | rfl | rfl | rfl
          all_goals
            go_wp2_with fail
            refine HI.out.mono ?_
            rintro e w2 ⟨rfl, hb⟩
            have HB2 := Lib.hid (bel_trans HBR.out hb)
            clear hb
            go_wp2_with fail
            rw [bits_or _ _ (by omega) (by simp at htl; omega) (by omega) (by omega)]
            refine ⟨⟨_, HLT.out, rfl, by rw [← HS.out]; rfl, HB2.out⟩, ?_⟩
            have := HLT.out
            simp [Go.RowKit.intOf]
            omega
      · obtain rfl : k = n := by omega
        have HB2 := Lib.hid (bel_trans HB.out HBR.out)
        go_wp2_with fail
        go_ret
        exact ⟨ret_int (by rw [HNW.out]), HB2.out⟩

set_option maxRecDepth 100000 in
set_option maxHeartbeats 4000000 in
theorem iEntailsOf (t : Int) (s u : ByteArray) (w : World) (hs : s.size ≤ 9223372036854775807) (hu : u.size ≤ 9223372036854775807) :
    Calls Try.prog 40 #[.int .i64 t, .string s, .string u] w fun e w' => e = .returned (.bool (entailsT t s u)) ∧ Below w.heap.size w w' := by
  rcases hx : senT t s with _ | x
  · have HX := Lib.hid (issueT_none hx)
    rw [show entailsT t s u = false by unfold entailsT; rw [hx]]
    clear hx
    go_enter Try.func40, Try.ntmps40
    go_wp2_with fail
    refine (iIssueOf t s _ hs).mono ?_
    rintro e w1 ⟨v, rfl, ho, hb⟩
    rw [HX.out.2]
    have HB := Lib.hid hb
    obtain ⟨A1, c1, rfl, _, _, _, _⟩ := ho.form
    clear hb ho
    go_wp2_with fail
    refine (iIssueOf t u _ hu).mono ?_
    rintro e w2 ⟨v, rfl, ho, hb⟩
    have HB2 := Lib.hid (bel_trans HB.out hb)
    obtain ⟨A2, c2, rfl, _, _, _, _⟩ := ho.form
    clear hb ho
    go_wp2_with fail
    go_ret
    exact ⟨rfl, HB2.out⟩
  · rcases hy : senT t u with _ | y
    · have HX := Lib.hid (issueT_some hx)
      have HY := Lib.hid (issueT_none hy)
      rw [show entailsT t s u = false by unfold entailsT; rw [hx, hy]]
      clear hx hy
      go_enter Try.func40, Try.ntmps40
      go_wp2_with fail
      refine (iIssueOf t s _ hs).mono ?_
      rintro e w1 ⟨v, rfl, ho, hb⟩
      rw [HX.out.2]
      have HB := Lib.hid hb
      obtain ⟨A1, c1, rfl, _, _, _, _⟩ := ho.form
      clear hb ho
      go_wp2_with fail
      refine (iIssueOf t u _ hu).mono ?_
      rintro e w2 ⟨v, rfl, ho, hb⟩
      rw [HY.out.2]
      have HB2 := Lib.hid (bel_trans HB.out hb)
      obtain ⟨A2, c2, rfl, _, _, _, _⟩ := ho.form
      clear hb ho
      go_wp2_with fail
      go_ret
      exact ⟨rfl, HB2.out⟩
    · have HX := Lib.hid (issueT_some hx)
      have HY := Lib.hid (issueT_some hy)
      obtain ⟨h1, h3, _⟩ := senT_ok hx
      have hlx := (issue_ne (sen_issue h1 h3 x)).2
      have hly := (issue_ne (sen_issue h1 h3 y)).2
      rw [show entailsT t s u = followsB t (issueS t x) (issueS t y) by unfold entailsT; rw [hx, hy]]
      obtain ⟨lx, HLX⟩ : ∃ l, Hid (issueS t x = l) := ⟨_, rfl⟩
      obtain ⟨ly, HLY⟩ : ∃ l, Hid (issueS t y = l) := ⟨_, rfl⟩
      rw [HLX.out] at hlx HX ⊢
      rw [HLY.out] at hly HY ⊢
      clear hx hy
      go_enter Try.func40, Try.ntmps40
      go_wp2_with fail
      refine (iIssueOf t s _ hs).mono ?_
      rintro e w1 ⟨v, rfl, ho, hb⟩
      rw [HX.out.2]
      rw [HX.out.1] at ho
      have HB := Lib.hid hb
      obtain ⟨A1, c1, rfl, _, _, _, _⟩ := ho.form
      have HR1 := Lib.hid (Owns.row ho (by omega))
      clear hb ho
      go_wp2_with fail
      refine (iIssueOf t u _ hu).mono ?_
      rintro e w2 ⟨v, rfl, ho, hb⟩
      rw [HY.out.2]
      rw [HY.out.1] at ho
      have HB2 := Lib.hid (bel_trans HB.out hb)
      obtain ⟨A2, c2, rfl, _, _, _, _⟩ := ho.form
      have HR2 := Lib.hid (Owns.row ho (by omega))
      replace HR1 := Lib.hid (HR1.out.below hb)
      clear hb ho
      go_wp2_with fail
      refine (iFollows t _ _ _ _ _ _ lx ly _ HR1.out HR2.out).mono ?_
      rintro e w3 ⟨rfl, q, rfl⟩
      go_wp2_with fail
      go_ret
      exact ⟨rfl, bel_drewN HB2.out _⟩
end Go.Proofs.Ytmdpolllmipppaa

namespace Go.Proofs.Ytmdpolllmipppaa
open Go.RowKit

def SNone (w : World) (e : Ending) (w' : World) : Prop := ∃ A n c, e = .returned (.tuple #[.slice A n c, .bool false, .int .i64 (-1)]) ∧ Below w.heap.size w w'
def SSome (t : Int) (s : ByteArray) (x : Sen) (rest : List Nat) (w : World) (e : Ending) (w' : World) : Prop :=
  ∃ v, ∃ a2 : Nat, e = .returned (.tuple #[v, .bool (plainS x), .int .i64 a2]) ∧ a2 ≤ s.size ∧ (bytesN s).drop a2 = rest ∧ Owns w' w.heap.size v (issueS t x) ∧ Below w.heap.size w w'
def SRead (t : Int) (s : ByteArray) (o : Option (Sen × List Nat)) (w : World) (e : Ending) (w' : World) : Prop :=
  match o with
  | some (x, rest) => SSome t s x rest w e w'
  | none => SNone w e w'
def SReads (t : Int) (k : Nat) (s : ByteArray) : Prop := ∀ (at_ : Nat) (w : World), at_ ≤ s.size → s.size - at_ ≤ k →
  Calls Try.prog 55 #[.int .i64 t, .string s, .int .i64 at_] w (SRead t s (readS t k ((bytesN s).drop at_)) w)
def OwnPost3 (g at_ : Nat) (w : World) (e : Ending) (w' : World) : Prop := ∃ v, e = .returned (.tuple #[v, .bool true, .int .i64 ((at_ + 1 : Nat) : Int)]) ∧ Owns w' w.heap.size v [(g : Int)] ∧ Below w.heap.size w w'
theorem sreads_none {t : Int} {k : Nat} {s : ByteArray} (ih : SReads t k s) {at_ : Nat} (w : World) (hle : at_ ≤ s.size) (hk : s.size - at_ ≤ k) (h : readS t k ((bytesN s).drop at_) = none) :
    Calls Try.prog 55 #[.int .i64 t, .string s, .int .i64 at_] w (SNone w) := by
  have := ih at_ w hle hk
  rw [h] at this; exact this
theorem sreads_some {t : Int} {k : Nat} {s : ByteArray} (ih : SReads t k s) {at_ : Nat} (w : World) (hle : at_ ≤ s.size) (hk : s.size - at_ ≤ k) {x : Sen} {rest : List Nat} (h : readS t k ((bytesN s).drop at_) = some (x, rest)) :
    Calls Try.prog 55 #[.int .i64 t, .string s, .int .i64 at_] w (SSome t s x rest w) := by
  have := ih at_ w hle hk
  rw [h] at this; exact this


set_option maxRecDepth 100000 in
set_option maxHeartbeats 4000000 in
theorem sRd_end (t : Int) (s : ByteArray) (at_ : Nat) (w : World) (hs : s.size ≤ 1048576) (hat : s.size ≤ at_) : Calls Try.prog 55 #[.int .i64 t, .string s, .int .i64 at_] w (SNone w) := by
  have hd : (s.size : Int) ≤ (at_ : Int) := by omega
  go_enter Try.func55, Try.ntmps55
  go_wp2_with fail
  go_ret3
  exact ⟨_, _, _, rfl, (Below.refl _ _).alloc (Nat.le_refl _) _⟩

set_option maxRecDepth 100000 in
set_option maxHeartbeats 4000000 in
theorem sRd_one (t : Int) (s : ByteArray) (at_ : Nat) (w : World) (hs : s.size ≤ 1048576) (h1 : 1 ≤ t) (h3 : t ≤ 3) (hat : at_ < s.size) (hc : s[at_].toNat = 49) : Calls Try.prog 55 #[.int .i64 t, .string s, .int .i64 at_] w (SSome t s .one ((bytesN s).drop (at_ + 1)) w) := by
  have hd : (at_ : Int) < (s.size : Int) := by omega
  have hd0 : (0 : Int) ≤ (at_ : Int) := by omega
  go_enter Try.func55, Try.ntmps55
  go_wp2_with (go_at_call 65; refine (sAll t _ h1 h3).mono ?_; rintro e w' ⟨rfl, rfl⟩)
  go_ret3
  exact ⟨_, at_ + 1, rfl, hat, rfl, Owns.lit _ _ [allOf t] (Nat.le_refl _) (by simp [maxLen]), (Below.refl _ _).alloc (Nat.le_refl _) _⟩

set_option maxRecDepth 100000 in
set_option maxHeartbeats 4000000 in
theorem sRd_zero (t : Int) (s : ByteArray) (at_ : Nat) (w : World) (hs : s.size ≤ 1048576) (hat : at_ < s.size) (hc : s[at_].toNat = 48) : Calls Try.prog 55 #[.int .i64 t, .string s, .int .i64 at_] w (SSome t s .zero ((bytesN s).drop (at_ + 1)) w) := by
  have hd : (at_ : Int) < (s.size : Int) := by omega
  have hd0 : (0 : Int) ≤ (at_ : Int) := by omega
  go_enter Try.func55, Try.ntmps55
  go_wp2_with fail
  go_ret3
  exact ⟨_, at_ + 1, rfl, hat, rfl, Owns.lit _ _ [0] (Nat.le_refl _) (by simp [maxLen]), (Below.refl _ _).alloc (Nat.le_refl _) _⟩

set_option maxRecDepth 100000 in
set_option maxHeartbeats 4000000 in
theorem sRd_bad (t : Int) (s : ByteArray) (at_ : Nat) (w : World) (hs : s.size ≤ 1048576) (h1 : 1 ≤ t) (h3 : t ≤ 3) (hat : at_ < s.size) (hb : startB t s[at_].toNat = false) : Calls Try.prog 55 #[.int .i64 t, .string s, .int .i64 at_] w (SNone w) := by
  have hd : (at_ : Int) < (s.size : Int) := by omega
  have hd0 : (0 : Int) ≤ (at_ : Int) := by omega
  obtain ⟨c, hc⟩ : ∃ c, s[at_].toNat = c := ⟨_, rfl⟩
  have hc256 : c < 256 := by rw [← hc]; exact UInt8.toNat_lt _
  rw [hc] at hb
  unfold startB at hb
  simp only [Bool.or_eq_false_iff, decide_eq_false_iff_not] at hb
  have e49 : ((c : Int) == 49) = false := by rw [beq_eq_false_iff_ne]; omega
  have e48 : ((c : Int) == 48) = false := by rw [beq_eq_false_iff_ne]; omega
  have e33 : ((c : Int) == 33) = false := by rw [beq_eq_false_iff_ne]; omega
  have e63 : ((c : Int) == 63) = false := by rw [beq_eq_false_iff_ne]; omega
  have e40 : ((c : Int) == 40) = false := by rw [beq_eq_false_iff_ne]; omega
  by_cases h97 : 97 ≤ c
  · have h97i : (97 : Int) ≤ (c : Int) := by omega
    have ht : t ≤ (c : Int) - 97 := by omega
    have hdt : decide ((c : Int) - 97 < t) = false := decide_eq_false (by omega)
    clear hb
    go_enter Try.func55, Try.ntmps55
    go_wp2_with fail
    go_ret3
    exact ⟨_, _, _, rfl, (Below.refl _ _).alloc (Nat.le_refl _) _⟩
  · have h97i : decide ((97 : Int) ≤ (c : Int)) = false := decide_eq_false (by omega)
    clear hb
    go_enter Try.func55, Try.ntmps55
    go_wp2_with fail
    go_ret3
    exact ⟨_, _, _, rfl, (Below.refl _ _).alloc (Nat.le_refl _) _⟩

set_option maxRecDepth 100000 in
set_option maxHeartbeats 4000000 in
theorem sRd_no_none (t : Int) (s : ByteArray) (at_ : Nat) (w : World) (hs : s.size ≤ 1048576) (hat : at_ < s.size) (hc : s[at_].toNat = 33) (hi : ∀ W, Calls Try.prog 55 #[.int .i64 t, .string s, .int .i64 ((at_ + 1 : Nat) : Int)] W (SNone W)) :
    Calls Try.prog 55 #[.int .i64 t, .string s, .int .i64 at_] w (SNone w) := by
  have hd : (at_ : Int) < (s.size : Int) := by omega
  have hd0 : (0 : Int) ≤ (at_ : Int) := by omega
  have HI := Lib.hid hi
  clear hi
  go_enter Try.func55, Try.ntmps55
  go_wp2_with fail
  refine (HI.out _).mono ?_
  rintro e w1 ⟨A, n, c, rfl, hb⟩
  have HB := Lib.hid hb
  clear hb
  go_wp2_with fail
  go_ret3
  exact ⟨_, _, _, rfl, HB.out⟩
set_option maxRecDepth 100000 in
set_option maxHeartbeats 4000000 in
theorem sRd_no (t : Int) (s : ByteArray) (at_ : Nat) (w : World) (hs : s.size ≤ 1048576) (hat : at_ < s.size) (hc : s[at_].toNat = 33) (x : Sen) (hl : (issueS t x).length ≤ 70) (rest : List Nat) (hi : ∀ W, Calls Try.prog 55 #[.int .i64 t, .string s, .int .i64 ((at_ + 1 : Nat) : Int)] W (SSome t s x rest W)) :
    Calls Try.prog 55 #[.int .i64 t, .string s, .int .i64 at_] w (SSome t s (.no x) rest w) := by
  have hd : (at_ : Int) < (s.size : Int) := by omega
  have hd0 : (0 : Int) ≤ (at_ : Int) := by omega
  have HI := Lib.hid hi
  clear hi
  go_enter Try.func55, Try.ntmps55
  go_wp2_with fail
  refine (HI.out _).mono ?_
  rintro e w1 ⟨v, a2, rfl, ha2, hd2, ho, hb⟩
  obtain ⟨A1, c1, rfl, _, _, _, _⟩ := ho.form
  have HB := Lib.hid hb
  have HR := Lib.hid (Owns.row ho (by omega))
  have HD := Lib.hid hd2
  clear hb ho hd2
  go_wp2_with fail
  refine (sNotIssue t _ _ _ _ _ HR.out).mono ?_
  rintro e w2 ⟨v, rfl, ho, hb⟩
  have HO := Lib.hid (ho.base HB.out.size)
  have HB2 := Lib.hid (bel_trans HB.out hb)
  clear ho hb
  go_wp2_with fail
  go_ret3
  exact ⟨_, a2, rfl, ha2, HD.out, HO.out, HB2.out⟩
set_option maxRecDepth 100000 in
set_option maxHeartbeats 4000000 in
theorem sRd_ask_none (t : Int) (s : ByteArray) (at_ : Nat) (w : World) (hs : s.size ≤ 1048576) (hat : at_ < s.size) (hc : s[at_].toNat = 63) (hi : ∀ W, Calls Try.prog 55 #[.int .i64 t, .string s, .int .i64 ((at_ + 1 : Nat) : Int)] W (SNone W)) :
    Calls Try.prog 55 #[.int .i64 t, .string s, .int .i64 at_] w (SNone w) := by
  have hd : (at_ : Int) < (s.size : Int) := by omega
  have hd0 : (0 : Int) ≤ (at_ : Int) := by omega
  have HI := Lib.hid hi
  clear hi
  go_enter Try.func55, Try.ntmps55
  go_wp2_with fail
  refine (HI.out _).mono ?_
  rintro e w1 ⟨A, n, c, rfl, hb⟩
  have HB := Lib.hid hb
  clear hb
  go_wp2_with fail
  go_ret3
  exact ⟨_, _, _, rfl, HB.out⟩
set_option maxRecDepth 100000 in
set_option maxHeartbeats 4000000 in
theorem sRd_ask (t : Int) (s : ByteArray) (at_ : Nat) (w : World) (hs : s.size ≤ 1048576) (hat : at_ < s.size) (hc : s[at_].toNat = 63) (x : Sen) (hl : (issueS t x).length ≤ 70) (rest : List Nat) (hi : ∀ W, Calls Try.prog 55 #[.int .i64 t, .string s, .int .i64 ((at_ + 1 : Nat) : Int)] W (SSome t s x rest W)) :
    Calls Try.prog 55 #[.int .i64 t, .string s, .int .i64 at_] w (SSome t s (.ask x) rest w) := by
  have hd : (at_ : Int) < (s.size : Int) := by omega
  have hd0 : (0 : Int) ≤ (at_ : Int) := by omega
  have HI := Lib.hid hi
  clear hi
  go_enter Try.func55, Try.ntmps55
  go_wp2_with fail
  refine (HI.out _).mono ?_
  rintro e w1 ⟨v, a2, rfl, ha2, hd2, ho, hb⟩
  obtain ⟨A1, c1, rfl, _, _, _, _⟩ := ho.form
  have HB := Lib.hid hb
  have HR := Lib.hid (Owns.row ho (by omega))
  have HD := Lib.hid hd2
  clear hb ho hd2
  go_wp2_with fail
  refine (sWhetherIssue t _ _ _ _ _ HR.out).mono ?_
  rintro e w2 ⟨v, rfl, ho, hb⟩
  have HO := Lib.hid (ho.base HB.out.size)
  have HB2 := Lib.hid (bel_trans HB.out hb)
  clear ho hb
  go_wp2_with fail
  go_ret3
  exact ⟨_, a2, rfl, ha2, HD.out, HO.out, HB2.out⟩

end Go.Proofs.Ytmdpolllmipppaa

namespace Go.Proofs.Ytmdpolllmipppaa
open Go.RowKit


set_option maxRecDepth 100000 in
set_option maxHeartbeats 4000000 in
theorem sRd_pair_none (t : Int) (s : ByteArray) (at_ : Nat) (w : World) (hs : s.size ≤ 1048576) (hat : at_ < s.size) (hc : s[at_].toNat = 40) (hi : ∀ W, Calls Try.prog 55 #[.int .i64 t, .string s, .int .i64 ((at_ + 1 : Nat) : Int)] W (SNone W)) :
    Calls Try.prog 55 #[.int .i64 t, .string s, .int .i64 at_] w (SNone w) := by
  have hd : (at_ : Int) < (s.size : Int) := by omega
  have hd0 : (0 : Int) ≤ (at_ : Int) := by omega
  have HI := Lib.hid hi
  clear hi
  go_enter Try.func55, Try.ntmps55
  go_wp2_with fail
  refine (HI.out _).mono ?_
  rintro e w1 ⟨A, n, c, rfl, hb⟩
  have HB := Lib.hid hb
  clear hb
  go_wp2_with fail
  go_ret3
  exact ⟨_, _, _, rfl, HB.out⟩
set_option maxRecDepth 100000 in
set_option maxHeartbeats 4000000 in
theorem sRd_pair_mid (t : Int) (s : ByteArray) (at_ : Nat) (w : World) (hs : s.size ≤ 1048576) (hat : at_ < s.size) (hc : s[at_].toNat = 40) (x : Sen) (hi : ∀ W, Calls Try.prog 55 #[.int .i64 t, .string s, .int .i64 ((at_ + 1 : Nat) : Int)] W (SSome t s x [] W)) :
    Calls Try.prog 55 #[.int .i64 t, .string s, .int .i64 at_] w (SNone w) := by
  have hd : (at_ : Int) < (s.size : Int) := by omega
  have hd0 : (0 : Int) ≤ (at_ : Int) := by omega
  have HI := Lib.hid hi
  clear hi
  go_enter Try.func55, Try.ntmps55
  go_wp2_with fail
  refine (HI.out _).mono ?_
  rintro e w1 ⟨v, a2, rfl, ha2, hd2, ho, hb⟩
  obtain ⟨A1, c1, rfl, _, _, _, _⟩ := ho.form
  obtain rfl := drop_end hd2 ha2
  have HB := Lib.hid hb
  clear hb ho hd2
  go_wp2_with fail
  go_ret3
  exact ⟨_, _, _, rfl, HB.out⟩
set_option maxRecDepth 100000 in
set_option maxHeartbeats 4000000 in
theorem sRd_pair_snd (t : Int) (s : ByteArray) (at_ : Nat) (w : World) (hs : s.size ≤ 1048576) (hat : at_ < s.size) (hc : s[at_].toNat = 40) (x : Sen) (m : Nat) (l : List Nat) (hi : ∀ W, Calls Try.prog 55 #[.int .i64 t, .string s, .int .i64 ((at_ + 1 : Nat) : Int)] W (SSome t s x (m :: l) W))
    (hi2 : ∀ (a2 : Nat) W, a2 ≤ s.size → (bytesN s).drop a2 = l → Calls Try.prog 55 #[.int .i64 t, .string s, .int .i64 a2] W (SNone W)) :
    Calls Try.prog 55 #[.int .i64 t, .string s, .int .i64 at_] w (SNone w) := by
  have hd : (at_ : Int) < (s.size : Int) := by omega
  have hd0 : (0 : Int) ≤ (at_ : Int) := by omega
  have HI := Lib.hid hi
  have HI2 := Lib.hid hi2
  clear hi hi2
  go_enter Try.func55, Try.ntmps55
  go_wp2_with fail
  refine (HI.out _).mono ?_
  rintro e w1 ⟨v, a2, rfl, ha2, hd2, ho, hb⟩
  obtain ⟨A1, c1, rfl, _, _, _, _⟩ := ho.form
  obtain ⟨hlt, hm, hl⟩ := drop_lt hd2
  have HC2 := Lib.hid (fun W => HI2.out (a2 + 1) W hlt hl)
  have HB := Lib.hid hb
  have hd3 : (a2 : Int) < (s.size : Int) := by omega
  have hd4 : (0 : Int) ≤ (a2 : Int) := by omega
  clear hb ho hd2 hl hm
  go_wp2_with fail
  refine (HC2.out _).mono ?_
  rintro e w2 ⟨A, n, c, rfl, hb⟩
  have HB2 := Lib.hid (bel_trans HB.out hb)
  clear hb
  go_wp2_with fail
  go_ret3
  exact ⟨_, _, _, rfl, HB2.out⟩
set_option maxRecDepth 100000 in
set_option maxHeartbeats 4000000 in
theorem sRd_pair_end (t : Int) (s : ByteArray) (at_ : Nat) (w : World) (hs : s.size ≤ 1048576) (hat : at_ < s.size) (hc : s[at_].toNat = 40) (x : Sen) (m : Nat) (l : List Nat) (hi : ∀ W, Calls Try.prog 55 #[.int .i64 t, .string s, .int .i64 ((at_ + 1 : Nat) : Int)] W (SSome t s x (m :: l) W)) (y : Sen)
    (hi2 : ∀ (a2 : Nat) W, a2 ≤ s.size → (bytesN s).drop a2 = l → Calls Try.prog 55 #[.int .i64 t, .string s, .int .i64 a2] W (SSome t s y [] W)) :
    Calls Try.prog 55 #[.int .i64 t, .string s, .int .i64 at_] w (SNone w) := by
  have hd : (at_ : Int) < (s.size : Int) := by omega
  have hd0 : (0 : Int) ≤ (at_ : Int) := by omega
  have HI := Lib.hid hi
  have HI2 := Lib.hid hi2
  clear hi hi2
  go_enter Try.func55, Try.ntmps55
  go_wp2_with fail
  refine (HI.out _).mono ?_
  rintro e w1 ⟨v, a2, rfl, ha2, hd2, ho, hb⟩
  obtain ⟨A1, c1, rfl, _, _, _, _⟩ := ho.form
  obtain ⟨hlt, hm, hl⟩ := drop_lt hd2
  have HC2 := Lib.hid (fun W => HI2.out (a2 + 1) W hlt hl)
  have HB := Lib.hid hb
  have hd3 : (a2 : Int) < (s.size : Int) := by omega
  have hd4 : (0 : Int) ≤ (a2 : Int) := by omega
  clear hb ho hd2 hl hm
  go_wp2_with fail
  refine (HC2.out _).mono ?_
  rintro e w2 ⟨v, a3, rfl, ha3, hd5, ho, hb⟩
  obtain ⟨A2, c2, rfl, _, _, _, _⟩ := ho.form
  obtain rfl := drop_end hd5 ha3
  have HB2 := Lib.hid (bel_trans HB.out hb)
  clear hb ho hd5
  go_wp2_with fail
  go_ret3
  exact ⟨_, _, _, rfl, HB2.out⟩
set_option maxRecDepth 100000 in
set_option maxHeartbeats 4000000 in
theorem sRd_pair_open (t : Int) (s : ByteArray) (at_ : Nat) (w : World) (hs : s.size ≤ 1048576) (hat : at_ < s.size) (hc : s[at_].toNat = 40) (x : Sen) (m : Nat) (l : List Nat) (hi : ∀ W, Calls Try.prog 55 #[.int .i64 t, .string s, .int .i64 ((at_ + 1 : Nat) : Int)] W (SSome t s x (m :: l) W)) (y : Sen) (e0 : Nat) (r : List Nat) (he : e0 ≠ 41)
    (hi2 : ∀ (a2 : Nat) W, a2 ≤ s.size → (bytesN s).drop a2 = l → Calls Try.prog 55 #[.int .i64 t, .string s, .int .i64 a2] W (SSome t s y (e0 :: r) W)) :
    Calls Try.prog 55 #[.int .i64 t, .string s, .int .i64 at_] w (SNone w) := by
  have hd : (at_ : Int) < (s.size : Int) := by omega
  have hd0 : (0 : Int) ≤ (at_ : Int) := by omega
  have HI := Lib.hid hi
  have HI2 := Lib.hid hi2
  have he1 : ((e0 : Int) == 41) = false := by rw [beq_eq_false_iff_ne]; omega
  have he2 : ((e0 : Int) != 41) = true := by rw [bne, he1]; rfl
  clear hi hi2 he
  go_enter Try.func55, Try.ntmps55
  go_wp2_with fail
  refine (HI.out _).mono ?_
  rintro e w1 ⟨v, a2, rfl, ha2, hd2, ho, hb⟩
  obtain ⟨A1, c1, rfl, _, _, _, _⟩ := ho.form
  obtain ⟨hlt, hm, hl⟩ := drop_lt hd2
  have HC2 := Lib.hid (fun W => HI2.out (a2 + 1) W hlt hl)
  have HB := Lib.hid hb
  have hd3 : (a2 : Int) < (s.size : Int) := by omega
  have hd4 : (0 : Int) ≤ (a2 : Int) := by omega
  clear hb ho hd2 hl hm
  go_wp2_with fail
  refine (HC2.out _).mono ?_
  rintro e w2 ⟨v, a3, rfl, ha3, hd5, ho, hb⟩
  obtain ⟨A2, c2, rfl, _, _, _, _⟩ := ho.form
  obtain ⟨hlt3, hm3, _⟩ := drop_lt hd5
  have HB2 := Lib.hid (bel_trans HB.out hb)
  have hd6 : (a3 : Int) < (s.size : Int) := by omega
  have hd7 : (0 : Int) ≤ (a3 : Int) := by omega
  clear hb ho hd5
  go_wp2_with fail
  go_ret3
  exact ⟨_, _, _, rfl, HB2.out⟩
set_option maxRecDepth 100000 in
set_option maxHeartbeats 4000000 in
theorem sRd_pair_sign (t : Int) (s : ByteArray) (at_ : Nat) (w : World) (hs : s.size ≤ 1048576) (hat : at_ < s.size) (hc : s[at_].toNat = 40) (x : Sen) (m : Nat) (l : List Nat) (hi : ∀ W, Calls Try.prog 55 #[.int .i64 t, .string s, .int .i64 ((at_ + 1 : Nat) : Int)] W (SSome t s x (m :: l) W)) (y : Sen) (r : List Nat)
    (hm : (decide (m = 38) || decide (m = 124) || decide (m = 62)) = false)
    (hi2 : ∀ (a2 : Nat) W, a2 ≤ s.size → (bytesN s).drop a2 = l → Calls Try.prog 55 #[.int .i64 t, .string s, .int .i64 a2] W (SSome t s y (41 :: r) W)) :
    Calls Try.prog 55 #[.int .i64 t, .string s, .int .i64 at_] w (SNone w) := by
  have hd : (at_ : Int) < (s.size : Int) := by omega
  have hd0 : (0 : Int) ≤ (at_ : Int) := by omega
  have HI := Lib.hid hi
  have HI2 := Lib.hid hi2
  simp only [Bool.or_eq_false_iff, decide_eq_false_iff_not] at hm
  have e1 : ((m : Int) == 38) = false := by rw [beq_eq_false_iff_ne]; omega
  have e2 : ((m : Int) == 124) = false := by rw [beq_eq_false_iff_ne]; omega
  have e3 : ((m : Int) == 62) = false := by rw [beq_eq_false_iff_ne]; omega
  clear hi hi2 hm
  go_enter Try.func55, Try.ntmps55
  go_wp2_with fail
  refine (HI.out _).mono ?_
  rintro e w1 ⟨v, a2, rfl, ha2, hd2, ho, hb⟩
  obtain ⟨A1, c1, rfl, _, _, _, _⟩ := ho.form
  obtain ⟨hlt, hm, hl⟩ := drop_lt hd2
  have HC2 := Lib.hid (fun W => HI2.out (a2 + 1) W hlt hl)
  have HB := Lib.hid hb
  have hd3 : (a2 : Int) < (s.size : Int) := by omega
  have hd4 : (0 : Int) ≤ (a2 : Int) := by omega
  clear hb ho hd2 hl
  go_wp2_with fail
  refine (HC2.out _).mono ?_
  rintro e w2 ⟨v, a3, rfl, ha3, hd5, ho, hb⟩
  obtain ⟨A2, c2, rfl, _, _, _, _⟩ := ho.form
  obtain ⟨hlt3, hm3, _⟩ := drop_lt hd5
  have HB2 := Lib.hid (bel_trans HB.out hb)
  have hd6 : (a3 : Int) < (s.size : Int) := by omega
  have hd7 : (0 : Int) ≤ (a3 : Int) := by omega
  clear hb ho hd5
  go_wp2_with fail
  go_ret3
  exact ⟨_, _, _, rfl, HB2.out.alloc HB2.out.size _⟩
end Go.Proofs.Ytmdpolllmipppaa

namespace Go.Proofs.Ytmdpolllmipppaa
open Go.RowKit


set_option maxRecDepth 100000 in
set_option maxHeartbeats 4000000 in
theorem sRd_pair_and_ (t : Int) (s : ByteArray) (at_ : Nat) (w : World) (hs : s.size ≤ 1048576) (hat : at_ < s.size) (hc : s[at_].toNat = 40) (x : Sen) (l : List Nat) (hi : ∀ W, Calls Try.prog 55 #[.int .i64 t, .string s, .int .i64 ((at_ + 1 : Nat) : Int)] W (SSome t s x (38 :: l) W)) (y : Sen) (r : List Nat) (hlx : (issueS t x).length ≤ 70) (hly : (issueS t y).length ≤ 70)
    (hi2 : ∀ (a2 : Nat) W, a2 ≤ s.size → (bytesN s).drop a2 = l → Calls Try.prog 55 #[.int .i64 t, .string s, .int .i64 a2] W (SSome t s y (41 :: r) W)) :
    Calls Try.prog 55 #[.int .i64 t, .string s, .int .i64 at_] w (SSome t s (.and_ x y) r w) := by
  have hd : (at_ : Int) < (s.size : Int) := by omega
  have hd0 : (0 : Int) ≤ (at_ : Int) := by omega
  have HI := Lib.hid hi
  have HI2 := Lib.hid hi2
  obtain ⟨px, HPX⟩ : ∃ b, Hid (plainS x = b) := ⟨_, rfl⟩
  obtain ⟨py, HPY⟩ : ∃ b, Hid (plainS y = b) := ⟨_, rfl⟩
  clear hi hi2
  cases px
  all_goals
    go_enter Try.func55, Try.ntmps55
    go_wp2_with fail
    refine (HI.out _).mono ?_
    rintro e w1 ⟨v, a2, rfl, ha2, hd2, ho, hb⟩
    rw [HPX.out]
    obtain ⟨A1, c1, rfl, _, _, _, _⟩ := ho.form
    obtain ⟨hlt, hm, hl⟩ := drop_lt hd2
    have HC2 := Lib.hid (fun W => HI2.out (a2 + 1) W hlt hl)
    have HR1 := Lib.hid (Owns.row ho (by omega))
    have HB := Lib.hid hb
    have hd3 : (a2 : Int) < (s.size : Int) := by omega
    have hd4 : (0 : Int) ≤ (a2 : Int) := by omega
    clear hb ho hd2 hl
    go_wp2_with fail
    refine (HC2.out _).mono ?_
    rintro e w2 ⟨v, a3, rfl, ha3, hd5, ho, hb⟩
    rw [HPY.out]
    obtain ⟨A2, c2, rfl, _, _, _, _⟩ := ho.form
    obtain ⟨hlt3, hm3, hl3⟩ := drop_lt hd5
    have HB2 := Lib.hid (bel_trans HB.out hb)
    have HR2 := Lib.hid (Owns.row ho (by omega))
    replace HR1 := Lib.hid (HR1.out.below hb)
    have HL3 := Lib.hid hl3
    have hd6 : (a3 : Int) < (s.size : Int) := by omega
    have hd7 : (0 : Int) ≤ (a3 : Int) := by omega
    clear hb ho hd5 hl3
    go_wp2_with fail
    refine (sBothIssues t _ _ _ _ _ _ _ _ _ HR1.out HR2.out).mono ?_
    rintro e w3 ⟨v, rfl, ho, hb⟩
    have HO := Lib.hid (ho.base HB2.out.size)
    have HB3 := Lib.hid (bel_trans HB2.out hb)
    clear ho hb
    go_wp2_with fail
    go_ret3
    exact ⟨_, a3 + 1, by unfold plainS; first | (rw [HPX.out, HPY.out]; rfl) | (rw [HPX.out]; rfl) | rfl, hlt3, HL3.out, HO.out, HB3.out⟩
set_option maxRecDepth 100000 in
set_option maxHeartbeats 4000000 in
theorem sRd_pair_or_ (t : Int) (s : ByteArray) (at_ : Nat) (w : World) (hs : s.size ≤ 1048576) (hat : at_ < s.size) (hc : s[at_].toNat = 40) (x : Sen) (l : List Nat) (hi : ∀ W, Calls Try.prog 55 #[.int .i64 t, .string s, .int .i64 ((at_ + 1 : Nat) : Int)] W (SSome t s x (124 :: l) W)) (y : Sen) (r : List Nat) (hlx : (issueS t x).length ≤ 70) (hly : (issueS t y).length ≤ 70)
    (hi2 : ∀ (a2 : Nat) W, a2 ≤ s.size → (bytesN s).drop a2 = l → Calls Try.prog 55 #[.int .i64 t, .string s, .int .i64 a2] W (SSome t s y (41 :: r) W)) :
    Calls Try.prog 55 #[.int .i64 t, .string s, .int .i64 at_] w (SSome t s (.or_ x y) r w) := by
  have hd : (at_ : Int) < (s.size : Int) := by omega
  have hd0 : (0 : Int) ≤ (at_ : Int) := by omega
  have HI := Lib.hid hi
  have HI2 := Lib.hid hi2
  obtain ⟨px, HPX⟩ : ∃ b, Hid (plainS x = b) := ⟨_, rfl⟩
  obtain ⟨py, HPY⟩ : ∃ b, Hid (plainS y = b) := ⟨_, rfl⟩
  clear hi hi2
  cases px
  all_goals
    go_enter Try.func55, Try.ntmps55
    go_wp2_with fail
    refine (HI.out _).mono ?_
    rintro e w1 ⟨v, a2, rfl, ha2, hd2, ho, hb⟩
    rw [HPX.out]
    obtain ⟨A1, c1, rfl, _, _, _, _⟩ := ho.form
    obtain ⟨hlt, hm, hl⟩ := drop_lt hd2
    have HC2 := Lib.hid (fun W => HI2.out (a2 + 1) W hlt hl)
    have HR1 := Lib.hid (Owns.row ho (by omega))
    have HB := Lib.hid hb
    have hd3 : (a2 : Int) < (s.size : Int) := by omega
    have hd4 : (0 : Int) ≤ (a2 : Int) := by omega
    clear hb ho hd2 hl
    go_wp2_with fail
    refine (HC2.out _).mono ?_
    rintro e w2 ⟨v, a3, rfl, ha3, hd5, ho, hb⟩
    rw [HPY.out]
    obtain ⟨A2, c2, rfl, _, _, _, _⟩ := ho.form
    obtain ⟨hlt3, hm3, hl3⟩ := drop_lt hd5
    have HB2 := Lib.hid (bel_trans HB.out hb)
    have HR2 := Lib.hid (Owns.row ho (by omega))
    replace HR1 := Lib.hid (HR1.out.below hb)
    have HL3 := Lib.hid hl3
    have hd6 : (a3 : Int) < (s.size : Int) := by omega
    have hd7 : (0 : Int) ≤ (a3 : Int) := by omega
    clear hb ho hd5 hl3
    go_wp2_with fail
    refine (sEitherIssue t _ _ _ _ _ _ _ _ _ HR1.out HR2.out).mono ?_
    rintro e w3 ⟨v, rfl, ho, hb⟩
    have HO := Lib.hid (ho.base HB2.out.size)
    have HB3 := Lib.hid (bel_trans HB2.out hb)
    clear ho hb
    go_wp2_with fail
    go_ret3
    exact ⟨_, a3 + 1, by unfold plainS; first | (rw [HPX.out, HPY.out]; rfl) | (rw [HPX.out]; rfl) | rfl, hlt3, HL3.out, HO.out, HB3.out⟩
set_option maxRecDepth 100000 in
set_option maxHeartbeats 4000000 in
theorem sRd_pair_if_ (t : Int) (s : ByteArray) (at_ : Nat) (w : World) (hs : s.size ≤ 1048576) (hat : at_ < s.size) (hc : s[at_].toNat = 40) (x : Sen) (l : List Nat) (hi : ∀ W, Calls Try.prog 55 #[.int .i64 t, .string s, .int .i64 ((at_ + 1 : Nat) : Int)] W (SSome t s x (62 :: l) W)) (y : Sen) (r : List Nat) (hlx : (issueS t x).length ≤ 70) (hly : (issueS t y).length ≤ 70)
    (hi2 : ∀ (a2 : Nat) W, a2 ≤ s.size → (bytesN s).drop a2 = l → Calls Try.prog 55 #[.int .i64 t, .string s, .int .i64 a2] W (SSome t s y (41 :: r) W)) :
    Calls Try.prog 55 #[.int .i64 t, .string s, .int .i64 at_] w (SSome t s (.if_ x y) r w) := by
  have hd : (at_ : Int) < (s.size : Int) := by omega
  have hd0 : (0 : Int) ≤ (at_ : Int) := by omega
  have HI := Lib.hid hi
  have HI2 := Lib.hid hi2
  obtain ⟨px, HPX⟩ : ∃ b, Hid (plainS x = b) := ⟨_, rfl⟩
  obtain ⟨py, HPY⟩ : ∃ b, Hid (plainS y = b) := ⟨_, rfl⟩
  clear hi hi2
  cases px
  all_goals
    go_enter Try.func55, Try.ntmps55
    go_wp2_with fail
    refine (HI.out _).mono ?_
    rintro e w1 ⟨v, a2, rfl, ha2, hd2, ho, hb⟩
    rw [HPX.out]
    obtain ⟨A1, c1, rfl, _, _, _, _⟩ := ho.form
    obtain ⟨hlt, hm, hl⟩ := drop_lt hd2
    have HC2 := Lib.hid (fun W => HI2.out (a2 + 1) W hlt hl)
    have HR1 := Lib.hid (Owns.row ho (by omega))
    have HB := Lib.hid hb
    have hd3 : (a2 : Int) < (s.size : Int) := by omega
    have hd4 : (0 : Int) ≤ (a2 : Int) := by omega
    clear hb ho hd2 hl
    go_wp2_with fail
    refine (HC2.out _).mono ?_
    rintro e w2 ⟨v, a3, rfl, ha3, hd5, ho, hb⟩
    rw [HPY.out]
    obtain ⟨A2, c2, rfl, _, _, _, _⟩ := ho.form
    obtain ⟨hlt3, hm3, hl3⟩ := drop_lt hd5
    have HB2 := Lib.hid (bel_trans HB.out hb)
    have HR2 := Lib.hid (Owns.row ho (by omega))
    replace HR1 := Lib.hid (HR1.out.below hb)
    have HL3 := Lib.hid hl3
    have hd6 : (a3 : Int) < (s.size : Int) := by omega
    have hd7 : (0 : Int) ≤ (a3 : Int) := by omega
    clear hb ho hd5 hl3
    go_wp2_with fail
    refine (sIfIssue t _ _ _ _ _ _ _ _ _ HR1.out HR2.out).mono ?_
    rintro e w3 ⟨v, rfl, ho, hb⟩
    have HO := Lib.hid (ho.base HB2.out.size)
    have HB3 := Lib.hid (bel_trans HB2.out hb)
    clear ho hb
    go_wp2_with fail
    go_ret3
    exact ⟨_, a3 + 1, by unfold plainS; first | (rw [HPX.out, HPY.out]; rfl) | (rw [HPX.out]; rfl) | rfl, hlt3, HL3.out, HO.out, HB3.out⟩
end Go.Proofs.Ytmdpolllmipppaa

namespace Go.Proofs.Ytmdpolllmipppaa
open Go.RowKit

set_option maxRecDepth 100000 in
set_option maxHeartbeats 8000000 in
theorem sRd_letter (t : Int) (s : ByteArray) (at_ : Nat) (w : World) (hs : s.size ≤ 1048576) (hat : at_ < s.size) (i : Nat) (hc : s[at_].toNat = 97 + i) (h1 : 1 ≤ t) (h3 : t ≤ 3) (hi : (i : Int) < t) :
    Calls Try.prog 55 #[.int .i64 t, .string s, .int .i64 at_] w (OwnPost3 (wordTo (97 + i) (nWorlds t)) at_ w) := by
  have hd : (at_ : Int) < (s.size : Int) := by omega
  have hd0 : (0 : Int) ≤ (at_ : Int) := by omega
  have h : (t = 1 ∧ i = 0) ∨ (t = 2 ∧ i = 0) ∨ (t = 2 ∧ i = 1) ∨ (t = 3 ∧ i = 0) ∨ (t = 3 ∧ i = 1) ∨ (t = 3 ∧ i = 2) := by omega
  clear h1 h3 hi
  rcases h with ⟨rfl, rfl⟩ | ⟨rfl, rfl⟩ | ⟨rfl, rfl⟩ | ⟨rfl, rfl⟩ | ⟨rfl, rfl⟩ | ⟨rfl, rfl⟩
  · have hc : s[at_].toNat = 97 := hc
    have hb : Hid (∀ k : Nat, k < 2 → k = 0 ∨ k = 1 ∨ k = 2 ∨ k = 3 ∨ k = 4 ∨ k = 5 ∨ k = 6 ∨ k = 7) := fun k hk => by omega
    go_enter Try.func55, Try.ntmps55
    go_wp2_with fail
    go_loop [9, 10] (fun v i => ∃ k : Nat, k ≤ 2 ∧ i = .int .i64 k ∧ v = .int .i64 (wordTo 97 k)) (fun _ i => 2 - (Go.RowKit.intOf i).toNat)
    case atStart => exact ⟨0, Nat.zero_le _, rfl, rfl⟩
    case round =>
      obtain ⟨k, hk, rfl, rfl⟩ := hrel
      by_cases hlt : k < 2
      · have h8 := hb.out k hlt
        clear hk
        rcases h8 with rfl | rfl | rfl | rfl | rfl | rfl | rfl | rfl
        all_goals first
          | (exfalso; revert hlt; decide)
          | (clear hlt
             go_wp2_with fail
             exact ⟨⟨_, by decide, rfl, by first | rfl | (rw [IntWalk.wrap64_in _ ⟨by decide, by decide⟩]; rfl)⟩, by decide⟩)
      · obtain rfl : k = 2 := by omega
        go_wp2_with fail
        go_ret3
        exact ⟨_, rfl, Owns.lit _ _ [((wordTo 97 2 : Nat) : Int)] (Nat.le_refl _) (by simp [maxLen]), (Below.refl _ _).alloc (Nat.le_refl _) _⟩
  · have hc : s[at_].toNat = 97 := hc
    have hb : Hid (∀ k : Nat, k < 4 → k = 0 ∨ k = 1 ∨ k = 2 ∨ k = 3 ∨ k = 4 ∨ k = 5 ∨ k = 6 ∨ k = 7) := fun k hk => by omega
    go_enter Try.func55, Try.ntmps55
    go_wp2_with fail
    go_loop [9, 10] (fun v i => ∃ k : Nat, k ≤ 4 ∧ i = .int .i64 k ∧ v = .int .i64 (wordTo 97 k)) (fun _ i => 4 - (Go.RowKit.intOf i).toNat)
    case atStart => exact ⟨0, Nat.zero_le _, rfl, rfl⟩
    case round =>
      obtain ⟨k, hk, rfl, rfl⟩ := hrel
      by_cases hlt : k < 4
      · have h8 := hb.out k hlt
        clear hk
        rcases h8 with rfl | rfl | rfl | rfl | rfl | rfl | rfl | rfl
        all_goals first
          | (exfalso; revert hlt; decide)
          | (clear hlt
             go_wp2_with fail
             exact ⟨⟨_, by decide, rfl, by first | rfl | (rw [IntWalk.wrap64_in _ ⟨by decide, by decide⟩]; rfl)⟩, by decide⟩)
      · obtain rfl : k = 4 := by omega
        go_wp2_with fail
        go_ret3
        exact ⟨_, rfl, Owns.lit _ _ [((wordTo 97 4 : Nat) : Int)] (Nat.le_refl _) (by simp [maxLen]), (Below.refl _ _).alloc (Nat.le_refl _) _⟩
  · have hc : s[at_].toNat = 98 := hc
    have hb : Hid (∀ k : Nat, k < 4 → k = 0 ∨ k = 1 ∨ k = 2 ∨ k = 3 ∨ k = 4 ∨ k = 5 ∨ k = 6 ∨ k = 7) := fun k hk => by omega
    go_enter Try.func55, Try.ntmps55
    go_wp2_with fail
    go_loop [9, 10] (fun v i => ∃ k : Nat, k ≤ 4 ∧ i = .int .i64 k ∧ v = .int .i64 (wordTo 98 k)) (fun _ i => 4 - (Go.RowKit.intOf i).toNat)
    case atStart => exact ⟨0, Nat.zero_le _, rfl, rfl⟩
    case round =>
      obtain ⟨k, hk, rfl, rfl⟩ := hrel
      by_cases hlt : k < 4
      · have h8 := hb.out k hlt
        clear hk
        rcases h8 with rfl | rfl | rfl | rfl | rfl | rfl | rfl | rfl
        all_goals first
          | (exfalso; revert hlt; decide)
          | (clear hlt
             go_wp2_with fail
             exact ⟨⟨_, by decide, rfl, by first | rfl | (rw [IntWalk.wrap64_in _ ⟨by decide, by decide⟩]; rfl)⟩, by decide⟩)
      · obtain rfl : k = 4 := by omega
        go_wp2_with fail
        go_ret3
        exact ⟨_, rfl, Owns.lit _ _ [((wordTo 98 4 : Nat) : Int)] (Nat.le_refl _) (by simp [maxLen]), (Below.refl _ _).alloc (Nat.le_refl _) _⟩
  · have hc : s[at_].toNat = 97 := hc
    have hb : Hid (∀ k : Nat, k < 8 → k = 0 ∨ k = 1 ∨ k = 2 ∨ k = 3 ∨ k = 4 ∨ k = 5 ∨ k = 6 ∨ k = 7) := fun k hk => by omega
    go_enter Try.func55, Try.ntmps55
    go_wp2_with fail
    go_loop [9, 10] (fun v i => ∃ k : Nat, k ≤ 8 ∧ i = .int .i64 k ∧ v = .int .i64 (wordTo 97 k)) (fun _ i => 8 - (Go.RowKit.intOf i).toNat)
    case atStart => exact ⟨0, Nat.zero_le _, rfl, rfl⟩
    case round =>
      obtain ⟨k, hk, rfl, rfl⟩ := hrel
      by_cases hlt : k < 8
      · have h8 := hb.out k hlt
        clear hk
        rcases h8 with rfl | rfl | rfl | rfl | rfl | rfl | rfl | rfl
        all_goals first
          | (exfalso; revert hlt; decide)
          | (clear hlt
             go_wp2_with fail
             exact ⟨⟨_, by decide, rfl, by first | rfl | (rw [IntWalk.wrap64_in _ ⟨by decide, by decide⟩]; rfl)⟩, by decide⟩)
      · obtain rfl : k = 8 := by omega
        go_wp2_with fail
        go_ret3
        exact ⟨_, rfl, Owns.lit _ _ [((wordTo 97 8 : Nat) : Int)] (Nat.le_refl _) (by simp [maxLen]), (Below.refl _ _).alloc (Nat.le_refl _) _⟩
  · have hc : s[at_].toNat = 98 := hc
    have hb : Hid (∀ k : Nat, k < 8 → k = 0 ∨ k = 1 ∨ k = 2 ∨ k = 3 ∨ k = 4 ∨ k = 5 ∨ k = 6 ∨ k = 7) := fun k hk => by omega
    go_enter Try.func55, Try.ntmps55
    go_wp2_with fail
    go_loop [9, 10] (fun v i => ∃ k : Nat, k ≤ 8 ∧ i = .int .i64 k ∧ v = .int .i64 (wordTo 98 k)) (fun _ i => 8 - (Go.RowKit.intOf i).toNat)
    case atStart => exact ⟨0, Nat.zero_le _, rfl, rfl⟩
    case round =>
      obtain ⟨k, hk, rfl, rfl⟩ := hrel
      by_cases hlt : k < 8
      · have h8 := hb.out k hlt
        clear hk
        rcases h8 with rfl | rfl | rfl | rfl | rfl | rfl | rfl | rfl
        all_goals first
          | (exfalso; revert hlt; decide)
          | (clear hlt
             go_wp2_with fail
             exact ⟨⟨_, by decide, rfl, by first | rfl | (rw [IntWalk.wrap64_in _ ⟨by decide, by decide⟩]; rfl)⟩, by decide⟩)
      · obtain rfl : k = 8 := by omega
        go_wp2_with fail
        go_ret3
        exact ⟨_, rfl, Owns.lit _ _ [((wordTo 98 8 : Nat) : Int)] (Nat.le_refl _) (by simp [maxLen]), (Below.refl _ _).alloc (Nat.le_refl _) _⟩
  · have hc : s[at_].toNat = 99 := hc
    have hb : Hid (∀ k : Nat, k < 8 → k = 0 ∨ k = 1 ∨ k = 2 ∨ k = 3 ∨ k = 4 ∨ k = 5 ∨ k = 6 ∨ k = 7) := fun k hk => by omega
    go_enter Try.func55, Try.ntmps55
    go_wp2_with fail
    go_loop [9, 10] (fun v i => ∃ k : Nat, k ≤ 8 ∧ i = .int .i64 k ∧ v = .int .i64 (wordTo 99 k)) (fun _ i => 8 - (Go.RowKit.intOf i).toNat)
    case atStart => exact ⟨0, Nat.zero_le _, rfl, rfl⟩
    case round =>
      obtain ⟨k, hk, rfl, rfl⟩ := hrel
      by_cases hlt : k < 8
      · have h8 := hb.out k hlt
        clear hk
        rcases h8 with rfl | rfl | rfl | rfl | rfl | rfl | rfl | rfl
        all_goals first
          | (exfalso; revert hlt; decide)
          | (clear hlt
             go_wp2_with fail
             exact ⟨⟨_, by decide, rfl, by first | rfl | (rw [IntWalk.wrap64_in _ ⟨by decide, by decide⟩]; rfl)⟩, by decide⟩)
      · obtain rfl : k = 8 := by omega
        go_wp2_with fail
        go_ret3
        exact ⟨_, rfl, Owns.lit _ _ [((wordTo 99 8 : Nat) : Int)] (Nat.le_refl _) (by simp [maxLen]), (Below.refl _ _).alloc (Nat.le_refl _) _⟩
end Go.Proofs.Ytmdpolllmipppaa

namespace Go.Proofs.Ytmdpolllmipppaa
open Go.RowKit

def SHold (t : Int) (s : ByteArray) (x : Sen) (rest : List Nat) (m : Nat) (w : World) (e : Ending) (w' : World) : Prop :=
  ∃ a2 : Nat, e = .returned (.tuple #[.bool (holdsS t x m), .int .i64 a2]) ∧ a2 ≤ s.size ∧ (bytesN s).drop a2 = rest ∧ ∃ q, w' = w.drewN q
def allTo (f : Nat → Bool) (k : Nat) : Bool := (List.range k).all f
theorem allTo_succ (f : Nat → Bool) (k : Nat) : allTo f (k + 1) = (allTo f k && f k) := by
  unfold allTo; rw [List.range_succ, List.all_append]; simp
theorem allTo_zero (f : Nat → Bool) : allTo f 0 = true := rfl
theorem hasW_div (m k : Nat) : hasW (m : Int) k = decide (m / 2 ^ k % 2 = 1) := by
  unfold hasW; rw [Int.toNat_natCast, Nat.testBit_eq_decide_div_mod_eq]
theorem has_walk {m k : Nat} {b : Bool} (h : hasW (m : Int) k = b) : (((m : Int) / 2 ^ k).tmod 2 == 0) = !b := by
  have e4 : (2 : Int) ^ k = ((2 ^ k : Nat) : Int) := by push_cast; rfl
  rw [e4, tmod2_nat]
  rw [hasW_div] at h
  subst h
  rcases Nat.mod_two_eq_zero_or_one (m / 2 ^ k) with h | h <;> rw [h] <;> rfl
theorem bit_walk (i k : Nat) (d : Int) (hd : d = ((2 ^ i : Nat) : Int)) : ((k : Int) / d % 2 == 1) = bitOf (97 + i) k := by
  subst hd
  rw [show (k : Int) / ((2 ^ i : Nat) : Int) % 2 = ((k / 2 ^ i % 2 : Nat) : Int) by push_cast; rfl]
  unfold bitOf
  rw [decide_eq_false (by omega : ¬ 97 + i = 49), decide_eq_false (by omega : ¬ 97 + i = 48), show 97 + i - 97 = i by omega]
  rcases Nat.mod_two_eq_zero_or_one (k / 2 ^ i) with h | h <;> rw [h] <;> rfl
theorem wordTo_bit (c : Nat) : ∀ n w, (wordTo c n).testBit w = (decide (w < n) && bitOf c w)
  | 0, w => by simp [wordTo]
  | n + 1, w => by
    have ih := wordTo_bit c n w
    unfold wordTo
    rw [Nat.testBit_or, ih]
    by_cases e : w = n
    · subst e
      cases h : bitOf c w
      · simp
      · simp
    · have h2 : (if bitOf c n = true then 2 ^ n else 0).testBit w = false := by
        split
        · rw [Nat.testBit_two_pow]; simp; omega
        · simp
      rw [h2]
      cases bitOf c w
      · simp
      · simp; omega
theorem thing_all {t : Int} {i m : Nat} (h1 : 1 ≤ t) (h3 : t ≤ 3) (hi : (i : Int) < t) (hm : (m : Int) ≤ allOf t) : holdsS t (.thing i) m = allTo (fun w => !hasW (m : Int) w || bitOf (97 + i) w) (nWorlds t) := by
  show withinB (m : Int) (letterSet t i) = _
  rw [← word_thing h1 h3 hi, Bool.eq_iff_iff, within_iff (by omega)]
  unfold allTo
  rw [List.all_eq_true]
  constructor
  · intro h w hw
    have := h w
    rw [Int.toNat_natCast, Int.toNat_natCast, wordTo_bit] at this
    unfold hasW
    rw [Int.toNat_natCast]
    cases hb : m.testBit w
    · rfl
    · have := this hb
      rw [Bool.and_eq_true] at this
      rw [this.2]; rfl
  · intro h w hb
    have hlt := has_lt h1 h3 (s := (m : Int)) (by omega) hm (w := w) hb
    have := h w (List.mem_range.2 hlt)
    unfold hasW at this
    rw [hb] at this
    rw [Int.toNat_natCast, wordTo_bit, decide_eq_true hlt]
    simpa using this


set_option maxRecDepth 100000 in
set_option maxHeartbeats 4000000 in
theorem sHo_one (t : Int) (s : ByteArray) (at_ m : Nat) (w : World) (hs : s.size ≤ 1048576) (hat : at_ < s.size) (hc : s[at_].toNat = 49) : Calls Try.prog 63 #[.int .i64 t, .string s, .int .i64 at_, .int .i64 m] w (SHold t s .one ((bytesN s).drop (at_ + 1)) m w) := by
  have hd : (at_ : Int) < (s.size : Int) := by omega
  have hd0 : (0 : Int) ≤ (at_ : Int) := by omega
  go_enter Try.func63, Try.ntmps63
  go_wp2_with fail
  go_ret2
  exact ⟨at_ + 1, rfl, hat, rfl, 0, rfl⟩
set_option maxRecDepth 100000 in
set_option maxHeartbeats 4000000 in
theorem sHo_zero (t : Int) (s : ByteArray) (at_ m : Nat) (w : World) (hs : s.size ≤ 1048576) (hat : at_ < s.size) (hc : s[at_].toNat = 48) : Calls Try.prog 63 #[.int .i64 t, .string s, .int .i64 at_, .int .i64 m] w (SHold t s .zero ((bytesN s).drop (at_ + 1)) m w) := by
  have hd : (at_ : Int) < (s.size : Int) := by omega
  have hd0 : (0 : Int) ≤ (at_ : Int) := by omega
  have he : ((m : Int) == 0) = holdsS t .zero m := rfl
  obtain ⟨b, HB⟩ : ∃ b, Hid (holdsS t .zero m = b) := ⟨_, rfl⟩
  rw [HB.out] at he
  go_enter Try.func63, Try.ntmps63
  go_wp2_with fail
  go_ret2
  exact ⟨at_ + 1, by rw [HB.out]; rfl, hat, rfl, 0, rfl⟩

set_option maxRecDepth 100000 in
set_option maxHeartbeats 8000000 in
theorem sHo_thing (t : Int) (s : ByteArray) (at_ m : Nat) (w : World) (hs : s.size ≤ 1048576) (i : Nat) (hat : at_ < s.size) (hc : s[at_].toNat = 97 + i) (h1 : 1 ≤ t) (h3 : t ≤ 3) (hi : (i : Int) < t) (hm : (m : Int) ≤ allOf t) :
    Calls Try.prog 63 #[.int .i64 t, .string s, .int .i64 at_, .int .i64 m] w (SHold t s (.thing i) ((bytesN s).drop (at_ + 1)) m w) := by
  have hd : (at_ : Int) < (s.size : Int) := by omega
  have hd0 : (0 : Int) ≤ (at_ : Int) := by omega
  have HF := Lib.hid (thing_all h1 h3 hi hm)
  have h : (t = 1 ∧ i = 0) ∨ (t = 2 ∧ i = 0) ∨ (t = 2 ∧ i = 1) ∨ (t = 3 ∧ i = 0) ∨ (t = 3 ∧ i = 1) ∨ (t = 3 ∧ i = 2) := by omega
  have hm256 : m < 256 := by have := (allOf_lt t).2; omega
  clear h1 h3 hi hm
  rcases h with ⟨rfl, rfl⟩ | ⟨rfl, rfl⟩ | ⟨rfl, rfl⟩ | ⟨rfl, rfl⟩ | ⟨rfl, rfl⟩ | ⟨rfl, rfl⟩
  · have hc : s[at_].toNat = 97 := hc
    have HF : Hid (holdsS 1 (.thing 0) m = allTo (fun w => !hasW (m : Int) w || bitOf 97 w) 2) := HF.out
    obtain ⟨F, HFF⟩ : ∃ F : Nat → Bool, Hid ((fun w => !hasW (m : Int) w || bitOf 97 w) = F) := ⟨_, rfl⟩
    rw [HFF.out] at HF
    have HS := Lib.hid (allTo_succ F)
    go_enter Try.func63, Try.ntmps63
    go_wp2_with fail
    go_loop [10, 11] (fun v i => ∃ k : Nat, k ≤ 2 ∧ i = .int .i64 k ∧ v = .bool (allTo F k)) (fun _ i => 2 - (Go.RowKit.intOf i).toNat)
    case atStart => exact ⟨0, Nat.zero_le _, rfl, rfl⟩
    case round =>
      obtain ⟨k, hk, rfl, rfl⟩ := hrel
      by_cases hlt : k < 2
      · have HK := Lib.hid (HS.out k)
        have HW := Lib.hid (congrFun HFF.out k)
        obtain ⟨y, HY⟩ : ∃ y, Hid (allTo F k = y) := ⟨_, rfl⟩
        obtain ⟨hb, HHB⟩ : ∃ y, Hid (hasW (m : Int) k = y) := ⟨_, rfl⟩
        have hwk := has_walk HHB.out
        have h8 : k = 0 ∨ k = 1 ∨ k = 2 ∨ k = 3 ∨ k = 4 ∨ k = 5 ∨ k = 6 ∨ k = 7 := by omega
        rw [HY.out]
        clear hk
        cases y
        · clear hwk h8
          go_wp2_with fail
          refine ⟨⟨k + 1, by omega, by go_num, by rw [HK.out, HY.out]; rfl⟩, ?_⟩
          simp [Go.RowKit.intOf]; omega
        · cases hb
          · have hwk : (((m : Int) / 2 ^ k).tmod 2 == 0) = true := hwk
            clear h8
            go_wp2_with fail
            refine ⟨⟨k + 1, by omega, by go_num, by rw [HK.out, HY.out, ← HW.out, HHB.out]; rfl⟩, ?_⟩
            simp [Go.RowKit.intOf]; omega
          · have hwk : (((m : Int) / 2 ^ k).tmod 2 == 0) = false := hwk
            obtain ⟨v, HV⟩ : ∃ v, Hid (bitOf 97 k = v) := ⟨_, rfl⟩
            have hb1 : ((k : Int) / 1 % 2 == 1) = v := by rw [← HV.out]; exact bit_walk 0 k 1 rfl
            try rw [Int.ediv_one] at hb1
            clear h8
            go_wp2_with fail
            refine ⟨⟨k + 1, by omega, by go_num, by rw [HK.out, HY.out, ← HW.out, HHB.out, HV.out]; rfl⟩, ?_⟩
            simp [Go.RowKit.intOf]; omega
      · obtain rfl : k = 2 := by omega
        go_wp2_with fail
        go_ret2
        exact ⟨at_ + 1, by rw [HF.out]; rfl, hat, rfl, 0, rfl⟩
  · have hc : s[at_].toNat = 97 := hc
    have HF : Hid (holdsS 2 (.thing 0) m = allTo (fun w => !hasW (m : Int) w || bitOf 97 w) 4) := HF.out
    obtain ⟨F, HFF⟩ : ∃ F : Nat → Bool, Hid ((fun w => !hasW (m : Int) w || bitOf 97 w) = F) := ⟨_, rfl⟩
    rw [HFF.out] at HF
    have HS := Lib.hid (allTo_succ F)
    go_enter Try.func63, Try.ntmps63
    go_wp2_with fail
    go_loop [10, 11] (fun v i => ∃ k : Nat, k ≤ 4 ∧ i = .int .i64 k ∧ v = .bool (allTo F k)) (fun _ i => 4 - (Go.RowKit.intOf i).toNat)
    case atStart => exact ⟨0, Nat.zero_le _, rfl, rfl⟩
    case round =>
      obtain ⟨k, hk, rfl, rfl⟩ := hrel
      by_cases hlt : k < 4
      · have HK := Lib.hid (HS.out k)
        have HW := Lib.hid (congrFun HFF.out k)
        obtain ⟨y, HY⟩ : ∃ y, Hid (allTo F k = y) := ⟨_, rfl⟩
        obtain ⟨hb, HHB⟩ : ∃ y, Hid (hasW (m : Int) k = y) := ⟨_, rfl⟩
        have hwk := has_walk HHB.out
        have h8 : k = 0 ∨ k = 1 ∨ k = 2 ∨ k = 3 ∨ k = 4 ∨ k = 5 ∨ k = 6 ∨ k = 7 := by omega
        rw [HY.out]
        clear hk
        cases y
        · clear hwk h8
          go_wp2_with fail
          refine ⟨⟨k + 1, by omega, by go_num, by rw [HK.out, HY.out]; rfl⟩, ?_⟩
          simp [Go.RowKit.intOf]; omega
        · cases hb
          · have hwk : (((m : Int) / 2 ^ k).tmod 2 == 0) = true := hwk
            clear h8
            go_wp2_with fail
            refine ⟨⟨k + 1, by omega, by go_num, by rw [HK.out, HY.out, ← HW.out, HHB.out]; rfl⟩, ?_⟩
            simp [Go.RowKit.intOf]; omega
          · have hwk : (((m : Int) / 2 ^ k).tmod 2 == 0) = false := hwk
            obtain ⟨v, HV⟩ : ∃ v, Hid (bitOf 97 k = v) := ⟨_, rfl⟩
            have hb1 : ((k : Int) / 1 % 2 == 1) = v := by rw [← HV.out]; exact bit_walk 0 k 1 rfl
            try rw [Int.ediv_one] at hb1
            clear h8
            go_wp2_with fail
            refine ⟨⟨k + 1, by omega, by go_num, by rw [HK.out, HY.out, ← HW.out, HHB.out, HV.out]; rfl⟩, ?_⟩
            simp [Go.RowKit.intOf]; omega
      · obtain rfl : k = 4 := by omega
        go_wp2_with fail
        go_ret2
        exact ⟨at_ + 1, by rw [HF.out]; rfl, hat, rfl, 0, rfl⟩
  · have hc : s[at_].toNat = 98 := hc
    have HF : Hid (holdsS 2 (.thing 1) m = allTo (fun w => !hasW (m : Int) w || bitOf 98 w) 4) := HF.out
    obtain ⟨F, HFF⟩ : ∃ F : Nat → Bool, Hid ((fun w => !hasW (m : Int) w || bitOf 98 w) = F) := ⟨_, rfl⟩
    rw [HFF.out] at HF
    have HS := Lib.hid (allTo_succ F)
    go_enter Try.func63, Try.ntmps63
    go_wp2_with fail
    go_loop [10, 11] (fun v i => ∃ k : Nat, k ≤ 4 ∧ i = .int .i64 k ∧ v = .bool (allTo F k)) (fun _ i => 4 - (Go.RowKit.intOf i).toNat)
    case atStart => exact ⟨0, Nat.zero_le _, rfl, rfl⟩
    case round =>
      obtain ⟨k, hk, rfl, rfl⟩ := hrel
      by_cases hlt : k < 4
      · have HK := Lib.hid (HS.out k)
        have HW := Lib.hid (congrFun HFF.out k)
        obtain ⟨y, HY⟩ : ∃ y, Hid (allTo F k = y) := ⟨_, rfl⟩
        obtain ⟨hb, HHB⟩ : ∃ y, Hid (hasW (m : Int) k = y) := ⟨_, rfl⟩
        have hwk := has_walk HHB.out
        have h8 : k = 0 ∨ k = 1 ∨ k = 2 ∨ k = 3 ∨ k = 4 ∨ k = 5 ∨ k = 6 ∨ k = 7 := by omega
        rw [HY.out]
        clear hk
        cases y
        · clear hwk h8
          go_wp2_with fail
          refine ⟨⟨k + 1, by omega, by go_num, by rw [HK.out, HY.out]; rfl⟩, ?_⟩
          simp [Go.RowKit.intOf]; omega
        · cases hb
          · have hwk : (((m : Int) / 2 ^ k).tmod 2 == 0) = true := hwk
            clear h8
            go_wp2_with fail
            refine ⟨⟨k + 1, by omega, by go_num, by rw [HK.out, HY.out, ← HW.out, HHB.out]; rfl⟩, ?_⟩
            simp [Go.RowKit.intOf]; omega
          · have hwk : (((m : Int) / 2 ^ k).tmod 2 == 0) = false := hwk
            obtain ⟨v, HV⟩ : ∃ v, Hid (bitOf 98 k = v) := ⟨_, rfl⟩
            have hb1 : ((k : Int) / 2 % 2 == 1) = v := by rw [← HV.out]; exact bit_walk 1 k 2 rfl
            try rw [Int.ediv_one] at hb1
            clear h8
            go_wp2_with fail
            refine ⟨⟨k + 1, by omega, by go_num, by rw [HK.out, HY.out, ← HW.out, HHB.out, HV.out]; rfl⟩, ?_⟩
            simp [Go.RowKit.intOf]; omega
      · obtain rfl : k = 4 := by omega
        go_wp2_with fail
        go_ret2
        exact ⟨at_ + 1, by rw [HF.out]; rfl, hat, rfl, 0, rfl⟩
  · have hc : s[at_].toNat = 97 := hc
    have HF : Hid (holdsS 3 (.thing 0) m = allTo (fun w => !hasW (m : Int) w || bitOf 97 w) 8) := HF.out
    obtain ⟨F, HFF⟩ : ∃ F : Nat → Bool, Hid ((fun w => !hasW (m : Int) w || bitOf 97 w) = F) := ⟨_, rfl⟩
    rw [HFF.out] at HF
    have HS := Lib.hid (allTo_succ F)
    go_enter Try.func63, Try.ntmps63
    go_wp2_with fail
    go_loop [10, 11] (fun v i => ∃ k : Nat, k ≤ 8 ∧ i = .int .i64 k ∧ v = .bool (allTo F k)) (fun _ i => 8 - (Go.RowKit.intOf i).toNat)
    case atStart => exact ⟨0, Nat.zero_le _, rfl, rfl⟩
    case round =>
      obtain ⟨k, hk, rfl, rfl⟩ := hrel
      by_cases hlt : k < 8
      · have HK := Lib.hid (HS.out k)
        have HW := Lib.hid (congrFun HFF.out k)
        obtain ⟨y, HY⟩ : ∃ y, Hid (allTo F k = y) := ⟨_, rfl⟩
        obtain ⟨hb, HHB⟩ : ∃ y, Hid (hasW (m : Int) k = y) := ⟨_, rfl⟩
        have hwk := has_walk HHB.out
        have h8 : k = 0 ∨ k = 1 ∨ k = 2 ∨ k = 3 ∨ k = 4 ∨ k = 5 ∨ k = 6 ∨ k = 7 := by omega
        rw [HY.out]
        clear hk
        cases y
        · clear hwk h8
          go_wp2_with fail
          refine ⟨⟨k + 1, by omega, by go_num, by rw [HK.out, HY.out]; rfl⟩, ?_⟩
          simp [Go.RowKit.intOf]; omega
        · cases hb
          · have hwk : (((m : Int) / 2 ^ k).tmod 2 == 0) = true := hwk
            clear h8
            go_wp2_with fail
            refine ⟨⟨k + 1, by omega, by go_num, by rw [HK.out, HY.out, ← HW.out, HHB.out]; rfl⟩, ?_⟩
            simp [Go.RowKit.intOf]; omega
          · have hwk : (((m : Int) / 2 ^ k).tmod 2 == 0) = false := hwk
            obtain ⟨v, HV⟩ : ∃ v, Hid (bitOf 97 k = v) := ⟨_, rfl⟩
            have hb1 : ((k : Int) / 1 % 2 == 1) = v := by rw [← HV.out]; exact bit_walk 0 k 1 rfl
            try rw [Int.ediv_one] at hb1
            clear h8
            go_wp2_with fail
            refine ⟨⟨k + 1, by omega, by go_num, by rw [HK.out, HY.out, ← HW.out, HHB.out, HV.out]; rfl⟩, ?_⟩
            simp [Go.RowKit.intOf]; omega
      · obtain rfl : k = 8 := by omega
        go_wp2_with fail
        go_ret2
        exact ⟨at_ + 1, by rw [HF.out]; rfl, hat, rfl, 0, rfl⟩
  · have hc : s[at_].toNat = 98 := hc
    have HF : Hid (holdsS 3 (.thing 1) m = allTo (fun w => !hasW (m : Int) w || bitOf 98 w) 8) := HF.out
    obtain ⟨F, HFF⟩ : ∃ F : Nat → Bool, Hid ((fun w => !hasW (m : Int) w || bitOf 98 w) = F) := ⟨_, rfl⟩
    rw [HFF.out] at HF
    have HS := Lib.hid (allTo_succ F)
    go_enter Try.func63, Try.ntmps63
    go_wp2_with fail
    go_loop [10, 11] (fun v i => ∃ k : Nat, k ≤ 8 ∧ i = .int .i64 k ∧ v = .bool (allTo F k)) (fun _ i => 8 - (Go.RowKit.intOf i).toNat)
    case atStart => exact ⟨0, Nat.zero_le _, rfl, rfl⟩
    case round =>
      obtain ⟨k, hk, rfl, rfl⟩ := hrel
      by_cases hlt : k < 8
      · have HK := Lib.hid (HS.out k)
        have HW := Lib.hid (congrFun HFF.out k)
        obtain ⟨y, HY⟩ : ∃ y, Hid (allTo F k = y) := ⟨_, rfl⟩
        obtain ⟨hb, HHB⟩ : ∃ y, Hid (hasW (m : Int) k = y) := ⟨_, rfl⟩
        have hwk := has_walk HHB.out
        have h8 : k = 0 ∨ k = 1 ∨ k = 2 ∨ k = 3 ∨ k = 4 ∨ k = 5 ∨ k = 6 ∨ k = 7 := by omega
        rw [HY.out]
        clear hk
        cases y
        · clear hwk h8
          go_wp2_with fail
          refine ⟨⟨k + 1, by omega, by go_num, by rw [HK.out, HY.out]; rfl⟩, ?_⟩
          simp [Go.RowKit.intOf]; omega
        · cases hb
          · have hwk : (((m : Int) / 2 ^ k).tmod 2 == 0) = true := hwk
            clear h8
            go_wp2_with fail
            refine ⟨⟨k + 1, by omega, by go_num, by rw [HK.out, HY.out, ← HW.out, HHB.out]; rfl⟩, ?_⟩
            simp [Go.RowKit.intOf]; omega
          · have hwk : (((m : Int) / 2 ^ k).tmod 2 == 0) = false := hwk
            obtain ⟨v, HV⟩ : ∃ v, Hid (bitOf 98 k = v) := ⟨_, rfl⟩
            have hb1 : ((k : Int) / 2 % 2 == 1) = v := by rw [← HV.out]; exact bit_walk 1 k 2 rfl
            try rw [Int.ediv_one] at hb1
            clear h8
            go_wp2_with fail
            refine ⟨⟨k + 1, by omega, by go_num, by rw [HK.out, HY.out, ← HW.out, HHB.out, HV.out]; rfl⟩, ?_⟩
            simp [Go.RowKit.intOf]; omega
      · obtain rfl : k = 8 := by omega
        go_wp2_with fail
        go_ret2
        exact ⟨at_ + 1, by rw [HF.out]; rfl, hat, rfl, 0, rfl⟩
  · have hc : s[at_].toNat = 99 := hc
    have HF : Hid (holdsS 3 (.thing 2) m = allTo (fun w => !hasW (m : Int) w || bitOf 99 w) 8) := HF.out
    obtain ⟨F, HFF⟩ : ∃ F : Nat → Bool, Hid ((fun w => !hasW (m : Int) w || bitOf 99 w) = F) := ⟨_, rfl⟩
    rw [HFF.out] at HF
    have HS := Lib.hid (allTo_succ F)
    go_enter Try.func63, Try.ntmps63
    go_wp2_with fail
    go_loop [10, 11] (fun v i => ∃ k : Nat, k ≤ 8 ∧ i = .int .i64 k ∧ v = .bool (allTo F k)) (fun _ i => 8 - (Go.RowKit.intOf i).toNat)
    case atStart => exact ⟨0, Nat.zero_le _, rfl, rfl⟩
    case round =>
      obtain ⟨k, hk, rfl, rfl⟩ := hrel
      by_cases hlt : k < 8
      · have HK := Lib.hid (HS.out k)
        have HW := Lib.hid (congrFun HFF.out k)
        obtain ⟨y, HY⟩ : ∃ y, Hid (allTo F k = y) := ⟨_, rfl⟩
        obtain ⟨hb, HHB⟩ : ∃ y, Hid (hasW (m : Int) k = y) := ⟨_, rfl⟩
        have hwk := has_walk HHB.out
        have h8 : k = 0 ∨ k = 1 ∨ k = 2 ∨ k = 3 ∨ k = 4 ∨ k = 5 ∨ k = 6 ∨ k = 7 := by omega
        rw [HY.out]
        clear hk
        cases y
        · clear hwk h8
          go_wp2_with fail
          refine ⟨⟨k + 1, by omega, by go_num, by rw [HK.out, HY.out]; rfl⟩, ?_⟩
          simp [Go.RowKit.intOf]; omega
        · cases hb
          · have hwk : (((m : Int) / 2 ^ k).tmod 2 == 0) = true := hwk
            clear h8
            go_wp2_with fail
            refine ⟨⟨k + 1, by omega, by go_num, by rw [HK.out, HY.out, ← HW.out, HHB.out]; rfl⟩, ?_⟩
            simp [Go.RowKit.intOf]; omega
          · have hwk : (((m : Int) / 2 ^ k).tmod 2 == 0) = false := hwk
            obtain ⟨v, HV⟩ : ∃ v, Hid (bitOf 99 k = v) := ⟨_, rfl⟩
            have hb1 : ((k : Int) / 4 % 2 == 1) = v := by rw [← HV.out]; exact bit_walk 2 k 4 rfl
            try rw [Int.ediv_one] at hb1
            clear h8
            go_wp2_with fail
            refine ⟨⟨k + 1, by omega, by go_num, by rw [HK.out, HY.out, ← HW.out, HHB.out, HV.out]; rfl⟩, ?_⟩
            simp [Go.RowKit.intOf]; omega
      · obtain rfl : k = 8 := by omega
        go_wp2_with fail
        go_ret2
        exact ⟨at_ + 1, by rw [HF.out]; rfl, hat, rfl, 0, rfl⟩
end Go.Proofs.Ytmdpolllmipppaa
