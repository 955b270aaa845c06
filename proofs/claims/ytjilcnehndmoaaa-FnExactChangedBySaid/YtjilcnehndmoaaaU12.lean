/-
  What the proofs of this seat's statements share (Rds, Iss, Imp, Srd, Sre, Srf, Srg, Sho, Shp, Shq, Spc, Spd, Drs).
-/
import Derived.Defers
import Derived.Recover
import Derived.Laws.Pointers
import Derived.Lib.IndexAny
import Derived.Test.YtjilcnehndmoaaaU11
import Derived.Test.YtjilcnehndmoaaaU5

namespace Go.Proofs.Ytjilcnehndmoaaa
open Go.RowKit

theorem iEnd_ok (R : Nat) (s st : ByteArray) (w : World) (_hs : s.size ≤ 1048576) (hr : RdrAt w R s s.size st) :
    Calls Try.prog 55 #[.pointer (some ⟨R, 0, none⟩)] w fun e w' => e = .returned (.tuple #[]) ∧ ∃ n, w' = w.drewN n := by
  obtain ⟨hc0, hc1, hc2, hf, hlt⟩ := rdr_cells hr
  have hd : decide ((s.size : Int) < (s.size : Int)) = false := decide_eq_false (by omega)
  clear hr
  go_enter Try.func55, Try.ntmps55
  go_wp2_with fail
  go_quiet (fail)
  go_wp2_with fail
  go_end0
  exact ⟨rfl, _, rfl⟩
theorem iEnd_bad (R : Nat) (s st : ByteArray) (at_ : Nat) (w : World) (_hs : s.size ≤ 1048576) (hat : at_ < s.size) (hr : RdrAt w R s at_ st) :
    Calls Try.prog 55 #[.pointer (some ⟨R, 0, none⟩)] w (Panics R w) := by
  obtain ⟨hc0, hc1, hc2, hf, hlt⟩ := rdr_cells hr
  have hd : decide ((at_ : Int) < (s.size : Int)) = true := decide_eq_true (by omega)
  clear hr
  go_enter Try.func55, Try.ntmps55
  go_wp2_with fail
  go_quiet (fail)
  go_wp2_with fail
  exact ⟨rfl, _, rfl, grown_drewN (World.grownBy.refl _ _) _⟩

theorem catch_panicking (p q : Addr) (v0 v1 : Value) (u : TypeId) (pv : Value) (w : World) (h0 : w.cell? p = some v0) (h1 : w.cell? q = some v1) (f0 : w.frozen? p = false) (f1 : w.frozen? q = false) (hne : p.block ≠ q.block) :
    CallsD Try.prog 57 #[.pointer (some p), .pointer (some q)] (.panicking [{ v := .iface u pv, recovered := false }]) w fun e u' w' =>
      e = .returned (.tuple #[]) ∧ u' = .panicking [{ v := .iface u pv, recovered := true }] ∧ w' = (w.setCell p (.pointer none)).setCell q (.bool false) := by
  refine callsD_of_wpS Try.func57 rfl fun c₀ cs hu => ?_
  apply wpS_seq
  apply wpS_region
  simp [wpOpsS, go_sem, recoverD, hu, Try.ntmps57, Exit.thenS]
  refine wpS_cond (t := true) (by simp [Act.eval, Array.replicate]) ?_
  simp only [if_true]
  apply wpS_region
  have h2 : (w.setCell p (.pointer none)).cell? q = some v1 := (World.cell?_setCell_far w p q _ hne).trans h1
  have f2 : (w.setCell p (.pointer none)).frozen? q = false := by rw [World.frozen?_setCell]; exact f1
  simp [wpOpsS, go_sem, h0, f0, h2, f2, bodyPostS, results, Try.results57]
theorem catch_idle (p q : Addr) (w : World) :
    CallsD Try.prog 57 #[.pointer (some p), .pointer (some q)] .returning w fun e u' w' => e = .returned (.tuple #[]) ∧ u' = .returning ∧ w' = w := by
  refine callsD_of_wpS Try.func57 rfl fun c₀ cs hu => ?_
  apply wpS_seq
  apply wpS_region
  simp [wpOpsS, go_sem, recoverD, hu, Try.ntmps57, Exit.thenS]
  refine wpS_cond (t := false) (by simp [Act.eval, Array.replicate]) ?_
  simp only [Bool.false_eq_true, if_false]
  refine wpS_of_wp (wp_skip ?_)
  cases c₀
  simp_all [bodyPostS, results, Try.results57]

def nothing : Value := .tuple #[.pointer none, .bool false]
theorem box_set {W : World} {B : Nat} {t : TypeId} {v : Value} (h : Boxed W B t v) (u : Value) {C : Nat} (hne : C ≠ B) : Boxed (W.setCell ⟨C, 0, none⟩ u) B t v :=
  (Below.heap_setCell _ _ _ _ (fun e => hne e.symm)).trans h

set_option maxRecDepth 100000 in
set_option maxHeartbeats 4000000 in
theorem iReadS_bad (t : Int) (s : ByteArray) (w : World) (h : t < 1 ∨ 3 < t ∨ 60 < s.size) (hs : s.size ≤ 9223372036854775807) :
    Calls Try.prog 47 #[.int .i64 t, .string s] w fun e w' => e = .returned nothing ∧ Below w.heap.size w w' := by
  have x0 := Boxed.new w 52 (.pointer none)
  have x1 := Boxed.new (w.alloc (.cells #[.pointer none] 52)) 4 (.bool false)
  rw [World.size_alloc] at x1
  have hc0 := (x0.alloc (.cells #[.bool false] 4)).cell
  have hc1 := x1.cell
  have HB : Hid (Below w.heap.size w ((w.alloc (.cells #[.pointer none] 52)).alloc (.cells #[.bool false] 4))) := ((Below.refl _ _).alloc (Nat.le_refl _) _).alloc (by simp) _
  clear x0 x1
  obtain ⟨n, HN⟩ : ∃ n, Hid (worldsOf t = n) := ⟨_, rfl⟩
  by_cases h1 : t < 1 ∨ 3 < t
  · have hd : decide (n < 0) = true := decide_eq_true (by rw [← HN.out, worldsOf_bad h1]; omega)
    clear h h1
    go_enter_defers Try.func47, Try.ntmps47
    go_wp2_with (go_at_call 40; refine (iWorldsOf _ _).mono ?_; rintro e w' ⟨rfl, rfl⟩; rw [HN.out])
    exact ⟨nothing, by simp [results, Try.results47, go_sem, hc0, hc1, nothing], rfl, HB.out⟩
  · have hd : decide (n < 0) = false := decide_eq_false (by rw [← HN.out, (worlds_n (t := t) (by omega) (by omega)).1]; omega)
    have hd2 : decide ((60 : Int) < (s.size : Int)) = true := decide_eq_true (by omega)
    clear h h1
    go_enter_defers Try.func47, Try.ntmps47
    go_wp2_with (go_at_call 40; refine (iWorldsOf _ _).mono ?_; rintro e w' ⟨rfl, rfl⟩; rw [HN.out])
    exact ⟨nothing, by simp [results, Try.results47, go_sem, hc0, hc1, nothing], rfl, HB.out⟩

def startsOf (n : Nat) : ByteArray := ⟨#[48, 49, 33, 63, 40]⟩ ++ (⟨#[97, 98, 99]⟩ : ByteArray).extract 0 n
theorem starts_ok (n : Nat) (h1 : 1 ≤ n) (h3 : n ≤ 3) : StOk n (startsOf n) := by
  intro c
  have e : ∀ k : UInt8, c = k ↔ c.toNat = k.toNat := fun k => UInt8.toNat_inj.symm
  have hl : (startsOf n).data.toList = [48, 49, 33, 63, 40] ++ [97, 98, 99].take n := by
    have : n = 1 ∨ n = 2 ∨ n = 3 := by omega
    rcases this with rfl | rfl | rfl <;> rfl
  rw [hl, Bool.eq_iff_iff]
  unfold startB
  have : n = 1 ∨ n = 2 ∨ n = 3 := by omega
  rcases this with rfl | rfl | rfl <;> simp [e] <;> omega
theorem senOf_none {t : Int} {l : List Nat} (h1 : 1 ≤ t) (h3 : t ≤ 3) (hl : l.length ≤ 60) (h : readS t l.length l = none) : senOf t l = none := by
  unfold senOf; rw [if_pos ⟨h1, h3, hl⟩, h]
theorem senOf_more {t : Int} {l : List Nat} {x : Sen} {c : Nat} {r : List Nat} (h1 : 1 ≤ t) (h3 : t ≤ 3) (hl : l.length ≤ 60) (h : readS t l.length l = some (x, c :: r)) : senOf t l = none := by
  unfold senOf; rw [if_pos ⟨h1, h3, hl⟩, h]
theorem senOf_some {t : Int} {l : List Nat} {x : Sen} (h1 : 1 ≤ t) (h3 : t ≤ 3) (hl : l.length ≤ 60) (h : readS t l.length l = some (x, [])) : senOf t l = some x := by
  unfold senOf; rw [if_pos ⟨h1, h3, hl⟩, h]
theorem below_caught {w W w1 : World} {u0 u1 : Value} (hB : Below w.heap.size w W) (hg : W.grownBy w1 (some (w.heap.size + 1 + 1))) : Below w.heap.size w ((w1.setCell ⟨w.heap.size, 0, none⟩ u0).setCell ⟨w.heap.size + 1, 0, none⟩ u1) :=
  ((hB.grown hg hB.size (fun k e => by cases e; omega)).setCell (p := ⟨w.heap.size, 0, none⟩) (Nat.le_refl _) _).setCell (p := ⟨w.heap.size + 1, 0, none⟩) (by show w.heap.size ≤ w.heap.size + 1; omega) _
theorem sen_set {w : World} {lo C : Nat} {x : Sen} {p : Option Addr} (h : SenAt w lo x p) (hC : C < lo) (v : Value) : SenAt (w.setCell ⟨C, 0, none⟩ v) lo x p :=
  SenAt.keep (fun b hl _ => Below.heap_setCell _ _ _ b (by show b ≠ C; omega)) x p h
theorem sen_drewN {w : World} {lo : Nat} {x : Sen} {p : Option Addr} (h : SenAt w lo x p) (n : Nat) : SenAt (w.drewN n) lo x p :=
  SenAt.keep (w := w) (w' := w.drewN n) (fun _ _ _ => rfl) x p h
def SentPost (t : Int) (s : ByteArray) (w : World) (e : Ending) (w' : World) : Prop :=
  match senOf t (bytesN s) with
  | some x => ∃ p, e = .returned (.tuple #[.pointer p, .bool true]) ∧ SenAt w' w.heap.size x p ∧ Below w.heap.size w w'
  | none => e = .returned nothing ∧ Below w.heap.size w w'
theorem SentPost.of_none {t : Int} {s : ByteArray} {w : World} {e : Ending} {w' : World} (h : senOf t (bytesN s) = none) (he : e = .returned nothing) (hb : Below w.heap.size w w') : SentPost t s w e w' := by
  unfold SentPost; rw [h]; exact ⟨he, hb⟩
theorem SentPost.of_some {t : Int} {s : ByteArray} {w : World} {e : Ending} {w' : World} {x : Sen} (h : senOf t (bytesN s) = some x) {p : Option Addr} (he : e = .returned (.tuple #[.pointer p, .bool true])) (hn : SenAt w' w.heap.size x p) (hb : Below w.heap.size w w') : SentPost t s w e w' := by
  unfold SentPost; rw [h]; exact ⟨p, he, hn, hb⟩

set_option maxRecDepth 100000 in
set_option maxHeartbeats 4000000 in
theorem iReadS_ok (n : Nat) (s : ByteArray) (w : World) (h1 : 1 ≤ n) (h3 : n ≤ 3) (hs : s.size ≤ 60) :
    Calls Try.prog 47 #[.int .i64 n, .string s] w (SentPost n s w) := by
  have hmf : ∀ (fn : Fn) (first cap : Array Value) (w : World), (Instr.makeFunc fn first cap).run Try.prog w = .ok (.func fn first cap) w := fun _ _ _ _ => rfl
  have hd : decide ((60 : Int) < (s.size : Int)) = false := decide_eq_false (by omega)
  obtain ⟨m, HN⟩ : ∃ m, Hid (worldsOf n = m) := ⟨_, rfl⟩
  have hd2 : decide (m < 0) = false := decide_eq_false (by rw [← HN.out, (worlds_n (t := n) (by omega) (by omega)).1]; omega)
  go_enter_defers Try.func47, Try.ntmps47
  go_wp2_with (go_at_call 40; refine (iWorldsOf _ _).mono ?_; rintro e w' ⟨rfl, rfl⟩; rw [HN.out])
  obtain ⟨W, hW⟩ : ∃ W, ((w.alloc (.cells #[.pointer none] 52)).alloc (.cells #[.bool false] 4)).alloc (.cells #[.string s, .int .i64 0, .string (⟨#[48, 49, 33, 63, 40]⟩ ++ (⟨#[97, 98, 99]⟩ : ByteArray).extract 0 n)] 64) = W := ⟨_, rfl⟩
  have x0 : Boxed W w.heap.size 52 (.pointer none) := by rw [← hW]; exact ((Boxed.new w 52 (.pointer none)).alloc _).alloc _
  have x1 : Boxed W (w.heap.size + 1) 4 (.bool false) := by
    rw [← hW]; have := Boxed.new (w.alloc (.cells #[.pointer none] 52)) 4 (.bool false); rw [World.size_alloc] at this; exact this.alloc _
  have hr : RdrAt W (w.heap.size + 1 + 1) s 0 (startsOf n) := by
    rw [← hW]; have := World.alloc_heap_new ((w.alloc (.cells #[.pointer none] 52)).alloc (.cells #[.bool false] 4)) (.cells #[.string s, .int .i64 0, .string (startsOf n)] 64); simp only [World.size_alloc] at this; exact this
  have hB : Below w.heap.size w W := by rw [← hW]; exact (((Below.refl _ _).alloc (Nat.le_refl _) _).alloc (by simp) _).alloc (by simp; omega) _
  have hsz : w.heap.size + 3 ≤ W.heap.size := by rw [← hW]; simp
  rw [hW]
  clear hW
  have hread := iRead n (w.heap.size + 1 + 1) s (startsOf n) (by omega) (by omega) (starts_ok n h1 h3) s.size 0 W hr (by omega) (by omega)
  rw [List.drop_zero] at hread
  have HB := Lib.hid hB
  have X0 := Lib.hid x0
  have X1 := Lib.hid x1
  have hlen : (bytesN s).length = s.size := bytesN_len s
  have hln : ∀ o, readS n s.size (bytesN s) = o → readS n (bytesN s).length (bytesN s) = o := fun o h => by rw [hlen]; exact h
  clear x0 x1 hB hr
  rcases hrd : readS n s.size (bytesN s) with _ | ⟨x, rest⟩
  · rw [hrd] at hread
    have HI : Hid (Calls Try.prog 58 #[.pointer (some ⟨w.heap.size + 1 + 1, 0, none⟩)] W (Panics (w.heap.size + 1 + 1) W)) := hread
    have HE := Lib.hid (senOf_none (t := n) (by omega) (by omega) (by rw [hlen]; exact hs) (hln _ hrd))
    clear hread hrd hln hlen
    refine HI.out.mono ?_
    rintro e w1 ⟨v, rfl, hg⟩
    have y0 : Boxed w1 w.heap.size 52 (.pointer none) := X0.out.kept hg (fun e => by have := Option.some.inj e; omega)
    have y1 : Boxed w1 (w.heap.size + 1) 4 (.bool false) := X1.out.kept hg (fun e => by have := Option.some.inj e; omega)
    refine leaves_cons (f := 57) (args := #[.pointer (some ⟨w.heap.size, 0, none⟩), .pointer (some ⟨w.heap.size + 1, 0, none⟩)]) (by simp) (by simp [go_sem]) ?_
    refine (catch_panicking ⟨w.heap.size, 0, none⟩ ⟨w.heap.size + 1, 0, none⟩ _ _ _ _ _ y0.cell y1.cell y0.frozen y1.frozen (by simp)).mono ?_
    rintro e u' w'' ⟨rfl, rfl, rfl⟩
    have z0 := (box_set (y0.set (.pointer none)) (.bool false) (C := w.heap.size + 1) (by omega)).cell
    have z1 := ((box_set y1 (.pointer none) (C := w.heap.size) (by omega)).set (.bool false)).cell
    have HP := Lib.hid (SentPost.of_none HE.out rfl (below_caught (u0 := .pointer none) (u1 := .bool false) HB.out hg))
    simp [Leaves, settle, results, Try.results47, go_sem, z0, z1]
    exact HP.out
  · rw [hrd] at hread
    have HI : Hid (Calls Try.prog 58 #[.pointer (some ⟨w.heap.size + 1 + 1, 0, none⟩)] W (ReadSome (w.heap.size + 1 + 1) s (startsOf n) x rest W)) := hread
    have HRD := Lib.hid (hln _ hrd)
    have HLN := Lib.hid hlen
    clear hread hrd hln hlen
    refine HI.out.mono ?_
    rintro e w1 ⟨p, a1, rfl, ha1, hda, hr1, hn1, hg⟩
    have y0 : Boxed w1 w.heap.size 52 (.pointer none) := X0.out.kept hg (fun e => by have := Option.some.inj e; omega)
    have y1 : Boxed w1 (w.heap.size + 1) 4 (.bool false) := X1.out.kept hg (fun e => by have := Option.some.inj e; omega)
    have hc0 := y0.cell
    have hf0 := y0.frozen
    rcases rest with _ | ⟨c, r⟩
    · have HE := Lib.hid (senOf_some (t := n) (by omega) (by omega) (by rw [HLN.out]; exact hs) HRD.out)
      obtain rfl := drop_end hda ha1
      have hr2 : RdrAt (w1.setCell ⟨w.heap.size, 0, none⟩ (.pointer p)) (w.heap.size + 1 + 1) s s.size (startsOf n) := (Below.heap_setCell _ _ _ _ (by show w.heap.size + 1 + 1 ≠ w.heap.size; omega)).trans hr1
      have HT := Lib.hid (iEnd_ok _ s (startsOf n) _ (by omega) hr2)
      have HG := Lib.hid hg
      have Y0 := Lib.hid (y0.set (.pointer p))
      have Y1 := Lib.hid (box_set y1 (.pointer p) (C := w.heap.size) (by omega))
      have HN := Lib.hid hn1
      clear hda hr1 hn1 hg y0 y1 hr2
      go_wp2_with fail
      refine HT.out.mono ?_
      rintro e w2 ⟨rfl, q, rfl⟩
      clear hc0 hf0
      have hc0 := Y0.out.cell
      have hf0 := Y0.out.frozen
      have hc1 := Y1.out.cell
      have hf1 := Y1.out.frozen
      go_wp2_with fail
      refine leaves_cons (f := 57) (args := #[.pointer (some ⟨w.heap.size, 0, none⟩), .pointer (some ⟨w.heap.size + 1, 0, none⟩)]) (by simp) (by simp [go_sem]) ?_
      refine (catch_idle ⟨w.heap.size, 0, none⟩ ⟨w.heap.size + 1, 0, none⟩ _).mono ?_
      rintro e u' w'' ⟨rfl, rfl, rfl⟩
      have Y0q : Boxed ((w1.setCell ⟨w.heap.size, 0, none⟩ (.pointer p)).drewN q) w.heap.size 52 (.pointer p) := Y0.out
      have Y1q : Boxed ((w1.setCell ⟨w.heap.size, 0, none⟩ (.pointer p)).drewN q) (w.heap.size + 1) 4 (.bool false) := Y1.out
      have z0 := (box_set (Y0q.set (.pointer p)) (.bool true) (C := w.heap.size + 1) (by omega)).cell
      have z1 := ((box_set Y1q (.pointer p) (C := w.heap.size) (by omega)).set (.bool true)).cell
      have hsn : SenAt ((((w1.setCell ⟨w.heap.size, 0, none⟩ (.pointer p)).drewN q).setCell ⟨w.heap.size, 0, none⟩ (.pointer p)).setCell ⟨w.heap.size + 1, 0, none⟩ (.bool true)) w.heap.size x p :=
        SenAt.low (lo := W.heap.size) (by omega) x p (sen_set (sen_set (sen_drewN (sen_set HN.out (by omega) _) _) (by omega) _) (by omega) _)
      have hbl : Below w.heap.size w ((((w1.setCell ⟨w.heap.size, 0, none⟩ (.pointer p)).drewN q).setCell ⟨w.heap.size, 0, none⟩ (.pointer p)).setCell ⟨w.heap.size + 1, 0, none⟩ (.bool true)) :=
        ((bel_drewN ((HB.out.grown HG.out HB.out.size (fun k e => by have := Option.some.inj e; omega)).setCell (p := ⟨w.heap.size, 0, none⟩) (Nat.le_refl _) _) q).setCell (p := ⟨w.heap.size, 0, none⟩) (Nat.le_refl _) _).setCell (p := ⟨w.heap.size + 1, 0, none⟩) (by show w.heap.size ≤ w.heap.size + 1; omega) _
      have HP := Lib.hid (SentPost.of_some HE.out rfl hsn hbl)
      simp [Leaves, settle, results, Try.results47, go_sem, z0, z1]
      exact HP.out
    · have HE := Lib.hid (senOf_more (t := n) (by omega) (by omega) (by rw [HLN.out]; exact hs) HRD.out)
      obtain ⟨hlt, _, _⟩ := drop_lt hda
      have hr2 : RdrAt (w1.setCell ⟨w.heap.size, 0, none⟩ (.pointer p)) (w.heap.size + 1 + 1) s a1 (startsOf n) := (Below.heap_setCell _ _ _ _ (by show w.heap.size + 1 + 1 ≠ w.heap.size; omega)).trans hr1
      have HT := Lib.hid (iEnd_bad _ s (startsOf n) a1 _ (by omega) hlt hr2)
      have HG := Lib.hid hg
      have Y0 := Lib.hid (y0.set (.pointer p))
      have Y1 := Lib.hid (box_set y1 (.pointer p) (C := w.heap.size) (by omega))
      clear hda hr1 hn1 hg y0 y1 hr2
      go_wp2_with fail
      refine HT.out.mono ?_
      rintro e w2 ⟨v, rfl, hg2⟩
      have y0 : Boxed w2 w.heap.size 52 (.pointer p) := Boxed.kept Y0.out hg2 (fun e => by have := Option.some.inj e; omega)
      have y1 : Boxed w2 (w.heap.size + 1) 4 (.bool false) := Boxed.kept Y1.out hg2 (fun e => by have := Option.some.inj e; omega)
      refine leaves_cons (f := 57) (args := #[.pointer (some ⟨w.heap.size, 0, none⟩), .pointer (some ⟨w.heap.size + 1, 0, none⟩)]) (by simp) (by simp [go_sem]) ?_
      refine (catch_panicking ⟨w.heap.size, 0, none⟩ ⟨w.heap.size + 1, 0, none⟩ _ _ _ _ _ y0.cell y1.cell y0.frozen y1.frozen (by simp)).mono ?_
      rintro e u' w'' ⟨rfl, rfl, rfl⟩
      have z0 := (box_set (y0.set (.pointer none)) (.bool false) (C := w.heap.size + 1) (by omega)).cell
      have z1 := ((box_set y1 (.pointer none) (C := w.heap.size) (by omega)).set (.bool false)).cell
      have hb1 : Below w.heap.size w (w1.setCell ⟨w.heap.size, 0, none⟩ (.pointer p)) := (HB.out.grown HG.out HB.out.size (fun k e => by have := Option.some.inj e; omega)).setCell (p := ⟨w.heap.size, 0, none⟩) (Nat.le_refl _) _
      have HP := Lib.hid (SentPost.of_none HE.out rfl (below_caught (u0 := .pointer none) (u1 := .bool false) hb1 hg2))
      simp [Leaves, settle, results, Try.results47, go_sem, z0, z1]
      exact HP.out
theorem iReadS (t : Int) (s : ByteArray) (w : World) (hs : s.size ≤ 9223372036854775807) : Calls Try.prog 47 #[.int .i64 t, .string s] w (SentPost t s w) := by
  by_cases h : t < 1 ∨ 3 < t ∨ 60 < s.size
  · refine (iReadS_bad t s w h hs).mono ?_
    rintro e w' ⟨he, hb⟩
    exact SentPost.of_none (by unfold senOf; rw [if_neg (by rw [bytesN_len]; omega)]) he hb
  · obtain ⟨n, rfl⟩ : ∃ n : Nat, t = n := ⟨t.toNat, by omega⟩
    exact iReadS_ok n s w (by omega) (by omega) (by omega)
end Go.Proofs.Ytjilcnehndmoaaa

namespace Go.Proofs.Ytjilcnehndmoaaa
open Go.RowKit

def OwnPost (l : List Int) (w : World) (e : Ending) (w' : World) : Prop := ∃ v, e = .returned v ∧ Owns w' w.heap.size v l ∧ Below w.heap.size w w'
theorem node_cells_below {w W : World} {b sg : Nat} {q r : Option Addr} (h : NodeAt w b sg q r) (hb : Below w.heap.size w W) : W.cell? ⟨b, 1, none⟩ = some (.pointer q) ∧ W.cell? ⟨b, 2, none⟩ = some (.pointer r) := by
  have := node_cells ((hb.block b (Array.getElem?_eq_some_iff.1 h).1).trans h)
  exact ⟨this.2.1, this.2.2.1⟩

theorem statement_ok {t s : Int} (h : setOkB t s = true) : statementL t s = [s] := by unfold statementL; rw [h]; rfl
end Go.Proofs.Ytjilcnehndmoaaa

namespace Go.Proofs.Ytjilcnehndmoaaa
open Go.RowKit

def senT (t : Int) (s : ByteArray) : Option Sen := senOf t (bytesN s)
def issueT (t : Int) (s : ByteArray) : List Int := match senT t s with | some x => issueS t x | none => []
def isT (t : Int) (s : ByteArray) : Bool := (senT t s).isSome
def supportsT (t k : Int) (s : ByteArray) : Bool := match senT t s with | some x => setOkB t k && holdsS t x k | none => false
def plainT (t : Int) (s : ByteArray) : Bool := match senT t s with | some x => plainS x | none => false
def trueT (t : Int) (s : ByteArray) : Int := match senT t s with | some x => (trueTo t x (nWorlds t) : Int) | none => -1
def entailsT (t : Int) (s u : ByteArray) : Bool := match senT t s, senT t u with | some x, some y => followsB t (issueS t x) (issueS t y) | _, _ => false
theorem senT_ok {t : Int} {s : ByteArray} {x : Sen} (h : senT t s = some x) : 1 ≤ t ∧ t ≤ 3 ∧ s.size ≤ 60 ∧ senOk t x = true ∧ bytesN s = textS x := by
  have := senOf_iff.1 h
  rwa [bytesN_len] at this
theorem iRead_none {t : Int} {s : ByteArray} (h : Hid (senT t s = none)) (w : World) (hs : s.size ≤ 9223372036854775807) :
    Calls Try.prog 47 #[.int .i64 t, .string s] w fun e w' => e = .returned (.tuple #[.pointer none, .bool false]) ∧ Below w.heap.size w w' := by
  refine (iReadS t s w hs).mono ?_
  intro e w' hp
  unfold SentPost at hp
  rw [show senOf t (bytesN s) = none from h.out] at hp
  exact hp
theorem iRead_some {t : Int} {s : ByteArray} {x : Sen} (h : Hid (senT t s = some x)) (w : World) (hs : s.size ≤ 9223372036854775807) :
    Calls Try.prog 47 #[.int .i64 t, .string s] w fun e w' => ∃ p, e = .returned (.tuple #[.pointer p, .bool true]) ∧ SenAt w' w.heap.size x p ∧ Below w.heap.size w w' := by
  refine (iReadS t s w hs).mono ?_
  intro e w' hp
  unfold SentPost at hp
  rw [show senOf t (bytesN s) = some x from h.out] at hp
  exact hp

def IssueOfPost (l : List Int) (b : Bool) (w : World) (e : Ending) (w' : World) : Prop := ∃ v, e = .returned (.tuple #[v, .bool b]) ∧ Owns w' w.heap.size v l ∧ Below w.heap.size w w'
theorem issueT_none {t : Int} {s : ByteArray} (h : senT t s = none) : issueT t s = [] ∧ isT t s = false := by unfold issueT isT; rw [h]; exact ⟨rfl, rfl⟩
theorem issueT_some {t : Int} {s : ByteArray} {x : Sen} (h : senT t s = some x) : issueT t s = issueS t x ∧ isT t s = true := by unfold issueT isT; rw [h]; exact ⟨rfl, rfl⟩

theorem indexAny_any : ∀ (l chars : List UInt8), Lib.containsAny l chars = l.any fun b => chars.contains b
  | [], chars => rfl
  | b :: l, chars => by
    have ih := indexAny_any l chars
    have hg := Lib.indexAny_ge chars l
    unfold Lib.containsAny at *
    rw [Lib.indexAny, List.any_cons, ← ih]
    cases h : chars.contains b
    · simp only [Bool.false_eq_true, if_false, Bool.false_or]
      by_cases h2 : Lib.indexAny l chars = -1
      · rw [h2]; rfl
      · have : (Lib.indexAny l chars == -1) = false := by rw [beq_eq_false_iff_ne]; exact h2
        rw [this]
        simp only [Bool.false_eq_true, if_false, decide_eq_decide]
        omega
    · simp
def askB (c : Nat) : Bool := decide (c = 124) || decide (c = 63)
theorem text_plain {t : Int} (h3 : t ≤ 3) : ∀ x : Sen, senOk t x = true → (textS x).any askB = !plainS x
  | .one, _ => rfl
  | .zero, _ => rfl
  | .thing i, h => by
    have : (i : Int) < t := of_decide_eq_true h
    simp [textS, plainS, askB]; omega
  | .no x, h => by
    have := text_plain h3 x h
    simp only [textS, plainS, List.any_cons, this]; rfl
  | .ask x, h => by simp [textS, plainS, askB]
  | .and_ x y, h => by
    unfold senOk at h
    rw [Bool.and_eq_true] at h
    have e1 := text_plain h3 x h.1
    have e2 := text_plain h3 y h.2
    simp only [textS, plainS, List.any_cons, List.any_append, e1, e2, List.any_nil, Bool.not_and]
    simp [askB]
  | .or_ x y, h => by simp [textS, plainS, askB]
  | .if_ x y, h => by
    unfold senOk at h
    rw [Bool.and_eq_true] at h
    have e1 := text_plain h3 x h.1
    have e2 := text_plain h3 y h.2
    simp only [textS, plainS, List.any_cons, List.any_append, e1, e2, List.any_nil, Bool.not_and]
    simp [askB]
theorem text_ascii {t : Int} (h3 : t ≤ 3) : ∀ x : Sen, senOk t x = true → ∀ c ∈ textS x, c < 128
  | .one, _ => by simp [textS]
  | .zero, _ => by simp [textS]
  | .thing i, h => by
    have : (i : Int) < t := of_decide_eq_true h
    simp [textS]; omega
  | .no x, h => by
    have := text_ascii h3 x h
    intro c hc; rcases List.mem_cons.1 hc with rfl | hc
    · omega
    · exact this c hc
  | .ask x, h => by
    have := text_ascii h3 x h
    intro c hc; rcases List.mem_cons.1 hc with rfl | hc
    · omega
    · exact this c hc
  | .and_ x y, h => by
    unfold senOk at h
    rw [Bool.and_eq_true] at h
    have e1 := text_ascii h3 x h.1
    have e2 := text_ascii h3 y h.2
    intro c hc
    simp only [textS, List.mem_cons, List.mem_append, List.not_mem_nil, or_false] at hc
    rcases hc with rfl | hc | rfl | hc | rfl <;> first | omega | exact e1 c hc | exact e2 c hc
  | .or_ x y, h => by
    unfold senOk at h
    rw [Bool.and_eq_true] at h
    have e1 := text_ascii h3 x h.1
    have e2 := text_ascii h3 y h.2
    intro c hc
    simp only [textS, List.mem_cons, List.mem_append, List.not_mem_nil, or_false] at hc
    rcases hc with rfl | hc | rfl | hc | rfl <;> first | omega | exact e1 c hc | exact e2 c hc
  | .if_ x y, h => by
    unfold senOk at h
    rw [Bool.and_eq_true] at h
    have e1 := text_ascii h3 x h.1
    have e2 := text_ascii h3 y h.2
    intro c hc
    simp only [textS, List.mem_cons, List.mem_append, List.not_mem_nil, or_false] at hc
    rcases hc with rfl | hc | rfl | hc | rfl <;> first | omega | exact e1 c hc | exact e2 c hc
theorem sen_contains {t : Int} {s : ByteArray} {x : Sen} (h : senT t s = some x) : Lib.containsAny s.data.toList (ByteArray.mk #[124, 63]).data.toList = !plainS x := by
  obtain ⟨h1, h3, _, hok, ht⟩ := senT_ok h
  rw [indexAny_any, ← text_plain h3 x hok, ← ht]
  unfold bytesN
  rw [List.any_map]
  congr 1
  funext c
  have e : ∀ k : UInt8, c = k ↔ c.toNat = k.toNat := fun k => UInt8.toNat_inj.symm
  rw [Bool.eq_iff_iff]
  simp [askB, e]
theorem sen_ascii {t : Int} {s : ByteArray} {x : Sen} (h : senT t s = some x) : ∀ (j : Nat) b, s.data.toList[j]? = some b → b.toNat < 128 := by
  obtain ⟨h1, h3, _, hok, ht⟩ := senT_ok h
  intro j b hb
  refine text_ascii h3 x hok _ ?_
  rw [← ht]
  unfold bytesN
  exact List.mem_map.2 ⟨b, List.mem_of_getElem? hb, rfl⟩
theorem trueTo_lt (t : Int) (x : Sen) : ∀ k, k ≤ 8 → trueTo t x k < 2 ^ k
  | 0, _ => by simp [trueTo]
  | k + 1, h => by
    have := trueTo_lt t x k (by omega)
    unfold trueTo
    rw [Nat.pow_succ]
    split <;> omega
theorem true_or {t : Int} {x : Sen} {k : Nat} (hk : k ≤ 7) (h : holdsS t x (worldS k) = true) : trueTo t x k ||| 2 ^ k = trueTo t x (k + 1) := by
  have := trueTo_lt t x k (by omega)
  conv => rhs; unfold trueTo
  have e := Nat.two_pow_add_eq_or_of_lt this 1
  rw [Nat.mul_one] at e
  rw [if_pos h, Nat.or_comm, ← e, Nat.add_comm]
theorem true_skip {t : Int} {x : Sen} {k : Nat} (h : holdsS t x (worldS k) = false) : trueTo t x k = trueTo t x (k + 1) := by
  conv => rhs; unfold trueTo
  rw [if_neg (by rw [h]; decide)]; rfl

set_option maxRecDepth 100000 in
set_option maxHeartbeats 4000000 in
theorem iTrueIn (t : Int) (s : ByteArray) (w : World) (hs : s.size ≤ 9223372036854775807) :
    Calls Try.prog 31 #[.int .i64 t, .string s] w fun e w' => e = .returned (.int .i64 (trueT t s)) ∧ Below w.heap.size w w' := by
  rcases hx : senT t s with _ | x
  · have HX := Lib.hid hx
    rw [show trueT t s = -1 by unfold trueT; rw [hx]]
    clear hx
    go_enter Try.func31, Try.ntmps31
    go_wp2_with fail
    refine (iRead_none HX _ hs).mono ?_
    rintro e w1 ⟨rfl, hb⟩
    have HB := Lib.hid hb
    clear hb
    go_wp2_with fail
    go_ret
    exact ⟨rfl, HB.out⟩
  · have HX := Lib.hid hx
    obtain ⟨h1, h3, _, hok, _⟩ := senT_ok hx
    rw [show trueT t s = (trueTo t x (nWorlds t) : Int) by unfold trueT; rw [hx]]
    obtain ⟨hw, hw8⟩ := worlds_n h1 h3
    have HW := Lib.hid hw
    clear hx hw
    go_enter Try.func31, Try.ntmps31
    go_wp2_with fail
    refine (iRead_some HX _ hs).mono ?_
    rintro e w1 ⟨p, rfl, hn, hb⟩
    have HN := Lib.hid hn
    have HB := Lib.hid hb
    clear hb hn
    go_wp2_with (go_at_call 40; refine (iWorldsOf _ _).mono ?_; rintro e w' ⟨rfl, rfl⟩)
    rw [HW.out]
    obtain ⟨n, HNW⟩ : ∃ n, Hid (nWorlds t = n) := ⟨_, rfl⟩
    rw [HNW.out] at hw8 ⊢
    go_loopw [7, 19] (fun v i wr => ∃ k : Nat, k ≤ n ∧ i = .int .i64 k ∧ v = .int .i64 (trueTo t x k) ∧ Below w1.heap.size w1 wr) (fun _ i _ => n - (Go.RowKit.intOf i).toNat)
    case atStart => exact ⟨0, Nat.zero_le _, rfl, rfl, Below.refl _ _⟩
    case round =>
      obtain ⟨k, hk, rfl, rfl, hbr⟩ := hrel
      have HBR := Lib.hid hbr
      clear hbr
      by_cases hlt : k < n
      · have hall : worldS k ≤ allOf t := (world_ok h1 h3 (by rw [HNW.out]; exact hlt)).2
        have HI : Hid (Calls Try.prog 48 #[.int .i64 t, .int .i64 ((2 ^ k : Nat) : Int), .pointer p] wr fun e w' => e = .returned (.bool (holdsS t x (worldS k))) ∧ Below wr.heap.size wr w') :=
          iSupports t (2 ^ k) h1 h3 hall x p _ _ hok (HN.out.below HBR.out)
        have h8 : k = 0 ∨ k = 1 ∨ k = 2 ∨ k = 3 ∨ k = 4 ∨ k = 5 ∨ k = 6 ∨ k = 7 := by omega
        have HLT := Lib.hid hlt
        have hlti : (k : Int) < (n : Int) := by omega
        have htl := trueTo_lt t x k (by omega)
        rcases hh : holdsS t x (worldS k) with _ | _
        · rw [hh] at HI
          have HS := Lib.hid (true_skip hh)
          clear hk hh hall hw8
          rcases h8 with rfl | rfl | rfl | rfl | rfl | rfl | rfl | rfl
          all_goals
            go_wp2_with fail
            refine HI.out.mono ?_
            rintro e w2 ⟨rfl, hb⟩
            have HB2 := Lib.hid (bel_trans HBR.out hb)
            clear hb
            go_wp2_with fail
            refine ⟨⟨_, HLT.out, rfl, by rw [HS.out], HB2.out⟩, ?_⟩
            have := HLT.out
            simp [Go.RowKit.intOf]
            omega
        · rw [hh] at HI
          have HS := Lib.hid (true_or (by omega) hh)
          obtain ⟨tv, HTV⟩ : ∃ tv, Hid (trueTo t x k = tv) := ⟨_, rfl⟩
          rw [HTV.out] at HS htl ⊢
          clear hk hh hall hw8
          rcases h8 with rfl | rfl | rfl | rfl | rfl | rfl | rfl | rfl
          all_goals
            go_wp2_with fail
            refine HI.out.mono ?_
            rintro e w2 ⟨rfl, hb⟩
            have HB2 := Lib.hid (bel_trans HBR.out hb)
            clear hb
            go_wp2_with fail
            rw [bits_or _ _ (by omega) (by simp at htl; omega) (by omega) (by omega)]
            refine ⟨⟨_, HLT.out, rfl, by rw [← HS.out]; rfl, HB2.out⟩, ?_⟩
            have := HLT.out
            simp [Go.RowKit.intOf]
            omega
      · obtain rfl : k = n := by omega
        have HB2 := Lib.hid (bel_trans HB.out HBR.out)
        go_wp2_with fail
        go_ret
        exact ⟨ret_int (by rw [HNW.out]), HB2.out⟩

end Go.Proofs.Ytjilcnehndmoaaa

namespace Go.Proofs.Ytjilcnehndmoaaa
open Go.RowKit

def SNone (w : World) (e : Ending) (w' : World) : Prop := ∃ A n c, e = .returned (.tuple #[.slice A n c, .bool false, .int .i64 (-1)]) ∧ Below w.heap.size w w'
def SSome (t : Int) (s : ByteArray) (x : Sen) (rest : List Nat) (w : World) (e : Ending) (w' : World) : Prop :=
  ∃ v, ∃ a2 : Nat, e = .returned (.tuple #[v, .bool (plainS x), .int .i64 a2]) ∧ a2 ≤ s.size ∧ (bytesN s).drop a2 = rest ∧ Owns w' w.heap.size v (issueS t x) ∧ Below w.heap.size w w'
def SRead (t : Int) (s : ByteArray) (o : Option (Sen × List Nat)) (w : World) (e : Ending) (w' : World) : Prop :=
  match o with
  | some (x, rest) => SSome t s x rest w e w'
  | none => SNone w e w'
def OwnPost3 (g at_ : Nat) (w : World) (e : Ending) (w' : World) : Prop := ∃ v, e = .returned (.tuple #[v, .bool true, .int .i64 ((at_ + 1 : Nat) : Int)]) ∧ Owns w' w.heap.size v [(g : Int)] ∧ Below w.heap.size w w'
end Go.Proofs.Ytjilcnehndmoaaa

namespace Go.Proofs.Ytjilcnehndmoaaa
open Go.RowKit


end Go.Proofs.Ytjilcnehndmoaaa

namespace Go.Proofs.Ytjilcnehndmoaaa
open Go.RowKit


end Go.Proofs.Ytjilcnehndmoaaa

namespace Go.Proofs.Ytjilcnehndmoaaa
open Go.RowKit

end Go.Proofs.Ytjilcnehndmoaaa

namespace Go.Proofs.Ytjilcnehndmoaaa
open Go.RowKit

def SHold (t : Int) (s : ByteArray) (x : Sen) (rest : List Nat) (m : Nat) (w : World) (e : Ending) (w' : World) : Prop :=
  ∃ a2 : Nat, e = .returned (.tuple #[.bool (holdsS t x m), .int .i64 a2]) ∧ a2 ≤ s.size ∧ (bytesN s).drop a2 = rest ∧ ∃ q, w' = w.drewN q
def allTo (f : Nat → Bool) (k : Nat) : Bool := (List.range k).all f
theorem allTo_succ (f : Nat → Bool) (k : Nat) : allTo f (k + 1) = (allTo f k && f k) := by
  unfold allTo; rw [List.range_succ, List.all_append]; simp
theorem allTo_zero (f : Nat → Bool) : allTo f 0 = true := rfl
theorem hasW_div (m k : Nat) : hasW (m : Int) k = decide (m / 2 ^ k % 2 = 1) := by
  unfold hasW; rw [Int.toNat_natCast, Nat.testBit_eq_decide_div_mod_eq]
theorem has_walk {m k : Nat} {b : Bool} (h : hasW (m : Int) k = b) : (((m : Int) / 2 ^ k).tmod 2 == 0) = !b := by
  have e4 : (2 : Int) ^ k = ((2 ^ k : Nat) : Int) := by push_cast; rfl
  rw [e4, tmod2_nat]
  rw [hasW_div] at h
  subst h
  rcases Nat.mod_two_eq_zero_or_one (m / 2 ^ k) with h | h <;> rw [h] <;> rfl
theorem bit_walk (i k : Nat) (d : Int) (hd : d = ((2 ^ i : Nat) : Int)) : ((k : Int) / d % 2 == 1) = bitOf (97 + i) k := by
  subst hd
  rw [show (k : Int) / ((2 ^ i : Nat) : Int) % 2 = ((k / 2 ^ i % 2 : Nat) : Int) by push_cast; rfl]
  unfold bitOf
  rw [decide_eq_false (by omega : ¬ 97 + i = 49), decide_eq_false (by omega : ¬ 97 + i = 48), show 97 + i - 97 = i by omega]
  rcases Nat.mod_two_eq_zero_or_one (k / 2 ^ i) with h | h <;> rw [h] <;> rfl
theorem wordTo_bit (c : Nat) : ∀ n w, (wordTo c n).testBit w = (decide (w < n) && bitOf c w)
  | 0, w => by simp [wordTo]
  | n + 1, w => by
    have ih := wordTo_bit c n w
    unfold wordTo
    rw [Nat.testBit_or, ih]
    by_cases e : w = n
    · subst e
      cases h : bitOf c w
      · simp
      · simp
    · have h2 : (if bitOf c n = true then 2 ^ n else 0).testBit w = false := by
        split
        · rw [Nat.testBit_two_pow]; simp; omega
        · simp
      rw [h2]
      cases bitOf c w
      · simp
      · simp; omega
theorem thing_all {t : Int} {i m : Nat} (h1 : 1 ≤ t) (h3 : t ≤ 3) (hi : (i : Int) < t) (hm : (m : Int) ≤ allOf t) : holdsS t (.thing i) m = allTo (fun w => !hasW (m : Int) w || bitOf (97 + i) w) (nWorlds t) := by
  show withinB (m : Int) (letterSet t i) = _
  rw [← word_thing h1 h3 hi, Bool.eq_iff_iff, within_iff (by omega)]
  unfold allTo
  rw [List.all_eq_true]
  constructor
  · intro h w hw
    have := h w
    rw [Int.toNat_natCast, Int.toNat_natCast, wordTo_bit] at this
    unfold hasW
    rw [Int.toNat_natCast]
    cases hb : m.testBit w
    · rfl
    · have := this hb
      rw [Bool.and_eq_true] at this
      rw [this.2]; rfl
  · intro h w hb
    have hlt := has_lt h1 h3 (s := (m : Int)) (by omega) hm (w := w) hb
    have := h w (List.mem_range.2 hlt)
    unfold hasW at this
    rw [hb] at this
    rw [Int.toNat_natCast, wordTo_bit, decide_eq_true hlt]
    simpa using this


end Go.Proofs.Ytjilcnehndmoaaa

namespace Go.Proofs.Ytjilcnehndmoaaa
open Go.RowKit

theorem two_pow_cast (k : Nat) : (2 : Int) ^ k = ((2 ^ k : Nat) : Int) := by push_cast; rfl
theorem wrap_pow {k : Nat} (h : k < 8) : wrap64 ((2 : Int) ^ k) = ((2 ^ k : Nat) : Int) := by
  have : 2 ^ k ≤ 2 ^ 7 := Nat.pow_le_pow_right (by omega) (by omega)
  rw [two_pow_cast]
  obtain ⟨p, hp⟩ : ∃ p, 2 ^ k = p := ⟨_, rfl⟩
  rw [hp] at this ⊢
  exact IntWalk.wrap64_in _ ⟨by omega, by omega⟩
def NoneF (t : Int) (x : Sen) (m : Nat) (w : Nat) : Bool := !hasW (m : Int) w || !holdsS t x (worldS w)
theorem no_all (t : Int) (x : Sen) (m : Nat) : holdsS t (.no x) m = allTo (NoneF t x m) (nWorlds t) := rfl
theorem ask_all (t : Int) (x : Sen) (m : Nat) : holdsS t (.ask x) m = (holdsS t x m || allTo (NoneF t x m) (nWorlds t)) := rfl


end Go.Proofs.Ytjilcnehndmoaaa

namespace Go.Proofs.Ytjilcnehndmoaaa
open Go.RowKit

def IfF (t : Int) (x y : Sen) (m : Nat) (u : Nat) : Bool := !withinB (u : Int) (m : Int) || !holdsS t x (u : Int) || holdsS t y (u : Int)
theorem if_all (t : Int) (x y : Sen) (m : Nat) : holdsS t (.if_ x y) m = allTo (IfF t x y m) (m + 1) := by
  show (List.range ((m : Int).toNat + 1)).all _ = _
  rw [Int.toNat_natCast]; rfl

end Go.Proofs.Ytjilcnehndmoaaa

namespace Go.Proofs.Ytjilcnehndmoaaa
open Go.RowKit

theorem start_thing {t : Int} {c : Nat} (h : startB t c = true) (e1 : c ≠ 49) (e2 : c ≠ 48) (e3 : c ≠ 33) (e4 : c ≠ 63) (e5 : c ≠ 40) : ∃ i : Nat, c = 97 + i ∧ (i : Int) < t := by
  unfold startB at h
  simp only [Bool.or_eq_true, decide_eq_true_eq] at h
  exact ⟨c - 97, by omega, by omega⟩
theorem read_thing {t : Int} {i k : Nat} {l : List Nat} (hi : (i : Int) < t) : readS t (k + 1) ((97 + i) :: l) = some (.thing i, l) := by
  unfold readS
  rw [if_neg (by omega), if_neg (by omega), if_pos ⟨by omega, by omega⟩]
  congr 3; omega

end Go.Proofs.Ytjilcnehndmoaaa

namespace Go.Proofs.Ytjilcnehndmoaaa
open Go.RowKit

theorem senT_bad {t : Int} {s : ByteArray} (h : t < 1 ∨ 3 < t ∨ 60 < s.size) : senT t s = none := by
  unfold senT senOf; rw [if_neg (by rw [bytesN_len]; omega)]
theorem senT_none {t : Int} {s : ByteArray} (h1 : 1 ≤ t) (h3 : t ≤ 3) (hl : s.size ≤ 60) (h : readS t s.size (bytesN s) = none) : senT t s = none :=
  senOf_none h1 h3 (by rw [bytesN_len]; exact hl) (by rw [bytesN_len]; exact h)
theorem senT_more {t : Int} {s : ByteArray} {x : Sen} {c : Nat} {r : List Nat} (h1 : 1 ≤ t) (h3 : t ≤ 3) (hl : s.size ≤ 60) (h : readS t s.size (bytesN s) = some (x, c :: r)) : senT t s = none :=
  senOf_more h1 h3 (by rw [bytesN_len]; exact hl) (by rw [bytesN_len]; exact h)
theorem senT_some {t : Int} {s : ByteArray} {x : Sen} (h1 : 1 ≤ t) (h3 : t ≤ 3) (hl : s.size ≤ 60) (h : readS t s.size (bytesN s) = some (x, [])) : senT t s = some x :=
  senOf_some h1 h3 (by rw [bytesN_len]; exact hl) (by rw [bytesN_len]; exact h)
theorem read_of_sen {t : Int} {s : ByteArray} {x : Sen} (h : senT t s = some x) : readS t s.size (bytesN s) = some (x, []) := by
  obtain ⟨h1, h3, hl, hok, ht⟩ := senT_ok h
  rcases hr : readS t s.size (bytesN s) with _ | ⟨y, _ | ⟨c, r⟩⟩
  · rw [senT_none h1 h3 hl hr] at h; cases h
  · rw [senT_some h1 h3 hl hr] at h; cases h; rfl
  · rw [senT_more h1 h3 hl hr] at h; cases h
theorem isT_none {t : Int} {s : ByteArray} (h : senT t s = none) : isT t s = false := (issueT_none h).2
theorem isT_some {t : Int} {s : ByteArray} {x : Sen} (h : senT t s = some x) : isT t s = true := (issueT_some h).2

theorem supports_world {t : Int} {s : ByteArray} {x : Sen} {k : Nat} (h : senT t s = some x) (hk : k < nWorlds t) : supportsT t ((2 ^ k : Nat) : Int) s = holdsS t x (worldS k) := by
  obtain ⟨h1, h3, _⟩ := senT_ok h
  have := world_ok h1 h3 hk
  unfold supportsT
  rw [h]
  show (setOkB t (worldS k) && _) = _
  rw [setOk_of h1 h3 this.1 this.2]; rfl
theorem true_add {t : Int} {x : Sen} {k : Nat} (h : holdsS t x (worldS k) = true) : trueTo t x k + 2 ^ k = trueTo t x (k + 1) := by
  conv => rhs; unfold trueTo
  rw [if_pos h]

end Go.Proofs.Ytjilcnehndmoaaa

namespace Go.Proofs.Ytjilcnehndmoaaa
open Go.RowKit

/-- A new row of strings is still there behind a draw. -/
theorem lit_str {w w' : World} {g : Nat} (xs : List ByteArray) {t : TypeId} (hg : (w.alloc (.cells (xs.map Value.string).toArray t)).grownBy w' (some g)) (hne : g < w.heap.size) {k : Int} (h0 : 0 ≤ k) (hk : k < xs.length) :
    ∃ x : ByteArray, x ∈ xs ∧ w'.cell? ⟨w.heap.size, k.toNat, none⟩ = some (.string x) := by
  have hb : w'.heap[w.heap.size]? = (w.alloc (.cells (xs.map Value.string).toArray t)).heap[w.heap.size]? := hg.block w.heap.size (by simp) (fun e => by injection e; omega)
  have hi : k.toNat < xs.length := by omega
  refine ⟨xs[k.toNat], List.getElem_mem hi, ?_⟩
  have h2 : (w.alloc (.cells (xs.map Value.string).toArray t)).heap[w.heap.size]? = some (.cells (xs.map Value.string).toArray t (0, 0)) := heap_alloc_new w _
  rw [h2] at hb
  rw [cell_of_row w' w.heap.size k.toNat _ t (0, 0) hb]
  simp [hi]
def StrPost (hi : Nat) (g u : Nat) (w : World) (e : Ending) (w' : World) : Prop := ∃ s : ByteArray, e = .returned (.string s) ∧ 1 ≤ s.size ∧ s.size ≤ hi ∧ Rd w' g u ∧ w.grownBy w' (some g)

def words6 : List ByteArray := [⟨#[97]⟩, ⟨#[98]⟩, ⟨#[99]⟩, ⟨#[97]⟩, ⟨#[48]⟩, ⟨#[49]⟩]
theorem words6_size {x : ByteArray} (h : x ∈ words6) : x.size = 1 := by
  simp only [words6, List.mem_cons, List.not_mem_nil, or_false] at h
  rcases h with rfl | rfl | rfl | rfl | rfl | rfl <;> rfl
def words5 : List ByteArray := [⟨#[]⟩, ⟨#[99]⟩, ⟨#[40]⟩, ⟨#[38]⟩, ⟨#[33]⟩]
theorem words5_size {x : ByteArray} (h : x ∈ words5) : x.size ≤ 1 := by
  simp only [words5, List.mem_cons, List.not_mem_nil, or_false] at h
  rcases h with rfl | rfl | rfl | rfl | rfl <;> decide

theorem one_size (b : UInt8) : (ByteArray.mk #[b]).size = 1 := rfl

theorem str_more {hi hi' : Nat} {g u u' : Nat} {w : World} {e : Ending} {w' : World} (h : StrPost hi g u w e w') (h1 : hi ≤ hi') (h2 : u ≤ u') : StrPost hi' g u' w e w' := by
  obtain ⟨s, he, h3, h4, hr, hg⟩ := h
  exact ⟨s, he, h3, by omega, hr.more h2, hg⟩
end Go.Proofs.Ytjilcnehndmoaaa
