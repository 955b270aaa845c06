/-
  What the proofs of this seat's statements share (LdcF, LdcG).
-/
import Derived.Test.YtjilcnehndmoaaaU18
import Derived.Test.YtjilcnehndmoaaaU12
import Derived.Test.YtjilcnehndmoaaaU14

namespace Go.Proofs.Ytjilcnehndmoaaa
open Go.RowKit

theorem LdAt.drewN {t : Int} {w : World} {lo : Nat} {x : Ld} {v : Value} (h : LdAt t w lo x v) (n : Nat) : LdAt t (w.drewN n) lo x v := h.keep (Nat.le_refl _) fun _ _ _ => rfl
theorem lcatch_panicking (p q : Addr) (v0 v1 : Value) (u : TypeId) (pv : Value) (w : World) (h0 : w.cell? p = some v0) (h1 : w.cell? q = some v1) (f0 : w.frozen? p = false) (f1 : w.frozen? q = false) (hne : p.block ≠ q.block) :
    CallsD Try.prog 53 #[.pointer (some p), .pointer (some q)] (.panicking [{ v := .iface u pv, recovered := false }]) w fun e u' w' =>
      e = .returned (.tuple #[]) ∧ u' = .panicking [{ v := .iface u pv, recovered := true }] ∧ w' = (w.setCell p .nilFunc).setCell q (.bool false) := by
  refine callsD_of_wpS Try.func53 rfl fun c₀ cs hu => ?_
  apply wpS_seq
  apply wpS_region
  simp [wpOpsS, go_sem, recoverD, hu, Try.ntmps53, Exit.thenS]
  refine wpS_cond (t := true) (by simp [Act.eval, Array.replicate]) ?_
  simp only [if_true]
  apply wpS_region
  have h2 : (w.setCell p .nilFunc).cell? q = some v1 := (World.cell?_setCell_far w p q _ hne).trans h1
  have f2 : (w.setCell p .nilFunc).frozen? q = false := by rw [World.frozen?_setCell]; exact f1
  simp [wpOpsS, go_sem, h0, f0, h2, f2, bodyPostS, results, Try.results53]
theorem lcatch_idle (p q : Addr) (w : World) :
    CallsD Try.prog 53 #[.pointer (some p), .pointer (some q)] .returning w fun e u' w' => e = .returned (.tuple #[]) ∧ u' = .returning ∧ w' = w := by
  refine callsD_of_wpS Try.func53 rfl fun c₀ cs hu => ?_
  apply wpS_seq
  apply wpS_region
  simp [wpOpsS, go_sem, recoverD, hu, Try.ntmps53, Exit.thenS]
  refine wpS_cond (t := false) (by simp [Act.eval, Array.replicate]) ?_
  simp only [Bool.false_eq_true, if_false]
  refine wpS_of_wp (wp_skip ?_)
  cases c₀
  simp_all [bodyPostS, results, Try.results53]

def nothing8 : Value := .tuple #[.agg #[.nilFunc], .bool false]
set_option maxRecDepth 100000 in
set_option maxHeartbeats 4000000 in
theorem iLReadS_bad (t : Int) (s : ByteArray) (w : World) (h : t < 1 ∨ 3 < t ∨ 60 < s.size) (hs : s.size ≤ 9223372036854775807) :
    Calls Try.prog 37 #[.int .i64 t, .string s] w fun e w' => e =   .returned nothing8 ∧ Below w.heap.size w w' := by
  have x0 := Boxed.new w 43 .nilFunc
  have x1 := Boxed.new (w.alloc (.cells #[.nilFunc] 43)) 4 (.bool false)
  rw [World.size_alloc] at x1
  have hc0 := (x0.alloc (.cells #[.bool false] 4)).cell
  have hc1 := x1.cell
  have HB : Hid (Below w.heap.size w ((w.alloc (.cells #[.nilFunc] 43)).alloc (.cells #[.bool false] 4))) := ((Below.refl _ _).alloc (Nat.le_refl _) _).alloc (by simp) _
  clear x0 x1
  obtain ⟨n, HN⟩ : ∃ n, Hid (worldsOf t = n) := ⟨_, rfl⟩
  by_cases h1 : t < 1 ∨ 3 < t
  · have hd : decide (n < 0) = true := decide_eq_true (by rw [← HN.out, worldsOf_bad h1]; omega)
    clear h h1
    go_enter_defers Try.func37, Try.ntmps37
    go_wp2_with (go_at_call 40; refine (iWorldsOf _ _).mono ?_; rintro e w' ⟨rfl, rfl⟩; rw [HN.out])
    exact ⟨nothing8, by simp [results, Try.results37, go_sem, hc0, hc1, nothing8], rfl, HB.out⟩
  · have hd : decide (n < 0) = false := decide_eq_false (by rw [← HN.out, (worlds_n (t := t) (by omega) (by omega)).1]; omega)
    have hd2 : decide ((60 : Int) < (s.size : Int)) = true := decide_eq_true (by omega)
    clear h h1
    go_enter_defers Try.func37, Try.ntmps37
    go_wp2_with (go_at_call 40; refine (iWorldsOf _ _).mono ?_; rintro e w' ⟨rfl, rfl⟩; rw [HN.out])
    exact ⟨nothing8, by simp [results, Try.results37, go_sem, hc0, hc1, nothing8], rfl, HB.out⟩

def startsD (n : Nat) : ByteArray := ⟨#[48, 49, 33, 91, 40]⟩ ++ (⟨#[97, 98, 99]⟩ : ByteArray).extract 0 n
theorem startsD_ok (n : Nat) (h1 : 1 ≤ n) (h3 : n ≤ 3) : StOkD n (startsD n) := by
  intro c
  have e : ∀ k : UInt8, c = k ↔ c.toNat = k.toNat := fun k => UInt8.toNat_inj.symm
  have hl : (startsD n).data.toList = [48, 49, 33, 91, 40] ++ [97, 98, 99].take n := by
    have : n = 1 ∨ n = 2 ∨ n = 3 := by omega
    rcases this with rfl | rfl | rfl <;> rfl
  rw [hl, Bool.eq_iff_iff]
  unfold startD
  have : n = 1 ∨ n = 2 ∨ n = 3 := by omega
  rcases this with rfl | rfl | rfl <;> simp [e] <;> omega
theorem ldOf_none {t : Int} {l : List Nat} (h1 : 1 ≤ t) (h3 : t ≤ 3) (hl : l.length ≤ 60) (h : readD t l.length l = none) : ldOf t l = none := by
  unfold ldOf; rw [if_pos ⟨h1, h3, hl⟩, h]
theorem ldOf_more {t : Int} {l : List Nat} {x : Ld} {c : Nat} {r : List Nat} (h1 : 1 ≤ t) (h3 : t ≤ 3) (hl : l.length ≤ 60) (h : readD t l.length l = some (x, c :: r)) : ldOf t l = none := by
  unfold ldOf; rw [if_pos ⟨h1, h3, hl⟩, h]
theorem ldOf_some {t : Int} {l : List Nat} {x : Ld} (h1 : 1 ≤ t) (h3 : t ≤ 3) (hl : l.length ≤ 60) (h : readD t l.length l = some (x, [])) : ldOf t l = some x := by
  unfold ldOf; rw [if_pos ⟨h1, h3, hl⟩, h]
def LdPost (t : Int) (s : ByteArray) (w : World) (e : Ending) (w' : World) : Prop :=
  match ldOf t (bytesN s) with
  | some x => ∃ v, e = .returned (.tuple #[.agg #[v], .bool true]) ∧ LdAt t w' w.heap.size x v ∧ Below w.heap.size w w'
  | none => e =   .returned nothing8 ∧ Below w.heap.size w w'
theorem LdPost.of_none {t : Int} {s : ByteArray} {w : World} {e : Ending} {w' : World} (h : ldOf t (bytesN s) = none) (he : e = .returned nothing8) (hb : Below w.heap.size w w') : LdPost t s w e w' := by
  unfold LdPost; rw [h]; exact ⟨he, hb⟩
theorem LdPost.of_some {t : Int} {s : ByteArray} {w : World} {e : Ending} {w' : World} {x : Ld} (h : ldOf t (bytesN s) = some x) {v : Value} (he : e = .returned (.tuple #[.agg #[v], .bool true])) (hn : LdAt t w' w.heap.size x v) (hb : Below w.heap.size w w') : LdPost t s w e w' := by
  unfold LdPost; rw [h]; exact ⟨v, he, hn, hb⟩

set_option maxRecDepth 100000 in
set_option maxHeartbeats 4000000 in
theorem iLReadS_ok (n : Nat) (s : ByteArray) (w : World) (h1 : 1 ≤ n) (h3 : n ≤ 3) (hs : s.size ≤ 60) :
    Calls Try.prog 37 #[.int .i64 n, .string s] w (LdPost n s w) := by
  have hmf : ∀ (fn : Fn) (first cap : Array Value) (w : World), (Instr.makeFunc fn first cap).run Try.prog w = .ok (.func fn first cap) w := fun _ _ _ _ => rfl
  have hd : decide ((60 : Int) < (s.size : Int)) = false := decide_eq_false (by omega)
  obtain ⟨m, HN⟩ : ∃ m, Hid (worldsOf n = m) := ⟨_, rfl⟩
  have hd2 : decide (m < 0) = false := decide_eq_false (by rw [← HN.out, (worlds_n (t := n) (by omega) (by omega)).1]; omega)
  go_enter_defers Try.func37, Try.ntmps37
  go_wp2_with (go_at_call 40; refine (iWorldsOf _ _).mono ?_; rintro e w' ⟨rfl, rfl⟩; rw [HN.out])
  obtain ⟨W, hW⟩ : ∃ W, ((w.alloc (.cells #[.nilFunc] 43)).alloc (.cells #[.bool false] 4)).alloc (.cells #[.string s, .int .i64 0, .string (⟨#[48, 49, 33, 91, 40]⟩ ++ (⟨#[97, 98, 99]⟩ : ByteArray).extract 0 n)] 64) = W := ⟨_, rfl⟩
  have x0 : Boxed W w.heap.size 43 .nilFunc := by rw [← hW]; exact ((Boxed.new w 43 .nilFunc).alloc _).alloc _
  have x1 : Boxed W (w.heap.size + 1) 4 (.bool false) := by
    rw [← hW]; have := Boxed.new (w.alloc (.cells #[.nilFunc] 43)) 4 (.bool false); rw [World.size_alloc] at this; exact this.alloc _
  have hr : RdrAt W (w.heap.size + 1 + 1) s 0 (startsD n) := by
    rw [← hW]; have := World.alloc_heap_new ((w.alloc (.cells #[.nilFunc] 43)).alloc (.cells #[.bool false] 4)) (.cells #[.string s, .int .i64 0, .string (startsD n)] 64); simp only [World.size_alloc] at this; exact this
  have hB : Below w.heap.size w W := by rw [← hW]; exact (((Below.refl _ _).alloc (Nat.le_refl _) _).alloc (by simp) _).alloc (by simp; omega) _
  have hsz : w.heap.size + 3 ≤ W.heap.size := by rw [← hW]; simp
  rw [hW]
  clear hW
  have hread := iLoaded n (w.heap.size + 1 + 1) s (startsD n) (by omega) (by omega) (by omega) (startsD_ok n h1 h3) s.size 0 W hr (by omega) (by omega)
  rw [List.drop_zero] at hread
  have HB := Lib.hid hB
  have X0 := Lib.hid x0
  have X1 := Lib.hid x1
  have hlen : (bytesN s).length = s.size := bytesN_len s
  have hln : ∀ o, readD n s.size (bytesN s) = o → readD n (bytesN s).length (bytesN s) = o := fun o h => by rw [hlen]; exact h
  clear x0 x1 hB hr
  rcases hrd : readD n s.size (bytesN s) with _ | ⟨x, rest⟩
  · rw [hrd] at hread
    have HI : Hid (Calls Try.prog 54 #[.pointer (some ⟨w.heap.size + 1 + 1, 0, none⟩), .int .i64 n] W (Panics (w.heap.size + 1 + 1) W)) := hread
    have HE := Lib.hid (ldOf_none (t := n) (by omega) (by omega) (by rw [hlen]; exact hs) (hln _ hrd))
    clear hread hrd hln hlen
    refine HI.out.mono ?_
    rintro e w1 ⟨v, rfl, hg⟩
    have y0 : Boxed w1 w.heap.size 43 .nilFunc := X0.out.kept hg (fun e => by have := Option.some.inj e; omega)
    have y1 : Boxed w1 (w.heap.size + 1) 4 (.bool false) := X1.out.kept hg (fun e => by have := Option.some.inj e; omega)
    refine leaves_cons (f := 53) (args := #[.pointer (some ⟨w.heap.size, 0, none⟩), .pointer (some ⟨w.heap.size + 1, 0, none⟩)]) (by simp) (by simp [go_sem]) ?_
    refine (lcatch_panicking ⟨w.heap.size, 0, none⟩ ⟨w.heap.size + 1, 0, none⟩ _ _ _ _ _ y0.cell y1.cell y0.frozen y1.frozen (by simp)).mono ?_
    rintro e u' w'' ⟨rfl, rfl, rfl⟩
    have z0 := (box_set (y0.set .nilFunc) (.bool false) (C := w.heap.size + 1) (by omega)).cell
    have z1 := ((box_set y1 .nilFunc (C := w.heap.size) (by omega)).set (.bool false)).cell
    have HP := Lib.hid (LdPost.of_none HE.out rfl (below_caught (u0 := .nilFunc) (u1 := .bool false) HB.out hg))
    simp [Leaves, settle, results, Try.results37, go_sem, z0, z1]
    exact HP.out
  · rw [hrd] at hread
    have HI : Hid (Calls Try.prog 54 #[.pointer (some ⟨w.heap.size + 1 + 1, 0, none⟩), .int .i64 n] W (LReadSome n (w.heap.size + 1 + 1) s (startsD n) x rest W)) := hread
    have HRD := Lib.hid (hln _ hrd)
    have HLN := Lib.hid hlen
    clear hread hrd hln hlen
    refine HI.out.mono ?_
    rintro e w1 ⟨p, a1, rfl, ha1, hda, hr1, hn1, hg⟩
    obtain ⟨g1, cap1, rfl⟩ := hn1.form
    have y0 : Boxed w1 w.heap.size 43 .nilFunc := X0.out.kept hg (fun e => by have := Option.some.inj e; omega)
    have y1 : Boxed w1 (w.heap.size + 1) 4 (.bool false) := X1.out.kept hg (fun e => by have := Option.some.inj e; omega)
    have hc0 := y0.cell
    have hf0 := y0.frozen
    rcases rest with _ | ⟨c, r⟩
    · have HE := Lib.hid (ldOf_some (t := n) (by omega) (by omega) (by rw [HLN.out]; exact hs) HRD.out)
      obtain rfl := drop_end hda ha1
      have hr2 : RdrAt (w1.setCell ⟨w.heap.size, 0, none⟩ (.func (.func g1) #[] cap1)) (w.heap.size + 1 + 1) s s.size (startsD n) := (Below.heap_setCell _ _ _ _ (by show w.heap.size + 1 + 1 ≠ w.heap.size; omega)).trans hr1
      have HT := Lib.hid (iEnd_ok _ s (startsD n) _ (by omega) hr2)
      have HG := Lib.hid hg
      have Y0 := Lib.hid (y0.set (.func (.func g1) #[] cap1))
      have Y1 := Lib.hid (box_set y1 (.func (.func g1) #[] cap1) (C := w.heap.size) (by omega))
      have HN := Lib.hid hn1
      clear hda hr1 hn1 hg y0 y1 hr2
      go_wp2_with fail
      refine HT.out.mono ?_
      rintro e w2 ⟨rfl, q, rfl⟩
      clear hc0 hf0
      have hc0 := Y0.out.cell
      have hf0 := Y0.out.frozen
      have hc1 := Y1.out.cell
      have hf1 := Y1.out.frozen
      go_wp2_with fail
      refine leaves_cons (f := 53) (args := #[.pointer (some ⟨w.heap.size, 0, none⟩), .pointer (some ⟨w.heap.size + 1, 0, none⟩)]) (by simp) (by simp [go_sem]) ?_
      refine (lcatch_idle ⟨w.heap.size, 0, none⟩ ⟨w.heap.size + 1, 0, none⟩ _).mono ?_
      rintro e u' w'' ⟨rfl, rfl, rfl⟩
      have Y0q : Boxed ((w1.setCell ⟨w.heap.size, 0, none⟩ (.func (.func g1) #[] cap1)).drewN q) w.heap.size 43 (.func (.func g1) #[] cap1) := Y0.out
      have Y1q : Boxed ((w1.setCell ⟨w.heap.size, 0, none⟩ (.func (.func g1) #[] cap1)).drewN q) (w.heap.size + 1) 4 (.bool false) := Y1.out
      have z0 := (box_set (Y0q.set (.func (.func g1) #[] cap1)) (.bool true) (C := w.heap.size + 1) (by omega)).cell
      have z1 := ((box_set Y1q (.func (.func g1) #[] cap1) (C := w.heap.size) (by omega)).set (.bool true)).cell
      have hsn : LdAt n ((((w1.setCell ⟨w.heap.size, 0, none⟩ (.func (.func g1) #[] cap1)).drewN q).setCell ⟨w.heap.size, 0, none⟩ (.func (.func g1) #[] cap1)).setCell ⟨w.heap.size + 1, 0, none⟩ (.bool true)) w.heap.size x (.func (.func g1) #[] cap1) :=
        LdAt.low (lo := W.heap.size) (by omega) ((((LdAt.set HN.out (by omega) _).drewN _).set (by omega) _).set (by omega) _)
      have hbl : Below w.heap.size w ((((w1.setCell ⟨w.heap.size, 0, none⟩ (.func (.func g1) #[] cap1)).drewN q).setCell ⟨w.heap.size, 0, none⟩ (.func (.func g1) #[] cap1)).setCell ⟨w.heap.size + 1, 0, none⟩ (.bool true)) :=
        ((bel_drewN ((HB.out.grown HG.out HB.out.size (fun k e => by have := Option.some.inj e; omega)).setCell (p := ⟨w.heap.size, 0, none⟩) (Nat.le_refl _) _) q).setCell (p := ⟨w.heap.size, 0, none⟩) (Nat.le_refl _) _).setCell (p := ⟨w.heap.size + 1, 0, none⟩) (by show w.heap.size ≤ w.heap.size + 1; omega) _
      have HP := Lib.hid (LdPost.of_some HE.out rfl hsn hbl)
      simp [Leaves, settle, results, Try.results37, go_sem, z0, z1]
      exact HP.out
    · have HE := Lib.hid (ldOf_more (t := n) (by omega) (by omega) (by rw [HLN.out]; exact hs) HRD.out)
      obtain ⟨hlt, _, _⟩ := drop_lt hda
      have hr2 : RdrAt (w1.setCell ⟨w.heap.size, 0, none⟩ (.func (.func g1) #[] cap1)) (w.heap.size + 1 + 1) s a1 (startsD n) := (Below.heap_setCell _ _ _ _ (by show w.heap.size + 1 + 1 ≠ w.heap.size; omega)).trans hr1
      have HT := Lib.hid (iEnd_bad _ s (startsD n) a1 _ (by omega) hlt hr2)
      have HG := Lib.hid hg
      have Y0 := Lib.hid (y0.set (.func (.func g1) #[] cap1))
      have Y1 := Lib.hid (box_set y1 (.func (.func g1) #[] cap1) (C := w.heap.size) (by omega))
      clear hda hr1 hn1 hg y0 y1 hr2
      go_wp2_with fail
      refine HT.out.mono ?_
      rintro e w2 ⟨v, rfl, hg2⟩
      have y0 : Boxed w2 w.heap.size 43 (.func (.func g1) #[] cap1) := Boxed.kept Y0.out hg2 (fun e => by have := Option.some.inj e; omega)
      have y1 : Boxed w2 (w.heap.size + 1) 4 (.bool false) := Boxed.kept Y1.out hg2 (fun e => by have := Option.some.inj e; omega)
      refine leaves_cons (f := 53) (args := #[.pointer (some ⟨w.heap.size, 0, none⟩), .pointer (some ⟨w.heap.size + 1, 0, none⟩)]) (by simp) (by simp [go_sem]) ?_
      refine (lcatch_panicking ⟨w.heap.size, 0, none⟩ ⟨w.heap.size + 1, 0, none⟩ _ _ _ _ _ y0.cell y1.cell y0.frozen y1.frozen (by simp)).mono ?_
      rintro e u' w'' ⟨rfl, rfl, rfl⟩
      have z0 := (box_set (y0.set .nilFunc) (.bool false) (C := w.heap.size + 1) (by omega)).cell
      have z1 := ((box_set y1 .nilFunc (C := w.heap.size) (by omega)).set (.bool false)).cell
      have hb1 : Below w.heap.size w (w1.setCell ⟨w.heap.size, 0, none⟩ (.func (.func g1) #[] cap1)) := (HB.out.grown HG.out HB.out.size (fun k e => by have := Option.some.inj e; omega)).setCell (p := ⟨w.heap.size, 0, none⟩) (Nat.le_refl _) _
      have HP := Lib.hid (LdPost.of_none HE.out rfl (below_caught (u0 := .nilFunc) (u1 := .bool false) hb1 hg2))
      simp [Leaves, settle, results, Try.results37, go_sem, z0, z1]
      exact HP.out
theorem iLReadS (t : Int) (s : ByteArray) (w : World) (hs : s.size ≤ 9223372036854775807) : Calls Try.prog 37 #[.int .i64 t, .string s] w (LdPost t s w) := by
  by_cases h : t < 1 ∨ 3 < t ∨ 60 < s.size
  · refine (iLReadS_bad t s w h hs).mono ?_
    rintro e w' ⟨he, hb⟩
    exact LdPost.of_none (by unfold ldOf; rw [if_neg (by rw [bytesN_len]; omega)]) he hb
  · obtain ⟨n, rfl⟩ : ∃ n : Nat, t = n := ⟨t.toNat, by omega⟩
    exact iLReadS_ok n s w (by omega) (by omega) (by omega)
end Go.Proofs.Ytjilcnehndmoaaa

namespace Go.Proofs.Ytjilcnehndmoaaa
open Go.RowKit

theorem ldT_ok {t : Int} {s : ByteArray} {x : Ld} (h : ldT t s = some x) : 1 ≤ t ∧ t ≤ 3 ∧ s.size ≤ 60 ∧ ldOk t x = true ∧ bytesN s = textD x := by
  have := ldOf_iff.1 h
  rwa [bytesN_len] at this
theorem iLRead_none {t : Int} {s : ByteArray} (h : Hid (ldT t s = none)) (w : World) (hs : s.size ≤ 9223372036854775807) :
    Calls Try.prog 37 #[.int .i64 t, .string s] w fun e w' => e = .returned (.tuple #[.agg #[.nilFunc], .bool false]) ∧ Below w.heap.size w w' := by
  refine (iLReadS t s w hs).mono ?_
  intro e w' hp
  unfold LdPost at hp
  rw [show ldOf t (bytesN s) = none from h.out] at hp
  exact hp
theorem iLRead_some {t : Int} {s : ByteArray} {x : Ld} (h : Hid (ldT t s = some x)) (w : World) (hs : s.size ≤ 9223372036854775807) :
    Calls Try.prog 37 #[.int .i64 t, .string s] w fun e w' => ∃ v, e = .returned (.tuple #[.agg #[v], .bool true]) ∧ LdAt t w' w.heap.size x v ∧ Below w.heap.size w w' := by
  refine (iLReadS t s w hs).mono ?_
  intro e w' hp
  unfold LdPost at hp
  rw [show ldOf t (bytesN s) = some x from h.out] at hp
  exact hp

set_option maxRecDepth 100000 in
set_option maxHeartbeats 4000000 in
theorem iLoadedOk (t : Int) (s : ByteArray) (w : World) (hs : s.size ≤ 9223372036854775807) :
    Calls Try.prog 14 #[.int .i64 t, .string s] w fun e w' => e = .returned (.bool (loadedT t s)) ∧ Below w.heap.size w w' := by
  rcases hx : ldT t s with _ | x
  · have HX := Lib.hid hx
    rw [show loadedT t s = false by unfold loadedT; rw [hx]; rfl]
    clear hx
    go_enter Try.func14, Try.ntmps14
    go_wp2_with fail
    refine (iLRead_none HX _ hs).mono ?_
    rintro e w1 ⟨rfl, hb⟩
    have HB := Lib.hid (hb.alloc hb.size (.cells #[.nilFunc] 43))
    clear hb
    go_wp2_with fail
    go_ret
    exact ⟨rfl, HB.out⟩
  · have HX := Lib.hid hx
    rw [show loadedT t s = true by unfold loadedT; rw [hx]; rfl]
    clear hx
    go_enter Try.func14, Try.ntmps14
    go_wp2_with fail
    refine (iLRead_some HX _ hs).mono ?_
    rintro e w1 ⟨v, rfl, hn, hb⟩
    obtain ⟨g, cap, rfl⟩ := hn.form
    have HB := Lib.hid (hb.alloc hb.size (.cells #[.func (.func g) #[] cap] 43))
    clear hb hn
    go_wp2_with fail
    go_ret
    exact ⟨rfl, HB.out⟩

/-- What ChangedBy hands back. -/
def ChangedPost (o : Option Int) (w : World) (e : Ending) (w' : World) : Prop := e = .returned (.tuple #[.int .i64 (o.getD (-1)), .bool o.isSome]) ∧ Below w.heap.size w w'
theorem ChangedPost.no {o : Option Int} (h : o = none) {w w' : World} (hb : Below w.heap.size w w') : ChangedPost o w (.returned (.tuple #[.int .i64 (-1), .bool false])) w' := by subst h; exact ⟨rfl, hb⟩
theorem ChangedPost.yes {o : Option Int} {u : Int} (h : o = some u) {w w' : World} (hb : Below w.heap.size w w') : ChangedPost o w (.returned (.tuple #[.int .i64 u, .bool true])) w' := by subst h; exact ⟨rfl, hb⟩

set_option maxRecDepth 100000 in
set_option maxHeartbeats 4000000 in
theorem iChangedBy (t k : Int) (s : ByteArray) (w : World) (hs : s.size ≤ 9223372036854775807) :
    Calls Try.prog 18 #[.int .i64 t, .int .i64 k, .string s] w (ChangedPost (changedT t k s) w) := by
  rcases hx : ldT t s with _ | x
  · have HX := Lib.hid hx
    have HC : Hid (changedT t k s = none) := by unfold Hid changedT; rw [hx]
    clear hx
    go_enter Try.func18, Try.ntmps18
    go_wp2_with fail
    refine (iLRead_none HX _ hs).mono ?_
    rintro e w1 ⟨rfl, hb⟩
    have HB := Lib.hid (hb.alloc hb.size (.cells #[.nilFunc] 43))
    clear hb
    go_wp2_with fail
    go_ret2
    exact ChangedPost.no HC.out HB.out
  · have HX := Lib.hid hx
    rcases hset : setOkB t k with _ | _
    · have HS := Lib.hid hset
      have HC : Hid (changedT t k s = none) := by unfold Hid changedT; rw [hx]; simp only; rw [hset]; rfl
      clear hset hx
      go_enter Try.func18, Try.ntmps18
      go_wp2_with fail
      refine (iLRead_some HX _ hs).mono ?_
      rintro e w1 ⟨v, rfl, hn, hb⟩
      obtain ⟨g, cap, rfl⟩ := hn.form
      have HB := Lib.hid (hb.alloc hb.size (.cells #[.func (.func g) #[] cap] 43))
      clear hb hn
      go_wp2_with (go_at_call 44; refine (iSetOk_is HS _).mono ?_; rintro e w' ⟨rfl, rfl⟩)
      go_ret2
      exact ChangedPost.no HC.out HB.out
    · have HS := Lib.hid hset
      obtain ⟨_, _, hk0, hka, _⟩ := setOkB_lt hset
      have HC : Hid (changedT t k s = chgI t x k) := by unfold Hid changedT; rw [hx]; simp only; rw [hset]; rfl
      rw [HC.out]
      clear hset hx
      rcases hc : chgI t x k with _ | u
      · go_enter Try.func18, Try.ntmps18
        go_wp2_with fail
        refine (iLRead_some HX _ hs).mono ?_
        rintro e w1 ⟨v, rfl, hn, hb⟩
        have hrun := (hn.below ((Below.refl _ _).alloc (Nat.le_refl _) (.cells #[v] 43))).runs
        obtain ⟨g, cap, rfl, hg, hcall⟩ := hrun
        have hg : ∀ (args : Array Value) (w : World), (callFunc g args).run Try.prog w = .ok (.enter g args) w := hg
        have HCALL := Lib.hid (chg_no hc (hcall k hk0 hka))
        have HB := Lib.hid (hb.alloc hb.size (.cells #[.func (.func g) #[] cap] 43))
        have hcell := (Boxed.new w1 43 (.func (.func g) #[] cap)).cell
        clear hb hn hcall
        go_wp2_with (first
          | (go_at_call 44; refine (iSetOk_is HS _).mono ?_; rintro e w' ⟨rfl, rfl⟩)
          | (go_at_fn g; refine HCALL.out.mono ?_; clear HCALL; rintro e w' ⟨⟨u, rfl⟩, rfl⟩))
        go_ret2
        exact ChangedPost.no rfl HB.out
      · go_enter Try.func18, Try.ntmps18
        go_wp2_with fail
        refine (iLRead_some HX _ hs).mono ?_
        rintro e w1 ⟨v, rfl, hn, hb⟩
        have hrun := (hn.below ((Below.refl _ _).alloc (Nat.le_refl _) (.cells #[v] 43))).runs
        obtain ⟨g, cap, rfl, hg, hcall⟩ := hrun
        have hg : ∀ (args : Array Value) (w : World), (callFunc g args).run Try.prog w = .ok (.enter g args) w := hg
        have HCALL := Lib.hid (chg_yes hc (hcall k hk0 hka))
        have HB := Lib.hid (hb.alloc hb.size (.cells #[.func (.func g) #[] cap] 43))
        have hcell := (Boxed.new w1 43 (.func (.func g) #[] cap)).cell
        clear hb hn hcall
        go_wp2_with (first
          | (go_at_call 44; refine (iSetOk_is HS _).mono ?_; rintro e w' ⟨rfl, rfl⟩)
          | (go_at_fn g; refine HCALL.out.mono ?_; clear HCALL; rintro e w' ⟨rfl, rfl⟩))
        go_ret2
        exact ChangedPost.yes rfl HB.out
end Go.Proofs.Ytjilcnehndmoaaa
