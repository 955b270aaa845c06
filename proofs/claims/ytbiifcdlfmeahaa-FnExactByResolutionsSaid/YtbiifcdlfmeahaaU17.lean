/-
  What the proofs of this seat's statements share (Drt, Dru, Shl, ResM).
-/
import Derived.Deep.RegionWith
import Derived.IntWalk
import Derived.Test.YtbiifcdlfmeahaaU16
import Derived.Test.YtbiifcdlfmeahaaU9
import Derived.Test.YtbiifcdlfmeahaaU10

namespace Go.Proofs.Ytbiifcdlfmeahaa
open Go.RowKit

def TextPost (g u : Nat) (w : World) (e : Ending) (w' : World) : Prop := ∃ (t : Int) (s : ByteArray), e = .returned (.tuple #[.int .i64 t, .string s]) ∧ -1 ≤ t ∧ t ≤ 4 ∧ s.size ≤ 20 ∧ Rd w' g (u + 40) ∧ w.grownBy w' (some g)
theorem lit_here {k : Int} (h0 : 0 ≤ k) (hk : k < 5) : ∃ x : ByteArray, x ∈ words5 ∧ ∀ h, [Value.string ⟨#[]⟩, .string ⟨#[99]⟩, .string ⟨#[40]⟩, .string ⟨#[38]⟩, .string ⟨#[33]⟩][k.toNat]'h = .string x := by
  have h5 : k = 0 ∨ k = 1 ∨ k = 2 ∨ k = 3 ∨ k = 4 := by omega
  rcases h5 with rfl | rfl | rfl | rfl | rfl
  · exact ⟨_, List.mem_cons_self, fun _ => rfl⟩
  · exact ⟨_, List.mem_cons_of_mem _ List.mem_cons_self, fun _ => rfl⟩
  · exact ⟨_, List.mem_cons_of_mem _ (List.mem_cons_of_mem _ List.mem_cons_self), fun _ => rfl⟩
  · exact ⟨_, List.mem_cons_of_mem _ (List.mem_cons_of_mem _ (List.mem_cons_of_mem _ List.mem_cons_self)), fun _ => rfl⟩
  · exact ⟨_, List.mem_cons_of_mem _ (List.mem_cons_of_mem _ (List.mem_cons_of_mem _ (List.mem_cons_of_mem _ List.mem_cons_self))), fun _ => rfl⟩
theorem lit_drew {w w' : World} {g : Nat} (xs : List ByteArray) {t : TypeId} (hg : (w.alloc (.cells (xs.map Value.string).toArray t)).drew.grownBy w' (some g)) (hne : g < w.heap.size) {k : Int} (h0 : 0 ≤ k) (hk : k < xs.length) :
    ∃ x : ByteArray, x ∈ xs ∧ w'.cell? ⟨w.heap.size, k.toNat, none⟩ = some (.string x) := by
  have hg' : (w.alloc (.cells (xs.map Value.string).toArray t)).grownBy w' (some g) := (grown_drewN (World.grownBy.refl _ _) 1).trans hg
  exact lit_str xs hg' hne h0 hk
theorem text_last {w w4 w' : World} {g u u' : Nat} {o : Obj} (h : w.grownBy w4 (some g)) (hr : Rd w' g u) (hg : (w4.alloc o).drew.grownBy w' (some g)) (hu : u ≤ u') : Rd w' g u' ∧ w.grownBy w' (some g) :=
  ⟨hr.more hu, (grown_drewN (grown_alloc h _) 1).trans hg⟩
theorem text_last2 {w w4 w' : World} {g u u' : Nat} (h : w.grownBy w4 (some g)) (hr : Rd w' g u) (hg : w4.drew.grownBy w' (some g)) (hu : u ≤ u') (o : Obj) : Rd (w'.alloc o) g u' ∧ w.grownBy (w'.alloc o) (some g) :=
  ⟨(hr.more hu).alloc o, grown_alloc ((grown_drewN h 1).trans hg) o⟩

set_option maxRecDepth 100000 in
set_option maxHeartbeats 4000000 in
theorem text_any (g u : Nat) (n : Int) (w : World) (hn : n ≤ 1048576) (hn0 : 0 ≤ n) (hu : u ≤ 800000) (hR : Rd w g u) :
    Calls Try.prog 36 #[.pointer (some ⟨g, 0, none⟩), .int .i64 n] w (TextPost g u w) := by
  have HR := Lib.hid hR
  have hlt := hR.lt
  clear hR
  go_enter Try.func36, Try.ntmps36
  go_wp2_with fail
  refine (things_any g u _ _ (by omega) (by omega) (by omega) HR.out).mono ?_
  rintro e w1 ⟨t, rfl, ht0, ht1, hr, hg⟩
  have hlt1 : g < w1.heap.size := hr.lt
  have HR1 := Lib.hid hr
  have HG1 := Lib.hid hg
  clear hr hg
  by_cases h3 : t = 3
  · subst h3
    go_wp2_with fail
    refine (pick_any g _ _ _ (by omega) (by omega) (by omega) HR1.out).mono ?_
    rintro e w0 ⟨k0, rfl, hk00, hk01, hr, hg⟩
    have hlt0 : g < w0.heap.size := hr.lt
    have HR0 := Lib.hid hr
    have HG0 := Lib.hid (HG1.out.trans hg)
    clear hr hg hk01
    by_cases hz : k0 = 0
    · subst hz
      go_wp2_with fail
      refine (sent2_any g _ 2 _ (by omega) HR0.out).mono ?_
      rintro e w2 ⟨s, rfl, hs1, hs2, hr, hg⟩
      have hlt2 : g < w2.heap.size := hr.lt
      have HR2 := Lib.hid hr
      have HG2 := Lib.hid (HG0.out.trans hg)
      clear hr hg
      go_wp2_with fail
      refine (odd_any g _ _ _ (by omega) (by omega) (by omega) HR2.out).mono ?_
      rintro e w3 ⟨b, rfl, hr, hg⟩
      have hlt3 : g < w3.heap.size := hr.lt
      have HR3 := Lib.hid hr
      have HG3 := Lib.hid (HG2.out.trans hg)
      clear hr hg
      cases b
      · have HP : Hid (Rd w3 g (u + 40) ∧ w.grownBy w3 (some g)) := ⟨HR3.out.more (by omega), HG3.out⟩
        go_wp2_with fail
        go_ret2
        exact ⟨2, s, rfl, by omega, by omega, by omega, HP.out⟩
      · go_wp2_with fail
        refine (pick_any g _ _ _ (by omega) (by omega) (by omega) HR3.out).mono ?_
        rintro e w4 ⟨k, rfl, hk0, hk1, hr, hg⟩
        have hkk := hk1 (by omega)
        have hlt4 : g < w4.heap.size := hr.lt
        have HR4 := Lib.hid hr
        have HG4 := Lib.hid (HG3.out.trans hg)
        clear hr hg hk1
        obtain ⟨l, hl⟩ : ∃ l, k + 1 = l := ⟨_, rfl⟩
        obtain ⟨p1, hp1⟩ : ∃ p, s.extract 0 k.toNat = p := ⟨_, rfl⟩
        obtain ⟨p2, hp2⟩ : ∃ p, s.extract l.toNat s.size = p := ⟨_, rfl⟩
        have hE1 : p1.size ≤ 13 := by rw [← hp1, ByteArray.size_extract]; omega
        have hE2 : p2.size ≤ 13 := by rw [← hp2, ByteArray.size_extract]; omega
        have HE : Hid (p1.size + p2.size ≤ 13) := by unfold Hid; rw [← hp1, ← hp2, ByteArray.size_extract, ByteArray.size_extract]; omega
        have hks : k ≤ (s.size : Int) := by omega
        have hl1 : l ≤ (s.size : Int) := by omega
        have hl0 : 0 ≤ l := by omega
        have HRd := Lib.hid (pick_any g _ 5 w4.drew (by omega) (by omega) (by omega) (HR4.out.drewN 1))
        have HRa := Lib.hid (pick_any g _ 5 (w4.alloc (.cells #[.string ⟨#[]⟩, .string ⟨#[99]⟩, .string ⟨#[40]⟩, .string ⟨#[38]⟩, .string ⟨#[33]⟩] 9)).drew (by omega) (by omega) (by omega) ((HR4.out.alloc _).drewN 1))
        have hw : IntKind.i64.wrap (k + 1) = l := (IntWalk.i64_in _ (by omega)).trans hl
        clear hl
        go_upto_region 7 with fail
        go_region_with (first
          | (go_at_call 59; (with_reducible refine HRa.out.mono ?_); rintro e w5 ⟨k5, rfl, hk50, hk51, hr, hg⟩; have hk52 := hk51 (by omega); obtain ⟨x, HX, hcell⟩ := lit_drew words5 hg hlt4 hk50 (by simp [words5]; omega); have hx1 := words5_size HX; have HP := Lib.hid (text_last (u' := u + 40) HG4.out hr hg (by omega)); clear hr hg hk51 HX)
          | (go_at_call 59; (with_reducible refine HRd.out.mono ?_); rintro e w5 ⟨k5, rfl, hk50, hk51, hr, hg⟩; have hk52 := hk51 (by omega); obtain ⟨x, HX, hcell⟩ := lit_here hk50 hk52; have hx1 := words5_size HX; have HP := Lib.hid (text_last2 (u' := u + 40) HG4.out hr hg (by omega)); clear hr hg hk51 HX))
        all_goals
          clear HRd HRa hp1 hp2 hks hl1 hl0 hw
          go_wp2_with fail
          go_ret2
          refine ⟨2, _, rfl, by omega, by omega, ?_, by first | exact HP.out | exact HP.out _⟩
          have := HE.out
          rw [ByteArray.size_append, ByteArray.size_append]
          omega
    · have hzb : (k0 == 0) = false := by rw [beq_eq_false_iff_ne]; exact hz
      clear hz
      go_wp2_with fail
      refine (sent2_any g _ 3 _ (by omega) HR0.out).mono ?_
      rintro e w2 ⟨s, rfl, hs1, hs2, hr, hg⟩
      have hlt2 : g < w2.heap.size := hr.lt
      have HR2 := Lib.hid hr
      have HG2 := Lib.hid (HG0.out.trans hg)
      clear hr hg
      go_wp2_with fail
      refine (odd_any g _ _ _ (by omega) (by omega) (by omega) HR2.out).mono ?_
      rintro e w3 ⟨b, rfl, hr, hg⟩
      have hlt3 : g < w3.heap.size := hr.lt
      have HR3 := Lib.hid hr
      have HG3 := Lib.hid (HG2.out.trans hg)
      clear hr hg
      cases b
      · have HP : Hid (Rd w3 g (u + 40) ∧ w.grownBy w3 (some g)) := ⟨HR3.out.more (by omega), HG3.out⟩
        go_wp2_with fail
        go_ret2
        exact ⟨3, s, rfl, by omega, by omega, by omega, HP.out⟩
      · go_wp2_with fail
        refine (pick_any g _ _ _ (by omega) (by omega) (by omega) HR3.out).mono ?_
        rintro e w4 ⟨k, rfl, hk0, hk1, hr, hg⟩
        have hkk := hk1 (by omega)
        have hlt4 : g < w4.heap.size := hr.lt
        have HR4 := Lib.hid hr
        have HG4 := Lib.hid (HG3.out.trans hg)
        clear hr hg hk1
        obtain ⟨l, hl⟩ : ∃ l, k + 1 = l := ⟨_, rfl⟩
        obtain ⟨p1, hp1⟩ : ∃ p, s.extract 0 k.toNat = p := ⟨_, rfl⟩
        obtain ⟨p2, hp2⟩ : ∃ p, s.extract l.toNat s.size = p := ⟨_, rfl⟩
        have hE1 : p1.size ≤ 13 := by rw [← hp1, ByteArray.size_extract]; omega
        have hE2 : p2.size ≤ 13 := by rw [← hp2, ByteArray.size_extract]; omega
        have HE : Hid (p1.size + p2.size ≤ 13) := by unfold Hid; rw [← hp1, ← hp2, ByteArray.size_extract, ByteArray.size_extract]; omega
        have hks : k ≤ (s.size : Int) := by omega
        have hl1 : l ≤ (s.size : Int) := by omega
        have hl0 : 0 ≤ l := by omega
        have HRd := Lib.hid (pick_any g _ 5 w4.drew (by omega) (by omega) (by omega) (HR4.out.drewN 1))
        have HRa := Lib.hid (pick_any g _ 5 (w4.alloc (.cells #[.string ⟨#[]⟩, .string ⟨#[99]⟩, .string ⟨#[40]⟩, .string ⟨#[38]⟩, .string ⟨#[33]⟩] 9)).drew (by omega) (by omega) (by omega) ((HR4.out.alloc _).drewN 1))
        have hw : IntKind.i64.wrap (k + 1) = l := (IntWalk.i64_in _ (by omega)).trans hl
        clear hl
        go_upto_region 7 with fail
        go_region_with (first
          | (go_at_call 59; (with_reducible refine HRa.out.mono ?_); rintro e w5 ⟨k5, rfl, hk50, hk51, hr, hg⟩; have hk52 := hk51 (by omega); obtain ⟨x, HX, hcell⟩ := lit_drew words5 hg hlt4 hk50 (by simp [words5]; omega); have hx1 := words5_size HX; have HP := Lib.hid (text_last (u' := u + 40) HG4.out hr hg (by omega)); clear hr hg hk51 HX)
          | (go_at_call 59; (with_reducible refine HRd.out.mono ?_); rintro e w5 ⟨k5, rfl, hk50, hk51, hr, hg⟩; have hk52 := hk51 (by omega); obtain ⟨x, HX, hcell⟩ := lit_here hk50 hk52; have hx1 := words5_size HX; have HP := Lib.hid (text_last2 (u' := u + 40) HG4.out hr hg (by omega)); clear hr hg hk51 HX))
        all_goals
          clear HRd HRa hp1 hp2 hks hl1 hl0 hw
          go_wp2_with fail
          go_ret2
          refine ⟨3, _, rfl, by omega, by omega, ?_, by first | exact HP.out | exact HP.out _⟩
          have := HE.out
          rw [ByteArray.size_append, ByteArray.size_append]
          omega
  · have h3b : (t == 3) = false := by rw [beq_eq_false_iff_ne]; exact h3
    go_wp2_with fail
    refine (sent2_any g _ t _ (by omega) HR1.out).mono ?_
    rintro e w2 ⟨s, rfl, hs1, hs2, hr, hg⟩
    have hlt2 : g < w2.heap.size := hr.lt
    have HR2 := Lib.hid hr
    have HG2 := Lib.hid (HG1.out.trans hg)
    clear hr hg
    go_wp2_with fail
    refine (odd_any g _ _ _ (by omega) (by omega) (by omega) HR2.out).mono ?_
    rintro e w3 ⟨b, rfl, hr, hg⟩
    have hlt3 : g < w3.heap.size := hr.lt
    have HR3 := Lib.hid hr
    have HG3 := Lib.hid (HG2.out.trans hg)
    clear hr hg
    cases b
    · have HP : Hid (Rd w3 g (u + 40) ∧ w.grownBy w3 (some g)) := ⟨HR3.out.more (by omega), HG3.out⟩
      go_wp2_with fail
      go_ret2
      exact ⟨t, s, rfl, by omega, by omega, by omega, HP.out⟩
    · go_wp2_with fail
      refine (pick_any g _ _ _ (by omega) (by omega) (by omega) HR3.out).mono ?_
      rintro e w4 ⟨k, rfl, hk0, hk1, hr, hg⟩
      have hkk := hk1 (by omega)
      have hlt4 : g < w4.heap.size := hr.lt
      have HR4 := Lib.hid hr
      have HG4 := Lib.hid (HG3.out.trans hg)
      clear hr hg hk1
      obtain ⟨l, hl⟩ : ∃ l, k + 1 = l := ⟨_, rfl⟩
      obtain ⟨p1, hp1⟩ : ∃ p, s.extract 0 k.toNat = p := ⟨_, rfl⟩
      obtain ⟨p2, hp2⟩ : ∃ p, s.extract l.toNat s.size = p := ⟨_, rfl⟩
      have hE1 : p1.size ≤ 13 := by rw [← hp1, ByteArray.size_extract]; omega
      have hE2 : p2.size ≤ 13 := by rw [← hp2, ByteArray.size_extract]; omega
      have HE : Hid (p1.size + p2.size ≤ 13) := by unfold Hid; rw [← hp1, ← hp2, ByteArray.size_extract, ByteArray.size_extract]; omega
      have hks : k ≤ (s.size : Int) := by omega
      have hl1 : l ≤ (s.size : Int) := by omega
      have hl0 : 0 ≤ l := by omega
      have HRd := Lib.hid (pick_any g _ 5 w4.drew (by omega) (by omega) (by omega) (HR4.out.drewN 1))
      have HRa := Lib.hid (pick_any g _ 5 (w4.alloc (.cells #[.string ⟨#[]⟩, .string ⟨#[99]⟩, .string ⟨#[40]⟩, .string ⟨#[38]⟩, .string ⟨#[33]⟩] 9)).drew (by omega) (by omega) (by omega) ((HR4.out.alloc _).drewN 1))
      have hw : IntKind.i64.wrap (k + 1) = l := (IntWalk.i64_in _ (by omega)).trans hl
      clear hl
      go_upto_region 7 with fail
      go_region_with (first
        | (go_at_call 59; (with_reducible refine HRa.out.mono ?_); rintro e w5 ⟨k5, rfl, hk50, hk51, hr, hg⟩; have hk52 := hk51 (by omega); obtain ⟨x, HX, hcell⟩ := lit_drew words5 hg hlt4 hk50 (by simp [words5]; omega); have hx1 := words5_size HX; have HP := Lib.hid (text_last (u' := u + 40) HG4.out hr hg (by omega)); clear hr hg hk51 HX)
        | (go_at_call 59; (with_reducible refine HRd.out.mono ?_); rintro e w5 ⟨k5, rfl, hk50, hk51, hr, hg⟩; have hk52 := hk51 (by omega); obtain ⟨x, HX, hcell⟩ := lit_here hk50 hk52; have hx1 := words5_size HX; have HP := Lib.hid (text_last2 (u' := u + 40) HG4.out hr hg (by omega)); clear hr hg hk51 HX))
      all_goals
        clear HRd HRa hp1 hp2 hks hl1 hl0 hw
        go_wp2_with fail
        go_ret2
        refine ⟨t, _, rfl, by omega, by omega, ?_, by first | exact HP.out | exact HP.out _⟩
        have := HE.out
        rw [ByteArray.size_append, ByteArray.size_append]
        omega
end Go.Proofs.Ytbiifcdlfmeahaa

namespace Go.Proofs.Ytbiifcdlfmeahaa
open Go.RowKit

def DrawT (w : World) (e : Ending) (w' : World) : Prop := ∃ (t : Int) (s : ByteArray), e = .returned (.tuple #[.int .i64 t, .string s]) ∧ -1 ≤ t ∧ t ≤ 4 ∧ s.size ≤ 20 ∧ Below w.heap.size w w'
def DrawTKS (w : World) (e : Ending) (w' : World) : Prop := ∃ (t k : Int) (s : ByteArray), e = .returned (.tuple #[.int .i64 t, .int .i64 k, .string s]) ∧ -1 ≤ t ∧ t ≤ 4 ∧ -1 ≤ k ∧ k ≤ 256 ∧ s.size ≤ 20 ∧ Below w.heap.size w w'
def DrawTSS (w : World) (e : Ending) (w' : World) : Prop := ∃ (t : Int) (s u : ByteArray), e = .returned (.tuple #[.int .i64 t, .string s, .string u]) ∧ -1 ≤ t ∧ t ≤ 4 ∧ s.size ≤ 28 ∧ u.size ≤ 28 ∧ Below w.heap.size w w'

set_option maxHeartbeats 1000000 in
theorem drawSupports_any (A : Option Addr) (nn c : Nat) (zs : List Int) (w : World) (hn : nn = zs.length) (hc : nn ≤ c) (hm : c ≤ maxLen) (hr : ∀ z ∈ zs, 0 ≤ z ∧ z ≤ 255) (hA : Nums .u8 w A zs) :
    Calls Try.prog 54 #[.slice A nn c] w (DrawTKS w) := by
  have HO := Lib.hid (open_any A nn c zs w hn hc hm hr hA)
  clear hn hc hm hr hA
  go_enter Try.func54, Try.ntmps54
  go_wp2_with fail
  refine HO.out.mono ?_
  rintro e w1 ⟨rfl, hrd, hb⟩
  have HR := Lib.hid hrd
  have HB := Lib.hid hb
  clear hrd hb
  go_wp2_with fail
  refine (text_any _ 0 _ _ (by omega) (by omega) (by omega) HR.out).mono ?_
  rintro e w2 ⟨t, s, rfl, ht0, ht1, hs, hr, hg⟩
  have HR2 := Lib.hid hr
  have HB2 := Lib.hid (below_grown HB.out hg HB.out.size (Nat.le_refl _))
  clear hg hr
  go_wp2_with fail
  refine (set_any _ _ _ _ _ (by omega) (by omega) (by omega) HR2.out).mono ?_
  rintro e w3 ⟨k, rfl, hs0, hs1, _, hg⟩
  have HB3 := Lib.hid (below_grown HB2.out hg HB2.out.size (Nat.le_refl _))
  clear hg
  go_wp2_with fail
  go_ret3
  exact ⟨t, k, s, rfl, ht0, ht1, hs0, hs1, hs, HB3.out⟩

set_option maxHeartbeats 2000000 in
theorem drawEntailsOf_any (A : Option Addr) (nn c : Nat) (zs : List Int) (w : World) (hn : nn = zs.length) (hc : nn ≤ c) (hm : c ≤ maxLen) (hr : ∀ z ∈ zs, 0 ≤ z ∧ z ≤ 255) (hA : Nums .u8 w A zs) :
    Calls Try.prog 50 #[.slice A nn c] w (DrawTSS w) := by
  have HO := Lib.hid (open_any A nn c zs w hn hc hm hr hA)
  clear hn hc hm hr hA
  go_enter Try.func50, Try.ntmps50
  go_wp2_with fail
  refine HO.out.mono ?_
  rintro e w1 ⟨rfl, hrd, hb⟩
  have HR := Lib.hid hrd
  have HB := Lib.hid hb
  clear hrd hb
  go_wp2_with fail
  refine (text_any _ 0 _ _ (by omega) (by omega) (by omega) HR.out).mono ?_
  rintro e w2 ⟨t, s, rfl, ht0, ht1, hs, hr, hg⟩
  have HR2 := Lib.hid hr
  have HB2 := Lib.hid (below_grown HB.out hg HB.out.size (Nat.le_refl _))
  clear hg hr
  go_wp2_with fail
  refine (pick_any _ _ _ _ (by omega) (by omega) (by omega) HR2.out).mono ?_
  rintro e w3 ⟨k, rfl, hk0, hk1, hr, hg⟩
  have HR3 := Lib.hid hr
  have HB3 := Lib.hid (below_grown HB2.out hg HB2.out.size (Nat.le_refl _))
  clear hg hr hk1
  by_cases hz : k = 0
  · subst hz
    go_wp2_with fail
    refine (sent1_any _ _ _ _ (by omega) HR3.out).mono ?_
    rintro e w4 ⟨u, rfl, hu1, hu2, _, hg⟩
    have HB4 := Lib.hid (below_grown HB3.out hg HB3.out.size (Nat.le_refl _))
    clear hg
    go_wp2_with fail
    go_ret3
    exact ⟨t, _, s, rfl, ht0, ht1, by simp only [ByteArray.size_append, one_size]; omega, by omega, HB4.out⟩
  · have hzb : (k == 0) = false := by rw [beq_eq_false_iff_ne]; exact hz
    clear hz
    go_wp2_with fail
    refine (sent2_any _ _ _ _ (by omega) HR3.out).mono ?_
    rintro e w4 ⟨u, rfl, hu1, hu2, _, hg⟩
    have HB4 := Lib.hid (below_grown HB3.out hg HB3.out.size (Nat.le_refl _))
    clear hg
    go_wp2_with fail
    go_ret3
    exact ⟨t, s, u, rfl, ht0, ht1, by omega, by omega, HB4.out⟩
end Go.Proofs.Ytbiifcdlfmeahaa

namespace Go.Proofs.Ytbiifcdlfmeahaa
open Go.RowKit

theorem bytesN_append (a b : ByteArray) : bytesN (a ++ b) = bytesN a ++ bytesN b := by
  unfold bytesN
  rw [ByteArray.data_append, Array.toList_append, List.map_append]
theorem bytesN_lit (l : List UInt8) : bytesN ⟨l.toArray⟩ = l.map UInt8.toNat := rfl
theorem senT_of {t : Int} {s : ByteArray} {x : Sen} (h1 : 1 ≤ t) (h3 : t ≤ 3) (hl : s.size ≤ 60) (hx : senOk t x = true) (hb : bytesN s = textS x) : senT t s = some x :=
  senOf_iff.2 ⟨h1, h3, by rw [bytesN_len]; exact hl, hx, hb⟩
theorem size1 (b : UInt8) : (ByteArray.mk #[b]).size = 1 := rfl
theorem size2 (b c : UInt8) : (ByteArray.mk #[b, c]).size = 2 := rfl
theorem senT_no {t : Int} {s : ByteArray} {x : Sen} (h : senT t s = some x) (hl : s.size < 60) : senT t (⟨#[33]⟩ ++ s) = some (.no x) := by
  obtain ⟨h1, h3, _, hx, hb⟩ := senT_ok h
  refine senT_of h1 h3 (by rw [ByteArray.size_append, size1]; omega) hx ?_
  rw [bytesN_append, hb]; rfl
theorem senT_nono {t : Int} {s : ByteArray} {x : Sen} (h : senT t s = some x) (hl : s.size < 59) : senT t (⟨#[33, 33]⟩ ++ s) = some (.no (.no x)) := by
  obtain ⟨h1, h3, _, hx, hb⟩ := senT_ok h
  refine senT_of h1 h3 (by rw [ByteArray.size_append, size2]; omega) hx ?_
  rw [bytesN_append, hb]; rfl
theorem senT_ask {t : Int} {s : ByteArray} {x : Sen} (h : senT t s = some x) (hl : s.size < 60) : senT t (⟨#[63]⟩ ++ s) = some (.ask x) := by
  obtain ⟨h1, h3, _, hx, hb⟩ := senT_ok h
  refine senT_of h1 h3 (by rw [ByteArray.size_append, size1]; omega) hx ?_
  rw [bytesN_append, hb]; rfl
theorem senT_if {t : Int} {s u : ByteArray} {x y : Sen} (h : senT t s = some x) (hu : senT t u = some y) (hl : s.size + u.size < 58) : senT t (⟨#[40]⟩ ++ s ++ ⟨#[62]⟩ ++ u ++ ⟨#[41]⟩) = some (.if_ x y) := by
  obtain ⟨h1, h3, _, hx, hb⟩ := senT_ok h
  obtain ⟨_, _, _, hy, hc⟩ := senT_ok hu
  refine senT_of h1 h3 (by simp only [ByteArray.size_append, size1]; omega) (by unfold senOk; rw [hx, hy]; rfl) ?_
  simp only [bytesN_append, hb, hc, textS, List.append_assoc]; rfl

theorem issueT_ok {t : Int} {s : ByteArray} {x : Sen} (h : senT t s = some x) : issueOkB t (issueT t s) = true := by
  obtain ⟨h1, h3, _, _, _⟩ := senT_ok h
  rw [(issueT_some h).1]; exact sen_issue h1 h3 x
theorem issueT_len (t : Int) (s : ByteArray) : (issueT t s).length ≤ 70 := by
  rcases h : senT t s with _ | x
  · rw [(issueT_none h).1]; simp
  · exact (issue_ne (issueT_ok h)).2
theorem issueT_nono {t : Int} {s : ByteArray} {x : Sen} (h : senT t s = some x) (hl : s.size < 59) : issueT t (⟨#[33, 33]⟩ ++ s) = [unionI (issueT t s)] := by
  rw [(issueT_some (senT_nono h hl)).1, (issueT_some h).1]
  obtain ⟨h1, h3, _, _, _⟩ := senT_ok h
  exact law_notnot (sen_issue h1 h3 x)
theorem issueT_ask {t : Int} {s : ByteArray} {x : Sen} (h : senT t s = some x) (hl : s.size < 60) : grantedI t (issueT t (⟨#[63]⟩ ++ s)) = allOf t := by
  rw [granted_ok (issueT_ok (senT_ask h hl)), (issueT_some (senT_ask h hl)).1]
  obtain ⟨h1, h3, _, _, _⟩ := senT_ok h
  exact law_whether_all (sen_issue h1 h3 x)
theorem statement_union {t : Int} {xs : List Int} (h : issueOkB t xs = true) : statementL t (unionI xs) = [unionI xs] := by
  unfold statementL; rw [union_ok h]; rfl
theorem supports_settles {t k : Int} {s : ByteArray} {x : Sen} (h : senT t s = some x) (hk : setOkB t k = true) : settlesB t (issueT t s) k = supportsT t k s := by
  obtain ⟨h1, h3, _, _, _⟩ := senT_ok h
  obtain ⟨_, _, h0, ha, _⟩ := setOkB_lt hk
  rw [settles_any (issueT_ok h) h0 ha, (issueT_some h).1, ← support_settle h1 h3 x k h0 ha]
  unfold supportsT
  rw [h]; simp only [hk, Bool.true_and]
theorem supports_down {t k : Int} {s : ByteArray} (h : supportsT t k s = true) (b : Int) : supportsT t (andI k b) s = true := by
  rcases hx : senT t s with _ | x
  · unfold supportsT at h; rw [hx] at h; cases h
  obtain ⟨h1, h3, _, _, _⟩ := senT_ok hx
  have hk : setOkB t k = true := by unfold supportsT at h; rw [hx] at h; simp only [Bool.and_eq_true] at h; exact h.1
  obtain ⟨_, _, h0, ha, _⟩ := setOkB_lt hk
  have hk2 : setOkB t (andI k b) = true := andI_ok hk
  obtain ⟨_, _, g0, ga, _⟩ := setOkB_lt hk2
  rw [← supports_settles hx hk, settles_any (issueT_ok hx) h0 ha] at h
  rw [← supports_settles hx hk2, settles_any (issueT_ok hx) g0 ga]
  exact any_down g0 h0 (within_andI_left k b) h
theorem plain_some {t : Int} {s : ByteArray} (h : plainT t s = true) : ∃ x, senT t s = some x ∧ plainS x = true := by
  unfold plainT at h
  rcases hx : senT t s with _ | x
  · rw [hx] at h; cases h
  · rw [hx] at h; exact ⟨x, rfl, h⟩
theorem trueT_some {t : Int} {s : ByteArray} {x : Sen} (h : senT t s = some x) : trueT t s = unionI (issueT t s) := by
  obtain ⟨h1, h3, _, _, _⟩ := senT_ok h
  unfold trueT; rw [h, (issueT_some h).1]; exact true_granted h1 h3 x
theorem trueT_none {t : Int} {s : ByteArray} (h : senT t s = none) : trueT t s = -1 := by unfold trueT; rw [h]
theorem plain_law {t : Int} {s : ByteArray} (h : plainT t s = true) : statementL t (trueT t s) = issueT t s := by
  obtain ⟨x, hx, hp⟩ := plain_some h
  obtain ⟨h1, h3, _, _, _⟩ := senT_ok hx
  rw [trueT_some hx, statement_union (issueT_ok hx), (issueT_some hx).1]
  exact (plain_granted h1 h3 hp).symm
theorem true_no {t : Int} {s : ByteArray} {x : Sen} (h : senT t s = some x) (hl : s.size < 60) : trueT t (⟨#[33]⟩ ++ s) = allOf t - trueT t s := by
  obtain ⟨h1, h3, _, _, _⟩ := senT_ok h
  have hi := sen_issue h1 h3 x
  rw [trueT_some h, trueT_some (senT_no h hl), (issueT_some (senT_no h hl)).1, (issueT_some h).1]
  show unionI (notL t (issueS t x)) = _
  have := union_all hi
  rw [law_not hi, union_one (by omega)]
theorem true_range {t : Int} {s : ByteArray} {x : Sen} (h : senT t s = some x) : 0 ≤ trueT t s ∧ trueT t s ≤ allOf t := by
  rw [trueT_some h]; exact union_all (issueT_ok h)
theorem entails_some {t : Int} {s u : ByteArray} {x y : Sen} (h : senT t s = some x) (hu : senT t u = some y) : entailsT t s u = followsB t (issueT t s) (issueT t u) := by
  unfold entailsT; rw [h, hu, (issueT_some h).1, (issueT_some hu).1]
theorem entails_within {t : Int} {s u : ByteArray} (h : entailsT t s u = true) : withinB (trueT t s) (trueT t u) = true := by
  rcases hx : senT t s with _ | x
  · unfold entailsT at h; rw [hx] at h; cases h
  rcases hy : senT t u with _ | y
  · unfold entailsT at h; rw [hx, hy] at h; cases h
  rw [entails_some hx hy] at h
  rw [trueT_some hx, trueT_some hy]
  exact follows_union (issueT_ok hx) (issueT_ok hy) h
theorem entails_supports {t : Int} {s u : ByteArray} {x y : Sen} (h : senT t s = some x) (hu : senT t u = some y) (hl : s.size + u.size < 58) :
    supportsT t (allOf t) (⟨#[40]⟩ ++ s ++ ⟨#[62]⟩ ++ u ++ ⟨#[41]⟩) = entailsT t s u := by
  obtain ⟨h1, h3, _, _, _⟩ := senT_ok h
  unfold supportsT
  rw [senT_if h hu hl]
  show (setOkB t (allOf t) && holdsS t (.if_ x y) (allOf t)) = _
  rw [setOk_of h1 h3 (allOf_lt t).1 (Int.le_refl _), Bool.true_and, entails_if h1 h3, entails_some h hu, (issueT_some h).1, (issueT_some hu).1]
theorem entails_no {t : Int} {s u : ByteArray} (h : senT t s = none ∨ senT t u = none) : entailsT t s u = false := by
  unfold entailsT
  rcases h with h | h
  · rw [h]
  · rw [h]; cases senT t s <;> rfl

theorem iIssueOf_is {t : Int} {s : ByteArray} {r : List Int} {b : Bool} (h : Hid (issueT t s = r)) (h2 : Hid (isT t s = b)) (w : World) (hs : s.size ≤ 9223372036854775807) :
    Calls Try.prog 16 #[.int .i64 t, .string s] w (IssueOfPost r b w) := by
  have := iIssueOf t s w hs
  rw [h.out, h2.out] at this; exact this
theorem iSupportsT_is {t k : Int} {s : ByteArray} {b : Bool} (h : Hid (supportsT t k s = b)) (w : World) (hs : s.size ≤ 9223372036854775807) :
    Calls Try.prog 32 #[.int .i64 t, .int .i64 k, .string s] w fun e w' => e = .returned (.bool b) ∧ Below w.heap.size w w' := by
  have := iSupportsT t k s w hs
  rw [h.out] at this; exact this
theorem iEntailsOf_is {t : Int} {s u : ByteArray} {b : Bool} (h : Hid (entailsT t s u = b)) (w : World) (hs : s.size ≤ 9223372036854775807) (hu : u.size ≤ 9223372036854775807) :
    Calls Try.prog 24 #[.int .i64 t, .string s, .string u] w fun e w' => e = .returned (.bool b) ∧ Below w.heap.size w w' := by
  have := iEntailsOf t s u w hs hu
  rw [h.out] at this; exact this
end Go.Proofs.Ytbiifcdlfmeahaa

namespace Go.Proofs.Ytbiifcdlfmeahaa
open Go.RowKit

theorem setL_congr {xs ys : List Int} (h : ∀ s, s ∈ xs ↔ s ∈ ys) : setL xs = setL ys := by
  unfold setL
  congr 1
  funext s
  exact decide_eq_decide.2 (h s)
theorem setL_len (xs : List Int) : (setL xs).length ≤ 256 := by
  unfold setL
  refine Nat.le_trans (List.length_filter_le _ _) ?_
  rw [List.length_map, List.length_range]; exact Nat.le_refl _
theorem setL_range (xs : List Int) : ∀ x ∈ setL xs, 0 ≤ x ∧ x < 256 := fun x hx => by
  unfold setL at hx
  rw [List.mem_filter, List.mem_map] at hx
  obtain ⟨⟨n, hn, rfl⟩, _⟩ := hx
  rw [List.mem_range] at hn; omega
theorem setL_self {xs : List Int} (ha : xs.Pairwise (· < ·)) (hr : ∀ x ∈ xs, 0 ≤ x ∧ x < 256) : setL xs = xs := asc_ext (setL_asc xs) ha (setL_mem hr)

/-- One set more, in its place. -/
def addL (s : Int) : List Int → List Int
  | [] => [s]
  | x :: r => if x < s then x :: addL s r else if x = s then x :: r else s :: x :: r
theorem addL_mem {s a : Int} : ∀ {xs : List Int}, a ∈ addL s xs ↔ a = s ∨ a ∈ xs
  | [] => by simp [addL]
  | x :: r => by
    have ih := addL_mem (s := s) (a := a) (xs := r)
    unfold addL
    split
    · rw [List.mem_cons, ih, List.mem_cons]
      constructor
      · rintro (h | h | h)
        · exact .inr (.inl h)
        · exact .inl h
        · exact .inr (.inr h)
      · rintro (h | h | h)
        · exact .inr (.inl h)
        · exact .inl h
        · exact .inr (.inr h)
    · split
      · rename_i h; subst h; rw [List.mem_cons]
        constructor
        · exact fun h => .inr h
        · rintro (h | h)
          · exact .inl h
          · exact h
      · rw [List.mem_cons]
theorem addL_asc {s : Int} : ∀ {xs : List Int}, xs.Pairwise (· < ·) → (addL s xs).Pairwise (· < ·)
  | [], _ => by simp [addL]
  | x :: r, h => by
    rw [List.pairwise_cons] at h
    unfold addL
    split
    · rename_i hx
      rw [List.pairwise_cons]
      refine ⟨fun y hy => ?_, addL_asc h.2⟩
      rcases addL_mem.1 hy with rfl | hy
      · exact hx
      · exact h.1 y hy
    · split
      · exact List.pairwise_cons.2 h
      · rename_i hx hne
        rw [List.pairwise_cons]
        refine ⟨fun y hy => ?_, List.pairwise_cons.2 h⟩
        rcases List.mem_cons.1 hy with rfl | hy
        · omega
        · have := h.1 y hy; omega
theorem addL_set {xs : List Int} {s : Int} (ha : xs.Pairwise (· < ·)) (hr : ∀ x ∈ xs, 0 ≤ x ∧ x < 256) (hs : 0 ≤ s) (hs2 : s < 256) : addL s xs = setL (xs ++ [s]) := by
  refine asc_ext (addL_asc ha) (setL_asc _) fun a => ?_
  have hr2 : ∀ x ∈ xs ++ [s], 0 ≤ x ∧ x < 256 := fun x hx => by
    rcases List.mem_append.1 hx with h | h
    · exact hr x h
    · rw [List.mem_singleton] at h; subst h; exact ⟨hs, hs2⟩
  rw [setL_mem hr2, addL_mem, List.mem_append, List.mem_singleton]
  exact Or.comm
theorem addL_setL {xs : List Int} {s : Int} (hr : ∀ x ∈ xs, 0 ≤ x ∧ x < 256) (hs : 0 ≤ s) (hs2 : s < 256) : addL s (setL xs) = setL (xs ++ [s]) := by
  rw [addL_set (setL_asc xs) (setL_range xs) hs hs2]
  refine setL_congr fun a => ?_
  rw [List.mem_append, List.mem_append, setL_mem hr]
theorem addL_snoc {s x : Int} : ∀ (ys : List Int), addL s (ys ++ [x]) = if (ys.all fun y => decide (y < s)) = true then ys ++ addL s [x] else addL s ys ++ [x]
  | [] => by simp
  | y :: r => by
    have ih := addL_snoc (s := s) (x := x) r
    rw [List.cons_append]
    conv => lhs; unfold addL
    rw [List.all_cons]
    by_cases hy : y < s
    · rw [if_pos hy, ih, decide_eq_true hy, Bool.true_and]
      split
      · rfl
      · conv => rhs; unfold addL
        rw [if_pos hy]; rfl
    · rw [if_neg hy, decide_eq_false hy, Bool.false_and]
      have e : addL s (y :: r) = if y = s then y :: r else s :: y :: r := by
        conv => lhs; unfold addL
        rw [if_neg hy]
      rw [e]
      simp only [Bool.false_eq_true, if_false]
      by_cases h : y = s
      · rw [if_pos h, if_pos h]; rfl
      · rw [if_neg h, if_neg h]; rfl
theorem addL_last {s : Int} : ∀ {ys : List Int}, (ys.all fun y => decide (y < s)) = true → addL s ys = ys ++ [s]
  | [], _ => rfl
  | y :: r, h => by
    rw [List.all_cons, Bool.and_eq_true, decide_eq_true_eq] at h
    unfold addL
    rw [if_pos h.1, addL_last h.2]; rfl
theorem addL_len {s : Int} : ∀ (ys : List Int), (addL s ys).length ≤ ys.length + 1
  | [] => by simp [addL]
  | y :: r => by
    have := addL_len (s := s) r
    unfold addL
    split
    · simp only [List.length_cons]; omega
    · split <;> simp only [List.length_cons] <;> omega

/-- Behind k numbers: what the loop has laid, and whether the set is put. -/
def AddAt (s : Int) (xs : List Int) (k : Nat) (out : List Int) (put : Bool) : Prop :=
  (put = false ∧ ((xs.take k).all fun y => decide (y < s)) = true ∧ out = xs.take k) ∨ (put = true ∧ ((xs.take k).all fun y => decide (y < s)) = false ∧ out = addL s (xs.take k))
theorem AddAt.start (s : Int) (xs : List Int) : AddAt s xs 0 [] false := .inl ⟨rfl, rfl, rfl⟩
section
variable {s : Int} {xs out : List Int} {k : Nat} {x : Int}
theorem AddAt.keep (h : AddAt s xs k out true) (hx : Hid (xs[k]? = some x)) : AddAt s xs (k + 1) (out ++ [x]) true := by
  rcases h with ⟨h, _⟩ | ⟨_, h1, h2⟩
  · cases h
  · refine .inr ⟨rfl, ?_, ?_⟩
    · rw [take_snoc hx, List.all_append, h1]; rfl
    · rw [take_snoc hx, addL_snoc, if_neg (by rw [h1]; simp), h2]
theorem AddAt.less (h : AddAt s xs k out false) (hx : Hid (xs[k]? = some x)) (hl : x < s) : AddAt s xs (k + 1) (out ++ [x]) false := by
  rcases h with ⟨_, h1, h2⟩ | ⟨h, _⟩
  · refine .inl ⟨rfl, ?_, ?_⟩
    · rw [take_snoc hx, List.all_append, h1]; simpa using hl
    · rw [take_snoc hx, h2]
  · cases h
theorem AddAt.same (h : AddAt s xs k out false) (hx : Hid (xs[k]? = some x)) (hl : x = s) : AddAt s xs (k + 1) (out ++ [x]) true := by
  rcases h with ⟨_, h1, h2⟩ | ⟨h, _⟩
  · refine .inr ⟨rfl, ?_, ?_⟩
    · rw [take_snoc hx, List.all_append, h1]; simp [hl]
    · rw [take_snoc hx, addL_snoc, if_pos h1, h2]
      unfold addL; rw [if_neg (by omega), if_pos hl]
  · cases h
theorem AddAt.more (h : AddAt s xs k out false) (hx : Hid (xs[k]? = some x)) (hl : s < x) : AddAt s xs (k + 1) ((out ++ [s]) ++ [x]) true := by
  rcases h with ⟨_, h1, h2⟩ | ⟨h, _⟩
  · refine .inr ⟨rfl, ?_, ?_⟩
    · rw [take_snoc hx, List.all_append, h1]; simpa using (by omega : s ≤ x)
    · rw [take_snoc hx, addL_snoc, if_pos h1, h2]
      unfold addL; rw [if_neg (by omega), if_neg (by omega)]; simp
  · cases h
theorem AddAt.done (h : AddAt s xs xs.length out true) : out = addL s xs := by
  rcases h with ⟨h, _⟩ | ⟨_, _, h2⟩
  · cases h
  · rw [h2, List.take_length]
theorem AddAt.end_ (h : AddAt s xs xs.length out false) : out ++ [s] = addL s xs := by
  rcases h with ⟨_, h1, h2⟩ | ⟨h, _⟩
  · rw [List.take_length] at h1 h2
    rw [h2, addL_last h1]
  · cases h
theorem AddAt.len {b : Bool} (h : AddAt s xs k out b) : out.length ≤ xs.length + 1 := by
  rcases h with ⟨_, _, h2⟩ | ⟨_, _, h2⟩
  · rw [h2, List.length_take]; omega
  · have := addL_len (s := s) (xs.take k); rw [h2]; rw [List.length_take] at this; omega
end

theorem res_asc (t : Int) : ∀ x : Sen, (resS t x).Pairwise (· < ·)
  | .one => by simp [resS]
  | .zero => by simp [resS]
  | .thing _ => by simp [resS]
  | .no _ => by simp [resS]
  | .ask _ => setL_asc _
  | .and_ _ _ => setL_asc _
  | .or_ _ _ => setL_asc _
  | .if_ x y => by
    show (chooseX t _ _).Pairwise _
    unfold chooseX
    suffices ∀ (l : List Int) (out : List Int), out.Pairwise (· < ·) → (l.foldl (fun out x => setL (bothX out ((resS t y).map fun y => orI (allOf t - x) y))) out).Pairwise (· < ·) from this _ _ (by simp)
    intro l
    induction l with
    | nil => exact fun out h => h
    | cons z r ih => exact fun out _ => ih _ (setL_asc _)
theorem res_len (t : Int) : ∀ x : Sen, (resS t x).length ≤ 256
  | .one => by simp [resS]
  | .zero => by simp [resS]
  | .thing _ => by simp [resS]
  | .no _ => by simp [resS]
  | .ask _ => setL_len _
  | .and_ _ _ => setL_len _
  | .or_ _ _ => setL_len _
  | .if_ x y => by
    show (chooseX t _ _).length ≤ 256
    unfold chooseX
    suffices ∀ (l : List Int) (out : List Int), out.length ≤ 256 → (l.foldl (fun out x => setL (bothX out ((resS t y).map fun y => orI (allOf t - x) y))) out).length ≤ 256 from this _ _ (by simp)
    intro l
    induction l with
    | nil => exact fun out h => h
    | cons z r ih => exact fun out _ => ih _ (setL_len _)

def resT (t : Int) (s : ByteArray) : List Int := match senT t s with | some x => resS t x | none => []
def resOk (t : Int) (s : ByteArray) : Bool := match senT t s with | some x => decide ((resS t x).length ≤ 40) | none => false
def resL (t : Int) (s : ByteArray) : List Int := if resOk t s = true then resT t s else []
def byResB (t : Int) (s u : ByteArray) : Bool := resOk t s && resOk t u && (resL t s).all fun r => anyWithin r (resL t u)
def answersL (t : Int) (s : ByteArray) : List Int := tidyL (resL t s)
def leftTo (k : Int) (xs : List Int) : Nat := (xs.filter fun a => decide (andI k a ≠ 0)).length
def answersB (t k : Int) (s : ByteArray) : Bool := resOk t s && setOkB t k && anyWithin k (resL t s)
def answersN (t k : Int) (s : ByteArray) : Int := if (resOk t s && setOkB t k) = true then (if anyWithin k (resL t s) = true then 0 else (leftTo k (answersL t s) : Int)) else -1

theorem resOk_some {t : Int} {s : ByteArray} (h : resOk t s = true) : ∃ x, senT t s = some x ∧ (resS t x).length ≤ 40 ∧ resL t s = resS t x := by
  unfold resL resT
  rw [h]
  unfold resOk at h
  rcases hx : senT t s with _ | x
  · rw [hx] at h; cases h
  · rw [hx] at h; exact ⟨x, rfl, of_decide_eq_true h, rfl⟩
theorem resL_no {t : Int} {s : ByteArray} (h : resOk t s = false) : resL t s = [] := by unfold resL; rw [h]; rfl
theorem res_none {t : Int} {s : ByteArray} (h : senT t s = none) : resOk t s = false := by unfold resOk; rw [h]
theorem res_many {t : Int} {s : ByteArray} {x : Sen} (h : senT t s = some x) (hl : 40 < (resS t x).length) : resOk t s = false := by unfold resOk; rw [h]; exact decide_eq_false (by omega)
theorem res_few {t : Int} {s : ByteArray} {x : Sen} (h : senT t s = some x) (hl : (resS t x).length ≤ 40) : resOk t s = true ∧ resL t s = resS t x := by
  have h1 : resOk t s = true := by unfold resOk; rw [h]; exact decide_eq_true hl
  refine ⟨h1, ?_⟩
  unfold resL resT; rw [h1, h]; rfl
theorem resL_len (t : Int) (s : ByteArray) : (resL t s).length ≤ 40 := by
  rcases h : resOk t s with _ | _
  · rw [resL_no h]; simp
  · obtain ⟨x, _, hl, e⟩ := resOk_some h; rw [e]; exact hl
theorem res_good {t : Int} {s : ByteArray} (h : resOk t s = true) : Good t (resL t s) := by
  obtain ⟨x, hx, hl, e⟩ := resOk_some h
  obtain ⟨h1, h3, _⟩ := senT_ok hx
  rw [e]; exact (res_main h1 h3 x).1
theorem answers_len (t : Int) (s : ByteArray) : (answersL t s).length ≤ 256 := tidy_len _ 256
theorem tidy_nil : tidyL [] = [] := by
  have h : ∀ x ∈ tidyL [], False := fun x hx => by
    have := (tidy_mem (xs := []) (by simp) x).1 hx
    simp at this
  rcases e : tidyL [] with _ | ⟨a, r⟩
  · rfl
  · exact absurd (by rw [e]; simp) (h a)
theorem answers_no {t : Int} {s : ByteArray} (h : resOk t s = false) : answersL t s = [] := by unfold answersL; rw [resL_no h, tidy_nil]
theorem answers_pos {t : Int} {s : ByteArray} (h : resOk t s = true) : 1 ≤ (answersL t s).length := by
  have hg := res_good h
  exact (issue_ne (tidy_ok hg.1 hg.2)).1

theorem leftTo_snoc {k : Int} {xs : List Int} {j : Nat} {x : Int} (hx : Hid (xs[j]? = some x)) : leftTo k (xs.take (j + 1)) = leftTo k (xs.take j) + (if andI k x ≠ 0 then 1 else 0) := by
  unfold leftTo
  rw [take_snoc hx, List.filter_append, List.length_append]
  congr 1
  by_cases h : andI k x = 0 <;> simp [h]
theorem leftTo_le (k : Int) (xs : List Int) : leftTo k xs ≤ xs.length := List.length_filter_le _ _
theorem andI_comm (a b : Int) : andI a b = andI b a := by unfold andI; rw [Nat.and_comm]
theorem orI_comm (a b : Int) : orI a b = orI b a := by unfold orI; rw [Nat.or_comm]

/-- The laws of the document, at texts. -/
theorem law_res_settles {t : Int} {s : ByteArray} (h : resOk t s = true) {k : Int} (hk : 0 ≤ k) (hk2 : k ≤ allOf t) : settlesB t (issueT t s) k = anyWithin k (resL t s) := by
  obtain ⟨x, hx, _, e⟩ := resOk_some h
  obtain ⟨h1, h3, _⟩ := senT_ok hx
  rw [settles_any (issueT_ok hx) hk hk2, (issueT_some hx).1, e, (res_main h1 h3 x).2 k hk hk2]
theorem law_res_from {t : Int} {s : ByteArray} (h : resOk t s = true) : isT t s = true ∧ issueFromL t (resL t s) = issueT t s := by
  obtain ⟨x, hx, hl, e⟩ := resOk_some h
  obtain ⟨h1, h3, _⟩ := senT_ok hx
  refine ⟨(issueT_some hx).2, ?_⟩
  rw [e, (issueT_some hx).1]; exact res_from h1 h3 x (by omega)
theorem law_byRes {t : Int} {s u : ByteArray} (h : resOk t s = true) (h2 : resOk t u = true) : entailsT t s u = byResB t s u := by
  obtain ⟨x, hx, _, e⟩ := resOk_some h
  obtain ⟨y, hy, _, e2⟩ := resOk_some h2
  obtain ⟨h1, h3, _⟩ := senT_ok hx
  unfold byResB
  rw [h, h2, e, e2, res_follows h1 h3 x y]
  unfold entailsT
  rw [hx, hy]; simp
theorem byRes_no {t : Int} {s u : ByteArray} (h : resOk t s = false ∨ resOk t u = false) : byResB t s u = false := by
  unfold byResB
  rcases h with h | h
  · rw [h]; rfl
  · rw [h, Bool.and_false]; rfl
theorem byRes_yes {t : Int} {s u : ByteArray} (h : resOk t s = true) (h2 : resOk t u = true) : byResB t s u = (resL t s).all fun r => anyWithin r (resL t u) := by
  unfold byResB; rw [h, h2]; rfl
theorem law_answers {t : Int} {s : ByteArray} (h : resOk t s = true) : isT t s = true ∧ issueT t s = answersL t s ∧ ∀ a ∈ answersL t s, a ∈ resL t s := by
  obtain ⟨x, hx, _, e⟩ := resOk_some h
  obtain ⟨h1, h3, _⟩ := senT_ok hx
  refine ⟨(issueT_some hx).2, ?_, fun a ha => tidy_sub (res_good h).range a ha⟩
  unfold answersL
  rw [e, (issueT_some hx).1, res_tidy h1 h3]
theorem answers_no_set {t k : Int} {s : ByteArray} (h : resOk t s = false ∨ setOkB t k = false) : answersB t k s = false ∧ answersN t k s = -1 := by
  have e : (resOk t s && setOkB t k) = false := by
    rcases h with h | h
    · rw [h]; rfl
    · rw [h, Bool.and_false]
  unfold answersB answersN
  rw [e]; exact ⟨rfl, rfl⟩
theorem answers_yes {t k : Int} {s : ByteArray} (h : resOk t s = true) (hk : setOkB t k = true) (ha : anyWithin k (resL t s) = true) : answersB t k s = true ∧ answersN t k s = 0 := by
  unfold answersB answersN
  rw [h, hk, ha]; exact ⟨rfl, rfl⟩
theorem answers_left {t k : Int} {s : ByteArray} (h : resOk t s = true) (hk : setOkB t k = true) (ha : anyWithin k (resL t s) = false) : answersB t k s = false ∧ answersN t k s = leftTo k (answersL t s) := by
  unfold answersB answersN
  rw [h, hk, ha]; exact ⟨rfl, rfl⟩
theorem answers_any {t k : Int} {s : ByteArray} (h : resOk t s = true) (hk : 0 ≤ k) : anyWithin k (answersL t s) = anyWithin k (resL t s) := tidy_any (res_good h).range hk
theorem law_answersIt {t k : Int} {s : ByteArray} (h : resOk t s = true) (hk : setOkB t k = true) : supportsT t k s = answersB t k s := by
  obtain ⟨x, hx, _, e⟩ := resOk_some h
  obtain ⟨_, _, h0, ha, _⟩ := setOkB_lt hk
  unfold answersB
  rw [h, hk, ← supports_settles hx hk, law_res_settles h h0 ha]; rfl
end Go.Proofs.Ytbiifcdlfmeahaa
