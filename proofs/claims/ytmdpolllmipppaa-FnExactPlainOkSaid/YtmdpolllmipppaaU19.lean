/-
  What the proofs of this seat's statements share (Drt, Dru, Shl, Shx).
-/
import Derived.Deep.RegionWith
import Derived.IntWalk
import Derived.Test.YtmdpolllmipppaaU18
import Derived.Test.YtmdpolllmipppaaU9

namespace Go.Proofs.Ytmdpolllmipppaa
open Go.RowKit

def TextPost (g u : Nat) (w : World) (e : Ending) (w' : World) : Prop := ∃ (t : Int) (s : ByteArray), e = .returned (.tuple #[.int .i64 t, .string s]) ∧ -1 ≤ t ∧ t ≤ 4 ∧ s.size ≤ 20 ∧ Rd w' g (u + 40) ∧ w.grownBy w' (some g)
theorem lit_here {k : Int} (h0 : 0 ≤ k) (hk : k < 5) : ∃ x : ByteArray, x ∈ words5 ∧ ∀ h, [Value.string ⟨#[]⟩, .string ⟨#[99]⟩, .string ⟨#[40]⟩, .string ⟨#[38]⟩, .string ⟨#[33]⟩][k.toNat]'h = .string x := by
  have h5 : k = 0 ∨ k = 1 ∨ k = 2 ∨ k = 3 ∨ k = 4 := by omega
  rcases h5 with rfl | rfl | rfl | rfl | rfl
  · exact ⟨_, List.mem_cons_self, fun _ => rfl⟩
  · exact ⟨_, List.mem_cons_of_mem _ List.mem_cons_self, fun _ => rfl⟩
  · exact ⟨_, List.mem_cons_of_mem _ (List.mem_cons_of_mem _ List.mem_cons_self), fun _ => rfl⟩
  · exact ⟨_, List.mem_cons_of_mem _ (List.mem_cons_of_mem _ (List.mem_cons_of_mem _ List.mem_cons_self)), fun _ => rfl⟩
  · exact ⟨_, List.mem_cons_of_mem _ (List.mem_cons_of_mem _ (List.mem_cons_of_mem _ (List.mem_cons_of_mem _ List.mem_cons_self))), fun _ => rfl⟩
theorem lit_drew {w w' : World} {g : Nat} (xs : List ByteArray) {t : TypeId} (hg : (w.alloc (.cells (xs.map Value.string).toArray t)).drew.grownBy w' (some g)) (hne : g < w.heap.size) {k : Int} (h0 : 0 ≤ k) (hk : k < xs.length) :
    ∃ x : ByteArray, x ∈ xs ∧ w'.cell? ⟨w.heap.size, k.toNat, none⟩ = some (.string x) := by
  have hg' : (w.alloc (.cells (xs.map Value.string).toArray t)).grownBy w' (some g) := (grown_drewN (World.grownBy.refl _ _) 1).trans hg
  exact lit_str xs hg' hne h0 hk
theorem text_last {w w4 w' : World} {g u u' : Nat} {o : Obj} (h : w.grownBy w4 (some g)) (hr : Rd w' g u) (hg : (w4.alloc o).drew.grownBy w' (some g)) (hu : u ≤ u') : Rd w' g u' ∧ w.grownBy w' (some g) :=
  ⟨hr.more hu, (grown_drewN (grown_alloc h _) 1).trans hg⟩
theorem text_last2 {w w4 w' : World} {g u u' : Nat} (h : w.grownBy w4 (some g)) (hr : Rd w' g u) (hg : w4.drew.grownBy w' (some g)) (hu : u ≤ u') (o : Obj) : Rd (w'.alloc o) g u' ∧ w.grownBy (w'.alloc o) (some g) :=
  ⟨(hr.more hu).alloc o, grown_alloc ((grown_drewN h 1).trans hg) o⟩

set_option maxRecDepth 100000 in
set_option maxHeartbeats 4000000 in
theorem text_any (g u : Nat) (n : Int) (w : World) (hn : n ≤ 1048576) (hn0 : 0 ≤ n) (hu : u ≤ 800000) (hR : Rd w g u) :
    Calls Try.prog 50 #[.pointer (some ⟨g, 0, none⟩), .int .i64 n] w (TextPost g u w) := by
  have HR := Lib.hid hR
  have hlt := hR.lt
  clear hR
  go_enter Try.func50, Try.ntmps50
  go_wp2_with fail
  refine (things_any g u _ _ (by omega) (by omega) (by omega) HR.out).mono ?_
  rintro e w1 ⟨t, rfl, ht0, ht1, hr, hg⟩
  have hlt1 : g < w1.heap.size := hr.lt
  have HR1 := Lib.hid hr
  have HG1 := Lib.hid hg
  clear hr hg
  by_cases h3 : t = 3
  · subst h3
    go_wp2_with fail
    refine (pick_any g _ _ _ (by omega) (by omega) (by omega) HR1.out).mono ?_
    rintro e w0 ⟨k0, rfl, hk00, hk01, hr, hg⟩
    have hlt0 : g < w0.heap.size := hr.lt
    have HR0 := Lib.hid hr
    have HG0 := Lib.hid (HG1.out.trans hg)
    clear hr hg hk01
    by_cases hz : k0 = 0
    · subst hz
      go_wp2_with fail
      refine (sent2_any g _ 2 _ (by omega) HR0.out).mono ?_
      rintro e w2 ⟨s, rfl, hs1, hs2, hr, hg⟩
      have hlt2 : g < w2.heap.size := hr.lt
      have HR2 := Lib.hid hr
      have HG2 := Lib.hid (HG0.out.trans hg)
      clear hr hg
      go_wp2_with fail
      refine (odd_any g _ _ _ (by omega) (by omega) (by omega) HR2.out).mono ?_
      rintro e w3 ⟨b, rfl, hr, hg⟩
      have hlt3 : g < w3.heap.size := hr.lt
      have HR3 := Lib.hid hr
      have HG3 := Lib.hid (HG2.out.trans hg)
      clear hr hg
      cases b
      · have HP : Hid (Rd w3 g (u + 40) ∧ w.grownBy w3 (some g)) := ⟨HR3.out.more (by omega), HG3.out⟩
        go_wp2_with fail
        go_ret2
        exact ⟨2, s, rfl, by omega, by omega, by omega, HP.out⟩
      · go_wp2_with fail
        refine (pick_any g _ _ _ (by omega) (by omega) (by omega) HR3.out).mono ?_
        rintro e w4 ⟨k, rfl, hk0, hk1, hr, hg⟩
        have hkk := hk1 (by omega)
        have hlt4 : g < w4.heap.size := hr.lt
        have HR4 := Lib.hid hr
        have HG4 := Lib.hid (HG3.out.trans hg)
        clear hr hg hk1
        obtain ⟨l, hl⟩ : ∃ l, k + 1 = l := ⟨_, rfl⟩
        obtain ⟨p1, hp1⟩ : ∃ p, s.extract 0 k.toNat = p := ⟨_, rfl⟩
        obtain ⟨p2, hp2⟩ : ∃ p, s.extract l.toNat s.size = p := ⟨_, rfl⟩
        have hE1 : p1.size ≤ 13 := by rw [← hp1, ByteArray.size_extract]; omega
        have hE2 : p2.size ≤ 13 := by rw [← hp2, ByteArray.size_extract]; omega
        have HE : Hid (p1.size + p2.size ≤ 13) := by unfold Hid; rw [← hp1, ← hp2, ByteArray.size_extract, ByteArray.size_extract]; omega
        have hks : k ≤ (s.size : Int) := by omega
        have hl1 : l ≤ (s.size : Int) := by omega
        have hl0 : 0 ≤ l := by omega
        have HRd := Lib.hid (pick_any g _ 5 w4.drew (by omega) (by omega) (by omega) (HR4.out.drewN 1))
        have HRa := Lib.hid (pick_any g _ 5 (w4.alloc (.cells #[.string ⟨#[]⟩, .string ⟨#[99]⟩, .string ⟨#[40]⟩, .string ⟨#[38]⟩, .string ⟨#[33]⟩] 9)).drew (by omega) (by omega) (by omega) ((HR4.out.alloc _).drewN 1))
        have hw : IntKind.i64.wrap (k + 1) = l := (IntWalk.i64_in _ (by omega)).trans hl
        clear hl
        go_upto_region 7 with fail
        go_region_with (first
          | (go_at_call 67; (with_reducible refine HRa.out.mono ?_); rintro e w5 ⟨k5, rfl, hk50, hk51, hr, hg⟩; have hk52 := hk51 (by omega); obtain ⟨x, HX, hcell⟩ := lit_drew words5 hg hlt4 hk50 (by simp [words5]; omega); have hx1 := words5_size HX; have HP := Lib.hid (text_last (u' := u + 40) HG4.out hr hg (by omega)); clear hr hg hk51 HX)
          | (go_at_call 67; (with_reducible refine HRd.out.mono ?_); rintro e w5 ⟨k5, rfl, hk50, hk51, hr, hg⟩; have hk52 := hk51 (by omega); obtain ⟨x, HX, hcell⟩ := lit_here hk50 hk52; have hx1 := words5_size HX; have HP := Lib.hid (text_last2 (u' := u + 40) HG4.out hr hg (by omega)); clear hr hg hk51 HX))
        all_goals
          clear HRd HRa hp1 hp2 hks hl1 hl0 hw
          go_wp2_with fail
          go_ret2
          refine ⟨2, _, rfl, by omega, by omega, ?_, by first | exact HP.out | exact HP.out _⟩
          have := HE.out
          rw [ByteArray.size_append, ByteArray.size_append]
          omega
    · have hzb : (k0 == 0) = false := by rw [beq_eq_false_iff_ne]; exact hz
      clear hz
      go_wp2_with fail
      refine (sent2_any g _ 3 _ (by omega) HR0.out).mono ?_
      rintro e w2 ⟨s, rfl, hs1, hs2, hr, hg⟩
      have hlt2 : g < w2.heap.size := hr.lt
      have HR2 := Lib.hid hr
      have HG2 := Lib.hid (HG0.out.trans hg)
      clear hr hg
      go_wp2_with fail
      refine (odd_any g _ _ _ (by omega) (by omega) (by omega) HR2.out).mono ?_
      rintro e w3 ⟨b, rfl, hr, hg⟩
      have hlt3 : g < w3.heap.size := hr.lt
      have HR3 := Lib.hid hr
      have HG3 := Lib.hid (HG2.out.trans hg)
      clear hr hg
      cases b
      · have HP : Hid (Rd w3 g (u + 40) ∧ w.grownBy w3 (some g)) := ⟨HR3.out.more (by omega), HG3.out⟩
        go_wp2_with fail
        go_ret2
        exact ⟨3, s, rfl, by omega, by omega, by omega, HP.out⟩
      · go_wp2_with fail
        refine (pick_any g _ _ _ (by omega) (by omega) (by omega) HR3.out).mono ?_
        rintro e w4 ⟨k, rfl, hk0, hk1, hr, hg⟩
        have hkk := hk1 (by omega)
        have hlt4 : g < w4.heap.size := hr.lt
        have HR4 := Lib.hid hr
        have HG4 := Lib.hid (HG3.out.trans hg)
        clear hr hg hk1
        obtain ⟨l, hl⟩ : ∃ l, k + 1 = l := ⟨_, rfl⟩
        obtain ⟨p1, hp1⟩ : ∃ p, s.extract 0 k.toNat = p := ⟨_, rfl⟩
        obtain ⟨p2, hp2⟩ : ∃ p, s.extract l.toNat s.size = p := ⟨_, rfl⟩
        have hE1 : p1.size ≤ 13 := by rw [← hp1, ByteArray.size_extract]; omega
        have hE2 : p2.size ≤ 13 := by rw [← hp2, ByteArray.size_extract]; omega
        have HE : Hid (p1.size + p2.size ≤ 13) := by unfold Hid; rw [← hp1, ← hp2, ByteArray.size_extract, ByteArray.size_extract]; omega
        have hks : k ≤ (s.size : Int) := by omega
        have hl1 : l ≤ (s.size : Int) := by omega
        have hl0 : 0 ≤ l := by omega
        have HRd := Lib.hid (pick_any g _ 5 w4.drew (by omega) (by omega) (by omega) (HR4.out.drewN 1))
        have HRa := Lib.hid (pick_any g _ 5 (w4.alloc (.cells #[.string ⟨#[]⟩, .string ⟨#[99]⟩, .string ⟨#[40]⟩, .string ⟨#[38]⟩, .string ⟨#[33]⟩] 9)).drew (by omega) (by omega) (by omega) ((HR4.out.alloc _).drewN 1))
        have hw : IntKind.i64.wrap (k + 1) = l := (IntWalk.i64_in _ (by omega)).trans hl
        clear hl
        go_upto_region 7 with fail
        go_region_with (first
          | (go_at_call 67; (with_reducible refine HRa.out.mono ?_); rintro e w5 ⟨k5, rfl, hk50, hk51, hr, hg⟩; have hk52 := hk51 (by omega); obtain ⟨x, HX, hcell⟩ := lit_drew words5 hg hlt4 hk50 (by simp [words5]; omega); have hx1 := words5_size HX; have HP := Lib.hid (text_last (u' := u + 40) HG4.out hr hg (by omega)); clear hr hg hk51 HX)
          | (go_at_call 67; (with_reducible refine HRd.out.mono ?_); rintro e w5 ⟨k5, rfl, hk50, hk51, hr, hg⟩; have hk52 := hk51 (by omega); obtain ⟨x, HX, hcell⟩ := lit_here hk50 hk52; have hx1 := words5_size HX; have HP := Lib.hid (text_last2 (u' := u + 40) HG4.out hr hg (by omega)); clear hr hg hk51 HX))
        all_goals
          clear HRd HRa hp1 hp2 hks hl1 hl0 hw
          go_wp2_with fail
          go_ret2
          refine ⟨3, _, rfl, by omega, by omega, ?_, by first | exact HP.out | exact HP.out _⟩
          have := HE.out
          rw [ByteArray.size_append, ByteArray.size_append]
          omega
  · have h3b : (t == 3) = false := by rw [beq_eq_false_iff_ne]; exact h3
    go_wp2_with fail
    refine (sent2_any g _ t _ (by omega) HR1.out).mono ?_
    rintro e w2 ⟨s, rfl, hs1, hs2, hr, hg⟩
    have hlt2 : g < w2.heap.size := hr.lt
    have HR2 := Lib.hid hr
    have HG2 := Lib.hid (HG1.out.trans hg)
    clear hr hg
    go_wp2_with fail
    refine (odd_any g _ _ _ (by omega) (by omega) (by omega) HR2.out).mono ?_
    rintro e w3 ⟨b, rfl, hr, hg⟩
    have hlt3 : g < w3.heap.size := hr.lt
    have HR3 := Lib.hid hr
    have HG3 := Lib.hid (HG2.out.trans hg)
    clear hr hg
    cases b
    · have HP : Hid (Rd w3 g (u + 40) ∧ w.grownBy w3 (some g)) := ⟨HR3.out.more (by omega), HG3.out⟩
      go_wp2_with fail
      go_ret2
      exact ⟨t, s, rfl, by omega, by omega, by omega, HP.out⟩
    · go_wp2_with fail
      refine (pick_any g _ _ _ (by omega) (by omega) (by omega) HR3.out).mono ?_
      rintro e w4 ⟨k, rfl, hk0, hk1, hr, hg⟩
      have hkk := hk1 (by omega)
      have hlt4 : g < w4.heap.size := hr.lt
      have HR4 := Lib.hid hr
      have HG4 := Lib.hid (HG3.out.trans hg)
      clear hr hg hk1
      obtain ⟨l, hl⟩ : ∃ l, k + 1 = l := ⟨_, rfl⟩
      obtain ⟨p1, hp1⟩ : ∃ p, s.extract 0 k.toNat = p := ⟨_, rfl⟩
      obtain ⟨p2, hp2⟩ : ∃ p, s.extract l.toNat s.size = p := ⟨_, rfl⟩
      have hE1 : p1.size ≤ 13 := by rw [← hp1, ByteArray.size_extract]; omega
      have hE2 : p2.size ≤ 13 := by rw [← hp2, ByteArray.size_extract]; omega
      have HE : Hid (p1.size + p2.size ≤ 13) := by unfold Hid; rw [← hp1, ← hp2, ByteArray.size_extract, ByteArray.size_extract]; omega
      have hks : k ≤ (s.size : Int) := by omega
      have hl1 : l ≤ (s.size : Int) := by omega
      have hl0 : 0 ≤ l := by omega
      have HRd := Lib.hid (pick_any g _ 5 w4.drew (by omega) (by omega) (by omega) (HR4.out.drewN 1))
      have HRa := Lib.hid (pick_any g _ 5 (w4.alloc (.cells #[.string ⟨#[]⟩, .string ⟨#[99]⟩, .string ⟨#[40]⟩, .string ⟨#[38]⟩, .string ⟨#[33]⟩] 9)).drew (by omega) (by omega) (by omega) ((HR4.out.alloc _).drewN 1))
      have hw : IntKind.i64.wrap (k + 1) = l := (IntWalk.i64_in _ (by omega)).trans hl
      clear hl
      go_upto_region 7 with fail
      go_region_with (first
        | (go_at_call 67; (with_reducible refine HRa.out.mono ?_); rintro e w5 ⟨k5, rfl, hk50, hk51, hr, hg⟩; have hk52 := hk51 (by omega); obtain ⟨x, HX, hcell⟩ := lit_drew words5 hg hlt4 hk50 (by simp [words5]; omega); have hx1 := words5_size HX; have HP := Lib.hid (text_last (u' := u + 40) HG4.out hr hg (by omega)); clear hr hg hk51 HX)
        | (go_at_call 67; (with_reducible refine HRd.out.mono ?_); rintro e w5 ⟨k5, rfl, hk50, hk51, hr, hg⟩; have hk52 := hk51 (by omega); obtain ⟨x, HX, hcell⟩ := lit_here hk50 hk52; have hx1 := words5_size HX; have HP := Lib.hid (text_last2 (u' := u + 40) HG4.out hr hg (by omega)); clear hr hg hk51 HX))
      all_goals
        clear HRd HRa hp1 hp2 hks hl1 hl0 hw
        go_wp2_with fail
        go_ret2
        refine ⟨t, _, rfl, by omega, by omega, ?_, by first | exact HP.out | exact HP.out _⟩
        have := HE.out
        rw [ByteArray.size_append, ByteArray.size_append]
        omega
end Go.Proofs.Ytmdpolllmipppaa

namespace Go.Proofs.Ytmdpolllmipppaa
open Go.RowKit

def DrawT (w : World) (e : Ending) (w' : World) : Prop := ∃ (t : Int) (s : ByteArray), e = .returned (.tuple #[.int .i64 t, .string s]) ∧ -1 ≤ t ∧ t ≤ 4 ∧ s.size ≤ 20 ∧ Below w.heap.size w w'
def DrawTKS (w : World) (e : Ending) (w' : World) : Prop := ∃ (t k : Int) (s : ByteArray), e = .returned (.tuple #[.int .i64 t, .int .i64 k, .string s]) ∧ -1 ≤ t ∧ t ≤ 4 ∧ -1 ≤ k ∧ k ≤ 256 ∧ s.size ≤ 20 ∧ Below w.heap.size w w'
def DrawTSS (w : World) (e : Ending) (w' : World) : Prop := ∃ (t : Int) (s u : ByteArray), e = .returned (.tuple #[.int .i64 t, .string s, .string u]) ∧ -1 ≤ t ∧ t ≤ 4 ∧ s.size ≤ 28 ∧ u.size ≤ 28 ∧ Below w.heap.size w w'

set_option maxHeartbeats 1000000 in
theorem drawIssueOf_any (A : Option Addr) (nn c : Nat) (zs : List Int) (w : World) (hn : nn = zs.length) (hc : nn ≤ c) (hm : c ≤ maxLen) (hr : ∀ z ∈ zs, 0 ≤ z ∧ z ≤ 255) (hA : Nums .u8 w A zs) :
    Calls Try.prog 15 #[.slice A nn c] w (DrawT w) := by
  have HO := Lib.hid (open_any A nn c zs w hn hc hm hr hA)
  clear hn hc hm hr hA
  go_enter Try.func15, Try.ntmps15
  go_wp2_with fail
  refine HO.out.mono ?_
  rintro e w1 ⟨rfl, hrd, hb⟩
  have HR := Lib.hid hrd
  have HB := Lib.hid hb
  clear hrd hb
  go_wp2_with fail
  refine (text_any _ 0 _ _ (by omega) (by omega) (by omega) HR.out).mono ?_
  rintro e w2 ⟨t, s, rfl, ht0, ht1, hs, _, hg⟩
  have HB2 := Lib.hid (below_grown HB.out hg HB.out.size (Nat.le_refl _))
  clear hg
  go_wp2_with fail
  go_ret2
  exact ⟨t, s, rfl, ht0, ht1, hs, HB2.out⟩

set_option maxHeartbeats 1000000 in
theorem drawPlainOk_any (A : Option Addr) (nn c : Nat) (zs : List Int) (w : World) (hn : nn = zs.length) (hc : nn ≤ c) (hm : c ≤ maxLen) (hr : ∀ z ∈ zs, 0 ≤ z ∧ z ≤ 255) (hA : Nums .u8 w A zs) :
    Calls Try.prog 33 #[.slice A nn c] w (DrawT w) := by
  have HO := Lib.hid (open_any A nn c zs w hn hc hm hr hA)
  clear hn hc hm hr hA
  go_enter Try.func33, Try.ntmps33
  go_wp2_with fail
  refine HO.out.mono ?_
  rintro e w1 ⟨rfl, hrd, hb⟩
  have HR := Lib.hid hrd
  have HB := Lib.hid hb
  clear hrd hb
  go_wp2_with fail
  refine (text_any _ 0 _ _ (by omega) (by omega) (by omega) HR.out).mono ?_
  rintro e w2 ⟨t, s, rfl, ht0, ht1, hs, _, hg⟩
  have HB2 := Lib.hid (below_grown HB.out hg HB.out.size (Nat.le_refl _))
  clear hg
  go_wp2_with fail
  go_ret2
  exact ⟨t, s, rfl, ht0, ht1, hs, HB2.out⟩

set_option maxHeartbeats 1000000 in
theorem drawTrueIn_any (A : Option Addr) (nn c : Nat) (zs : List Int) (w : World) (hn : nn = zs.length) (hc : nn ≤ c) (hm : c ≤ maxLen) (hr : ∀ z ∈ zs, 0 ≤ z ∧ z ≤ 255) (hA : Nums .u8 w A zs) :
    Calls Try.prog 37 #[.slice A nn c] w (DrawT w) := by
  have HO := Lib.hid (open_any A nn c zs w hn hc hm hr hA)
  clear hn hc hm hr hA
  go_enter Try.func37, Try.ntmps37
  go_wp2_with fail
  refine HO.out.mono ?_
  rintro e w1 ⟨rfl, hrd, hb⟩
  have HR := Lib.hid hrd
  have HB := Lib.hid hb
  clear hrd hb
  go_wp2_with fail
  refine (text_any _ 0 _ _ (by omega) (by omega) (by omega) HR.out).mono ?_
  rintro e w2 ⟨t, s, rfl, ht0, ht1, hs, _, hg⟩
  have HB2 := Lib.hid (below_grown HB.out hg HB.out.size (Nat.le_refl _))
  clear hg
  go_wp2_with fail
  go_ret2
  exact ⟨t, s, rfl, ht0, ht1, hs, HB2.out⟩

set_option maxHeartbeats 1000000 in
theorem drawSupports_any (A : Option Addr) (nn c : Nat) (zs : List Int) (w : World) (hn : nn = zs.length) (hc : nn ≤ c) (hm : c ≤ maxLen) (hr : ∀ z ∈ zs, 0 ≤ z ∧ z ≤ 255) (hA : Nums .u8 w A zs) :
    Calls Try.prog 27 #[.slice A nn c] w (DrawTKS w) := by
  have HO := Lib.hid (open_any A nn c zs w hn hc hm hr hA)
  clear hn hc hm hr hA
  go_enter Try.func27, Try.ntmps27
  go_wp2_with fail
  refine HO.out.mono ?_
  rintro e w1 ⟨rfl, hrd, hb⟩
  have HR := Lib.hid hrd
  have HB := Lib.hid hb
  clear hrd hb
  go_wp2_with fail
  refine (text_any _ 0 _ _ (by omega) (by omega) (by omega) HR.out).mono ?_
  rintro e w2 ⟨t, s, rfl, ht0, ht1, hs, hr, hg⟩
  have HR2 := Lib.hid hr
  have HB2 := Lib.hid (below_grown HB.out hg HB.out.size (Nat.le_refl _))
  clear hg hr
  go_wp2_with fail
  refine (set_any _ _ _ _ _ (by omega) (by omega) (by omega) HR2.out).mono ?_
  rintro e w3 ⟨k, rfl, hs0, hs1, _, hg⟩
  have HB3 := Lib.hid (below_grown HB2.out hg HB2.out.size (Nat.le_refl _))
  clear hg
  go_wp2_with fail
  go_ret3
  exact ⟨t, k, s, rfl, ht0, ht1, hs0, hs1, hs, HB3.out⟩

set_option maxHeartbeats 2000000 in
theorem drawEntailsOf_any (A : Option Addr) (nn c : Nat) (zs : List Int) (w : World) (hn : nn = zs.length) (hc : nn ≤ c) (hm : c ≤ maxLen) (hr : ∀ z ∈ zs, 0 ≤ z ∧ z ≤ 255) (hA : Nums .u8 w A zs) :
    Calls Try.prog 39 #[.slice A nn c] w (DrawTSS w) := by
  have HO := Lib.hid (open_any A nn c zs w hn hc hm hr hA)
  clear hn hc hm hr hA
  go_enter Try.func39, Try.ntmps39
  go_wp2_with fail
  refine HO.out.mono ?_
  rintro e w1 ⟨rfl, hrd, hb⟩
  have HR := Lib.hid hrd
  have HB := Lib.hid hb
  clear hrd hb
  go_wp2_with fail
  refine (text_any _ 0 _ _ (by omega) (by omega) (by omega) HR.out).mono ?_
  rintro e w2 ⟨t, s, rfl, ht0, ht1, hs, hr, hg⟩
  have HR2 := Lib.hid hr
  have HB2 := Lib.hid (below_grown HB.out hg HB.out.size (Nat.le_refl _))
  clear hg hr
  go_wp2_with fail
  refine (pick_any _ _ _ _ (by omega) (by omega) (by omega) HR2.out).mono ?_
  rintro e w3 ⟨k, rfl, hk0, hk1, hr, hg⟩
  have HR3 := Lib.hid hr
  have HB3 := Lib.hid (below_grown HB2.out hg HB2.out.size (Nat.le_refl _))
  clear hg hr hk1
  by_cases hz : k = 0
  · subst hz
    go_wp2_with fail
    refine (sent1_any _ _ _ _ (by omega) HR3.out).mono ?_
    rintro e w4 ⟨u, rfl, hu1, hu2, _, hg⟩
    have HB4 := Lib.hid (below_grown HB3.out hg HB3.out.size (Nat.le_refl _))
    clear hg
    go_wp2_with fail
    go_ret3
    exact ⟨t, _, s, rfl, ht0, ht1, by simp only [ByteArray.size_append, one_size]; omega, by omega, HB4.out⟩
  · have hzb : (k == 0) = false := by rw [beq_eq_false_iff_ne]; exact hz
    clear hz
    go_wp2_with fail
    refine (sent2_any _ _ _ _ (by omega) HR3.out).mono ?_
    rintro e w4 ⟨u, rfl, hu1, hu2, _, hg⟩
    have HB4 := Lib.hid (below_grown HB3.out hg HB3.out.size (Nat.le_refl _))
    clear hg
    go_wp2_with fail
    go_ret3
    exact ⟨t, s, u, rfl, ht0, ht1, by omega, by omega, HB4.out⟩
end Go.Proofs.Ytmdpolllmipppaa

namespace Go.Proofs.Ytmdpolllmipppaa
open Go.RowKit

theorem bytesN_append (a b : ByteArray) : bytesN (a ++ b) = bytesN a ++ bytesN b := by
  unfold bytesN
  rw [ByteArray.data_append, Array.toList_append, List.map_append]
theorem bytesN_lit (l : List UInt8) : bytesN ⟨l.toArray⟩ = l.map UInt8.toNat := rfl
theorem senT_of {t : Int} {s : ByteArray} {x : Sen} (h1 : 1 ≤ t) (h3 : t ≤ 3) (hl : s.size ≤ 60) (hx : senOk t x = true) (hb : bytesN s = textS x) : senT t s = some x :=
  senOf_iff.2 ⟨h1, h3, by rw [bytesN_len]; exact hl, hx, hb⟩
theorem size1 (b : UInt8) : (ByteArray.mk #[b]).size = 1 := rfl
theorem size2 (b c : UInt8) : (ByteArray.mk #[b, c]).size = 2 := rfl
theorem senT_no {t : Int} {s : ByteArray} {x : Sen} (h : senT t s = some x) (hl : s.size < 60) : senT t (⟨#[33]⟩ ++ s) = some (.no x) := by
  obtain ⟨h1, h3, _, hx, hb⟩ := senT_ok h
  refine senT_of h1 h3 (by rw [ByteArray.size_append, size1]; omega) hx ?_
  rw [bytesN_append, hb]; rfl
theorem senT_nono {t : Int} {s : ByteArray} {x : Sen} (h : senT t s = some x) (hl : s.size < 59) : senT t (⟨#[33, 33]⟩ ++ s) = some (.no (.no x)) := by
  obtain ⟨h1, h3, _, hx, hb⟩ := senT_ok h
  refine senT_of h1 h3 (by rw [ByteArray.size_append, size2]; omega) hx ?_
  rw [bytesN_append, hb]; rfl
theorem senT_ask {t : Int} {s : ByteArray} {x : Sen} (h : senT t s = some x) (hl : s.size < 60) : senT t (⟨#[63]⟩ ++ s) = some (.ask x) := by
  obtain ⟨h1, h3, _, hx, hb⟩ := senT_ok h
  refine senT_of h1 h3 (by rw [ByteArray.size_append, size1]; omega) hx ?_
  rw [bytesN_append, hb]; rfl
theorem senT_if {t : Int} {s u : ByteArray} {x y : Sen} (h : senT t s = some x) (hu : senT t u = some y) (hl : s.size + u.size < 58) : senT t (⟨#[40]⟩ ++ s ++ ⟨#[62]⟩ ++ u ++ ⟨#[41]⟩) = some (.if_ x y) := by
  obtain ⟨h1, h3, _, hx, hb⟩ := senT_ok h
  obtain ⟨_, _, _, hy, hc⟩ := senT_ok hu
  refine senT_of h1 h3 (by simp only [ByteArray.size_append, size1]; omega) (by unfold senOk; rw [hx, hy]; rfl) ?_
  simp only [bytesN_append, hb, hc, textS, List.append_assoc]; rfl

theorem issueT_ok {t : Int} {s : ByteArray} {x : Sen} (h : senT t s = some x) : issueOkB t (issueT t s) = true := by
  obtain ⟨h1, h3, _, _, _⟩ := senT_ok h
  rw [(issueT_some h).1]; exact sen_issue h1 h3 x
theorem issueT_len (t : Int) (s : ByteArray) : (issueT t s).length ≤ 70 := by
  rcases h : senT t s with _ | x
  · rw [(issueT_none h).1]; simp
  · exact (issue_ne (issueT_ok h)).2
theorem issueT_nono {t : Int} {s : ByteArray} {x : Sen} (h : senT t s = some x) (hl : s.size < 59) : issueT t (⟨#[33, 33]⟩ ++ s) = [unionI (issueT t s)] := by
  rw [(issueT_some (senT_nono h hl)).1, (issueT_some h).1]
  obtain ⟨h1, h3, _, _, _⟩ := senT_ok h
  exact law_notnot (sen_issue h1 h3 x)
theorem issueT_ask {t : Int} {s : ByteArray} {x : Sen} (h : senT t s = some x) (hl : s.size < 60) : grantedI t (issueT t (⟨#[63]⟩ ++ s)) = allOf t := by
  rw [granted_ok (issueT_ok (senT_ask h hl)), (issueT_some (senT_ask h hl)).1]
  obtain ⟨h1, h3, _, _, _⟩ := senT_ok h
  exact law_whether_all (sen_issue h1 h3 x)
theorem statement_union {t : Int} {xs : List Int} (h : issueOkB t xs = true) : statementL t (unionI xs) = [unionI xs] := by
  unfold statementL; rw [union_ok h]; rfl
theorem supports_settles {t k : Int} {s : ByteArray} {x : Sen} (h : senT t s = some x) (hk : setOkB t k = true) : settlesB t (issueT t s) k = supportsT t k s := by
  obtain ⟨h1, h3, _, _, _⟩ := senT_ok h
  obtain ⟨_, _, h0, ha, _⟩ := setOkB_lt hk
  rw [settles_any (issueT_ok h) h0 ha, (issueT_some h).1, ← support_settle h1 h3 x k h0 ha]
  unfold supportsT
  rw [h]; simp only [hk, Bool.true_and]
theorem supports_down {t k : Int} {s : ByteArray} (h : supportsT t k s = true) (b : Int) : supportsT t (andI k b) s = true := by
  rcases hx : senT t s with _ | x
  · unfold supportsT at h; rw [hx] at h; cases h
  obtain ⟨h1, h3, _, _, _⟩ := senT_ok hx
  have hk : setOkB t k = true := by unfold supportsT at h; rw [hx] at h; simp only [Bool.and_eq_true] at h; exact h.1
  obtain ⟨_, _, h0, ha, _⟩ := setOkB_lt hk
  have hk2 : setOkB t (andI k b) = true := andI_ok hk
  obtain ⟨_, _, g0, ga, _⟩ := setOkB_lt hk2
  rw [← supports_settles hx hk, settles_any (issueT_ok hx) h0 ha] at h
  rw [← supports_settles hx hk2, settles_any (issueT_ok hx) g0 ga]
  exact any_down g0 h0 (within_andI_left k b) h
theorem plain_some {t : Int} {s : ByteArray} (h : plainT t s = true) : ∃ x, senT t s = some x ∧ plainS x = true := by
  unfold plainT at h
  rcases hx : senT t s with _ | x
  · rw [hx] at h; cases h
  · rw [hx] at h; exact ⟨x, rfl, h⟩
theorem trueT_some {t : Int} {s : ByteArray} {x : Sen} (h : senT t s = some x) : trueT t s = unionI (issueT t s) := by
  obtain ⟨h1, h3, _, _, _⟩ := senT_ok h
  unfold trueT; rw [h, (issueT_some h).1]; exact true_granted h1 h3 x
theorem trueT_none {t : Int} {s : ByteArray} (h : senT t s = none) : trueT t s = -1 := by unfold trueT; rw [h]
theorem plain_law {t : Int} {s : ByteArray} (h : plainT t s = true) : statementL t (trueT t s) = issueT t s := by
  obtain ⟨x, hx, hp⟩ := plain_some h
  obtain ⟨h1, h3, _, _, _⟩ := senT_ok hx
  rw [trueT_some hx, statement_union (issueT_ok hx), (issueT_some hx).1]
  exact (plain_granted h1 h3 hp).symm
theorem true_no {t : Int} {s : ByteArray} {x : Sen} (h : senT t s = some x) (hl : s.size < 60) : trueT t (⟨#[33]⟩ ++ s) = allOf t - trueT t s := by
  obtain ⟨h1, h3, _, _, _⟩ := senT_ok h
  have hi := sen_issue h1 h3 x
  rw [trueT_some h, trueT_some (senT_no h hl), (issueT_some (senT_no h hl)).1, (issueT_some h).1]
  show unionI (notL t (issueS t x)) = _
  have := union_all hi
  rw [law_not hi, union_one (by omega)]
theorem true_range {t : Int} {s : ByteArray} {x : Sen} (h : senT t s = some x) : 0 ≤ trueT t s ∧ trueT t s ≤ allOf t := by
  rw [trueT_some h]; exact union_all (issueT_ok h)
theorem entails_some {t : Int} {s u : ByteArray} {x y : Sen} (h : senT t s = some x) (hu : senT t u = some y) : entailsT t s u = followsB t (issueT t s) (issueT t u) := by
  unfold entailsT; rw [h, hu, (issueT_some h).1, (issueT_some hu).1]
theorem entails_within {t : Int} {s u : ByteArray} (h : entailsT t s u = true) : withinB (trueT t s) (trueT t u) = true := by
  rcases hx : senT t s with _ | x
  · unfold entailsT at h; rw [hx] at h; cases h
  rcases hy : senT t u with _ | y
  · unfold entailsT at h; rw [hx, hy] at h; cases h
  rw [entails_some hx hy] at h
  rw [trueT_some hx, trueT_some hy]
  exact follows_union (issueT_ok hx) (issueT_ok hy) h
theorem entails_supports {t : Int} {s u : ByteArray} {x y : Sen} (h : senT t s = some x) (hu : senT t u = some y) (hl : s.size + u.size < 58) :
    supportsT t (allOf t) (⟨#[40]⟩ ++ s ++ ⟨#[62]⟩ ++ u ++ ⟨#[41]⟩) = entailsT t s u := by
  obtain ⟨h1, h3, _, _, _⟩ := senT_ok h
  unfold supportsT
  rw [senT_if h hu hl]
  show (setOkB t (allOf t) && holdsS t (.if_ x y) (allOf t)) = _
  rw [setOk_of h1 h3 (allOf_lt t).1 (Int.le_refl _), Bool.true_and, entails_if h1 h3, entails_some h hu, (issueT_some h).1, (issueT_some hu).1]
theorem entails_no {t : Int} {s u : ByteArray} (h : senT t s = none ∨ senT t u = none) : entailsT t s u = false := by
  unfold entailsT
  rcases h with h | h
  · rw [h]
  · rw [h]; cases senT t s <;> rfl

theorem iIssueOf_is {t : Int} {s : ByteArray} {r : List Int} {b : Bool} (h : Hid (issueT t s = r)) (h2 : Hid (isT t s = b)) (w : World) (hs : s.size ≤ 9223372036854775807) :
    Calls Try.prog 16 #[.int .i64 t, .string s] w (IssueOfPost r b w) := by
  have := iIssueOf t s w hs
  rw [h.out, h2.out] at this; exact this
theorem iSupportsT_is {t k : Int} {s : ByteArray} {b : Bool} (h : Hid (supportsT t k s = b)) (w : World) (hs : s.size ≤ 9223372036854775807) :
    Calls Try.prog 28 #[.int .i64 t, .int .i64 k, .string s] w fun e w' => e = .returned (.bool b) ∧ Below w.heap.size w w' := by
  have := iSupportsT t k s w hs
  rw [h.out] at this; exact this
theorem iPlainOk_is {t : Int} {s : ByteArray} {b : Bool} (h : Hid (plainT t s = b)) (w : World) (hs : s.size ≤ 9223372036854775807) :
    Calls Try.prog 34 #[.int .i64 t, .string s] w fun e w' => e = .returned (.bool b) ∧ Below w.heap.size w w' := by
  have := iPlainOk t s w hs
  rw [h.out] at this; exact this
theorem iTrueIn_is {t : Int} {s : ByteArray} {b : Int} (h : Hid (trueT t s = b)) (w : World) (hs : s.size ≤ 9223372036854775807) :
    Calls Try.prog 36 #[.int .i64 t, .string s] w fun e w' => e = .returned (.int .i64 b) ∧ Below w.heap.size w w' := by
  have := iTrueIn t s w hs
  rw [h.out] at this; exact this
theorem iEntailsOf_is {t : Int} {s u : ByteArray} {b : Bool} (h : Hid (entailsT t s u = b)) (w : World) (hs : s.size ≤ 9223372036854775807) (hu : u.size ≤ 9223372036854775807) :
    Calls Try.prog 40 #[.int .i64 t, .string s, .string u] w fun e w' => e = .returned (.bool b) ∧ Below w.heap.size w w' := by
  have := iEntailsOf t s u w hs hu
  rw [h.out] at this; exact this
theorem sIssueOf_is {t : Int} {s : ByteArray} {r : List Int} {b : Bool} (h : Hid (issueT t s = r)) (h2 : Hid (isT t s = b)) (w : World) (hs : s.size ≤ 9223372036854775807) :
    Calls Try.prog 17 #[.int .i64 t, .string s] w (IssueOfPost r b w) := by
  have := sIssueOf t s w hs
  rw [h.out, h2.out] at this; exact this
theorem sSupportsT_is {t k : Int} {s : ByteArray} {b : Bool} (h : Hid (supportsT t k s = b)) (w : World) (hs : s.size ≤ 9223372036854775807) :
    Calls Try.prog 29 #[.int .i64 t, .int .i64 k, .string s] w fun e w' => e = .returned (.bool b) ∧ Below w.heap.size w w' := by
  have := sSupportsT t k s w hs
  rw [h.out] at this; exact this
theorem sPlainOk_is {t : Int} {s : ByteArray} {b : Bool} (h : Hid (plainT t s = b)) (w : World) (hs : s.size ≤ 9223372036854775807) :
    Calls Try.prog 35 #[.int .i64 t, .string s] w fun e w' => e = .returned (.bool b) ∧ Below w.heap.size w w' := by
  have := sPlainOk t s w hs
  rw [h.out] at this; exact this
theorem sTrueIn_is {t : Int} {s : ByteArray} {b : Int} (h : Hid (trueT t s = b)) (w : World) (hs : s.size ≤ 9223372036854775807) :
    Calls Try.prog 38 #[.int .i64 t, .string s] w fun e w' => e = .returned (.int .i64 b) ∧ Below w.heap.size w w' := by
  have := sTrueIn t s w hs
  rw [h.out] at this; exact this
theorem sEntailsOf_is {t : Int} {s u : ByteArray} {b : Bool} (h : Hid (entailsT t s u = b)) (w : World) (hs : s.size ≤ 9223372036854775807) (hu : u.size ≤ 9223372036854775807) :
    Calls Try.prog 41 #[.int .i64 t, .string s, .string u] w fun e w' => e = .returned (.bool b) ∧ Below w.heap.size w w' := by
  have := sEntailsOf t s u w hs hu
  rw [h.out] at this; exact this
end Go.Proofs.Ytmdpolllmipppaa

namespace Go.Proofs.Ytmdpolllmipppaa
open Go.RowKit

set_option maxHeartbeats 4000000 in
theorem wExactIssueOf (t : Int) (s : ByteArray) (w : World) (hss : s.size ≤ maxLen) :
    Calls Try.prog 4 #[.int .i64 t, .string s] w fun e w' => e = .returned (.bool true) ∧ Below w.heap.size w w' := by
  unfold maxLen at hss
  by_cases hls : 1048576 < s.size
  · have hd : decide ((1048576 : Int) < (s.size : Int)) = true := decide_eq_true (by omega)
    go_enter Try.func4, Try.ntmps4
    go_wp2_with fail
    go_ret
    exact ⟨rfl, Below.refl _ _⟩
  have hds : decide ((1048576 : Int) < (s.size : Int)) = false := decide_eq_false (by omega)
  have hles : s.size ≤ 1048576 := by omega
  clear hls
  obtain ⟨r, HIS⟩ : ∃ l, Hid (issueT t s = l) := ⟨_, rfl⟩
  obtain ⟨b, HT⟩ : ∃ b, Hid (isT t s = b) := ⟨_, rfl⟩
  have hrl : r.length ≤ 70 := by rw [← HIS.out]; exact issueT_len t s
  have HB : Hid (Below w.heap.size w w) := Below.refl _ _
  go_enter Try.func4, Try.ntmps4
  go_wp2_with fail
  refine (sIssueOf_is HIS HT _ (by omega)).mono ?_
  rintro e w1 ⟨v, rfl, ho, hb⟩
  obtain ⟨A1, c1, rfl, hc1, hm1, hn1, ha1⟩ := ho.form
  have hsz1 : w.heap.size ≤ w1.heap.size := hb.size
  replace HB := Lib.hid (bel_trans (by first | exact HB.out | exact bel_drewN HB.out _) hb)
  have HM1 := Lib.hid hm1
  have HA1 : Hid (∀ ad, A1 = some ad → w.heap.size ≤ ad.block ∧ ad.block < w1.heap.size) := ha1
  have HN1 := Lib.hid hn1
  have HO1 : Hid (Owns w1 w.heap.size _ _) := ho
  clear ho hb hm1 hn1 ha1
  go_wp2_with fail
  refine (iIssueOf_is HIS HT _ (by omega)).mono ?_
  rintro e w2 ⟨v, rfl, ho, hb⟩
  obtain ⟨A2, c2, rfl, hc2, hm2, hn2, ha2⟩ := ho.form
  have hsz2 : w1.heap.size ≤ w2.heap.size := hb.size
  replace HB := Lib.hid (bel_trans (by first | exact HB.out | exact bel_drewN HB.out _) hb)
  replace HN1 := Lib.hid (Nums.below (by exact HN1.out) hb)
  replace HO1 := Lib.hid (Owns.below (by exact HO1.out) hb)
  have HM2 := Lib.hid hm2
  have HA2 : Hid (∀ ad, A2 = some ad → w1.heap.size ≤ ad.block ∧ ad.block < w2.heap.size) := ha2
  have HN2 := Lib.hid hn2
  have HO2 : Hid (Owns w2 w1.heap.size _ _) := ho
  clear ho hb hm2 hn2 ha2
  go_wp2_with fail
  refine (lEqIntS _ _ _ _ _ _ r r _ rfl rfl (by omega) (by omega) (by exact HN2.out) (by exact HN1.out)).mono ?_
  rintro e w' ⟨rfl, m1, rfl⟩
  go_wp2_with fail
  refine (lMarkIntS _ _ _ _ r _ _ rfl (by omega) (by omega) (by omega) (by exact HO2.out)).mono ?_
  rintro e w3 ⟨ys3, rfl, hz, hv, ho, hg⟩
  replace HB := Lib.hid (bel_mark (by first | exact HB.out | exact bel_drewN HB.out _) hg (fun ad h => by have := (HA2.out ad h).1; omega))
  replace HN1 := Lib.hid (Nums.other (B := w1.heap.size) (by exact HN1.out) hg (fun ad h => by have := (HA1.out ad h).2; omega) (fun ad h => (HA2.out ad h).1))
  clear HO1
  obtain ⟨_, _, he, _, _, hnn, _⟩ := ho.form
  simp only [Value.slice.injEq] at he
  obtain ⟨rfl, hx1, rfl⟩ := he
  replace HN2 := Lib.hid hnn
  have hsz3 : w2.heap.size ≤ w3.heap.size := hg.size
  have HZ3 := Lib.hid hz
  have HV3 := Lib.hid hv
  clear ho hg hz hv hnn hx1
  clear HO2
  go_wp2_with fail
  refine (lHeldIntS _ _ _ ys3 _ _ HZ3.out.symm (by omega) (by omega) (by omega) (by exact HN2.out) HV3.out).mono ?_
  rintro e w' ⟨rfl, rfl⟩
  rw [HZ3.out]
  have hneg : decide ((1 : Int) + (r.length : Int) < 0) = false := decide_eq_false (by omega)
  go_wp2_with fail
  refine (iIssueOf_is HIS HT _ (by omega)).mono ?_
  rintro e w4 ⟨v, rfl, ho, hb⟩
  obtain ⟨A4, c4, rfl, hc4, hm4, hn4, ha4⟩ := ho.form
  have hsz4 : w3.heap.size ≤ w4.heap.size := hb.size
  replace HB := Lib.hid (bel_trans (by first | exact HB.out | exact bel_drewN HB.out _) hb)
  replace HN1 := Lib.hid (Nums.below (by exact HN1.out) hb)
  replace HN2 := Lib.hid (Nums.below (by exact HN2.out) hb)
  have HM4 := Lib.hid hm4
  have HA4 : Hid (∀ ad, A4 = some ad → w3.heap.size ≤ ad.block ∧ ad.block < w4.heap.size) := ha4
  have HN4 := Lib.hid hn4
  have HO4 : Hid (Owns w4 w3.heap.size _ _) := ho
  clear ho hb hm4 hn4 ha4
  go_wp2_with fail
  refine (lEqIntS _ _ _ _ _ _ r r _ rfl rfl (by omega) (by omega) (by exact HN4.out) (by exact HN1.out)).mono ?_
  rintro e w' ⟨rfl, m2, rfl⟩
  go_wp2_with fail
  refine (lHeldIntS _ _ _ ys3 _ _ HZ3.out.symm (by omega) (by omega) (by omega) (by exact HN2.out) HV3.out).mono ?_
  rintro e w' ⟨rfl, rfl⟩
  rw [HZ3.out]
  go_wp2_with fail
  go_ret
  exact ⟨rfl, by first | exact HB.out | exact bel_drewN HB.out _⟩

set_option maxHeartbeats 4000000 in
theorem wExactSupports (t : Int) (k : Int) (s : ByteArray) (w : World) (hss : s.size ≤ maxLen) :
    Calls Try.prog 6 #[.int .i64 t, .int .i64 k, .string s] w fun e w' => e = .returned (.bool true) ∧ Below w.heap.size w w' := by
  unfold maxLen at hss
  by_cases hls : 1048576 < s.size
  · have hd : decide ((1048576 : Int) < (s.size : Int)) = true := decide_eq_true (by omega)
    go_enter Try.func6, Try.ntmps6
    go_wp2_with fail
    go_ret
    exact ⟨rfl, Below.refl _ _⟩
  have hds : decide ((1048576 : Int) < (s.size : Int)) = false := decide_eq_false (by omega)
  have hles : s.size ≤ 1048576 := by omega
  clear hls
  obtain ⟨b, HT⟩ : ∃ b, Hid (supportsT t k s = b) := ⟨_, rfl⟩
  have HB : Hid (Below w.heap.size w w) := Below.refl _ _
  go_enter Try.func6, Try.ntmps6
  go_wp2_with fail
  refine (sSupportsT_is HT _ (by omega)).mono ?_
  rintro e w' ⟨rfl, hb⟩
  replace HB := Lib.hid (bel_trans (by first | exact HB.out | exact bel_drewN HB.out _) hb)
  clear hb
  go_wp2_with fail
  refine (iSupportsT_is HT _ (by omega)).mono ?_
  rintro e w' ⟨rfl, hb⟩
  replace HB := Lib.hid (bel_trans (by first | exact HB.out | exact bel_drewN HB.out _) hb)
  clear hb
  go_wp2_with fail
  go_ret
  exact ⟨rfl, by first | exact HB.out | exact bel_drewN HB.out _⟩

set_option maxHeartbeats 4000000 in
theorem wExactPlainOk (t : Int) (s : ByteArray) (w : World) (hss : s.size ≤ maxLen) :
    Calls Try.prog 8 #[.int .i64 t, .string s] w fun e w' => e = .returned (.bool true) ∧ Below w.heap.size w w' := by
  unfold maxLen at hss
  by_cases hls : 1048576 < s.size
  · have hd : decide ((1048576 : Int) < (s.size : Int)) = true := decide_eq_true (by omega)
    go_enter Try.func8, Try.ntmps8
    go_wp2_with fail
    go_ret
    exact ⟨rfl, Below.refl _ _⟩
  have hds : decide ((1048576 : Int) < (s.size : Int)) = false := decide_eq_false (by omega)
  have hles : s.size ≤ 1048576 := by omega
  clear hls
  obtain ⟨b, HT⟩ : ∃ b, Hid (plainT t s = b) := ⟨_, rfl⟩
  have HB : Hid (Below w.heap.size w w) := Below.refl _ _
  go_enter Try.func8, Try.ntmps8
  go_wp2_with fail
  refine (sPlainOk_is HT _ (by omega)).mono ?_
  rintro e w' ⟨rfl, hb⟩
  replace HB := Lib.hid (bel_trans (by first | exact HB.out | exact bel_drewN HB.out _) hb)
  clear hb
  go_wp2_with fail
  refine (iPlainOk_is HT _ (by omega)).mono ?_
  rintro e w' ⟨rfl, hb⟩
  replace HB := Lib.hid (bel_trans (by first | exact HB.out | exact bel_drewN HB.out _) hb)
  clear hb
  go_wp2_with fail
  go_ret
  exact ⟨rfl, by first | exact HB.out | exact bel_drewN HB.out _⟩

set_option maxHeartbeats 4000000 in
theorem wExactTrueIn (t : Int) (s : ByteArray) (w : World) (hss : s.size ≤ maxLen) :
    Calls Try.prog 10 #[.int .i64 t, .string s] w fun e w' => e = .returned (.bool true) ∧ Below w.heap.size w w' := by
  unfold maxLen at hss
  by_cases hls : 1048576 < s.size
  · have hd : decide ((1048576 : Int) < (s.size : Int)) = true := decide_eq_true (by omega)
    go_enter Try.func10, Try.ntmps10
    go_wp2_with fail
    go_ret
    exact ⟨rfl, Below.refl _ _⟩
  have hds : decide ((1048576 : Int) < (s.size : Int)) = false := decide_eq_false (by omega)
  have hles : s.size ≤ 1048576 := by omega
  clear hls
  obtain ⟨b, HT⟩ : ∃ b, Hid (trueT t s = b) := ⟨_, rfl⟩
  have HB : Hid (Below w.heap.size w w) := Below.refl _ _
  go_enter Try.func10, Try.ntmps10
  go_wp2_with fail
  refine (sTrueIn_is HT _ (by omega)).mono ?_
  rintro e w' ⟨rfl, hb⟩
  replace HB := Lib.hid (bel_trans (by first | exact HB.out | exact bel_drewN HB.out _) hb)
  clear hb
  go_wp2_with fail
  refine (iTrueIn_is HT _ (by omega)).mono ?_
  rintro e w' ⟨rfl, hb⟩
  replace HB := Lib.hid (bel_trans (by first | exact HB.out | exact bel_drewN HB.out _) hb)
  clear hb
  go_wp2_with fail
  go_ret
  exact ⟨rfl, by first | exact HB.out | exact bel_drewN HB.out _⟩

set_option maxHeartbeats 4000000 in
theorem wExactEntailsOf (t : Int) (s : ByteArray) (u : ByteArray) (w : World) (hss : s.size ≤ maxLen) (hsu : u.size ≤ maxLen) :
    Calls Try.prog 12 #[.int .i64 t, .string s, .string u] w fun e w' => e = .returned (.bool true) ∧ Below w.heap.size w w' := by
  unfold maxLen at hss
  unfold maxLen at hsu
  by_cases hls : 1048576 < s.size
  · have hd : decide ((1048576 : Int) < (s.size : Int)) = true := decide_eq_true (by omega)
    go_enter Try.func12, Try.ntmps12
    go_wp2_with fail
    go_ret
    exact ⟨rfl, Below.refl _ _⟩
  by_cases hlu : 1048576 < u.size
  · have hd : decide ((1048576 : Int) < (u.size : Int)) = true := decide_eq_true (by omega)
    have hds : decide ((1048576 : Int) < (s.size : Int)) = false := decide_eq_false (by omega)
    go_enter Try.func12, Try.ntmps12
    go_wp2_with fail
    go_ret
    exact ⟨rfl, Below.refl _ _⟩
  have hds : decide ((1048576 : Int) < (s.size : Int)) = false := decide_eq_false (by omega)
  have hles : s.size ≤ 1048576 := by omega
  have hdu : decide ((1048576 : Int) < (u.size : Int)) = false := decide_eq_false (by omega)
  have hleu : u.size ≤ 1048576 := by omega
  clear hls hlu
  obtain ⟨b, HT⟩ : ∃ b, Hid (entailsT t s u = b) := ⟨_, rfl⟩
  have HB : Hid (Below w.heap.size w w) := Below.refl _ _
  go_enter Try.func12, Try.ntmps12
  go_wp2_with fail
  refine (sEntailsOf_is HT _ (by omega) (by omega)).mono ?_
  rintro e w' ⟨rfl, hb⟩
  replace HB := Lib.hid (bel_trans (by first | exact HB.out | exact bel_drewN HB.out _) hb)
  clear hb
  go_wp2_with fail
  refine (iEntailsOf_is HT _ (by omega) (by omega)).mono ?_
  rintro e w' ⟨rfl, hb⟩
  replace HB := Lib.hid (bel_trans (by first | exact HB.out | exact bel_drewN HB.out _) hb)
  clear hb
  go_wp2_with fail
  go_ret
  exact ⟨rfl, by first | exact HB.out | exact bel_drewN HB.out _⟩

end Go.Proofs.Ytmdpolllmipppaa
