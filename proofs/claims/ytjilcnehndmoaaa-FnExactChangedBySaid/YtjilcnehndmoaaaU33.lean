/-
  What the proofs of this seat's statements share (LdrE, LdrF, LdwX, LdwH, LdwY).
-/
import Derived.Test.YtjilcnehndmoaaaU32
import Derived.Test.YtjilcnehndmoaaaU31
import Derived.Test.YtjilcnehndmoaaaU13

namespace Go.Proofs.Ytjilcnehndmoaaa
open Go.RowKit

def SpokenPost (g u : Nat) (w : World) (e : Ending) (w' : World) : Prop := ∃ (t : Int) (s : ByteArray), e = .returned (.tuple #[.int .i64 t, .string s]) ∧ -1 ≤ t ∧ t ≤ 4 ∧ s.size ≤ 30 ∧ Rd w' g (u + 80) ∧ w.grownBy w' (some g)
def words5d : List ByteArray := [⟨#[]⟩, ⟨#[99]⟩, ⟨#[91]⟩, ⟨#[93]⟩, ⟨#[33]⟩]
theorem words5d_size {x : ByteArray} (h : x ∈ words5d) : x.size ≤ 1 := by
  simp only [words5d, List.mem_cons, List.not_mem_nil, or_false] at h
  rcases h with rfl | rfl | rfl | rfl | rfl <;> decide
theorem lit_hereD {k : Int} (h0 : 0 ≤ k) (hk : k < 5) : ∃ x : ByteArray, x ∈ words5d ∧ ∀ h, [Value.string ⟨#[]⟩, .string ⟨#[99]⟩, .string ⟨#[91]⟩, .string ⟨#[93]⟩, .string ⟨#[33]⟩][k.toNat]'h = .string x := by
  have h5 : k = 0 ∨ k = 1 ∨ k = 2 ∨ k = 3 ∨ k = 4 := by omega
  rcases h5 with rfl | rfl | rfl | rfl | rfl
  · exact ⟨_, List.mem_cons_self, fun _ => rfl⟩
  · exact ⟨_, List.mem_cons_of_mem _ List.mem_cons_self, fun _ => rfl⟩
  · exact ⟨_, List.mem_cons_of_mem _ (List.mem_cons_of_mem _ List.mem_cons_self), fun _ => rfl⟩
  · exact ⟨_, List.mem_cons_of_mem _ (List.mem_cons_of_mem _ (List.mem_cons_of_mem _ List.mem_cons_self)), fun _ => rfl⟩
  · exact ⟨_, List.mem_cons_of_mem _ (List.mem_cons_of_mem _ (List.mem_cons_of_mem _ (List.mem_cons_of_mem _ List.mem_cons_self))), fun _ => rfl⟩

set_option maxRecDepth 100000 in
set_option maxHeartbeats 4000000 in
theorem spoken_any (g u : Nat) (n : Int) (w : World) (hn : n ≤ 1048576) (hn0 : 0 ≤ n) (hu : u ≤ 800000) (hR : Rd w g u) :
    Calls Try.prog 35 #[.pointer (some ⟨g, 0, none⟩), .int .i64 n] w (SpokenPost g u w) := by
  have HR := Lib.hid hR
  have hlt := hR.lt
  clear hR
  go_enter Try.func35, Try.ntmps35
  go_wp2_with fail
  refine (things_any g u _ _ (by omega) (by omega) (by omega) HR.out).mono ?_
  rintro e w1 ⟨t, rfl, ht0, ht1, hr, hg⟩
  have hlt1 : g < w1.heap.size := hr.lt
  have HR1 := Lib.hid hr
  have HG1 := Lib.hid hg
  clear hr hg
  go_wp2_with fail
  refine (ld3_any g _ t _ (by omega) HR1.out).mono ?_
  rintro e w2 ⟨s, rfl, hs1, hs2, hr, hg⟩
  have hlt2 : g < w2.heap.size := hr.lt
  have HR2 := Lib.hid hr
  have HG2 := Lib.hid (HG1.out.trans hg)
  clear hr hg
  go_wp2_with fail
  refine (odd_any g _ _ _ (by omega) (by omega) (by omega) HR2.out).mono ?_
  rintro e w3 ⟨b, rfl, hr, hg⟩
  have hlt3 : g < w3.heap.size := hr.lt
  have HR3 := Lib.hid hr
  have HG3 := Lib.hid (HG2.out.trans hg)
  clear hr hg
  cases b
  · have HP : Hid (Rd w3 g (u + 80) ∧ w.grownBy w3 (some g)) := ⟨HR3.out.more (by omega), HG3.out⟩
    go_wp2_with fail
    go_ret2
    exact ⟨t, s, rfl, by omega, by omega, by omega, HP.out⟩
  · go_wp2_with fail
    refine (pick_any g _ _ _ (by omega) (by omega) (by omega) HR3.out).mono ?_
    rintro e w4 ⟨k, rfl, hk0, hk1, hr, hg⟩
    have hkk := hk1 (by omega)
    have hlt4 : g < w4.heap.size := hr.lt
    have HR4 := Lib.hid hr
    have HG4 := Lib.hid (HG3.out.trans hg)
    clear hr hg hk1
    obtain ⟨l, hl⟩ : ∃ l, k + 1 = l := ⟨_, rfl⟩
    obtain ⟨p1, hp1⟩ : ∃ p, s.extract 0 k.toNat = p := ⟨_, rfl⟩
    obtain ⟨p2, hp2⟩ : ∃ p, s.extract l.toNat s.size = p := ⟨_, rfl⟩
    have hE1 : p1.size ≤ 29 := by rw [← hp1, ByteArray.size_extract]; omega
    have hE2 : p2.size ≤ 29 := by rw [← hp2, ByteArray.size_extract]; omega
    have HE : Hid (p1.size + p2.size ≤ 29) := by unfold Hid; rw [← hp1, ← hp2, ByteArray.size_extract, ByteArray.size_extract]; omega
    have hks : k ≤ (s.size : Int) := by omega
    have hl1 : l ≤ (s.size : Int) := by omega
    have hl0 : 0 ≤ l := by omega
    have HRd := Lib.hid (pick_any g _ 5 w4.drew (by omega) (by omega) (by omega) (HR4.out.drewN 1))
    have HRa := Lib.hid (pick_any g _ 5 (w4.alloc (.cells #[.string ⟨#[]⟩, .string ⟨#[99]⟩, .string ⟨#[91]⟩, .string ⟨#[93]⟩, .string ⟨#[33]⟩] 9)).drew (by omega) (by omega) (by omega) ((HR4.out.alloc _).drewN 1))
    have hw : IntKind.i64.wrap (k + 1) = l := (IntWalk.i64_in _ (by omega)).trans hl
    clear hl
    go_upto_region 7 with fail
    go_region_with (first
      | (go_at_call 42; (with_reducible refine HRa.out.mono ?_); rintro e w5 ⟨k5, rfl, hk50, hk51, hr, hg⟩; have hk52 := hk51 (by omega); obtain ⟨x, HX, hcell⟩ := lit_drew words5d hg hlt4 hk50 (by simp [words5d]; omega); have hx1 := words5d_size HX; have HP := Lib.hid (text_last (u' := u + 80) HG4.out hr hg (by omega)); clear hr hg hk51 HX)
      | (go_at_call 42; (with_reducible refine HRd.out.mono ?_); rintro e w5 ⟨k5, rfl, hk50, hk51, hr, hg⟩; have hk52 := hk51 (by omega); obtain ⟨x, HX, hcell⟩ := lit_hereD hk50 hk52; have hx1 := words5d_size HX; have HP := Lib.hid (text_last2 (u' := u + 80) HG4.out hr hg (by omega)); clear hr hg hk51 HX))
    all_goals
      clear HRd HRa hp1 hp2 hks hl1 hl0 hw
      go_wp2_with fail
      go_ret2
      refine ⟨t, _, rfl, by omega, by omega, ?_, by first | exact HP.out | exact HP.out _⟩
      have := HE.out
      rw [ByteArray.size_append, ByteArray.size_append]
      omega
end Go.Proofs.Ytjilcnehndmoaaa

namespace Go.Proofs.Ytjilcnehndmoaaa
open Go.RowKit

def DrawD (w : World) (e : Ending) (w' : World) : Prop := ∃ (t : Int) (s : ByteArray), e = .returned (.tuple #[.int .i64 t, .string s]) ∧ -1 ≤ t ∧ t ≤ 4 ∧ s.size ≤ 30 ∧ Below w.heap.size w w'
def DrawTKD (w : World) (e : Ending) (w' : World) : Prop := ∃ (t k : Int) (s : ByteArray), e = .returned (.tuple #[.int .i64 t, .int .i64 k, .string s]) ∧ -1 ≤ t ∧ t ≤ 4 ∧ -1 ≤ k ∧ k ≤ 256 ∧ s.size ≤ 30 ∧ Below w.heap.size w w'

set_option maxHeartbeats 1000000 in
theorem drawLoadedOk_any (A : Option Addr) (nn c : Nat) (zs : List Int) (w : World) (hn : nn = zs.length) (hc : nn ≤ c) (hm : c ≤ maxLen) (hr : ∀ z ∈ zs, 0 ≤ z ∧ z ≤ 255) (hA : Nums .u8 w A zs) :
    Calls Try.prog 13 #[.slice A nn c] w (DrawD w) := by
  have HO := Lib.hid (open_any A nn c zs w hn hc hm hr hA)
  clear hn hc hm hr hA
  go_enter Try.func13, Try.ntmps13
  go_wp2_with fail
  refine HO.out.mono ?_
  rintro e w1 ⟨rfl, hrd, hb⟩
  have HR := Lib.hid hrd
  have HB := Lib.hid hb
  clear hrd hb
  go_wp2_with fail
  refine (spoken_any _ 0 _ _ (by omega) (by omega) (by omega) HR.out).mono ?_
  rintro e w2 ⟨t, s, rfl, ht0, ht1, hs, _, hg⟩
  have HB2 := Lib.hid (below_grown HB.out hg HB.out.size (Nat.le_refl _))
  clear hg
  go_wp2_with fail
  go_ret2
  exact ⟨t, s, rfl, ht0, ht1, hs, HB2.out⟩
set_option maxHeartbeats 1000000 in
theorem drawNeededBy_any (A : Option Addr) (nn c : Nat) (zs : List Int) (w : World) (hn : nn = zs.length) (hc : nn ≤ c) (hm : c ≤ maxLen) (hr : ∀ z ∈ zs, 0 ≤ z ∧ z ≤ 255) (hA : Nums .u8 w A zs) :
    Calls Try.prog 25 #[.slice A nn c] w (DrawD w) := by
  have HO := Lib.hid (open_any A nn c zs w hn hc hm hr hA)
  clear hn hc hm hr hA
  go_enter Try.func25, Try.ntmps25
  go_wp2_with fail
  refine HO.out.mono ?_
  rintro e w1 ⟨rfl, hrd, hb⟩
  have HR := Lib.hid hrd
  have HB := Lib.hid hb
  clear hrd hb
  go_wp2_with fail
  refine (spoken_any _ 0 _ _ (by omega) (by omega) (by omega) HR.out).mono ?_
  rintro e w2 ⟨t, s, rfl, ht0, ht1, hs, _, hg⟩
  have HB2 := Lib.hid (below_grown HB.out hg HB.out.size (Nat.le_refl _))
  clear hg
  go_wp2_with fail
  go_ret2
  exact ⟨t, s, rfl, ht0, ht1, hs, HB2.out⟩
set_option maxHeartbeats 1000000 in
theorem drawLeftBy_any (A : Option Addr) (nn c : Nat) (zs : List Int) (w : World) (hn : nn = zs.length) (hc : nn ≤ c) (hm : c ≤ maxLen) (hr : ∀ z ∈ zs, 0 ≤ z ∧ z ≤ 255) (hA : Nums .u8 w A zs) :
    Calls Try.prog 29 #[.slice A nn c] w (DrawD w) := by
  have HO := Lib.hid (open_any A nn c zs w hn hc hm hr hA)
  clear hn hc hm hr hA
  go_enter Try.func29, Try.ntmps29
  go_wp2_with fail
  refine HO.out.mono ?_
  rintro e w1 ⟨rfl, hrd, hb⟩
  have HR := Lib.hid hrd
  have HB := Lib.hid hb
  clear hrd hb
  go_wp2_with fail
  refine (spoken_any _ 0 _ _ (by omega) (by omega) (by omega) HR.out).mono ?_
  rintro e w2 ⟨t, s, rfl, ht0, ht1, hs, _, hg⟩
  have HB2 := Lib.hid (below_grown HB.out hg HB.out.size (Nat.le_refl _))
  clear hg
  go_wp2_with fail
  go_ret2
  exact ⟨t, s, rfl, ht0, ht1, hs, HB2.out⟩
set_option maxHeartbeats 1000000 in
theorem drawNeutral_any (A : Option Addr) (nn c : Nat) (zs : List Int) (w : World) (hn : nn = zs.length) (hc : nn ≤ c) (hm : c ≤ maxLen) (hr : ∀ z ∈ zs, 0 ≤ z ∧ z ≤ 255) (hA : Nums .u8 w A zs) :
    Calls Try.prog 32 #[.slice A nn c] w (DrawD w) := by
  have HO := Lib.hid (open_any A nn c zs w hn hc hm hr hA)
  clear hn hc hm hr hA
  go_enter Try.func32, Try.ntmps32
  go_wp2_with fail
  refine HO.out.mono ?_
  rintro e w1 ⟨rfl, hrd, hb⟩
  have HR := Lib.hid hrd
  have HB := Lib.hid hb
  clear hrd hb
  go_wp2_with fail
  refine (spoken_any _ 0 _ _ (by omega) (by omega) (by omega) HR.out).mono ?_
  rintro e w2 ⟨t, s, rfl, ht0, ht1, hs, _, hg⟩
  have HB2 := Lib.hid (below_grown HB.out hg HB.out.size (Nat.le_refl _))
  clear hg
  go_wp2_with fail
  go_ret2
  exact ⟨t, s, rfl, ht0, ht1, hs, HB2.out⟩

theorem Rd.drews {w : World} {g u : Nat} (h : Rd w g u) (n : Nat) : Rd (w.drewN n) g u := h.drewN n
set_option maxRecDepth 100000 in
set_option maxHeartbeats 4000000 in
theorem drawChangedBy_any (A : Option Addr) (nn c : Nat) (zs : List Int) (w : World) (hn : nn = zs.length) (hc : nn ≤ c) (hm : c ≤ maxLen) (hr : ∀ z ∈ zs, 0 ≤ z ∧ z ≤ 255) (hA : Nums .u8 w A zs) :
    Calls Try.prog 17 #[.slice A nn c] w (DrawTKD w) := by
  have HO := Lib.hid (open_any A nn c zs w hn hc hm hr hA)
  clear hn hc hm hr hA
  go_enter Try.func17, Try.ntmps17
  go_wp2_with fail
  refine HO.out.mono ?_
  rintro e w1 ⟨rfl, hrd, hb⟩
  have HR := Lib.hid hrd
  have HB := Lib.hid hb
  clear hrd hb
  go_wp2_with fail
  refine (spoken_any _ 0 _ _ (by omega) (by omega) (by omega) HR.out).mono ?_
  rintro e w2 ⟨t, s, rfl, ht0, ht1, hs, hr, hg⟩
  have HR2 := Lib.hid hr
  have HB2 := Lib.hid (below_grown HB.out hg HB.out.size (Nat.le_refl _))
  clear hg hr
  go_wp2_with fail
  refine (set_any _ _ _ _ _ (by omega) (by omega) (by omega) HR2.out).mono ?_
  rintro e w3 ⟨k, rfl, hs0, hs1, hr, hg⟩
  have HR3 := Lib.hid hr
  have HB3 := Lib.hid (below_grown HB2.out hg HB2.out.size (Nat.le_refl _))
  clear hg hr
  rcases hl : loadedT t s with _ | _
  · have HL := Lib.hid hl
    clear hl
    go_wp2_with (go_at_call 15; refine (sLoadedOk_is HL _ (by omega)).mono ?_; rintro e w' ⟨rfl, q, rfl⟩)
    go_ret3
    exact ⟨t, k, s, rfl, ht0, ht1, hs0, hs1, hs, bel_drewN HB3.out _⟩
  · have HL := Lib.hid hl
    obtain ⟨m, hm⟩ : ∃ m, max k 0 = m := ⟨_, rfl⟩
    have hm0 : 0 ≤ m := by omega
    have hm1 : m ≤ 256 := by omega
    obtain ⟨b, HNB⟩ : ∃ b, Hid (neededT t s = b) := ⟨_, rfl⟩
    have hb : 0 ≤ b ∧ b < 256 := by
      rw [← HNB.out]
      unfold neededT
      unfold loadedT at hl
      rcases hx : ldT t s with _ | x
      · rw [hx] at hl; cases hl
      · obtain ⟨h1, h3, _⟩ := ldT_ok hx
        have := set_range h1 h3 (needW t x)
        have := (allOf_lt t).2
        simp only
        unfold needI
        omega
    clear hl
    go_wp2_with (go_at_call 15; refine (sLoadedOk_is HL _ (by omega)).mono ?_; rintro e w' ⟨rfl, q, rfl⟩)
    refine (pick_any _ _ _ _ (by omega) (by omega) (by omega) (Rd.drews HR3.out _)).mono ?_
    rintro e w4 ⟨k2, rfl, hk0, hk1, hr, hg⟩
    have HB4 := Lib.hid (below_grown (bel_drewN HB3.out _) hg HB3.out.size (Nat.le_refl _))
    clear hg hr hk1
    by_cases hz : k2 = 0
    · subst hz
      have HBB := Lib.hid (fun W => sBoth m b hm0 (by omega) hb.1 (by omega) W)
      have hr0 : 0 ≤ andI m b % 256 := by omega
      have hr1 : andI m b % 256 < 256 := by omega
      obtain ⟨r, hrr⟩ : ∃ r, andI m b % 256 = r := ⟨_, rfl⟩
      rw [hrr] at hr0 hr1 HBB
      clear hrr
      go_wp2_with (first
        | (go_at_call 26; refine (sNeededBy_is HNB _ (by omega)).mono ?_; rintro e w' ⟨rfl, q2, rfl⟩)
        | (go_at_call 43; refine (HBB.out _).mono ?_; rintro e w' ⟨rfl, q3, rfl⟩))
      go_ret3
      exact ⟨t, r, s, rfl, ht0, ht1, by omega, by omega, hs, by first | exact bel_drewN HB4.out _ | exact bel_drewN (bel_drewN HB4.out _) _⟩
    · have hzb : (k2 == 0) = false := by rw [beq_eq_false_iff_ne]; exact hz
      clear hz
      go_wp2_with fail
      go_ret3
      exact ⟨t, k, s, rfl, ht0, ht1, hs0, hs1, hs, HB4.out⟩
end Go.Proofs.Ytjilcnehndmoaaa

namespace Go.Proofs.Ytjilcnehndmoaaa
open Go.RowKit

theorem iLoadedOk_is {t : Int} {s : ByteArray} {b : Bool} (h : Hid (loadedT t s = b)) (w : World) (hs : s.size ≤ 9223372036854775807) :
    Calls Try.prog 14 #[.int .i64 t, .string s] w fun e w' => e = .returned (.bool b) ∧ Below w.heap.size w w' := by
  have := iLoadedOk t s w hs
  rw [h.out] at this; exact this
theorem iNeededBy_is {t : Int} {s : ByteArray} {b : Int} (h : Hid (neededT t s = b)) (w : World) (hs : s.size ≤ 9223372036854775807) :
    Calls Try.prog 20 #[.int .i64 t, .string s] w fun e w' => e = .returned (.int .i64 b) ∧ Below w.heap.size w w' := by
  have := iNeededBy t s w hs
  rw [h.out] at this; exact this
theorem iLeftBy_is {t : Int} {s : ByteArray} {b : Int} (h : Hid (leftT t s = b)) (w : World) (hs : s.size ≤ 9223372036854775807) :
    Calls Try.prog 24 #[.int .i64 t, .string s] w fun e w' => e = .returned (.int .i64 b) ∧ Below w.heap.size w w' := by
  have := iLeftBy t s w hs
  rw [h.out] at this; exact this
theorem iNeutral_is {t : Int} {s : ByteArray} {b : Bool} (h : Hid (neutralT t s = b)) (w : World) (hs : s.size ≤ 9223372036854775807) :
    Calls Try.prog 33 #[.int .i64 t, .string s] w fun e w' => e = .returned (.bool b) ∧ Below w.heap.size w w' := by
  have := iNeutral t s w hs
  rw [h.out] at this; exact this
theorem sLeftBy_is {t : Int} {s : ByteArray} {a : Int} (h : Hid (leftT t s = a)) (w : World) (hs : s.size ≤ 9223372036854775807) :
    Calls Try.prog 30 #[.int .i64 t, .string s] w fun e w' => e = .returned (.int .i64 a) ∧ ∃ n, w' = w.drewN n :=
  (sLeftBy t s w hs).mono fun _ _ ⟨he, hw⟩ => ⟨he.trans (ret_int h.out), hw⟩
theorem sNeutral_is {t : Int} {s : ByteArray} {b : Bool} (h : Hid (neutralT t s = b)) (w : World) (hs : s.size ≤ 9223372036854775807) :
    Calls Try.prog 34 #[.int .i64 t, .string s] w fun e w' => e = .returned (.bool b) ∧ ∃ n, w' = w.drewN n :=
  (sNeutral t s w hs).mono fun _ _ ⟨he, hw⟩ => ⟨he.trans (ret_bool h.out), hw⟩
theorem iChangedBy_is {t k : Int} {s : ByteArray} {o : Option Int} (h : Hid (changedT t k s = o)) (w : World) (hs : s.size ≤ 9223372036854775807) :
    Calls Try.prog 18 #[.int .i64 t, .int .i64 k, .string s] w fun e w' => e = .returned (.tuple #[.int .i64 (o.getD (-1)), .bool o.isSome]) ∧ Below w.heap.size w w' := by
  have := iChangedBy t k s w hs
  rw [h.out] at this; exact this
theorem sChangedBy_is {t k : Int} {s : ByteArray} {o : Option Int} (h : Hid (changedT t k s = o)) (w : World) (hs : s.size ≤ 9223372036854775807) :
    Calls Try.prog 19 #[.int .i64 t, .int .i64 k, .string s] w fun e w' => e = .returned (.tuple #[.int .i64 (o.getD (-1)), .bool o.isSome]) ∧ ∃ n, w' = w.drewN n := by
  have := sChangedBy t k s w hs
  rw [h.out] at this; exact this

set_option maxRecDepth 100000 in
set_option maxHeartbeats 4000000 in
theorem wExactLoadedOk (t : Int) (s : ByteArray) (w : World) (hss : s.size ≤ maxLen) :
    Calls Try.prog 8 #[.int .i64 t, .string s] w fun e w' => e = .returned (.bool true) ∧ Below w.heap.size w w' := by
  unfold maxLen at hss
  by_cases hls : 1048576 < s.size
  · have hd : decide ((1048576 : Int) < (s.size : Int)) = true := decide_eq_true (by omega)
    go_enter Try.func8, Try.ntmps8
    go_wp2_with fail
    go_ret
    exact ⟨rfl, Below.refl _ _⟩
  have hds : decide ((1048576 : Int) < (s.size : Int)) = false := decide_eq_false (by omega)
  have hles : s.size ≤ 1048576 := by omega
  clear hls
  obtain ⟨b, HT⟩ : ∃ b, Hid (loadedT t s = b) := ⟨_, rfl⟩
  have HB : Hid (Below w.heap.size w w) := Below.refl _ _
  go_enter Try.func8, Try.ntmps8
  go_wp2_with fail
  refine (sLoadedOk_is HT _ (by omega)).mono ?_
  rintro e w' ⟨rfl, m1, rfl⟩
  go_wp2_with fail
  refine (iLoadedOk_is HT _ (by omega)).mono ?_
  rintro e w' ⟨rfl, hb⟩
  replace HB := Lib.hid (bel_trans (by first | exact HB.out | exact bel_drewN HB.out _) hb)
  clear hb
  go_wp2_with fail
  go_ret
  exact ⟨rfl, by first | exact HB.out | exact bel_drewN HB.out _⟩

set_option maxRecDepth 100000 in
set_option maxHeartbeats 4000000 in
theorem wExactNeededBy (t : Int) (s : ByteArray) (w : World) (hss : s.size ≤ maxLen) :
    Calls Try.prog 10 #[.int .i64 t, .string s] w fun e w' => e = .returned (.bool true) ∧ Below w.heap.size w w' := by
  unfold maxLen at hss
  by_cases hls : 1048576 < s.size
  · have hd : decide ((1048576 : Int) < (s.size : Int)) = true := decide_eq_true (by omega)
    go_enter Try.func10, Try.ntmps10
    go_wp2_with fail
    go_ret
    exact ⟨rfl, Below.refl _ _⟩
  have hds : decide ((1048576 : Int) < (s.size : Int)) = false := decide_eq_false (by omega)
  have hles : s.size ≤ 1048576 := by omega
  clear hls
  obtain ⟨b, HT⟩ : ∃ b, Hid (neededT t s = b) := ⟨_, rfl⟩
  have HB : Hid (Below w.heap.size w w) := Below.refl _ _
  go_enter Try.func10, Try.ntmps10
  go_wp2_with fail
  refine (sNeededBy_is HT _ (by omega)).mono ?_
  rintro e w' ⟨rfl, m1, rfl⟩
  go_wp2_with fail
  refine (iNeededBy_is HT _ (by omega)).mono ?_
  rintro e w' ⟨rfl, hb⟩
  replace HB := Lib.hid (bel_trans (by first | exact HB.out | exact bel_drewN HB.out _) hb)
  clear hb
  go_wp2_with fail
  go_ret
  exact ⟨rfl, by first | exact HB.out | exact bel_drewN HB.out _⟩

set_option maxRecDepth 100000 in
set_option maxHeartbeats 4000000 in
theorem wExactLeftBy (t : Int) (s : ByteArray) (w : World) (hss : s.size ≤ maxLen) :
    Calls Try.prog 11 #[.int .i64 t, .string s] w fun e w' => e = .returned (.bool true) ∧ Below w.heap.size w w' := by
  unfold maxLen at hss
  by_cases hls : 1048576 < s.size
  · have hd : decide ((1048576 : Int) < (s.size : Int)) = true := decide_eq_true (by omega)
    go_enter Try.func11, Try.ntmps11
    go_wp2_with fail
    go_ret
    exact ⟨rfl, Below.refl _ _⟩
  have hds : decide ((1048576 : Int) < (s.size : Int)) = false := decide_eq_false (by omega)
  have hles : s.size ≤ 1048576 := by omega
  clear hls
  obtain ⟨b, HT⟩ : ∃ b, Hid (leftT t s = b) := ⟨_, rfl⟩
  have HB : Hid (Below w.heap.size w w) := Below.refl _ _
  go_enter Try.func11, Try.ntmps11
  go_wp2_with fail
  refine (sLeftBy_is HT _ (by omega)).mono ?_
  rintro e w' ⟨rfl, m1, rfl⟩
  go_wp2_with fail
  refine (iLeftBy_is HT _ (by omega)).mono ?_
  rintro e w' ⟨rfl, hb⟩
  replace HB := Lib.hid (bel_trans (by first | exact HB.out | exact bel_drewN HB.out _) hb)
  clear hb
  go_wp2_with fail
  go_ret
  exact ⟨rfl, by first | exact HB.out | exact bel_drewN HB.out _⟩

set_option maxRecDepth 100000 in
set_option maxHeartbeats 4000000 in
theorem wExactNeutral (t : Int) (s : ByteArray) (w : World) (hss : s.size ≤ maxLen) :
    Calls Try.prog 12 #[.int .i64 t, .string s] w fun e w' => e = .returned (.bool true) ∧ Below w.heap.size w w' := by
  unfold maxLen at hss
  by_cases hls : 1048576 < s.size
  · have hd : decide ((1048576 : Int) < (s.size : Int)) = true := decide_eq_true (by omega)
    go_enter Try.func12, Try.ntmps12
    go_wp2_with fail
    go_ret
    exact ⟨rfl, Below.refl _ _⟩
  have hds : decide ((1048576 : Int) < (s.size : Int)) = false := decide_eq_false (by omega)
  have hles : s.size ≤ 1048576 := by omega
  clear hls
  obtain ⟨b, HT⟩ : ∃ b, Hid (neutralT t s = b) := ⟨_, rfl⟩
  have HB : Hid (Below w.heap.size w w) := Below.refl _ _
  go_enter Try.func12, Try.ntmps12
  go_wp2_with fail
  refine (sNeutral_is HT _ (by omega)).mono ?_
  rintro e w' ⟨rfl, m1, rfl⟩
  go_wp2_with fail
  refine (iNeutral_is HT _ (by omega)).mono ?_
  rintro e w' ⟨rfl, hb⟩
  replace HB := Lib.hid (bel_trans (by first | exact HB.out | exact bel_drewN HB.out _) hb)
  clear hb
  go_wp2_with fail
  go_ret
  exact ⟨rfl, by first | exact HB.out | exact bel_drewN HB.out _⟩

set_option maxRecDepth 100000 in
set_option maxHeartbeats 4000000 in
theorem wExactChangedBy (t : Int) (k : Int) (s : ByteArray) (w : World) (hss : s.size ≤ maxLen) :
    Calls Try.prog 9 #[.int .i64 t, .int .i64 k, .string s] w fun e w' => e = .returned (.bool true) ∧ Below w.heap.size w w' := by
  unfold maxLen at hss
  by_cases hls : 1048576 < s.size
  · have hd : decide ((1048576 : Int) < (s.size : Int)) = true := decide_eq_true (by omega)
    go_enter Try.func9, Try.ntmps9
    go_wp2_with fail
    go_ret
    exact ⟨rfl, Below.refl _ _⟩
  have hds : decide ((1048576 : Int) < (s.size : Int)) = false := decide_eq_false (by omega)
  have hles : s.size ≤ 1048576 := by omega
  clear hls
  obtain ⟨b, HT⟩ : ∃ b, Hid (changedT t k s = b) := ⟨_, rfl⟩
  have HB : Hid (Below w.heap.size w w) := Below.refl _ _
  rcases b with _ | u
  · have HS : Hid (∀ W, Calls Try.prog 19 #[.int .i64 t, .int .i64 k, .string s] W fun e w' => e = .returned (.tuple #[.int .i64 (-1), .bool false]) ∧ ∃ n, w' = W.drewN n) := fun W => sChangedBy_is HT W (by omega)
    have HI : Hid (∀ W, Calls Try.prog 18 #[.int .i64 t, .int .i64 k, .string s] W fun e w' => e = .returned (.tuple #[.int .i64 (-1), .bool false]) ∧ Below W.heap.size W w') := fun W => iChangedBy_is HT W (by omega)
    go_enter Try.func9, Try.ntmps9
    go_wp2_with fail
    refine (HS.out _).mono ?_
    rintro e w' ⟨rfl, m1, rfl⟩
    go_wp2_with fail
    refine (HI.out _).mono ?_
    rintro e w' ⟨rfl, hb⟩
    replace HB := Lib.hid (bel_trans (by first | exact HB.out | exact bel_drewN HB.out _) hb)
    clear hb
    go_wp2_with fail
    go_ret
    exact ⟨rfl, by first | exact HB.out | exact bel_drewN HB.out _⟩
  · have HS : Hid (∀ W, Calls Try.prog 19 #[.int .i64 t, .int .i64 k, .string s] W fun e w' => e = .returned (.tuple #[.int .i64 u, .bool true]) ∧ ∃ n, w' = W.drewN n) := fun W => sChangedBy_is HT W (by omega)
    have HI : Hid (∀ W, Calls Try.prog 18 #[.int .i64 t, .int .i64 k, .string s] W fun e w' => e = .returned (.tuple #[.int .i64 u, .bool true]) ∧ Below W.heap.size W w') := fun W => iChangedBy_is HT W (by omega)
    go_enter Try.func9, Try.ntmps9
    go_wp2_with fail
    refine (HS.out _).mono ?_
    rintro e w' ⟨rfl, m2, rfl⟩
    go_wp2_with fail
    refine (HI.out _).mono ?_
    rintro e w' ⟨rfl, hb⟩
    replace HB := Lib.hid (bel_trans (by first | exact HB.out | exact bel_drewN HB.out _) hb)
    clear hb
    go_wp2_with fail
    go_ret
    exact ⟨rfl, by first | exact HB.out | exact bel_drewN HB.out _⟩

end Go.Proofs.Ytjilcnehndmoaaa

namespace Go.Proofs.Ytjilcnehndmoaaa
open Go.RowKit

theorem lEither8 {a b g : Int} (h : Hid (orI a b = g)) (ha : 0 ≤ a) (ha2 : a < 256) (hb : 0 ≤ b) (hb2 : b < 256) (w : World) :
    Calls Try.prog 27 #[.int .i64 a, .int .i64 b] w fun e w' => e = .returned (.int .i64 g) ∧ ∃ n, w' = w.drewN n := by
  have h := Lib.hid ((orI_eq a b ha ha2 hb hb2).trans h.out)
  have h1 := andI_nonneg a b
  have h2 := andI_le a b ha
  go_enter Try.func27, Try.ntmps27
  go_wp2_with fail
  refine (lBoth a b ha ha2 hb _).mono ?_
  rintro e w' ⟨rfl, rfl⟩
  go_wp2_with fail
  go_ret
  exact ⟨ret_int h.out, 0, rfl⟩
theorem size3 (a b c : UInt8) : (ByteArray.mk #[a, b, c]).size = 3 := rfl
theorem ldT_no8 {t : Int} {s : ByteArray} (hl : s.size < 60) : ldT t (⟨#[33]⟩ ++ s) = (ldT t s).map .no := by
  unfold ldT
  rw [bytesN_append]
  exact ld_no (t := t) (l := bytesN s) (by rw [bytesN_len]; exact hl)
theorem ldT_empty (t : Int) : ldT t ⟨#[]⟩ = none := ld_nil t
theorem ldT_a {t : Int} (h1 : 1 ≤ t) (h3 : t ≤ 3) : ldT t ⟨#[97]⟩ = some (.thing 0) := ld_a h1 h3
theorem ldT_two {t : Int} {s : ByteArray} {x : Ld} (h : ldT t s = some x) (hl : s.size + 4 ≤ 60) :
    ldT t (⟨#[40, 97, 38]⟩ ++ s ++ ⟨#[41]⟩) = some (.and_ (.thing 0) x) ∧ ldT t (⟨#[40, 97, 62]⟩ ++ s ++ ⟨#[41]⟩) = some (.if_ (.thing 0) x) ∧ ldT t (⟨#[40]⟩ ++ s ++ ⟨#[38, 97, 41]⟩) = some (.and_ x (.thing 0)) := by
  obtain ⟨g1, g2, g3⟩ := ld_two (l := bytesN s) h (by rw [bytesN_len]; exact hl)
  unfold ldT
  refine ⟨?_, ?_, ?_⟩
  · rw [bytesN_append, bytesN_append]; exact g1
  · rw [bytesN_append, bytesN_append]; exact g2
  · rw [bytesN_append, bytesN_append]; exact g3
theorem ldT_told {t : Int} {s : ByteArray} {x : Ld} (h : ldT t s = some x) (hl : 2 * s.size + 6 ≤ 60) : ldT t (⟨#[40]⟩ ++ s ++ ⟨#[38, 91]⟩ ++ s ++ ⟨#[93, 97, 41]⟩) = some (.and_ x (.pre x (.thing 0))) := by
  have := ld_told (l := bytesN s) h (by rw [bytesN_len]; exact hl)
  unfold ldT
  rw [bytesN_append, bytesN_append, bytesN_append, bytesN_append]
  rw [← this]
  congr 1
  simp [bytesN]
theorem ld_facts {t : Int} {s : ByteArray} {x : Ld} (h : ldT t s = some x) : loadedT t s = true ∧ neededT t s = needI t x ∧ leftT t s = leftI t x ∧ neutralT t s = decide (needI t x = allOf t) := by
  unfold loadedT neededT leftT neutralT
  rw [h]
  exact ⟨rfl, rfl, rfl, rfl⟩
theorem ld_nofacts {t : Int} {s : ByteArray} (h : ldT t s = none) : loadedT t s = false ∧ neededT t s = -1 ∧ leftT t s = -1 ∧ neutralT t s = false ∧ ∀ k, changedT t k s = none := by
  unfold loadedT neededT leftT neutralT changedT
  rw [h]
  exact ⟨rfl, rfl, rfl, rfl, fun _ => rfl⟩
theorem need_bounds {t : Int} {x : Ld} (h1 : 1 ≤ t) (h3 : t ≤ 3) : 0 ≤ needI t x ∧ needI t x ≤ allOf t ∧ 0 ≤ leftI t x ∧ leftI t x ≤ allOf t :=
  ⟨(set_range h1 h3 _).1, (set_range h1 h3 _).2, (set_range h1 h3 _).1, (set_range h1 h3 _).2⟩
end Go.Proofs.Ytjilcnehndmoaaa

namespace Go.Proofs.Ytjilcnehndmoaaa
open Go.RowKit

set_option maxRecDepth 100000 in
set_option maxHeartbeats 4000000 in
theorem wLoadedOk (A : Option Addr) (nn c : Nat) (zs : List Int) (w : World) (hn : nn = zs.length) (hc : nn ≤ c) (hm : c ≤ maxLen) (hr : ∀ z ∈ zs, 0 ≤ z ∧ z ≤ 255) (hA : Nums .u8 w A zs) :
    Calls Try.prog 3 #[.slice A nn c] w fun e w' => e = .returned (.bool true) ∧ Below w.heap.size w w' := by
  have HO := Lib.hid (drawLoadedOk_any A nn c zs w hn hc hm hr hA)
  have hm' : nn ≤ 9223372036854775807 := by unfold maxLen at hm; omega
  clear hn hc hm hr hA
  by_cases hl : 1048576 < nn
  · have hd : decide ((1048576 : Int) < (nn : Int)) = true := decide_eq_true (by omega)
    go_enter Try.func3, Try.ntmps3
    go_wp2_with fail
    go_ret
    exact ⟨rfl, Below.refl _ _⟩
  have hd : decide ((1048576 : Int) < (nn : Int)) = false := decide_eq_false (by omega)
  clear hl
  go_enter Try.func3, Try.ntmps3
  go_wp2_with fail
  refine HO.out.mono ?_
  rintro e w1 ⟨t, s, rfl, ht0, ht1, hs, hb⟩
  have HB := Lib.hid hb
  clear hb HO hd
  obtain ⟨b, HL⟩ : ∃ b, Hid (loadedT t s = b) := ⟨_, rfl⟩
  have HL2 : Hid (loadedT t (⟨#[33]⟩ ++ s) = b) := by
    unfold Hid
    rw [← HL.out]
    unfold loadedT
    rw [ldT_no8 (by omega), Option.isSome_map]
  have HL3 : Hid (loadedT t ⟨#[]⟩ = false) := by unfold Hid loadedT; rw [ldT_empty]; rfl
  have hz : (ByteArray.mk #[33] ++ s).size ≤ 9223372036854775807 := by rw [ByteArray.size_append, size1]; omega
  have hd60 : decide ((60 : Int) ≤ (s.size : Int)) = false := decide_eq_false (by omega)
  have hee : (b == b) = true := by simp
  have hne : (b != b) = false := by simp
  go_wp2_with fail
  refine (iLoadedOk_is HL _ (by omega)).mono ?_
  rintro e w' ⟨rfl, hb⟩
  replace HB := Lib.hid (bel_trans (by first | exact HB.out | exact bel_drewN HB.out _) hb)
  clear hb
  go_wp2_with fail
  refine (sLoadedOk_is HL _ (by omega)).mono ?_
  rintro e w' ⟨rfl, m1, rfl⟩
  go_wp2_with fail
  refine (iLoadedOk_is HL2 _ hz).mono ?_
  rintro e w' ⟨rfl, hb⟩
  replace HB := Lib.hid (bel_trans (by first | exact HB.out | exact bel_drewN HB.out _) hb)
  clear hb
  go_wp2_with fail
  refine (iLoadedOk_is HL3 _ (by decide)).mono ?_
  rintro e w' ⟨rfl, hb⟩
  replace HB := Lib.hid (bel_trans (by first | exact HB.out | exact bel_drewN HB.out _) hb)
  clear hb
  go_wp2_with fail
  refine (lAlive _).mono ?_
  rintro e w' ⟨rfl, rfl⟩
  go_wp2_with fail
  go_ret
  exact ⟨rfl, HB.out⟩

set_option maxRecDepth 100000 in
set_option maxHeartbeats 4000000 in
theorem wNeededBy (A : Option Addr) (nn c : Nat) (zs : List Int) (w : World) (hn : nn = zs.length) (hc : nn ≤ c) (hm : c ≤ maxLen) (hr : ∀ z ∈ zs, 0 ≤ z ∧ z ≤ 255) (hA : Nums .u8 w A zs) :
    Calls Try.prog 5 #[.slice A nn c] w fun e w' => e = .returned (.bool true) ∧ Below w.heap.size w w' := by
  have HO := Lib.hid (drawNeededBy_any A nn c zs w hn hc hm hr hA)
  have hm' : nn ≤ 9223372036854775807 := by unfold maxLen at hm; omega
  clear hn hc hm hr hA
  by_cases hl : 1048576 < nn
  · have hd : decide ((1048576 : Int) < (nn : Int)) = true := decide_eq_true (by omega)
    go_enter Try.func5, Try.ntmps5
    go_wp2_with fail
    go_ret
    exact ⟨rfl, Below.refl _ _⟩
  have hd : decide ((1048576 : Int) < (nn : Int)) = false := decide_eq_false (by omega)
  clear hl
  go_enter Try.func5, Try.ntmps5
  go_wp2_with fail
  refine HO.out.mono ?_
  rintro e w1 ⟨t, s, rfl, ht0, ht1, hs, hb⟩
  have HB := Lib.hid hb
  clear hb HO hd
  rcases hx : ldT t s with _ | x
  · have HN : Hid (neededT t s = -1) := (ld_nofacts hx).2.1
    clear hx
    go_wp2_with fail
    refine (iNeededBy_is HN _ (by omega)).mono ?_
    rintro e w' ⟨rfl, hb⟩
    replace HB := Lib.hid (bel_trans (by first | exact HB.out | exact bel_drewN HB.out _) hb)
    clear hb
    go_wp2_with fail
    refine (sNeededBy_is HN _ (by omega)).mono ?_
    rintro e w' ⟨rfl, m1, rfl⟩
    go_wp2_with fail
    refine (lAlive _).mono ?_
    rintro e w' ⟨rfl, rfl⟩
    go_wp2_with fail
    go_ret
    exact ⟨rfl, by first | exact HB.out | exact bel_drewN HB.out _⟩
  · obtain ⟨h1, h3, _⟩ := ldT_ok hx
    obtain ⟨a, HA⟩ : ∃ a, Hid (needI t x = a) := ⟨_, rfl⟩
    obtain ⟨b, HBB⟩ : ∃ b, Hid (leftI t (.thing 0) = b) := ⟨_, rfl⟩
    obtain ⟨al, HAL⟩ : ∃ n, Hid (allOf t = n) := ⟨_, rfl⟩
    have hna := need_bounds (x := x) h1 h3
    have hnb := need_bounds (x := .thing 0) h1 h3
    have hal := (allOf_lt t).2
    rw [HA.out, HAL.out] at hna
    rw [HBB.out, HAL.out] at hnb
    rw [HAL.out] at hal
    obtain ⟨c, HCC⟩ : ∃ c, Hid (orI (al - b) a = c) := ⟨_, rfl⟩
    have h2 := need_two h1 h3 x
    rw [HBB.out, HAL.out, HA.out, HCC.out] at h2
    have ht := ldT_two hx (by omega)
    have HN : Hid (neededT t s = a) := (ld_facts hx).2.1.trans HA.out
    have HLA : Hid (leftT t ⟨#[97]⟩ = b) := (ld_facts (ldT_a h1 h3)).2.2.1.trans HBB.out
    have HN0 : Hid (neededT t (⟨#[33]⟩ ++ s) = a) := (ld_facts (x := .no x) (by rw [ldT_no8 (by omega), hx]; rfl)).2.1.trans ((need_no x).trans HA.out)
    have HN1 : Hid (neededT t (⟨#[40, 97, 38]⟩ ++ s ++ ⟨#[41]⟩) = c) := (ld_facts ht.1).2.1.trans h2.1
    have HN2 : Hid (neededT t (⟨#[40, 97, 62]⟩ ++ s ++ ⟨#[41]⟩) = c) := (ld_facts ht.2.1).2.1.trans h2.2.1
    have HN3 : Hid (neededT t (⟨#[40]⟩ ++ s ++ ⟨#[38, 97, 41]⟩) = a) := (ld_facts ht.2.2).2.1.trans h2.2.2
    have hz0 : (ByteArray.mk #[33] ++ s).size ≤ 9223372036854775807 := by rw [ByteArray.size_append, size1]; omega
    have hz1 : (ByteArray.mk #[40, 97, 38] ++ s ++ ByteArray.mk #[41]).size ≤ 9223372036854775807 := by rw [ByteArray.size_append, ByteArray.size_append, size1, size3]; omega
    have hz2 : (ByteArray.mk #[40, 97, 62] ++ s ++ ByteArray.mk #[41]).size ≤ 9223372036854775807 := by rw [ByteArray.size_append, ByteArray.size_append, size1, size3]; omega
    have hz3 : (ByteArray.mk #[40] ++ s ++ ByteArray.mk #[38, 97, 41]).size ≤ 9223372036854775807 := by rw [ByteArray.size_append, ByteArray.size_append, size1, size3]; omega
    have hd60 : decide ((60 : Int) ≤ (s.size : Int)) = false := decide_eq_false (by omega)
    have hd60b : decide ((60 : Int) < (s.size : Int) + 4) = false := decide_eq_false (by omega)
    have hee : (a == a) = true := by simp
    have hec : (c == c) = true := by simp
    have hna1 := hna.1
    have hna2 : a ≤ 255 := by omega
    have hdn : decide (a < 0) = false := decide_eq_false (by omega)
    have hab1 : 0 ≤ al - b := by omega
    have hab2 : al - b < 256 := by omega
    have HE : Hid (∀ W, Calls Try.prog 27 #[.int .i64 (al - b), .int .i64 a] W fun e w' => e = .returned (.int .i64 c) ∧ ∃ n, w' = W.drewN n) := fun W => lEither8 HCC hab1 hab2 hna1 (by omega) W
    clear hx ht h2 HCC HBB HA hnb hna
    go_wp2_with fail
    refine (iNeededBy_is HN _ (by omega)).mono ?_
    rintro e w' ⟨rfl, hb⟩
    replace HB := Lib.hid (bel_trans (by first | exact HB.out | exact bel_drewN HB.out _) hb)
    clear hb
    go_wp2_with fail
    refine (sNeededBy_is HN _ (by omega)).mono ?_
    rintro e w' ⟨rfl, m2, rfl⟩
    go_wp2_with fail
    refine (iLeftBy_is HLA _ (by decide)).mono ?_
    rintro e w' ⟨rfl, hb⟩
    replace HB := Lib.hid (bel_trans (by first | exact HB.out | exact bel_drewN HB.out _) hb)
    clear hb
    go_wp2_with fail
    refine (lWhole_is HAL h1 h3 _).mono ?_
    rintro e w' ⟨rfl, rfl⟩
    go_wp2_with fail
    refine (HE.out _).mono ?_
    rintro e w' ⟨rfl, m3, rfl⟩
    go_wp2_with fail
    refine (iNeededBy_is HN0 _ hz0).mono ?_
    rintro e w' ⟨rfl, hb⟩
    replace HB := Lib.hid (bel_trans (by first | exact HB.out | exact bel_drewN HB.out _) hb)
    clear hb
    go_wp2_with fail
    refine (iNeededBy_is HN1 _ hz1).mono ?_
    rintro e w' ⟨rfl, hb⟩
    replace HB := Lib.hid (bel_trans (by first | exact HB.out | exact bel_drewN HB.out _) hb)
    clear hb
    go_wp2_with fail
    refine (iNeededBy_is HN2 _ hz2).mono ?_
    rintro e w' ⟨rfl, hb⟩
    replace HB := Lib.hid (bel_trans (by first | exact HB.out | exact bel_drewN HB.out _) hb)
    clear hb
    go_wp2_with fail
    refine (iNeededBy_is HN3 _ hz3).mono ?_
    rintro e w' ⟨rfl, hb⟩
    replace HB := Lib.hid (bel_trans (by first | exact HB.out | exact bel_drewN HB.out _) hb)
    clear hb
    go_wp2_with fail
    go_ret
    exact ⟨rfl, HB.out⟩
end Go.Proofs.Ytjilcnehndmoaaa
