/-
  What the proofs of this seat's statements share (LdwZ, LdwC).
-/
import Derived.Test.YtjilcnehndmoaaaU33

namespace Go.Proofs.Ytjilcnehndmoaaa
open Go.RowKit

set_option maxRecDepth 100000 in
set_option maxHeartbeats 4000000 in
theorem wLeftBy (A : Option Addr) (nn c : Nat) (zs : List Int) (w : World) (hn : nn = zs.length) (hc : nn ≤ c) (hm : c ≤ maxLen) (hr : ∀ z ∈ zs, 0 ≤ z ∧ z ≤ 255) (hA : Nums .u8 w A zs) :
    Calls Try.prog 6 #[.slice A nn c] w fun e w' => e = .returned (.bool true) ∧ Below w.heap.size w w' := by
  have HO := Lib.hid (drawLeftBy_any A nn c zs w hn hc hm hr hA)
  have hm' : nn ≤ 9223372036854775807 := by unfold maxLen at hm; omega
  clear hn hc hm hr hA
  by_cases hl : 1048576 < nn
  · have hd : decide ((1048576 : Int) < (nn : Int)) = true := decide_eq_true (by omega)
    go_enter Try.func6, Try.ntmps6
    go_wp2_with fail
    go_ret
    exact ⟨rfl, Below.refl _ _⟩
  have hd : decide ((1048576 : Int) < (nn : Int)) = false := decide_eq_false (by omega)
  clear hl
  go_enter Try.func6, Try.ntmps6
  go_wp2_with fail
  refine HO.out.mono ?_
  rintro e w1 ⟨t, s, rfl, ht0, ht1, hs, hb⟩
  have HB := Lib.hid hb
  clear hb HO hd
  rcases hx : ldT t s with _ | x
  · have HN : Hid (leftT t s = -1) := (ld_nofacts hx).2.2.1
    clear hx
    go_wp2_with fail
    refine (iLeftBy_is HN _ (by omega)).mono ?_
    rintro e w' ⟨rfl, hb⟩
    replace HB := Lib.hid (bel_trans (by first | exact HB.out | exact bel_drewN HB.out _) hb)
    clear hb
    go_wp2_with fail
    refine (sLeftBy_is HN _ (by omega)).mono ?_
    rintro e w' ⟨rfl, m1, rfl⟩
    go_wp2_with fail
    refine (lAlive _).mono ?_
    rintro e w' ⟨rfl, rfl⟩
    go_wp2_with fail
    go_ret
    exact ⟨rfl, by first | exact HB.out | exact bel_drewN HB.out _⟩
  · obtain ⟨h1, h3, _⟩ := ldT_ok hx
    obtain ⟨a, HA⟩ : ∃ a, Hid (needI t x = a) := ⟨_, rfl⟩
    obtain ⟨b, HBB⟩ : ∃ b, Hid (leftI t x = b) := ⟨_, rfl⟩
    obtain ⟨al, HAL⟩ : ∃ n, Hid (allOf t = n) := ⟨_, rfl⟩
    have hna := need_bounds (x := x) h1 h3
    have hal := (allOf_lt t).2
    rw [HA.out, HBB.out, HAL.out] at hna
    rw [HAL.out] at hal
    have hll := left_laws h1 h3 x
    rw [HA.out, HBB.out] at hll
    have HLB : Hid (leftT t s = b) := (ld_facts hx).2.2.1.trans HBB.out
    have HN : Hid (neededT t s = a) := (ld_facts hx).2.1.trans HA.out
    have HL0 : Hid (leftT t (⟨#[33]⟩ ++ s) = a - b) := (ld_facts (x := .no x) (by rw [ldT_no8 (by omega), hx]; rfl)).2.2.1.trans hll.2
    have HWI : Hid (withinB b a = true) := hll.1
    have hz0 : (ByteArray.mk #[33] ++ s).size ≤ 9223372036854775807 := by rw [ByteArray.size_append, size1]; omega
    have hd60 : decide ((60 : Int) ≤ (s.size : Int)) = false := decide_eq_false (by omega)
    have hb0 := hna.2.2.1
    have hb1 : b < 256 := by omega
    have ha0 := hna.1
    have ha1 : a < 256 := by omega
    have hdn : decide (b < 0) = false := decide_eq_false (by omega)
    have hbb : (b == b) = true := by simp
    have hee : (a - b == a - b) = true := by simp
    rcases hy : senT t s with _ | y
    · have HTR : Hid (trueT t s = -1) := trueT_none hy
      clear hx hy hll hna HA HBB
      go_wp2_with fail
      refine (iLeftBy_is HLB _ (by omega)).mono ?_
      rintro e w' ⟨rfl, hb⟩
      replace HB := Lib.hid (bel_trans (by first | exact HB.out | exact bel_drewN HB.out _) hb)
      clear hb
      go_wp2_with fail
      refine (sLeftBy_is HLB _ (by omega)).mono ?_
      rintro e w' ⟨rfl, m2, rfl⟩
      go_wp2_with fail
      refine (iNeededBy_is HN _ (by omega)).mono ?_
      rintro e w' ⟨rfl, hb⟩
      replace HB := Lib.hid (bel_trans (by first | exact HB.out | exact bel_drewN HB.out _) hb)
      clear hb
      go_wp2_with fail
      refine (iTrueIn_is HTR _ (by omega)).mono ?_
      rintro e w' ⟨rfl, hb⟩
      replace HB := Lib.hid (bel_trans (by first | exact HB.out | exact bel_drewN HB.out _) hb)
      clear hb
      go_wp2_with fail
      refine (lWithin_is HWI hb0 hb1 ha0 _).mono ?_
      rintro e w' ⟨rfl, rfl⟩
      go_wp2_with fail
      refine (iLeftBy_is HL0 _ hz0).mono ?_
      rintro e w' ⟨rfl, hb⟩
      replace HB := Lib.hid (bel_trans (by first | exact HB.out | exact bel_drewN HB.out _) hb)
      clear hb
      go_wp2_with fail
      go_ret
      exact ⟨rfl, HB.out⟩
    · have hlt := left_true h1 h3 (both_read (t := t) (l := bytesN s) hx hy)
      rw [HA.out, HBB.out, HAL.out] at hlt
      have HTR : Hid (trueT t s = b) := by
        unfold Hid trueT
        rw [hy]
        exact hlt.1.symm
      obtain rfl : a = al := hlt.2
      have haa : (a == a) = true := by simp
      clear hx hy hll hna HA HBB hlt
      go_wp2_with fail
      refine (iLeftBy_is HLB _ (by omega)).mono ?_
      rintro e w' ⟨rfl, hb⟩
      replace HB := Lib.hid (bel_trans (by first | exact HB.out | exact bel_drewN HB.out _) hb)
      clear hb
      go_wp2_with fail
      refine (sLeftBy_is HLB _ (by omega)).mono ?_
      rintro e w' ⟨rfl, m3, rfl⟩
      go_wp2_with fail
      refine (iNeededBy_is HN _ (by omega)).mono ?_
      rintro e w' ⟨rfl, hb⟩
      replace HB := Lib.hid (bel_trans (by first | exact HB.out | exact bel_drewN HB.out _) hb)
      clear hb
      go_wp2_with fail
      refine (iTrueIn_is HTR _ (by omega)).mono ?_
      rintro e w' ⟨rfl, hb⟩
      replace HB := Lib.hid (bel_trans (by first | exact HB.out | exact bel_drewN HB.out _) hb)
      clear hb
      go_wp2_with fail
      refine (lWithin_is HWI hb0 hb1 ha0 _).mono ?_
      rintro e w' ⟨rfl, rfl⟩
      go_wp2_with fail
      refine (iLeftBy_is HL0 _ hz0).mono ?_
      rintro e w' ⟨rfl, hb⟩
      replace HB := Lib.hid (bel_trans (by first | exact HB.out | exact bel_drewN HB.out _) hb)
      clear hb
      go_wp2_with fail
      refine (lWhole_is HAL h1 h3 _).mono ?_
      rintro e w' ⟨rfl, rfl⟩
      go_wp2_with fail
      go_ret
      exact ⟨rfl, HB.out⟩

set_option maxRecDepth 100000 in
set_option maxHeartbeats 4000000 in
theorem wNeutral (A : Option Addr) (nn c : Nat) (zs : List Int) (w : World) (hn : nn = zs.length) (hc : nn ≤ c) (hm : c ≤ maxLen) (hr : ∀ z ∈ zs, 0 ≤ z ∧ z ≤ 255) (hA : Nums .u8 w A zs) :
    Calls Try.prog 7 #[.slice A nn c] w fun e w' => e = .returned (.bool true) ∧ Below w.heap.size w w' := by
  have HO := Lib.hid (drawNeutral_any A nn c zs w hn hc hm hr hA)
  have hm' : nn ≤ 9223372036854775807 := by unfold maxLen at hm; omega
  clear hn hc hm hr hA
  by_cases hl : 1048576 < nn
  · have hd : decide ((1048576 : Int) < (nn : Int)) = true := decide_eq_true (by omega)
    go_enter Try.func7, Try.ntmps7
    go_wp2_with fail
    go_ret
    exact ⟨rfl, Below.refl _ _⟩
  have hd : decide ((1048576 : Int) < (nn : Int)) = false := decide_eq_false (by omega)
  clear hl
  go_enter Try.func7, Try.ntmps7
  go_wp2_with fail
  refine HO.out.mono ?_
  rintro e w1 ⟨t, s, rfl, ht0, ht1, hs, hb⟩
  have HB := Lib.hid hb
  clear hb HO hd
  rcases hx : ldT t s with _ | x
  · have HL : Hid (loadedT t s = false) := (ld_nofacts hx).1
    have HN : Hid (neutralT t s = false) := (ld_nofacts hx).2.2.2.1
    clear hx
    go_wp2_with fail
    refine (iNeutral_is HN _ (by omega)).mono ?_
    rintro e w' ⟨rfl, hb⟩
    replace HB := Lib.hid (bel_trans (by first | exact HB.out | exact bel_drewN HB.out _) hb)
    clear hb
    go_wp2_with fail
    refine (sNeutral_is HN _ (by omega)).mono ?_
    rintro e w' ⟨rfl, m1, rfl⟩
    go_wp2_with fail
    refine (iLoadedOk_is HL _ (by omega)).mono ?_
    rintro e w' ⟨rfl, hb⟩
    replace HB := Lib.hid (bel_trans (by first | exact HB.out | exact bel_drewN HB.out _) hb)
    clear hb
    go_wp2_with fail
    refine (lAlive _).mono ?_
    rintro e w' ⟨rfl, rfl⟩
    go_wp2_with fail
    go_ret
    exact ⟨rfl, HB.out⟩
  · obtain ⟨h1, h3, _⟩ := ldT_ok hx
    have HL : Hid (loadedT t s = true) := (ld_facts hx).1
    by_cases hna : needI t x = allOf t
    · obtain ⟨al, HAL⟩ : ∃ n, Hid (allOf t = n) := ⟨_, rfl⟩
      have HN : Hid (neutralT t s = true) := (ld_facts hx).2.2.2.trans (decide_eq_true hna)
      have HNN : Hid (neededT t s = al) := (ld_facts hx).2.1.trans (hna.trans HAL.out)
      have haa : (al == al) = true := by simp
      by_cases h27 : 2 * s.size + 6 ≤ 60
      · have hd27 : decide ((60 : Int) < 2 * (s.size : Int) + 6) = false := decide_eq_false (by omega)
        have HN2 : Hid (neutralT t (⟨#[40]⟩ ++ s ++ ⟨#[38, 91]⟩ ++ s ++ ⟨#[93, 97, 41]⟩) = true) := (ld_facts (ldT_told hx h27)).2.2.2.trans (decide_eq_true (need_told h1 h3 x hna))
        have hz0 : (ByteArray.mk #[40] ++ s ++ ByteArray.mk #[38, 91] ++ s ++ ByteArray.mk #[93, 97, 41]).size ≤ 9223372036854775807 := by simp only [ByteArray.size_append, size1, size2, size3]; omega
        clear hx hna
        go_wp2_with fail
        refine (iNeutral_is HN _ (by omega)).mono ?_
        rintro e w' ⟨rfl, hb⟩
        replace HB := Lib.hid (bel_trans (by first | exact HB.out | exact bel_drewN HB.out _) hb)
        clear hb
        go_wp2_with fail
        refine (sNeutral_is HN _ (by omega)).mono ?_
        rintro e w' ⟨rfl, m2, rfl⟩
        go_wp2_with fail
        refine (iLoadedOk_is HL _ (by omega)).mono ?_
        rintro e w' ⟨rfl, hb⟩
        replace HB := Lib.hid (bel_trans (by first | exact HB.out | exact bel_drewN HB.out _) hb)
        clear hb
        go_wp2_with fail
        refine (iNeededBy_is HNN _ (by omega)).mono ?_
        rintro e w' ⟨rfl, hb⟩
        replace HB := Lib.hid (bel_trans (by first | exact HB.out | exact bel_drewN HB.out _) hb)
        clear hb
        go_wp2_with fail
        refine (lWhole_is HAL h1 h3 _).mono ?_
        rintro e w' ⟨rfl, rfl⟩
        go_wp2_with fail
        refine (iNeutral_is HN2 _ hz0).mono ?_
        rintro e w' ⟨rfl, hb⟩
        replace HB := Lib.hid (bel_trans (by first | exact HB.out | exact bel_drewN HB.out _) hb)
        clear hb
        go_wp2_with fail
        go_ret
        exact ⟨rfl, HB.out⟩
      · have hd27 : decide ((60 : Int) < 2 * (s.size : Int) + 6) = true := decide_eq_true (by omega)
        clear hx hna
        go_wp2_with fail
        refine (iNeutral_is HN _ (by omega)).mono ?_
        rintro e w' ⟨rfl, hb⟩
        replace HB := Lib.hid (bel_trans (by first | exact HB.out | exact bel_drewN HB.out _) hb)
        clear hb
        go_wp2_with fail
        refine (sNeutral_is HN _ (by omega)).mono ?_
        rintro e w' ⟨rfl, m3, rfl⟩
        go_wp2_with fail
        refine (iLoadedOk_is HL _ (by omega)).mono ?_
        rintro e w' ⟨rfl, hb⟩
        replace HB := Lib.hid (bel_trans (by first | exact HB.out | exact bel_drewN HB.out _) hb)
        clear hb
        go_wp2_with fail
        refine (iNeededBy_is HNN _ (by omega)).mono ?_
        rintro e w' ⟨rfl, hb⟩
        replace HB := Lib.hid (bel_trans (by first | exact HB.out | exact bel_drewN HB.out _) hb)
        clear hb
        go_wp2_with fail
        refine (lWhole_is HAL h1 h3 _).mono ?_
        rintro e w' ⟨rfl, rfl⟩
        go_wp2_with fail
        go_ret
        exact ⟨rfl, HB.out⟩
    · have HN : Hid (neutralT t s = false) := (ld_facts hx).2.2.2.trans (decide_eq_false hna)
      clear hx hna
      go_wp2_with fail
      refine (iNeutral_is HN _ (by omega)).mono ?_
      rintro e w' ⟨rfl, hb⟩
      replace HB := Lib.hid (bel_trans (by first | exact HB.out | exact bel_drewN HB.out _) hb)
      clear hb
      go_wp2_with fail
      refine (sNeutral_is HN _ (by omega)).mono ?_
      rintro e w' ⟨rfl, m4, rfl⟩
      go_wp2_with fail
      refine (iLoadedOk_is HL _ (by omega)).mono ?_
      rintro e w' ⟨rfl, hb⟩
      replace HB := Lib.hid (bel_trans (by first | exact HB.out | exact bel_drewN HB.out _) hb)
      clear hb
      go_wp2_with fail
      go_ret
      exact ⟨rfl, HB.out⟩
end Go.Proofs.Ytjilcnehndmoaaa

namespace Go.Proofs.Ytjilcnehndmoaaa
open Go.RowKit

theorem iChg_no {t k : Int} {s : ByteArray} (h : Hid (changedT t k s = none)) (w : World) (hs : s.size ≤ 9223372036854775807) :
    Calls Try.prog 18 #[.int .i64 t, .int .i64 k, .string s] w fun e w' => e = .returned (.tuple #[.int .i64 (-1), .bool false]) ∧ Below w.heap.size w w' := iChangedBy_is h w hs
theorem sChg_no {t k : Int} {s : ByteArray} (h : Hid (changedT t k s = none)) (w : World) (hs : s.size ≤ 9223372036854775807) :
    Calls Try.prog 19 #[.int .i64 t, .int .i64 k, .string s] w fun e w' => e = .returned (.tuple #[.int .i64 (-1), .bool false]) ∧ ∃ n, w' = w.drewN n := sChangedBy_is h w hs
theorem iChg_yes {t k u : Int} {s : ByteArray} (h : Hid (changedT t k s = some u)) (w : World) (hs : s.size ≤ 9223372036854775807) :
    Calls Try.prog 18 #[.int .i64 t, .int .i64 k, .string s] w fun e w' => e = .returned (.tuple #[.int .i64 u, .bool true]) ∧ Below w.heap.size w w' := iChangedBy_is h w hs
theorem sChg_yes {t k u : Int} {s : ByteArray} (h : Hid (changedT t k s = some u)) (w : World) (hs : s.size ≤ 9223372036854775807) :
    Calls Try.prog 19 #[.int .i64 t, .int .i64 k, .string s] w fun e w' => e = .returned (.tuple #[.int .i64 u, .bool true]) ∧ ∃ n, w' = w.drewN n := sChangedBy_is h w hs
theorem changed_of {t k : Int} {s : ByteArray} {x : Ld} (h : ldT t s = some x) (hk : setOkB t k = true) : changedT t k s = chgI t x k := by
  unfold changedT
  rw [h]
  simp only
  rw [hk]; rfl
theorem changed_unset {t k : Int} {s : ByteArray} (hk : setOkB t k = false) : changedT t k s = none := by
  unfold changedT
  split
  · rw [hk]; rfl
  · rfl

set_option maxRecDepth 100000 in
set_option maxHeartbeats 4000000 in
theorem wChangedBy (A B : Option Addr) (nn mm c d : Nat) (zs qs : List Int) (w : World) (hn : nn = zs.length) (hc : nn ≤ c) (hm : c ≤ maxLen) (hr : ∀ z ∈ zs, 0 ≤ z ∧ z ≤ 255) (hA : Nums .u8 w A zs)
    (hn2 : mm = qs.length) (hc2 : mm ≤ d) (hm2 : d ≤ maxLen) (_hr2 : ∀ z ∈ qs, 0 ≤ z ∧ z ≤ 255) (_hB : Nums .u8 w B qs) :
    Calls Try.prog 4 #[.slice A nn c, .slice B mm d] w fun e w' => e = .returned (.bool true) ∧ Below w.heap.size w w' := by
  have HO := Lib.hid (drawChangedBy_any A nn c zs w hn hc hm hr hA)
  have hm' : nn ≤ 9223372036854775807 := by unfold maxLen at hm; omega
  have hm2' : mm ≤ 9223372036854775807 := by unfold maxLen at hm2; omega
  clear hn hc hm hr hA hn2 hc2 hm2 _hr2 _hB
  by_cases hl : 1048576 < nn
  · have hd : decide ((1048576 : Int) < (nn : Int)) = true := decide_eq_true (by omega)
    go_enter Try.func4, Try.ntmps4
    go_wp2_with fail
    go_ret
    exact ⟨rfl, Below.refl _ _⟩
  by_cases hl2 : 1048576 < mm
  · have hd : decide ((1048576 : Int) < (nn : Int)) = false := decide_eq_false (by omega)
    have hd2 : decide ((1048576 : Int) < (mm : Int)) = true := decide_eq_true (by omega)
    go_enter Try.func4, Try.ntmps4
    go_wp2_with fail
    go_ret
    exact ⟨rfl, Below.refl _ _⟩
  have hd : decide ((1048576 : Int) < (nn : Int)) = false := decide_eq_false (by omega)
  have hd2 : decide ((1048576 : Int) < (mm : Int)) = false := decide_eq_false (by omega)
  have hmm : mm ≤ 1048576 := by omega
  clear hl hl2
  go_enter Try.func4, Try.ntmps4
  go_wp2_with fail
  refine HO.out.mono ?_
  rintro e w1 ⟨t, u, s, rfl, ht0, ht1, hu0, hu1, hs, hb⟩
  have HB := Lib.hid hb
  clear hb HO hd hd2
  rcases hx : ldT t s with _ | x
  · have HC : Hid (changedT t u s = none) := (ld_nofacts hx).2.2.2.2 u
    have HN : Hid (neededT t s = -1) := (ld_nofacts hx).2.1
    clear hx
    go_wp2_with fail
    refine (iChg_no HC _ (by omega)).mono ?_
    rintro e w' ⟨rfl, hb⟩
    replace HB := Lib.hid (bel_trans (by first | exact HB.out | exact bel_drewN HB.out _) hb)
    clear hb
    go_wp2_with fail
    refine (sChg_no HC _ (by omega)).mono ?_
    rintro e w' ⟨rfl, m1, rfl⟩
    go_wp2_with fail
    refine (iNeededBy_is HN _ (by omega)).mono ?_
    rintro e w' ⟨rfl, hb⟩
    replace HB := Lib.hid (bel_trans (by first | exact HB.out | exact bel_drewN HB.out _) hb)
    clear hb
    go_wp2_with fail
    refine (lAlive _).mono ?_
    rintro e w' ⟨rfl, rfl⟩
    go_wp2_with fail
    go_ret
    exact ⟨rfl, HB.out⟩
  · obtain ⟨h1, h3, _⟩ := ldT_ok hx
    obtain ⟨a, HA⟩ : ∃ a, Hid (needI t x = a) := ⟨_, rfl⟩
    obtain ⟨b, HBB⟩ : ∃ b, Hid (leftI t x = b) := ⟨_, rfl⟩
    have hna := need_bounds (x := x) h1 h3
    have hal := (allOf_lt t).2
    rw [HA.out, HBB.out] at hna
    have HN : Hid (neededT t s = a) := (ld_facts hx).2.1.trans HA.out
    have HL : Hid (leftT t s = b) := (ld_facts hx).2.2.1.trans HBB.out
    have ha0 := hna.1
    have ha1 : a < 256 := by omega
    have hb0 := hna.2.2.1
    have hb1 : b < 256 := by omega
    have hdn : decide (a < 0) = false := decide_eq_false (by omega)
    rcases hset : setOkB t u with _ | _
    · have HS := Lib.hid hset
      have HC : Hid (changedT t u s = none) := changed_unset hset
      clear hx hset hna HA HBB
      go_wp2_with fail
      refine (iChg_no HC _ (by omega)).mono ?_
      rintro e w' ⟨rfl, hb⟩
      replace HB := Lib.hid (bel_trans (by first | exact HB.out | exact bel_drewN HB.out _) hb)
      clear hb
      go_wp2_with fail
      refine (sChg_no HC _ (by omega)).mono ?_
      rintro e w' ⟨rfl, m2, rfl⟩
      go_wp2_with fail
      refine (iNeededBy_is HN _ (by omega)).mono ?_
      rintro e w' ⟨rfl, hb⟩
      replace HB := Lib.hid (bel_trans (by first | exact HB.out | exact bel_drewN HB.out _) hb)
      clear hb
      go_wp2_with fail
      refine (sSetOk_is HS _).mono ?_
      rintro e w' ⟨rfl, rfl⟩
      go_wp2_with fail
      refine (lAlive _).mono ?_
      rintro e w' ⟨rfl, rfl⟩
      go_wp2_with fail
      go_ret
      exact ⟨rfl, HB.out⟩
    · have HS := Lib.hid hset
      obtain ⟨_, _, huu0, hua, hu8⟩ := setOkB_lt hset
      have hci := chg_is h1 h3 x huu0 hua
      rw [HA.out, HBB.out] at hci
      rcases hw : withinB u a with _ | _
      · have HC : Hid (changedT t u s = none) := (changed_of hx hset).trans (by rw [hci, hw]; rfl)
        have HW := Lib.hid hw
        clear hx hset hna HA HBB hci hw
        go_wp2_with fail
        refine (iChg_no HC _ (by omega)).mono ?_
        rintro e w' ⟨rfl, hb⟩
        replace HB := Lib.hid (bel_trans (by first | exact HB.out | exact bel_drewN HB.out _) hb)
        clear hb
        go_wp2_with fail
        refine (sChg_no HC _ (by omega)).mono ?_
        rintro e w' ⟨rfl, m3, rfl⟩
        go_wp2_with fail
        refine (iNeededBy_is HN _ (by omega)).mono ?_
        rintro e w' ⟨rfl, hb⟩
        replace HB := Lib.hid (bel_trans (by first | exact HB.out | exact bel_drewN HB.out _) hb)
        clear hb
        go_wp2_with fail
        refine (sSetOk_is HS _).mono ?_
        rintro e w' ⟨rfl, rfl⟩
        go_wp2_with fail
        refine (lWithin_is HW huu0 hu8 ha0 _).mono ?_
        rintro e w' ⟨rfl, rfl⟩
        go_wp2_with fail
        go_ret
        exact ⟨rfl, HB.out⟩
      · have HW := Lib.hid hw
        obtain ⟨v, HV⟩ : ∃ v, Hid (andI u b = v) := ⟨_, rfl⟩
        obtain ⟨cc, hcc⟩ : ∃ c, ((mm : Int) * 37).tmod 256 = c := ⟨_, rfl⟩
        have hccv : cc = ((mm : Int) * 37) % 256 := by rw [← hcc]; exact Int.tmod_eq_emod_of_nonneg (by omega)
        have hcc0 : 0 ≤ cc := by omega
        obtain ⟨g, HG⟩ : ∃ g, Hid (andI u cc = g) := ⟨_, rfl⟩
        obtain ⟨z, HZ⟩ : ∃ z, Hid (andI g v = z) := ⟨_, rfl⟩
        have hg0 : 0 ≤ g := by rw [← HG.out]; exact andI_nonneg _ _
        have hgu : g ≤ u := by rw [← HG.out]; exact andI_le _ _ huu0
        have hv0 : 0 ≤ v := by rw [← HV.out]; exact andI_nonneg _ _
        have hg8 : g < 256 := by omega
        have HC : Hid (changedT t u s = some v) := (changed_of hx hset).trans (by rw [hci, hw, HV.out]; rfl)
        have hsg : setOkB t g = true := setOk_of h1 h3 hg0 (by omega)
        have hcl := chg_less h1 h3 x (m := cc) huu0 hua (by rw [HA.out]; exact hw)
        rw [HG.out, HBB.out, HV.out, HZ.out] at hcl
        have HC2 : Hid (changedT t g s = some z) := (changed_of hx hsg).trans hcl
        have hvv : (v == v) = true := by simp
        have hvn : (v != v) = false := by simp
        have hzz : (z == z) = true := by simp
        clear hx hset hna HA HBB hci hw hccv hsg hcl hgu
        go_wp2_with fail
        refine (iChg_yes HC _ (by omega)).mono ?_
        rintro e w' ⟨rfl, hb⟩
        replace HB := Lib.hid (bel_trans (by first | exact HB.out | exact bel_drewN HB.out _) hb)
        clear hb
        go_wp2_with fail
        refine (sChg_yes HC _ (by omega)).mono ?_
        rintro e w' ⟨rfl, m4, rfl⟩
        go_wp2_with fail
        refine (iNeededBy_is HN _ (by omega)).mono ?_
        rintro e w' ⟨rfl, hb⟩
        replace HB := Lib.hid (bel_trans (by first | exact HB.out | exact bel_drewN HB.out _) hb)
        clear hb
        go_wp2_with fail
        refine (sSetOk_is HS _).mono ?_
        rintro e w' ⟨rfl, rfl⟩
        go_wp2_with fail
        refine (lWithin_is HW huu0 hu8 ha0 _).mono ?_
        rintro e w' ⟨rfl, rfl⟩
        go_wp2_with fail
        refine (lBoth_is HG huu0 hu8 hcc0 _).mono ?_
        rintro e w' ⟨rfl, rfl⟩
        go_wp2_with fail
        refine (iChg_yes HC2 _ (by omega)).mono ?_
        rintro e w' ⟨rfl, hb⟩
        replace HB := Lib.hid (bel_trans (by first | exact HB.out | exact bel_drewN HB.out _) hb)
        clear hb
        go_wp2_with fail
        refine (iLeftBy_is HL _ (by omega)).mono ?_
        rintro e w' ⟨rfl, hb⟩
        replace HB := Lib.hid (bel_trans (by first | exact HB.out | exact bel_drewN HB.out _) hb)
        clear hb
        go_wp2_with fail
        refine (lBoth_is HV huu0 hu8 hb0 _).mono ?_
        rintro e w' ⟨rfl, rfl⟩
        go_wp2_with fail
        refine (lBoth_is HZ hg0 hg8 hv0 _).mono ?_
        rintro e w' ⟨rfl, rfl⟩
        go_wp2_with fail
        go_ret
        exact ⟨rfl, HB.out⟩
end Go.Proofs.Ytjilcnehndmoaaa
