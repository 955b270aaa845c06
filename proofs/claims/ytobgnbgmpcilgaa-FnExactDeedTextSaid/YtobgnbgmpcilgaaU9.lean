/-
  What the proofs of this seat's statements share (DedT, DedI, DdO, BoxO).
-/
import Derived.RangeFuncBox
import Derived.Deep.RegionWith
import Derived.Deep.Cut
import Derived.Deep.RegionHeld3
import Derived.Test.YtobgnbgmpcilgaaU8
import Derived.Test.YtobgnbgmpcilgaaU2

namespace Go.Proofs.Ytobgnbgmpcilgaa
open Go.RowKit

theorem bL_append (a b : ByteArray) : bL (a ++ b) = bL a ++ bL b := by unfold bL; rw [ByteArray.data_append, Array.toList_append]
theorem deed_tell {s : ByteArray} (h : plainU (bL s) = true) : deedB (0, s) = (⟨#[116, 101, 108, 108]⟩ ++ ⟨#[32]⟩) ++ s := bL_inj (by
  rw [bL_append, bL_append]
  unfold deedB deedU
  rw [bL_of, if_pos ⟨rfl, h⟩]
  rfl)
theorem deed_ask {s : ByteArray} (h : plainU (bL s) = true) : deedB (1, s) = (⟨#[97, 115, 107]⟩ ++ ⟨#[32]⟩) ++ s := bL_inj (by
  rw [bL_append, bL_append]
  unfold deedB deedU
  rw [bL_of, if_neg (fun h => absurd (show (1 : Int) = 0 from h.1) (by decide)), if_pos ⟨rfl, h⟩]
  rfl)
theorem deed_back : deedB (2, ⟨#[]⟩) = ⟨#[98, 97, 99, 107]⟩ := by decide
theorem deed_none {k : Int} {s : ByteArray} (h1 : ¬ ((k = 0 ∨ k = 1) ∧ plainU (bL s) = true)) (h2 : ¬ (k = 2 ∧ bL s = [])) : deedB (k, s) = ⟨#[]⟩ := by
  unfold deedB deedU
  rw [if_neg fun h => h1 ⟨.inl h.1, h.2⟩, if_neg fun h => h1 ⟨.inr h.1, h.2⟩, if_neg fun h => h2 (by injection h with a b; exact ⟨a, b⟩)]
  rfl
def DeedAt (w : World) (B : Nat) (k : Int) (s : ByteArray) : Prop := w.heap[B]? = some (.cells #[.int .i64 k, .string s] 24 (0, 0))
theorem DeedAt.cells {w : World} {B : Nat} {k : Int} {s : ByteArray} (h : DeedAt w B k s) : w.cell? ⟨B, 0, none⟩ = some (.int .i64 k) ∧ w.cell? ⟨B, 1, none⟩ = some (.string s) := by
  constructor <;> simp [World.cell?, show w.heap[B]? = _ from h]
theorem DeedAt.new (w : World) (k : Int) (s : ByteArray) : DeedAt (w.alloc (.cells #[.int .i64 k, .string s] 24)) w.heap.size k s := World.alloc_heap_new w _

set_option maxRecDepth 100000 in
set_option maxHeartbeats 4000000 in
theorem sDeedText (k : Int) (s : ByteArray) (w : World) (hs : s.size ≤ 1048576) :
    Calls Try.prog 13 #[.agg #[.int .i64 k, .string s]] w fun e w' => e = .returned (.string (deedB (k, s))) ∧ Below w.heap.size w w' := by
  obtain ⟨W, hW⟩ : ∃ W, w.alloc (.cells #[.int .i64 k, .string s] 24) = W := ⟨_, rfl⟩
  have hD : DeedAt W w.heap.size k s := by rw [← hW]; exact DeedAt.new w k s
  have HB : Hid (Below w.heap.size w W) := by rw [← hW]; exact (Below.refl _ _).alloc (Nat.le_refl _) _
  obtain ⟨hc0, hc1⟩ := DeedAt.cells (show DeedAt (w.alloc (.cells #[.int .i64 k, .string s] 24)) w.heap.size k s by rw [hW]; exact hD)
  have HW := Lib.hid hW
  obtain ⟨p, HP⟩ : ∃ p, Hid (plainU (bL s) = p) := ⟨_, rfl⟩
  have HPL : Hid (∀ w : World, Calls Try.prog 42 #[.string s] w fun e w' => e = .returned (.bool p) ∧ w = w') := fun w => by
    have := sPlain9 s w hs
    rw [HP.out] at this; exact this
  clear hD hW
  by_cases h01 : 0 ≤ k ∧ k ≤ 1
  · cases p
    · have HN : Hid (deedB (k, s) = ⟨#[]⟩) := deed_none (fun h => by rw [HP.out] at h; exact absurd h.2 (by decide)) (by omega)
      rw [HN.out]
      have hk2 : (k == 2) = false := by rw [beq_eq_false_iff_ne]; omega
      go_enter Try.func13, Try.ntmps13
      go_wp2_with (first
        | (go_at_call 41; refine (sIn_yes _ _ _ _ h01.1 h01.2).mono ?_; rintro e w' ⟨rfl, rfl⟩)
        | (go_at_call 42; refine (HPL.out _).mono ?_; rintro e w' ⟨rfl, rfl⟩))
      go_ret
      exact ⟨rfl, by rw [HW.out]; exact HB.out⟩
    · have HPT : plainU (bL s) = true := HP.out
      have hz5 : (9223372036854775807 < 5 + s.size) = False := by simp; omega
      have hz5b : (9223372036854775807 < 4 + s.size) = False := by simp; omega
      have hk : k = 0 ∨ k = 1 := by omega
      rcases hk with rfl | rfl
      · rw [deed_tell HPT]
        clear HPT
        go_enter Try.func13, Try.ntmps13
        go_upto_region 2 with (first
          | (go_at_call 41; refine (sIn_yes _ _ _ _ h01.1 h01.2).mono ?_; rintro e w' ⟨rfl, rfl⟩)
          | (go_at_call 42; refine (HPL.out _).mono ?_; rintro e w' ⟨rfl, rfl⟩))
        go_region
        all_goals
          go_wp2_with fail
          go_ret
          exact ⟨rfl, by rw [HW.out]; exact (HB.out.alloc HB.out.size _).drew⟩
      · rw [deed_ask HPT]
        clear HPT
        go_enter Try.func13, Try.ntmps13
        go_upto_region 2 with (first
          | (go_at_call 41; refine (sIn_yes _ _ _ _ h01.1 h01.2).mono ?_; rintro e w' ⟨rfl, rfl⟩)
          | (go_at_call 42; refine (HPL.out _).mono ?_; rintro e w' ⟨rfl, rfl⟩))
        go_region
        all_goals
          go_wp2_with fail
          go_ret
          exact ⟨rfl, by rw [HW.out]; exact (HB.out.alloc HB.out.size _).drew⟩
  · have h01' : k < 0 ∨ 1 < k := by omega
    by_cases h2 : k = 2 ∧ s = ⟨#[]⟩
    · obtain ⟨rfl, rfl⟩ := h2
      rw [deed_back]
      go_enter Try.func13, Try.ntmps13
      go_wp2_with (first
        | (go_at_call 41; refine (sIn_no _ _ _ _ h01').mono ?_; rintro e w' ⟨rfl, rfl⟩))
      go_ret
      exact ⟨rfl, by rw [HW.out]; exact HB.out⟩
    · have HN : Hid (deedB (k, s) = ⟨#[]⟩) := deed_none (fun h => by omega) (fun h => h2 ⟨h.1, bL_inj h.2⟩)
      rw [HN.out]
      by_cases hk2 : k = 2
      · subst hk2
        have hne : s ≠ ⟨#[]⟩ := fun e => h2 ⟨rfl, e⟩
        have hn1 : (s.toList == (ByteArray.mk #[]).toList) = false := str_ne hne
        have hn2 : s.toList.isEmpty = false := by
          rw [ByteArray.toList_eq, List.isEmpty_eq_false_iff]
          intro e
          exact hne (ByteArray.ext (Array.toList_inj.mp e))
        have hn3 : (s.toList == []) = false := by rw [beq_eq_false_iff_ne]; intro e; rw [e] at hn2; cases hn2
        clear h2 hne
        go_enter Try.func13, Try.ntmps13
        go_wp2_with (first
          | (go_at_call 41; refine (sIn_no _ _ _ _ h01').mono ?_; rintro e w' ⟨rfl, rfl⟩))
        go_ret
        exact ⟨rfl, by rw [HW.out]; exact HB.out⟩
      · have hkb : (k == 2) = false := by rw [beq_eq_false_iff_ne]; exact hk2
        clear h2 hk2
        go_enter Try.func13, Try.ntmps13
        go_wp2_with (first
          | (go_at_call 41; refine (sIn_no _ _ _ _ h01').mono ?_; rintro e w' ⟨rfl, rfl⟩))
        go_ret
        exact ⟨rfl, by rw [HW.out]; exact HB.out⟩
end Go.Proofs.Ytobgnbgmpcilgaa

namespace Go.Proofs.Ytobgnbgmpcilgaa
open Go.RowKit

theorem deed_tellI {s : ByteArray} (h : plainU (bL s) = true) : deedB (0, s) = ⟨#[116, 101, 108, 108, 32]⟩ ++ s := bL_inj (by
  rw [bL_append]
  unfold deedB deedU
  rw [bL_of, if_pos ⟨rfl, h⟩]
  rfl)
theorem deed_askI {s : ByteArray} (h : plainU (bL s) = true) : deedB (1, s) = ⟨#[97, 115, 107, 32]⟩ ++ s := bL_inj (by
  rw [bL_append]
  unfold deedB deedU
  rw [bL_of, if_neg (fun h => absurd (show (1 : Int) = 0 from h.1) (by decide)), if_pos ⟨rfl, h⟩]
  rfl)
theorem text_full {s : ByteArray} (h : s ≠ ⟨#[]⟩) : s.toList.isEmpty = false ∧ (s.toList == []) = false ∧ (s.toList != []) = true ∧ (s.toList == (ByteArray.mk #[]).toList) = false ∧ (s.toList != (ByteArray.mk #[]).toList) = true := by
  have h1 : s.toList ≠ [] := by
    rw [ByteArray.toList_eq]
    intro e
    exact h (ByteArray.ext (Array.toList_inj.mp e))
  have h2 : (s.toList == (ByteArray.mk #[]).toList) = false := str_ne h
  refine ⟨by rw [List.isEmpty_eq_false_iff]; exact h1, by rw [beq_eq_false_iff_ne]; exact h1, by rw [bne_iff_ne]; exact h1, h2, ?_⟩
  unfold bne
  rw [h2]; rfl

set_option maxRecDepth 100000 in
set_option maxHeartbeats 4000000 in
theorem iPrintable (s : ByteArray) (w : World) (hs : s.size ≤ 1048576) :
    Calls Try.prog 40 #[.string s] w fun e w' => e = .returned (.bool (plainU (bL s))) ∧ w = w' := by
  obtain ⟨r, HR⟩ : ∃ r, Hid (plainU (bL s) = r) := ⟨_, rfl⟩
  rw [HR.out]
  have HNO : Hid (∀ k, (h : k < s.size) → inkU s[k] = false → r = false) := fun k h hi => by
    rw [← HR.out]
    unfold plainU
    have : (bL s).all inkU = false := by
      rw [List.all_eq_false]
      exact ⟨s[k], by unfold bL; exact Array.getElem_mem_toList _, by rw [hi]; simp⟩
    rw [this, Bool.and_false]
  have HEND : Hid (((bL s).take s.size).all inkU = true → r = decide (0 < s.size)) := fun h => by
    rw [← bL_size, List.take_length] at h
    rw [← HR.out]
    unfold plainU
    rw [h, Bool.and_true, ← bL_size]
    cases bL s <;> simp
  by_cases he : s = ⟨#[]⟩
  · have hr : r = false := by rw [← HR.out, he]; rfl
    subst he hr
    clear HNO HEND HR hs
    go_enter Try.func40, Try.ntmps40
    go_wp2
    refine wp_loop_rounds 1 ?_
    rw [rounds_succ]
    go_wp2
    go_ret
    exact ⟨rfl, rfl⟩
  obtain ⟨hn1, hn2, hn3, hn4, hn5⟩ := text_full he
  clear he
  go_enter Try.func40, Try.ntmps40
  go_wp2
  go_loop [6] (fun i => ∃ k : Nat, k ≤ s.size ∧ i = .int .i64 k ∧ Hid (((bL s).take k).all inkU = true)) (fun i => s.size - (Go.RowKit.intOf i).toNat)
  case atStart => exact ⟨0, Nat.zero_le _, rfl, rfl⟩
  case round =>
    obtain ⟨k, hk, rfl, hall⟩ := hrel
    by_cases hlt : k < s.size
    · have hd : (k : Int) < (s.size : Int) := by omega
      have hd0 : (0 : Int) ≤ (k : Int) := by omega
      have hn := ink_take hlt
      rw [hall.out, Bool.true_and] at hn
      have hib := ink_byte s[k]
      have HNK := HNO.out k hlt
      obtain ⟨c, hc⟩ : ∃ c, s[k].toNat = c := ⟨_, rfl⟩
      rw [hc] at hib
      have hc256 : c < 256 := by rw [← hc]; exact UInt8.toNat_lt _
      by_cases h32 : c < 32
      · have hF : Hid (r = false) := HNK (by rw [hib, decide_eq_false (by omega : ¬ (32 : Int) ≤ (c : Int))]; rfl)
        have hci : decide ((c : Int) < 32) = true := decide_eq_true (by omega)
        clear hn hib HNK
        go_wp2
        go_ret
        exact ⟨ret_bool hF.out.symm, rfl⟩
      · have hci : decide ((c : Int) < 32) = false := decide_eq_false (by omega)
        by_cases h126 : 126 < c
        · have hF : Hid (r = false) := HNK (by rw [hib, decide_eq_false (by omega : ¬ (c : Int) ≤ 126), Bool.and_false])
          have hci2 : decide ((126 : Int) < (c : Int)) = true := decide_eq_true (by omega)
          clear hn hib HNK
          go_wp2
          go_ret
          exact ⟨ret_bool hF.out.symm, rfl⟩
        · have hci2 : decide ((126 : Int) < (c : Int)) = false := decide_eq_false (by omega)
          have HT : Hid (((bL s).take (k + 1)).all inkU = true) := by
            unfold Hid
            rw [hn, hib, decide_eq_true (by omega : (32 : Int) ≤ (c : Int)), decide_eq_true (by omega : (c : Int) ≤ 126)]; rfl
          clear hn hib HNK
          go_wp2
          go_round
          case rel => exact ⟨k + 1, by omega, by go_num, HT⟩
          case measure => simp [Go.RowKit.intOf]; omega
    · obtain rfl : k = s.size := by omega
      have HE := Lib.hid (HEND.out hall.out)
      have HP : Hid (0 < s.size) := by
        show 0 < s.size
        rw [← bL_size]
        rw [ByteArray.toList_eq, List.isEmpty_eq_false_iff] at hn1
        exact List.length_pos_iff.2 hn1
      go_wp2
      go_ret
      exact ⟨ret_bool (by rw [HE.out, decide_eq_true HP.out]), rfl⟩

set_option maxRecDepth 100000 in
set_option maxHeartbeats 4000000 in
theorem iDeedText (k : Int) (s : ByteArray) (w : World) (hs : s.size ≤ 1048576) :
    Calls Try.prog 12 #[.agg #[.int .i64 k, .string s]] w fun e w' => e = .returned (.string (deedB (k, s))) ∧ Below w.heap.size w w' := by
  obtain ⟨W, hW⟩ : ∃ W, w.alloc (.cells #[.int .i64 k, .string s] 24) = W := ⟨_, rfl⟩
  have HB : Hid (Below w.heap.size w W) := by rw [← hW]; exact (Below.refl _ _).alloc (Nat.le_refl _) _
  obtain ⟨hc0, hc1⟩ := DeedAt.cells (DeedAt.new w k s)
  have HW := Lib.hid hW
  obtain ⟨p, HP⟩ : ∃ p, Hid (plainU (bL s) = p) := ⟨_, rfl⟩
  have HPL : Hid (∀ w : World, Calls Try.prog 40 #[.string s] w fun e w' => e = .returned (.bool p) ∧ w = w') := fun w => by
    have := iPrintable s w hs
    rw [HP.out] at this; exact this
  clear hW
  by_cases h0 : k = 0 ∨ k = 1
  · cases p
    · have HN : Hid (deedB (k, s) = ⟨#[]⟩) := deed_none (fun h => by rw [HP.out] at h; exact absurd h.2 (by decide)) (by omega)
      rw [HN.out]
      rcases h0 with rfl | rfl
      · go_enter Try.func12, Try.ntmps12
        go_wp2_with (go_at_call 40; refine (HPL.out _).mono ?_; rintro e w' ⟨rfl, rfl⟩)
        go_ret
        exact ⟨rfl, by rw [HW.out]; exact HB.out⟩
      · go_enter Try.func12, Try.ntmps12
        go_wp2_with (go_at_call 40; refine (HPL.out _).mono ?_; rintro e w' ⟨rfl, rfl⟩)
        go_ret
        exact ⟨rfl, by rw [HW.out]; exact HB.out⟩
    · have HPT : plainU (bL s) = true := HP.out
      have hz5 : (9223372036854775807 < 5 + s.size) = False := by simp; omega
      have hz5b : (9223372036854775807 < 4 + s.size) = False := by simp; omega
      rcases h0 with rfl | rfl
      · rw [deed_tellI HPT]
        clear HPT
        go_enter Try.func12, Try.ntmps12
        go_wp2_with (go_at_call 40; refine (HPL.out _).mono ?_; rintro e w' ⟨rfl, rfl⟩)
        go_ret
        exact ⟨rfl, by rw [HW.out]; exact HB.out⟩
      · rw [deed_askI HPT]
        clear HPT
        go_enter Try.func12, Try.ntmps12
        go_wp2_with (go_at_call 40; refine (HPL.out _).mono ?_; rintro e w' ⟨rfl, rfl⟩)
        go_ret
        exact ⟨rfl, by rw [HW.out]; exact HB.out⟩
  · have hk0 : (k == 0) = false := by rw [beq_eq_false_iff_ne]; omega
    have hk1 : (k == 1) = false := by rw [beq_eq_false_iff_ne]; omega
    by_cases h2 : k = 2
    · subst h2
      by_cases he : s = ⟨#[]⟩
      · subst he
        rw [deed_back]
        go_enter Try.func12, Try.ntmps12
        go_wp2_with fail
        go_ret
        exact ⟨rfl, by rw [HW.out]; exact HB.out⟩
      · have HN : Hid (deedB (2, s) = ⟨#[]⟩) := deed_none (fun h => by omega) (fun h => he (bL_inj h.2))
        rw [HN.out]
        obtain ⟨hn1, hn2, hn3, hn4, hn5⟩ := text_full he
        clear he
        go_enter Try.func12, Try.ntmps12
        go_wp2_with fail
        go_ret
        exact ⟨rfl, by rw [HW.out]; exact HB.out⟩
    · have HN : Hid (deedB (k, s) = ⟨#[]⟩) := deed_none (fun h => h0 h.1) (fun h => h2 h.1)
      rw [HN.out]
      have hkb : (k == 2) = false := by rw [beq_eq_false_iff_ne]; exact h2
      clear h2 h0
      go_enter Try.func12, Try.ntmps12
      go_wp2_with fail
      go_ret
      exact ⟨rfl, by rw [HW.out]; exact HB.out⟩
end Go.Proofs.Ytobgnbgmpcilgaa

namespace Go.Proofs.Ytobgnbgmpcilgaa
open Go.RowKit

abbrev DeedV := Int × ByteArray
/-- The slice at A reads as the deeds ds. -/
def Deeds (w : World) (A : Option Addr) (ds : List DeedV) : Prop :=
  0 < ds.length → ∃ b off, A = some ⟨b, off, none⟩ ∧ b < w.heap.size ∧ ∀ (i : Nat) (d : DeedV), ds[i]? = some d → w.cell? ⟨b, off + i * 2, none⟩ = some (.int .i64 d.1) ∧ w.cell? ⟨b, off + i * 2 + 1, none⟩ = some (.string d.2)
theorem Deeds.nil (w : World) (A : Option Addr) : Deeds w A [] := fun h => absurd h (by simp)
theorem Deeds.below {w w' : World} {A : Option Addr} {ds : List DeedV} (h : Deeds w A ds) (hb : Below w.heap.size w w') : Deeds w' A ds := by
  intro hn
  obtain ⟨b, off, rfl, hlt, hc⟩ := h hn
  have := hb.size
  refine ⟨b, off, rfl, by omega, fun i d hd => ?_⟩
  obtain ⟨h1, h2⟩ := hc i d hd
  exact ⟨(hb.cell (p := ⟨b, off + i * 2, none⟩) hlt).trans h1, (hb.cell (p := ⟨b, off + i * 2 + 1, none⟩) hlt).trans h2⟩
theorem Deeds.grown {w w' : World} {A : Option Addr} {ds : List DeedV} {row : Option Nat} (h : Deeds w A ds) (hg : w.grownBy w' row) (hr : ∀ ad, A = some ad → some ad.block ≠ row) : Deeds w' A ds := by
  intro hn
  obtain ⟨b, off, rfl, hlt, hc⟩ := h hn
  have := hg.size
  refine ⟨b, off, rfl, by omega, fun i d hd => ?_⟩
  obtain ⟨h1, h2⟩ := hc i d hd
  have hbk := hg.block b hlt (hr _ rfl)
  exact ⟨(World.cell?_of_block hbk).trans h1, (World.cell?_of_block hbk).trans h2⟩
structure DRow (w : World) (A : Option Addr) (n c : Nat) (ds : List DeedV) : Prop where
  hn : n = ds.length
  hl : n ≤ 1048576
  hc : n ≤ c
  hm : c ≤ maxLen
  hA : Deeds w A ds
theorem DRow.below {w w' : World} {A : Option Addr} {n c : Nat} {ds : List DeedV} (h : DRow w A n c ds) (hb : Below w.heap.size w w') : DRow w' A n c ds := ⟨h.hn, h.hl, h.hc, h.hm, h.hA.below hb⟩
theorem DRow.drewN {w : World} {A : Option Addr} {n c : Nat} {ds : List DeedV} (h : DRow w A n c ds) (m : Nat) : DRow (w.drewN m) A n c ds := ⟨h.hn, h.hl, h.hc, h.hm, h.hA⟩
theorem Deeds.elem {w : World} {A : Option Addr} {ds : List DeedV} (h : Deeds w A ds) {i : Nat} (hi : i < ds.length) :
    ∃ b off f g, A = some ⟨b, off, none⟩ ∧ w.cell? ⟨b, off + i * 2, none⟩ = some (.int .i64 f) ∧ w.cell? ⟨b, off + i * 2 + 1, none⟩ = some (.string g) ∧ Hid (ds[i]? = some (f, g)) ∧ Hid (b < w.heap.size) := by
  obtain ⟨b, off, rfl, hlt, hc⟩ := h (by omega)
  obtain ⟨d, hd⟩ : ∃ d, ds[i]? = some d := ⟨_, List.getElem?_eq_getElem hi⟩
  obtain ⟨h1, h2⟩ := hc i d hd
  exact ⟨b, off, d.1, d.2, rfl, h1, h2, hd, hlt⟩
theorem takeD_snoc {ds : List DeedV} {i : Nat} {d : DeedV} (h : Hid (ds[i]? = some d)) : ds.take (i + 1) = ds.take i ++ [d] := by
  obtain ⟨hlt, he⟩ := List.getElem?_eq_some_iff.1 h.out
  rw [List.take_succ_eq_append_getElem hlt, he]
theorem elem_ltD {ds : List DeedV} {i : Nat} {d : DeedV} (h : Hid (ds[i]? = some d)) : i < ds.length := (List.getElem?_eq_some_iff.1 h.out).1
theorem elem_memD {ds : List DeedV} {i : Nat} {d : DeedV} (h : Hid (ds[i]? = some d)) : d ∈ ds := List.mem_of_getElem? h.out

/-- The cells of a list of deeds, one behind the other. -/
def flatD (ds : List DeedV) : List Value := ds.flatMap fun d => [.int .i64 d.1, .string d.2]
theorem flatD_cons (d : DeedV) (ds : List DeedV) : flatD (d :: ds) = .int .i64 d.1 :: .string d.2 :: flatD ds := rfl
theorem flatD_snoc (ds : List DeedV) (d : DeedV) : flatD (ds ++ [d]) = flatD ds ++ [.int .i64 d.1, .string d.2] := by
  unfold flatD; rw [List.flatMap_append]; rfl
theorem flatD_len : ∀ ds : List DeedV, (flatD ds).length = ds.length * 2
  | [] => rfl
  | d :: ds => by rw [flatD_cons, List.length_cons, List.length_cons, flatD_len ds, List.length_cons]; omega
theorem flatD_at : ∀ {ds : List DeedV} {i : Nat} {d : DeedV}, ds[i]? = some d → (flatD ds)[i * 2]? = some (.int .i64 d.1) ∧ (flatD ds)[i * 2 + 1]? = some (.string d.2)
  | [], i, d, h => by simp at h
  | x :: ds, 0, d, h => by
    rw [List.getElem?_cons_zero] at h
    cases h
    exact ⟨rfl, rfl⟩
  | x :: ds, i + 1, d, h => by
    rw [List.getElem?_cons_succ] at h
    obtain ⟨h1, h2⟩ := flatD_at h
    rw [flatD_cons, show (i + 1) * 2 = i * 2 + 1 + 1 by omega]
    simp only [List.getElem?_cons_succ]
    exact ⟨h1, h2⟩
theorem deed_info : (Try.prog.info? 24).map (fun i => (i.zero, i.size, i.bytes)) = some (some (.agg #[.int .i64 0, .string ByteArray.empty]), 2, 24) := by kernel_rfl
/-- A slice of the call's own: the value v, from block 'base' on, holds the deeds ds. -/
def OwnsD (w : World) (base : Nat) (v : Value) (ds : List DeedV) : Prop := w.ownsRow base 24 2 v ds.length (flatD ds)
theorem OwnsD.form {w : World} {base : Nat} {v : Value} {ds : List DeedV} (h : OwnsD w base v ds) :
    ∃ A c, v = .slice A ds.length c ∧ ds.length ≤ c ∧ c ≤ maxLen ∧ Deeds w A ds ∧ (∀ ad, A = some ad → base ≤ ad.block ∧ ad.block < w.heap.size) := by
  have hcells := fun g => World.ownsRow.cells h (g := g)
  rcases h.2 with ⟨rfl, hl⟩ | ⟨g, cap, cur, rfl, hb, hg, hn, hm, _, _⟩
  · exact ⟨none, 0, by rw [hl], by omega, by simp [maxLen], fun hp => absurd hp (by omega), fun ad h => by cases h⟩
  · have hlt : g < w.heap.size := (Array.getElem?_eq_some_iff.1 hg).1
    refine ⟨some ⟨g, 0, none⟩, cap, rfl, hn, hm, fun hp => ⟨g, 0, rfl, hlt, fun i d hd => ?_⟩, fun ad h => by cases h; exact ⟨hb, hlt⟩⟩
    obtain ⟨h1, h2⟩ := flatD_at hd
    have e1 : (⟨g, 0, none⟩ : Addr).add (i * 2) = ⟨g, 0 + i * 2, none⟩ := by unfold Addr.add; split <;> simp_all
    have e2 : (⟨g, 0, none⟩ : Addr).add (i * 2 + 1) = ⟨g, 0 + i * 2 + 1, none⟩ := by unfold Addr.add; split <;> simp_all; try omega
    have h1 := hcells g rfl _ _ h1
    have h2 := hcells g rfl _ _ h2
    rw [e1] at h1
    rw [e2] at h2
    exact ⟨h1, h2⟩
theorem OwnsD.row {w : World} {base : Nat} {A : Option Addr} {n c : Nat} {ds : List DeedV} (h : OwnsD w base (.slice A n c) ds) (hl : ds.length ≤ 1048576) : DRow w A n c ds := by
  obtain ⟨A', c', e, hc, hm, hn, _⟩ := h.form
  simp only [Value.slice.injEq] at e
  obtain ⟨rfl, rfl, rfl⟩ := e
  exact ⟨rfl, hl, hc, hm, hn⟩
theorem OwnsD.below {w w' : World} {base : Nat} {v : Value} {ds : List DeedV} (h : OwnsD w base v ds) (hb : Below w.heap.size w w') : OwnsD w' base v ds :=
  World.ownsRow.kept (row := none) h ⟨hb.os, hb.tape, hb.output, hb.size, fun k hk _ => hb.block k hk⟩ (by cases v.ownBlock <;> simp)
theorem OwnsD.drewN {w : World} {base : Nat} {v : Value} {ds : List DeedV} (h : OwnsD w base v ds) (n : Nat) : OwnsD (w.drewN n) base v ds := h
theorem OwnsD.kept {w w' : World} {base : Nat} {v : Value} {ds : List DeedV} (h : OwnsD w base v ds) {row : Option Nat} (hg : w.grownBy w' row) (hne : v.ownBlock = none ∨ v.ownBlock ≠ row) : OwnsD w' base v ds :=
  World.ownsRow.kept h hg hne
theorem OwnsD.base {w : World} {base base' : Nat} {v : Value} {ds : List DeedV} (h : OwnsD w base v ds) (hb : base' ≤ base) : OwnsD w base' v ds := by
  refine ⟨h.1, ?_⟩
  rcases h.2 with h | ⟨g, cap, cur, h1, h2, h3⟩
  · exact .inl h
  · exact .inr ⟨g, cap, cur, h1, by omega, h3⟩
theorem OwnsD.nil (w : World) (base : Nat) : OwnsD w base (.slice none 0 0) [] := World.ownsRow_nil w base _ 2
theorem OwnsD.lit0 (w : World) (base : Nat) (hb : base ≤ w.heap.size) : OwnsD (w.alloc (.cells #[] 24)) base (.slice (some ⟨w.heap.size, 0, none⟩) 0 0) [] := by
  have h := World.ownsRow_lit (base := base) (e := 24) (size := 2) w #[] 0 hb (by simp [maxLen]) (by simp)
  simpa [OwnsD, flatD] using h
theorem OwnsD.lit1 (w : World) (base : Nat) (hb : base ≤ w.heap.size) (k : Int) (s : ByteArray) : OwnsD (w.alloc (.cells #[.int .i64 k, .string s] 24)) base (.slice (some ⟨w.heap.size, 0, none⟩) 1 1) [(k, s)] := by
  have h := World.ownsRow_lit (base := base) (e := 24) (size := 2) w #[.int .i64 k, .string s] 1 hb (by simp [maxLen]) (by simp)
  simpa [OwnsD, flatD] using h
theorem wp_append1D {W : World} {ops : Array Oper} {rest : List Oper} {o : Oper} {a : Act} {Q : Exit → Act → World → Prop} (hgd : o.guard = none) (s x : Operand)
    (ho : o.op = .call { callee := .builtin .append, args := #[s, x], argTypes := #[32, 32] }) (base : Nat) (v : Value) (ds : List DeedV) (hs : a.eval s = v) (hown : OwnsD W base v ds)
    (f : Int) (g : ByteArray) (hx : a.eval x = .slice (some ⟨W.heap.size, 0, none⟩) 1 1) (hl : ds.length ≤ 1048576) (hb : base ≤ W.heap.size)
    (h : ∀ v' w', OwnsD w' base v' (ds ++ [(f, g)]) → (W.alloc (.cells #[.int .i64 f, .string g] 24)).grownBy w' v.ownBlock → wpList Try.prog ops Q rest (a.put o.dst v') w') :
    wpList Try.prog ops Q (o :: rest) a (W.alloc (.cells #[.int .i64 f, .string g] 24)) := by
  obtain ⟨i0, hi0, hz0, hz1, hz2⟩ := info_parts deed_info
  refine wpList_append_own _ hgd s x 32 ho base 24 i0 (.agg #[.int .i64 0, .string ByteArray.empty]) 2 24 Try.underlying32 hi0 hz0 hz1 hz2 rfl (by decide) v ds.length (flatD ds) hs (World.ownsRow.alloc hown _)
    ⟨W.heap.size, 0, none⟩ 1 1 [.int .i64 f, .string g] hx rfl ?_ (fun u hu => by
      rw [List.mem_cons, List.mem_singleton] at hu
      rcases hu with rfl | rfl <;> rfl) (by simp only [maxLen]; omega) (by omega) (by rw [World.size_alloc]; omega) ?_
  · exact cell_two_new _ _ _ _
  intro v' w' h1 h2 _
  refine h v' w' ?_ h2
  unfold OwnsD
  rw [flatD_snoc]
  simpa using h1
theorem below_appendD {B : Nat} {a W w' : World} {base : Nat} {v : Value} {ds : List DeedV} {o : Obj} (h : Below B a W) (hB : B ≤ W.heap.size) (hown : OwnsD W base v ds) (hbase : B ≤ base) (hg : (W.alloc o).grownBy w' v.ownBlock) : Below B a w' :=
  (h.alloc hB o).grown hg (by simp; omega) fun k e => by have := (World.ownsRow.lt hown k e).1; omega
end Go.Proofs.Ytobgnbgmpcilgaa

namespace Go.Proofs.Ytobgnbgmpcilgaa
open Go.RowKit

/-- Block b is a variable of type T that holds cs. -/
def Box (W : World) (b : Nat) (T : TypeId) (cs : List Value) : Prop := W.heap[b]? = some (.cells cs.toArray T (0, 0))
section
variable {W W' : World} {b : Nat} {T : TypeId} {cs : List Value}
theorem Box.new (W : World) (T : TypeId) (cs : List Value) : Box (W.alloc (.cells cs.toArray T)) W.heap.size T cs := World.alloc_heap_new W _
theorem Box.lt (h : Box W b T cs) : b < W.heap.size := (Array.getElem?_eq_some_iff.1 h).1
theorem Box.alloc (h : Box W b T cs) (o : Obj) : Box (W.alloc o) b T cs := (Below.heap_alloc W o b h.lt).trans h
theorem Box.grown {g : Nat} (h : Box W b T cs) (hg : W.grownBy W' (some g)) (hne : g ≠ b) : Box W' b T cs :=
  (hg.block b h.lt (by simp; omega)).trans h
theorem Box.below (h : Box W b T cs) (hb : Below W.heap.size W W') : Box W' b T cs := (hb.block b h.lt).trans h
theorem Box.drewN (h : Box W b T cs) (n : Nat) : Box (W.drewN n) b T cs := h
theorem Box.drew (h : Box W b T cs) : Box W.drew b T cs := h
theorem Box.cell (h : Box W b T cs) {i : Nat} {v : Value} (hv : cs[i]? = some v) : W.cell? ⟨b, i, none⟩ = some v := by
  unfold Box at h
  simp [World.cell?, h, hv]
theorem Box.frozen (h : Box W b T cs) (i : Nat) : W.frozen? ⟨b, i, none⟩ = false := by
  unfold Box at h
  simp [World.frozen?, h]
theorem Box.set (h : Box W b T cs) (i : Nat) (v : Value) : Box (W.setCell ⟨b, i, none⟩ v) b T (cs.set i v) := by
  unfold Box at *
  simp [World.setCell, Array.getElem?_modify, h]
theorem Box.other {a i : Nat} (h : Box W b T cs) (hne : a ≠ b) (v : Value) : Box (W.setCell ⟨a, i, none⟩ v) b T cs :=
  (Below.heap_setCell W ⟨a, i, none⟩ v b (fun e => hne e.symm)).trans h
/-- What a store of two cells asks and leaves. -/
theorem Box.store2 {x y : Value} (h : Box W b T [x, y]) (u v : Value) :
    (W.cell? ⟨b, 0, none⟩ = some x ∧ W.cell? ⟨b, 1, none⟩ = some y ∧ W.frozen? ⟨b, 0, none⟩ = false ∧ W.frozen? ⟨b, 1, none⟩ = false) ∧
    ((W.setCell ⟨b, 0, none⟩ u).cell? ⟨b, 1, none⟩ = some y ∧ (W.setCell ⟨b, 0, none⟩ u).frozen? ⟨b, 1, none⟩ = false) ∧
    Hid (Box ((W.setCell ⟨b, 0, none⟩ u).setCell ⟨b, 1, none⟩ v) b T [u, v]) :=
  ⟨⟨h.cell rfl, h.cell rfl, h.frozen 0, h.frozen 1⟩, ⟨(h.set 0 u).cell rfl, (h.set 0 u).frozen 1⟩, (h.set 0 u).set 1 v⟩
theorem Box.store4 {x y z p : Value} (h : Box W b T [x, y, z, p]) (u v r q : Value) :
    (W.cell? ⟨b, 0, none⟩ = some x ∧ W.cell? ⟨b, 1, none⟩ = some y ∧ W.cell? ⟨b, 2, none⟩ = some z ∧ W.cell? ⟨b, 3, none⟩ = some p ∧ W.frozen? ⟨b, 0, none⟩ = false ∧ W.frozen? ⟨b, 1, none⟩ = false ∧ W.frozen? ⟨b, 2, none⟩ = false ∧ W.frozen? ⟨b, 3, none⟩ = false) ∧
    ((W.setCell ⟨b, 0, none⟩ u).cell? ⟨b, 1, none⟩ = some y ∧ (W.setCell ⟨b, 0, none⟩ u).frozen? ⟨b, 1, none⟩ = false) ∧
    (((W.setCell ⟨b, 0, none⟩ u).setCell ⟨b, 1, none⟩ v).cell? ⟨b, 2, none⟩ = some z ∧ ((W.setCell ⟨b, 0, none⟩ u).setCell ⟨b, 1, none⟩ v).frozen? ⟨b, 2, none⟩ = false) ∧
    ((((W.setCell ⟨b, 0, none⟩ u).setCell ⟨b, 1, none⟩ v).setCell ⟨b, 2, none⟩ r).cell? ⟨b, 3, none⟩ = some p ∧ (((W.setCell ⟨b, 0, none⟩ u).setCell ⟨b, 1, none⟩ v).setCell ⟨b, 2, none⟩ r).frozen? ⟨b, 3, none⟩ = false) ∧
    Hid (Box ((((W.setCell ⟨b, 0, none⟩ u).setCell ⟨b, 1, none⟩ v).setCell ⟨b, 2, none⟩ r).setCell ⟨b, 3, none⟩ q) b T [u, v, r, q]) :=
  ⟨⟨h.cell rfl, h.cell rfl, h.cell rfl, h.cell rfl, h.frozen 0, h.frozen 1, h.frozen 2, h.frozen 3⟩, ⟨(h.set 0 u).cell rfl, (h.set 0 u).frozen 1⟩, ⟨((h.set 0 u).set 1 v).cell rfl, ((h.set 0 u).set 1 v).frozen 2⟩, ⟨(((h.set 0 u).set 1 v).set 2 r).cell rfl, (((h.set 0 u).set 1 v).set 2 r).frozen 3⟩, (((h.set 0 u).set 1 v).set 2 r).set 3 q⟩
end
theorem bel_set2 {B : Nat} {w W : World} {b : Nat} (h : Below B w W) (hb : B ≤ b) (u v : Value) : Below B w ((W.setCell ⟨b, 0, none⟩ u).setCell ⟨b, 1, none⟩ v) :=
  (h.setCell (p := ⟨b, 0, none⟩) hb _).setCell (p := ⟨b, 1, none⟩) hb _
theorem bel_set4 {B : Nat} {w W : World} {b : Nat} (h : Below B w W) (hb : B ≤ b) (u v r q : Value) : Below B w ((((W.setCell ⟨b, 0, none⟩ u).setCell ⟨b, 1, none⟩ v).setCell ⟨b, 2, none⟩ r).setCell ⟨b, 3, none⟩ q) :=
  (((h.setCell (p := ⟨b, 0, none⟩) hb _).setCell (p := ⟨b, 1, none⟩) hb _).setCell (p := ⟨b, 2, none⟩) hb _).setCell (p := ⟨b, 3, none⟩) hb _
/-- Results that lie in a variable: alone, with a second result behind. -/
theorem results_deed {fn : Func} {r : Tmp} (h : fn.results = #[.cell r 24]) {tmps : Array Value} {w : World} {b : Nat} {x y : Value} (ht : tmps.getD r undef = .pointer (some ⟨b, 0, none⟩))
   (hb : Hid (Box w b 24 [x, y])) : (results fn tmps).run Try.prog w = .ok (.agg #[x, y]) w := by
  have ht : tmps[r]?.getD undef = .pointer (some ⟨b, 0, none⟩) := by simpa using ht
  have hc0 := hb.out.cell (i := 0) (v := x) rfl
  have hc1 := hb.out.cell (i := 1) (v := y) rfl
  simp [results, h, ht, go_sem, hc0, hc1]
theorem results_deedB {fn : Func} {r q : Tmp} (h : fn.results = #[.cell r 24, .tmp q]) {tmps : Array Value} {w : World} {b : Nat} {x y v : Value} (ht : tmps.getD r undef = .pointer (some ⟨b, 0, none⟩)) (hv : tmps.getD q undef = v)
   (hb : Hid (Box w b 24 [x, y])) : (results fn tmps).run Try.prog w = .ok (.tuple #[.agg #[x, y], v]) w := by
  have ht : tmps[r]?.getD undef = .pointer (some ⟨b, 0, none⟩) := by simpa using ht
  have hv : tmps[q]?.getD undef = v := by simpa using hv
  have hc0 := hb.out.cell (i := 0) (v := x) rfl
  have hc1 := hb.out.cell (i := 1) (v := y) rfl
  simp [results, h, ht, hv, go_sem, hc0, hc1]
theorem results_state {fn : Func} {r : Tmp} (h : fn.results = #[.cell r 40]) {tmps : Array Value} {w : World} {b : Nat} {x y : Value} (ht : tmps.getD r undef = .pointer (some ⟨b, 0, none⟩))
   (hb : Hid (Box w b 40 [x, y])) : (results fn tmps).run Try.prog w = .ok (.agg #[x, y]) w := by
  have ht : tmps[r]?.getD undef = .pointer (some ⟨b, 0, none⟩) := by simpa using ht
  have hc0 := hb.out.cell (i := 0) (v := x) rfl
  have hc1 := hb.out.cell (i := 1) (v := y) rfl
  simp [results, h, ht, go_sem, hc0, hc1]
theorem results_talk {fn : Func} {r : Tmp} (h : fn.results = #[.cell r 43]) {tmps : Array Value} {w : World} {b : Nat} {x y z p : Value} (ht : tmps.getD r undef = .pointer (some ⟨b, 0, none⟩))
   (hb : Hid (Box w b 43 [x, y, z, p])) : (results fn tmps).run Try.prog w = .ok (.agg #[x, y, z, p]) w := by
  have ht : tmps[r]?.getD undef = .pointer (some ⟨b, 0, none⟩) := by simpa using ht
  have hc0 := hb.out.cell (i := 0) (v := x) rfl
  have hc1 := hb.out.cell (i := 1) (v := y) rfl
  have hc2 := hb.out.cell (i := 2) (v := z) rfl
  have hc3 := hb.out.cell (i := 3) (v := p) rfl
  simp [results, h, ht, go_sem, hc0, hc1, hc2, hc3]
theorem results_talkB {fn : Func} {r q : Tmp} (h : fn.results = #[.cell r 43, .tmp q]) {tmps : Array Value} {w : World} {b : Nat} {x y z p v : Value} (ht : tmps.getD r undef = .pointer (some ⟨b, 0, none⟩)) (hv : tmps.getD q undef = v)
   (hb : Hid (Box w b 43 [x, y, z, p])) : (results fn tmps).run Try.prog w = .ok (.tuple #[.agg #[x, y, z, p], v]) w := by
  have ht : tmps[r]?.getD undef = .pointer (some ⟨b, 0, none⟩) := by simpa using ht
  have hv : tmps[q]?.getD undef = v := by simpa using hv
  have hc0 := hb.out.cell (i := 0) (v := x) rfl
  have hc1 := hb.out.cell (i := 1) (v := y) rfl
  have hc2 := hb.out.cell (i := 2) (v := z) rfl
  have hc3 := hb.out.cell (i := 3) (v := p) rfl
  simp [results, h, ht, hv, go_sem, hc0, hc1, hc2, hc3]
end Go.Proofs.Ytobgnbgmpcilgaa
