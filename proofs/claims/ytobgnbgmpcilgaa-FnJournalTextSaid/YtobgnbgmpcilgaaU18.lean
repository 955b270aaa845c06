/-
  What the proofs of this seat's statements share (DedI, DdO, BoxO, RdD).
-/
import Derived.Deep.RegionHeld3
import Derived.RangeFuncBox
import Derived.Test.YtobgnbgmpcilgaaU17
import Derived.Test.YtobgnbgmpcilgaaU2
import Derived.Test.YtobgnbgmpcilgaaU5

namespace Go.Proofs.Ytobgnbgmpcilgaa
open Go.RowKit

theorem deed_tellI {s : ByteArray} (h : plainU (bL s) = true) : deedB (0, s) = ⟨#[116, 101, 108, 108, 32]⟩ ++ s := bL_inj (by
  rw [bL_append]
  unfold deedB deedU
  rw [bL_of, if_pos ⟨rfl, h⟩]
  rfl)
theorem deed_askI {s : ByteArray} (h : plainU (bL s) = true) : deedB (1, s) = ⟨#[97, 115, 107, 32]⟩ ++ s := bL_inj (by
  rw [bL_append]
  unfold deedB deedU
  rw [bL_of, if_neg (fun h => absurd (show (1 : Int) = 0 from h.1) (by decide)), if_pos ⟨rfl, h⟩]
  rfl)
theorem text_full {s : ByteArray} (h : s ≠ ⟨#[]⟩) : s.toList.isEmpty = false ∧ (s.toList == []) = false ∧ (s.toList != []) = true ∧ (s.toList == (ByteArray.mk #[]).toList) = false ∧ (s.toList != (ByteArray.mk #[]).toList) = true := by
  have h1 : s.toList ≠ [] := by
    rw [ByteArray.toList_eq]
    intro e
    exact h (ByteArray.ext (Array.toList_inj.mp e))
  have h2 : (s.toList == (ByteArray.mk #[]).toList) = false := str_ne h
  refine ⟨by rw [List.isEmpty_eq_false_iff]; exact h1, by rw [beq_eq_false_iff_ne]; exact h1, by rw [bne_iff_ne]; exact h1, h2, ?_⟩
  unfold bne
  rw [h2]; rfl

set_option maxRecDepth 100000 in
set_option maxHeartbeats 4000000 in
theorem iPrintable (s : ByteArray) (w : World) (hs : s.size ≤ 1048576) :
    Calls Try.prog 40 #[.string s] w fun e w' => e = .returned (.bool (plainU (bL s))) ∧ w = w' := by
  obtain ⟨r, HR⟩ : ∃ r, Hid (plainU (bL s) = r) := ⟨_, rfl⟩
  rw [HR.out]
  have HNO : Hid (∀ k, (h : k < s.size) → inkU s[k] = false → r = false) := fun k h hi => by
    rw [← HR.out]
    unfold plainU
    have : (bL s).all inkU = false := by
      rw [List.all_eq_false]
      exact ⟨s[k], by unfold bL; exact Array.getElem_mem_toList _, by rw [hi]; simp⟩
    rw [this, Bool.and_false]
  have HEND : Hid (((bL s).take s.size).all inkU = true → r = decide (0 < s.size)) := fun h => by
    rw [← bL_size, List.take_length] at h
    rw [← HR.out]
    unfold plainU
    rw [h, Bool.and_true, ← bL_size]
    cases bL s <;> simp
  by_cases he : s = ⟨#[]⟩
  · have hr : r = false := by rw [← HR.out, he]; rfl
    subst he hr
    clear HNO HEND HR hs
    go_enter Try.func40, Try.ntmps40
    go_wp2
    refine wp_loop_rounds 1 ?_
    rw [rounds_succ]
    go_wp2
    go_ret
    exact ⟨rfl, rfl⟩
  obtain ⟨hn1, hn2, hn3, hn4, hn5⟩ := text_full he
  clear he
  go_enter Try.func40, Try.ntmps40
  go_wp2
  go_loop [6] (fun i => ∃ k : Nat, k ≤ s.size ∧ i = .int .i64 k ∧ Hid (((bL s).take k).all inkU = true)) (fun i => s.size - (Go.RowKit.intOf i).toNat)
  case atStart => exact ⟨0, Nat.zero_le _, rfl, rfl⟩
  case round =>
    obtain ⟨k, hk, rfl, hall⟩ := hrel
    by_cases hlt : k < s.size
    · have hd : (k : Int) < (s.size : Int) := by omega
      have hd0 : (0 : Int) ≤ (k : Int) := by omega
      have hn := ink_take hlt
      rw [hall.out, Bool.true_and] at hn
      have hib := ink_byte s[k]
      have HNK := HNO.out k hlt
      obtain ⟨c, hc⟩ : ∃ c, s[k].toNat = c := ⟨_, rfl⟩
      rw [hc] at hib
      have hc256 : c < 256 := by rw [← hc]; exact UInt8.toNat_lt _
      by_cases h32 : c < 32
      · have hF : Hid (r = false) := HNK (by rw [hib, decide_eq_false (by omega : ¬ (32 : Int) ≤ (c : Int))]; rfl)
        have hci : decide ((c : Int) < 32) = true := decide_eq_true (by omega)
        clear hn hib HNK
        go_wp2
        go_ret
        exact ⟨ret_bool hF.out.symm, rfl⟩
      · have hci : decide ((c : Int) < 32) = false := decide_eq_false (by omega)
        by_cases h126 : 126 < c
        · have hF : Hid (r = false) := HNK (by rw [hib, decide_eq_false (by omega : ¬ (c : Int) ≤ 126), Bool.and_false])
          have hci2 : decide ((126 : Int) < (c : Int)) = true := decide_eq_true (by omega)
          clear hn hib HNK
          go_wp2
          go_ret
          exact ⟨ret_bool hF.out.symm, rfl⟩
        · have hci2 : decide ((126 : Int) < (c : Int)) = false := decide_eq_false (by omega)
          have HT : Hid (((bL s).take (k + 1)).all inkU = true) := by
            unfold Hid
            rw [hn, hib, decide_eq_true (by omega : (32 : Int) ≤ (c : Int)), decide_eq_true (by omega : (c : Int) ≤ 126)]; rfl
          clear hn hib HNK
          go_wp2
          go_round
          case rel => exact ⟨k + 1, by omega, by go_num, HT⟩
          case measure => simp [Go.RowKit.intOf]; omega
    · obtain rfl : k = s.size := by omega
      have HE := Lib.hid (HEND.out hall.out)
      have HP : Hid (0 < s.size) := by
        show 0 < s.size
        rw [← bL_size]
        rw [ByteArray.toList_eq, List.isEmpty_eq_false_iff] at hn1
        exact List.length_pos_iff.2 hn1
      go_wp2
      go_ret
      exact ⟨ret_bool (by rw [HE.out, decide_eq_true HP.out]), rfl⟩

set_option maxRecDepth 100000 in
set_option maxHeartbeats 4000000 in
theorem iDeedText (k : Int) (s : ByteArray) (w : World) (hs : s.size ≤ 1048576) :
    Calls Try.prog 12 #[.agg #[.int .i64 k, .string s]] w fun e w' => e = .returned (.string (deedB (k, s))) ∧ Below w.heap.size w w' := by
  obtain ⟨W, hW⟩ : ∃ W, w.alloc (.cells #[.int .i64 k, .string s] 24) = W := ⟨_, rfl⟩
  have HB : Hid (Below w.heap.size w W) := by rw [← hW]; exact (Below.refl _ _).alloc (Nat.le_refl _) _
  obtain ⟨hc0, hc1⟩ := DeedAt.cells (DeedAt.new w k s)
  have HW := Lib.hid hW
  obtain ⟨p, HP⟩ : ∃ p, Hid (plainU (bL s) = p) := ⟨_, rfl⟩
  have HPL : Hid (∀ w : World, Calls Try.prog 40 #[.string s] w fun e w' => e = .returned (.bool p) ∧ w = w') := fun w => by
    have := iPrintable s w hs
    rw [HP.out] at this; exact this
  clear hW
  by_cases h0 : k = 0 ∨ k = 1
  · cases p
    · have HN : Hid (deedB (k, s) = ⟨#[]⟩) := deed_none (fun h => by rw [HP.out] at h; exact absurd h.2 (by decide)) (by omega)
      rw [HN.out]
      rcases h0 with rfl | rfl
      · go_enter Try.func12, Try.ntmps12
        go_wp2_with (go_at_call 40; refine (HPL.out _).mono ?_; rintro e w' ⟨rfl, rfl⟩)
        go_ret
        exact ⟨rfl, by rw [HW.out]; exact HB.out⟩
      · go_enter Try.func12, Try.ntmps12
        go_wp2_with (go_at_call 40; refine (HPL.out _).mono ?_; rintro e w' ⟨rfl, rfl⟩)
        go_ret
        exact ⟨rfl, by rw [HW.out]; exact HB.out⟩
    · have HPT : plainU (bL s) = true := HP.out
      have hz5 : (9223372036854775807 < 5 + s.size) = False := by simp; omega
      have hz5b : (9223372036854775807 < 4 + s.size) = False := by simp; omega
      rcases h0 with rfl | rfl
      · rw [deed_tellI HPT]
        clear HPT
        go_enter Try.func12, Try.ntmps12
        go_wp2_with (go_at_call 40; refine (HPL.out _).mono ?_; rintro e w' ⟨rfl, rfl⟩)
        go_ret
        exact ⟨rfl, by rw [HW.out]; exact HB.out⟩
      · rw [deed_askI HPT]
        clear HPT
        go_enter Try.func12, Try.ntmps12
        go_wp2_with (go_at_call 40; refine (HPL.out _).mono ?_; rintro e w' ⟨rfl, rfl⟩)
        go_ret
        exact ⟨rfl, by rw [HW.out]; exact HB.out⟩
  · have hk0 : (k == 0) = false := by rw [beq_eq_false_iff_ne]; omega
    have hk1 : (k == 1) = false := by rw [beq_eq_false_iff_ne]; omega
    by_cases h2 : k = 2
    · subst h2
      by_cases he : s = ⟨#[]⟩
      · subst he
        rw [deed_back]
        go_enter Try.func12, Try.ntmps12
        go_wp2_with fail
        go_ret
        exact ⟨rfl, by rw [HW.out]; exact HB.out⟩
      · have HN : Hid (deedB (2, s) = ⟨#[]⟩) := deed_none (fun h => by omega) (fun h => he (bL_inj h.2))
        rw [HN.out]
        obtain ⟨hn1, hn2, hn3, hn4, hn5⟩ := text_full he
        clear he
        go_enter Try.func12, Try.ntmps12
        go_wp2_with fail
        go_ret
        exact ⟨rfl, by rw [HW.out]; exact HB.out⟩
    · have HN : Hid (deedB (k, s) = ⟨#[]⟩) := deed_none (fun h => h0 h.1) (fun h => h2 h.1)
      rw [HN.out]
      have hkb : (k == 2) = false := by rw [beq_eq_false_iff_ne]; exact h2
      clear h2 h0
      go_enter Try.func12, Try.ntmps12
      go_wp2_with fail
      go_ret
      exact ⟨rfl, by rw [HW.out]; exact HB.out⟩
end Go.Proofs.Ytobgnbgmpcilgaa

namespace Go.Proofs.Ytobgnbgmpcilgaa
open Go.RowKit

abbrev DeedV := Int × ByteArray
/-- The slice at A reads as the deeds ds. -/
def Deeds (w : World) (A : Option Addr) (ds : List DeedV) : Prop :=
  0 < ds.length → ∃ b off, A = some ⟨b, off, none⟩ ∧ b < w.heap.size ∧ ∀ (i : Nat) (d : DeedV), ds[i]? = some d → w.cell? ⟨b, off + i * 2, none⟩ = some (.int .i64 d.1) ∧ w.cell? ⟨b, off + i * 2 + 1, none⟩ = some (.string d.2)
theorem Deeds.nil (w : World) (A : Option Addr) : Deeds w A [] := fun h => absurd h (by simp)
theorem Deeds.below {w w' : World} {A : Option Addr} {ds : List DeedV} (h : Deeds w A ds) (hb : Below w.heap.size w w') : Deeds w' A ds := by
  intro hn
  obtain ⟨b, off, rfl, hlt, hc⟩ := h hn
  have := hb.size
  refine ⟨b, off, rfl, by omega, fun i d hd => ?_⟩
  obtain ⟨h1, h2⟩ := hc i d hd
  exact ⟨(hb.cell (p := ⟨b, off + i * 2, none⟩) hlt).trans h1, (hb.cell (p := ⟨b, off + i * 2 + 1, none⟩) hlt).trans h2⟩
theorem Deeds.grown {w w' : World} {A : Option Addr} {ds : List DeedV} {row : Option Nat} (h : Deeds w A ds) (hg : w.grownBy w' row) (hr : ∀ ad, A = some ad → some ad.block ≠ row) : Deeds w' A ds := by
  intro hn
  obtain ⟨b, off, rfl, hlt, hc⟩ := h hn
  have := hg.size
  refine ⟨b, off, rfl, by omega, fun i d hd => ?_⟩
  obtain ⟨h1, h2⟩ := hc i d hd
  have hbk := hg.block b hlt (hr _ rfl)
  exact ⟨(World.cell?_of_block hbk).trans h1, (World.cell?_of_block hbk).trans h2⟩
structure DRow (w : World) (A : Option Addr) (n c : Nat) (ds : List DeedV) : Prop where
  hn : n = ds.length
  hl : n ≤ 1048576
  hc : n ≤ c
  hm : c ≤ maxLen
  hA : Deeds w A ds
theorem DRow.below {w w' : World} {A : Option Addr} {n c : Nat} {ds : List DeedV} (h : DRow w A n c ds) (hb : Below w.heap.size w w') : DRow w' A n c ds := ⟨h.hn, h.hl, h.hc, h.hm, h.hA.below hb⟩
theorem DRow.drewN {w : World} {A : Option Addr} {n c : Nat} {ds : List DeedV} (h : DRow w A n c ds) (m : Nat) : DRow (w.drewN m) A n c ds := ⟨h.hn, h.hl, h.hc, h.hm, h.hA⟩
theorem Deeds.elem {w : World} {A : Option Addr} {ds : List DeedV} (h : Deeds w A ds) {i : Nat} (hi : i < ds.length) :
    ∃ b off f g, A = some ⟨b, off, none⟩ ∧ w.cell? ⟨b, off + i * 2, none⟩ = some (.int .i64 f) ∧ w.cell? ⟨b, off + i * 2 + 1, none⟩ = some (.string g) ∧ Hid (ds[i]? = some (f, g)) ∧ Hid (b < w.heap.size) := by
  obtain ⟨b, off, rfl, hlt, hc⟩ := h (by omega)
  obtain ⟨d, hd⟩ : ∃ d, ds[i]? = some d := ⟨_, List.getElem?_eq_getElem hi⟩
  obtain ⟨h1, h2⟩ := hc i d hd
  exact ⟨b, off, d.1, d.2, rfl, h1, h2, hd, hlt⟩
theorem takeD_snoc {ds : List DeedV} {i : Nat} {d : DeedV} (h : Hid (ds[i]? = some d)) : ds.take (i + 1) = ds.take i ++ [d] := by
  obtain ⟨hlt, he⟩ := List.getElem?_eq_some_iff.1 h.out
  rw [List.take_succ_eq_append_getElem hlt, he]
theorem elem_ltD {ds : List DeedV} {i : Nat} {d : DeedV} (h : Hid (ds[i]? = some d)) : i < ds.length := (List.getElem?_eq_some_iff.1 h.out).1
theorem elem_memD {ds : List DeedV} {i : Nat} {d : DeedV} (h : Hid (ds[i]? = some d)) : d ∈ ds := List.mem_of_getElem? h.out

/-- The cells of a list of deeds, one behind the other. -/
def flatD (ds : List DeedV) : List Value := ds.flatMap fun d => [.int .i64 d.1, .string d.2]
theorem flatD_cons (d : DeedV) (ds : List DeedV) : flatD (d :: ds) = .int .i64 d.1 :: .string d.2 :: flatD ds := rfl
theorem flatD_snoc (ds : List DeedV) (d : DeedV) : flatD (ds ++ [d]) = flatD ds ++ [.int .i64 d.1, .string d.2] := by
  unfold flatD; rw [List.flatMap_append]; rfl
theorem flatD_len : ∀ ds : List DeedV, (flatD ds).length = ds.length * 2
  | [] => rfl
  | d :: ds => by rw [flatD_cons, List.length_cons, List.length_cons, flatD_len ds, List.length_cons]; omega
theorem flatD_at : ∀ {ds : List DeedV} {i : Nat} {d : DeedV}, ds[i]? = some d → (flatD ds)[i * 2]? = some (.int .i64 d.1) ∧ (flatD ds)[i * 2 + 1]? = some (.string d.2)
  | [], i, d, h => by simp at h
  | x :: ds, 0, d, h => by
    rw [List.getElem?_cons_zero] at h
    cases h
    exact ⟨rfl, rfl⟩
  | x :: ds, i + 1, d, h => by
    rw [List.getElem?_cons_succ] at h
    obtain ⟨h1, h2⟩ := flatD_at h
    rw [flatD_cons, show (i + 1) * 2 = i * 2 + 1 + 1 by omega]
    simp only [List.getElem?_cons_succ]
    exact ⟨h1, h2⟩
theorem deed_info : (Try.prog.info? 24).map (fun i => (i.zero, i.size, i.bytes)) = some (some (.agg #[.int .i64 0, .string ByteArray.empty]), 2, 24) := by kernel_rfl
/-- A slice of the call's own: the value v, from block 'base' on, holds the deeds ds. -/
def OwnsD (w : World) (base : Nat) (v : Value) (ds : List DeedV) : Prop := w.ownsRow base 24 2 v ds.length (flatD ds)
theorem OwnsD.form {w : World} {base : Nat} {v : Value} {ds : List DeedV} (h : OwnsD w base v ds) :
    ∃ A c, v = .slice A ds.length c ∧ ds.length ≤ c ∧ c ≤ maxLen ∧ Deeds w A ds ∧ (∀ ad, A = some ad → base ≤ ad.block ∧ ad.block < w.heap.size) := by
  have hcells := fun g => World.ownsRow.cells h (g := g)
  rcases h.2 with ⟨rfl, hl⟩ | ⟨g, cap, cur, rfl, hb, hg, hn, hm, _, _⟩
  · exact ⟨none, 0, by rw [hl], by omega, by simp [maxLen], fun hp => absurd hp (by omega), fun ad h => by cases h⟩
  · have hlt : g < w.heap.size := (Array.getElem?_eq_some_iff.1 hg).1
    refine ⟨some ⟨g, 0, none⟩, cap, rfl, hn, hm, fun hp => ⟨g, 0, rfl, hlt, fun i d hd => ?_⟩, fun ad h => by cases h; exact ⟨hb, hlt⟩⟩
    obtain ⟨h1, h2⟩ := flatD_at hd
    have e1 : (⟨g, 0, none⟩ : Addr).add (i * 2) = ⟨g, 0 + i * 2, none⟩ := by unfold Addr.add; split <;> simp_all
    have e2 : (⟨g, 0, none⟩ : Addr).add (i * 2 + 1) = ⟨g, 0 + i * 2 + 1, none⟩ := by unfold Addr.add; split <;> simp_all; try omega
    have h1 := hcells g rfl _ _ h1
    have h2 := hcells g rfl _ _ h2
    rw [e1] at h1
    rw [e2] at h2
    exact ⟨h1, h2⟩
theorem OwnsD.row {w : World} {base : Nat} {A : Option Addr} {n c : Nat} {ds : List DeedV} (h : OwnsD w base (.slice A n c) ds) (hl : ds.length ≤ 1048576) : DRow w A n c ds := by
  obtain ⟨A', c', e, hc, hm, hn, _⟩ := h.form
  simp only [Value.slice.injEq] at e
  obtain ⟨rfl, rfl, rfl⟩ := e
  exact ⟨rfl, hl, hc, hm, hn⟩
theorem OwnsD.below {w w' : World} {base : Nat} {v : Value} {ds : List DeedV} (h : OwnsD w base v ds) (hb : Below w.heap.size w w') : OwnsD w' base v ds :=
  World.ownsRow.kept (row := none) h ⟨hb.os, hb.tape, hb.output, hb.size, fun k hk _ => hb.block k hk⟩ (by cases v.ownBlock <;> simp)
theorem OwnsD.drewN {w : World} {base : Nat} {v : Value} {ds : List DeedV} (h : OwnsD w base v ds) (n : Nat) : OwnsD (w.drewN n) base v ds := h
theorem OwnsD.kept {w w' : World} {base : Nat} {v : Value} {ds : List DeedV} (h : OwnsD w base v ds) {row : Option Nat} (hg : w.grownBy w' row) (hne : v.ownBlock = none ∨ v.ownBlock ≠ row) : OwnsD w' base v ds :=
  World.ownsRow.kept h hg hne
theorem OwnsD.base {w : World} {base base' : Nat} {v : Value} {ds : List DeedV} (h : OwnsD w base v ds) (hb : base' ≤ base) : OwnsD w base' v ds := by
  refine ⟨h.1, ?_⟩
  rcases h.2 with h | ⟨g, cap, cur, h1, h2, h3⟩
  · exact .inl h
  · exact .inr ⟨g, cap, cur, h1, by omega, h3⟩
theorem OwnsD.nil (w : World) (base : Nat) : OwnsD w base (.slice none 0 0) [] := World.ownsRow_nil w base _ 2
theorem OwnsD.lit0 (w : World) (base : Nat) (hb : base ≤ w.heap.size) : OwnsD (w.alloc (.cells #[] 24)) base (.slice (some ⟨w.heap.size, 0, none⟩) 0 0) [] := by
  have h := World.ownsRow_lit (base := base) (e := 24) (size := 2) w #[] 0 hb (by simp [maxLen]) (by simp)
  simpa [OwnsD, flatD] using h
theorem OwnsD.lit1 (w : World) (base : Nat) (hb : base ≤ w.heap.size) (k : Int) (s : ByteArray) : OwnsD (w.alloc (.cells #[.int .i64 k, .string s] 24)) base (.slice (some ⟨w.heap.size, 0, none⟩) 1 1) [(k, s)] := by
  have h := World.ownsRow_lit (base := base) (e := 24) (size := 2) w #[.int .i64 k, .string s] 1 hb (by simp [maxLen]) (by simp)
  simpa [OwnsD, flatD] using h
theorem wp_append1D {W : World} {ops : Array Oper} {rest : List Oper} {o : Oper} {a : Act} {Q : Exit → Act → World → Prop} (hgd : o.guard = none) (s x : Operand)
    (ho : o.op = .call { callee := .builtin .append, args := #[s, x], argTypes := #[32, 32] }) (base : Nat) (v : Value) (ds : List DeedV) (hs : a.eval s = v) (hown : OwnsD W base v ds)
    (f : Int) (g : ByteArray) (hx : a.eval x = .slice (some ⟨W.heap.size, 0, none⟩) 1 1) (hl : ds.length ≤ 1048576) (hb : base ≤ W.heap.size)
    (h : ∀ v' w', OwnsD w' base v' (ds ++ [(f, g)]) → (W.alloc (.cells #[.int .i64 f, .string g] 24)).grownBy w' v.ownBlock → wpList Try.prog ops Q rest (a.put o.dst v') w') :
    wpList Try.prog ops Q (o :: rest) a (W.alloc (.cells #[.int .i64 f, .string g] 24)) := by
  obtain ⟨i0, hi0, hz0, hz1, hz2⟩ := info_parts deed_info
  refine wpList_append_own _ hgd s x 32 ho base 24 i0 (.agg #[.int .i64 0, .string ByteArray.empty]) 2 24 Try.underlying32 hi0 hz0 hz1 hz2 rfl (by decide) v ds.length (flatD ds) hs (World.ownsRow.alloc hown _)
    ⟨W.heap.size, 0, none⟩ 1 1 [.int .i64 f, .string g] hx rfl ?_ (fun u hu => by
      rw [List.mem_cons, List.mem_singleton] at hu
      rcases hu with rfl | rfl <;> rfl) (by simp only [maxLen]; omega) (by omega) (by rw [World.size_alloc]; omega) ?_
  · exact cell_two_new _ _ _ _
  intro v' w' h1 h2 _
  refine h v' w' ?_ h2
  unfold OwnsD
  rw [flatD_snoc]
  simpa using h1
theorem below_appendD {B : Nat} {a W w' : World} {base : Nat} {v : Value} {ds : List DeedV} {o : Obj} (h : Below B a W) (hB : B ≤ W.heap.size) (hown : OwnsD W base v ds) (hbase : B ≤ base) (hg : (W.alloc o).grownBy w' v.ownBlock) : Below B a w' :=
  (h.alloc hB o).grown hg (by simp; omega) fun k e => by have := (World.ownsRow.lt hown k e).1; omega
end Go.Proofs.Ytobgnbgmpcilgaa

namespace Go.Proofs.Ytobgnbgmpcilgaa
open Go.RowKit

/-- Block b is a variable of type T that holds cs. -/
def Box (W : World) (b : Nat) (T : TypeId) (cs : List Value) : Prop := W.heap[b]? = some (.cells cs.toArray T (0, 0))
section
variable {W W' : World} {b : Nat} {T : TypeId} {cs : List Value}
theorem Box.new (W : World) (T : TypeId) (cs : List Value) : Box (W.alloc (.cells cs.toArray T)) W.heap.size T cs := World.alloc_heap_new W _
theorem Box.lt (h : Box W b T cs) : b < W.heap.size := (Array.getElem?_eq_some_iff.1 h).1
theorem Box.alloc (h : Box W b T cs) (o : Obj) : Box (W.alloc o) b T cs := (Below.heap_alloc W o b h.lt).trans h
theorem Box.grown {g : Nat} (h : Box W b T cs) (hg : W.grownBy W' (some g)) (hne : g ≠ b) : Box W' b T cs :=
  (hg.block b h.lt (by simp; omega)).trans h
theorem Box.below (h : Box W b T cs) (hb : Below W.heap.size W W') : Box W' b T cs := (hb.block b h.lt).trans h
theorem Box.drewN (h : Box W b T cs) (n : Nat) : Box (W.drewN n) b T cs := h
theorem Box.drew (h : Box W b T cs) : Box W.drew b T cs := h
theorem Box.cell (h : Box W b T cs) {i : Nat} {v : Value} (hv : cs[i]? = some v) : W.cell? ⟨b, i, none⟩ = some v := by
  unfold Box at h
  simp [World.cell?, h, hv]
theorem Box.frozen (h : Box W b T cs) (i : Nat) : W.frozen? ⟨b, i, none⟩ = false := by
  unfold Box at h
  simp [World.frozen?, h]
theorem Box.set (h : Box W b T cs) (i : Nat) (v : Value) : Box (W.setCell ⟨b, i, none⟩ v) b T (cs.set i v) := by
  unfold Box at *
  simp [World.setCell, Array.getElem?_modify, h]
theorem Box.other {a i : Nat} (h : Box W b T cs) (hne : a ≠ b) (v : Value) : Box (W.setCell ⟨a, i, none⟩ v) b T cs :=
  (Below.heap_setCell W ⟨a, i, none⟩ v b (fun e => hne e.symm)).trans h
/-- What a store of two cells asks and leaves. -/
theorem Box.store2 {x y : Value} (h : Box W b T [x, y]) (u v : Value) :
    (W.cell? ⟨b, 0, none⟩ = some x ∧ W.cell? ⟨b, 1, none⟩ = some y ∧ W.frozen? ⟨b, 0, none⟩ = false ∧ W.frozen? ⟨b, 1, none⟩ = false) ∧
    ((W.setCell ⟨b, 0, none⟩ u).cell? ⟨b, 1, none⟩ = some y ∧ (W.setCell ⟨b, 0, none⟩ u).frozen? ⟨b, 1, none⟩ = false) ∧
    Hid (Box ((W.setCell ⟨b, 0, none⟩ u).setCell ⟨b, 1, none⟩ v) b T [u, v]) :=
  ⟨⟨h.cell rfl, h.cell rfl, h.frozen 0, h.frozen 1⟩, ⟨(h.set 0 u).cell rfl, (h.set 0 u).frozen 1⟩, (h.set 0 u).set 1 v⟩
theorem Box.store4 {x y z p : Value} (h : Box W b T [x, y, z, p]) (u v r q : Value) :
    (W.cell? ⟨b, 0, none⟩ = some x ∧ W.cell? ⟨b, 1, none⟩ = some y ∧ W.cell? ⟨b, 2, none⟩ = some z ∧ W.cell? ⟨b, 3, none⟩ = some p ∧ W.frozen? ⟨b, 0, none⟩ = false ∧ W.frozen? ⟨b, 1, none⟩ = false ∧ W.frozen? ⟨b, 2, none⟩ = false ∧ W.frozen? ⟨b, 3, none⟩ = false) ∧
    ((W.setCell ⟨b, 0, none⟩ u).cell? ⟨b, 1, none⟩ = some y ∧ (W.setCell ⟨b, 0, none⟩ u).frozen? ⟨b, 1, none⟩ = false) ∧
    (((W.setCell ⟨b, 0, none⟩ u).setCell ⟨b, 1, none⟩ v).cell? ⟨b, 2, none⟩ = some z ∧ ((W.setCell ⟨b, 0, none⟩ u).setCell ⟨b, 1, none⟩ v).frozen? ⟨b, 2, none⟩ = false) ∧
    ((((W.setCell ⟨b, 0, none⟩ u).setCell ⟨b, 1, none⟩ v).setCell ⟨b, 2, none⟩ r).cell? ⟨b, 3, none⟩ = some p ∧ (((W.setCell ⟨b, 0, none⟩ u).setCell ⟨b, 1, none⟩ v).setCell ⟨b, 2, none⟩ r).frozen? ⟨b, 3, none⟩ = false) ∧
    Hid (Box ((((W.setCell ⟨b, 0, none⟩ u).setCell ⟨b, 1, none⟩ v).setCell ⟨b, 2, none⟩ r).setCell ⟨b, 3, none⟩ q) b T [u, v, r, q]) :=
  ⟨⟨h.cell rfl, h.cell rfl, h.cell rfl, h.cell rfl, h.frozen 0, h.frozen 1, h.frozen 2, h.frozen 3⟩, ⟨(h.set 0 u).cell rfl, (h.set 0 u).frozen 1⟩, ⟨((h.set 0 u).set 1 v).cell rfl, ((h.set 0 u).set 1 v).frozen 2⟩, ⟨(((h.set 0 u).set 1 v).set 2 r).cell rfl, (((h.set 0 u).set 1 v).set 2 r).frozen 3⟩, (((h.set 0 u).set 1 v).set 2 r).set 3 q⟩
end
theorem Box.grownO {W W' : World} {b : Nat} {T : TypeId} {cs : List Value} {row : Option Nat} (h : Box W b T cs) (hg : W.grownBy W' row) (hne : ∀ k, row = some k → k ≠ b) : Box W' b T cs :=
  (hg.block b h.lt (fun e => hne b e.symm rfl)).trans h
theorem Box.other2 {W : World} {b g : Nat} {T : TypeId} {cs : List Value} (h : Box W b T cs) (hne : g ≠ b) (u v : Value) : Box ((W.setCell ⟨g, 0, none⟩ u).setCell ⟨g, 1, none⟩ v) b T cs := (h.other hne u).other hne v
theorem Box.other4 {W : World} {b g : Nat} {T : TypeId} {cs : List Value} (h : Box W b T cs) (hne : g ≠ b) (u v r q : Value) : Box ((((W.setCell ⟨g, 0, none⟩ u).setCell ⟨g, 1, none⟩ v).setCell ⟨g, 2, none⟩ r).setCell ⟨g, 3, none⟩ q) b T cs := (((h.other hne u).other hne v).other hne r).other hne q
theorem bel_set2 {B : Nat} {w W : World} {b : Nat} (h : Below B w W) (hb : B ≤ b) (u v : Value) : Below B w ((W.setCell ⟨b, 0, none⟩ u).setCell ⟨b, 1, none⟩ v) :=
  (h.setCell (p := ⟨b, 0, none⟩) hb _).setCell (p := ⟨b, 1, none⟩) hb _
theorem bel_set4 {B : Nat} {w W : World} {b : Nat} (h : Below B w W) (hb : B ≤ b) (u v r q : Value) : Below B w ((((W.setCell ⟨b, 0, none⟩ u).setCell ⟨b, 1, none⟩ v).setCell ⟨b, 2, none⟩ r).setCell ⟨b, 3, none⟩ q) :=
  (((h.setCell (p := ⟨b, 0, none⟩) hb _).setCell (p := ⟨b, 1, none⟩) hb _).setCell (p := ⟨b, 2, none⟩) hb _).setCell (p := ⟨b, 3, none⟩) hb _
/-- Results that lie in a variable: alone, with a second result behind. -/
theorem results_deed {fn : Func} {r : Tmp} (h : fn.results = #[.cell r 24]) {tmps : Array Value} {w : World} {b : Nat} {x y : Value} (ht : tmps.getD r undef = .pointer (some ⟨b, 0, none⟩))
   (hb : Hid (Box w b 24 [x, y])) : (results fn tmps).run Try.prog w = .ok (.agg #[x, y]) w := by
  have ht : tmps[r]?.getD undef = .pointer (some ⟨b, 0, none⟩) := by simpa using ht
  have hc0 := hb.out.cell (i := 0) (v := x) rfl
  have hc1 := hb.out.cell (i := 1) (v := y) rfl
  simp [results, h, ht, go_sem, hc0, hc1]
theorem results_deedB {fn : Func} {r q : Tmp} (h : fn.results = #[.cell r 24, .tmp q]) {tmps : Array Value} {w : World} {b : Nat} {x y v : Value} (ht : tmps.getD r undef = .pointer (some ⟨b, 0, none⟩)) (hv : tmps.getD q undef = v)
   (hb : Hid (Box w b 24 [x, y])) : (results fn tmps).run Try.prog w = .ok (.tuple #[.agg #[x, y], v]) w := by
  have ht : tmps[r]?.getD undef = .pointer (some ⟨b, 0, none⟩) := by simpa using ht
  have hv : tmps[q]?.getD undef = v := by simpa using hv
  have hc0 := hb.out.cell (i := 0) (v := x) rfl
  have hc1 := hb.out.cell (i := 1) (v := y) rfl
  simp [results, h, ht, hv, go_sem, hc0, hc1]
theorem results_state {fn : Func} {r : Tmp} (h : fn.results = #[.cell r 40]) {tmps : Array Value} {w : World} {b : Nat} {x y : Value} (ht : tmps.getD r undef = .pointer (some ⟨b, 0, none⟩))
   (hb : Hid (Box w b 40 [x, y])) : (results fn tmps).run Try.prog w = .ok (.agg #[x, y]) w := by
  have ht : tmps[r]?.getD undef = .pointer (some ⟨b, 0, none⟩) := by simpa using ht
  have hc0 := hb.out.cell (i := 0) (v := x) rfl
  have hc1 := hb.out.cell (i := 1) (v := y) rfl
  simp [results, h, ht, go_sem, hc0, hc1]
theorem results_talk {fn : Func} {r : Tmp} (h : fn.results = #[.cell r 43]) {tmps : Array Value} {w : World} {b : Nat} {x y z p : Value} (ht : tmps.getD r undef = .pointer (some ⟨b, 0, none⟩))
   (hb : Hid (Box w b 43 [x, y, z, p])) : (results fn tmps).run Try.prog w = .ok (.agg #[x, y, z, p]) w := by
  have ht : tmps[r]?.getD undef = .pointer (some ⟨b, 0, none⟩) := by simpa using ht
  have hc0 := hb.out.cell (i := 0) (v := x) rfl
  have hc1 := hb.out.cell (i := 1) (v := y) rfl
  have hc2 := hb.out.cell (i := 2) (v := z) rfl
  have hc3 := hb.out.cell (i := 3) (v := p) rfl
  simp [results, h, ht, go_sem, hc0, hc1, hc2, hc3]
theorem results_talkB {fn : Func} {r q : Tmp} (h : fn.results = #[.cell r 43, .tmp q]) {tmps : Array Value} {w : World} {b : Nat} {x y z p v : Value} (ht : tmps.getD r undef = .pointer (some ⟨b, 0, none⟩)) (hv : tmps.getD q undef = v)
   (hb : Hid (Box w b 43 [x, y, z, p])) : (results fn tmps).run Try.prog w = .ok (.tuple #[.agg #[x, y, z, p], v]) w := by
  have ht : tmps[r]?.getD undef = .pointer (some ⟨b, 0, none⟩) := by simpa using ht
  have hv : tmps[q]?.getD undef = v := by simpa using hv
  have hc0 := hb.out.cell (i := 0) (v := x) rfl
  have hc1 := hb.out.cell (i := 1) (v := y) rfl
  have hc2 := hb.out.cell (i := 2) (v := z) rfl
  have hc3 := hb.out.cell (i := 3) (v := p) rfl
  simp [results, h, ht, hv, go_sem, hc0, hc1, hc2, hc3]
end Go.Proofs.Ytobgnbgmpcilgaa

namespace Go.Proofs.Ytobgnbgmpcilgaa
open Go.RowKit

/-- What a text is taken for. -/
def candI (s : ByteArray) : Int × ByteArray :=
  if (bL s).take 5 = tellU then (0, ofL ((bL s).drop 5)) else if (bL s).take 4 = askU then (1, ofL ((bL s).drop 4)) else (2, ofL [])
theorem cand_kind (s : ByteArray) : (candI s).1 = 0 ∨ (candI s).1 = 1 ∨ (candI s).1 = 2 := by
  unfold candI; split
  · exact .inl rfl
  split
  · exact .inr (.inl rfl)
  · exact .inr (.inr rfl)
theorem deed_emp : bL (deedB (2, ofL [])) = backU := rfl
theorem read_cand (s : ByteArray) : readB s = if deedB (candI s) = s then some (candI s) else none := by
  split
  · rename_i h
    refine readB_iff.2 ⟨h, fun he => ?_⟩
    have h2 := congrArg bL h
    unfold candI at h2
    rw [he] at h2
    simp only [List.take_nil] at h2
    rw [if_neg (by decide), if_neg (by decide), deed_emp] at h2
    exact absurd h2 (by decide)
  · rename_i h
    cases hr : readB s with
    | none => rfl
    | some d =>
      exfalso
      obtain ⟨h1, h2⟩ := readB_iff.1 hr
      apply h
      obtain ⟨k, x⟩ := d
      have h1' : deedU ⟨k, bL x⟩ = bL s := by have := congrArg bL h1; unfold deedB at this; rw [bL_of] at this; exact this
      have key : candI s = (k, x) := by
        unfold deedU at h1'
        by_cases h0 : k = 0 ∧ plainU (bL x) = true
        · rw [if_pos h0] at h1'
          unfold candI
          rw [← h1', if_pos (by simp [tellU])]
          simp [tellU, h0.1]
          exact of_bL x
        · rw [if_neg h0] at h1'
          by_cases h3 : k = 1 ∧ plainU (bL x) = true
          · rw [if_pos h3] at h1'
            unfold candI
            rw [← h1', if_neg (by simp [askU, tellU]), if_pos (by simp [askU])]
            simp [askU, h3.1]
            exact of_bL x
          · rw [if_neg h3] at h1'
            by_cases h4 : (⟨k, bL x⟩ : Dd) = ⟨2, []⟩
            · rw [if_pos h4] at h1'
              unfold candI
              rw [← h1', if_neg (by decide), if_neg (by decide)]
              injection h4 with a b
              rw [← b, a]; exact Prod.ext rfl (by exact of_bL x)
            · rw [if_neg h4] at h1'
              exact absurd h1'.symm h2
      rw [key]; exact h1
/-- What ReadDeed hands back. -/
def rdV (s : ByteArray) : Int × ByteArray := (readB s).getD (0, ⟨#[]⟩)
def rdOk (s : ByteArray) : Bool := (readB s).isSome
theorem rd_yes {s : ByteArray} (h : deedB (candI s) = s) : rdV s = candI s ∧ rdOk s = true := by
  unfold rdV rdOk; rw [read_cand, if_pos h]; exact ⟨rfl, rfl⟩
theorem rd_no {s : ByteArray} (h : deedB (candI s) ≠ s) : rdV s = (0, ⟨#[]⟩) ∧ rdOk s = false := by
  unfold rdV rdOk; rw [read_cand, if_neg h]; exact ⟨rfl, rfl⟩
theorem pre_take {l p : List UInt8} : Lib.hasPrefix l p = decide (l.take p.length = p) := by
  unfold Lib.hasPrefix
  rw [Bool.eq_iff_iff, List.isPrefixOf_iff_prefix, decide_eq_true_iff, List.prefix_iff_eq_take]
  exact ⟨fun h => h.symm, fun h => h.symm⟩
def tellB : ByteArray := ⟨#[116, 101, 108, 108, 32]⟩
def askD : ByteArray := ⟨#[97, 115, 107, 32]⟩
theorem iCut_yes {s t : ByteArray} (p : ByteArray) (h : Hid ((bL s).take p.size = bL p ∧ t = ofL ((bL s).drop p.size))) (w : World) :
    Calls Try.prog 44 #[.string s, .string p] w fun e w' => e = .returned (.tuple #[.string t, .bool true]) ∧ w = w' := by
  refine (Try.strings_CutPrefix s p w).mono ?_
  rintro e w' ⟨rfl, rfl⟩
  have hp : Lib.hasPrefix s.data.toList p.data.toList = true := by
    rw [pre_take]
    exact decide_eq_true h.out.1
  rw [h.out.2]
  unfold Lib.trimPrefix
  rw [hp, if_pos rfl]
  exact ⟨rfl, rfl⟩
theorem iCut_no {s : ByteArray} (p : ByteArray) (h : Hid (¬ (bL s).take p.size = bL p)) (w : World) :
    Calls Try.prog 44 #[.string s, .string p] w fun e w' => e = .returned (.tuple #[.string s, .bool false]) ∧ w = w' := by
  refine (Try.strings_CutPrefix s p w).mono ?_
  rintro e w' ⟨rfl, rfl⟩
  have hp : Lib.hasPrefix s.data.toList p.data.toList = false := by
    rw [pre_take]
    exact decide_eq_false h.out
  unfold Lib.trimPrefix
  rw [hp, if_neg (by simp)]
  exact ⟨rfl, rfl⟩
theorem drop_size (s : ByteArray) (n : Nat) : (ofL ((bL s).drop n)).size ≤ s.size := by
  rw [← bL_size, bL_of, List.length_drop, ← bL_size]; omega
theorem cand_size (s : ByteArray) : (candI s).2.size ≤ s.size := by
  unfold candI; split
  · exact drop_size s 5
  split
  · exact drop_size s 4
  · exact Nat.zero_le _
/-- Two variables that a call has just made. -/
theorem two_boxes (w : World) (T : TypeId) (xs ys : List Value) :
    Hid (Box ((w.alloc (.cells xs.toArray T)).alloc (.cells ys.toArray T)) w.heap.size T xs) ∧ Hid (Box ((w.alloc (.cells xs.toArray T)).alloc (.cells ys.toArray T)) (w.heap.size + 1) T ys) ∧
    Hid (Below w.heap.size w ((w.alloc (.cells xs.toArray T)).alloc (.cells ys.toArray T))) := by
  refine ⟨(Box.new w T xs).alloc _, ?_, ((Below.refl _ _).alloc (Nat.le_refl _) _).alloc (by rw [World.size_alloc]; omega) _⟩
  have := Box.new (w.alloc (.cells xs.toArray T)) T ys
  rw [World.size_alloc] at this
  exact this
set_option maxRecDepth 100000 in
set_option maxHeartbeats 4000000 in
theorem iReadDeed (s : ByteArray) (w : World) (hs : s.size ≤ 1048576) :
    Calls Try.prog 15 #[.string s] w fun e w' => e = .returned (.tuple #[.agg #[.int .i64 (rdV s).1, .string (rdV s).2], .bool (rdOk s)]) ∧ Below w.heap.size w w' := by
  have HCS := Lib.hid (cand_size s)
  have HRY := Lib.hid (rd_yes (s := s))
  have HRN := Lib.hid (rd_no (s := s))
  have H5 : Hid ((bL s).take 5 = tellU → (bL s).take tellB.size = bL tellB ∧ ofL ((bL s).drop 5) = ofL ((bL s).drop tellB.size)) := fun h => ⟨h, rfl⟩
  have H5n : Hid (¬ (bL s).take 5 = tellU → ¬ (bL s).take tellB.size = bL tellB) := fun h => h
  have H4 : Hid ((bL s).take 4 = askU → (bL s).take askD.size = bL askD ∧ ofL ((bL s).drop 4) = ofL ((bL s).drop askD.size)) := fun h => ⟨h, rfl⟩
  have H4n : Hid (¬ (bL s).take 4 = askU → ¬ (bL s).take askD.size = bL askD) := fun h => h
  unfold tellB at H5 H5n
  unfold askD at H4 H4n
  by_cases h5 : (bL s).take 5 = tellU
  · have HT := Lib.hid (H5.out h5)
    obtain ⟨t, ht⟩ : ∃ t, ofL ((bL s).drop 5) = t := ⟨_, rfl⟩
    have hc : candI s = (0, t) := by unfold candI; rw [if_pos h5, ht]
    rw [ht] at HT
    rw [hc] at HCS HRY HRN
    clear h5 hc ht H5 H5n H4 H4n
    obtain ⟨HZ, HD, HB⟩ := two_boxes w 24 [.int .i64 0, .string ⟨#[]⟩] [.int .i64 0, .string t]
    go_enter Try.func15, Try.ntmps15
    go_wp2_with fail
    refine (iCut_yes _ HT _).mono ?_
    rintro e w' ⟨rfl, rfl⟩
    go_wp2_with fail
    obtain ⟨W, hW⟩ : ∃ W, (w.alloc (.cells #[.int .i64 0, .string ⟨#[]⟩] 24)).alloc (.cells #[.int .i64 0, .string t] 24) = W := ⟨_, rfl⟩
    rw [hW]
    simp only [hW] at HZ HD HB
    clear hW
    refine (iDeedText 0 t _ (Nat.le_trans HCS.out hs)).mono ?_
    rintro e w1 ⟨rfl, hb⟩
    replace HZ := Lib.hid (HZ.out.below hb)
    replace HD := Lib.hid (HD.out.below hb)
    replace HB := Lib.hid (bel_trans HB.out hb)
    clear hb
    by_cases he : deedB (0, t) = s
    · have H12 := Lib.hid (HRY.out he)
      rw [he]
      have hne : (s.toList != s.toList) = false := by unfold bne; rw [str_eq]; rfl
      have hc0 := HD.out.cell (i := 0) (v := .int .i64 0) rfl
      have hc1 := HD.out.cell (i := 1) (v := .string t) rfl
      obtain ⟨⟨hz0, hz1, hz2, hz3⟩, ⟨hz4, hz5⟩, HZ2⟩ := HZ.out.store2 (.int .i64 0) (.string t)
      clear he
      go_wp2_with fail
      refine bodyPost_ret_by (results_deedB (b := w.heap.size) (v := .bool true) rfl rfl rfl HZ2) rfl ⟨by rw [H12.out.1, H12.out.2], bel_set2 HB.out (Nat.le_refl _) _ _⟩
    · have H12 := Lib.hid (HRN.out he)
      have hne : ((deedB (0, t)).toList == s.toList) = false := str_ne he
      obtain ⟨⟨hz0, hz1, hz2, hz3⟩, ⟨hz4, hz5⟩, HZ2⟩ := HZ.out.store2 (.int .i64 0) (.string ⟨#[]⟩)
      clear he
      go_wp2_with fail
      refine bodyPost_ret_by (results_deedB (b := w.heap.size) (v := .bool false) rfl rfl rfl HZ2) rfl ⟨by rw [H12.out.1, H12.out.2], bel_set2 HB.out (Nat.le_refl _) _ _⟩
  · have HTN := Lib.hid (H5n.out h5)
    by_cases h4 : (bL s).take 4 = askU
    · have HT := Lib.hid (H4.out h4)
      obtain ⟨t, ht⟩ : ∃ t, ofL ((bL s).drop 4) = t := ⟨_, rfl⟩
      have hc : candI s = (1, t) := by unfold candI; rw [if_neg h5, if_pos h4, ht]
      rw [ht] at HT
      rw [hc] at HCS HRY HRN
      clear h5 h4 hc ht H5 H5n H4 H4n
      obtain ⟨HZ, HD, HB⟩ := two_boxes w 24 [.int .i64 0, .string ⟨#[]⟩] [.int .i64 1, .string t]
      go_enter Try.func15, Try.ntmps15
      go_wp2_with fail
      refine (iCut_no _ HTN _).mono ?_
      rintro e w' ⟨rfl, rfl⟩
      go_wp2_with fail
      refine (iCut_yes _ HT _).mono ?_
      rintro e w' ⟨rfl, rfl⟩
      go_wp2_with fail
      obtain ⟨W, hW⟩ : ∃ W, (w.alloc (.cells #[.int .i64 0, .string ⟨#[]⟩] 24)).alloc (.cells #[.int .i64 1, .string t] 24) = W := ⟨_, rfl⟩
      rw [hW]
      simp only [hW] at HZ HD HB
      clear hW
      refine (iDeedText 1 t _ (Nat.le_trans HCS.out hs)).mono ?_
      rintro e w1 ⟨rfl, hb⟩
      replace HZ := Lib.hid (HZ.out.below hb)
      replace HD := Lib.hid (HD.out.below hb)
      replace HB := Lib.hid (bel_trans HB.out hb)
      clear hb
      by_cases he : deedB (1, t) = s
      · have H12 := Lib.hid (HRY.out he)
        rw [he]
        have hne : (s.toList != s.toList) = false := by unfold bne; rw [str_eq]; rfl
        have hc0 := HD.out.cell (i := 0) (v := .int .i64 1) rfl
        have hc1 := HD.out.cell (i := 1) (v := .string t) rfl
        obtain ⟨⟨hz0, hz1, hz2, hz3⟩, ⟨hz4, hz5⟩, HZ2⟩ := HZ.out.store2 (.int .i64 1) (.string t)
        clear he
        go_wp2_with fail
        refine bodyPost_ret_by (results_deedB (b := w.heap.size) (v := .bool true) rfl rfl rfl HZ2) rfl ⟨by rw [H12.out.1, H12.out.2], bel_set2 HB.out (Nat.le_refl _) _ _⟩
      · have H12 := Lib.hid (HRN.out he)
        have hne : ((deedB (1, t)).toList == s.toList) = false := str_ne he
        obtain ⟨⟨hz0, hz1, hz2, hz3⟩, ⟨hz4, hz5⟩, HZ2⟩ := HZ.out.store2 (.int .i64 0) (.string ⟨#[]⟩)
        clear he
        go_wp2_with fail
        refine bodyPost_ret_by (results_deedB (b := w.heap.size) (v := .bool false) rfl rfl rfl HZ2) rfl ⟨by rw [H12.out.1, H12.out.2], bel_set2 HB.out (Nat.le_refl _) _ _⟩
    · have HTM := Lib.hid (H4n.out h4)
      have hc : candI s = (2, ⟨#[]⟩) := by unfold candI; rw [if_neg h5, if_neg h4]; rfl
      rw [hc] at HCS HRY HRN
      clear h5 h4 hc H5 H5n H4 H4n
      obtain ⟨HZ, HD, HB⟩ := two_boxes w 24 [.int .i64 0, .string ⟨#[]⟩] [.int .i64 2, .string ⟨#[]⟩]
      go_enter Try.func15, Try.ntmps15
      go_wp2_with fail
      refine (iCut_no _ HTN _).mono ?_
      rintro e w' ⟨rfl, rfl⟩
      go_wp2_with fail
      refine (iCut_no _ HTM _).mono ?_
      rintro e w' ⟨rfl, rfl⟩
      go_wp2_with fail
      obtain ⟨W, hW⟩ : ∃ W, (w.alloc (.cells #[.int .i64 0, .string ⟨#[]⟩] 24)).alloc (.cells #[.int .i64 2, .string ⟨#[]⟩] 24) = W := ⟨_, rfl⟩
      rw [hW]
      simp only [hW] at HZ HD HB
      clear hW
      refine (iDeedText 2 ⟨#[]⟩ _ (Nat.zero_le _)).mono ?_
      rintro e w1 ⟨rfl, hb⟩
      replace HZ := Lib.hid (HZ.out.below hb)
      replace HD := Lib.hid (HD.out.below hb)
      replace HB := Lib.hid (bel_trans HB.out hb)
      clear hb
      by_cases he : deedB (2, ⟨#[]⟩) = s
      · have H12 := Lib.hid (HRY.out he)
        rw [he]
        have hne : (s.toList != s.toList) = false := by unfold bne; rw [str_eq]; rfl
        have hc0 := HD.out.cell (i := 0) (v := .int .i64 2) rfl
        have hc1 := HD.out.cell (i := 1) (v := .string ⟨#[]⟩) rfl
        obtain ⟨⟨hz0, hz1, hz2, hz3⟩, ⟨hz4, hz5⟩, HZ2⟩ := HZ.out.store2 (.int .i64 2) (.string ⟨#[]⟩)
        clear he
        go_wp2_with fail
        refine bodyPost_ret_by (results_deedB (b := w.heap.size) (v := .bool true) rfl rfl rfl HZ2) rfl ⟨by rw [H12.out.1, H12.out.2], bel_set2 HB.out (Nat.le_refl _) _ _⟩
      · have H12 := Lib.hid (HRN.out he)
        have hne : ((deedB (2, ⟨#[]⟩)).toList == s.toList) = false := str_ne he
        obtain ⟨⟨hz0, hz1, hz2, hz3⟩, ⟨hz4, hz5⟩, HZ2⟩ := HZ.out.store2 (.int .i64 0) (.string ⟨#[]⟩)
        clear he
        go_wp2_with fail
        refine bodyPost_ret_by (results_deedB (b := w.heap.size) (v := .bool false) rfl rfl rfl HZ2) rfl ⟨by rw [H12.out.1, H12.out.2], bel_set2 HB.out (Nat.le_refl _) _ _⟩
end Go.Proofs.Ytobgnbgmpcilgaa
