/-
  What the proofs of this seat's statements share (DdW).
-/
import Derived.Test.YtobgnbgmpcilgaaU30
import Derived.Test.YtobgnbgmpcilgaaU20
import Derived.Test.YtobgnbgmpcilgaaU19
import Derived.Test.YtobgnbgmpcilgaaU3

namespace Go.Proofs.Ytobgnbgmpcilgaa
open Go.RowKit

set_option maxRecDepth 100000 in
set_option maxHeartbeats 4000000 in
theorem wDeedText (A : Option Addr) (nn c : Nat) (zs : List Int) (w : World) (hn : nn = zs.length) (hc : nn ≤ c) (hm : c ≤ maxLen) (hr : ∀ z ∈ zs, 0 ≤ z ∧ z ≤ 255) (hA : Nums .u8 w A zs) :
    Calls Try.prog 3 #[.slice A nn c] w fun e w' => e = .returned (.bool true) ∧ Below w.heap.size w w' := by
  have HO := Lib.hid (drawDeedText_any A nn c zs w hn hc hm hr hA)
  have hm' : nn ≤ 9223372036854775807 := by unfold maxLen at hm; omega
  clear hn hc hm hr hA
  by_cases hl : 1048576 < nn
  · have hd : decide ((1048576 : Int) < (nn : Int)) = true := decide_eq_true (by omega)
    go_enter Try.func3, Try.ntmps3
    go_wp2_with fail
    go_ret
    exact ⟨rfl, Below.refl _ _⟩
  have hd : decide ((1048576 : Int) < (nn : Int)) = false := decide_eq_false (by omega)
  clear hl
  go_enter Try.func3, Try.ntmps3
  go_wp2_with fail
  refine HO.out.mono ?_
  rintro e w1 ⟨k, s, rfl, hs, hb⟩
  have HX1 : Hid (Box (w1.alloc (.cells #[.int .i64 k, .string s] 24)) w1.heap.size 24 [.int .i64 k, .string s]) := Box.new w1 _ _
  have HB1 := Lib.hid (hb.alloc hb.size (.cells #[.int .i64 k, .string s] 24))
  have hs2 : s.size ≤ 1048576 := by omega
  clear hb HO
  go_wp2_with fail
  refine (iDeedText k s _ hs2).mono ?_
  rintro e w2 ⟨rfl, hb⟩
  have HX2 := Lib.hid (HX1.out.below hb)
  have HB2 := Lib.hid (bel_trans HB1.out hb)
  have hc0 := HX2.out.cell (i := 0) (v := .int .i64 k) rfl
  have hc1 := HX2.out.cell (i := 1) (v := .string s) rfl
  clear hb HX1 HB1
  go_wp2_with fail
  refine (sDeedText k s _ hs2).mono ?_
  rintro e w3 ⟨rfl, hb⟩
  have HX3 := Lib.hid (HX2.out.below hb)
  have HB3 := Lib.hid (bel_trans HB2.out hb)
  have HD := Lib.hid (deed_size (k, s))
  obtain ⟨x, hx⟩ : ∃ x, deedB (k, s) = x := ⟨_, rfl⟩
  have HT := Lib.hid (tries_hit (s := x) (d := (k, s)))
  have HE := Lib.hid hx
  rw [hx] at HD ⊢
  have hxs : x.size ≤ 1048576 := Nat.le_trans HD.out (by show s.size + 5 ≤ _; omega)
  have hne := str_eq x
  clear hb hc0 hc1 HX2 HB2 hx HD
  by_cases he : x = ⟨#[]⟩
  · subst he
    go_wp2_with (go_at_call 14; refine (lAlive _).mono ?_; rintro e w' ⟨rfl, rfl⟩)
    go_ret
    exact ⟨rfl, HB3.out⟩
  · obtain ⟨hn1, hn2, hn3, hn4, hn5⟩ := text_full he
    obtain ⟨hv, hok⟩ := HT.out he HE.out
    clear he HT HE
    go_wp2_with fail
    refine (iReadDeed x _ hxs).mono ?_
    rintro e w4 ⟨rfl, hb⟩
    rw [hv, hok]
    have HX4 := Lib.hid ((HX3.out.below hb).alloc (.cells #[.int .i64 k, .string s] 24))
    have HB4 := Lib.hid ((bel_trans HB3.out hb).alloc (bel_trans HB3.out hb).size (.cells #[.int .i64 k, .string s] 24))
    have hc0 := HX4.out.cell (i := 0) (v := .int .i64 k) rfl
    have hc1 := HX4.out.cell (i := 1) (v := .string s) rfl
    have hd := str_eq s
    have hd2 : (k == k) = true := by simp
    clear hb hv hok
    go_wp2_with fail
    go_ret
    exact ⟨rfl, HB4.out⟩
theorem rd_ok {s : ByteArray} (h : rdOk s = true) : deedB (rdV s) = s ∧ (rdV s).2.size ≤ s.size := by
  by_cases hc : deedB (candI s) = s
  · rw [(rd_yes hc).1]
    exact ⟨hc, cand_size s⟩
  · rw [(rd_no hc).2] at h; cases h
theorem rd_bad {s : ByteArray} (h : rdOk s = false) : rdV s = (0, ⟨#[]⟩) := by
  by_cases hc : deedB (candI s) = s
  · rw [(rd_yes hc).2] at h; cases h
  · exact (rd_no hc).1
theorem rd_nl (s : ByteArray) : rdOk (s ++ ⟨#[10]⟩) = false := by
  unfold rdOk readB
  rw [bL_append, show bL ⟨#[10]⟩ = [10] from rfl, read_nl]; rfl
set_option maxRecDepth 100000 in
set_option maxHeartbeats 4000000 in
theorem wReadDeed (A : Option Addr) (nn c : Nat) (zs : List Int) (w : World) (hn : nn = zs.length) (hc : nn ≤ c) (hm : c ≤ maxLen) (hr : ∀ z ∈ zs, 0 ≤ z ∧ z ≤ 255) (hA : Nums .u8 w A zs) :
    Calls Try.prog 4 #[.slice A nn c] w fun e w' => e = .returned (.bool true) ∧ Below w.heap.size w w' := by
  have HO := Lib.hid (drawReadDeed_any A nn c zs w hn hc hm hr hA)
  have hm' : nn ≤ 9223372036854775807 := by unfold maxLen at hm; omega
  clear hn hc hm hr hA
  by_cases hl : 1048576 < nn
  · have hd : decide ((1048576 : Int) < (nn : Int)) = true := decide_eq_true (by omega)
    go_enter Try.func4, Try.ntmps4
    go_wp2_with fail
    go_ret
    exact ⟨rfl, Below.refl _ _⟩
  have hd : decide ((1048576 : Int) < (nn : Int)) = false := decide_eq_false (by omega)
  clear hl
  go_enter Try.func4, Try.ntmps4
  go_wp2_with fail
  refine HO.out.mono ?_
  rintro e w1 ⟨s, rfl, hs, hb⟩
  have HB1 := Lib.hid hb
  have hs2 : s.size ≤ 1048576 := by omega
  have HY := Lib.hid (rd_ok (s := s))
  have HN := Lib.hid (rd_bad (s := s))
  have HNL := Lib.hid (rd_nl s)
  have HI : Hid (∀ W : World, Calls Try.prog 15 #[.string s] W fun e w' => e = .returned (.tuple #[.agg #[.int .i64 (rdV s).1, .string (rdV s).2], .bool (rdOk s)]) ∧ Below W.heap.size W w') := fun W => iReadDeed s W hs2
  have HS : Hid (∀ W : World, Calls Try.prog 17 #[.string s] W fun e w' => e = .returned (.tuple #[.agg #[.int .i64 (rdV s).1, .string (rdV s).2], .bool (rdOk s)]) ∧ Below W.heap.size W w') := fun W => sReadDeed s W hs2
  generalize rdV s = D at HY HN HI HS
  generalize rdOk s = b at HY HN HI HS
  obtain ⟨f, x⟩ := D
  have HI : Hid (∀ W : World, Calls Try.prog 15 #[.string s] W fun e w' => e = .returned (.tuple #[.agg #[.int .i64 f, .string x], .bool b]) ∧ Below W.heap.size W w') := HI
  have HS : Hid (∀ W : World, Calls Try.prog 17 #[.string s] W fun e w' => e = .returned (.tuple #[.agg #[.int .i64 f, .string x], .bool b]) ∧ Below W.heap.size W w') := HS
  have hd := str_eq x
  have hd2 : (f == f) = true := by simp
  clear hb HO
  cases b
  · have hD := HN.out rfl
    injection hD with h1 h2
    subst h1 h2
    go_wp2_with fail
    refine (HI.out _).mono ?_
    rintro e w2 ⟨rfl, hb⟩
    have HX2 : Hid (Box (w2.alloc (.cells #[.int .i64 0, .string ⟨#[]⟩] 24)) w2.heap.size 24 [.int .i64 0, .string ⟨#[]⟩]) := Box.new w2 _ _
    have HB2 := Lib.hid ((bel_trans HB1.out hb).alloc (bel_trans HB1.out hb).size (.cells #[.int .i64 0, .string ⟨#[]⟩] 24))
    clear hb
    go_wp2_with fail
    refine (HS.out _).mono ?_
    rintro e w3 ⟨rfl, hb⟩
    have HX3 := Lib.hid ((HX2.out.below hb).alloc (.cells #[.int .i64 0, .string ⟨#[]⟩] 24))
    have HB3 := Lib.hid ((bel_trans HB2.out hb).alloc (bel_trans HB2.out hb).size (.cells #[.int .i64 0, .string ⟨#[]⟩] 24))
    have hc0 := HX3.out.cell (i := 0) (v := .int .i64 0) rfl
    have hc1 := HX3.out.cell (i := 1) (v := .string ⟨#[]⟩) rfl
    clear hb
    go_wp2_with (go_at_call 14; refine (lAlive _).mono ?_; rintro e w' ⟨rfl, rfl⟩)
    go_ret
    exact ⟨rfl, HB3.out⟩
  · obtain ⟨hD, hx⟩ := HY.out rfl
    have hx2 : x.size ≤ 1048576 := Nat.le_trans hx hs2
    have HD := Lib.hid hD
    have hss := str_eq s
    have hsz : (s ++ ⟨#[10]⟩ : ByteArray).size ≤ 1048576 := by rw [ByteArray.size_append]; show s.size + 1 ≤ _; omega
    have hz : (9223372036854775807 < s.size + 1) = False := by simp; omega
    clear hD hx
    go_wp2_with fail
    refine (HI.out _).mono ?_
    rintro e w2 ⟨rfl, hb⟩
    have HX2 : Hid (Box (w2.alloc (.cells #[.int .i64 f, .string x] 24)) w2.heap.size 24 [.int .i64 f, .string x]) := Box.new w2 _ _
    have HB2 := Lib.hid ((bel_trans HB1.out hb).alloc (bel_trans HB1.out hb).size (.cells #[.int .i64 f, .string x] 24))
    clear hb
    go_wp2_with fail
    refine (HS.out _).mono ?_
    rintro e w3 ⟨rfl, hb⟩
    have HX3 := Lib.hid ((HX2.out.below hb).alloc (.cells #[.int .i64 f, .string x] 24))
    have HB3 := Lib.hid ((bel_trans HB2.out hb).alloc (bel_trans HB2.out hb).size (.cells #[.int .i64 f, .string x] 24))
    have hc0 := HX3.out.cell (i := 0) (v := .int .i64 f) rfl
    have hc1 := HX3.out.cell (i := 1) (v := .string x) rfl
    clear hb
    go_wp2_with fail
    obtain ⟨t, ht⟩ : ∃ t, (s ++ ⟨#[10]⟩ : ByteArray) = t := ⟨_, rfl⟩
    rw [ht] at hsz HNL ⊢
    clear ht hz
    refine (iReadDeed t _ hsz).mono ?_
    rintro e w4 ⟨rfl, hb⟩
    rw [HNL.out]
    generalize rdV t = Y
    have HX4 := Lib.hid ((HX3.out.below hb).alloc (.cells #[.int .i64 Y.1, .string Y.2] 24))
    have HB4 := Lib.hid ((bel_trans HB3.out hb).alloc (bel_trans HB3.out hb).size (.cells #[.int .i64 Y.1, .string Y.2] 24))
    have hc0 := HX4.out.cell (i := 0) (v := .int .i64 f) rfl
    have hc1 := HX4.out.cell (i := 1) (v := .string x) rfl
    clear hb
    go_wp2_with fail
    refine (iDeedText f x _ hx2).mono ?_
    rintro e w5 ⟨rfl, hb⟩
    rw [HD.out]
    have HB5 := Lib.hid (bel_trans HB4.out hb)
    clear hb hc0 hc1
    go_wp2_with fail
    go_ret
    exact ⟨rfl, HB5.out⟩
theorem jour_size {ds : List DeedV} (hs : ∀ d ∈ ds, d.2.size ≤ 100) (hl : ds.length ≤ 40) : (jourB ds).size ≤ 4300 := by
  have key : ∀ es : List DeedV, (∀ d ∈ es, d.2.size ≤ 100) → (linesB es).length ≤ es.length * 106 := fun es => by
    induction es with
    | nil => intro _; exact Nat.zero_le _
    | cons d es ih =>
      intro h
      have h1 := ih fun x hx => h x (List.mem_cons_of_mem _ hx)
      have h2 := h d List.mem_cons_self
      have h3 := deed_size d
      have h4 : linesB (d :: es) = (bL (deedB d) ++ [10]) ++ linesB es := by
        unfold linesB linesU
        rw [List.map_cons, List.flatMap_cons]; rfl
      have h5 : [(10 : UInt8)].length = 1 := rfl
      have h6 : (d :: es).length = es.length + 1 := rfl
      rw [h4, List.length_append, List.length_append, bL_size, h5, h6]
      omega
  have h1 := key ds hs
  unfold jourB journalU
  split
  · exact Nat.le_trans (by decide : (ofL []).size ≤ 0) (Nat.zero_le _)
  · rw [← bL_size, bL_of]
    show (linesB ds).length ≤ _
    omega
theorem jour_rj {ds : List DeedV} (h : jourB ds ≠ ⟨#[]⟩) : rjV (jourB ds) = (ds, (jourB ds).size) := by
  have h2 : journalU (ds.map ddU) ≠ [] := fun e => h (by unfold jourB; rw [e]; rfl)
  have h3 := journal_read h2
  have h4 : bL (jourB ds) = journalU (ds.map ddU) := by unfold jourB; rw [bL_of]
  unfold rjV
  rw [h4, h3]
  simp only
  rw [dd_v, ← h4, bL_size]
set_option maxRecDepth 100000 in
set_option maxHeartbeats 4000000 in
theorem wJournalText (A : Option Addr) (nn c : Nat) (zs : List Int) (w : World) (hn : nn = zs.length) (hc : nn ≤ c) (hm : c ≤ maxLen) (hr : ∀ z ∈ zs, 0 ≤ z ∧ z ≤ 255) (hA : Nums .u8 w A zs) :
    Calls Try.prog 5 #[.slice A nn c] w fun e w' => e = .returned (.bool true) ∧ Below w.heap.size w w' := by
  have HO := Lib.hid (drawJournalText_any A nn c zs w hn hc hm hr hA)
  have hm' : nn ≤ 9223372036854775807 := by unfold maxLen at hm; omega
  clear hn hc hm hr hA
  by_cases hl : 1048576 < nn
  · have hd : decide ((1048576 : Int) < (nn : Int)) = true := decide_eq_true (by omega)
    go_enter Try.func5, Try.ntmps5
    go_wp2_with fail
    go_ret
    exact ⟨rfl, Below.refl _ _⟩
  have hd : decide ((1048576 : Int) < (nn : Int)) = false := decide_eq_false (by omega)
  clear hl
  go_enter Try.func5, Try.ntmps5
  go_wp2_with fail
  refine HO.out.mono ?_
  rintro e w1 ⟨v, ds, rfl, ho, hlen, hds, hb⟩
  obtain ⟨A1, c1, rfl, _⟩ := ho.form
  have HR1 := Lib.hid (OwnsD.row ho (by omega))
  have HB1 := Lib.hid hb
  have HJS := Lib.hid (jour_size hds (by omega))
  have HRJ := Lib.hid (jour_rj (ds := ds))
  obtain ⟨n1, hn1⟩ : ∃ n1, ds.length = n1 := ⟨_, rfl⟩
  rw [hn1] at HR1 ⊢
  have HI : Hid (∀ W : World, DRow W A1 n1 c1 ds → Calls Try.prog 19 #[.slice A1 n1 c1] W fun e w' => e = .returned (.string (jourB ds)) ∧ Below W.heap.size W w') := fun W h => iJournalText A1 n1 c1 ds W h (fun d hd => Nat.le_trans (hds d hd) (by omega))
  have HS : Hid (∀ W : World, DRow W A1 n1 c1 ds → Calls Try.prog 20 #[.slice A1 n1 c1] W fun e w' => e = .returned (.string (jourB ds)) ∧ Below W.heap.size W w') := fun W h => sJournalText A1 n1 c1 ds W h (fun d hd => Nat.le_trans (hds d hd) (by omega))
  generalize jourB ds = x at HI HS HJS HRJ
  have hne := str_eq x
  have hxs : x.size ≤ 1048576 := by have := HJS.out; omega
  have HN1 := Lib.hid hn1
  clear ho hb hds hlen HO hn1
  go_wp2_with fail
  refine (HI.out _ HR1.out).mono ?_
  rintro e w2 ⟨rfl, hb⟩
  have HR2 := Lib.hid (HR1.out.below hb)
  have HB2 := Lib.hid (bel_trans HB1.out hb)
  clear hb
  go_wp2_with fail
  refine (HS.out _ HR2.out).mono ?_
  rintro e w3 ⟨rfl, hb⟩
  have HR3 := Lib.hid (HR2.out.below hb)
  have HB3 := Lib.hid (bel_trans HB2.out hb)
  clear hb
  by_cases he : x = ⟨#[]⟩
  · subst he
    go_wp2_with (go_at_call 14; refine (lAlive _).mono ?_; rintro e w' ⟨rfl, rfl⟩)
    go_ret
    exact ⟨rfl, HB3.out⟩
  · obtain ⟨hn1, hn2, hn3, hn4, hn5⟩ := text_full he
    have hrj := HRJ.out he
    clear he HRJ
    go_wp2_with fail
    refine (iReadJournal x _ hxs).mono ?_
    rintro e w4 ⟨v, rfl, ho, hb⟩
    rw [hrj] at ho ⊢
    have ho : OwnsD w4 w3.heap.size v ds := ho
    obtain ⟨A4, c4, rfl, _⟩ := ho.form
    have HR5 := Lib.hid (OwnsD.row ho (by rw [HN1.out]; exact HR3.out.hl))
    rw [HN1.out] at HR5 ⊢
    have HR4 := Lib.hid (HR3.out.below hb)
    have HB4 := Lib.hid (bel_trans HB3.out hb)
    have hd : ((x.size : Int) == (x.size : Int)) = true := by simp
    clear ho hb hrj
    go_wp2_with fail
    refine (lSameDeeds A4 A1 n1 n1 c4 c1 ds _ HR5.out HR4.out).mono ?_
    rintro e w5 ⟨rfl, q, rfl⟩
    have HB5 := Lib.hid (bel_drewN HB4.out q)
    go_wp2_with fail
    go_ret
    exact ⟨rfl, HB5.out⟩
end Go.Proofs.Ytobgnbgmpcilgaa
