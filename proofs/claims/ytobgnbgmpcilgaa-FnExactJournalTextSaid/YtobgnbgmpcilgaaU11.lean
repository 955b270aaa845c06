/-
  What the proofs of this seat's statements share (JnT, JnR, JnQ, MrkT).
-/
import Derived.Lib.IndexLaws
import Derived.Deep.QuietTactic
import Derived.Laws.BytesArg
import Derived.RangeFuncBox
import Derived.Test.YtobgnbgmpcilgaaU9
import Derived.Test.YtobgnbgmpcilgaaU10
import Derived.Test.YtobgnbgmpcilgaaU8

namespace Go.Proofs.Ytobgnbgmpcilgaa
open Go.RowKit

def ddU (d : DeedV) : Dd := ⟨d.1, bL d.2⟩
theorem deedB_of (d : DeedV) : bL (deedB d) = deedU (ddU d) := rfl
def linesB (ds : List DeedV) : List UInt8 := linesU (ds.map ddU)
def jourB (ds : List DeedV) : ByteArray := ofL (journalU (ds.map ddU))
theorem linesB_nil : linesB [] = [] := rfl
theorem linesB_snoc {ds : List DeedV} {k : Nat} {d : DeedV} (h : Hid (ds[k]? = some d)) : linesB (ds.take (k + 1)) = linesB (ds.take k) ++ (bL (deedB d) ++ [10]) := by
  unfold linesB
  rw [takeD_snoc h, List.map_append, List.map_cons, List.map_nil, lines_snoc]; rfl
theorem jour_none {ds : List DeedV} {d : DeedV} (h : d ∈ ds) (he : deedB d = ⟨#[]⟩) : jourB ds = ⟨#[]⟩ := by
  unfold jourB journalU
  rw [if_pos]
  · rfl
  · refine List.any_eq_true.2 ⟨ddU d, List.mem_map_of_mem h, ?_⟩
    rw [← deedB_of, he]; rfl
/-- The deeds so far have texts. -/
def TextsTo (ds : List DeedV) (k : Nat) : Prop := ∀ j d, j < k → ds[j]? = some d → deedB d ≠ ⟨#[]⟩
theorem TextsTo.next {ds : List DeedV} {k : Nat} {d : DeedV} (h : TextsTo ds k) (hx : Hid (ds[k]? = some d)) (hd : deedB d ≠ ⟨#[]⟩) : TextsTo ds (k + 1) := by
  intro j x hj hx2
  by_cases e : j = k
  · subst e
    rw [hx.out] at hx2; cases hx2; exact hd
  · exact h j x (by omega) hx2
theorem jour_end {ds : List DeedV} (h : TextsTo ds ds.length) : jourB ds = ofL (linesB ds) := by
  unfold jourB linesB
  rw [journal_lines]
  intro d hd he
  obtain ⟨x, hx, rfl⟩ := List.mem_map.1 hd
  obtain ⟨j, hj⟩ := List.mem_iff_getElem?.1 hx
  exact h j x (List.getElem?_eq_some_iff.1 hj).1 hj (bL_inj (by rw [deedB_of]; exact he))
theorem deed_size (d : DeedV) : (deedB d).size ≤ d.2.size + 5 := by
  rw [← bL_size]
  unfold deedB
  rw [bL_of]
  unfold deedU
  split
  · rw [List.length_append]; show 5 + (bL d.2).length ≤ _; rw [bL_size]; omega
  split
  · rw [List.length_append]; show 4 + (bL d.2).length ≤ _; rw [bL_size]; omega
  split
  · show 4 ≤ _; omega
  · exact Nat.zero_le _
theorem lines_size {ds : List DeedV} (hs : ∀ d ∈ ds, d.2.size ≤ 1048576) : ∀ k, k ≤ ds.length → (linesB (ds.take k)).length ≤ k * 1048582
  | 0, _ => by rw [List.take_zero]; exact Nat.zero_le _
  | k + 1, h => by
    have ih := lines_size hs k (by omega)
    have hx : Hid (ds[k]? = some ds[k]) := List.getElem?_eq_getElem (by omega)
    rw [linesB_snoc hx, List.length_append, List.length_append, bL_size]
    have := deed_size ds[k]
    have := hs ds[k] (List.getElem_mem _)
    show _ + (_ + 1) ≤ _
    omega
theorem append_bL (l : List UInt8) (s u : ByteArray) : l ++ (s ++ u).data.toList = l ++ (bL s ++ bL u) := by
  show l ++ bL (s ++ u) = _
  rw [bL_append]

set_option maxRecDepth 100000 in
set_option maxHeartbeats 4000000 in
theorem iJournalText (A : Option Addr) (n c : Nat) (ds : List DeedV) (w : World) (ha : DRow w A n c ds) (hs : ∀ d ∈ ds, d.2.size ≤ 1048576) :
    Calls Try.prog 19 #[.slice A n c] w fun e w' => e = .returned (.string (jourB ds)) ∧ Below w.heap.size w w' := by
  have HA := Lib.hid ha
  obtain rfl := ha.hn
  have hl := ha.hl
  have HS := Lib.hid hs
  have HSZ := Lib.hid (lines_size hs)
  have HNO : Hid (∀ d ∈ ds, deedB d = ⟨#[]⟩ → jourB ds = ⟨#[]⟩) := fun d hd he => jour_none hd he
  have HEND := Lib.hid (jour_end (ds := ds))
  obtain ⟨J, HJ⟩ : ∃ J, Hid (jourB ds = J) := ⟨_, rfl⟩
  rw [HJ.out] at HNO HEND ⊢
  have HBD : Hid (Bld w.heap.size w.heap.size [] (w.alloc (.cells #[.pointer none, .slice none 0 0] 71))) := Bld.new w
  clear ha hs
  go_enter Try.func19, Try.ntmps19
  go_wp2_with fail
  go_loopw [9] (fun i wr => ∃ k : Nat, k ≤ ds.length ∧ i = .int .i64 k ∧ Hid (TextsTo ds k) ∧ Hid (Bld w.heap.size w.heap.size (linesB (ds.take k)) wr) ∧ Hid (Below w.heap.size w wr)) (fun i _ => ds.length - (Go.RowKit.intOf i).toNat)
  case atStart => exact ⟨0, Nat.zero_le _, rfl, (fun j d h => by omega), HBD, (Below.refl _ _).alloc (Nat.le_refl _) _⟩
  case round =>
    obtain ⟨k, hk, rfl, hT, hBl, hB⟩ := hrel
    by_cases hlt : k < ds.length
    · obtain ⟨b, off, f, g, rfl, hc0, hc1, hx, hbl⟩ := (HA.out.hA.below hB.out).elem hlt
      have hgs : g.size ≤ 1048576 := HS.out (f, g) (elem_memD hx)
      have hds := deed_size (f, g)
      have HD : Hid (∀ W : World, Calls Try.prog 12 #[.agg #[.int .i64 f, .string g]] W fun e w' => e = .returned (.string (deedB (f, g))) ∧ Below W.heap.size W w') := fun W => iDeedText f g W hgs
      have HNX : Hid (deedB (f, g) ≠ ⟨#[]⟩ → TextsTo ds (k + 1)) := fun h => hT.out.next hx h
      have HL := Lib.hid (linesB_snoc hx)
      have HNK := Lib.hid (HNO.out (f, g) (elem_memD hx))
      obtain ⟨x, hxe⟩ : ∃ x, deedB (f, g) = x := ⟨_, rfl⟩
      rw [hxe] at HD HNX HL HNK hds
      clear hxe
      have hxz : x.size ≤ 1048581 := Nat.le_trans hds (by show g.size + 5 ≤ _; omega)
      clear hds
      by_cases he : x = ⟨#[]⟩
      · have HJE := Lib.hid (HNK.out he)
        subst he
        go_wp2_with (go_at_call 12; refine (HD.out _).mono ?_; rintro e w2 ⟨rfl, hb⟩; have hB2 := Lib.hid (bel_trans (hB.out.alloc hB.out.size _) hb); clear hb hc0 hc1)
        go_ret
        exact ⟨by rw [HJE.out] <;> rfl, hB2.out⟩
      · have HN2 := Lib.hid (HNX.out he)
        obtain ⟨hn1, hn2, hn3, hn4, hn5⟩ := text_full he
        have hz : (9223372036854775807 < x.size + 1) = False := by simp; omega
        have HSK := Lib.hid (HSZ.out k hk)
        clear he
        go_wp2_with (first
          | (go_at_call 12; refine (HD.out _).mono ?_; rintro e w2 ⟨rfl, hb⟩; have hB2 := Lib.hid (bel_trans (hB.out.alloc hB.out.size _) hb); have hBl2 := Lib.hid ((hBl.out.below ((Below.refl _ _).alloc (Nat.le_refl _) _)).below hb); clear hb hc0 hc1)
          | (go_at_call 49; refine (iWrite _ hBl2.out (by have := HSK.out; have : (x ++ ⟨#[10]⟩ : ByteArray).size = x.size + 1 := ByteArray.size_append; omega) hB2.out.size).mono ?_; rintro e w3 ⟨rfl, hBl3, hb⟩; have hB3 := Lib.hid (hB2.out.trans hb); have HB3 := Lib.hid hBl3; clear hb hBl3))
        go_roundw
        case rel => exact ⟨k + 1, by omega, by go_num, HN2, (by unfold Hid; rw [HL.out]; have := HB3.out; rw [append_bL] at this; exact this), hB3⟩
        case measure => simp [Go.RowKit.intOf]; omega
    · obtain rfl : k = ds.length := by omega
      have HJE := Lib.hid (HEND.out hT.out)
      have HBE := Lib.hid hBl.out
      rw [List.take_length] at HBE
      go_wp2_with (go_at_call 50; refine (iString HBE.out hB.out.size).mono ?_; rintro e w2 ⟨rfl, hb⟩; have hB2 := Lib.hid (hB.out.trans hb); clear hb)
      go_ret
      exact ⟨by rw [HJE.out] <;> rfl, hB2.out⟩

set_option maxRecDepth 100000 in
set_option maxHeartbeats 4000000 in
theorem sJournalText (A : Option Addr) (n c : Nat) (ds : List DeedV) (w : World) (ha : DRow w A n c ds) (hs : ∀ d ∈ ds, d.2.size ≤ 1048576) :
    Calls Try.prog 20 #[.slice A n c] w fun e w' => e = .returned (.string (jourB ds)) ∧ Below w.heap.size w w' := by
  have HA := Lib.hid ha
  obtain rfl := ha.hn
  have hl := ha.hl
  have HS := Lib.hid hs
  have HSZ := Lib.hid (lines_size hs)
  have HNO : Hid (∀ d ∈ ds, deedB d = ⟨#[]⟩ → jourB ds = ⟨#[]⟩) := fun d hd he => jour_none hd he
  have HEND := Lib.hid (jour_end (ds := ds))
  obtain ⟨J, HJ⟩ : ∃ J, Hid (jourB ds = J) := ⟨_, rfl⟩
  rw [HJ.out] at HNO HEND ⊢
  clear ha hs
  go_enter Try.func20, Try.ntmps20
  go_wp2_with fail
  go_loopw [3, 4] (fun o i wr => ∃ (k : Nat) (u : ByteArray), k ≤ ds.length ∧ i = .int .i64 k ∧ o = .string u ∧ Hid (bL u = linesB (ds.take k)) ∧ u.size ≤ k * 1048582 ∧ Hid (TextsTo ds k) ∧ Hid (Below w.heap.size w wr)) (fun _ i _ => ds.length - (Go.RowKit.intOf i).toNat)
  case atStart => exact ⟨0, ⟨#[]⟩, Nat.zero_le _, rfl, rfl, rfl, Nat.zero_le _, (fun j d h => by omega), Below.refl _ _⟩
  case round =>
    obtain ⟨k, u, hk, rfl, rfl, hU, hus, hT, hB⟩ := hrel
    by_cases hlt : k < ds.length
    · obtain ⟨b, off, f, g, rfl, hc0, hc1, hx, hbl⟩ := (HA.out.hA.below hB.out).elem hlt
      have hgs : g.size ≤ 1048576 := HS.out (f, g) (elem_memD hx)
      have hds := deed_size (f, g)
      have HD : Hid (∀ W : World, Calls Try.prog 13 #[.agg #[.int .i64 f, .string g]] W fun e w' => e = .returned (.string (deedB (f, g))) ∧ Below W.heap.size W w') := fun W => sDeedText f g W hgs
      have HNX : Hid (deedB (f, g) ≠ ⟨#[]⟩ → TextsTo ds (k + 1)) := fun h => hT.out.next hx h
      have HL := Lib.hid (linesB_snoc hx)
      have HNK := Lib.hid (HNO.out (f, g) (elem_memD hx))
      obtain ⟨x, hxe⟩ : ∃ x, deedB (f, g) = x := ⟨_, rfl⟩
      rw [hxe] at HD HNX HL HNK hds
      clear hxe
      have hxz : x.size ≤ 1048581 := Nat.le_trans hds (by show g.size + 5 ≤ _; omega)
      clear hds
      by_cases he : x = ⟨#[]⟩
      · have HJE := Lib.hid (HNK.out he)
        subst he
        go_wp2_with (go_at_call 13; refine (HD.out _).mono ?_; rintro e w2 ⟨rfl, hb⟩; have hB2 := Lib.hid (bel_trans hB.out hb); clear hb hc0 hc1)
        go_ret
        exact ⟨by rw [HJE.out] <;> rfl, hB2.out⟩
      · have HN2 := Lib.hid (HNX.out he)
        obtain ⟨hn1, hn2, hn3, hn4, hn5⟩ := text_full he
        have hz : (9223372036854775807 < u.size + x.size) = False := by simp; omega
        have hz2 : (9223372036854775807 < u.size + x.size + 1) = False := by simp; omega
        have HUN : Hid (bL ((u ++ x) ++ ⟨#[10]⟩) = linesB (ds.take (k + 1))) := by
          unfold Hid
          rw [HL.out, bL_append, bL_append, hU.out, List.append_assoc]; rfl
        have hsz : ((u ++ x) ++ ⟨#[10]⟩ : ByteArray).size ≤ (k + 1) * 1048582 := by
          rw [ByteArray.size_append, ByteArray.size_append]
          show u.size + x.size + 1 ≤ _
          omega
        have hsz2 := Lib.hid hsz
        clear he hsz
        go_wp2_with (go_at_call 13; refine (HD.out _).mono ?_; rintro e w2 ⟨rfl, hb⟩; have hB := Lib.hid (bel_trans hB.out hb); replace hc0 := ((Below.cell hb (p := ⟨b, off + k * 2, none⟩)) hbl.out).trans hc0; replace hc1 := ((Below.cell hb (p := ⟨b, off + k * 2 + 1, none⟩)) hbl.out).trans hc1; replace hbl := Lib.hid (Nat.lt_of_lt_of_le hbl.out hb.size); clear hb)
        go_roundw
        case rel => exact ⟨k + 1, _, by omega, by go_num, rfl, HUN, hsz2.out, HN2, by assumption⟩
        case measure => simp [Go.RowKit.intOf]; omega
    · obtain rfl : k = ds.length := by omega
      have HJE := Lib.hid (HEND.out hT.out)
      rw [List.take_length] at hU
      go_wp2_with fail
      go_ret
      exact ⟨by rw [HJE.out, ← hU.out, of_bL] <;> rfl, hB.out⟩
end Go.Proofs.Ytobgnbgmpcilgaa

namespace Go.Proofs.Ytobgnbgmpcilgaa
open Go.RowKit

theorem bL_extract (s : ByteArray) (a b : Nat) : bL (s.extract a b) = ((bL s).take b).drop a := by
  unfold bL
  rw [ByteArray.data_extract, Array.toList_extract, List.extract_eq_take_drop, List.drop_take]
theorem extract_size {s : ByteArray} {a b : Nat} (h : b ≤ s.size) : (s.extract a b).size = b - a := by
  rw [← bL_size, bL_extract, List.length_drop, List.length_take, bL_size]; omega
/-! strings.Cut at one byte. -/
set_option maxRecDepth 100000 in
theorem iCutL_no (s : ByteArray) (c : UInt8) (h : Hid (∀ k : Nat, (bL s)[k]? ≠ some c)) (w : World) :
    Calls Try.prog 66 #[.string s, .string ⟨#[c]⟩] w fun e w' => e = .returned (.tuple #[.string s, .string ⟨#[]⟩, .bool false]) ∧ ∃ n, w' = w.drewN n := by
  have hix : Lib.indexByte s.data.toList c = -1 := by
    have hge := Lib.indexByte_ge s.data.toList c
    by_cases hn : Lib.indexByte s.data.toList c = -1
    · exact hn
    · exfalso
      obtain ⟨o, ho⟩ : ∃ o : Nat, Lib.indexByte s.data.toList c = (o : Int) := ⟨(Lib.indexByte s.data.toList c).toNat, by omega⟩
      exact h.out o (Lib.indexByte_some ho).1
  go_enter Try.func66, Try.ntmps66
  go_wp2_with fail
  refine (Try.stringslite_Index_one s c w).mono ?_
  rintro e w' ⟨rfl, rfl⟩
  rw [hix]
  go_wp2_with fail
  go_ret3
  exact ⟨rfl, 0, rfl⟩
set_option maxRecDepth 100000 in
theorem iCutL_yes (s : ByteArray) (c : UInt8) (i : Nat) (h : Hid ((bL s)[i]? = some c ∧ ∀ k : Nat, k < i → (bL s)[k]? ≠ some c)) (hs : s.size ≤ 1048576) (w : World) :
    Calls Try.prog 66 #[.string s, .string ⟨#[c]⟩] w fun e w' => e = .returned (.tuple #[.string (s.extract 0 i), .string (s.extract (i + 1) s.size), .bool true]) ∧ ∃ n, w' = w.drewN n := by
  have hix : Lib.indexByte s.data.toList c = (i : Int) := by
    have hge := Lib.indexByte_ge s.data.toList c
    by_cases hn : Lib.indexByte s.data.toList c = -1
    · exact absurd h.out.1 (Lib.indexByte_none hn i)
    · obtain ⟨o, ho⟩ : ∃ o : Nat, Lib.indexByte s.data.toList c = (o : Int) := ⟨(Lib.indexByte s.data.toList c).toNat, by omega⟩
      obtain ⟨h1, h2⟩ := Lib.indexByte_some ho
      have : o = i := by
        rcases Nat.lt_trichotomy o i with hlt | e | hgt
        · exact absurd h1 (h.out.2 o hlt)
        · exact e
        · exact absurd h.out.1 (h2 i hgt)
      rw [ho, this]
  have hlt : i < s.size := by rw [← bL_size]; exact (List.getElem?_eq_some_iff.1 h.out.1).1
  have c1 : (0 : Int) ≤ (i : Int) := by omega
  have c2 : (i : Int) ≤ (s.size : Int) := by omega
  have c3 : (0 : Int) ≤ (i : Int) + 1 := by omega
  have c4 : (i : Int) + 1 ≤ (s.size : Int) := by omega
  have hw : IntKind.i64.wrap ((i : Int) + 1) = ((i + 1 : Nat) : Int) := by
    rw [show ((i + 1 : Nat) : Int) = (i : Int) + 1 by omega]
    exact IntWalk.i64_in _ (by omega)
  have c5 : (0 : Int) ≤ ((i + 1 : Nat) : Int) := by omega
  have c6 : ((i + 1 : Nat) : Int) ≤ (s.size : Int) := by omega
  go_enter Try.func66, Try.ntmps66
  go_wp2_with fail
  refine (Try.stringslite_Index_one s c w).mono ?_
  rintro e w' ⟨rfl, rfl⟩
  rw [hix]
  clear hlt hix
  go_wp2_with fail
  go_region
  go_wp2_with fail
  go_ret3
  exact ⟨rfl, 1, rfl⟩
theorem iCutS_no (s : ByteArray) (c : UInt8) (h : Hid (∀ k : Nat, (bL s)[k]? ≠ some c)) (w : World) :
    Calls Try.prog 51 #[.string s, .string ⟨#[c]⟩] w fun e w' => e = .returned (.tuple #[.string s, .string ⟨#[]⟩, .bool false]) ∧ ∃ n, w' = w.drewN n := by
  go_enter Try.func51, Try.ntmps51
  go_wp2_with fail
  refine (iCutL_no s c h _).mono ?_
  rintro e w' ⟨rfl, n, rfl⟩
  go_wp2_with fail
  go_ret3
  exact ⟨rfl, n, rfl⟩
theorem iCutS_yes (s : ByteArray) (c : UInt8) (i : Nat) (h : Hid ((bL s)[i]? = some c ∧ ∀ k : Nat, k < i → (bL s)[k]? ≠ some c)) (hs : s.size ≤ 1048576) (w : World) :
    Calls Try.prog 51 #[.string s, .string ⟨#[c]⟩] w fun e w' => e = .returned (.tuple #[.string (s.extract 0 i), .string (s.extract (i + 1) s.size), .bool true]) ∧ ∃ n, w' = w.drewN n := by
  go_enter Try.func51, Try.ntmps51
  go_wp2_with fail
  refine (iCutL_yes s c i h hs _).mono ?_
  rintro e w' ⟨rfl, n, rfl⟩
  go_wp2_with fail
  go_ret3
  exact ⟨rfl, n, rfl⟩
/-- Where a byte stands first, if it stands anywhere. -/
theorem first_or (l : List UInt8) (c : UInt8) : (∀ k : Nat, l[k]? ≠ some c) ∨ ∃ i, l[i]? = some c ∧ ∀ k : Nat, k < i → l[k]? ≠ some c := by
  have hge := Lib.indexByte_ge l c
  by_cases hn : Lib.indexByte l c = -1
  · exact .inl (Lib.indexByte_none hn)
  · obtain ⟨o, ho⟩ : ∃ o : Nat, Lib.indexByte l c = (o : Int) := ⟨(Lib.indexByte l c).toNat, by omega⟩
    exact .inr ⟨o, Lib.indexByte_some ho⟩

/-! What is read. -/
def ddV (d : Dd) : DeedV := (d.kind, ofL d.text)
theorem dd_v (ds : List DeedV) : (ds.map ddU).map ddV = ds := by
  rw [List.map_map]
  have : ddV ∘ ddU = id := by funext d; rfl
  rw [this, List.map_id]
def rjV (s : ByteArray) : List DeedV × Nat := ((readJ (bL s)).1.map ddV, (readJ (bL s)).2)
theorem rj_of {s : ByteArray} {ds : List DeedV} {r : Nat} {b : Bool} (h : jTo (bL s) s.size = (ds.map ddU, r, b)) : rjV s = (ds, r) := by
  unfold rjV readJ
  rw [bL_size, h]
  simp only
  rw [dd_v]
theorem jTo_stuck {S : List UInt8} {k : Nat} {p : List Dd × Nat × Bool} (h : jTo S k = p) (hp : p.2.2 = true) : ∀ m, jTo S (k + m) = p
  | 0 => h
  | m + 1 => by
    show jStep S (k + m) (jTo S (k + m)) = p
    rw [jTo_stuck h hp m, jStep_stop hp]
theorem rj_stuck {s : ByteArray} {ds : List DeedV} {r k : Nat} (h : jTo (bL s) k = (ds.map ddU, r, true)) (hk : k ≤ s.size) : rjV s = (ds, r) := by
  have := jTo_stuck h rfl (s.size - k)
  rw [show k + (s.size - k) = s.size by omega] at this
  exact rj_of this
theorem rd_of (x : ByteArray) : (rdOk x = true ∧ readU (bL x) = some (ddU (rdV x))) ∨ (rdOk x = false ∧ readU (bL x) = none) := by
  unfold rdOk rdV readB
  cases readU (bL x) with
  | none => exact .inr ⟨rfl, rfl⟩
  | some d => exact .inl ⟨rfl, rfl⟩
/-- A newline, and what stands ahead of it. -/
theorem jTo_nl {s : ByteArray} {ds : List DeedV} {r k : Nat} (h : jTo (bL s) k = (ds.map ddU, r, false)) (hc : (bL s)[k]? = some 10) :
    (rdOk (s.extract r k) = true → jTo (bL s) (k + 1) = ((ds ++ [rdV (s.extract r k)]).map ddU, k + 1, false)) ∧ (rdOk (s.extract r k) = false → jTo (bL s) (k + 1) = (ds.map ddU, r, true)) := by
  have e : jTo (bL s) (k + 1) = jStep (bL s) k (ds.map ddU, r, false) := by rw [← h]; rfl
  have hx := rd_of (s.extract r k)
  rw [bL_extract] at hx
  constructor
  · intro ho
    rcases hx with ⟨_, h2⟩ | ⟨h1, _⟩
    · rw [e]
      unfold jStep
      rw [if_neg (by simp), if_pos hc]
      simp only
      rw [h2]
      simp only
      rw [List.map_append]; rfl
    · rw [ho] at h1; cases h1
  · intro ho
    rcases hx with ⟨h1, _⟩ | ⟨_, h2⟩
    · rw [ho] at h1; cases h1
    · rw [e]
      unfold jStep
      rw [if_neg (by simp), if_pos hc]
      simp only
      rw [h2]
theorem jTo_other {s : ByteArray} {ds : List DeedV} {r k : Nat} (h : jTo (bL s) k = (ds.map ddU, r, false)) (hc : (bL s)[k]? ≠ some 10) : jTo (bL s) (k + 1) = (ds.map ddU, r, false) := by
  have e : jTo (bL s) (k + 1) = jStep (bL s) k (ds.map ddU, r, false) := by rw [← h]; rfl
  rw [e]
  unfold jStep
  rw [if_neg (by simp), if_neg hc]
theorem jTo_tail {s : ByteArray} {ds : List DeedV} {r : Nat} (h : jTo (bL s) r = (ds.map ddU, r, false)) (hr : r ≤ s.size) (hn : ∀ k : Nat, (bL (s.extract r s.size))[k]? ≠ some 10) : rjV s = (ds, r) := by
  have := jTo_idle (bL s) r _ h (s.size - r) fun i h1 h2 e => hn (i - r) (by
    rw [bL_extract, List.getElem?_drop, show r + (i - r) = i by omega, List.getElem?_take_of_lt (by omega), e])
  rw [show r + (s.size - r) = s.size by omega] at this
  exact rj_of this
theorem jTo_line {s : ByteArray} {ds : List DeedV} {r i : Nat} (h : jTo (bL s) r = (ds.map ddU, r, false)) (hr : r ≤ s.size) (hi : (bL (s.extract r s.size))[i]? = some 10 ∧ ∀ k : Nat, k < i → (bL (s.extract r s.size))[k]? ≠ some 10) :
    r + i < s.size ∧ jTo (bL s) (r + i) = (ds.map ddU, r, false) ∧ (bL s)[r + i]? = some 10 ∧ (s.extract r s.size).extract 0 i = s.extract r (r + i) := by
  have hlt : i < (bL (s.extract r s.size)).length := (List.getElem?_eq_some_iff.1 hi.1).1
  rw [bL_size, extract_size (Nat.le_refl _)] at hlt
  have hri : r + i < s.size := by omega
  have hget : ∀ j, r + j < s.size → (bL (s.extract r s.size))[j]? = (bL s)[r + j]? := fun j hj => by
    rw [bL_extract, List.getElem?_drop, List.getElem?_take_of_lt (by omega)]
  refine ⟨hri, jTo_idle (bL s) r _ h i fun j h1 h2 e => hi.2 (j - r) (by omega) (by rw [hget _ (by omega), show r + (j - r) = j by omega, e]), by rw [← hget i hri]; exact hi.1, ?_⟩
  apply bL_inj
  rw [bL_extract, bL_extract, bL_extract, List.drop_zero, List.take_of_length_le (l := bL s) (by rw [bL_size]; exact Nat.le_refl _), List.drop_take, show r + i - r = i by omega]
end Go.Proofs.Ytobgnbgmpcilgaa

namespace Go.Proofs.Ytobgnbgmpcilgaa
open Go.RowKit

set_option maxRecDepth 100000 in
set_option maxHeartbeats 8000000 in
theorem iReadJournal (s : ByteArray) (w : World) (hs : s.size ≤ 1048576) :
    Calls Try.prog 21 #[.string s] w fun e w' => ∃ v, e = .returned (.tuple #[v, .int .i64 ((rjV s).2 : Nat)]) ∧ OwnsD w' w.heap.size v (rjV s).1 ∧ Below w.heap.size w w' := by
  obtain ⟨R, HR⟩ : ∃ R, Hid (rjV s = R) := ⟨_, rfl⟩
  rw [HR.out]
  go_enter Try.func21, Try.ntmps21
  go_wp2_with fail
  go_loopw [4, 5] (fun o i wr => ∃ (r : Nat) (ds : List DeedV), r ≤ s.size ∧ i = .int .i64 r ∧ ds.length ≤ r ∧ Hid (OwnsD wr w.heap.size o ds) ∧ Hid (jTo (bL s) r = (ds.map ddU, r, false)) ∧ Hid (Below w.heap.size w wr)) (fun _ i _ => s.size + 1 - (Go.RowKit.intOf i).toNat)
  case atStart => exact ⟨0, [], Nat.zero_le _, rfl, Nat.zero_le _, OwnsD.nil _ _, rfl, Below.refl _ _⟩
  case round =>
    obtain ⟨r, ds, hr, rfl, hdl, HO, HJ, HB⟩ := hrel
    have hd1 : (0 : Int) ≤ (r : Int) := by omega
    have hd2 : (r : Int) ≤ (s.size : Int) := by omega
    have HES := Lib.hid (extract_size (s := s) (a := r) (Nat.le_refl s.size))
    obtain ⟨x, hx⟩ : ∃ x, s.extract r s.size = x := ⟨_, rfl⟩
    rcases first_or (bL (s.extract r s.size)) 10 with hno | ⟨i, hyes⟩
    · have HE := Lib.hid (jTo_tail HJ.out hr hno)
      rw [HR.out] at HE
      have HNO := Lib.hid hno
      rw [hx] at HES HNO
      have hxs : x.size ≤ 1048576 := by rw [HES.out]; omega
      clear hno
      go_wp2_with (first
        | (go_at_call 51; refine (iCutS_no x 10 HNO _).mono ?_; rintro e w' ⟨rfl, n, rfl⟩; clear hx)
        | (go_at_call 15; refine (iReadDeed x _ hxs).mono ?_; rintro e w2 ⟨rfl, hb⟩; have HO2 := Lib.hid ((HO.out.drewN _).below hb); have HB2 := Lib.hid (bel_trans (bel_drewN HB.out _) hb); clear hb))
      go_ret2
      exact ⟨_, by rw [HE.out] <;> rfl, by rw [HE.out]; exact HO2.out.below ((Below.refl _ _).alloc (Nat.le_refl _) _), HB2.out.alloc HB2.out.size _⟩
    · obtain ⟨hri, hj, hc, hxi⟩ := jTo_line HJ.out hr hyes
      obtain ⟨hy1, hy2⟩ := jTo_nl hj hc
      have HY := Lib.hid hyes
      have HY1 := Lib.hid hy1
      have HY2 := Lib.hid hy2
      have HST : Hid (rdOk (s.extract r (r + i)) = false → R = (ds, r)) := fun h => by rw [← HR.out]; exact rj_stuck (hy2 h) (by omega)
      have HLS := Lib.hid (extract_size (s := s) (a := r) (b := r + i) (by omega))
      rw [hx] at HES HY hxi
      obtain ⟨l, hl⟩ : ∃ l, s.extract r (r + i) = l := ⟨_, rfl⟩
      rw [hl] at HY1 HLS HST hxi
      have hxs : x.size ≤ 1048576 := by rw [HES.out]; omega
      have hls : l.size ≤ 1048576 := by rw [HLS.out]; omega
      have hbnd : r + l.size + 1 ≤ s.size := by rw [HLS.out]; omega
      have HLN : Hid (r + l.size + 1 = r + i + 1) := by unfold Hid; rw [HLS.out]; omega
      have HXI := Lib.hid hxi
      clear hyes hj hc hy1 hy2 hl HY2 hxi hri
      obtain ⟨f, g, ok, HRD, HOK⟩ : ∃ f g ok, Hid (∀ W : World, Calls Try.prog 15 #[.string l] W fun e w' => e = .returned (.tuple #[.agg #[.int .i64 f, .string g], .bool ok]) ∧ Below W.heap.size W w') ∧ Hid (rdOk l = ok ∧ rdV l = (f, g)) :=
        ⟨_, _, _, fun W => iReadDeed l W hls, rfl, rfl⟩
      cases ok
      · have HE := Lib.hid (HST.out HOK.out.1)
        go_wp2_with (first
          | (go_at_call 51; refine (iCutS_yes x 10 i HY hxs _).mono ?_; rintro e w' ⟨rfl, n, rfl⟩; rw [HXI.out]; clear hx)
          | (go_at_call 15; refine (HRD.out _).mono ?_; rintro e w2 ⟨rfl, hb⟩; have HO2 := Lib.hid ((HO.out.drewN _).below hb); have HB2 := Lib.hid (bel_trans (bel_drewN HB.out _) hb); clear hb))
        go_ret2
        exact ⟨_, by rw [HE.out] <;> rfl, by rw [HE.out]; exact HO2.out.below ((Below.refl _ _).alloc (Nat.le_refl _) _), HB2.out.alloc HB2.out.size _⟩
      · have HN := Lib.hid (HY1.out HOK.out.1)
        rw [HOK.out.2] at HN
        go_wp2_with (first
          | (go_at_call 51; refine (iCutS_yes x 10 i HY hxs _).mono ?_; rintro e w' ⟨rfl, n, rfl⟩; rw [HXI.out]; clear hx)
          | (go_at_call 15; refine (HRD.out _).mono ?_; rintro e w2 ⟨rfl, hb⟩; have HO2 := Lib.hid (((HO.out.drewN _).below hb).below ((Below.refl _ _).alloc (Nat.le_refl _) (.cells #[.int .i64 f, .string g] 24))); have HB2 := Lib.hid (bel_trans (bel_drewN HB.out _) hb); have HB3 := Lib.hid (HB2.out.alloc HB2.out.size (.cells #[.int .i64 f, .string g] 24)); clear hb)
          | (at_builtin; refine wp_append1D (W := w2.alloc (.cells #[.int .i64 f, .string g] 24)) rfl _ _ rfl w.heap.size u4 ds rfl HO2.out f g (by rw [World.size_alloc]; rfl) (by omega) HB3.out.size ?_; intro v' w3 ho hg; have HB4 := Lib.hid (below_appendD HB3.out HB3.out.size HO2.out (Nat.le_refl _) hg); have HO4 := Lib.hid ho; clear ho hg))
        go_roundw
        case rel => exact ⟨r + l.size + 1, _, by omega, by go_num, by rw [List.length_append, List.length_singleton]; omega, HO4, (by unfold Hid; rw [HLN.out]; exact HN.out), HB4⟩
        case measure => simp [Go.RowKit.intOf]; omega

set_option maxRecDepth 100000 in
set_option maxHeartbeats 8000000 in
theorem sReadJournal (s : ByteArray) (w : World) (hs : s.size ≤ 1048576) :
    Calls Try.prog 34 #[.string s] w fun e w' => ∃ v, e = .returned (.tuple #[v, .int .i64 ((rjV s).2 : Nat)]) ∧ OwnsD w' w.heap.size v (rjV s).1 ∧ Below w.heap.size w w' := by
  obtain ⟨R, HR⟩ : ∃ R, Hid (rjV s = R) := ⟨_, rfl⟩
  rw [HR.out]
  have HO0 : Hid (OwnsD (w.alloc (.cells #[] 24)) w.heap.size (.slice (some ⟨w.heap.size, 0, none⟩) 0 0) []) := OwnsD.lit0 w _ (Nat.le_refl _)
  go_enter Try.func34, Try.ntmps34
  go_wp2_with fail
  go_loopw [4, 5, 6] (fun o i j wr => ∃ (r k : Nat) (ds : List DeedV), r ≤ k ∧ k ≤ s.size ∧ i = .int .i64 r ∧ j = .int .i64 k ∧ ds.length ≤ r ∧ Hid (OwnsD wr w.heap.size o ds) ∧ Hid (jTo (bL s) k = (ds.map ddU, r, false)) ∧ Hid (Below w.heap.size w wr)) (fun _ _ j _ => s.size - (Go.RowKit.intOf j).toNat)
  case atStart => exact ⟨0, 0, [], Nat.le_refl _, Nat.zero_le _, rfl, rfl, Nat.zero_le _, HO0, rfl, (Below.refl _ _).alloc (Nat.le_refl _) _⟩
  case round =>
    obtain ⟨r, k, ds, hrk, hk, rfl, rfl, hdl, HO, HJ, HB⟩ := hrel
    by_cases hlt : k < s.size
    · have hd0 : (0 : Int) ≤ (k : Int) := by omega
      have hd : (k : Int) < (s.size : Int) := by omega
      have hd1 : (0 : Int) ≤ (r : Int) := by omega
      have hd2 : (r : Int) ≤ (k : Int) := by omega
      have hd3 : (k : Int) ≤ (s.size : Int) := by omega
      have hget : (bL s)[k]? = some s[k] := by unfold bL; rw [Array.getElem?_toList]; exact Array.getElem?_eq_getElem hlt
      have h10 : s[k] = 10 ↔ s[k].toNat = 10 := ⟨fun h => by rw [h]; rfl, fun h => UInt8.toNat_inj.1 h⟩
      obtain ⟨c, hc⟩ : ∃ c, s[k].toNat = c := ⟨_, rfl⟩
      rw [hc] at h10
      by_cases h : c = 10
      · have hcb : ((c : Int) == 10) = true := by rw [beq_iff_eq]; omega
        have hnl : (bL s)[k]? = some 10 := by rw [hget, h10.2 h]
        obtain ⟨hy1, hy2⟩ := jTo_nl HJ.out hnl
        have HY1 := Lib.hid hy1
        have HST : Hid (rdOk (s.extract r k) = false → R = (ds, r)) := fun h => by rw [← HR.out]; exact rj_stuck (hy2 h) (by omega)
        have HLS := Lib.hid (extract_size (s := s) (a := r) (b := k) hk)
        obtain ⟨l, hl⟩ : ∃ l, s.extract r k = l := ⟨_, rfl⟩
        rw [hl] at HY1 HLS HST
        have hls : l.size ≤ 1048576 := by rw [HLS.out]; omega
        clear hget h10 hnl hy1 hy2 h
        obtain ⟨f, g, ok, HRD, HOK⟩ : ∃ f g ok, Hid (∀ W : World, Calls Try.prog 17 #[.string l] W fun e w' => e = .returned (.tuple #[.agg #[.int .i64 f, .string g], .bool ok]) ∧ Below W.heap.size W w') ∧ Hid (rdOk l = ok ∧ rdV l = (f, g)) :=
          ⟨_, _, _, fun W => sReadDeed l W hls, rfl, rfl⟩
        cases ok
        · have HE := Lib.hid (HST.out HOK.out.1)
          go_wp2_with (go_at_call 17; refine (HRD.out _).mono ?_; rintro e w2 ⟨rfl, hb⟩; have HO2 := Lib.hid (HO.out.below hb); have HB2 := Lib.hid (bel_trans HB.out hb); clear hb)
          go_ret2
          exact ⟨_, by rw [HE.out] <;> rfl, by rw [HE.out]; exact HO2.out.below ((Below.refl _ _).alloc (Nat.le_refl _) _), HB2.out.alloc HB2.out.size _⟩
        · have HN := Lib.hid (HY1.out HOK.out.1)
          rw [HOK.out.2] at HN
          go_wp2_with (first
            | (go_at_call 17; refine (HRD.out _).mono ?_; rintro e w2 ⟨rfl, hb⟩; have HO2 := Lib.hid ((HO.out.below hb).below ((Below.refl _ _).alloc (Nat.le_refl _) (.cells #[.int .i64 f, .string g] 24))); have HB2 := Lib.hid (bel_trans HB.out hb); have HB3 := Lib.hid (HB2.out.alloc HB2.out.size (.cells #[.int .i64 f, .string g] 24)); clear hb)
            | (at_builtin; refine wp_append1D (W := w2.alloc (.cells #[.int .i64 f, .string g] 24)) rfl _ _ rfl w.heap.size u4 ds rfl HO2.out f g (by rw [World.size_alloc]; rfl) (by omega) HB3.out.size ?_; intro v' w3 ho hg; have HB4 := Lib.hid (below_appendD HB3.out HB3.out.size HO2.out (Nat.le_refl _) hg); have HO4 := Lib.hid ho; clear ho hg))
          go_roundw
          case rel => exact ⟨k + 1, k + 1, _, Nat.le_refl _, by omega, by go_num, by go_num, by rw [List.length_append, List.length_singleton]; omega, HO4, HN, HB4⟩
          case measure => simp [Go.RowKit.intOf]; omega
      · have hcb : ((c : Int) == 10) = false := by rw [beq_eq_false_iff_ne]; omega
        have HN := Lib.hid (jTo_other HJ.out (by rw [hget]; intro e; exact h (h10.1 (Option.some.inj e))))
        clear hget h10 h
        go_wp2_with fail
        go_roundw
        case rel => exact ⟨r, k + 1, ds, by omega, by omega, rfl, by go_num, hdl, HO, HN, HB⟩
        case measure => simp [Go.RowKit.intOf]; omega
    · obtain rfl : k = s.size := by omega
      have HE := Lib.hid (rj_of HJ.out)
      rw [HR.out] at HE
      go_wp2_with fail
      go_ret2
      exact ⟨_, by rw [HE.out] <;> rfl, by rw [HE.out]; exact HO.out, HB.out⟩
end Go.Proofs.Ytobgnbgmpcilgaa

namespace Go.Proofs.Ytobgnbgmpcilgaa
open Go.RowKit

def numD (k : Nat) : List UInt8 := if k = 0 then [] else numU k
theorem numD_step {k : Nat} (h : 0 < k) : numD k = numD (k / 10) ++ [(48 + k % 10).toUInt8] := by
  unfold numD
  rw [if_neg (by omega)]
  by_cases h10 : k < 10
  · rw [if_pos (by omega)]
    unfold numU
    rw [if_pos h10, Nat.mod_eq_of_lt h10]; rfl
  · rw [if_neg (by omega)]
    conv => lhs; unfold numU
    rw [if_neg h10]
/-- The text of a mark. -/
def markB (k : Nat) : ByteArray := ofL (109 :: numD k)
theorem one_byte (d : Nat) (h : d < 10) : bL (strOfNums [(48 : Int) + (d : Int)]) = [(48 + d).toUInt8] := by
  have : d = 0 ∨ d = 1 ∨ d = 2 ∨ d = 3 ∨ d = 4 ∨ d = 5 ∨ d = 6 ∨ d = 7 ∨ d = 8 ∨ d = 9 := by omega
  rcases this with rfl | rfl | rfl | rfl | rfl | rfl | rfl | rfl | rfl | rfl <;> decide
theorem one_size (v : Int) : (strOfNums [v]).size = 1 := rfl
theorem conv_one (v : Int) (w : World) : (convert 22 9 (.slice (some ⟨w.heap.size, 0, none⟩) 1 1)).run Try.prog (w.alloc (.cells #[.int .u8 v] 5)) = .ok (.string (strOfNums [v])) (w.alloc (.cells #[.int .u8 v] 5)) :=
  run_convert_bytes_arg _ 22 5 Try.underlying22 Try.underlying5 _ 0 1 1 [v] rfl (fun i hi => by
    obtain rfl : i = 0 := by omega
    exact (Boxed.new w 5 (.int .u8 v)).cell) _ Try.underlying9
theorem numD_len : ∀ k : Nat, (numD k).length ≤ k := by
  intro k
  induction k using Nat.strongRecOn with
  | _ k ih =>
    by_cases h : k = 0
    · subst h; exact Nat.le_refl _
    · rw [numD_step (by omega), List.length_append, List.length_singleton]
      have := ih (k / 10) (by omega)
      omega
set_option maxRecDepth 100000 in
set_option maxHeartbeats 4000000 in
theorem lMarkText (k0 : Nat) (h1 : 1 ≤ k0) (h2 : k0 ≤ 1073741824) (w : World) :
    Calls Try.prog 60 #[.int .i64 k0] w fun e w' => e = .returned (.string (markB k0)) ∧ Below w.heap.size w w' := by
  have hcv := fun (v : Int) W => conv_one v W
  have hd : decide ((k0 : Int) ≤ 0) = false := decide_eq_false (by omega)
  go_enter Try.func60, Try.ntmps60
  go_wp2_with fail
  clear hd
  go_loopw [0, 3] (fun q o wr => ∃ (k : Nat) (u : ByteArray), k ≤ k0 ∧ q = .int .i64 k ∧ o = .string u ∧ u.size ≤ k0 - k ∧ Hid (numD k ++ bL u = numD k0) ∧ Hid (Below w.heap.size w wr)) (fun q _ _ => (Go.RowKit.intOf q).toNat)
  case atStart => exact ⟨k0, ⟨#[]⟩, Nat.le_refl _, rfl, rfl, Nat.zero_le _, List.append_nil _, Below.refl _ _⟩
  case round =>
    obtain ⟨k, u, hk, rfl, rfl, hus, HN, HB⟩ := hrel
    by_cases hlt : 0 < k
    · have hd : decide ((0 : Int) < (k : Int)) = true := decide_eq_true (by omega)
      have hz : (9223372036854775807 < (strOfNums [(48 : Int) + (k : Int) % 10]).size + u.size) = False := by rw [one_size]; simp; omega
      have HNX : Hid (numD (k / 10) ++ bL (strOfNums [(48 : Int) + (k : Int) % 10] ++ u) = numD k0) := by
        unfold Hid
        rw [← HN.out, numD_step hlt, bL_append, show (48 : Int) + (k : Int) % 10 = (48 : Int) + ((k % 10 : Nat) : Int) by omega, one_byte _ (by omega), List.append_assoc]
      have HSZ : Hid ((strOfNums [(48 : Int) + (k : Int) % 10] ++ u).size ≤ k0 - k / 10) := by
        unfold Hid
        rw [ByteArray.size_append, one_size]; omega
      go_wp2_with fail
      go_roundw
      case rel => exact ⟨k / 10, _, by omega, by go_num, rfl, HSZ.out, HNX, HB.out.alloc HB.out.size _⟩
      case measure => simp [Go.RowKit.intOf]; omega
    · obtain rfl : k = 0 := by omega
      have hz : (9223372036854775807 < 1 + u.size) = False := by simp; omega
      have HE : Hid (⟨#[109]⟩ ++ u = markB k0) := by
        apply bL_inj
        unfold markB
        rw [bL_append, bL_of, ← HN.out]; rfl
      go_wp2_with fail
      go_ret
      exact ⟨by rw [← HE.out] <;> rfl, HB.out⟩
end Go.Proofs.Ytobgnbgmpcilgaa
