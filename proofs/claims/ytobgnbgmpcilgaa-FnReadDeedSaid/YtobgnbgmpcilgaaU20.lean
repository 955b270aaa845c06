/-
  What the proofs of this seat's statements share (JnR, JnQ, MrkT, DdL, TlkS).
-/
import Derived.Lib.IndexLaws
import Derived.Deep.QuietTactic
import Derived.Laws.BytesArg
import Derived.RangeFuncBox
import Derived.Deep.RegionHeld3
import Derived.Test.YtobgnbgmpcilgaaU19
import Derived.Test.YtobgnbgmpcilgaaU17
import Derived.Test.YtobgnbgmpcilgaaU16
import Derived.Test.YtobgnbgmpcilgaaU18
import Derived.Test.YtobgnbgmpcilgaaU7

namespace Go.Proofs.Ytobgnbgmpcilgaa
open Go.RowKit

theorem bL_extract (s : ByteArray) (a b : Nat) : bL (s.extract a b) = ((bL s).take b).drop a := by
  unfold bL
  rw [ByteArray.data_extract, Array.toList_extract, List.extract_eq_take_drop, List.drop_take]
theorem extract_size {s : ByteArray} {a b : Nat} (h : b ≤ s.size) : (s.extract a b).size = b - a := by
  rw [← bL_size, bL_extract, List.length_drop, List.length_take, bL_size]; omega
/-! strings.Cut at one byte. -/
set_option maxRecDepth 100000 in
theorem iCutL_no (s : ByteArray) (c : UInt8) (h : Hid (∀ k : Nat, (bL s)[k]? ≠ some c)) (w : World) :
    Calls Try.prog 66 #[.string s, .string ⟨#[c]⟩] w fun e w' => e = .returned (.tuple #[.string s, .string ⟨#[]⟩, .bool false]) ∧ ∃ n, w' = w.drewN n := by
  have hix : Lib.indexByte s.data.toList c = -1 := by
    have hge := Lib.indexByte_ge s.data.toList c
    by_cases hn : Lib.indexByte s.data.toList c = -1
    · exact hn
    · exfalso
      obtain ⟨o, ho⟩ : ∃ o : Nat, Lib.indexByte s.data.toList c = (o : Int) := ⟨(Lib.indexByte s.data.toList c).toNat, by omega⟩
      exact h.out o (Lib.indexByte_some ho).1
  go_enter Try.func66, Try.ntmps66
  go_wp2_with fail
  refine (Try.stringslite_Index_one s c w).mono ?_
  rintro e w' ⟨rfl, rfl⟩
  rw [hix]
  go_wp2_with fail
  go_ret3
  exact ⟨rfl, 0, rfl⟩
set_option maxRecDepth 100000 in
theorem iCutL_yes (s : ByteArray) (c : UInt8) (i : Nat) (h : Hid ((bL s)[i]? = some c ∧ ∀ k : Nat, k < i → (bL s)[k]? ≠ some c)) (hs : s.size ≤ 1048576) (w : World) :
    Calls Try.prog 66 #[.string s, .string ⟨#[c]⟩] w fun e w' => e = .returned (.tuple #[.string (s.extract 0 i), .string (s.extract (i + 1) s.size), .bool true]) ∧ ∃ n, w' = w.drewN n := by
  have hix : Lib.indexByte s.data.toList c = (i : Int) := by
    have hge := Lib.indexByte_ge s.data.toList c
    by_cases hn : Lib.indexByte s.data.toList c = -1
    · exact absurd h.out.1 (Lib.indexByte_none hn i)
    · obtain ⟨o, ho⟩ : ∃ o : Nat, Lib.indexByte s.data.toList c = (o : Int) := ⟨(Lib.indexByte s.data.toList c).toNat, by omega⟩
      obtain ⟨h1, h2⟩ := Lib.indexByte_some ho
      have : o = i := by
        rcases Nat.lt_trichotomy o i with hlt | e | hgt
        · exact absurd h1 (h.out.2 o hlt)
        · exact e
        · exact absurd h.out.1 (h2 i hgt)
      rw [ho, this]
  have hlt : i < s.size := by rw [← bL_size]; exact (List.getElem?_eq_some_iff.1 h.out.1).1
  have c1 : (0 : Int) ≤ (i : Int) := by omega
  have c2 : (i : Int) ≤ (s.size : Int) := by omega
  have c3 : (0 : Int) ≤ (i : Int) + 1 := by omega
  have c4 : (i : Int) + 1 ≤ (s.size : Int) := by omega
  have hw : IntKind.i64.wrap ((i : Int) + 1) = ((i + 1 : Nat) : Int) := by
    rw [show ((i + 1 : Nat) : Int) = (i : Int) + 1 by omega]
    exact IntWalk.i64_in _ (by omega)
  have c5 : (0 : Int) ≤ ((i + 1 : Nat) : Int) := by omega
  have c6 : ((i + 1 : Nat) : Int) ≤ (s.size : Int) := by omega
  go_enter Try.func66, Try.ntmps66
  go_wp2_with fail
  refine (Try.stringslite_Index_one s c w).mono ?_
  rintro e w' ⟨rfl, rfl⟩
  rw [hix]
  clear hlt hix
  go_wp2_with fail
  go_region
  go_wp2_with fail
  go_ret3
  exact ⟨rfl, 1, rfl⟩
theorem iCutS_no (s : ByteArray) (c : UInt8) (h : Hid (∀ k : Nat, (bL s)[k]? ≠ some c)) (w : World) :
    Calls Try.prog 51 #[.string s, .string ⟨#[c]⟩] w fun e w' => e = .returned (.tuple #[.string s, .string ⟨#[]⟩, .bool false]) ∧ ∃ n, w' = w.drewN n := by
  go_enter Try.func51, Try.ntmps51
  go_wp2_with fail
  refine (iCutL_no s c h _).mono ?_
  rintro e w' ⟨rfl, n, rfl⟩
  go_wp2_with fail
  go_ret3
  exact ⟨rfl, n, rfl⟩
theorem iCutS_yes (s : ByteArray) (c : UInt8) (i : Nat) (h : Hid ((bL s)[i]? = some c ∧ ∀ k : Nat, k < i → (bL s)[k]? ≠ some c)) (hs : s.size ≤ 1048576) (w : World) :
    Calls Try.prog 51 #[.string s, .string ⟨#[c]⟩] w fun e w' => e = .returned (.tuple #[.string (s.extract 0 i), .string (s.extract (i + 1) s.size), .bool true]) ∧ ∃ n, w' = w.drewN n := by
  go_enter Try.func51, Try.ntmps51
  go_wp2_with fail
  refine (iCutL_yes s c i h hs _).mono ?_
  rintro e w' ⟨rfl, n, rfl⟩
  go_wp2_with fail
  go_ret3
  exact ⟨rfl, n, rfl⟩
/-- Where a byte stands first, if it stands anywhere. -/
theorem first_or (l : List UInt8) (c : UInt8) : (∀ k : Nat, l[k]? ≠ some c) ∨ ∃ i, l[i]? = some c ∧ ∀ k : Nat, k < i → l[k]? ≠ some c := by
  have hge := Lib.indexByte_ge l c
  by_cases hn : Lib.indexByte l c = -1
  · exact .inl (Lib.indexByte_none hn)
  · obtain ⟨o, ho⟩ : ∃ o : Nat, Lib.indexByte l c = (o : Int) := ⟨(Lib.indexByte l c).toNat, by omega⟩
    exact .inr ⟨o, Lib.indexByte_some ho⟩

/-! What is read. -/
def ddV (d : Dd) : DeedV := (d.kind, ofL d.text)
theorem dd_v (ds : List DeedV) : (ds.map ddU).map ddV = ds := by
  rw [List.map_map]
  have : ddV ∘ ddU = id := by funext d; rfl
  rw [this, List.map_id]
def rjV (s : ByteArray) : List DeedV × Nat := ((readJ (bL s)).1.map ddV, (readJ (bL s)).2)
theorem rj_of {s : ByteArray} {ds : List DeedV} {r : Nat} {b : Bool} (h : jTo (bL s) s.size = (ds.map ddU, r, b)) : rjV s = (ds, r) := by
  unfold rjV readJ
  rw [bL_size, h]
  simp only
  rw [dd_v]
theorem jTo_stuck {S : List UInt8} {k : Nat} {p : List Dd × Nat × Bool} (h : jTo S k = p) (hp : p.2.2 = true) : ∀ m, jTo S (k + m) = p
  | 0 => h
  | m + 1 => by
    show jStep S (k + m) (jTo S (k + m)) = p
    rw [jTo_stuck h hp m, jStep_stop hp]
theorem rj_stuck {s : ByteArray} {ds : List DeedV} {r k : Nat} (h : jTo (bL s) k = (ds.map ddU, r, true)) (hk : k ≤ s.size) : rjV s = (ds, r) := by
  have := jTo_stuck h rfl (s.size - k)
  rw [show k + (s.size - k) = s.size by omega] at this
  exact rj_of this
theorem rd_of (x : ByteArray) : (rdOk x = true ∧ readU (bL x) = some (ddU (rdV x))) ∨ (rdOk x = false ∧ readU (bL x) = none) := by
  unfold rdOk rdV readB
  cases readU (bL x) with
  | none => exact .inr ⟨rfl, rfl⟩
  | some d => exact .inl ⟨rfl, rfl⟩
/-- A newline, and what stands ahead of it. -/
theorem jTo_nl {s : ByteArray} {ds : List DeedV} {r k : Nat} (h : jTo (bL s) k = (ds.map ddU, r, false)) (hc : (bL s)[k]? = some 10) :
    (rdOk (s.extract r k) = true → jTo (bL s) (k + 1) = ((ds ++ [rdV (s.extract r k)]).map ddU, k + 1, false)) ∧ (rdOk (s.extract r k) = false → jTo (bL s) (k + 1) = (ds.map ddU, r, true)) := by
  have e : jTo (bL s) (k + 1) = jStep (bL s) k (ds.map ddU, r, false) := by rw [← h]; rfl
  have hx := rd_of (s.extract r k)
  rw [bL_extract] at hx
  constructor
  · intro ho
    rcases hx with ⟨_, h2⟩ | ⟨h1, _⟩
    · rw [e]
      unfold jStep
      rw [if_neg (by simp), if_pos hc]
      simp only
      rw [h2]
      simp only
      rw [List.map_append]; rfl
    · rw [ho] at h1; cases h1
  · intro ho
    rcases hx with ⟨h1, _⟩ | ⟨_, h2⟩
    · rw [ho] at h1; cases h1
    · rw [e]
      unfold jStep
      rw [if_neg (by simp), if_pos hc]
      simp only
      rw [h2]
theorem jTo_other {s : ByteArray} {ds : List DeedV} {r k : Nat} (h : jTo (bL s) k = (ds.map ddU, r, false)) (hc : (bL s)[k]? ≠ some 10) : jTo (bL s) (k + 1) = (ds.map ddU, r, false) := by
  have e : jTo (bL s) (k + 1) = jStep (bL s) k (ds.map ddU, r, false) := by rw [← h]; rfl
  rw [e]
  unfold jStep
  rw [if_neg (by simp), if_neg hc]
theorem jTo_tail {s : ByteArray} {ds : List DeedV} {r : Nat} (h : jTo (bL s) r = (ds.map ddU, r, false)) (hr : r ≤ s.size) (hn : ∀ k : Nat, (bL (s.extract r s.size))[k]? ≠ some 10) : rjV s = (ds, r) := by
  have := jTo_idle (bL s) r _ h (s.size - r) fun i h1 h2 e => hn (i - r) (by
    rw [bL_extract, List.getElem?_drop, show r + (i - r) = i by omega, List.getElem?_take_of_lt (by omega), e])
  rw [show r + (s.size - r) = s.size by omega] at this
  exact rj_of this
theorem jTo_line {s : ByteArray} {ds : List DeedV} {r i : Nat} (h : jTo (bL s) r = (ds.map ddU, r, false)) (hr : r ≤ s.size) (hi : (bL (s.extract r s.size))[i]? = some 10 ∧ ∀ k : Nat, k < i → (bL (s.extract r s.size))[k]? ≠ some 10) :
    r + i < s.size ∧ jTo (bL s) (r + i) = (ds.map ddU, r, false) ∧ (bL s)[r + i]? = some 10 ∧ (s.extract r s.size).extract 0 i = s.extract r (r + i) := by
  have hlt : i < (bL (s.extract r s.size)).length := (List.getElem?_eq_some_iff.1 hi.1).1
  rw [bL_size, extract_size (Nat.le_refl _)] at hlt
  have hri : r + i < s.size := by omega
  have hget : ∀ j, r + j < s.size → (bL (s.extract r s.size))[j]? = (bL s)[r + j]? := fun j hj => by
    rw [bL_extract, List.getElem?_drop, List.getElem?_take_of_lt (by omega)]
  refine ⟨hri, jTo_idle (bL s) r _ h i fun j h1 h2 e => hi.2 (j - r) (by omega) (by rw [hget _ (by omega), show r + (j - r) = j by omega, e]), by rw [← hget i hri]; exact hi.1, ?_⟩
  apply bL_inj
  rw [bL_extract, bL_extract, bL_extract, List.drop_zero, List.take_of_length_le (l := bL s) (by rw [bL_size]; exact Nat.le_refl _), List.drop_take, show r + i - r = i by omega]
end Go.Proofs.Ytobgnbgmpcilgaa

namespace Go.Proofs.Ytobgnbgmpcilgaa
open Go.RowKit

set_option maxRecDepth 100000 in
set_option maxHeartbeats 8000000 in
theorem iReadJournal (s : ByteArray) (w : World) (hs : s.size ≤ 1048576) :
    Calls Try.prog 21 #[.string s] w fun e w' => ∃ v, e = .returned (.tuple #[v, .int .i64 ((rjV s).2 : Nat)]) ∧ OwnsD w' w.heap.size v (rjV s).1 ∧ Below w.heap.size w w' := by
  obtain ⟨R, HR⟩ : ∃ R, Hid (rjV s = R) := ⟨_, rfl⟩
  rw [HR.out]
  go_enter Try.func21, Try.ntmps21
  go_wp2_with fail
  go_loopw [4, 5] (fun o i wr => ∃ (r : Nat) (ds : List DeedV), r ≤ s.size ∧ i = .int .i64 r ∧ ds.length ≤ r ∧ Hid (OwnsD wr w.heap.size o ds) ∧ Hid (jTo (bL s) r = (ds.map ddU, r, false)) ∧ Hid (Below w.heap.size w wr)) (fun _ i _ => s.size + 1 - (Go.RowKit.intOf i).toNat)
  case atStart => exact ⟨0, [], Nat.zero_le _, rfl, Nat.zero_le _, OwnsD.nil _ _, rfl, Below.refl _ _⟩
  case round =>
    obtain ⟨r, ds, hr, rfl, hdl, HO, HJ, HB⟩ := hrel
    have hd1 : (0 : Int) ≤ (r : Int) := by omega
    have hd2 : (r : Int) ≤ (s.size : Int) := by omega
    have HES := Lib.hid (extract_size (s := s) (a := r) (Nat.le_refl s.size))
    obtain ⟨x, hx⟩ : ∃ x, s.extract r s.size = x := ⟨_, rfl⟩
    rcases first_or (bL (s.extract r s.size)) 10 with hno | ⟨i, hyes⟩
    · have HE := Lib.hid (jTo_tail HJ.out hr hno)
      rw [HR.out] at HE
      have HNO := Lib.hid hno
      rw [hx] at HES HNO
      have hxs : x.size ≤ 1048576 := by rw [HES.out]; omega
      clear hno
      go_wp2_with (first
        | (go_at_call 51; refine (iCutS_no x 10 HNO _).mono ?_; rintro e w' ⟨rfl, n, rfl⟩; clear hx)
        | (go_at_call 15; refine (iReadDeed x _ hxs).mono ?_; rintro e w2 ⟨rfl, hb⟩; have HO2 := Lib.hid ((HO.out.drewN _).below hb); have HB2 := Lib.hid (bel_trans (bel_drewN HB.out _) hb); clear hb))
      go_ret2
      exact ⟨_, by rw [HE.out] <;> rfl, by rw [HE.out]; exact HO2.out.below ((Below.refl _ _).alloc (Nat.le_refl _) _), HB2.out.alloc HB2.out.size _⟩
    · obtain ⟨hri, hj, hc, hxi⟩ := jTo_line HJ.out hr hyes
      obtain ⟨hy1, hy2⟩ := jTo_nl hj hc
      have HY := Lib.hid hyes
      have HY1 := Lib.hid hy1
      have HY2 := Lib.hid hy2
      have HST : Hid (rdOk (s.extract r (r + i)) = false → R = (ds, r)) := fun h => by rw [← HR.out]; exact rj_stuck (hy2 h) (by omega)
      have HLS := Lib.hid (extract_size (s := s) (a := r) (b := r + i) (by omega))
      rw [hx] at HES HY hxi
      obtain ⟨l, hl⟩ : ∃ l, s.extract r (r + i) = l := ⟨_, rfl⟩
      rw [hl] at HY1 HLS HST hxi
      have hxs : x.size ≤ 1048576 := by rw [HES.out]; omega
      have hls : l.size ≤ 1048576 := by rw [HLS.out]; omega
      have hbnd : r + l.size + 1 ≤ s.size := by rw [HLS.out]; omega
      have HLN : Hid (r + l.size + 1 = r + i + 1) := by unfold Hid; rw [HLS.out]; omega
      have HXI := Lib.hid hxi
      clear hyes hj hc hy1 hy2 hl HY2 hxi hri
      obtain ⟨f, g, ok, HRD, HOK⟩ : ∃ f g ok, Hid (∀ W : World, Calls Try.prog 15 #[.string l] W fun e w' => e = .returned (.tuple #[.agg #[.int .i64 f, .string g], .bool ok]) ∧ Below W.heap.size W w') ∧ Hid (rdOk l = ok ∧ rdV l = (f, g)) :=
        ⟨_, _, _, fun W => iReadDeed l W hls, rfl, rfl⟩
      cases ok
      · have HE := Lib.hid (HST.out HOK.out.1)
        go_wp2_with (first
          | (go_at_call 51; refine (iCutS_yes x 10 i HY hxs _).mono ?_; rintro e w' ⟨rfl, n, rfl⟩; rw [HXI.out]; clear hx)
          | (go_at_call 15; refine (HRD.out _).mono ?_; rintro e w2 ⟨rfl, hb⟩; have HO2 := Lib.hid ((HO.out.drewN _).below hb); have HB2 := Lib.hid (bel_trans (bel_drewN HB.out _) hb); clear hb))
        go_ret2
        exact ⟨_, by rw [HE.out] <;> rfl, by rw [HE.out]; exact HO2.out.below ((Below.refl _ _).alloc (Nat.le_refl _) _), HB2.out.alloc HB2.out.size _⟩
      · have HN := Lib.hid (HY1.out HOK.out.1)
        rw [HOK.out.2] at HN
        go_wp2_with (first
          | (go_at_call 51; refine (iCutS_yes x 10 i HY hxs _).mono ?_; rintro e w' ⟨rfl, n, rfl⟩; rw [HXI.out]; clear hx)
          | (go_at_call 15; refine (HRD.out _).mono ?_; rintro e w2 ⟨rfl, hb⟩; have HO2 := Lib.hid (((HO.out.drewN _).below hb).below ((Below.refl _ _).alloc (Nat.le_refl _) (.cells #[.int .i64 f, .string g] 24))); have HB2 := Lib.hid (bel_trans (bel_drewN HB.out _) hb); have HB3 := Lib.hid (HB2.out.alloc HB2.out.size (.cells #[.int .i64 f, .string g] 24)); clear hb)
          | (at_builtin; refine wp_append1D (W := w2.alloc (.cells #[.int .i64 f, .string g] 24)) rfl _ _ rfl w.heap.size u4 ds rfl HO2.out f g (by rw [World.size_alloc]; rfl) (by omega) HB3.out.size ?_; intro v' w3 ho hg; have HB4 := Lib.hid (below_appendD HB3.out HB3.out.size HO2.out (Nat.le_refl _) hg); have HO4 := Lib.hid ho; clear ho hg))
        go_roundw
        case rel => exact ⟨r + l.size + 1, _, by omega, by go_num, by rw [List.length_append, List.length_singleton]; omega, HO4, (by unfold Hid; rw [HLN.out]; exact HN.out), HB4⟩
        case measure => simp [Go.RowKit.intOf]; omega

set_option maxRecDepth 100000 in
set_option maxHeartbeats 8000000 in
theorem sReadJournal (s : ByteArray) (w : World) (hs : s.size ≤ 1048576) :
    Calls Try.prog 34 #[.string s] w fun e w' => ∃ v, e = .returned (.tuple #[v, .int .i64 ((rjV s).2 : Nat)]) ∧ OwnsD w' w.heap.size v (rjV s).1 ∧ Below w.heap.size w w' := by
  obtain ⟨R, HR⟩ : ∃ R, Hid (rjV s = R) := ⟨_, rfl⟩
  rw [HR.out]
  have HO0 : Hid (OwnsD (w.alloc (.cells #[] 24)) w.heap.size (.slice (some ⟨w.heap.size, 0, none⟩) 0 0) []) := OwnsD.lit0 w _ (Nat.le_refl _)
  go_enter Try.func34, Try.ntmps34
  go_wp2_with fail
  go_loopw [4, 5, 6] (fun o i j wr => ∃ (r k : Nat) (ds : List DeedV), r ≤ k ∧ k ≤ s.size ∧ i = .int .i64 r ∧ j = .int .i64 k ∧ ds.length ≤ r ∧ Hid (OwnsD wr w.heap.size o ds) ∧ Hid (jTo (bL s) k = (ds.map ddU, r, false)) ∧ Hid (Below w.heap.size w wr)) (fun _ _ j _ => s.size - (Go.RowKit.intOf j).toNat)
  case atStart => exact ⟨0, 0, [], Nat.le_refl _, Nat.zero_le _, rfl, rfl, Nat.zero_le _, HO0, rfl, (Below.refl _ _).alloc (Nat.le_refl _) _⟩
  case round =>
    obtain ⟨r, k, ds, hrk, hk, rfl, rfl, hdl, HO, HJ, HB⟩ := hrel
    by_cases hlt : k < s.size
    · have hd0 : (0 : Int) ≤ (k : Int) := by omega
      have hd : (k : Int) < (s.size : Int) := by omega
      have hd1 : (0 : Int) ≤ (r : Int) := by omega
      have hd2 : (r : Int) ≤ (k : Int) := by omega
      have hd3 : (k : Int) ≤ (s.size : Int) := by omega
      have hget : (bL s)[k]? = some s[k] := by unfold bL; rw [Array.getElem?_toList]; exact Array.getElem?_eq_getElem hlt
      have h10 : s[k] = 10 ↔ s[k].toNat = 10 := ⟨fun h => by rw [h]; rfl, fun h => UInt8.toNat_inj.1 h⟩
      obtain ⟨c, hc⟩ : ∃ c, s[k].toNat = c := ⟨_, rfl⟩
      rw [hc] at h10
      by_cases h : c = 10
      · have hcb : ((c : Int) == 10) = true := by rw [beq_iff_eq]; omega
        have hnl : (bL s)[k]? = some 10 := by rw [hget, h10.2 h]
        obtain ⟨hy1, hy2⟩ := jTo_nl HJ.out hnl
        have HY1 := Lib.hid hy1
        have HST : Hid (rdOk (s.extract r k) = false → R = (ds, r)) := fun h => by rw [← HR.out]; exact rj_stuck (hy2 h) (by omega)
        have HLS := Lib.hid (extract_size (s := s) (a := r) (b := k) hk)
        obtain ⟨l, hl⟩ : ∃ l, s.extract r k = l := ⟨_, rfl⟩
        rw [hl] at HY1 HLS HST
        have hls : l.size ≤ 1048576 := by rw [HLS.out]; omega
        clear hget h10 hnl hy1 hy2 h
        obtain ⟨f, g, ok, HRD, HOK⟩ : ∃ f g ok, Hid (∀ W : World, Calls Try.prog 17 #[.string l] W fun e w' => e = .returned (.tuple #[.agg #[.int .i64 f, .string g], .bool ok]) ∧ Below W.heap.size W w') ∧ Hid (rdOk l = ok ∧ rdV l = (f, g)) :=
          ⟨_, _, _, fun W => sReadDeed l W hls, rfl, rfl⟩
        cases ok
        · have HE := Lib.hid (HST.out HOK.out.1)
          go_wp2_with (go_at_call 17; refine (HRD.out _).mono ?_; rintro e w2 ⟨rfl, hb⟩; have HO2 := Lib.hid (HO.out.below hb); have HB2 := Lib.hid (bel_trans HB.out hb); clear hb)
          go_ret2
          exact ⟨_, by rw [HE.out] <;> rfl, by rw [HE.out]; exact HO2.out.below ((Below.refl _ _).alloc (Nat.le_refl _) _), HB2.out.alloc HB2.out.size _⟩
        · have HN := Lib.hid (HY1.out HOK.out.1)
          rw [HOK.out.2] at HN
          go_wp2_with (first
            | (go_at_call 17; refine (HRD.out _).mono ?_; rintro e w2 ⟨rfl, hb⟩; have HO2 := Lib.hid ((HO.out.below hb).below ((Below.refl _ _).alloc (Nat.le_refl _) (.cells #[.int .i64 f, .string g] 24))); have HB2 := Lib.hid (bel_trans HB.out hb); have HB3 := Lib.hid (HB2.out.alloc HB2.out.size (.cells #[.int .i64 f, .string g] 24)); clear hb)
            | (at_builtin; refine wp_append1D (W := w2.alloc (.cells #[.int .i64 f, .string g] 24)) rfl _ _ rfl w.heap.size u4 ds rfl HO2.out f g (by rw [World.size_alloc]; rfl) (by omega) HB3.out.size ?_; intro v' w3 ho hg; have HB4 := Lib.hid (below_appendD HB3.out HB3.out.size HO2.out (Nat.le_refl _) hg); have HO4 := Lib.hid ho; clear ho hg))
          go_roundw
          case rel => exact ⟨k + 1, k + 1, _, Nat.le_refl _, by omega, by go_num, by go_num, by rw [List.length_append, List.length_singleton]; omega, HO4, HN, HB4⟩
          case measure => simp [Go.RowKit.intOf]; omega
      · have hcb : ((c : Int) == 10) = false := by rw [beq_eq_false_iff_ne]; omega
        have HN := Lib.hid (jTo_other HJ.out (by rw [hget]; intro e; exact h (h10.1 (Option.some.inj e))))
        clear hget h10 h
        go_wp2_with fail
        go_roundw
        case rel => exact ⟨r, k + 1, ds, by omega, by omega, rfl, by go_num, hdl, HO, HN, HB⟩
        case measure => simp [Go.RowKit.intOf]; omega
    · obtain rfl : k = s.size := by omega
      have HE := Lib.hid (rj_of HJ.out)
      rw [HR.out] at HE
      go_wp2_with fail
      go_ret2
      exact ⟨_, by rw [HE.out] <;> rfl, by rw [HE.out]; exact HO.out, HB.out⟩
end Go.Proofs.Ytobgnbgmpcilgaa

namespace Go.Proofs.Ytobgnbgmpcilgaa
open Go.RowKit

def numD (k : Nat) : List UInt8 := if k = 0 then [] else numU k
theorem numD_step {k : Nat} (h : 0 < k) : numD k = numD (k / 10) ++ [(48 + k % 10).toUInt8] := by
  unfold numD
  rw [if_neg (by omega)]
  by_cases h10 : k < 10
  · rw [if_pos (by omega)]
    unfold numU
    rw [if_pos h10, Nat.mod_eq_of_lt h10]; rfl
  · rw [if_neg (by omega)]
    conv => lhs; unfold numU
    rw [if_neg h10]
/-- The text of a mark. -/
def markB (k : Nat) : ByteArray := ofL (109 :: numD k)
theorem one_byte (d : Nat) (h : d < 10) : bL (strOfNums [(48 : Int) + (d : Int)]) = [(48 + d).toUInt8] := by
  have : d = 0 ∨ d = 1 ∨ d = 2 ∨ d = 3 ∨ d = 4 ∨ d = 5 ∨ d = 6 ∨ d = 7 ∨ d = 8 ∨ d = 9 := by omega
  rcases this with rfl | rfl | rfl | rfl | rfl | rfl | rfl | rfl | rfl | rfl <;> decide
theorem one_sizeM (v : Int) : (strOfNums [v]).size = 1 := rfl
theorem conv_one (v : Int) (w : World) : (convert 22 9 (.slice (some ⟨w.heap.size, 0, none⟩) 1 1)).run Try.prog (w.alloc (.cells #[.int .u8 v] 5)) = .ok (.string (strOfNums [v])) (w.alloc (.cells #[.int .u8 v] 5)) :=
  run_convert_bytes_arg _ 22 5 Try.underlying22 Try.underlying5 _ 0 1 1 [v] rfl (fun i hi => by
    obtain rfl : i = 0 := by omega
    exact (Boxed.new w 5 (.int .u8 v)).cell) _ Try.underlying9
theorem numD_len : ∀ k : Nat, (numD k).length ≤ k := by
  intro k
  induction k using Nat.strongRecOn with
  | _ k ih =>
    by_cases h : k = 0
    · subst h; exact Nat.le_refl _
    · rw [numD_step (by omega), List.length_append, List.length_singleton]
      have := ih (k / 10) (by omega)
      omega
set_option maxRecDepth 100000 in
set_option maxHeartbeats 4000000 in
theorem lMarkText (k0 : Nat) (h1 : 1 ≤ k0) (h2 : k0 ≤ 1073741824) (w : World) :
    Calls Try.prog 60 #[.int .i64 k0] w fun e w' => e = .returned (.string (markB k0)) ∧ Below w.heap.size w w' := by
  have hcv := fun (v : Int) W => conv_one v W
  have hd : decide ((k0 : Int) ≤ 0) = false := decide_eq_false (by omega)
  go_enter Try.func60, Try.ntmps60
  go_wp2_with fail
  clear hd
  go_loopw [0, 3] (fun q o wr => ∃ (k : Nat) (u : ByteArray), k ≤ k0 ∧ q = .int .i64 k ∧ o = .string u ∧ u.size ≤ k0 - k ∧ Hid (numD k ++ bL u = numD k0) ∧ Hid (Below w.heap.size w wr)) (fun q _ _ => (Go.RowKit.intOf q).toNat)
  case atStart => exact ⟨k0, ⟨#[]⟩, Nat.le_refl _, rfl, rfl, Nat.zero_le _, List.append_nil _, Below.refl _ _⟩
  case round =>
    obtain ⟨k, u, hk, rfl, rfl, hus, HN, HB⟩ := hrel
    by_cases hlt : 0 < k
    · have hd : decide ((0 : Int) < (k : Int)) = true := decide_eq_true (by omega)
      have hz : (9223372036854775807 < (strOfNums [(48 : Int) + (k : Int) % 10]).size + u.size) = False := by rw [one_sizeM]; simp; omega
      have HNX : Hid (numD (k / 10) ++ bL (strOfNums [(48 : Int) + (k : Int) % 10] ++ u) = numD k0) := by
        unfold Hid
        rw [← HN.out, numD_step hlt, bL_append, show (48 : Int) + (k : Int) % 10 = (48 : Int) + ((k % 10 : Nat) : Int) by omega, one_byte _ (by omega), List.append_assoc]
      have HSZ : Hid ((strOfNums [(48 : Int) + (k : Int) % 10] ++ u).size ≤ k0 - k / 10) := by
        unfold Hid
        rw [ByteArray.size_append, one_sizeM]; omega
      go_wp2_with fail
      go_roundw
      case rel => exact ⟨k / 10, _, by omega, by go_num, rfl, HSZ.out, HNX, HB.out.alloc HB.out.size _⟩
      case measure => simp [Go.RowKit.intOf]; omega
    · obtain rfl : k = 0 := by omega
      have hz : (9223372036854775807 < 1 + u.size) = False := by simp; omega
      have HE : Hid (⟨#[109]⟩ ++ u = markB k0) := by
        apply bL_inj
        unfold markB
        rw [bL_append, bL_of, ← HN.out]; rfl
      go_wp2_with fail
      go_ret
      exact ⟨by rw [← HE.out] <;> rfl, HB.out⟩
end Go.Proofs.Ytobgnbgmpcilgaa

namespace Go.Proofs.Ytobgnbgmpcilgaa
open Go.RowKit

theorem results_deed2 {fn : Func} {r : Tmp} (h : fn.results = #[.cell r 24]) {tmps : Array Value} {w : World} {b : Nat} {x y : Value} (ht : tmps.getD r undef = .pointer (some ⟨b, 0, none⟩))
   (hc0 : w.cell? ⟨b, 0, none⟩ = some x) (hc1 : w.cell? ⟨b, 1, none⟩ = some y) : (results fn tmps).run Try.prog w = .ok (.agg #[x, y]) w := by
  have ht : tmps[r]?.getD undef = .pointer (some ⟨b, 0, none⟩) := by simpa using ht
  simp [results, h, ht, go_sem, hc0, hc1]
theorem bel_boxD {W : World} {T : TypeId} {a b : Value} : Below W.heap.size W (W.alloc (.cells #[a, b] T)) := (Below.refl _ _).alloc (Nat.le_refl _) _
theorem lToDeed (f : Int) (g : ByteArray) (w : World) :
    Calls Try.prog 29 #[.agg #[.int .i64 f, .string g]] w fun e w' => e = .returned (.agg #[.int .i64 f, .string g]) ∧ Below w.heap.size w w' := by
  go_enter Try.func29, Try.ntmps29
  go_wp2_with fail
  refine bodyPost_ret_by (results_deed2 (b := w.heap.size + 1) (x := .int .i64 f) (y := .string g) rfl rfl (by simp [go_sem]) (by simp [go_sem])) rfl ⟨rfl, ?_⟩
  exact ((bel_boxD).alloc (by rw [World.size_alloc]; omega) _).alloc (by rw [World.size_alloc, World.size_alloc]; omega) _
theorem lEqDeed (f : Int) (g : ByteArray) (w : World) :
    Calls Try.prog 30 #[.agg #[.int .i64 f, .string g], .agg #[.int .i64 f, .string g]] w fun e w' => e = .returned (.bool true) ∧ Below w.heap.size w w' := by
  have hd : (f != f) = false := by simp
  have hd2 := str_eq g
  go_enter Try.func30, Try.ntmps30
  go_wp2_with fail
  go_ret
  exact ⟨rfl, ((Below.refl _ _).alloc (Nat.le_refl _) _).alloc (by rw [World.size_alloc]; omega) _⟩
set_option maxHeartbeats 2000000 in
theorem lSameDeeds (A B : Option Addr) (n m c d : Nat) (ds : List DeedV) (w : World) (ha : DRow w A n c ds) (hb : DRow w B m d ds) :
    Calls Try.prog 22 #[.slice A n c, .slice B m d] w fun e w' => e = .returned (.bool true) ∧ ∃ n, w' = w.drewN n := by
  have HA := Lib.hid ha
  have HB := Lib.hid hb
  obtain rfl := ha.hn
  obtain rfl := hb.hn
  have hl := ha.hl
  have hd : ((ds.length : Int) != (ds.length : Int)) = false := by simp
  clear ha hb
  go_enter Try.func22, Try.ntmps22
  go_wp2_with fail
  go_loopw [5] (fun i wr => ∃ k : Nat, k ≤ ds.length ∧ i = .int .i64 k ∧ ∃ n, wr = w.drewN n) (fun i _ => ds.length - (Go.RowKit.intOf i).toNat)
  case atStart => exact ⟨0, Nat.zero_le _, rfl, 0, rfl⟩
  case round =>
    obtain ⟨k, hk, rfl, n, rfl⟩ := hrel
    by_cases hlt : k < ds.length
    · obtain ⟨b, off, f, g, rfl, hc0, hc1, hx, _⟩ := HA.out.hA.elem hlt
      obtain ⟨b', off', f', g', rfl, hc0', hc1', hx', _⟩ := HB.out.hA.elem hlt
      have e := hx.out.symm.trans hx'.out
      simp only [Option.some.injEq, Prod.mk.injEq] at e
      obtain ⟨rfl, rfl⟩ := e
      have hd2 := str_eq g
      go_wp2_with fail
      go_quiet (fail)
      go_wp2_with fail
      go_roundw
      case rel => exact ⟨k + 1, by omega, by go_num, _, rfl⟩
      case measure => simp [Go.RowKit.intOf]; omega
    · obtain rfl : k = ds.length := by omega
      go_wp2_with fail
      go_ret
      exact ⟨rfl, _, rfl⟩
set_option maxHeartbeats 2000000 in
theorem lEqDeedS (A B : Option Addr) (n m c d : Nat) (ds : List DeedV) (w : World) (ha : DRow w A n c ds) (hb : DRow w B m d ds) :
    Calls Try.prog 33 #[.slice A n c, .slice B m d] w fun e w' => e = .returned (.bool true) ∧ Below w.heap.size w w' := by
  have HA := Lib.hid ha
  have HB := Lib.hid hb
  obtain rfl := ha.hn
  obtain rfl := hb.hn
  have hl := ha.hl
  have hd : ((ds.length : Int) != (ds.length : Int)) = false := by simp
  clear ha hb
  go_enter Try.func33, Try.ntmps33
  go_wp2_with fail
  clear hd
  go_loopw [5] (fun i wr => ∃ k : Nat, k ≤ ds.length ∧ i = .int .i64 k ∧ Below w.heap.size w wr) (fun i _ => ds.length - (Go.RowKit.intOf i).toNat)
  case atStart => exact ⟨0, Nat.zero_le _, rfl, Below.refl _ _⟩
  case round =>
    obtain ⟨k, hk, rfl, hbel⟩ := hrel
    have HBW := Lib.hid hbel
    clear hbel
    by_cases hlt : k < ds.length
    · obtain ⟨b, off, f, g, rfl, hc0, hc1, hx, hb1⟩ := (HA.out.hA.below HBW.out).elem hlt
      obtain ⟨b', off', f', g', rfl, hc0', hc1', hx', hb2⟩ := (HB.out.hA.below HBW.out).elem hlt
      have e := hx.out.symm.trans hx'.out
      simp only [Option.some.injEq, Prod.mk.injEq] at e
      obtain ⟨rfl, rfl⟩ := e
      go_wp2_with fail
      go_region_held3 (fun w' => w'.cell? ⟨b, off + k * 2, none⟩ = some (.int .i64 f) ∧ w'.cell? ⟨b, off + k * 2 + 1, none⟩ = some (.string g) ∧ w'.cell? ⟨b', off' + k * 2, none⟩ = some (.int .i64 f) ∧ w'.cell? ⟨b', off' + k * 2 + 1, none⟩ = some (.string g))
        (first | go_keep | exact ⟨hc0, hc1, hc0', hc1'⟩ | exact HKEEP.out)
        (first | (go_at_call 30; refine (lEqDeed f g _).mono ?_; rintro e w1 ⟨rfl, hb⟩; have HKEEP := Lib.hid (And.intro (((Below.cell hb (p := ⟨b, off + k * 2, none⟩)) hb1.out).trans hc0) (And.intro (((Below.cell hb (p := ⟨b, off + k * 2 + 1, none⟩)) hb1.out).trans hc1) (And.intro (((Below.cell hb (p := ⟨b', off' + k * 2, none⟩)) hb2.out).trans hc0') (((Below.cell hb (p := ⟨b', off' + k * 2 + 1, none⟩)) hb2.out).trans hc1')))); have HB2 := Lib.hid (bel_trans (bel_drewN HBW.out 1) hb); clear hb))
      all_goals
        go_wp2_with fail
        go_roundw
        case rel => exact ⟨k + 1, by omega, by go_num, HB2.out⟩
        case measure => simp [Go.RowKit.intOf]; omega
    · obtain rfl : k = ds.length := by omega
      go_wp2_with fail
      go_ret
      exact ⟨rfl, HBW.out⟩

/-! How long they are. -/
theorem lSzDeed (f : Int) (g : ByteArray) (l : Int) (w : World) (hl0 : 0 ≤ l) (hl1 : l ≤ 1048576) (hg : g.size ≤ 9223372036854775807) :
    Calls Try.prog 28 #[.agg #[.int .i64 f, .string g], .int .i64 l] w fun e w' => ∃ q : Int, e = .returned (.int .i64 q) ∧ q ≤ l ∧ (0 ≤ q → g.size ≤ 1048576) ∧ -1 ≤ q ∧ Below w.heap.size w w' := by
  by_cases h : l - (g.size : Int) < 0
  · have hd : decide (l - (g.size : Int) < 0) = true := decide_eq_true h
    go_enter Try.func28, Try.ntmps28
    go_wp2_with fail
    go_ret
    exact ⟨-1, rfl, by omega, by omega, by omega, (Below.refl _ _).alloc (Nat.le_refl _) _⟩
  · have hd : decide (l - (g.size : Int) < 0) = false := decide_eq_false h
    go_enter Try.func28, Try.ntmps28
    go_wp2_with fail
    go_ret
    exact ⟨l - (g.size : Int), rfl, by omega, by omega, by omega, (Below.refl _ _).alloc (Nat.le_refl _) _⟩
set_option maxHeartbeats 2000000 in
theorem lSzDeedS (A : Option Addr) (n c : Nat) (ds : List DeedV) (l : Int) (w : World) (hn : n = ds.length) (hc : n ≤ c) (hm : c ≤ maxLen) (hA : Deeds w A ds) (hs : ∀ d ∈ ds, d.2.size ≤ maxLen) (hl0 : 0 ≤ l) (hl1 : l ≤ 1048576) :
    Calls Try.prog 31 #[.slice A n c, .int .i64 l] w fun e w' => ∃ q : Int, e = .returned (.int .i64 q) ∧ q ≤ l ∧ (0 ≤ q → n ≤ 1048576 ∧ ∀ d ∈ ds, d.2.size ≤ 1048576) ∧ -1 ≤ q ∧ Below w.heap.size w w' := by
  subst hn
  have hm' : ds.length ≤ 9223372036854775807 := by unfold maxLen at hm; omega
  have HA := Lib.hid hA
  have HS := Lib.hid hs
  clear hA hs hc hm
  by_cases hl : l - (ds.length : Int) < 0
  · have hd : decide (l - (ds.length : Int) < 0) = true := decide_eq_true hl
    go_enter Try.func31, Try.ntmps31
    go_wp2_with fail
    go_ret
    exact ⟨-1, rfl, by omega, by omega, by omega, Below.refl _ _⟩
  have hd : decide (l - (ds.length : Int) < 0) = false := decide_eq_false hl
  go_enter Try.func31, Try.ntmps31
  go_wp2_with fail
  clear hd
  go_loopw [1, 5] (fun q i wr => ∃ (k : Nat) (v : Int), k ≤ ds.length ∧ i = .int .i64 k ∧ q = .int .i64 v ∧ 0 ≤ v ∧ v ≤ l ∧ Hid (∀ j d, j < k → ds[j]? = some d → d.2.size ≤ 1048576) ∧ Hid (Below w.heap.size w wr)) (fun _ i _ => ds.length - (Go.RowKit.intOf i).toNat)
  case atStart => exact ⟨0, _, Nat.zero_le _, rfl, rfl, by omega, by omega, (fun j d h => by omega), Below.refl _ _⟩
  case round =>
    obtain ⟨k, v, hk, rfl, rfl, hv0, hv1, HSO, HB⟩ := hrel
    by_cases hlt : k < ds.length
    · obtain ⟨b, off, f, g, rfl, hc0, hc1, hx, _⟩ := (HA.out.below HB.out).elem hlt
      have hg := HS.out (f, g) (elem_memD hx)
      go_wp2_with fail
      refine (lSzDeed f g v _ hv0 (by omega) (by unfold maxLen at hg; exact hg)).mono ?_
      rintro e w2 ⟨q, rfl, hq1, hq2, hq3, hb⟩
      have HB2 := Lib.hid (bel_trans HB.out hb)
      have HQ := Lib.hid hq2
      clear hb hq2
      by_cases hq : q < 0
      · have hd : decide (q < 0) = true := decide_eq_true hq
        go_wp2_with fail
        go_ret
        exact ⟨-1, rfl, by omega, by omega, by omega, HB2.out⟩
      · have hd : decide (q < 0) = false := decide_eq_false hq
        have HSN : Hid (∀ j d, j < k + 1 → ds[j]? = some d → d.2.size ≤ 1048576) := by
          intro j d hj hdj
          by_cases e : j = k
          · subst e
            rw [hx.out] at hdj; cases hdj; exact HQ.out (by omega)
          · exact HSO.out j d (by omega) hdj
        go_wp2_with fail
        go_roundw
        case rel => exact ⟨k + 1, q, by omega, by go_num, rfl, by omega, by omega, HSN, HB2⟩
        case measure => simp [Go.RowKit.intOf]; omega
    · obtain rfl : k = ds.length := by omega
      have HALL : Hid (∀ d ∈ ds, d.2.size ≤ 1048576) := fun d hd => by
        obtain ⟨j, hj⟩ := List.mem_iff_getElem?.1 hd
        exact HSO.out j d (List.getElem?_eq_some_iff.1 hj).1 hj
      go_wp2_with fail
      go_ret
      exact ⟨v, rfl, by omega, fun _ => ⟨by omega, HALL.out⟩, by omega, HB.out⟩
end Go.Proofs.Ytobgnbgmpcilgaa

namespace Go.Proofs.Ytobgnbgmpcilgaa
open Go.RowKit

theorem sett_is {t k : Int} {s : ByteArray} : asksT.sett t k s = anyWithin k (issueT t s) := rfl
theorem isS_is {t : Int} {s : ByteArray} : asksT.isS t s = isT t s := rfl
set_option maxRecDepth 100000 in
theorem sSettled9 {t k : Int} {s : ByteArray} {b : Bool} (hx : Hid (asksT.isS t s = true)) (hb : Hid (asksT.sett t k s = b)) (w : World) (hk : 0 ≤ k) (hk2 : k < 256) :
    Calls Try.prog 75 #[.int .i64 t, .int .i64 k, .string s] w fun e w' => e = .returned (.bool b) ∧ Below w.heap.size w w' := by
  obtain ⟨x, hx⟩ := isS_some.1 hx.out
  have HX := Lib.hid hx
  have hi := (issueT_some hx).1
  have hlen := issueT_len t s
  rw [sett_is, hi] at hb
  rw [hi] at hlen
  have HOK : Hid (∀ y ∈ issueS t x, 0 ≤ y ∧ y < 256) := by have := issue_range (issueT_ok hx); rw [hi] at this; exact this
  obtain ⟨l, HL⟩ : ∃ l, Hid (issueS t x = l) := ⟨_, rfl⟩
  rw [HL.out] at hb hlen HOK
  clear hx hi
  go_enter Try.func75, Try.ntmps75
  go_wp2_with fail
  refine (sRead_some HX.out _).mono ?_
  rintro e w1 ⟨v, a2, rfl, _, _, ho, hbel⟩
  rw [HL.out] at ho
  obtain ⟨A, c, rfl, _, _, _, _⟩ := ho.form
  have HR := Lib.hid (Owns.row ho (by omega))
  have HB := Lib.hid hbel
  clear ho hbel
  go_wp2_with fail
  refine (sL2Settles_is hb A l.length c _ rfl hk hk2 HOK.out (by omega) (by exact HR.out.hA)).mono ?_
  rintro e w2 ⟨rfl, n, rfl⟩
  go_wp2_with fail
  go_ret
  exact ⟨rfl, bel_drewN HB.out _⟩

/-- No two of them equal, all of them open. -/
def goodTo (t k : Int) (xs : List ByteArray) : Bool := xs.all (fun s => asksT.isS t s && !asksT.sett t k s) && decide xs.Nodup
theorem good_snocS {t k : Int} {xs : List ByteArray} {x : ByteArray} (h : goodTo t k xs = true) (h1 : asksT.isS t x = true) (h2 : asksT.sett t k x = false) (h3 : x ∉ xs) : goodTo t k (xs ++ [x]) = true := by
  unfold goodTo at *
  rw [Bool.and_eq_true, decide_eq_true_eq] at *
  refine ⟨?_, ?_⟩
  · rw [List.all_append, h.1]; simp [h1, h2]
  · rw [List.nodup_append]
    exact ⟨h.2, by simp, fun a ha b hb e => by rw [List.mem_singleton] at hb; rw [e, hb] at ha; exact h3 ha⟩
theorem bad_state {t k : Int} {xs : List ByteArray} {x : ByteArray} (hm : x ∈ xs) (h : asksT.isS t x = false ∨ asksT.sett t k x = true) : stateOk asksT t ⟨k, xs⟩ = false := by
  cases hs : stateOk asksT t ⟨k, xs⟩ with
  | false => rfl
  | true =>
    obtain ⟨_, _, _, h4, _⟩ := (state_parts asksT).1 hs
    obtain ⟨h5, h6⟩ := h4 x hm
    rcases h with h | h
    · rw [h] at h5; cases h5
    · rw [h] at h6; cases h6
theorem bad_twice {t k : Int} {xs : List ByteArray} {i j : Nat} {x : ByteArray} (hi : xs[i]? = some x) (hj : xs[j]? = some x) (hne : j < i) : stateOk asksT t ⟨k, xs⟩ = false := by
  cases hs : stateOk asksT t ⟨k, xs⟩ with
  | false => rfl
  | true =>
    obtain ⟨_, _, _, _, h5⟩ := (state_parts asksT).1 hs
    obtain ⟨hi1, hi2⟩ := List.getElem?_eq_some_iff.1 hi
    obtain ⟨hj1, hj2⟩ := List.getElem?_eq_some_iff.1 hj
    exact absurd (by show xs[j] = xs[i]; rw [hj2, hi2]) (List.pairwise_iff_getElem.1 h5 j i hj1 hi1 hne)
theorem state_end {t k : Int} {xs : List ByteArray} (h : goodTo t k xs = true) : stateOk asksT t ⟨k, xs⟩ = (setOkB t k && decide (k ≠ 0) && decide (xs.length ≤ 4)) := by
  unfold goodTo at h
  rw [Bool.and_eq_true] at h
  unfold stateOk
  show (setOkB t k && decide (k ≠ 0) && decide (xs.length ≤ 4) && (xs.all fun s => asksT.isS t s && !asksT.sett t k s) && decide xs.Nodup) = _
  rw [h.1, h.2, Bool.and_true, Bool.and_true]
theorem settled_bad {t k : Int} {xs : List ByteArray} (h : setOkB t k = false) : stateOk asksT t ⟨k, xs⟩ = false := by
  unfold stateOk
  show (setOkB t k && decide (k ≠ 0) && _ && _ && _) = false
  rw [h]; rfl
/-! The same for sets that are none. -/
set_option maxHeartbeats 400000 in
theorem sBothAny (a b : Int) (w : World) : Calls Try.prog 73 #[.int .i64 a, .int .i64 b] w fun e w' => (∃ v : Int, e = .returned (.int .i64 v)) ∧ ∃ n, w' = w.drewN n := by
  go_enter Try.func73, Try.ntmps73
  go_wp2
  go_loopw [5, 6] (fun t i wr => ∃ (k : Nat) (v : Int), k ≤ 8 ∧ i = .int .i64 k ∧ t = .int .i64 v ∧ ∃ n, wr = w.drewN n) (fun _ i _ => 8 - (Go.RowKit.intOf i).toNat)
  case atStart => exact ⟨0, 0, by omega, rfl, rfl, 0, rfl⟩
  case round =>
    obtain ⟨k, v, hk, rfl, rfl, n, rfl⟩ := hrel
    by_cases hlt : k < 8
    · go_wp2
      go_quiet (fail)
      go_wp2
      go_roundw
      case rel => exact ⟨k + 1, _, by omega, by go_num, rfl, _, rfl⟩
      case measure => simp [Go.RowKit.intOf]; omega
    · obtain rfl : k = 8 := by omega
      go_wp2
      go_ret
      exact ⟨⟨_, rfl⟩, _, rfl⟩
theorem sWithinAny (a b : Int) (w : World) : Calls Try.prog 76 #[.int .i64 a, .int .i64 b] w fun e w' => (∃ v : Bool, e = .returned (.bool v)) ∧ ∃ n, w' = w.drewN n := by
  go_enter Try.func76, Try.ntmps76
  go_wp2_with fail
  refine (sBothAny a b _).mono ?_
  rintro e w' ⟨⟨v, rfl⟩, n, rfl⟩
  go_wp2_with fail
  go_ret
  exact ⟨⟨_, rfl⟩, _, rfl⟩
set_option maxHeartbeats 1000000 in
theorem sL2SettlesAny (A : Option Addr) (n c : Nat) (xs : List Int) (s : Int) (w : World) (hn : n = xs.length) (hl : n ≤ 1048576) (hA : Nums .i64 w A xs) :
    Calls Try.prog 83 #[.slice A n c, .int .i64 s] w fun e w' => (∃ v : Bool, e = .returned (.bool v)) ∧ ∃ n, w' = w.drewN n := by
  subst hn
  have HA := Lib.hid hA
  clear hA
  go_enter Try.func83, Try.ntmps83
  go_wp2
  go_loopw [5] (fun i wr => ∃ k : Nat, k ≤ xs.length ∧ i = .int .i64 k ∧ ∃ n, wr = w.drewN n) (fun i _ => xs.length - (Go.RowKit.intOf i).toNat)
  case atStart => exact ⟨0, Nat.zero_le _, rfl, 0, rfl⟩
  case round =>
    obtain ⟨k, hk, rfl, n, rfl⟩ := hrel
    by_cases hlt : k < xs.length
    · obtain ⟨b, off, x, rfl, hcell, hx, _⟩ := HA.out.elem hlt
      go_wp2_with fail
      refine (sWithinAny s x _).mono ?_
      rintro e w' ⟨⟨v, rfl⟩, m, rfl⟩
      cases v
      · go_wp2_with fail
        go_roundw
        case rel => exact ⟨k + 1, by omega, by go_num, _, rfl⟩
        case measure => simp [Go.RowKit.intOf]; omega
      · go_wp2_with fail
        go_ret
        exact ⟨⟨_, rfl⟩, _, rfl⟩
    · obtain rfl : k = xs.length := by omega
      go_wp2
      go_ret
      exact ⟨⟨_, rfl⟩, _, rfl⟩
set_option maxRecDepth 100000 in
theorem sSettledAny {t k : Int} {s : ByteArray} (hx : Hid (asksT.isS t s = true)) (w : World) :
    Calls Try.prog 75 #[.int .i64 t, .int .i64 k, .string s] w fun e w' => ∃ b : Bool, e = .returned (.bool b) ∧ (setOkB t k = true → b = asksT.sett t k s) ∧ Below w.heap.size w w' := by
  by_cases hk : setOkB t k = true
  · obtain ⟨_, _, h0, _, h256⟩ := setOkB_lt hk
    refine (sSettled9 hx (b := asksT.sett t k s) rfl w h0 h256).mono ?_
    rintro e w' ⟨rfl, hb⟩
    exact ⟨_, rfl, fun _ => rfl, hb⟩
  obtain ⟨x, hx⟩ := isS_some.1 hx.out
  have HX := Lib.hid hx
  have hi := (issueT_some hx).1
  have hlen := issueT_len t s
  rw [hi] at hlen
  obtain ⟨l, HL⟩ : ∃ l, Hid (issueS t x = l) := ⟨_, rfl⟩
  rw [HL.out] at hlen
  have HK := Lib.hid hk
  clear hx hi hk
  go_enter Try.func75, Try.ntmps75
  go_wp2_with fail
  refine (sRead_some HX.out _).mono ?_
  rintro e w1 ⟨v, a2, rfl, _, _, ho, hbel⟩
  rw [HL.out] at ho
  obtain ⟨A, c, rfl, _, _, _, _⟩ := ho.form
  have HR := Lib.hid (Owns.row ho (by omega))
  have HB := Lib.hid hbel
  clear ho hbel
  go_wp2_with fail
  refine (sL2SettlesAny A l.length c l k _ rfl (by omega) (by exact HR.out.hA)).mono ?_
  rintro e w2 ⟨⟨b, rfl⟩, n, rfl⟩
  go_wp2_with fail
  go_ret
  exact ⟨b, rfl, fun h => absurd h HK.out, bel_drewN HB.out _⟩
end Go.Proofs.Ytobgnbgmpcilgaa
