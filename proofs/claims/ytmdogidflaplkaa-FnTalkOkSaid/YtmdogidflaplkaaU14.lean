/-
  What the proofs of this seat's statements share (Iss, Imp, Srd, Sre).
-/
import Derived.Lib.IndexAny
import Derived.Test.YtmdogidflaplkaaU13
import Derived.Test.YtmdogidflaplkaaU8

namespace Go.Proofs.Ytmdogidflaplkaa
open Go.RowKit

def OwnPost (l : List Int) (w : World) (e : Ending) (w' : World) : Prop := ∃ v, e = .returned v ∧ Owns w' w.heap.size v l ∧ Below w.heap.size w w'
theorem node_cells_below {w W : World} {b sg : Nat} {q r : Option Addr} (h : NodeAt w b sg q r) (hb : Below w.heap.size w W) : W.cell? ⟨b, 1, none⟩ = some (.pointer q) ∧ W.cell? ⟨b, 2, none⟩ = some (.pointer r) := by
  have := node_cells ((hb.block b (Array.getElem?_eq_some_iff.1 h).1).trans h)
  exact ⟨this.2.1, this.2.2.1⟩

set_option maxRecDepth 100000 in
set_option maxHeartbeats 4000000 in
theorem iIssNot (t : Int) (b : Nat) (q r : Option Addr) (w : World) (a : List Int) (ha : a.length ≤ 70) (hn : NodeAt w b 33 q r)
    (hk : ∀ W, Below w.heap.size w W → Calls Try.prog 63 #[.int .i64 t, .pointer q] W (OwnPost a W)) :
    Calls Try.prog 63 #[.int .i64 t, .pointer (some ⟨b, 0, none⟩)] w (OwnPost (notL t a) w) := by
  obtain ⟨hc0, hc1, hc2, hlt⟩ := node_cells hn
  have HK := Lib.hid hk
  have hc0 : w.cell? ⟨b, 0, none⟩ = some (.int .u8 33) := hc0
  clear hk hn
  go_enter Try.func63, Try.ntmps63
  go_wp2_with fail
  refine (HK.out _ (Below.refl _ _)).mono ?_
  rintro e w1 ⟨v, rfl, ho, hb⟩
  obtain ⟨A1, c1, rfl, _, _, _, _⟩ := ho.form
  have HR := Lib.hid (Owns.row ho (by omega))
  have HB := Lib.hid hb
  clear ho hb
  go_wp2_with fail
  refine (iNotIssue t _ _ _ a _ HR.out).mono ?_
  rintro e w2 ⟨v, rfl, ho, hb⟩
  have HO := Lib.hid (ho.base HB.out.size)
  have HB2 := Lib.hid (bel_trans HB.out hb)
  clear ho hb
  go_wp2_with fail
  go_ret
  exact ⟨_, rfl, HO.out, HB2.out⟩
set_option maxRecDepth 100000 in
set_option maxHeartbeats 4000000 in
theorem iIssWhether (t : Int) (b : Nat) (q r : Option Addr) (w : World) (a : List Int) (ha : a.length ≤ 70) (hn : NodeAt w b 63 q r)
    (hk : ∀ W, Below w.heap.size w W → Calls Try.prog 63 #[.int .i64 t, .pointer q] W (OwnPost a W)) :
    Calls Try.prog 63 #[.int .i64 t, .pointer (some ⟨b, 0, none⟩)] w (OwnPost (whetherL t a) w) := by
  obtain ⟨hc0, hc1, hc2, hlt⟩ := node_cells hn
  have HK := Lib.hid hk
  have hc0 : w.cell? ⟨b, 0, none⟩ = some (.int .u8 63) := hc0
  clear hk hn
  go_enter Try.func63, Try.ntmps63
  go_wp2_with fail
  refine (HK.out _ (Below.refl _ _)).mono ?_
  rintro e w1 ⟨v, rfl, ho, hb⟩
  obtain ⟨A1, c1, rfl, _, _, _, _⟩ := ho.form
  have HR := Lib.hid (Owns.row ho (by omega))
  have HB := Lib.hid hb
  clear ho hb
  go_wp2_with fail
  refine (iWhetherIssue t _ _ _ a _ HR.out).mono ?_
  rintro e w2 ⟨v, rfl, ho, hb⟩
  have HO := Lib.hid (ho.base HB.out.size)
  have HB2 := Lib.hid (bel_trans HB.out hb)
  clear ho hb
  go_wp2_with fail
  go_ret
  exact ⟨_, rfl, HO.out, HB2.out⟩
set_option maxRecDepth 100000 in
set_option maxHeartbeats 4000000 in
theorem iIssBoth (t : Int) (b : Nat) (q r : Option Addr) (w : World) (a c : List Int) (ha : a.length ≤ 70) (hc : c.length ≤ 70) (hn : NodeAt w b 38 q r)
    (hk : ∀ W, Below w.heap.size w W → Calls Try.prog 63 #[.int .i64 t, .pointer q] W (OwnPost a W))
    (hk2 : ∀ W, Below w.heap.size w W → Calls Try.prog 63 #[.int .i64 t, .pointer r] W (OwnPost c W)) :
    Calls Try.prog 63 #[.int .i64 t, .pointer (some ⟨b, 0, none⟩)] w (OwnPost (bothL t a c) w) := by
  obtain ⟨hc0, hc1, hc2, hlt⟩ := node_cells hn
  have HK := Lib.hid hk
  have HK2 := Lib.hid hk2
  have HN := Lib.hid hn
  have hc0 : w.cell? ⟨b, 0, none⟩ = some (.int .u8 38) := hc0
  have HBd : Hid (Below w.heap.size w w.drew) := bel_drewN (Below.refl _ w) 1
  clear hk hn hk2
  go_enter Try.func63, Try.ntmps63
  go_wp2_with fail
  go_region_held3 (fun w' => w'.cell? ⟨b, 1, none⟩ = some (.pointer q) ∧ w'.cell? ⟨b, 2, none⟩ = some (.pointer r))
    (first | go_keep | exact node_cells_below HN.out HB3.out | exact node_cells_below HN.out HB2.out | exact node_cells_below HN.out HB1.out)
    (first
      | (go_at_call 63; ((with_reducible refine (HK.out w.drew HBd.out).mono ?_)); rintro e w1 ⟨v, rfl, ho, hb⟩; obtain ⟨A1, c1, rfl, _, _, _, _⟩ := ho.form; have HR1 := Lib.hid (Owns.row ho (by omega)); have HB1 : Hid (Below w.heap.size w w1) := bel_trans HBd.out hb; clear ho hb HK HBd)
      | (go_at_call 63; ((with_reducible refine (HK2.out _ HB1.out).mono ?_)); rintro e w2 ⟨v, rfl, ho, hb⟩; obtain ⟨A2, c2, rfl, _, _, _, _⟩ := ho.form; have HR2 := Lib.hid (Owns.row ho (by omega)); replace HR1 := Lib.hid (HR1.out.below hb); have HB2 : Hid (Below w.heap.size w w2) := bel_trans HB1.out hb; clear ho hb HK2 HB1)
      | (go_at_call 77; refine (iBothIssues t _ _ _ _ _ _ a c _ HR1.out HR2.out).mono ?_; rintro e w3 ⟨v, rfl, ho, hb⟩; have HO := Lib.hid (ho.base HB2.out.size); have HB3 : Hid (Below w.heap.size w w3) := bel_trans HB2.out hb; clear ho hb))
  go_wp2_with fail
  go_ret
  exact ⟨_, rfl, HO.out, HB3.out⟩
set_option maxRecDepth 100000 in
set_option maxHeartbeats 4000000 in
theorem iIssEither (t : Int) (b : Nat) (q r : Option Addr) (w : World) (a c : List Int) (ha : a.length ≤ 70) (hc : c.length ≤ 70) (hn : NodeAt w b 124 q r)
    (hk : ∀ W, Below w.heap.size w W → Calls Try.prog 63 #[.int .i64 t, .pointer q] W (OwnPost a W))
    (hk2 : ∀ W, Below w.heap.size w W → Calls Try.prog 63 #[.int .i64 t, .pointer r] W (OwnPost c W)) :
    Calls Try.prog 63 #[.int .i64 t, .pointer (some ⟨b, 0, none⟩)] w (OwnPost (eitherL t a c) w) := by
  obtain ⟨hc0, hc1, hc2, hlt⟩ := node_cells hn
  have HK := Lib.hid hk
  have HK2 := Lib.hid hk2
  have HN := Lib.hid hn
  have hc0 : w.cell? ⟨b, 0, none⟩ = some (.int .u8 124) := hc0
  have HBd : Hid (Below w.heap.size w w.drew) := bel_drewN (Below.refl _ w) 1
  clear hk hn hk2
  go_enter Try.func63, Try.ntmps63
  go_wp2_with fail
  go_region_held3 (fun w' => w'.cell? ⟨b, 1, none⟩ = some (.pointer q) ∧ w'.cell? ⟨b, 2, none⟩ = some (.pointer r))
    (first | go_keep | exact node_cells_below HN.out HB3.out | exact node_cells_below HN.out HB2.out | exact node_cells_below HN.out HB1.out)
    (first
      | (go_at_call 63; ((with_reducible refine (HK.out w.drew HBd.out).mono ?_)); rintro e w1 ⟨v, rfl, ho, hb⟩; obtain ⟨A1, c1, rfl, _, _, _, _⟩ := ho.form; have HR1 := Lib.hid (Owns.row ho (by omega)); have HB1 : Hid (Below w.heap.size w w1) := bel_trans HBd.out hb; clear ho hb HK HBd)
      | (go_at_call 63; ((with_reducible refine (HK2.out _ HB1.out).mono ?_)); rintro e w2 ⟨v, rfl, ho, hb⟩; obtain ⟨A2, c2, rfl, _, _, _, _⟩ := ho.form; have HR2 := Lib.hid (Owns.row ho (by omega)); replace HR1 := Lib.hid (HR1.out.below hb); have HB2 : Hid (Below w.heap.size w w2) := bel_trans HB1.out hb; clear ho hb HK2 HB1)
      | (go_at_call 78; refine (iEitherIssue t _ _ _ _ _ _ a c _ HR1.out HR2.out).mono ?_; rintro e w3 ⟨v, rfl, ho, hb⟩; have HO := Lib.hid (ho.base HB2.out.size); have HB3 : Hid (Below w.heap.size w w3) := bel_trans HB2.out hb; clear ho hb))
  go_wp2_with fail
  go_ret
  exact ⟨_, rfl, HO.out, HB3.out⟩
set_option maxRecDepth 100000 in
set_option maxHeartbeats 4000000 in
theorem iIssIf (t : Int) (b : Nat) (q r : Option Addr) (w : World) (a c : List Int) (ha : a.length ≤ 70) (hc : c.length ≤ 70) (hn : NodeAt w b 62 q r)
    (hk : ∀ W, Below w.heap.size w W → Calls Try.prog 63 #[.int .i64 t, .pointer q] W (OwnPost a W))
    (hk2 : ∀ W, Below w.heap.size w W → Calls Try.prog 63 #[.int .i64 t, .pointer r] W (OwnPost c W)) :
    Calls Try.prog 63 #[.int .i64 t, .pointer (some ⟨b, 0, none⟩)] w (OwnPost (ifL t a c) w) := by
  obtain ⟨hc0, hc1, hc2, hlt⟩ := node_cells hn
  have HK := Lib.hid hk
  have HK2 := Lib.hid hk2
  have HN := Lib.hid hn
  have hc0 : w.cell? ⟨b, 0, none⟩ = some (.int .u8 62) := hc0
  have HBd : Hid (Below w.heap.size w w.drew) := bel_drewN (Below.refl _ w) 1
  clear hk hn hk2
  go_enter Try.func63, Try.ntmps63
  go_wp2_with fail
  go_region_held3 (fun w' => w'.cell? ⟨b, 1, none⟩ = some (.pointer q) ∧ w'.cell? ⟨b, 2, none⟩ = some (.pointer r))
    (first | go_keep | exact node_cells_below HN.out HB3.out | exact node_cells_below HN.out HB2.out | exact node_cells_below HN.out HB1.out)
    (first
      | (go_at_call 63; ((with_reducible refine (HK.out w.drew HBd.out).mono ?_)); rintro e w1 ⟨v, rfl, ho, hb⟩; obtain ⟨A1, c1, rfl, _, _, _, _⟩ := ho.form; have HR1 := Lib.hid (Owns.row ho (by omega)); have HB1 : Hid (Below w.heap.size w w1) := bel_trans HBd.out hb; clear ho hb HK HBd)
      | (go_at_call 63; ((with_reducible refine (HK2.out _ HB1.out).mono ?_)); rintro e w2 ⟨v, rfl, ho, hb⟩; obtain ⟨A2, c2, rfl, _, _, _, _⟩ := ho.form; have HR2 := Lib.hid (Owns.row ho (by omega)); replace HR1 := Lib.hid (HR1.out.below hb); have HB2 : Hid (Below w.heap.size w w2) := bel_trans HB1.out hb; clear ho hb HK2 HB1)
      | (go_at_call 79; refine (iIfIssue t _ _ _ _ _ _ a c _ HR1.out HR2.out).mono ?_; rintro e w3 ⟨v, rfl, ho, hb⟩; have HO := Lib.hid (ho.base HB2.out.size); have HB3 : Hid (Below w.heap.size w w3) := bel_trans HB2.out hb; clear ho hb))
  go_wp2_with fail
  go_ret
  exact ⟨_, rfl, HO.out, HB3.out⟩
set_option maxRecDepth 100000 in
set_option maxHeartbeats 4000000 in
theorem iIssWord (t : Int) (b c : Nat) (q r : Option Addr) (w : World) (h1 : 1 ≤ t) (h3 : t ≤ 3) (hc : isWord c) (hn : NodeAt w b c q r) :
    Calls Try.prog 63 #[.int .i64 t, .pointer (some ⟨b, 0, none⟩)] w (OwnPost (statementL t (wordTo c (nWorlds t))) w) := by
  obtain ⟨hc0, hc1, hc2, hlt⟩ := node_cells hn
  obtain ⟨hw, hw8⟩ := worlds_n h1 h3
  have HW := Lib.hid hw
  have HC := Lib.hid hc
  obtain ⟨n, HNW⟩ : ∃ n, Hid (nWorlds t = n) := ⟨_, rfl⟩
  clear hn hw
  rw [HNW.out] at hw8 HW ⊢
  obtain ⟨g, HG⟩ : ∃ g : Nat, Hid (wordTo c n = g) := ⟨_, rfl⟩
  rw [HG.out]
  rcases hc with rfl | rfl | rfl | rfl | rfl
  all_goals
    go_enter Try.func63, Try.ntmps63
    go_wp2_with fail
    refine (iWorldsOfWord _ _ HW.out hw8 _ _ HC.out).mono ?_
    rintro e w' ⟨rfl, rfl⟩
    rw [HG.out]
    go_wp2_with fail
    refine (iStatementOf _ _ _).mono ?_
    rintro e w2 ⟨v, rfl, ho, hb⟩
    have HO := Lib.hid ho
    have HB := Lib.hid hb
    clear ho hb
    go_wp2_with fail
    go_ret
    exact ⟨_, rfl, HO.out, HB.out⟩
theorem statement_ok {t s : Int} (h : setOkB t s = true) : statementL t s = [s] := by unfold statementL; rw [h]; rfl
theorem iIssueS (t : Int) (h1 : 1 ≤ t) (h3 : t ≤ 3) : ∀ (x : Sen) (p : Option Addr) (lo : Nat) (w : World), senOk t x = true → SenAt w lo x p →
    Calls Try.prog 63 #[.int .i64 t, .pointer p] w (OwnPost (issueS t x) w)
  | .no a, _, lo, w, hx, ⟨b, q, rfl, _, hn, h⟩ => iIssNot t b q none w _ (issue_ne (sen_issue h1 h3 a)).2 hn (fun W hb => iIssueS t h1 h3 a q lo W hx (h.below hb))
  | .ask a, _, lo, w, hx, ⟨b, q, rfl, _, hn, h⟩ => iIssWhether t b q none w _ (issue_ne (sen_issue h1 h3 a)).2 hn (fun W hb => iIssueS t h1 h3 a q lo W hx (h.below hb))
  | .and_ a c, _, lo, w, hx, ⟨b, q, r, rfl, _, hn, h, h2⟩ => by
    unfold senOk at hx
    rw [Bool.and_eq_true] at hx
    exact iIssBoth t b q r w _ _ (issue_ne (sen_issue h1 h3 a)).2 (issue_ne (sen_issue h1 h3 c)).2 hn (fun W hb => iIssueS t h1 h3 a q lo W hx.1 (h.below hb)) (fun W hb => iIssueS t h1 h3 c r lo W hx.2 (h2.below hb))
  | .or_ a c, _, lo, w, hx, ⟨b, q, r, rfl, _, hn, h, h2⟩ => by
    unfold senOk at hx
    rw [Bool.and_eq_true] at hx
    exact iIssEither t b q r w _ _ (issue_ne (sen_issue h1 h3 a)).2 (issue_ne (sen_issue h1 h3 c)).2 hn (fun W hb => iIssueS t h1 h3 a q lo W hx.1 (h.below hb)) (fun W hb => iIssueS t h1 h3 c r lo W hx.2 (h2.below hb))
  | .if_ a c, _, lo, w, hx, ⟨b, q, r, rfl, _, hn, h, h2⟩ => by
    unfold senOk at hx
    rw [Bool.and_eq_true] at hx
    exact iIssIf t b q r w _ _ (issue_ne (sen_issue h1 h3 a)).2 (issue_ne (sen_issue h1 h3 c)).2 hn (fun W hb => iIssueS t h1 h3 a q lo W hx.1 (h.below hb)) (fun W hb => iIssueS t h1 h3 c r lo W hx.2 (h2.below hb))
  | .one, _, _, w, hx, ⟨b, rfl, _, hn⟩ => by
    have := iIssWord t b 49 none none w h1 h3 (.inr (.inl rfl)) hn
    rw [word_one h1 h3, statement_ok (setOk_of h1 h3 (allOf_lt t).1 (Int.le_refl _))] at this
    exact this
  | .zero, _, _, w, hx, ⟨b, rfl, _, hn⟩ => by
    have := iIssWord t b 48 none none w h1 h3 (.inl rfl) hn
    rw [word_zero h1 h3, statement_ok (setOk_of h1 h3 (Int.le_refl _) (allOf_lt t).1)] at this
    exact this
  | .thing i, _, _, w, hx, ⟨b, rfl, _, hn⟩ => by
    have hi : (i : Int) < t := of_decide_eq_true hx
    have := iIssWord t b (97 + i) none none w h1 h3 (by unfold isWord; omega) hn
    rw [word_thing h1 h3 hi, statement_ok (letter_ok h1 h3 i)] at this
    exact this
end Go.Proofs.Ytmdogidflaplkaa

namespace Go.Proofs.Ytmdogidflaplkaa
open Go.RowKit

def senT (t : Int) (s : ByteArray) : Option Sen := senOf t (bytesN s)
def issueT (t : Int) (s : ByteArray) : List Int := match senT t s with | some x => issueS t x | none => []
def isT (t : Int) (s : ByteArray) : Bool := (senT t s).isSome
def supportsT (t k : Int) (s : ByteArray) : Bool := match senT t s with | some x => setOkB t k && holdsS t x k | none => false
def plainT (t : Int) (s : ByteArray) : Bool := match senT t s with | some x => plainS x | none => false
def trueT (t : Int) (s : ByteArray) : Int := match senT t s with | some x => (trueTo t x (nWorlds t) : Int) | none => -1
def entailsT (t : Int) (s u : ByteArray) : Bool := match senT t s, senT t u with | some x, some y => followsB t (issueS t x) (issueS t y) | _, _ => false
theorem senT_ok {t : Int} {s : ByteArray} {x : Sen} (h : senT t s = some x) : 1 ≤ t ∧ t ≤ 3 ∧ s.size ≤ 60 ∧ senOk t x = true ∧ bytesN s = textS x := by
  have := senOf_iff.1 h
  rwa [bytesN_len] at this
theorem iRead_none {t : Int} {s : ByteArray} (h : Hid (senT t s = none)) (w : World) (hs : s.size ≤ 9223372036854775807) :
    Calls Try.prog 62 #[.int .i64 t, .string s] w fun e w' => e = .returned (.tuple #[.pointer none, .bool false]) ∧ Below w.heap.size w w' := by
  refine (iReadS t s w hs).mono ?_
  intro e w' hp
  unfold SentPost at hp
  rw [show senOf t (bytesN s) = none from h.out] at hp
  exact hp
theorem iRead_some {t : Int} {s : ByteArray} {x : Sen} (h : Hid (senT t s = some x)) (w : World) (hs : s.size ≤ 9223372036854775807) :
    Calls Try.prog 62 #[.int .i64 t, .string s] w fun e w' => ∃ p, e = .returned (.tuple #[.pointer p, .bool true]) ∧ SenAt w' w.heap.size x p ∧ Below w.heap.size w w' := by
  refine (iReadS t s w hs).mono ?_
  intro e w' hp
  unfold SentPost at hp
  rw [show senOf t (bytesN s) = some x from h.out] at hp
  exact hp

def IssueOfPost (l : List Int) (b : Bool) (w : World) (e : Ending) (w' : World) : Prop := ∃ v, e = .returned (.tuple #[v, .bool b]) ∧ Owns w' w.heap.size v l ∧ Below w.heap.size w w'
theorem issueT_none {t : Int} {s : ByteArray} (h : senT t s = none) : issueT t s = [] ∧ isT t s = false := by unfold issueT isT; rw [h]; exact ⟨rfl, rfl⟩
theorem issueT_some {t : Int} {s : ByteArray} {x : Sen} (h : senT t s = some x) : issueT t s = issueS t x ∧ isT t s = true := by unfold issueT isT; rw [h]; exact ⟨rfl, rfl⟩

set_option maxRecDepth 100000 in
set_option maxHeartbeats 4000000 in
theorem iIssueOf (t : Int) (s : ByteArray) (w : World) (hs : s.size ≤ 9223372036854775807) :
    Calls Try.prog 56 #[.int .i64 t, .string s] w (IssueOfPost (issueT t s) (isT t s) w) := by
  rcases hx : senT t s with _ | x
  · have HX := Lib.hid hx
    obtain ⟨e1, e2⟩ := issueT_none hx
    rw [e1, e2]
    clear hx e1 e2
    go_enter Try.func56, Try.ntmps56
    go_wp2_with fail
    refine (iRead_none HX _ hs).mono ?_
    rintro e w1 ⟨rfl, hb⟩
    have HB := Lib.hid hb
    clear hb
    go_wp2_with fail
    go_ret2
    exact ⟨_, rfl, Owns.nil _ _, HB.out⟩
  · have HX := Lib.hid hx
    obtain ⟨h1, h3, _, hok, _⟩ := senT_ok hx
    obtain ⟨e1, e2⟩ := issueT_some hx
    rw [e1, e2]
    clear hx e1 e2
    go_enter Try.func56, Try.ntmps56
    go_wp2_with fail
    refine (iRead_some HX _ hs).mono ?_
    rintro e w1 ⟨p, rfl, hn, hb⟩
    have HI := Lib.hid (iIssueS t h1 h3 x p _ _ hok hn)
    have HB := Lib.hid hb
    clear hb hn
    go_wp2_with fail
    refine HI.out.mono ?_
    rintro e w2 ⟨v, rfl, ho, hb⟩
    have HO := Lib.hid (ho.base HB.out.size)
    have HB2 := Lib.hid (bel_trans HB.out hb)
    clear ho hb
    go_wp2_with fail
    go_ret2
    exact ⟨_, rfl, HO.out, HB2.out⟩

theorem indexAny_any : ∀ (l chars : List UInt8), Lib.containsAny l chars = l.any fun b => chars.contains b
  | [], chars => rfl
  | b :: l, chars => by
    have ih := indexAny_any l chars
    have hg := Lib.indexAny_ge chars l
    unfold Lib.containsAny at *
    rw [Lib.indexAny, List.any_cons, ← ih]
    cases h : chars.contains b
    · simp only [Bool.false_eq_true, if_false, Bool.false_or]
      by_cases h2 : Lib.indexAny l chars = -1
      · rw [h2]; rfl
      · have : (Lib.indexAny l chars == -1) = false := by rw [beq_eq_false_iff_ne]; exact h2
        rw [this]
        simp only [Bool.false_eq_true, if_false, decide_eq_decide]
        omega
    · simp
def askB (c : Nat) : Bool := decide (c = 124) || decide (c = 63)
theorem text_plain {t : Int} (h3 : t ≤ 3) : ∀ x : Sen, senOk t x = true → (textS x).any askB = !plainS x
  | .one, _ => rfl
  | .zero, _ => rfl
  | .thing i, h => by
    have : (i : Int) < t := of_decide_eq_true h
    simp [textS, plainS, askB]; omega
  | .no x, h => by
    have := text_plain h3 x h
    simp only [textS, plainS, List.any_cons, this]; rfl
  | .ask x, h => by simp [textS, plainS, askB]
  | .and_ x y, h => by
    unfold senOk at h
    rw [Bool.and_eq_true] at h
    have e1 := text_plain h3 x h.1
    have e2 := text_plain h3 y h.2
    simp only [textS, plainS, List.any_cons, List.any_append, e1, e2, List.any_nil, Bool.not_and]
    simp [askB]
  | .or_ x y, h => by simp [textS, plainS, askB]
  | .if_ x y, h => by
    unfold senOk at h
    rw [Bool.and_eq_true] at h
    have e1 := text_plain h3 x h.1
    have e2 := text_plain h3 y h.2
    simp only [textS, plainS, List.any_cons, List.any_append, e1, e2, List.any_nil, Bool.not_and]
    simp [askB]
theorem text_ascii {t : Int} (h3 : t ≤ 3) : ∀ x : Sen, senOk t x = true → ∀ c ∈ textS x, c < 128
  | .one, _ => by simp [textS]
  | .zero, _ => by simp [textS]
  | .thing i, h => by
    have : (i : Int) < t := of_decide_eq_true h
    simp [textS]; omega
  | .no x, h => by
    have := text_ascii h3 x h
    intro c hc; rcases List.mem_cons.1 hc with rfl | hc
    · omega
    · exact this c hc
  | .ask x, h => by
    have := text_ascii h3 x h
    intro c hc; rcases List.mem_cons.1 hc with rfl | hc
    · omega
    · exact this c hc
  | .and_ x y, h => by
    unfold senOk at h
    rw [Bool.and_eq_true] at h
    have e1 := text_ascii h3 x h.1
    have e2 := text_ascii h3 y h.2
    intro c hc
    simp only [textS, List.mem_cons, List.mem_append, List.not_mem_nil, or_false] at hc
    rcases hc with rfl | hc | rfl | hc | rfl <;> first | omega | exact e1 c hc | exact e2 c hc
  | .or_ x y, h => by
    unfold senOk at h
    rw [Bool.and_eq_true] at h
    have e1 := text_ascii h3 x h.1
    have e2 := text_ascii h3 y h.2
    intro c hc
    simp only [textS, List.mem_cons, List.mem_append, List.not_mem_nil, or_false] at hc
    rcases hc with rfl | hc | rfl | hc | rfl <;> first | omega | exact e1 c hc | exact e2 c hc
  | .if_ x y, h => by
    unfold senOk at h
    rw [Bool.and_eq_true] at h
    have e1 := text_ascii h3 x h.1
    have e2 := text_ascii h3 y h.2
    intro c hc
    simp only [textS, List.mem_cons, List.mem_append, List.not_mem_nil, or_false] at hc
    rcases hc with rfl | hc | rfl | hc | rfl <;> first | omega | exact e1 c hc | exact e2 c hc
theorem sen_contains {t : Int} {s : ByteArray} {x : Sen} (h : senT t s = some x) : Lib.containsAny s.data.toList (ByteArray.mk #[124, 63]).data.toList = !plainS x := by
  obtain ⟨h1, h3, _, hok, ht⟩ := senT_ok h
  rw [indexAny_any, ← text_plain h3 x hok, ← ht]
  unfold bytesN
  rw [List.any_map]
  congr 1
  funext c
  have e : ∀ k : UInt8, c = k ↔ c.toNat = k.toNat := fun k => UInt8.toNat_inj.symm
  rw [Bool.eq_iff_iff]
  simp [askB, e]
theorem sen_ascii {t : Int} {s : ByteArray} {x : Sen} (h : senT t s = some x) : ∀ (j : Nat) b, s.data.toList[j]? = some b → b.toNat < 128 := by
  obtain ⟨h1, h3, _, hok, ht⟩ := senT_ok h
  intro j b hb
  refine text_ascii h3 x hok _ ?_
  rw [← ht]
  unfold bytesN
  exact List.mem_map.2 ⟨b, List.mem_of_getElem? hb, rfl⟩
theorem trueTo_lt (t : Int) (x : Sen) : ∀ k, k ≤ 8 → trueTo t x k < 2 ^ k
  | 0, _ => by simp [trueTo]
  | k + 1, h => by
    have := trueTo_lt t x k (by omega)
    unfold trueTo
    rw [Nat.pow_succ]
    split <;> omega
theorem true_or {t : Int} {x : Sen} {k : Nat} (hk : k ≤ 7) (h : holdsS t x (worldS k) = true) : trueTo t x k ||| 2 ^ k = trueTo t x (k + 1) := by
  have := trueTo_lt t x k (by omega)
  conv => rhs; unfold trueTo
  have e := Nat.two_pow_add_eq_or_of_lt this 1
  rw [Nat.mul_one] at e
  rw [if_pos h, Nat.or_comm, ← e, Nat.add_comm]
theorem true_skip {t : Int} {x : Sen} {k : Nat} (h : holdsS t x (worldS k) = false) : trueTo t x k = trueTo t x (k + 1) := by
  conv => rhs; unfold trueTo
  rw [if_neg (by rw [h]; decide)]; rfl

end Go.Proofs.Ytmdogidflaplkaa

namespace Go.Proofs.Ytmdogidflaplkaa
open Go.RowKit

def SNone (w : World) (e : Ending) (w' : World) : Prop := ∃ A n c, e = .returned (.tuple #[.slice A n c, .bool false, .int .i64 (-1)]) ∧ Below w.heap.size w w'
def SSome (t : Int) (s : ByteArray) (x : Sen) (rest : List Nat) (w : World) (e : Ending) (w' : World) : Prop :=
  ∃ v, ∃ a2 : Nat, e = .returned (.tuple #[v, .bool (plainS x), .int .i64 a2]) ∧ a2 ≤ s.size ∧ (bytesN s).drop a2 = rest ∧ Owns w' w.heap.size v (issueS t x) ∧ Below w.heap.size w w'
def SRead (t : Int) (s : ByteArray) (o : Option (Sen × List Nat)) (w : World) (e : Ending) (w' : World) : Prop :=
  match o with
  | some (x, rest) => SSome t s x rest w e w'
  | none => SNone w e w'
def SReads (t : Int) (k : Nat) (s : ByteArray) : Prop := ∀ (at_ : Nat) (w : World), at_ ≤ s.size → s.size - at_ ≤ k →
  Calls Try.prog 59 #[.int .i64 t, .string s, .int .i64 at_] w (SRead t s (readS t k ((bytesN s).drop at_)) w)
def OwnPost3 (g at_ : Nat) (w : World) (e : Ending) (w' : World) : Prop := ∃ v, e = .returned (.tuple #[v, .bool true, .int .i64 ((at_ + 1 : Nat) : Int)]) ∧ Owns w' w.heap.size v [(g : Int)] ∧ Below w.heap.size w w'
theorem sreads_none {t : Int} {k : Nat} {s : ByteArray} (ih : SReads t k s) {at_ : Nat} (w : World) (hle : at_ ≤ s.size) (hk : s.size - at_ ≤ k) (h : readS t k ((bytesN s).drop at_) = none) :
    Calls Try.prog 59 #[.int .i64 t, .string s, .int .i64 at_] w (SNone w) := by
  have := ih at_ w hle hk
  rw [h] at this; exact this
theorem sreads_some {t : Int} {k : Nat} {s : ByteArray} (ih : SReads t k s) {at_ : Nat} (w : World) (hle : at_ ≤ s.size) (hk : s.size - at_ ≤ k) {x : Sen} {rest : List Nat} (h : readS t k ((bytesN s).drop at_) = some (x, rest)) :
    Calls Try.prog 59 #[.int .i64 t, .string s, .int .i64 at_] w (SSome t s x rest w) := by
  have := ih at_ w hle hk
  rw [h] at this; exact this


set_option maxRecDepth 100000 in
set_option maxHeartbeats 4000000 in
theorem sRd_end (t : Int) (s : ByteArray) (at_ : Nat) (w : World) (_hs : s.size ≤ 1048576) (hat : s.size ≤ at_) : Calls Try.prog 59 #[.int .i64 t, .string s, .int .i64 at_] w (SNone w) := by
  have hd : (s.size : Int) ≤ (at_ : Int) := by omega
  go_enter Try.func59, Try.ntmps59
  go_wp2_with fail
  go_ret3
  exact ⟨_, _, _, rfl, (Below.refl _ _).alloc (Nat.le_refl _) _⟩

set_option maxRecDepth 100000 in
set_option maxHeartbeats 4000000 in
theorem sRd_one (t : Int) (s : ByteArray) (at_ : Nat) (w : World) (hs : s.size ≤ 1048576) (h1 : 1 ≤ t) (h3 : t ≤ 3) (hat : at_ < s.size) (hc : s[at_].toNat = 49) : Calls Try.prog 59 #[.int .i64 t, .string s, .int .i64 at_] w (SSome t s .one ((bytesN s).drop (at_ + 1)) w) := by
  have hd : (at_ : Int) < (s.size : Int) := by omega
  have hd0 : (0 : Int) ≤ (at_ : Int) := by omega
  go_enter Try.func59, Try.ntmps59
  go_wp2_with (go_at_call 30; refine (sAll t _ h1 h3).mono ?_; rintro e w' ⟨rfl, rfl⟩)
  go_ret3
  exact ⟨_, at_ + 1, rfl, hat, rfl, Owns.lit _ _ [allOf t] (Nat.le_refl _) (by simp [maxLen]), (Below.refl _ _).alloc (Nat.le_refl _) _⟩

set_option maxRecDepth 100000 in
set_option maxHeartbeats 4000000 in
theorem sRd_zero (t : Int) (s : ByteArray) (at_ : Nat) (w : World) (hs : s.size ≤ 1048576) (hat : at_ < s.size) (hc : s[at_].toNat = 48) : Calls Try.prog 59 #[.int .i64 t, .string s, .int .i64 at_] w (SSome t s .zero ((bytesN s).drop (at_ + 1)) w) := by
  have hd : (at_ : Int) < (s.size : Int) := by omega
  have hd0 : (0 : Int) ≤ (at_ : Int) := by omega
  go_enter Try.func59, Try.ntmps59
  go_wp2_with fail
  go_ret3
  exact ⟨_, at_ + 1, rfl, hat, rfl, Owns.lit _ _ [0] (Nat.le_refl _) (by simp [maxLen]), (Below.refl _ _).alloc (Nat.le_refl _) _⟩

set_option maxRecDepth 100000 in
set_option maxHeartbeats 4000000 in
theorem sRd_bad (t : Int) (s : ByteArray) (at_ : Nat) (w : World) (_hs : s.size ≤ 1048576) (h1 : 1 ≤ t) (h3 : t ≤ 3) (hat : at_ < s.size) (hb : startB t s[at_].toNat = false) : Calls Try.prog 59 #[.int .i64 t, .string s, .int .i64 at_] w (SNone w) := by
  have hd : (at_ : Int) < (s.size : Int) := by omega
  have hd0 : (0 : Int) ≤ (at_ : Int) := by omega
  obtain ⟨c, hc⟩ : ∃ c, s[at_].toNat = c := ⟨_, rfl⟩
  have hc256 : c < 256 := by rw [← hc]; exact UInt8.toNat_lt _
  rw [hc] at hb
  unfold startB at hb
  simp only [Bool.or_eq_false_iff, decide_eq_false_iff_not] at hb
  have e49 : ((c : Int) == 49) = false := by rw [beq_eq_false_iff_ne]; omega
  have e48 : ((c : Int) == 48) = false := by rw [beq_eq_false_iff_ne]; omega
  have e33 : ((c : Int) == 33) = false := by rw [beq_eq_false_iff_ne]; omega
  have e63 : ((c : Int) == 63) = false := by rw [beq_eq_false_iff_ne]; omega
  have e40 : ((c : Int) == 40) = false := by rw [beq_eq_false_iff_ne]; omega
  by_cases h97 : 97 ≤ c
  · have h97i : (97 : Int) ≤ (c : Int) := by omega
    have ht : t ≤ (c : Int) - 97 := by omega
    have hdt : decide ((c : Int) - 97 < t) = false := decide_eq_false (by omega)
    clear hb
    go_enter Try.func59, Try.ntmps59
    go_wp2_with fail
    go_ret3
    exact ⟨_, _, _, rfl, (Below.refl _ _).alloc (Nat.le_refl _) _⟩
  · have h97i : decide ((97 : Int) ≤ (c : Int)) = false := decide_eq_false (by omega)
    clear hb
    go_enter Try.func59, Try.ntmps59
    go_wp2_with fail
    go_ret3
    exact ⟨_, _, _, rfl, (Below.refl _ _).alloc (Nat.le_refl _) _⟩

set_option maxRecDepth 100000 in
set_option maxHeartbeats 4000000 in
theorem sRd_no_none (t : Int) (s : ByteArray) (at_ : Nat) (w : World) (hs : s.size ≤ 1048576) (hat : at_ < s.size) (hc : s[at_].toNat = 33) (hi : ∀ W, Calls Try.prog 59 #[.int .i64 t, .string s, .int .i64 ((at_ + 1 : Nat) : Int)] W (SNone W)) :
    Calls Try.prog 59 #[.int .i64 t, .string s, .int .i64 at_] w (SNone w) := by
  have hd : (at_ : Int) < (s.size : Int) := by omega
  have hd0 : (0 : Int) ≤ (at_ : Int) := by omega
  have HI := Lib.hid hi
  clear hi
  go_enter Try.func59, Try.ntmps59
  go_wp2_with fail
  refine (HI.out _).mono ?_
  rintro e w1 ⟨A, n, c, rfl, hb⟩
  have HB := Lib.hid hb
  clear hb
  go_wp2_with fail
  go_ret3
  exact ⟨_, _, _, rfl, HB.out⟩
set_option maxRecDepth 100000 in
set_option maxHeartbeats 4000000 in
theorem sRd_no (t : Int) (s : ByteArray) (at_ : Nat) (w : World) (hs : s.size ≤ 1048576) (hat : at_ < s.size) (hc : s[at_].toNat = 33) (x : Sen) (hl : (issueS t x).length ≤ 70) (rest : List Nat) (hi : ∀ W, Calls Try.prog 59 #[.int .i64 t, .string s, .int .i64 ((at_ + 1 : Nat) : Int)] W (SSome t s x rest W)) :
    Calls Try.prog 59 #[.int .i64 t, .string s, .int .i64 at_] w (SSome t s (.no x) rest w) := by
  have hd : (at_ : Int) < (s.size : Int) := by omega
  have hd0 : (0 : Int) ≤ (at_ : Int) := by omega
  have HI := Lib.hid hi
  clear hi
  go_enter Try.func59, Try.ntmps59
  go_wp2_with fail
  refine (HI.out _).mono ?_
  rintro e w1 ⟨v, a2, rfl, ha2, hd2, ho, hb⟩
  obtain ⟨A1, c1, rfl, _, _, _, _⟩ := ho.form
  have HB := Lib.hid hb
  have HR := Lib.hid (Owns.row ho (by omega))
  have HD := Lib.hid hd2
  clear hb ho hd2
  go_wp2_with fail
  refine (sNotIssue t _ _ _ _ _ HR.out).mono ?_
  rintro e w2 ⟨v, rfl, ho, hb⟩
  have HO := Lib.hid (ho.base HB.out.size)
  have HB2 := Lib.hid (bel_trans HB.out hb)
  clear ho hb
  go_wp2_with fail
  go_ret3
  exact ⟨_, a2, rfl, ha2, HD.out, HO.out, HB2.out⟩
set_option maxRecDepth 100000 in
set_option maxHeartbeats 4000000 in
theorem sRd_ask_none (t : Int) (s : ByteArray) (at_ : Nat) (w : World) (hs : s.size ≤ 1048576) (hat : at_ < s.size) (hc : s[at_].toNat = 63) (hi : ∀ W, Calls Try.prog 59 #[.int .i64 t, .string s, .int .i64 ((at_ + 1 : Nat) : Int)] W (SNone W)) :
    Calls Try.prog 59 #[.int .i64 t, .string s, .int .i64 at_] w (SNone w) := by
  have hd : (at_ : Int) < (s.size : Int) := by omega
  have hd0 : (0 : Int) ≤ (at_ : Int) := by omega
  have HI := Lib.hid hi
  clear hi
  go_enter Try.func59, Try.ntmps59
  go_wp2_with fail
  refine (HI.out _).mono ?_
  rintro e w1 ⟨A, n, c, rfl, hb⟩
  have HB := Lib.hid hb
  clear hb
  go_wp2_with fail
  go_ret3
  exact ⟨_, _, _, rfl, HB.out⟩
set_option maxRecDepth 100000 in
set_option maxHeartbeats 4000000 in
theorem sRd_ask (t : Int) (s : ByteArray) (at_ : Nat) (w : World) (hs : s.size ≤ 1048576) (hat : at_ < s.size) (hc : s[at_].toNat = 63) (x : Sen) (hl : (issueS t x).length ≤ 70) (rest : List Nat) (hi : ∀ W, Calls Try.prog 59 #[.int .i64 t, .string s, .int .i64 ((at_ + 1 : Nat) : Int)] W (SSome t s x rest W)) :
    Calls Try.prog 59 #[.int .i64 t, .string s, .int .i64 at_] w (SSome t s (.ask x) rest w) := by
  have hd : (at_ : Int) < (s.size : Int) := by omega
  have hd0 : (0 : Int) ≤ (at_ : Int) := by omega
  have HI := Lib.hid hi
  clear hi
  go_enter Try.func59, Try.ntmps59
  go_wp2_with fail
  refine (HI.out _).mono ?_
  rintro e w1 ⟨v, a2, rfl, ha2, hd2, ho, hb⟩
  obtain ⟨A1, c1, rfl, _, _, _, _⟩ := ho.form
  have HB := Lib.hid hb
  have HR := Lib.hid (Owns.row ho (by omega))
  have HD := Lib.hid hd2
  clear hb ho hd2
  go_wp2_with fail
  refine (sWhetherIssue t _ _ _ _ _ HR.out).mono ?_
  rintro e w2 ⟨v, rfl, ho, hb⟩
  have HO := Lib.hid (ho.base HB.out.size)
  have HB2 := Lib.hid (bel_trans HB.out hb)
  clear ho hb
  go_wp2_with fail
  go_ret3
  exact ⟨_, a2, rfl, ha2, HD.out, HO.out, HB2.out⟩

end Go.Proofs.Ytmdogidflaplkaa

namespace Go.Proofs.Ytmdogidflaplkaa
open Go.RowKit


set_option maxRecDepth 100000 in
set_option maxHeartbeats 4000000 in
theorem sRd_pair_none (t : Int) (s : ByteArray) (at_ : Nat) (w : World) (hs : s.size ≤ 1048576) (hat : at_ < s.size) (hc : s[at_].toNat = 40) (hi : ∀ W, Calls Try.prog 59 #[.int .i64 t, .string s, .int .i64 ((at_ + 1 : Nat) : Int)] W (SNone W)) :
    Calls Try.prog 59 #[.int .i64 t, .string s, .int .i64 at_] w (SNone w) := by
  have hd : (at_ : Int) < (s.size : Int) := by omega
  have hd0 : (0 : Int) ≤ (at_ : Int) := by omega
  have HI := Lib.hid hi
  clear hi
  go_enter Try.func59, Try.ntmps59
  go_wp2_with fail
  refine (HI.out _).mono ?_
  rintro e w1 ⟨A, n, c, rfl, hb⟩
  have HB := Lib.hid hb
  clear hb
  go_wp2_with fail
  go_ret3
  exact ⟨_, _, _, rfl, HB.out⟩
set_option maxRecDepth 100000 in
set_option maxHeartbeats 4000000 in
theorem sRd_pair_mid (t : Int) (s : ByteArray) (at_ : Nat) (w : World) (hs : s.size ≤ 1048576) (hat : at_ < s.size) (hc : s[at_].toNat = 40) (x : Sen) (hi : ∀ W, Calls Try.prog 59 #[.int .i64 t, .string s, .int .i64 ((at_ + 1 : Nat) : Int)] W (SSome t s x [] W)) :
    Calls Try.prog 59 #[.int .i64 t, .string s, .int .i64 at_] w (SNone w) := by
  have hd : (at_ : Int) < (s.size : Int) := by omega
  have hd0 : (0 : Int) ≤ (at_ : Int) := by omega
  have HI := Lib.hid hi
  clear hi
  go_enter Try.func59, Try.ntmps59
  go_wp2_with fail
  refine (HI.out _).mono ?_
  rintro e w1 ⟨v, a2, rfl, ha2, hd2, ho, hb⟩
  obtain ⟨A1, c1, rfl, _, _, _, _⟩ := ho.form
  obtain rfl := drop_end hd2 ha2
  have HB := Lib.hid hb
  clear hb ho hd2
  go_wp2_with fail
  go_ret3
  exact ⟨_, _, _, rfl, HB.out⟩
set_option maxRecDepth 100000 in
set_option maxHeartbeats 4000000 in
theorem sRd_pair_snd (t : Int) (s : ByteArray) (at_ : Nat) (w : World) (hs : s.size ≤ 1048576) (hat : at_ < s.size) (hc : s[at_].toNat = 40) (x : Sen) (m : Nat) (l : List Nat) (hi : ∀ W, Calls Try.prog 59 #[.int .i64 t, .string s, .int .i64 ((at_ + 1 : Nat) : Int)] W (SSome t s x (m :: l) W))
    (hi2 : ∀ (a2 : Nat) W, a2 ≤ s.size → (bytesN s).drop a2 = l → Calls Try.prog 59 #[.int .i64 t, .string s, .int .i64 a2] W (SNone W)) :
    Calls Try.prog 59 #[.int .i64 t, .string s, .int .i64 at_] w (SNone w) := by
  have hd : (at_ : Int) < (s.size : Int) := by omega
  have hd0 : (0 : Int) ≤ (at_ : Int) := by omega
  have HI := Lib.hid hi
  have HI2 := Lib.hid hi2
  clear hi hi2
  go_enter Try.func59, Try.ntmps59
  go_wp2_with fail
  refine (HI.out _).mono ?_
  rintro e w1 ⟨v, a2, rfl, ha2, hd2, ho, hb⟩
  obtain ⟨A1, c1, rfl, _, _, _, _⟩ := ho.form
  obtain ⟨hlt, hm, hl⟩ := drop_lt hd2
  have HC2 := Lib.hid (fun W => HI2.out (a2 + 1) W hlt hl)
  have HB := Lib.hid hb
  have hd3 : (a2 : Int) < (s.size : Int) := by omega
  have hd4 : (0 : Int) ≤ (a2 : Int) := by omega
  clear hb ho hd2 hl hm
  go_wp2_with fail
  refine (HC2.out _).mono ?_
  rintro e w2 ⟨A, n, c, rfl, hb⟩
  have HB2 := Lib.hid (bel_trans HB.out hb)
  clear hb
  go_wp2_with fail
  go_ret3
  exact ⟨_, _, _, rfl, HB2.out⟩
set_option maxRecDepth 100000 in
set_option maxHeartbeats 4000000 in
theorem sRd_pair_end (t : Int) (s : ByteArray) (at_ : Nat) (w : World) (hs : s.size ≤ 1048576) (hat : at_ < s.size) (hc : s[at_].toNat = 40) (x : Sen) (m : Nat) (l : List Nat) (hi : ∀ W, Calls Try.prog 59 #[.int .i64 t, .string s, .int .i64 ((at_ + 1 : Nat) : Int)] W (SSome t s x (m :: l) W)) (y : Sen)
    (hi2 : ∀ (a2 : Nat) W, a2 ≤ s.size → (bytesN s).drop a2 = l → Calls Try.prog 59 #[.int .i64 t, .string s, .int .i64 a2] W (SSome t s y [] W)) :
    Calls Try.prog 59 #[.int .i64 t, .string s, .int .i64 at_] w (SNone w) := by
  have hd : (at_ : Int) < (s.size : Int) := by omega
  have hd0 : (0 : Int) ≤ (at_ : Int) := by omega
  have HI := Lib.hid hi
  have HI2 := Lib.hid hi2
  clear hi hi2
  go_enter Try.func59, Try.ntmps59
  go_wp2_with fail
  refine (HI.out _).mono ?_
  rintro e w1 ⟨v, a2, rfl, ha2, hd2, ho, hb⟩
  obtain ⟨A1, c1, rfl, _, _, _, _⟩ := ho.form
  obtain ⟨hlt, hm, hl⟩ := drop_lt hd2
  have HC2 := Lib.hid (fun W => HI2.out (a2 + 1) W hlt hl)
  have HB := Lib.hid hb
  have hd3 : (a2 : Int) < (s.size : Int) := by omega
  have hd4 : (0 : Int) ≤ (a2 : Int) := by omega
  clear hb ho hd2 hl hm
  go_wp2_with fail
  refine (HC2.out _).mono ?_
  rintro e w2 ⟨v, a3, rfl, ha3, hd5, ho, hb⟩
  obtain ⟨A2, c2, rfl, _, _, _, _⟩ := ho.form
  obtain rfl := drop_end hd5 ha3
  have HB2 := Lib.hid (bel_trans HB.out hb)
  clear hb ho hd5
  go_wp2_with fail
  go_ret3
  exact ⟨_, _, _, rfl, HB2.out⟩
set_option maxRecDepth 100000 in
set_option maxHeartbeats 4000000 in
theorem sRd_pair_open (t : Int) (s : ByteArray) (at_ : Nat) (w : World) (hs : s.size ≤ 1048576) (hat : at_ < s.size) (hc : s[at_].toNat = 40) (x : Sen) (m : Nat) (l : List Nat) (hi : ∀ W, Calls Try.prog 59 #[.int .i64 t, .string s, .int .i64 ((at_ + 1 : Nat) : Int)] W (SSome t s x (m :: l) W)) (y : Sen) (e0 : Nat) (r : List Nat) (he : e0 ≠ 41)
    (hi2 : ∀ (a2 : Nat) W, a2 ≤ s.size → (bytesN s).drop a2 = l → Calls Try.prog 59 #[.int .i64 t, .string s, .int .i64 a2] W (SSome t s y (e0 :: r) W)) :
    Calls Try.prog 59 #[.int .i64 t, .string s, .int .i64 at_] w (SNone w) := by
  have hd : (at_ : Int) < (s.size : Int) := by omega
  have hd0 : (0 : Int) ≤ (at_ : Int) := by omega
  have HI := Lib.hid hi
  have HI2 := Lib.hid hi2
  have he1 : ((e0 : Int) == 41) = false := by rw [beq_eq_false_iff_ne]; omega
  have he2 : ((e0 : Int) != 41) = true := by rw [bne, he1]; rfl
  clear hi hi2 he
  go_enter Try.func59, Try.ntmps59
  go_wp2_with fail
  refine (HI.out _).mono ?_
  rintro e w1 ⟨v, a2, rfl, ha2, hd2, ho, hb⟩
  obtain ⟨A1, c1, rfl, _, _, _, _⟩ := ho.form
  obtain ⟨hlt, hm, hl⟩ := drop_lt hd2
  have HC2 := Lib.hid (fun W => HI2.out (a2 + 1) W hlt hl)
  have HB := Lib.hid hb
  have hd3 : (a2 : Int) < (s.size : Int) := by omega
  have hd4 : (0 : Int) ≤ (a2 : Int) := by omega
  clear hb ho hd2 hl hm
  go_wp2_with fail
  refine (HC2.out _).mono ?_
  rintro e w2 ⟨v, a3, rfl, ha3, hd5, ho, hb⟩
  obtain ⟨A2, c2, rfl, _, _, _, _⟩ := ho.form
  obtain ⟨hlt3, hm3, _⟩ := drop_lt hd5
  have HB2 := Lib.hid (bel_trans HB.out hb)
  have hd6 : (a3 : Int) < (s.size : Int) := by omega
  have hd7 : (0 : Int) ≤ (a3 : Int) := by omega
  clear hb ho hd5
  go_wp2_with fail
  go_ret3
  exact ⟨_, _, _, rfl, HB2.out⟩
set_option maxRecDepth 100000 in
set_option maxHeartbeats 4000000 in
theorem sRd_pair_sign (t : Int) (s : ByteArray) (at_ : Nat) (w : World) (hs : s.size ≤ 1048576) (hat : at_ < s.size) (hc : s[at_].toNat = 40) (x : Sen) (m : Nat) (l : List Nat) (hi : ∀ W, Calls Try.prog 59 #[.int .i64 t, .string s, .int .i64 ((at_ + 1 : Nat) : Int)] W (SSome t s x (m :: l) W)) (y : Sen) (r : List Nat)
    (hm : (decide (m = 38) || decide (m = 124) || decide (m = 62)) = false)
    (hi2 : ∀ (a2 : Nat) W, a2 ≤ s.size → (bytesN s).drop a2 = l → Calls Try.prog 59 #[.int .i64 t, .string s, .int .i64 a2] W (SSome t s y (41 :: r) W)) :
    Calls Try.prog 59 #[.int .i64 t, .string s, .int .i64 at_] w (SNone w) := by
  have hd : (at_ : Int) < (s.size : Int) := by omega
  have hd0 : (0 : Int) ≤ (at_ : Int) := by omega
  have HI := Lib.hid hi
  have HI2 := Lib.hid hi2
  simp only [Bool.or_eq_false_iff, decide_eq_false_iff_not] at hm
  have e1 : ((m : Int) == 38) = false := by rw [beq_eq_false_iff_ne]; omega
  have e2 : ((m : Int) == 124) = false := by rw [beq_eq_false_iff_ne]; omega
  have e3 : ((m : Int) == 62) = false := by rw [beq_eq_false_iff_ne]; omega
  clear hi hi2 hm
  go_enter Try.func59, Try.ntmps59
  go_wp2_with fail
  refine (HI.out _).mono ?_
  rintro e w1 ⟨v, a2, rfl, ha2, hd2, ho, hb⟩
  obtain ⟨A1, c1, rfl, _, _, _, _⟩ := ho.form
  obtain ⟨hlt, hm, hl⟩ := drop_lt hd2
  have HC2 := Lib.hid (fun W => HI2.out (a2 + 1) W hlt hl)
  have HB := Lib.hid hb
  have hd3 : (a2 : Int) < (s.size : Int) := by omega
  have hd4 : (0 : Int) ≤ (a2 : Int) := by omega
  clear hb ho hd2 hl
  go_wp2_with fail
  refine (HC2.out _).mono ?_
  rintro e w2 ⟨v, a3, rfl, ha3, hd5, ho, hb⟩
  obtain ⟨A2, c2, rfl, _, _, _, _⟩ := ho.form
  obtain ⟨hlt3, hm3, _⟩ := drop_lt hd5
  have HB2 := Lib.hid (bel_trans HB.out hb)
  have hd6 : (a3 : Int) < (s.size : Int) := by omega
  have hd7 : (0 : Int) ≤ (a3 : Int) := by omega
  clear hb ho hd5
  go_wp2_with fail
  go_ret3
  exact ⟨_, _, _, rfl, HB2.out.alloc HB2.out.size _⟩
end Go.Proofs.Ytmdogidflaplkaa
