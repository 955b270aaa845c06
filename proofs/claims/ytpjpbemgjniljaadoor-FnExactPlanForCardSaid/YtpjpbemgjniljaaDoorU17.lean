/-
  What the proofs of this seat's statements share (CntM, CntI, CntJ, CntK).
-/
import Derived.Maps.OwnOps
import Derived.Maps.OwnSet
import Derived.Maps.Views
import Derived.Carry
import Derived.RangeFuncBox
import Derived.Test.YtpjpbemgjniljaaDoorU15
import Derived.Test.YtpjpbemgjniljaaDoorU2
import Derived.Test.YtpjpbemgjniljaaDoorU16
import Derived.Test.YtpjpbemgjniljaaDoorU8

namespace Go.Proofs.YtpjpbemgjniljaaDoor
open Go.RowKit Go.Maps

theorem num_keyed : Keyed Tryd.prog 3 := int_keyed Tryd.underlying3
theorem num_zero (w : World) : (zeroValue 3).run Tryd.prog w = .ok (.int .i64 0) w := by kernel_rfl
theorem wf_256 {s : Int} (h0 : -1048576 ≤ s) (h1 : s ≤ 1048576) : (Lit.int .i64 s).wf = true := WalkArith.wf_i64 (by omega)
theorem num_key {s : Int} (h0 : 0 ≤ s) (h1 : s < 256) : keyOf Tryd.prog 3 (.int .i64 s) = some (.int .i64 s) := keyOf_int_mk Tryd.underlying3 (wf_256 (by omega) (by omega))
abbrev NMap (w : World) (B n : Nat) (D : DataW Unit) : Prop := w.ownsMap Tryd.prog 3 (plainElem Tryd.prog 3) B n D
theorem NMap.sized {w : World} {B n : Nat} {D : DataW Unit} (h : NMap w B n D) : NMap w B (Maps.size D) D := by
  obtain ⟨es, clock, hb, F, hs, rfl⟩ := h
  exact ⟨es, clock, hb, F, by simp [Maps.size, length_sorted], rfl⟩
theorem count_set {f g : Nat → Bool} {k : Nat} : ∀ N : Nat, k < N → (∀ i, i ≠ k → g i = f i) → g k = true → (List.range N).countP g = (List.range N).countP f + (if f k = true then 0 else 1)
  | 0, h, _, _ => by omega
  | N + 1, h, hne, hk => by
    rw [List.range_succ, List.countP_append, List.countP_append, List.countP_singleton, List.countP_singleton]
    by_cases e : k = N
    · subst e
      have hh : (List.range k).countP g = (List.range k).countP f := List.countP_congr fun i hi => by
        rw [hne i (by have := List.mem_range.1 hi; omega)]
      rw [hh, hk, if_pos rfl]
      cases f k <;> simp
    · rw [count_set N (by omega) hne hk, hne N (fun h => e h.symm)]
      omega
/-- How many sets are remembered. -/
def cntM (D : DataW Unit) : Nat := (List.range 256).countP fun i : Nat => Maps.has D (.int .i64 i)
theorem cntM_le (D : DataW Unit) : cntM D ≤ 256 := by unfold cntM; exact Nat.le_trans List.countP_le_length (by simp)
theorem cntM_put {D : DataW Unit} (hD : IsMap D) {s : Nat} (hs : s < 256) (d : DataW Unit) : cntM (D.put (.int .i64 s) d) = cntM D + (if Maps.has D (.int .i64 s) = true then 0 else 1) := by
  unfold cntM
  refine count_set (f := fun i : Nat => Maps.has D (.int .i64 i)) (g := fun i : Nat => Maps.has (D.put (.int .i64 s) d) (.int .i64 i)) 256 hs (fun i hi => ?_) ?_
  · exact has_put_other (fun e => hi (by have := Lit.int.inj e; omega)) d
  · exact has_put_same hD (by trivial) d
/-- What is remembered is what the function tells. -/
def Remb (f : Int → Int) (D : DataW Unit) : Prop := Maps.size D = cntM D ∧ ∀ s : Nat, s < 256 → Maps.has D (.int .i64 s) = true → D.atKey (.int .i64 s) (.lit (.int .i64 0)) = .lit (.int .i64 (f s))
theorem Remb.start (f : Int → Int) : Remb f (.map []) := ⟨(List.countP_eq_zero.2 (fun i _ => by show ¬ (false = true); decide)).symm, fun s _ h => by cases h⟩
theorem Remb.put {f : Int → Int} {D : DataW Unit} (h : Remb f D) (ht : Tidy D) {s : Int} (h0 : 0 ≤ s) (hs : s < 256) : Remb f (D.put (.int .i64 s) (.lit (.int .i64 (f s)))) := by
  obtain ⟨k, rfl⟩ : ∃ k : Nat, s = k := ⟨s.toNat, by omega⟩
  have hk : k < 256 := by omega
  refine ⟨?_, fun i hi hh => ?_⟩
  · rw [size_put ht, cntM_put ht.isMap hk, h.1]
    split <;> rfl
  · by_cases e : i = k
    · subst e
      exact atKey_put_same ht.isMap (by trivial) _ _
    · have hne : (Lit.int .i64 (i : Int)) ≠ .int .i64 (k : Int) := fun e2 => e (by have := Lit.int.inj e2; omega)
      rw [atKey_put_other hne]
      rw [has_put_other hne] at hh
      exact h.2 i hi hh
theorem Remb.look {f : Int → Int} {D : DataW Unit} (h : Remb f D) {s c : Int} (h0 : 0 ≤ s) (hs : s < 256) (hh : Maps.has D (.int .i64 s) = true) (hc : D.atKey (.int .i64 s) (.lit (.int .i64 0)) = .lit (.int .i64 c)) : c = f s := by
  obtain ⟨k, rfl⟩ : ∃ k : Nat, s = k := ⟨s.toNat, by omega⟩
  rw [h.2 k (by omega) hh] at hc
  have := DataW.lit.inj hc
  exact (Lit.int.inj this).2.symm

/-- The function that counts, and what it has captured. -/
abbrev cntFn (bI bR bA bF : Nat) : Value := .func (.func 32) #[] #[.pointer (some ⟨bI, 0, none⟩), .pointer (some ⟨bR, 0, none⟩), .pointer (some ⟨bA, 0, none⟩), .pointer (some ⟨bF, 0, none⟩)]
structure CntIds (asks issue : List Int) (bI bR bA bF bM base : Nat) (A B : Option Addr) : Prop where
  nI : bI ≠ bM
  nR : bR ≠ bM
  nA : bA ≠ bM
  nF : bF ≠ bM
  hM : base ≤ bM
  oA : asks.length = 0 ∨ ∀ ad, A = some ad → ad.block ≠ bM
  oB : issue.length = 0 ∨ ∀ ad, B = some ad → ad.block ≠ bM
structure Cnt (f : Int → Int) (asks issue : List Int) (A B : Option Addr) (na ca nb cb bI bR bA bF bM base : Nat) (w0 w : World) : Prop where
  xI : Boxed w bI 23 (.slice B nb cb)
  xR : Boxed w bR 55 (.map (some bM))
  xA : Boxed w bA 23 (.slice A na ca)
  xF : Boxed w bF 38 (cntFn bI bR bA bF)
  ra : Nums .i64 w A asks
  rb : Nums .i64 w B issue
  hb : Below base w0 w
  mp : ∃ D : DataW Unit, NMap w bM (Maps.size D) D ∧ Remb f D
theorem Cnt.put {f : Int → Int} {asks issue : List Int} {A B : Option Addr} {na ca nb cb bI bR bA bF bM base : Nat} {w0 w w' : World} (ids : CntIds asks issue bI bR bA bF bM base A B) (h : Cnt f asks issue A B na ca nb cb bI bR bA bF bM base w0 w)
    (hg : w.grownBy w' (some bM)) {n : Nat} {D : DataW Unit} (hr : Remb f D) (hm : NMap w' bM n D) (hbase : base ≤ w.heap.size) : Cnt f asks issue A B na ca nb cb bI bR bA bF bM base w0 w' :=
  ⟨h.xI.kept hg (fun e => ids.nI (Option.some.inj e)), h.xR.kept hg (fun e => ids.nR (Option.some.inj e)), h.xA.kept hg (fun e => ids.nA (Option.some.inj e)), h.xF.kept hg (fun e => ids.nF (Option.some.inj e)),
    ids.oA.elim Nums.none_ (fun o => h.ra.grown hg (fun ad e e2 => o ad e (Option.some.inj e2))), ids.oB.elim Nums.none_ (fun o => h.rb.grown hg (fun ad e e2 => o ad e (Option.some.inj e2))), h.hb.grown hg hbase (fun k e => by cases e; exact ids.hM), ⟨D, hm.sized, hr⟩⟩
end Go.Proofs.YtpjpbemgjniljaaDoor

namespace Go.Proofs.YtpjpbemgjniljaaDoor
open Go.RowKit

/-- A call of the function that counts, at a set. -/
def NeedAt (P : World → Prop) (f : Int → Int) (c1 c2 c3 c4 : Value) (s : Int) : Prop := ∀ w, P w → Calls Tryd.prog 32 #[.int .i64 s, c1, c2, c3, c4] w fun e w' => e = .returned (.int .i64 (f s)) ∧ P w'
def worthYZ (f : Int → Int) (y z : Int) : Int := if y = 0 ∨ z = 0 then -1 else if 0 ≤ f y ∧ 0 ≤ f z then 1 + max (f y) (f z) else -1
theorem worth_yz (f : Int → Int) (s q : Int) : worthI f s q = worthYZ f (andI s q) (s - andI s q) := by
  unfold worthI worthYZ
  by_cases h : andI s q = 0 ∨ andI s q = s
  · have h2 : andI s q = 0 ∨ s - andI s q = 0 := by omega
    rw [if_pos h, if_pos h2]
  · have h2 : ¬ (andI s q = 0 ∨ s - andI s q = 0) := by omega
    rw [if_neg h, if_neg h2]
theorem NeedAt.call {P : World → Prop} {f : Int → Int} {c1 c2 c3 c4 : Value} {s v : Int} (h : NeedAt P f c1 c2 c3 c4 s) (hv : Hid (f s = v)) {w : World} (hp : P w) : Calls Tryd.prog 32 #[.int .i64 s, c1, c2, c3, c4] w fun e w' => e = .returned (.int .i64 v) ∧ P w' := by
  have := h w hp
  rw [hv.out] at this; exact this
set_option maxRecDepth 100000 in
set_option maxHeartbeats 4000000 in
theorem iNeededWith {P : World → Prop} {f : Int → Int} {c1 c2 c3 c4 : Value} {y z : Int} {w : World} (hp : P w) (hf : ∀ x, 0 ≤ x → -1 ≤ f x ∧ f x ≤ 1048576) (hy0 : 0 ≤ y) (hz0 : 0 ≤ z)
    (h1 : y ≠ 0 → z ≠ 0 → NeedAt P f c1 c2 c3 c4 y) (h2 : y ≠ 0 → z ≠ 0 → NeedAt P f c1 c2 c3 c4 z) :
    Calls Tryd.prog 49 #[.int .i64 y, .int .i64 z, .func (.func 32) #[] #[c1, c2, c3, c4]] w fun e w' => e = .returned (.int .i64 (worthYZ f y z)) ∧ P w' := by
  have HP := Lib.hid hp
  obtain ⟨res, HRES⟩ : ∃ r, Hid (worthYZ f y z = r) := ⟨_, rfl⟩
  rw [HRES.out]
  have hres := HRES.out
  unfold worthYZ at hres
  clear hp HRES
  by_cases hy : y = 0
  · subst hy
    have HN : Hid (-1 = res) := by rw [if_pos (.inl rfl)] at hres; exact hres
    clear hres h1 h2
    go_enter Tryd.func49, Tryd.ntmps49
    go_wp2_with fail
    go_ret
    exact ⟨ret_int HN.out, HP.out⟩
  · by_cases hz : z = 0
    · subst hz
      have e0 : (y == (0 : Int)) = false := by rw [beq_eq_false_iff_ne]; exact hy
      have HN : Hid (-1 = res) := by rw [if_pos (.inr rfl)] at hres; exact hres
      clear hres h1 h2
      go_enter Tryd.func49, Tryd.ntmps49
      go_wp2_with fail
      go_ret
      exact ⟨ret_int HN.out, HP.out⟩
    · have e0 : (y == (0 : Int)) = false := by rw [beq_eq_false_iff_ne]; exact hy
      have e1 : (z == (0 : Int)) = false := by rw [beq_eq_false_iff_ne]; exact hz
      rw [if_neg (by omega)] at hres
      have H1 := Lib.hid (h1 hy hz)
      have H2 := Lib.hid (h2 hy hz)
      have hr1 := hf y hy0
      have hr2 := hf z hz0
      obtain ⟨a1, HA1⟩ : ∃ a, Hid (f y = a) := ⟨_, rfl⟩
      obtain ⟨a2, HA2⟩ : ∃ a, Hid (f z = a) := ⟨_, rfl⟩
      rw [HA1.out] at hr1 hres
      rw [HA2.out] at hr2 hres
      clear h1 h2 hf hy hz
      by_cases hp : 0 ≤ a1 ∧ 0 ≤ a2
      · have HN : Hid (1 + max a1 a2 = res) := by rw [if_pos hp] at hres; exact hres
        have hq1 : decide (a1 < (0 : Int)) = false := decide_eq_false (by omega)
        have hq2 : decide (a2 < (0 : Int)) = false := decide_eq_false (by omega)
        clear hres
        go_enter Tryd.func49, Tryd.ntmps49
        go_wp2_with fail
        refine (NeedAt.call H1.out HA1 HP.out).mono ?_
        rintro e w1 ⟨rfl, hp1⟩
        have HP1 := Lib.hid hp1
        clear hp1
        go_wp2_with fail
        refine (NeedAt.call H2.out HA2 HP1.out).mono ?_
        rintro e w2 ⟨rfl, hp2⟩
        have HP2 := Lib.hid hp2
        clear hp2
        go_wp2_with fail
        all_goals
          go_ret
          refine ⟨ret_int ?_, HP2.out⟩
          have := HN.out
          omega
      · have HN : Hid (-1 = res) := by rw [if_neg hp] at hres; exact hres
        clear hres
        by_cases hp1 : 0 ≤ a1
        · have hq1 : decide (a1 < (0 : Int)) = false := decide_eq_false (by omega)
          have hq2 : decide (a2 < (0 : Int)) = true := decide_eq_true (by omega)
          clear hp
          go_enter Tryd.func49, Tryd.ntmps49
          go_wp2_with fail
          refine (NeedAt.call H1.out HA1 HP.out).mono ?_
          rintro e w1 ⟨rfl, hp1⟩
          have HP1 := Lib.hid hp1
          clear hp1
          go_wp2_with fail
          refine (NeedAt.call H2.out HA2 HP1.out).mono ?_
          rintro e w2 ⟨rfl, hp2⟩
          have HP2 := Lib.hid hp2
          clear hp2
          go_wp2_with fail
          go_ret
          exact ⟨ret_int HN.out, HP2.out⟩
        · have hq1 : decide (a1 < (0 : Int)) = true := decide_eq_true (by omega)
          clear hp
          go_enter Tryd.func49, Tryd.ntmps49
          go_wp2_with fail
          refine (NeedAt.call H1.out HA1 HP.out).mono ?_
          rintro e w1 ⟨rfl, hp1⟩
          have HP1 := Lib.hid hp1
          clear hp1
          go_wp2_with fail
          refine (NeedAt.call H2.out HA2 HP1.out).mono ?_
          rintro e w2 ⟨rfl, hp2⟩
          have HP2 := Lib.hid hp2
          clear hp2
          go_wp2_with fail
          go_ret
          exact ⟨ret_int HN.out, HP2.out⟩
/-- What asking best tells. -/
def BestPost (P : World → Prop) (v : Int → Int) (asks : List Int) (e : Ending) (w' : World) : Prop := ∃ b l : Int, e = .returned (.tuple #[.int .i64 b, .int .i64 l]) ∧ BestOf v asks asks.length b l ∧ P w'
set_option maxRecDepth 100000 in
set_option maxHeartbeats 8000000 in
theorem iBest {P : World → Prop} {f : Int → Int} {c1 c2 c3 c4 : Value} {A : Option Addr} {na ca : Nat} {asks : List Int} {s : Int} {w : World} (hp : P w) (hf : ∀ x, 0 ≤ x → -1 ≤ f x ∧ f x ≤ 5) (hrow : ∀ W, P W → Nums .i64 W A asks) (hna : na = asks.length) (hl5 : asks.length ≤ 5)
    (hr : ∀ q ∈ asks, 0 ≤ q ∧ q < 256) (hs0 : 0 ≤ s) (hs : s < 256) (hcall : ∀ x, 0 ≤ x → x < s → NeedAt P f c1 c2 c3 c4 x) :
    Calls Tryd.prog 34 #[.slice A na ca, .int .i64 s, .func (.func 32) #[] #[c1, c2, c3, c4]] w (BestPost P (worthI f s) asks) := by
  subst hna
  have HP := Lib.hid hp
  have HROW := Lib.hid hrow
  have HRQ := Lib.hid hr
  have HV : Hid (∀ q, worthI f s q ≤ 6 ∧ -1 ≤ worthI f s q) := fun q => by
    have h1 := hf (andI s q) (and_pos s q)
    have h2 := hf (s - andI s q) (sub_pos hs0)
    unfold worthI
    split
    · omega
    · split <;> omega
  have HC : Hid (∀ y z W, 0 ≤ y → 0 ≤ z → y + z = s → P W → Calls Tryd.prog 49 #[.int .i64 y, .int .i64 z, .func (.func 32) #[] #[c1, c2, c3, c4]] W fun e w' => e = .returned (.int .i64 (worthYZ f y z)) ∧ P w') := fun y z W hy hz hyz hpw =>
    iNeededWith hpw (fun x hx => by have := hf x hx; omega) hy hz (fun n1 n2 => hcall y hy (by omega)) (fun n1 n2 => hcall z hz (by omega))
  have HQ : Hid (∀ q, worthI f s q = worthYZ f (andI s q) (s - andI s q)) := worth_yz f s
  obtain ⟨v, HVE⟩ : ∃ v, Hid (worthI f s = v) := ⟨_, rfl⟩
  rw [HVE.out] at HV HQ ⊢
  clear hp hrow hr hcall hf
  go_enter Tryd.func34, Tryd.ntmps34
  go_wp2_with fail
  go_loopw [8, 9, 15] (fun b l i wr => ∃ (k : Nat) (bb ll : Int), k ≤ asks.length ∧ i = .int .i64 k ∧ b = .int .i64 bb ∧ l = .int .i64 ll ∧ Hid (BestOf v asks k bb ll) ∧ P wr) (fun _ _ i _ => asks.length - (Go.RowKit.intOf i).toNat)
  case atStart => exact ⟨0, -1, -1, Nat.zero_le _, rfl, rfl, rfl, BestOf.start _ _, HP.out⟩
  case round =>
    obtain ⟨k, bb, ll, hk, rfl, rfl, rfl, hbest, hpw⟩ := hrel
    have HB := Lib.hid hbest.out
    have HPW := Lib.hid hpw
    by_cases hlt : k < asks.length
    · obtain ⟨bA, off, q, rfl, hcell, hq, _⟩ := (HROW.out _ hpw).elem hlt
      obtain ⟨hq0, hq1⟩ := HRQ.out q (elem_mem hq)
      have hb1 : bits .and .i64 s q = andI s q := bits_and s q hs0 (by omega) hq0 (by omega)
      have hb2 : bits .andNot .i64 s q = s - andI s q := bits_sub hs0 hs hq0 hq1
      obtain ⟨hy0, hy1, hz0, hz1⟩ := andI_lt q hs0 hs
      have hvq := HV.out q
      have hqq := HQ.out q
      obtain ⟨y, HY⟩ : ∃ y, Hid (andI s q = y) := ⟨_, rfl⟩
      rw [HY.out] at hy0 hy1 hz0 hz1 hb1 hb2 hqq
      have HCC := Lib.hid (HC.out y (s - y) wr hy0 hz0 (by omega) HPW.out)
      rw [← hqq] at HCC
      obtain ⟨x, HX⟩ : ∃ x, Hid (v q = x) := ⟨_, rfl⟩
      rw [HX.out] at HCC hvq
      have hrg := BestOf.range HB.out hk (fun q => (HV.out q).1)
      obtain ⟨hx1, hx2⟩ := hvq
      clear hqq hbest hpw
      by_cases hx0 : 0 ≤ x
      · have hd1 : decide ((0 : Int) ≤ x) = true := decide_eq_true hx0
        by_cases hbb : bb < 0
        · have hd2 : decide (bb < (0 : Int)) = true := decide_eq_true hbb
          have HN : Hid (BestOf v asks (k + 1) k x) := by have := BestOf.take HB.out hq.out ⟨by rw [HX.out]; exact hx0, .inl hbb⟩; rw [HX.out] at this; exact this
          go_wp2_with fail
          refine HCC.out.mono ?_
          rintro e w1 ⟨rfl, hp1⟩
          have HP1 := Lib.hid hp1
          clear hp1
          go_wp2_with fail
          go_roundw
          case rel => exact ⟨k + 1, k, x, by omega, by go_num, rfl, rfl, HN, HP1.out⟩
          case measure => simp [Go.RowKit.intOf]; omega
        · have hd2 : decide (bb < (0 : Int)) = false := decide_eq_false hbb
          by_cases hxl : x < ll
          · have hd3 : decide (x < ll) = true := decide_eq_true hxl
            have HN : Hid (BestOf v asks (k + 1) k x) := by have := BestOf.take HB.out hq.out ⟨by rw [HX.out]; exact hx0, .inr (by rw [HX.out]; exact hxl)⟩; rw [HX.out] at this; exact this
            go_wp2_with fail
            refine HCC.out.mono ?_
            rintro e w1 ⟨rfl, hp1⟩
            have HP1 := Lib.hid hp1
            clear hp1
            go_wp2_with fail
            go_roundw
            case rel => exact ⟨k + 1, k, x, by omega, by go_num, rfl, rfl, HN, HP1.out⟩
            case measure => simp [Go.RowKit.intOf]; omega
          · have hd3 : decide (x < ll) = false := decide_eq_false hxl
            have HN : Hid (BestOf v asks (k + 1) bb ll) := BestOf.skip HB.out hq.out (by rw [HX.out]; omega)
            go_wp2_with fail
            refine HCC.out.mono ?_
            rintro e w1 ⟨rfl, hp1⟩
            have HP1 := Lib.hid hp1
            clear hp1
            go_wp2_with fail
            go_roundw
            case rel => exact ⟨k + 1, bb, ll, by omega, by go_num, rfl, rfl, HN, HP1.out⟩
            case measure => simp [Go.RowKit.intOf]; omega
      · have hd1 : decide ((0 : Int) ≤ x) = false := decide_eq_false hx0
        have HN : Hid (BestOf v asks (k + 1) bb ll) := BestOf.skip HB.out hq.out (by rw [HX.out]; omega)
        go_wp2_with fail
        refine HCC.out.mono ?_
        rintro e w1 ⟨rfl, hp1⟩
        have HP1 := Lib.hid hp1
        clear hp1
        go_wp2_with fail
        go_roundw
        case rel => exact ⟨k + 1, bb, ll, by omega, by go_num, rfl, rfl, HN, HP1.out⟩
        case measure => simp [Go.RowKit.intOf]; omega
    · obtain rfl : k = asks.length := by omega
      clear hbest hpw
      go_wp2_with fail
      go_ret2
      exact ⟨bb, ll, rfl, HB.out, HPW.out⟩
end Go.Proofs.YtpjpbemgjniljaaDoor

namespace Go.Proofs.YtpjpbemgjniljaaDoor
open Go.RowKit Go.Maps

section
variable {asks issue : List Int} {A B : Option Addr} {na ca nb cb bI bR bA bF bM base : Nat} {w0 : World}
set_option maxRecDepth 100000 in
set_option maxHeartbeats 8000000 in
theorem iCounting (ids : CntIds asks issue bI bR bA bF bM base A B) (hna : na = asks.length) (hl5 : asks.length ≤ 5) (hnb : nb = issue.length) (hnb2 : nb ≤ 1048576) (hr : ∀ q ∈ asks, 0 ≤ q ∧ q < 256) (hi : ∀ x ∈ issue, 0 ≤ x ∧ x < 256)
    (hbase : ∀ W, Below base w0 W → base ≤ W.heap.size) {s : Int} (hs0 : 0 ≤ s) (hs : s < 256)
    (ih : ∀ x, 0 ≤ x → x < s → NeedAt (Cnt (needs asks issue) asks issue A B na ca nb cb bI bR bA bF bM base w0) (needs asks issue) (.pointer (some ⟨bI, 0, none⟩)) (.pointer (some ⟨bR, 0, none⟩)) (.pointer (some ⟨bA, 0, none⟩)) (.pointer (some ⟨bF, 0, none⟩)) x) :
    NeedAt (Cnt (needs asks issue) asks issue A B na ca nb cb bI bR bA bF bM base w0) (needs asks issue) (.pointer (some ⟨bI, 0, none⟩)) (.pointer (some ⟨bR, 0, none⟩)) (.pointer (some ⟨bA, 0, none⟩)) (.pointer (some ⟨bF, 0, none⟩)) s := by
  intro w hc
  have HC := Lib.hid hc
  have HIDS := Lib.hid ids
  have hc1 := hc.xI.cell
  have hc2 := hc.xR.cell
  have hc3 := hc.xA.cell
  have hc4 := hc.xF.cell
  have HI := Lib.hid hi
  have HNB := Lib.hid hnb
  obtain ⟨res, HRES⟩ : ∃ r, Hid (needs asks issue s = r) := ⟨_, rfl⟩
  rw [HRES.out]
  rcases hw : anyWithin s issue with _ | _
  · have HW := Lib.hid hw
    obtain ⟨D, hmp, hrem⟩ := hc.mp
    have HMP := Lib.hid hmp
    have HREM := Lib.hid hrem
    rcases hh : Maps.has D (.int .i64 s) with _ | _
    · have HB := Lib.hid (iBest (P := Cnt (needs asks issue) asks issue A B na ca nb cb bI bR bA bF bM base w0) (f := needs asks issue) (ca := ca) hc (fun x hx => needs_range asks issue hx) (fun W h => h.ra) hna hl5 hr hs0 hs ih)
      have HL : Hid (∀ b l, BestOf (worthI (needs asks issue) s) asks asks.length b l → l = res) := fun b l h => by
        rw [h.least, ← HRES.out, needs_eq hl5 hs0, if_neg (by rw [HW.out]; decide)]
      have hrg := needs_range asks issue hs0
      rw [HRES.out] at hrg
      have HBS := Lib.hid hbase
      clear hmp hrem hc hi hr ih hw hbase hna hnb ids
      go_enter Tryd.func32, Tryd.ntmps32
      go_wp2_with fail
      refine (iWithinAny_is HW _ _ _ _ HNB.out hs0 hs HI.out hnb2 HC.out.rb).mono ?_
      rintro e w' ⟨rfl, rfl⟩
      go_wp2_with (at_lookup; refine wpList_lookup_own_ok_int _ rfl _ _ 55 rfl 3 3 .i64 num_keyed Tryd.underlying55 Tryd.underlying3 (num_zero _) bM (Maps.size D) D rfl HMP.out _ _ rfl (num_key hs0 hs) ?_; intro cv hcv hwf; rw [hh]; clear hcv hwf)
      refine HB.out.mono ?_
      rintro e w2 ⟨b, l, rfl, hb, hc2⟩
      obtain rfl := HL.out b l hb
      have HC2 := Lib.hid hc2
      have hx2 := hc2.xR.cell
      obtain ⟨D2, hmp2, hrem2⟩ := hc2.mp
      have HMP2 := Lib.hid hmp2
      have HREM2 := Lib.hid hrem2
      have hsz : Maps.size D2 < maxLen := by have := cntM_le D2; rw [hrem2.1]; unfold maxLen; omega
      have HSZ := Lib.hid hsz
      clear hb hc2 hmp2 hrem2 hsz
      go_wp2_with (at_mapUpdate; refine wpList_mapUpdate_own _ rfl _ _ _ 55 rfl 3 3 num_keyed Tryd.underlying55 (plainElem Tryd.prog 3) bM (Maps.size D2) D2 rfl HMP2.out HSZ.out _ _ _ rfl rfl (num_key hs0 hs) (.lit (.int .i64 _)) [] (plainElem_int Tryd.underlying3 (wf_256 (by omega) (by omega))) ?_; intro w3 hown3 hgrow3)
      go_ret
      refine ⟨rfl, Cnt.put HIDS.out HC2.out hgrow3 ?_ hown3 (HBS.out _ HC2.out.hb)⟩
      have hrp := HREM2.out.put (HMP2.out.tidy num_keyed) hs0 hs
      rw [HRES.out] at hrp
      exact hrp
    · have HL : Hid (∀ c, D.atKey (.int .i64 s) (.lit (.int .i64 0)) = .lit (.int .i64 c) → c = res) := fun c h => by
        rw [← HRES.out]
        exact HREM.out.look hs0 hs hh h
      clear hmp hrem hc hi hr ih hw hbase hna hnb ids
      go_enter Tryd.func32, Tryd.ntmps32
      go_wp2_with fail
      refine (iWithinAny_is HW _ _ _ _ HNB.out hs0 hs HI.out hnb2 HC.out.rb).mono ?_
      rintro e w' ⟨rfl, rfl⟩
      go_wp2_with (at_lookup; refine wpList_lookup_own_ok_int _ rfl _ _ 55 rfl 3 3 .i64 num_keyed Tryd.underlying55 Tryd.underlying3 (num_zero _) bM (Maps.size D) D rfl HMP.out _ _ rfl (num_key hs0 hs) ?_; intro cv hcv hwf; rw [hh]; have HCV := Lib.hid (HL.out cv hcv); clear hcv hwf)
      go_ret
      exact ⟨ret_int HCV.out, HC.out⟩
  · have HW := Lib.hid hw
    have HZ : Hid (0 = res) := by
      unfold Hid
      rw [← HRES.out]
      exact ((need_none (asks := asks) (issue := issue) (l := 5) hs0).2 hw).symm
    clear hc hi hr ih hw hbase hna hnb ids
    go_enter Tryd.func32, Tryd.ntmps32
    go_wp2_with fail
    refine (iWithinAny_is HW _ _ _ _ HNB.out hs0 hs HI.out hnb2 HC.out.rb).mono ?_
    rintro e w' ⟨rfl, rfl⟩
    go_wp2_with fail
    go_ret
    exact ⟨ret_int HZ.out, HC.out⟩
theorem iNeedAt (ids : CntIds asks issue bI bR bA bF bM base A B) (hna : na = asks.length) (hl5 : asks.length ≤ 5) (hnb : nb = issue.length) (hnb2 : nb ≤ 1048576) (hr : ∀ q ∈ asks, 0 ≤ q ∧ q < 256) (hi : ∀ x ∈ issue, 0 ≤ x ∧ x < 256)
    (hbase : ∀ W, Below base w0 W → base ≤ W.heap.size) : ∀ (n : Nat) (s : Int), 0 ≤ s → s < 256 → s < n → NeedAt (Cnt (needs asks issue) asks issue A B na ca nb cb bI bR bA bF bM base w0) (needs asks issue) (.pointer (some ⟨bI, 0, none⟩)) (.pointer (some ⟨bR, 0, none⟩)) (.pointer (some ⟨bA, 0, none⟩)) (.pointer (some ⟨bF, 0, none⟩)) s := by
  intro n
  induction n with
  | zero => intro s h0 _ h; omega
  | succ n ihn =>
    intro s h0 h1 h2
    exact iCounting ids hna hl5 hnb hnb2 hr hi hbase h0 h1 (fun x hx hlt => ihn x hx (by omega) (by omega))
end
end Go.Proofs.YtpjpbemgjniljaaDoor

namespace Go.Proofs.YtpjpbemgjniljaaDoor
open Go.RowKit Go.Maps

set_option maxRecDepth 100000 in
set_option maxHeartbeats 4000000 in
theorem iAskingOk (t : Int) (A B : Option Addr) (na ca nb cb : Nat) (asks issue : List Int) (s : Int) (w : World) (ha : Row w A na ca asks) (hb : Row w B nb cb issue) :
    Calls Tryd.prog 15 #[.int .i64 t, .slice A na ca, .slice B nb cb, .int .i64 s] w fun e w' => e = .returned (.bool (ok7 t asks issue s)) ∧ ∃ n, w' = w.drewN n := by
  have HA := Lib.hid ha
  have HB := Lib.hid hb
  obtain rfl := ha.hn
  have hla := ha.hl
  clear ha hb
  obtain ⟨res, HRES⟩ : ∃ r, Hid (ok7 t asks issue s = r) := ⟨_, rfl⟩
  rw [HRES.out]
  have HNO : Hid (∀ x, x ∈ asks → Hid (setOkB t x = false) → Hid (res = false)) := fun x hx h => by
    unfold Hid
    rw [← HRES.out]
    unfold ok7
    have : asks.all (setOkB t) = false := by
      rw [List.all_eq_false]
      exact ⟨x, hx, by rw [h.out]; simp⟩
    rw [this]; rfl
  have HEND : Hid (asks.all (setOkB t) = true → asks.length ≤ 5 → Hid (res = (issueOkB t issue && setOkB t s))) := fun h h5 => by
    unfold Hid
    rw [← HRES.out]
    unfold ok7
    rw [h, Bool.true_and, decide_eq_true h5, Bool.true_and]
  by_cases h5 : asks.length ≤ 5
  · have hd5 : decide ((5 : Int) < (asks.length : Int)) = false := decide_eq_false (by omega)
    go_enter Tryd.func15, Tryd.ntmps15
    go_wp2_with fail
    go_loopw [16] (fun i wr => ∃ k : Nat, k ≤ asks.length ∧ i = .int .i64 k ∧ Hid ((asks.take k).all (setOkB t) = true) ∧ ∃ q, wr = w.drewN q) (fun i _ => asks.length - (Go.RowKit.intOf i).toNat)
    case atStart => exact ⟨0, Nat.zero_le _, rfl, rfl, 0, rfl⟩
    case round =>
      obtain ⟨k, hk, rfl, hall, q0, rfl⟩ := hrel
      by_cases hlt : k < asks.length
      · obtain ⟨b, off, x, rfl, hcell, hx, _⟩ := HA.out.hA.elem hlt
        have hn := all_next (t := t) hx
        rw [hall.out, Bool.true_and] at hn
        obtain ⟨y, HY⟩ : ∃ y, Hid (setOkB t x = y) := ⟨_, rfl⟩
        rw [HY.out] at hn
        cases y
        · have HR := HNO.out x (elem_mem hx) HY
          clear hn
          go_wp2_with fail
          refine (iSetOk_is HY _).mono ?_
          rintro e w' ⟨rfl, rfl⟩
          go_wp2_with fail
          go_ret
          exact ⟨ret_bool HR.out.symm, _, by first | rfl | rw [World.drewN_drewN]⟩
        · have HN := Lib.hid hn
          clear hn
          go_wp2_with fail
          refine (iSetOk_is HY _).mono ?_
          rintro e w' ⟨rfl, rfl⟩
          go_wp2_with fail
          go_roundw
          case rel => exact ⟨k + 1, by omega, by go_num, HN, _, rfl⟩
          case measure => simp [Go.RowKit.intOf]; omega
      · obtain rfl : k = asks.length := by omega
        have HE := HEND.out (by have h := hall.out; rw [List.take_length] at h; exact h) h5
        obtain ⟨b, HIB⟩ : ∃ b, Hid (issueOkB t issue = b) := ⟨_, rfl⟩
        obtain ⟨d, HID⟩ : ∃ d, Hid (setOkB t s = d) := ⟨_, rfl⟩
        have he := HE.out
        rw [HIB.out, HID.out] at he
        cases b
        · have HF : Hid (res = false) := he
          clear he
          go_wp2_with fail
          refine (iIssueOk_is HIB _ _ _ _ HB.out.hn HB.out.hl HB.out.hc HB.out.hm (HB.out.hA.drewN _)).mono ?_
          rintro e w' ⟨rfl, q, rfl⟩
          go_wp2_with fail
          go_ret
          exact ⟨ret_bool HF.out.symm, _, by first | rfl | rw [World.drewN_drewN]⟩
        · have HF : Hid (res = d) := by rw [Bool.true_and] at he; exact he
          clear he
          go_wp2_with fail
          refine (iIssueOk_is HIB _ _ _ _ HB.out.hn HB.out.hl HB.out.hc HB.out.hm (HB.out.hA.drewN _)).mono ?_
          rintro e w' ⟨rfl, q, rfl⟩
          go_wp2_with fail
          refine (iSetOk_is HID _).mono ?_
          rintro e w' ⟨rfl, rfl⟩
          go_wp2_with fail
          go_ret
          exact ⟨ret_bool HF.out.symm, _, by first | rfl | rw [World.drewN_drewN]⟩
  · have hd5 : decide ((5 : Int) < (asks.length : Int)) = true := decide_eq_true (by omega)
    have HF : Hid (res = false) := by
      unfold Hid
      rw [← HRES.out]
      unfold ok7
      rw [decide_eq_false h5, Bool.and_false]; rfl
    go_enter Tryd.func15, Tryd.ntmps15
    go_wp2_with fail
    go_ret
    exact ⟨ret_bool HF.out.symm, 0, rfl⟩
theorem iAskingOk_is {t : Int} {asks issue : List Int} {s : Int} {b : Bool} (h : Hid (ok7 t asks issue s = b)) {A B : Option Addr} {na ca nb cb : Nat} {w : World} (ha : Row w A na ca asks) (hb : Row w B nb cb issue) :
    Calls Tryd.prog 15 #[.int .i64 t, .slice A na ca, .slice B nb cb, .int .i64 s] w fun e w' => e = .returned (.bool b) ∧ ∃ n, w' = w.drewN n := by
  have := iAskingOk t A B na ca nb cb asks issue s w ha hb
  rw [h.out] at this; exact this

/-- The function that counts has been made. -/
def CntPost (asks issue : List Int) (A B : Option Addr) (na ca nb cb : Nat) (w : World) (e : Ending) (w' : World) : Prop :=
  ∃ bI bR bA bF bM : Nat, e = .returned (cntFn bI bR bA bF) ∧ CntIds asks issue bI bR bA bF bM w.heap.size A B ∧ Cnt (needs asks issue) asks issue A B na ca nb cb bI bR bA bF bM w.heap.size w w'
set_option maxRecDepth 100000 in
set_option maxHeartbeats 4000000 in
theorem iMakeCount (A B : Option Addr) (na ca nb cb : Nat) (asks issue : List Int) (w : World) (ha : Nums .i64 w A asks) (hb : Nums .i64 w B issue) (hoa : asks.length = 0 ∨ ∀ ad, A = some ad → ad.block < w.heap.size) (hob : issue.length = 0 ∨ ∀ ad, B = some ad → ad.block < w.heap.size) :
    Calls Tryd.prog 16 #[.slice A na ca, .slice B nb cb] w (CntPost asks issue A B na ca nb cb w) := by
  have HA := Lib.hid ha
  have HB := Lib.hid hb
  have HOA := Lib.hid hoa
  have HOB := Lib.hid hob
  clear ha hb hoa hob
  have hmf : ∀ (fn : Fn) (first cap : Array Value) (w : World), (Instr.makeFunc fn first cap).run Tryd.prog w = .ok (.func fn first cap) w := fun _ _ _ _ => rfl
  have hmm := @run_makeMap Tryd.prog
  have hst : ∀ (a : Addr) (fn : Fn) (first cap : Array Value) (m : Mode) (w : World), (store a (.func fn first cap) m).run Tryd.prog w = stored Tryd.prog w a (.func fn first cap) m := fun _ _ _ _ _ _ => run_store _ _ _ _ _ rfl
  obtain ⟨W4, hW4⟩ : ∃ W, (((w.alloc (.cells #[.slice A na ca] 23)).alloc (.cells #[.slice B nb cb] 23)).alloc (.map #[] 0)).alloc (.cells #[.map (some (w.heap.size + 1 + 1))] 55) = W := ⟨_, rfl⟩
  have hsz : W4.heap.size = w.heap.size + 1 + 1 + 1 + 1 := by rw [← hW4]; simp
  have xF := Boxed.new W4 38 .nilFunc
  rw [hsz] at xF
  have hcF := xF.cell
  have hfF := xF.frozen
  rw [← hW4] at hcF hfF
  have X4 := Lib.hid hW4
  have XF := Lib.hid xF
  clear hW4 xF
  go_enter Tryd.func16, Tryd.ntmps16
  go_wp2_with fail
  go_ret
  have hb1 : Below w.heap.size w (w.alloc (.cells #[.slice A na ca] 23)) := (Below.refl _ w).alloc (Nat.le_refl _) _
  have hb2 := hb1.alloc (o := .cells #[.slice B nb cb] 23) (by simp)
  have hb3 := hb2.alloc (o := .map #[] 0) (by simp; omega)
  have hb4 := hb3.alloc (o := .cells #[.map (some (w.heap.size + 1 + 1))] 55) (by simp; omega)
  have hb5 := hb4.alloc (o := .cells #[cntFn (w.heap.size + 1) (w.heap.size + 1 + 1 + 1) w.heap.size (w.heap.size + 1 + 1 + 1 + 1)] 38) (by simp; omega)
  have x1 := Boxed.new (w.alloc (.cells #[.slice A na ca] 23)) 23 (.slice B nb cb)
  rw [World.size_alloc] at x1
  have m2 := World.ownsMap_made ((w.alloc (.cells #[.slice A na ca] 23)).alloc (.cells #[.slice B nb cb] 23)) Tryd.prog 3 (plainElem (H := Unit) Tryd.prog 3)
  simp only [World.size_alloc] at m2
  have x3 := Boxed.new (((w.alloc (.cells #[.slice A na ca] 23)).alloc (.cells #[.slice B nb cb] 23)).alloc (.map #[] 0)) 55 (.map (some (w.heap.size + 1 + 1)))
  simp only [World.size_alloc] at x3
  have x4 := Boxed.new ((((w.alloc (.cells #[.slice A na ca] 23)).alloc (.cells #[.slice B nb cb] 23)).alloc (.map #[] 0)).alloc (.cells #[.map (some (w.heap.size + 1 + 1))] 55)) 38 (cntFn (w.heap.size + 1) (w.heap.size + 1 + 1 + 1) w.heap.size (w.heap.size + 1 + 1 + 1 + 1))
  simp only [World.size_alloc] at x4
  refine ⟨w.heap.size + 1, w.heap.size + 1 + 1 + 1, w.heap.size, w.heap.size + 1 + 1 + 1 + 1, w.heap.size + 1 + 1, rfl, ⟨by omega, by omega, by omega, by omega, by omega, ?_, ?_⟩, ⟨((x1.alloc _).alloc _).alloc _, x3.alloc _, ((((Boxed.new w 23 (.slice A na ca)).alloc _).alloc _).alloc _).alloc _, x4, HA.out.below hb5, HB.out.below hb5, hb5, ⟨.map [], (m2.alloc _).alloc _, Remb.start _⟩⟩⟩
  · exact HOA.out.elim .inl (fun h => .inr fun ad e => by have := h ad e; omega)
  · exact HOB.out.elim .inl (fun h => .inr fun ad e => by have := h ad e; omega)
theorem row_block {w : World} {A : Option Addr} {n c : Nat} {xs : List Int} (h : Row w A n c xs) : xs.length = 0 ∨ ∀ ad, A = some ad → ad.block < w.heap.size := by
  by_cases hz : xs.length = 0
  · exact .inl hz
  · right
    obtain ⟨b, off, x, rfl, hcell, _, _⟩ := h.hA.elem (i := 0) (by omega)
    intro ad e
    cases e
    exact World.block_lt_of_cell? w _ hcell
def AskedPost (v : Int) (w : World) (e : Ending) (w' : World) : Prop := e = .returned (.int .i64 v) ∧ Below w.heap.size w w'
set_option maxRecDepth 100000 in
set_option maxHeartbeats 4000000 in
theorem iAsksNeeded (t : Int) (A B : Option Addr) (na ca nb cb : Nat) (asks issue : List Int) (s : Int) (w : World) (ha : Row w A na ca asks) (hb : Row w B nb cb issue) :
    Calls Tryd.prog 8 #[.int .i64 t, .slice A na ca, .slice B nb cb, .int .i64 s] w (AskedPost (asksNeededI t asks issue s) w) := by
  have HA := Lib.hid ha
  have HB := Lib.hid hb
  obtain ⟨res, HRES⟩ : ∃ r, Hid (asksNeededI t asks issue s = r) := ⟨_, rfl⟩
  rw [HRES.out]
  obtain ⟨b, HOK⟩ : ∃ b, Hid (ok7 t asks issue s = b) := ⟨_, rfl⟩
  have hres := HRES.out
  unfold asksNeededI at hres
  rw [HOK.out] at hres
  clear ha hb HRES
  cases b
  · have HN : Hid (-1 = res) := hres
    clear hres
    go_enter Tryd.func8, Tryd.ntmps8
    go_wp2_with fail
    refine (iAskingOk_is HOK HA.out HB.out).mono ?_
    rintro e w' ⟨rfl, q, rfl⟩
    go_wp2_with fail
    go_ret
    exact ⟨ret_int HN.out, bel_drewN (Below.refl _ _) _⟩
  · obtain ⟨hr, hi, hu0, hu, hl5, _⟩ := ok7_parts HOK.out
    have HN : Hid (needs asks issue s = res) := hres
    have HR := Lib.hid hr
    have HI := Lib.hid hi
    clear hres hr hi
    go_enter Tryd.func8, Tryd.ntmps8
    go_wp2_with fail
    refine (iAskingOk_is HOK HA.out HB.out).mono ?_
    rintro e w1 ⟨rfl, q, rfl⟩
    have HM := Lib.hid (iMakeCount A B na ca nb cb asks issue (w.drewN q) (HA.out.hA.drewN q) (HB.out.hA.drewN q) (row_block (HA.out.drewN q)) (row_block (HB.out.drewN q)))
    go_wp2_with fail
    refine HM.out.mono ?_
    rintro e w2 ⟨bI, bR, bA, bF, bM, rfl, hids, hcnt⟩
    have HC := Lib.hid ((iNeedAt hids HA.out.hn hl5 HB.out.hn HB.out.hl HR.out HI.out (fun W h => h.size) 256 s hu0 hu (by omega)).call HN hcnt)
    clear hids hcnt
    go_wp2_with fail
    refine HC.out.mono ?_
    rintro e w3 ⟨rfl, hc3⟩
    have HB3 : Hid (Below w.heap.size w w3) := bel_trans (bel_drewN (Below.refl _ _) q) hc3.hb
    clear hc3
    go_wp2_with fail
    go_ret
    exact ⟨rfl, HB3.out⟩
end Go.Proofs.YtpjpbemgjniljaaDoor
