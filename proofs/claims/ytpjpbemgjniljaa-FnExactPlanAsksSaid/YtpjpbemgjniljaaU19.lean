/-
  What the proofs of this seat's statements share (QstW).
-/
import Derived.Test.YtpjpbemgjniljaaU18

namespace Go.Proofs.Ytpjpbemgjniljaa
open Go.RowKit

theorem sPlanAsks_is {t : Int} {asks issue : List Int} {u : Int} {s : ByteArray} {d : Int} (h : Hid (planAsksI t asks issue u s = d)) {A B : Option Addr} {na ca nb cb : Nat} {w : World} (ha : Row w A na ca asks) (hb : Row w B nb cb issue) (hs : s.size ≤ 1048576) :
    Calls Try.prog 18 #[.int .i64 t, .slice A na ca, .slice B nb cb, .int .i64 u, .string s] w fun e w' => e = .returned (.int .i64 d) ∧ ∃ n, w' = w.drewN n := by
  have := sPlanAsks t A B na ca nb cb asks issue u s w ha hb hs
  rw [h.out] at this; exact this
theorem ans_snoc (l : List Bool) (b : Bool) : ansB l ++ (if b = true then ⟨#[121]⟩ else ⟨#[110]⟩) = ansB (l ++ [b]) := by
  induction l with
  | nil => cases b <;> rfl
  | cons a r ih =>
    show ((if a = true then (⟨#[121]⟩ : ByteArray) else ⟨#[110]⟩) ++ ansB r) ++ _ = (if a = true then (⟨#[121]⟩ : ByteArray) else ⟨#[110]⟩) ++ ansB (r ++ [b])
    rw [ByteArray.append_assoc, ih]
theorem plan_at {s : ByteArray} {p : PlanT} {at_ : Nat} {rest : List Nat} (h : (bytesN s).drop at_ = textP p ++ rest) : at_ + (textP p).length + rest.length = s.size ∨ s.size < at_ := by
  have := congrArg List.length h
  rw [List.length_drop, bytesN_len, List.length_append] at this
  omega
def SNoText (w : World) (e : Ending) (w' : World) : Prop := e = .returned (.tuple #[.string ⟨#[]⟩, .bool false]) ∧ ∃ n, w' = w.drewN n
def SSomeText (b : ByteArray) (w : World) (e : Ending) (w' : World) : Prop := e = .returned (.tuple #[.string b, .bool true]) ∧ ∃ n, w' = w.drewN n
def SAnsPost (o : Option ByteArray) (w : World) (e : Ending) (w' : World) : Prop :=
  match o with
  | some b => SSomeText b w e w'
  | none => SNoText w e w'
set_option maxRecDepth 100000 in
set_option maxHeartbeats 8000000 in
theorem sAnswersTo (t : Int) (A B : Option Addr) (na ca nb cb : Nat) (asks issue : List Int) (u : Int) (s : ByteArray) (v : Int) (w : World) (ha : Row w A na ca asks) (hb : Row w B nb cb issue) (hs : s.size ≤ 1048576) :
    Calls Try.prog 21 #[.int .i64 t, .slice A na ca, .slice B nb cb, .int .i64 u, .string s, .int .i64 v] w (SAnsPost (answersToB t asks issue u s v) w) := by
  have HA := Lib.hid ha
  have HB := Lib.hid hb
  rcases hp : settlingP t asks issue u s with _ | x
  · have HP : Hid (planAsksI t asks issue u s = -1) := by unfold Hid; rw [planAsks_eq, hp]
    rw [answersTo_none hp]
    show Calls _ _ _ _ (SNoText w)
    clear hp ha hb
    go_enter Try.func21, Try.ntmps21
    go_wp2_with fail
    refine (sPlanAsks_is HP HA.out HB.out hs).mono ?_
    rintro e w' ⟨rfl, q, rfl⟩
    go_wp2_with fail
    go_ret2
    exact ⟨rfl, _, rfl⟩
  · have HP : Hid (planAsksI t asks issue u s = (depthP x : Int)) := by unfold Hid; rw [planAsks_eq, hp]
    obtain ⟨d, HD⟩ : ∃ d, Hid (depthP x = d) := ⟨_, rfl⟩
    rw [HD.out] at HP
    have hdn : decide ((d : Int) < (0 : Int)) = false := decide_eq_false (by omega)
    have HSP := Lib.hid hp
    obtain ⟨hok, hpo, _⟩ := settling_is hp
    obtain ⟨hr, hi, hu0, hu, hl5, _⟩ := ok7_parts hok
    obtain ⟨ht1, ht3⟩ := things7 hok
    obtain ⟨hbt, hkn, hs60⟩ := planOf_is hpo
    have HBT := Lib.hid hbt
    have HKN := Lib.hid hkn
    have HR := Lib.hid hr
    have ht : t = 1 ∨ t = 2 ∨ t = 3 := by omega
    obtain rfl := ha.hn
    have hla := ha.hl
    clear hok hpo hr hi hbt hkn ht1 ht3 hp ha hb
    rcases ht with rfl | rfl | rfl
    · rcases h2 : inB v 0 1 with _ | _
      · have H2 := Lib.hid h2
        rw [answersTo_no HSP.out (fun h => by
          have h3 : v < 2 := h.2.1
          unfold inB at h2
          rw [decide_eq_false_iff_not] at h2
          omega)]
        show Calls _ _ _ _ (SNoText w)
        clear h2
        go_enter Try.func21, Try.ntmps21
        go_wp2_with fail
        refine (sPlanAsks_is HP HA.out HB.out hs).mono ?_
        rintro e w' ⟨rfl, q, rfl⟩
        go_wp2_with fail
        refine (sIn_is H2 _).mono ?_
        rintro e w' ⟨rfl, rfl⟩
        go_wp2_with fail
        go_ret2
        exact ⟨rfl, _, rfl⟩
      · have H2 := Lib.hid h2
        have hur : 0 ≤ v ∧ v ≤ 1 := by unfold inB at h2; exact of_decide_eq_true h2
        obtain ⟨k, rfl⟩ : ∃ k : Nat, v = k := ⟨v.toNat, by omega⟩
        have hk : k < 2 := by omega
        have hbv := bit_val (k := k) hu0
        clear h2 hur
        rcases hh : hasW u k with _ | _
        · have hb : ((u / (2 : Int) ^ k).tmod 2 == 0) = true := by rw [hbv, hh]; rfl
          rw [answersTo_no HSP.out (fun h => by rw [Int.toNat_natCast, hh] at h; exact absurd h.2.2 (by decide))]
          show Calls _ _ _ _ (SNoText w)
          clear hbv hh
          go_enter Try.func21, Try.ntmps21
          go_wp2_with fail
          refine (sPlanAsks_is HP HA.out HB.out hs).mono ?_
          rintro e w' ⟨rfl, q, rfl⟩
          go_wp2_with fail
          refine (sIn_is H2 _).mono ?_
          rintro e w' ⟨rfl, rfl⟩
          go_wp2_with fail
          go_ret2
          exact ⟨rfl, _, rfl⟩
        · have hb : ((u / (2 : Int) ^ k).tmod 2 == 0) = false := by rw [hbv, hh]; rfl
          rw [answersTo_yes HSP.out (by show (k : Int) < 2; omega) hh]
          show Calls _ _ _ _ (SSomeText (ansB (answersP asks k x)) w)
          obtain ⟨ans, HANS⟩ : ∃ a, Hid (answersP asks k x = a) := ⟨_, rfl⟩
          rw [HANS.out]
          have HAL : Hid (ans.length ≤ 60) := by
            unfold Hid
            rw [← HANS.out]
            have h1 := answersP_len asks k x
            have h3 : ∀ y : PlanT, depthP y ≤ (textP y).length := by
              intro y
              induction y with
              | dot => simp [depthP]
              | ask k y z h1 h2 => unfold depthP textP; simp; omega
            have h4 := h3 x
            have h5 := congrArg List.length HBT.out
            rw [bytesN_len] at h5
            omega
          clear hbv hh
          go_enter Try.func21, Try.ntmps21
          go_wp2_with fail
          refine (sPlanAsks_is HP HA.out HB.out hs).mono ?_
          rintro e w' ⟨rfl, q, rfl⟩
          go_wp2_with fail
          refine (sIn_is H2 _).mono ?_
          rintro e w' ⟨rfl, rfl⟩
          go_wp2_with fail
          go_loopw [14, 15] (fun o a wr => ∃ (y : PlanT) (at_ : Nat) (rest : List Nat) (l : List Bool), a = .int .i64 at_ ∧ at_ ≤ s.size ∧ Hid ((bytesN s).drop at_ = textP y ++ rest) ∧ Hid (knowsP asks.length y) ∧ o = .string (ansB l) ∧ Hid (l ++ answersP asks k y = ans) ∧ ∃ q, wr = w.drewN q) (fun _ a _ => s.size - (Go.RowKit.intOf a).toNat)
          case atStart => exact ⟨x, 0, [], [], rfl, Nat.zero_le _, by unfold Hid; rw [List.drop_zero, List.append_nil]; exact HBT.out, HKN, rfl, by unfold Hid; rw [List.nil_append]; exact HANS.out, _, rfl⟩
          case round =>
            obtain ⟨y, at_, rest, l, rfl, hat, hdr, hkn, rfl, hans, q1, rfl⟩ := hrel
            have hll : l.length ≤ 60 := by
              have h1 := congrArg List.length hans.out
              rw [List.length_append] at h1
              have := HAL.out
              omega
            have hbo : (ansB l).size ≤ 60 := by rw [ansB_size]; exact hll
            obtain ⟨bo, HBO⟩ : ∃ b, Hid (ansB l = b) := ⟨_, rfl⟩
            rw [HBO.out] at hbo ⊢
            cases y with
            | dot =>
              obtain ⟨hlt, hc, _⟩ := byte_at (c := 46) (l := rest) hdr.out
              have hd1 : (at_ : Int) < (s.size : Int) := by omega
              have hd0 : (0 : Int) ≤ (at_ : Int) := by omega
              have HE : Hid (bo = ansB ans) := by
                unfold Hid
                rw [← HBO.out]
                have h1 := hans.out
                rw [show answersP asks k PlanT.dot = [] from rfl, List.append_nil] at h1
                rw [h1]
              clear hll
              go_wp2_with fail
              go_ret2
              exact ⟨by show Ending.returned (.tuple #[.string bo, .bool true]) = _; rw [HE.out], _, rfl⟩
            | ask j y1 y2 =>
              obtain ⟨hj, hk1, hk2⟩ := hkn.out
              have e : textP (.ask j y1 y2) ++ rest = (48 + j) :: 40 :: (textP y1 ++ (textP y2 ++ 41 :: rest)) := by
                show ((48 + j) :: 40 :: (textP y1 ++ (textP y2 ++ [41]))) ++ rest = _
                simp
              have hdr2 := hdr.out
              rw [e] at hdr2
              obtain ⟨hlt, hcc, hr1⟩ := byte_at hdr2
              obtain ⟨hlt2, _, hr2⟩ := byte_at hr1
              obtain ⟨c, hc⟩ : ∃ c, s[at_].toNat = c := ⟨_, rfl⟩
              have hck : Hid (c = 48 + j) := by unfold Hid; rw [← hc]; exact hcc
              have hix : (c : Int) - 48 = (j : Int) := by have := hck.out; omega
              have hc256 : c < 256 := by rw [← hc]; exact UInt8.toNat_lt _
              have e46 : ((c : Int) == 46) = false := by rw [beq_eq_false_iff_ne]; have := hck.out; omega
              have e46n : ((c : Int) != 46) = true := by rw [bne, e46]; rfl
              have hd1 : (at_ : Int) < (s.size : Int) := by omega
              have hd0 : (0 : Int) ≤ (at_ : Int) := by omega
              obtain ⟨b, off, z, rfl, hcell, hz, _⟩ := HA.out.hA.elem hj
              obtain ⟨hz0, hz1⟩ := HR.out z (elem_mem hz)
              have hzb := bit_val (k := k) hz0
              have hg : asks.getD j 0 = z := by rw [List.getD_eq_getElem?_getD, hz.out]; rfl
              have HR2 := Lib.hid hr2
              have HK1 := Lib.hid hk1
              have HK2 := Lib.hid hk2
              have hlj : (j : Int) < (asks.length : Int) := by omega
              rcases hq : hasW z k with _ | _
              · have hbb : ((z / (2 : Int) ^ k).tmod 2 == 1) = false := by rw [hzb, hq]; rfl
                have HNA : Hid ((l ++ [false]) ++ answersP asks k y2 = ans) := by
                  unfold Hid
                  rw [← hans.out, List.append_assoc]
                  show _ = l ++ (if hasW (asks.getD j 0) k = true then true :: answersP asks k y1 else false :: answersP asks k y2)
                  rw [hg, hq]; rfl
                have HNO : Hid (bo ++ (⟨#[110]⟩ : ByteArray) = ansB (l ++ [false])) := by unfold Hid; rw [← HBO.out]; exact ans_snoc l false
                have HSK := Lib.hid (sSkip hs y1 (at_ + 2) (textP y2 ++ 41 :: rest) · hr2)
                have hpa := plan_at hr2
                have HPA : Hid (∀ a2 : Nat, a2 ≤ s.size → (bytesN s).drop a2 = textP y2 ++ 41 :: rest → at_ < a2) := fun a2 h1 h2 => by
                  have h3 := plan_at h2
                  have h4 := text_pos y1
                  rw [List.length_append] at hpa
                  omega
                have hat2 : (((at_ + 2 : Nat) : Int)) = (at_ : Int) + 2 := by omega
                rw [hat2] at HSK
                clear hzb hq hg hr1 hr2 hdr2 hk1 hk2 hcc e hll hpa hat2
                go_wp2_with fail
                refine (HSK.out _).mono ?_
                rintro e w' ⟨a2, rfl, ha2, hd2, q3, rfl⟩
                have hgt := HPA.out a2 ha2 hd2
                have HD2 := Lib.hid hd2
                clear hd2
                go_wp2_with fail
                go_roundw
                case rel => exact ⟨y2, a2, 41 :: rest, l ++ [false], rfl, ha2, HD2, HK2, by rw [← HNO.out], HNA, _, by first | rfl | rw [World.drewN_drewN]⟩
                case measure => simp [Go.RowKit.intOf]; omega
              · have hbb : ((z / (2 : Int) ^ k).tmod 2 == 1) = true := by rw [hzb, hq]; rfl
                have HNA : Hid ((l ++ [true]) ++ answersP asks k y1 = ans) := by
                  unfold Hid
                  rw [← hans.out, List.append_assoc]
                  show _ = l ++ (if hasW (asks.getD j 0) k = true then true :: answersP asks k y1 else false :: answersP asks k y2)
                  rw [hg, hq]; rfl
                have HNO : Hid (bo ++ (⟨#[121]⟩ : ByteArray) = ansB (l ++ [true])) := by unfold Hid; rw [← HBO.out]; exact ans_snoc l true
                clear hzb hq hg hr1 hr2 hdr2 hk1 hk2 hcc e hll
                go_wp2_with fail
                go_roundw
                case rel => exact ⟨y1, at_ + 2, textP y2 ++ 41 :: rest, l ++ [true], by go_num, by omega, HR2, HK1, by rw [← HNO.out], HNA, _, rfl⟩
                case measure => simp [Go.RowKit.intOf]; omega
    · rcases h2 : inB v 0 3 with _ | _
      · have H2 := Lib.hid h2
        rw [answersTo_no HSP.out (fun h => by
          have h3 : v < 4 := h.2.1
          unfold inB at h2
          rw [decide_eq_false_iff_not] at h2
          omega)]
        show Calls _ _ _ _ (SNoText w)
        clear h2
        go_enter Try.func21, Try.ntmps21
        go_wp2_with fail
        refine (sPlanAsks_is HP HA.out HB.out hs).mono ?_
        rintro e w' ⟨rfl, q, rfl⟩
        go_wp2_with fail
        refine (sIn_is H2 _).mono ?_
        rintro e w' ⟨rfl, rfl⟩
        go_wp2_with fail
        go_ret2
        exact ⟨rfl, _, rfl⟩
      · have H2 := Lib.hid h2
        have hur : 0 ≤ v ∧ v ≤ 3 := by unfold inB at h2; exact of_decide_eq_true h2
        obtain ⟨k, rfl⟩ : ∃ k : Nat, v = k := ⟨v.toNat, by omega⟩
        have hk : k < 4 := by omega
        have hbv := bit_val (k := k) hu0
        clear h2 hur
        rcases hh : hasW u k with _ | _
        · have hb : ((u / (2 : Int) ^ k).tmod 2 == 0) = true := by rw [hbv, hh]; rfl
          rw [answersTo_no HSP.out (fun h => by rw [Int.toNat_natCast, hh] at h; exact absurd h.2.2 (by decide))]
          show Calls _ _ _ _ (SNoText w)
          clear hbv hh
          go_enter Try.func21, Try.ntmps21
          go_wp2_with fail
          refine (sPlanAsks_is HP HA.out HB.out hs).mono ?_
          rintro e w' ⟨rfl, q, rfl⟩
          go_wp2_with fail
          refine (sIn_is H2 _).mono ?_
          rintro e w' ⟨rfl, rfl⟩
          go_wp2_with fail
          go_ret2
          exact ⟨rfl, _, rfl⟩
        · have hb : ((u / (2 : Int) ^ k).tmod 2 == 0) = false := by rw [hbv, hh]; rfl
          rw [answersTo_yes HSP.out (by show (k : Int) < 4; omega) hh]
          show Calls _ _ _ _ (SSomeText (ansB (answersP asks k x)) w)
          obtain ⟨ans, HANS⟩ : ∃ a, Hid (answersP asks k x = a) := ⟨_, rfl⟩
          rw [HANS.out]
          have HAL : Hid (ans.length ≤ 60) := by
            unfold Hid
            rw [← HANS.out]
            have h1 := answersP_len asks k x
            have h3 : ∀ y : PlanT, depthP y ≤ (textP y).length := by
              intro y
              induction y with
              | dot => simp [depthP]
              | ask k y z h1 h2 => unfold depthP textP; simp; omega
            have h4 := h3 x
            have h5 := congrArg List.length HBT.out
            rw [bytesN_len] at h5
            omega
          clear hbv hh
          go_enter Try.func21, Try.ntmps21
          go_wp2_with fail
          refine (sPlanAsks_is HP HA.out HB.out hs).mono ?_
          rintro e w' ⟨rfl, q, rfl⟩
          go_wp2_with fail
          refine (sIn_is H2 _).mono ?_
          rintro e w' ⟨rfl, rfl⟩
          go_wp2_with fail
          go_loopw [14, 15] (fun o a wr => ∃ (y : PlanT) (at_ : Nat) (rest : List Nat) (l : List Bool), a = .int .i64 at_ ∧ at_ ≤ s.size ∧ Hid ((bytesN s).drop at_ = textP y ++ rest) ∧ Hid (knowsP asks.length y) ∧ o = .string (ansB l) ∧ Hid (l ++ answersP asks k y = ans) ∧ ∃ q, wr = w.drewN q) (fun _ a _ => s.size - (Go.RowKit.intOf a).toNat)
          case atStart => exact ⟨x, 0, [], [], rfl, Nat.zero_le _, by unfold Hid; rw [List.drop_zero, List.append_nil]; exact HBT.out, HKN, rfl, by unfold Hid; rw [List.nil_append]; exact HANS.out, _, rfl⟩
          case round =>
            obtain ⟨y, at_, rest, l, rfl, hat, hdr, hkn, rfl, hans, q1, rfl⟩ := hrel
            have hll : l.length ≤ 60 := by
              have h1 := congrArg List.length hans.out
              rw [List.length_append] at h1
              have := HAL.out
              omega
            have hbo : (ansB l).size ≤ 60 := by rw [ansB_size]; exact hll
            obtain ⟨bo, HBO⟩ : ∃ b, Hid (ansB l = b) := ⟨_, rfl⟩
            rw [HBO.out] at hbo ⊢
            cases y with
            | dot =>
              obtain ⟨hlt, hc, _⟩ := byte_at (c := 46) (l := rest) hdr.out
              have hd1 : (at_ : Int) < (s.size : Int) := by omega
              have hd0 : (0 : Int) ≤ (at_ : Int) := by omega
              have HE : Hid (bo = ansB ans) := by
                unfold Hid
                rw [← HBO.out]
                have h1 := hans.out
                rw [show answersP asks k PlanT.dot = [] from rfl, List.append_nil] at h1
                rw [h1]
              clear hll
              go_wp2_with fail
              go_ret2
              exact ⟨by show Ending.returned (.tuple #[.string bo, .bool true]) = _; rw [HE.out], _, rfl⟩
            | ask j y1 y2 =>
              obtain ⟨hj, hk1, hk2⟩ := hkn.out
              have e : textP (.ask j y1 y2) ++ rest = (48 + j) :: 40 :: (textP y1 ++ (textP y2 ++ 41 :: rest)) := by
                show ((48 + j) :: 40 :: (textP y1 ++ (textP y2 ++ [41]))) ++ rest = _
                simp
              have hdr2 := hdr.out
              rw [e] at hdr2
              obtain ⟨hlt, hcc, hr1⟩ := byte_at hdr2
              obtain ⟨hlt2, _, hr2⟩ := byte_at hr1
              obtain ⟨c, hc⟩ : ∃ c, s[at_].toNat = c := ⟨_, rfl⟩
              have hck : Hid (c = 48 + j) := by unfold Hid; rw [← hc]; exact hcc
              have hix : (c : Int) - 48 = (j : Int) := by have := hck.out; omega
              have hc256 : c < 256 := by rw [← hc]; exact UInt8.toNat_lt _
              have e46 : ((c : Int) == 46) = false := by rw [beq_eq_false_iff_ne]; have := hck.out; omega
              have e46n : ((c : Int) != 46) = true := by rw [bne, e46]; rfl
              have hd1 : (at_ : Int) < (s.size : Int) := by omega
              have hd0 : (0 : Int) ≤ (at_ : Int) := by omega
              obtain ⟨b, off, z, rfl, hcell, hz, _⟩ := HA.out.hA.elem hj
              obtain ⟨hz0, hz1⟩ := HR.out z (elem_mem hz)
              have hzb := bit_val (k := k) hz0
              have hg : asks.getD j 0 = z := by rw [List.getD_eq_getElem?_getD, hz.out]; rfl
              have HR2 := Lib.hid hr2
              have HK1 := Lib.hid hk1
              have HK2 := Lib.hid hk2
              have hlj : (j : Int) < (asks.length : Int) := by omega
              rcases hq : hasW z k with _ | _
              · have hbb : ((z / (2 : Int) ^ k).tmod 2 == 1) = false := by rw [hzb, hq]; rfl
                have HNA : Hid ((l ++ [false]) ++ answersP asks k y2 = ans) := by
                  unfold Hid
                  rw [← hans.out, List.append_assoc]
                  show _ = l ++ (if hasW (asks.getD j 0) k = true then true :: answersP asks k y1 else false :: answersP asks k y2)
                  rw [hg, hq]; rfl
                have HNO : Hid (bo ++ (⟨#[110]⟩ : ByteArray) = ansB (l ++ [false])) := by unfold Hid; rw [← HBO.out]; exact ans_snoc l false
                have HSK := Lib.hid (sSkip hs y1 (at_ + 2) (textP y2 ++ 41 :: rest) · hr2)
                have hpa := plan_at hr2
                have HPA : Hid (∀ a2 : Nat, a2 ≤ s.size → (bytesN s).drop a2 = textP y2 ++ 41 :: rest → at_ < a2) := fun a2 h1 h2 => by
                  have h3 := plan_at h2
                  have h4 := text_pos y1
                  rw [List.length_append] at hpa
                  omega
                have hat2 : (((at_ + 2 : Nat) : Int)) = (at_ : Int) + 2 := by omega
                rw [hat2] at HSK
                clear hzb hq hg hr1 hr2 hdr2 hk1 hk2 hcc e hll hpa hat2
                go_wp2_with fail
                refine (HSK.out _).mono ?_
                rintro e w' ⟨a2, rfl, ha2, hd2, q3, rfl⟩
                have hgt := HPA.out a2 ha2 hd2
                have HD2 := Lib.hid hd2
                clear hd2
                go_wp2_with fail
                go_roundw
                case rel => exact ⟨y2, a2, 41 :: rest, l ++ [false], rfl, ha2, HD2, HK2, by rw [← HNO.out], HNA, _, by first | rfl | rw [World.drewN_drewN]⟩
                case measure => simp [Go.RowKit.intOf]; omega
              · have hbb : ((z / (2 : Int) ^ k).tmod 2 == 1) = true := by rw [hzb, hq]; rfl
                have HNA : Hid ((l ++ [true]) ++ answersP asks k y1 = ans) := by
                  unfold Hid
                  rw [← hans.out, List.append_assoc]
                  show _ = l ++ (if hasW (asks.getD j 0) k = true then true :: answersP asks k y1 else false :: answersP asks k y2)
                  rw [hg, hq]; rfl
                have HNO : Hid (bo ++ (⟨#[121]⟩ : ByteArray) = ansB (l ++ [true])) := by unfold Hid; rw [← HBO.out]; exact ans_snoc l true
                clear hzb hq hg hr1 hr2 hdr2 hk1 hk2 hcc e hll
                go_wp2_with fail
                go_roundw
                case rel => exact ⟨y1, at_ + 2, textP y2 ++ 41 :: rest, l ++ [true], by go_num, by omega, HR2, HK1, by rw [← HNO.out], HNA, _, rfl⟩
                case measure => simp [Go.RowKit.intOf]; omega
    · rcases h2 : inB v 0 7 with _ | _
      · have H2 := Lib.hid h2
        rw [answersTo_no HSP.out (fun h => by
          have h3 : v < 8 := h.2.1
          unfold inB at h2
          rw [decide_eq_false_iff_not] at h2
          omega)]
        show Calls _ _ _ _ (SNoText w)
        clear h2
        go_enter Try.func21, Try.ntmps21
        go_wp2_with fail
        refine (sPlanAsks_is HP HA.out HB.out hs).mono ?_
        rintro e w' ⟨rfl, q, rfl⟩
        go_wp2_with fail
        refine (sIn_is H2 _).mono ?_
        rintro e w' ⟨rfl, rfl⟩
        go_wp2_with fail
        go_ret2
        exact ⟨rfl, _, rfl⟩
      · have H2 := Lib.hid h2
        have hur : 0 ≤ v ∧ v ≤ 7 := by unfold inB at h2; exact of_decide_eq_true h2
        obtain ⟨k, rfl⟩ : ∃ k : Nat, v = k := ⟨v.toNat, by omega⟩
        have hk : k < 8 := by omega
        have hbv := bit_val (k := k) hu0
        clear h2 hur
        rcases hh : hasW u k with _ | _
        · have hb : ((u / (2 : Int) ^ k).tmod 2 == 0) = true := by rw [hbv, hh]; rfl
          rw [answersTo_no HSP.out (fun h => by rw [Int.toNat_natCast, hh] at h; exact absurd h.2.2 (by decide))]
          show Calls _ _ _ _ (SNoText w)
          clear hbv hh
          go_enter Try.func21, Try.ntmps21
          go_wp2_with fail
          refine (sPlanAsks_is HP HA.out HB.out hs).mono ?_
          rintro e w' ⟨rfl, q, rfl⟩
          go_wp2_with fail
          refine (sIn_is H2 _).mono ?_
          rintro e w' ⟨rfl, rfl⟩
          go_wp2_with fail
          go_ret2
          exact ⟨rfl, _, rfl⟩
        · have hb : ((u / (2 : Int) ^ k).tmod 2 == 0) = false := by rw [hbv, hh]; rfl
          rw [answersTo_yes HSP.out (by show (k : Int) < 8; omega) hh]
          show Calls _ _ _ _ (SSomeText (ansB (answersP asks k x)) w)
          obtain ⟨ans, HANS⟩ : ∃ a, Hid (answersP asks k x = a) := ⟨_, rfl⟩
          rw [HANS.out]
          have HAL : Hid (ans.length ≤ 60) := by
            unfold Hid
            rw [← HANS.out]
            have h1 := answersP_len asks k x
            have h3 : ∀ y : PlanT, depthP y ≤ (textP y).length := by
              intro y
              induction y with
              | dot => simp [depthP]
              | ask k y z h1 h2 => unfold depthP textP; simp; omega
            have h4 := h3 x
            have h5 := congrArg List.length HBT.out
            rw [bytesN_len] at h5
            omega
          clear hbv hh
          go_enter Try.func21, Try.ntmps21
          go_wp2_with fail
          refine (sPlanAsks_is HP HA.out HB.out hs).mono ?_
          rintro e w' ⟨rfl, q, rfl⟩
          go_wp2_with fail
          refine (sIn_is H2 _).mono ?_
          rintro e w' ⟨rfl, rfl⟩
          go_wp2_with fail
          go_loopw [14, 15] (fun o a wr => ∃ (y : PlanT) (at_ : Nat) (rest : List Nat) (l : List Bool), a = .int .i64 at_ ∧ at_ ≤ s.size ∧ Hid ((bytesN s).drop at_ = textP y ++ rest) ∧ Hid (knowsP asks.length y) ∧ o = .string (ansB l) ∧ Hid (l ++ answersP asks k y = ans) ∧ ∃ q, wr = w.drewN q) (fun _ a _ => s.size - (Go.RowKit.intOf a).toNat)
          case atStart => exact ⟨x, 0, [], [], rfl, Nat.zero_le _, by unfold Hid; rw [List.drop_zero, List.append_nil]; exact HBT.out, HKN, rfl, by unfold Hid; rw [List.nil_append]; exact HANS.out, _, rfl⟩
          case round =>
            obtain ⟨y, at_, rest, l, rfl, hat, hdr, hkn, rfl, hans, q1, rfl⟩ := hrel
            have hll : l.length ≤ 60 := by
              have h1 := congrArg List.length hans.out
              rw [List.length_append] at h1
              have := HAL.out
              omega
            have hbo : (ansB l).size ≤ 60 := by rw [ansB_size]; exact hll
            obtain ⟨bo, HBO⟩ : ∃ b, Hid (ansB l = b) := ⟨_, rfl⟩
            rw [HBO.out] at hbo ⊢
            cases y with
            | dot =>
              obtain ⟨hlt, hc, _⟩ := byte_at (c := 46) (l := rest) hdr.out
              have hd1 : (at_ : Int) < (s.size : Int) := by omega
              have hd0 : (0 : Int) ≤ (at_ : Int) := by omega
              have HE : Hid (bo = ansB ans) := by
                unfold Hid
                rw [← HBO.out]
                have h1 := hans.out
                rw [show answersP asks k PlanT.dot = [] from rfl, List.append_nil] at h1
                rw [h1]
              clear hll
              go_wp2_with fail
              go_ret2
              exact ⟨by show Ending.returned (.tuple #[.string bo, .bool true]) = _; rw [HE.out], _, rfl⟩
            | ask j y1 y2 =>
              obtain ⟨hj, hk1, hk2⟩ := hkn.out
              have e : textP (.ask j y1 y2) ++ rest = (48 + j) :: 40 :: (textP y1 ++ (textP y2 ++ 41 :: rest)) := by
                show ((48 + j) :: 40 :: (textP y1 ++ (textP y2 ++ [41]))) ++ rest = _
                simp
              have hdr2 := hdr.out
              rw [e] at hdr2
              obtain ⟨hlt, hcc, hr1⟩ := byte_at hdr2
              obtain ⟨hlt2, _, hr2⟩ := byte_at hr1
              obtain ⟨c, hc⟩ : ∃ c, s[at_].toNat = c := ⟨_, rfl⟩
              have hck : Hid (c = 48 + j) := by unfold Hid; rw [← hc]; exact hcc
              have hix : (c : Int) - 48 = (j : Int) := by have := hck.out; omega
              have hc256 : c < 256 := by rw [← hc]; exact UInt8.toNat_lt _
              have e46 : ((c : Int) == 46) = false := by rw [beq_eq_false_iff_ne]; have := hck.out; omega
              have e46n : ((c : Int) != 46) = true := by rw [bne, e46]; rfl
              have hd1 : (at_ : Int) < (s.size : Int) := by omega
              have hd0 : (0 : Int) ≤ (at_ : Int) := by omega
              obtain ⟨b, off, z, rfl, hcell, hz, _⟩ := HA.out.hA.elem hj
              obtain ⟨hz0, hz1⟩ := HR.out z (elem_mem hz)
              have hzb := bit_val (k := k) hz0
              have hg : asks.getD j 0 = z := by rw [List.getD_eq_getElem?_getD, hz.out]; rfl
              have HR2 := Lib.hid hr2
              have HK1 := Lib.hid hk1
              have HK2 := Lib.hid hk2
              have hlj : (j : Int) < (asks.length : Int) := by omega
              rcases hq : hasW z k with _ | _
              · have hbb : ((z / (2 : Int) ^ k).tmod 2 == 1) = false := by rw [hzb, hq]; rfl
                have HNA : Hid ((l ++ [false]) ++ answersP asks k y2 = ans) := by
                  unfold Hid
                  rw [← hans.out, List.append_assoc]
                  show _ = l ++ (if hasW (asks.getD j 0) k = true then true :: answersP asks k y1 else false :: answersP asks k y2)
                  rw [hg, hq]; rfl
                have HNO : Hid (bo ++ (⟨#[110]⟩ : ByteArray) = ansB (l ++ [false])) := by unfold Hid; rw [← HBO.out]; exact ans_snoc l false
                have HSK := Lib.hid (sSkip hs y1 (at_ + 2) (textP y2 ++ 41 :: rest) · hr2)
                have hpa := plan_at hr2
                have HPA : Hid (∀ a2 : Nat, a2 ≤ s.size → (bytesN s).drop a2 = textP y2 ++ 41 :: rest → at_ < a2) := fun a2 h1 h2 => by
                  have h3 := plan_at h2
                  have h4 := text_pos y1
                  rw [List.length_append] at hpa
                  omega
                have hat2 : (((at_ + 2 : Nat) : Int)) = (at_ : Int) + 2 := by omega
                rw [hat2] at HSK
                clear hzb hq hg hr1 hr2 hdr2 hk1 hk2 hcc e hll hpa hat2
                go_wp2_with fail
                refine (HSK.out _).mono ?_
                rintro e w' ⟨a2, rfl, ha2, hd2, q3, rfl⟩
                have hgt := HPA.out a2 ha2 hd2
                have HD2 := Lib.hid hd2
                clear hd2
                go_wp2_with fail
                go_roundw
                case rel => exact ⟨y2, a2, 41 :: rest, l ++ [false], rfl, ha2, HD2, HK2, by rw [← HNO.out], HNA, _, by first | rfl | rw [World.drewN_drewN]⟩
                case measure => simp [Go.RowKit.intOf]; omega
              · have hbb : ((z / (2 : Int) ^ k).tmod 2 == 1) = true := by rw [hzb, hq]; rfl
                have HNA : Hid ((l ++ [true]) ++ answersP asks k y1 = ans) := by
                  unfold Hid
                  rw [← hans.out, List.append_assoc]
                  show _ = l ++ (if hasW (asks.getD j 0) k = true then true :: answersP asks k y1 else false :: answersP asks k y2)
                  rw [hg, hq]; rfl
                have HNO : Hid (bo ++ (⟨#[121]⟩ : ByteArray) = ansB (l ++ [true])) := by unfold Hid; rw [← HBO.out]; exact ans_snoc l true
                clear hzb hq hg hr1 hr2 hdr2 hk1 hk2 hcc e hll
                go_wp2_with fail
                go_roundw
                case rel => exact ⟨y1, at_ + 2, textP y2 ++ 41 :: rest, l ++ [true], by go_num, by omega, HR2, HK1, by rw [← HNO.out], HNA, _, rfl⟩
                case measure => simp [Go.RowKit.intOf]; omega
end Go.Proofs.Ytpjpbemgjniljaa
