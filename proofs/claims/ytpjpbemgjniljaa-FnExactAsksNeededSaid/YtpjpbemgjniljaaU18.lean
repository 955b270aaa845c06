/-
  What the proofs of this seat's statements share (QstU, QstV).
-/
import Derived.Test.YtpjpbemgjniljaaU16
import Derived.Test.YtpjpbemgjniljaaU17
import Derived.Test.YtpjpbemgjniljaaU12

namespace Go.Proofs.Ytpjpbemgjniljaa
open Go.RowKit

theorem quiet_eq7 {P : Program} {f : FuncId} {args : Array Value} {w : World} {n : Nat} {v : Value} (h : Calls P f args (w.drewN n) fun e w' => e = .returned v ∧ w.drewN n = w') :
    Calls P f args (w.drewN n) fun e w'' => e = .returned v ∧ ∃ m, w'' = w.drewN m := h.mono fun _ _ ⟨he, hm⟩ => ⟨he, n, hm.symm⟩
/-- The plan that settles the issue. -/
def settlingP (t : Int) (asks issue : List Int) (u : Int) (s : ByteArray) : Option PlanT :=
  if ok7 t asks issue u = true then match planOf asks.length s with
    | some x => if okP asks issue x u = true then some x else none
    | none => none
  else none
def SetlPost (o : Option PlanT) (w : World) (e : Ending) (w' : World) : Prop :=
  match o with
  | some x => ∃ p, e = .returned (.tuple #[.pointer p, .bool true]) ∧ QAt w' w.heap.size x p ∧ Below w.heap.size w w'
  | none => e = .returned nothing ∧ Below w.heap.size w w'
theorem planOf_is {m : Nat} {s : ByteArray} {x : PlanT} (h : planOf m s = some x) : bytesN s = textP x ∧ knowsP m x ∧ s.size ≤ 60 := by
  unfold planOf at h
  by_cases hs : s.size ≤ 60
  · rw [if_pos hs] at h
    rcases hr : readP m (s.size + 1) (bytesN s) with _ | ⟨y, _ | ⟨c, r⟩⟩
    · rw [hr] at h; cases h
    · rw [hr] at h; cases h
      have := read_is m _ _ _ _ hr
      rw [List.append_nil] at this
      exact ⟨this.1, this.2, hs⟩
    · rw [hr] at h; cases h
  · rw [if_neg hs] at h; cases h
theorem settling_is {t : Int} {asks issue : List Int} {u : Int} {s : ByteArray} {x : PlanT} (h : settlingP t asks issue u s = some x) : ok7 t asks issue u = true ∧ planOf asks.length s = some x ∧ okP asks issue x u = true := by
  unfold settlingP at h
  by_cases hk : ok7 t asks issue u = true
  · rw [if_pos hk] at h
    rcases hp : planOf asks.length s with _ | y
    · rw [hp] at h; cases h
    · rw [hp] at h
      simp only at h
      by_cases ho : okP asks issue y u = true
      · rw [if_pos ho] at h; cases h; exact ⟨hk, rfl, ho⟩
      · rw [if_neg ho] at h; cases h
  · rw [if_neg hk] at h; cases h
/-- What the model tells of a plan. -/
theorem planAsks_eq (t : Int) (asks issue : List Int) (u : Int) (s : ByteArray) : planAsksI t asks issue u s = match settlingP t asks issue u s with | some x => (depthP x : Int) | none => -1 := by
  unfold planAsksI settlingP planOf
  by_cases hk : ok7 t asks issue u = true
  · rw [if_pos hk]
    by_cases hs : s.size ≤ 60
    · rw [if_pos hs, if_pos (by rw [hk, decide_eq_true hs]; rfl), walk_read]
      rcases readP asks.length (s.size + 1) (bytesN s) with _ | ⟨y, _ | ⟨c, r⟩⟩
      · rfl
      · simp only [Option.bind_some, stepR]
        by_cases ho : okP asks issue y u = true
        · rw [if_pos ho, if_pos ho]
        · rw [if_neg ho, if_neg ho]
      · simp only [Option.bind_some, stepR]
        by_cases ho : okP asks issue y u = true
        · rw [if_pos ho]
        · rw [if_neg ho]
    · rw [if_neg hs, if_neg (by rw [decide_eq_false hs, Bool.and_false]; decide)]
  · rw [if_neg hk, if_neg (by intro h; rw [Bool.and_eq_true] at h; exact hk h.1)]

theorem iReadPlan_none {n : Nat} {s : ByteArray} (h : Hid (planOf n s = none)) (w : World) (h5 : n ≤ 5) (hs : s.size ≤ 9223372036854775807) :
    Calls Try.prog 58 #[.int .i64 n, .string s] w fun e w' => e = .returned (.tuple #[.pointer none, .bool false]) ∧ Below w.heap.size w w' := by
  refine (iReadPlan n s w h5 hs).mono ?_
  intro e w' hp
  unfold PTextPost at hp
  rw [h.out] at hp
  exact hp
theorem iReadPlan_some {n : Nat} {s : ByteArray} {x : PlanT} (h : Hid (planOf n s = some x)) (w : World) (h5 : n ≤ 5) (hs : s.size ≤ 9223372036854775807) :
    Calls Try.prog 58 #[.int .i64 n, .string s] w fun e w' => ∃ p, e = .returned (.tuple #[.pointer p, .bool true]) ∧ QAt w' w.heap.size x p ∧ Below w.heap.size w w' := by
  refine (iReadPlan n s w h5 hs).mono ?_
  intro e w' hp
  unfold PTextPost at hp
  rw [h.out] at hp
  exact hp
theorem iWith_is {asks issue : List Int} {A B : Option Addr} {na ca nb cb : Nat} {x : PlanT} {p : Option Addr} {lo : Nat} {u : Int} {w : World} {b : Bool} (h : Hid (okP asks issue x u = b)) (hr : ∀ q ∈ asks, 0 ≤ q ∧ q < 256) (hi : ∀ x ∈ issue, 0 ≤ x ∧ x < 256) (hk : knowsP asks.length x) (hq : QAt w lo x p) (ha : Row w A na ca asks) (hb : Row w B nb cb issue) (hu0 : 0 ≤ u) (hu : u < 256) :
    Calls Try.prog 59 #[.slice A na ca, .slice B nb cb, .int .i64 u, .pointer p] w fun e w' => e = .returned (.bool b) ∧ w' = w := by
  have := iWith (A := A) (B := B) (na := na) (ca := ca) (nb := nb) (cb := cb) hr hi x p lo u w hk hq ha hb hu0 hu
  rw [h.out] at this; exact this
set_option maxRecDepth 100000 in
set_option maxHeartbeats 4000000 in
theorem iSettlingPlan (t : Int) (A B : Option Addr) (na ca nb cb : Nat) (asks issue : List Int) (u : Int) (s : ByteArray) (w : World) (ha : Row w A na ca asks) (hb : Row w B nb cb issue) (hs : s.size ≤ 9223372036854775807) :
    Calls Try.prog 36 #[.int .i64 t, .slice A na ca, .slice B nb cb, .int .i64 u, .string s] w (SetlPost (settlingP t asks issue u s) w) := by
  have HA := Lib.hid ha
  have HB := Lib.hid hb
  obtain ⟨b, HOK⟩ : ∃ b, Hid (ok7 t asks issue u = b) := ⟨_, rfl⟩
  have hD : ∀ q, Below w.heap.size w (w.drewN q) := fun q => bel_drewN (Below.refl _ _) q
  have HD := Lib.hid hD
  unfold settlingP
  rw [HOK.out]
  obtain rfl := ha.hn
  have hl := ha.hl
  clear ha hb hD
  cases b
  · rw [if_neg (by decide)]
    show Calls _ _ _ _ (fun e w' => e = .returned nothing ∧ Below w.heap.size w w')
    go_enter Try.func36, Try.ntmps36
    go_wp2_with fail
    refine (iAskingOk_is HOK HA.out HB.out).mono ?_
    rintro e w' ⟨rfl, q, rfl⟩
    go_wp2_with fail
    go_ret2
    exact ⟨rfl, HD.out _⟩
  · rw [if_pos rfl]
    obtain ⟨hr, hi, hu0, hu, hl5, _⟩ := ok7_parts HOK.out
    have HR := Lib.hid hr
    have HI := Lib.hid hi
    clear hr hi
    rcases hp : planOf asks.length s with _ | x
    · have HP := Lib.hid hp
      show Calls _ _ _ _ (fun e w' => e = .returned nothing ∧ Below w.heap.size w w')
      clear hp
      go_enter Try.func36, Try.ntmps36
      go_wp2_with fail
      refine (iAskingOk_is HOK HA.out HB.out).mono ?_
      rintro e w' ⟨rfl, q, rfl⟩
      go_wp2_with fail
      refine (iReadPlan_none HP _ hl5 hs).mono ?_
      rintro e w2 ⟨rfl, hb2⟩
      have HB2 : Hid (Below w.heap.size w w2) := bel_trans (HD.out _) hb2
      clear hb2
      go_wp2_with fail
      go_ret2
      exact ⟨rfl, HB2.out⟩
    · have HP := Lib.hid hp
      have HKN := Lib.hid (planOf_is hp).2.1
      clear hp
      rcases ho : okP asks issue x u with _ | _
      · have HO := Lib.hid ho
        simp only [ho, Bool.false_eq_true, if_false]
        show Calls _ _ _ _ (fun e w' => e = .returned nothing ∧ Below w.heap.size w w')
        clear ho
        go_enter Try.func36, Try.ntmps36
        go_wp2_with fail
        refine (iAskingOk_is HOK HA.out HB.out).mono ?_
        rintro e w' ⟨rfl, q, rfl⟩
        go_wp2_with fail
        refine (iReadPlan_some HP _ hl5 hs).mono ?_
        rintro e w2 ⟨p, rfl, hq, hb2⟩
        have HB2 : Hid (Below w.heap.size w w2) := bel_trans (HD.out _) hb2
        have HQ := Lib.hid hq
        clear hb2 hq
        go_wp2_with fail
        refine (iWith_is HO HR.out HI.out HKN.out HQ.out (HA.out.below HB2.out) (HB.out.below HB2.out) hu0 hu).mono ?_
        rintro e w3 ⟨rfl, rfl⟩
        go_wp2_with fail
        go_ret2
        exact ⟨rfl, HB2.out⟩
      · have HO := Lib.hid ho
        simp only [ho, if_true]
        show Calls _ _ _ _ (fun e w' => ∃ p, e = .returned (.tuple #[.pointer p, .bool true]) ∧ QAt w' w.heap.size x p ∧ Below w.heap.size w w')
        clear ho
        go_enter Try.func36, Try.ntmps36
        go_wp2_with fail
        refine (iAskingOk_is HOK HA.out HB.out).mono ?_
        rintro e w' ⟨rfl, q, rfl⟩
        go_wp2_with fail
        refine (iReadPlan_some HP _ hl5 hs).mono ?_
        rintro e w2 ⟨p, rfl, hq, hb2⟩
        have HB2 : Hid (Below w.heap.size w w2) := bel_trans (HD.out _) hb2
        have HQ : Hid (QAt w2 w.heap.size x p) := hq
        clear hb2 hq
        go_wp2_with fail
        refine (iWith_is HO HR.out HI.out HKN.out HQ.out (HA.out.below HB2.out) (HB.out.below HB2.out) hu0 hu).mono ?_
        rintro e w3 ⟨rfl, rfl⟩
        go_wp2_with fail
        go_ret2
        exact ⟨p, rfl, HQ.out, HB2.out⟩
theorem iSetl_none {t : Int} {asks issue : List Int} {u : Int} {s : ByteArray} (h : Hid (settlingP t asks issue u s = none)) {A B : Option Addr} {na ca nb cb : Nat} {w : World} (ha : Row w A na ca asks) (hb : Row w B nb cb issue) (hs : s.size ≤ 9223372036854775807) :
    Calls Try.prog 36 #[.int .i64 t, .slice A na ca, .slice B nb cb, .int .i64 u, .string s] w fun e w' => e = .returned (.tuple #[.pointer none, .bool false]) ∧ Below w.heap.size w w' := by
  have := iSettlingPlan t A B na ca nb cb asks issue u s w ha hb hs
  rw [h.out] at this; exact this
theorem iSetl_some {t : Int} {asks issue : List Int} {u : Int} {s : ByteArray} {x : PlanT} (h : Hid (settlingP t asks issue u s = some x)) {A B : Option Addr} {na ca nb cb : Nat} {w : World} (ha : Row w A na ca asks) (hb : Row w B nb cb issue) (hs : s.size ≤ 9223372036854775807) :
    Calls Try.prog 36 #[.int .i64 t, .slice A na ca, .slice B nb cb, .int .i64 u, .string s] w fun e w' => ∃ p, e = .returned (.tuple #[.pointer p, .bool true]) ∧ QAt w' w.heap.size x p ∧ Below w.heap.size w w' := by
  have := iSettlingPlan t A B na ca nb cb asks issue u s w ha hb hs
  rw [h.out] at this; exact this
theorem iLong_is {x : PlanT} {p : Option Addr} {lo : Nat} {w : World} {d : Int} (h : Hid ((depthP x : Int) = d)) (hl : (textP x).length ≤ 1048576) (hq : QAt w lo x p) : Calls Try.prog 37 #[.pointer p] w fun e w' => e = .returned (.int .i64 d) ∧ Below w.heap.size w w' := by
  have := iLong x p lo w hl hq
  unfold LongPost at this
  rw [h.out] at this; exact this
set_option maxRecDepth 100000 in
set_option maxHeartbeats 4000000 in
theorem iPlanAsks (t : Int) (A B : Option Addr) (na ca nb cb : Nat) (asks issue : List Int) (u : Int) (s : ByteArray) (w : World) (ha : Row w A na ca asks) (hb : Row w B nb cb issue) (hs : s.size ≤ 9223372036854775807) :
    Calls Try.prog 17 #[.int .i64 t, .slice A na ca, .slice B nb cb, .int .i64 u, .string s] w (AskedPost (planAsksI t asks issue u s) w) := by
  have HA := Lib.hid ha
  have HB := Lib.hid hb
  rw [planAsks_eq]
  rcases hp : settlingP t asks issue u s with _ | x
  · have HP := Lib.hid hp
    clear hp ha hb
    show Calls _ _ _ _ (AskedPost (-1) w)
    go_enter Try.func17, Try.ntmps17
    go_wp2_with fail
    refine (iSetl_none HP HA.out HB.out hs).mono ?_
    rintro e w' ⟨rfl, hb2⟩
    have HB2 := Lib.hid hb2
    clear hb2
    go_wp2_with fail
    go_ret
    exact ⟨rfl, HB2.out⟩
  · have HP := Lib.hid hp
    have HL : Hid ((textP x).length ≤ 1048576) := by
      unfold Hid
      have h1 := planOf_is (settling_is hp).2.1
      have := congrArg List.length h1.1
      rw [bytesN_len] at this
      omega
    obtain ⟨d, HDP⟩ : ∃ d, Hid ((depthP x : Int) = d) := ⟨_, rfl⟩
    clear hp ha hb
    show Calls _ _ _ _ (AskedPost (depthP x : Int) w)
    rw [HDP.out]
    go_enter Try.func17, Try.ntmps17
    go_wp2_with fail
    refine (iSetl_some HP HA.out HB.out hs).mono ?_
    rintro e w2 ⟨p, rfl, hq, hb2⟩
    have HB2 := Lib.hid hb2
    have HQ := Lib.hid hq
    clear hb2 hq
    go_wp2_with fail
    refine (iLong_is HDP HL.out HQ.out).mono ?_
    rintro e w3 ⟨rfl, hb3⟩
    have HB3 : Hid (Below w.heap.size w w3) := bel_trans HB2.out hb3
    clear hb3
    go_wp2_with fail
    go_ret
    exact ⟨rfl, HB3.out⟩

/-- The answers' letters. -/
def ansB : List Bool → ByteArray
  | [] => ⟨#[]⟩
  | b :: r => (if b = true then ⟨#[121]⟩ else ⟨#[110]⟩) ++ ansB r
theorem ansB_size : ∀ l : List Bool, (ansB l).size = l.length
  | [] => rfl
  | b :: r => by
    show ((if b = true then (⟨#[121]⟩ : ByteArray) else ⟨#[110]⟩) ++ ansB r).size = _
    rw [ByteArray.size_append, ansB_size r, List.length_cons]
    have : (if b = true then (⟨#[121]⟩ : ByteArray) else ⟨#[110]⟩).size = 1 := by cases b <;> rfl
    omega
def AnsPost (b : ByteArray) (w : World) (e : Ending) (w' : World) : Prop := e = .returned (.string b) ∧ ∃ n, w' = w.drewN n
set_option maxRecDepth 100000 in
set_option maxHeartbeats 4000000 in
theorem iAns_nil {A : Option Addr} {na ca v : Nat} (w : World) : Calls Try.prog 41 #[.slice A na ca, .int .i64 v, .pointer none] w (AnsPost (ansB []) w) := by
  go_enter Try.func41, Try.ntmps41
  go_wp2_with fail
  go_ret
  exact ⟨rfl, 0, rfl⟩
set_option maxRecDepth 100000 in
set_option maxHeartbeats 4000000 in
theorem iAns_ask {asks : List Int} {A : Option Addr} {na ca v k b : Nat} {x : Int} {q r : Option Addr} {w : World} {l1 l2 : List Bool} (hn : AskAt w b k q r) (ha : Row w A na ca asks) (hx : Hid (asks[k]? = some x)) (hr : ∀ q ∈ asks, 0 ≤ q ∧ q < 256) (hv8 : v < 8) (hl1 : l1.length ≤ 1048576) (hl2 : l2.length ≤ 1048576)
    (hk : ∀ n, Calls Try.prog 41 #[.slice A na ca, .int .i64 v, .pointer q] (w.drewN n) (AnsPost (ansB l1) (w.drewN n)))
    (hk2 : ∀ n, Calls Try.prog 41 #[.slice A na ca, .int .i64 v, .pointer r] (w.drewN n) (AnsPost (ansB l2) (w.drewN n))) :
    Calls Try.prog 41 #[.slice A na ca, .int .i64 v, .pointer (some ⟨b, 0, none⟩)] w (AnsPost (ansB (if hasW x v = true then true :: l1 else false :: l2)) w) := by
  obtain ⟨hc0, hc1, hc2, hlt⟩ := ask_cells hn
  have HK := Lib.hid hk
  have HK2 := Lib.hid hk2
  have hwp := wrap_pow6p hv8
  have hw8 : 2 ^ v < 256 := Nat.lt_of_le_of_lt (Nat.pow_le_pow_right (by omega) (show v ≤ 7 by omega)) (by decide)
  have hkl : k < asks.length := (List.getElem?_eq_some_iff.1 hx.out).1
  obtain ⟨hx0, hx1⟩ := hr x (List.mem_of_getElem? hx.out)
  obtain ⟨b2, off, x', rfl, hcell, hx', _⟩ := ha.hA.elem hkl
  obtain rfl : x' = x := by have h1 := hx.out; have h2 := hx'.out; rw [h1] at h2; exact (Option.some.inj h2).symm
  obtain rfl := ha.hn
  have hl := ha.hl
  have hs1 : (ansB l1).size ≤ 1048576 := by rw [ansB_size]; exact hl1
  have hs2 : (ansB l2).size ≤ 1048576 := by rw [ansB_size]; exact hl2
  obtain ⟨b1, HB1⟩ : ∃ b, Hid (ansB l1 = b) := ⟨_, rfl⟩
  obtain ⟨b3, HB3⟩ : ∃ b, Hid (ansB l2 = b) := ⟨_, rfl⟩
  rw [HB1.out] at HK hs1
  rw [HB3.out] at HK2 hs2
  rcases hh : hasW x' v with _ | _
  · have HW : Hid (withinB (worldS v) x' = false) := by unfold Hid; rw [← hh, Bool.eq_iff_iff]; exact world_within v
    have HE : Hid ((⟨#[110]⟩ : ByteArray) ++ b3 = ansB (if false = true then true :: l1 else false :: l2)) := by unfold Hid; rw [← HB3.out]; rfl
    obtain ⟨res, HRES⟩ : ∃ r, Hid (ansB (if false = true then true :: l1 else false :: l2) = r) := ⟨_, rfl⟩
    rw [HRES.out] at HE ⊢
    clear hk hn hk2 ha hr hx' hh hl1 hl2
    go_enter Try.func41, Try.ntmps41
    go_wp2_with fail
    go_quiet ((go_at_call 40; exact quiet_eq7 (iWithin_is6 HW (Int.natCast_nonneg _) (by unfold worldS; omega) hx0 hx1 _)))
    go_wp2_with fail
    refine (HK2.out _).mono ?_
    rintro e w' ⟨rfl, m, rfl⟩
    go_wp2_with fail
    go_ret
    exact ⟨by rw [← HE.out]; rfl, _, by first | rfl | rw [World.drewN_drewN]⟩
  · have HW : Hid (withinB (worldS v) x' = true) := by unfold Hid; rw [← hh, Bool.eq_iff_iff]; exact world_within v
    have HE : Hid ((⟨#[121]⟩ : ByteArray) ++ b1 = ansB (if true = true then true :: l1 else false :: l2)) := by unfold Hid; rw [← HB1.out]; rfl
    obtain ⟨res, HRES⟩ : ∃ r, Hid (ansB (if true = true then true :: l1 else false :: l2) = r) := ⟨_, rfl⟩
    rw [HRES.out] at HE ⊢
    clear hk hn hk2 ha hr hx' hh hl1 hl2
    go_enter Try.func41, Try.ntmps41
    go_wp2_with fail
    go_quiet ((go_at_call 40; exact quiet_eq7 (iWithin_is6 HW (Int.natCast_nonneg _) (by unfold worldS; omega) hx0 hx1 _)))
    go_wp2_with fail
    refine (HK.out _).mono ?_
    rintro e w' ⟨rfl, m, rfl⟩
    go_wp2_with fail
    go_ret
    exact ⟨by rw [← HE.out]; rfl, _, by first | rfl | rw [World.drewN_drewN]⟩
theorem iAns {asks : List Int} {A : Option Addr} {na ca v : Nat} (hr : ∀ q ∈ asks, 0 ≤ q ∧ q < 256) (hv8 : v < 8) : ∀ (x : PlanT) (p : Option Addr) (lo : Nat) (w : World), (textP x).length ≤ 1048576 → knowsP asks.length x → QAt w lo x p → Row w A na ca asks →
    Calls Try.prog 41 #[.slice A na ca, .int .i64 v, .pointer p] w (AnsPost (ansB (answersP asks v x)) w)
  | .dot, _, _, w, _, _, h, ha => by cases h; exact iAns_nil w
  | .ask k a c, _, lo, w, hl, ⟨hk, hk1, hk2⟩, ⟨b, q, r, rfl, _, hn, h1, h2⟩, ha => by
    have hla : (textP a).length ≤ 1048576 := by unfold textP at hl; simp at hl; omega
    have hlc : (textP c).length ≤ 1048576 := by unfold textP at hl; simp at hl; omega
    have hd : ∀ y : PlanT, (answersP asks v y).length ≤ (textP y).length := by
      intro y
      induction y with
      | dot => simp [answersP]
      | ask k y z h1 h2 => unfold answersP textP; split <;> simp <;> omega
    have hg : asks.getD k 0 = asks[k] := by rw [List.getD_eq_getElem?_getD, List.getElem?_eq_getElem hk]; rfl
    have := iAns_ask (A := A) (na := na) (ca := ca) hn ha (List.getElem?_eq_getElem hk) hr hv8 (by have := hd a; omega) (by have := hd c; omega)
      (fun n => iAns hr hv8 a q lo (w.drewN n) hla hk1 (h1.drewN n) (ha.drewN n)) (fun n => iAns hr hv8 c r lo (w.drewN n) hlc hk2 (h2.drewN n) (ha.drewN n))
    unfold answersP
    rw [hg]
    exact this
end Go.Proofs.Ytpjpbemgjniljaa

namespace Go.Proofs.Ytpjpbemgjniljaa
open Go.RowKit

/-- The answers that a plan gets in a world. -/
def answersToB (t : Int) (asks issue : List Int) (u : Int) (s : ByteArray) (v : Int) : Option ByteArray :=
  match settlingP t asks issue u s with
  | some x => if 0 ≤ v ∧ v < worldsOf t ∧ hasW u v.toNat = true then some (ansB (answersP asks v.toNat x)) else none
  | none => none
section
variable {t : Int} {asks issue : List Int} {u v : Int} {s : ByteArray} {x : PlanT}
theorem answersTo_none (h : settlingP t asks issue u s = none) : answersToB t asks issue u s v = none := by unfold answersToB; rw [h]
theorem answersTo_no (h : settlingP t asks issue u s = some x) (hn : ¬ (0 ≤ v ∧ v < worldsOf t ∧ hasW u v.toNat = true)) : answersToB t asks issue u s v = none := by unfold answersToB; rw [h]; simp only; rw [if_neg hn]
theorem answersTo_yes {k : Nat} (h : settlingP t asks issue u s = some x) (h1 : (k : Int) < worldsOf t) (h2 : hasW u k = true) : answersToB t asks issue u s k = some (ansB (answersP asks k x)) := by
  unfold answersToB; rw [h]; simp only; rw [if_pos ⟨by omega, h1, by rw [Int.toNat_natCast]; exact h2⟩, Int.toNat_natCast]
theorem things7 (h : ok7 t asks issue u = true) : 1 ≤ t ∧ t ≤ 3 := by
  have h2 := (ok7_parts h).2.2.2.2.2.2
  exact ⟨(setOkB_lt h2).1, (setOkB_lt h2).2.1⟩
end
theorem iAns_is {asks : List Int} {A : Option Addr} {na ca v : Nat} {x : PlanT} {p : Option Addr} {lo : Nat} {w : World} {b : ByteArray} (h : Hid (ansB (answersP asks v x) = b)) (hr : ∀ q ∈ asks, 0 ≤ q ∧ q < 256) (hv8 : v < 8) (hl : (textP x).length ≤ 1048576) (hk : knowsP asks.length x) (hq : QAt w lo x p) (ha : Row w A na ca asks) :
    Calls Try.prog 41 #[.slice A na ca, .int .i64 v, .pointer p] w fun e w' => e = .returned (.string b) ∧ ∃ n, w' = w.drewN n := by
  have := iAns (A := A) (na := na) (ca := ca) hr hv8 x p lo w hl hk hq ha
  unfold AnsPost at this
  rw [h.out] at this; exact this
def NoText (w : World) (e : Ending) (w' : World) : Prop := e = .returned (.tuple #[.string ⟨#[]⟩, .bool false]) ∧ Below w.heap.size w w'
def SomeText (b : ByteArray) (w : World) (e : Ending) (w' : World) : Prop := e = .returned (.tuple #[.string b, .bool true]) ∧ Below w.heap.size w w'
set_option maxRecDepth 100000 in
set_option maxHeartbeats 4000000 in
theorem iAnswersTo (t : Int) (A B : Option Addr) (na ca nb cb : Nat) (asks issue : List Int) (u : Int) (s : ByteArray) (v : Int) (w : World) (ha : Row w A na ca asks) (hb : Row w B nb cb issue) (hs : s.size ≤ 9223372036854775807) :
    Calls Try.prog 20 #[.int .i64 t, .slice A na ca, .slice B nb cb, .int .i64 u, .string s, .int .i64 v] w (PForPost (answersToB t asks issue u s v) w) := by
  have HA := Lib.hid ha
  have HB := Lib.hid hb
  rcases hp : settlingP t asks issue u s with _ | x
  · have HP := Lib.hid hp
    rw [answersTo_none hp]
    show Calls _ _ _ _ (NoText w)
    clear hp ha hb
    go_enter Try.func20, Try.ntmps20
    go_wp2_with fail
    refine (iSetl_none HP HA.out HB.out hs).mono ?_
    rintro e w' ⟨rfl, hb2⟩
    have HB2 := Lib.hid hb2
    clear hb2
    go_wp2_with fail
    go_ret2
    exact ⟨rfl, HB2.out⟩
  · have HP := Lib.hid hp
    obtain ⟨hok, hpo, _⟩ := settling_is hp
    obtain ⟨hr, hi, hu0, hu, hl5, _⟩ := ok7_parts hok
    obtain ⟨ht1, ht3⟩ := things7 hok
    obtain ⟨hbt, hkn, hs60⟩ := planOf_is hpo
    have hL : (textP x).length ≤ 1048576 := by
      have := congrArg List.length hbt
      rw [bytesN_len] at this
      omega
    have HL := Lib.hid hL
    have HKN := Lib.hid hkn
    have HR := Lib.hid hr
    obtain ⟨m, HM⟩ : ∃ m, Hid (worldsOf t = m) := ⟨_, rfl⟩
    have hm8 : m ≤ 8 := by
      rw [← HM.out]
      have : t = 1 ∨ t = 2 ∨ t = 3 := by omega
      rcases this with rfl | rfl | rfl <;> decide
    clear hok hpo hr hi hbt hkn hL
    by_cases hv0 : v < 0
    · rw [answersTo_no hp (fun h => by omega)]
      show Calls _ _ _ _ (NoText w)
      have hd : decide (v < (0 : Int)) = true := decide_eq_true hv0
      clear hp ha hb
      go_enter Try.func20, Try.ntmps20
      go_wp2_with fail
      refine (iSetl_some HP HA.out HB.out hs).mono ?_
      rintro e w2 ⟨p, rfl, hq, hb2⟩
      have HB2 := Lib.hid hb2
      clear hb2 hq
      go_wp2_with fail
      go_ret2
      exact ⟨rfl, HB2.out⟩
    · have hd : decide (v < (0 : Int)) = false := decide_eq_false hv0
      obtain ⟨k, rfl⟩ : ∃ k : Nat, v = k := ⟨v.toNat, by omega⟩
      by_cases hvm : m ≤ (k : Int)
      · rw [answersTo_no hp (fun h => by rw [HM.out] at h; omega)]
        show Calls _ _ _ _ (NoText w)
        have hd2 : decide (m ≤ (k : Int)) = true := decide_eq_true hvm
        clear hp ha hb
        go_enter Try.func20, Try.ntmps20
        go_wp2_with fail
        refine (iSetl_some HP HA.out HB.out hs).mono ?_
        rintro e w2 ⟨p, rfl, hq, hb2⟩
        have HB2 := Lib.hid hb2
        clear hb2 hq
        go_wp2_with fail
        refine (iWorldsOf_is HM _).mono ?_
        rintro e w3 ⟨rfl, rfl⟩
        go_wp2_with fail
        go_ret2
        exact ⟨rfl, HB2.out⟩
      · have hd2 : decide (m ≤ (k : Int)) = false := decide_eq_false hvm
        have hv8 : k < 8 := by omega
        have hwp := wrap_pow6p hv8
        have hw8 : 2 ^ k < 256 := Nat.lt_of_le_of_lt (Nat.pow_le_pow_right (by omega) (show k ≤ 7 by omega)) (by decide)
        rcases hh : hasW u k with _ | _
        · have HW : Hid (withinB (worldS k) u = false) := by unfold Hid; rw [← hh, Bool.eq_iff_iff]; exact world_within k
          rw [answersTo_no hp (fun h => by rw [Int.toNat_natCast, hh] at h; exact absurd h.2.2 (by decide))]
          show Calls _ _ _ _ (NoText w)
          clear hp ha hb hh
          go_enter Try.func20, Try.ntmps20
          go_wp2_with fail
          refine (iSetl_some HP HA.out HB.out hs).mono ?_
          rintro e w2 ⟨p, rfl, hq, hb2⟩
          have HB2 := Lib.hid hb2
          clear hb2 hq
          go_wp2_with fail
          refine (iWorldsOf_is HM _).mono ?_
          rintro e w3 ⟨rfl, rfl⟩
          go_wp2_with fail
          refine (iWithin_is6 HW (Int.natCast_nonneg _) (by unfold worldS; omega) hu0 hu _).mono ?_
          rintro e w3 ⟨rfl, rfl⟩
          go_wp2_with fail
          go_ret2
          exact ⟨rfl, HB2.out⟩
        · have HW : Hid (withinB (worldS k) u = true) := by unfold Hid; rw [← hh, Bool.eq_iff_iff]; exact world_within k
          rw [answersTo_yes hp (by rw [HM.out]; omega) hh]
          show Calls _ _ _ _ (SomeText (ansB (answersP asks k x)) w)
          obtain ⟨res, HRES⟩ : ∃ r, Hid (ansB (answersP asks k x) = r) := ⟨_, rfl⟩
          rw [HRES.out]
          clear hp ha hb hh
          go_enter Try.func20, Try.ntmps20
          go_wp2_with fail
          refine (iSetl_some HP HA.out HB.out hs).mono ?_
          rintro e w2 ⟨p, rfl, hq, hb2⟩
          have HB2 := Lib.hid hb2
          have HQ := Lib.hid hq
          clear hb2 hq
          go_wp2_with fail
          refine (iWorldsOf_is HM _).mono ?_
          rintro e w3 ⟨rfl, rfl⟩
          go_wp2_with fail
          refine (iWithin_is6 HW (Int.natCast_nonneg _) (by unfold worldS; omega) hu0 hu _).mono ?_
          rintro e w3 ⟨rfl, rfl⟩
          go_wp2_with fail
          refine (iAns_is HRES HR.out hv8 HL.out HKN.out HQ.out (HA.out.below HB2.out)).mono ?_
          rintro e w4 ⟨rfl, q, rfl⟩
          go_wp2_with fail
          go_ret2
          exact ⟨rfl, bel_drewN HB2.out _⟩
end Go.Proofs.Ytpjpbemgjniljaa
