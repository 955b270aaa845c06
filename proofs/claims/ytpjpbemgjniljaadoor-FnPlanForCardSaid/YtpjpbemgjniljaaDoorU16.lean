/-
  What the proofs of this seat's statements share (QstR, QstS, QstT).
-/
import Derived.Test.YtpjpbemgjniljaaDoorU15
import Derived.Test.YtpjpbemgjniljaaDoorU11
import Derived.Test.YtpjpbemgjniljaaDoorU12

namespace Go.Proofs.YtpjpbemgjniljaaDoor
open Go.RowKit

theorem iTake_no {R : Nat} {s st al : ByteArray} {at_ : Nat} {w : World} (hs : s.size ≤ 1048576) (hle : at_ ≤ s.size) (hr : RdrAt w R s at_ st) (hno : ∀ h : at_ < s.size, al.data.toList.contains s[at_] = false) :
    Calls Tryd.prog 62 #[.pointer (some ⟨R, 0, none⟩), .string al] w (Panics R w) := by
  by_cases hlt : at_ < s.size
  · exact iTake_bad R s st al at_ w hs hlt hr (hno hlt)
  · obtain rfl : at_ = s.size := by omega
    exact iTake_end R s st al w hs hr
theorem open_has (c : UInt8) : (ByteArray.mk #[40]).data.toList.contains c = decide (c.toNat = 40) := by
  rw [Bool.eq_iff_iff]
  simp only [List.contains_iff_mem, decide_eq_true_eq]
  have e : ∀ k : UInt8, c = k ↔ c.toNat = k.toNat := fun k => UInt8.toNat_inj.symm
  simp [e]
theorem open_no {s : ByteArray} {a : Nat} (h : openB ((bytesN s).drop a) = none) (hlt : a < s.size) : (ByteArray.mk #[40]).data.toList.contains s[a] = false := by
  rw [bytesN_drop hlt] at h
  change (if s[a].toNat = 40 then some _ else none) = none at h
  rw [open_has]
  refine decide_eq_false fun e => ?_
  rw [if_pos e] at h; cases h
theorem shut_no {s : ByteArray} {a : Nat} (h : shutB ((bytesN s).drop a) = none) (hlt : a < s.size) : (ByteArray.mk #[41]).data.toList.contains s[a] = false := by
  rw [bytesN_drop hlt] at h
  change (if s[a].toNat = 41 then some _ else none) = none at h
  rw [close_has]
  refine decide_eq_false fun e => ?_
  rw [if_pos e] at h; cases h
theorem open_yes {s : ByteArray} {a : Nat} {r : List Nat} (h : openB ((bytesN s).drop a) = some r) : ∃ hlt : a < s.size, s[a].toNat = 40 ∧ (bytesN s).drop (a + 1) = r := drop_lt (open_is h)
theorem shut_yes {s : ByteArray} {a : Nat} {r : List Nat} (h : shutB ((bytesN s).drop a) = some r) : ∃ hlt : a < s.size, s[a].toNat = 41 ∧ (bytesN s).drop (a + 1) = r := drop_lt (shut_is h)

def PlanSome (R : Nat) (s st : ByteArray) (x : PlanT) (rest : List Nat) (w : World) (e : Ending) (w' : World) : Prop :=
  ∃ p at_, e = .returned (.pointer p) ∧ at_ ≤ s.size ∧ (bytesN s).drop at_ = rest ∧ RdrAt w' R s at_ st ∧ QAt w' w.heap.size x p ∧ w.grownBy w' (some R)
def PlanPost (R : Nat) (s st : ByteArray) (o : Option (PlanT × List Nat)) (w : World) (e : Ending) (w' : World) : Prop :=
  match o with
  | some (x, rest) => PlanSome R s st x rest w e w'
  | none => Panics R w e w'
/-- The bytes with which a plan may start. -/
def StP (m : Nat) (al : ByteArray) : Prop := ∀ c : UInt8, al.data.toList.contains c = (decide (c.toNat = 46) || decide (48 ≤ c.toNat ∧ c.toNat < 48 + m))
def PlansAt (m k R : Nat) (s st al : ByteArray) : Prop := ∀ (at_ : Nat) (w : World), RdrAt w R s at_ st → at_ ≤ s.size → s.size - at_ < k →
  Calls Tryd.prog 55 #[.pointer (some ⟨R, 0, none⟩), .string al] w (PlanPost R s st (readP m k ((bytesN s).drop at_)) w)
section
variable {m k R : Nat} {s st al : ByteArray} {at_ : Nat} {w : World}
theorem plans_none (ih : PlansAt m k R s st al) (hr : RdrAt w R s at_ st) (hle : at_ ≤ s.size) (hk : s.size - at_ < k) {l : List Nat} (hl : (bytesN s).drop at_ = l) (h : readP m k l = none) :
    Calls Tryd.prog 55 #[.pointer (some ⟨R, 0, none⟩), .string al] w (Panics R w) := by
  have := ih at_ w hr hle hk
  rw [hl, h] at this; exact this
theorem plans_some (ih : PlansAt m k R s st al) (hr : RdrAt w R s at_ st) (hle : at_ ≤ s.size) (hk : s.size - at_ < k) {l : List Nat} (hl : (bytesN s).drop at_ = l) {x : PlanT} {rest : List Nat} (h : readP m k l = some (x, rest)) :
    Calls Tryd.prog 55 #[.pointer (some ⟨R, 0, none⟩), .string al] w (PlanSome R s st x rest w) := by
  have := ih at_ w hr hle hk
  rw [hl, h] at this; exact this
theorem text_pos : ∀ p : PlanT, 0 < (textP p).length
  | .dot => by unfold textP; simp
  | .ask _ _ _ => by unfold textP; simp
theorem plan_less {a2 : Nat} {l rest : List Nat} {x : PlanT} (h : readP m k l = some (x, rest)) (hl : (bytesN s).drop at_ = l) (e : (bytesN s).drop a2 = rest) (hle : at_ ≤ s.size) (hle2 : a2 ≤ s.size) : at_ < a2 := by
  have h1 := congrArg List.length (read_is m k l x rest h).1
  have := text_pos x
  rw [List.length_append, ← e, ← hl, List.length_drop, List.length_drop, bytesN_len] at h1
  omega
theorem ask_new (w : World) (c : Nat) (p q : Option Addr) : AskAt (w.alloc (.cells #[.int .i64 c, .pointer p, .pointer q] 66)) w.heap.size c p q := World.alloc_heap_new w _
theorem ask_new2 {w : World} {c : Nat} {p q : Option Addr} {i : Int} (h : i = (c : Int)) : AskAt (w.alloc (.cells #[.int .i64 i, .pointer p, .pointer q] 66)) w.heap.size c p q := by subst h; exact ask_new w c p q
set_option maxRecDepth 100000 in
set_option maxHeartbeats 4000000 in
theorem iPlanBad (hT : Calls Tryd.prog 62 #[.pointer (some ⟨R, 0, none⟩), .string al] w (Panics R w)) :
    Calls Tryd.prog 55 #[.pointer (some ⟨R, 0, none⟩), .string al] w (Panics R w) := by
  go_enter Tryd.func55, Tryd.ntmps55
  go_wp2_with fail
  refine hT.mono ?_
  rintro e w1 ⟨v, rfl, hg⟩
  exact ⟨rfl, v, rfl, hg⟩
set_option maxRecDepth 100000 in
set_option maxHeartbeats 4000000 in
theorem iPlanDot {rest : List Nat} (hs : s.size ≤ 1048576) (hlt : at_ < s.size) (hc : s[at_].toNat = 46) (hd : (bytesN s).drop (at_ + 1) = rest) (hr : RdrAt w R s at_ st) (hal : al.data.toList.contains s[at_] = true) :
    Calls Tryd.prog 55 #[.pointer (some ⟨R, 0, none⟩), .string al] w (PlanSome R s st .dot rest w) := by
  have HT := Lib.hid (iTake_is hs hlt hc hr hal)
  have HD := Lib.hid hd
  clear hd hr hc hal
  go_enter Tryd.func55, Tryd.ntmps55
  go_wp2_with fail
  refine HT.out.mono ?_
  rintro e w1 ⟨rfl, hr1, hg⟩
  have HG := Lib.hid hg
  have HR1 := Lib.hid hr1
  clear hg hr1
  go_wp2_with fail
  go_ret
  exact ⟨none, at_ + 1, rfl, hlt, HD.out, HR1.out, rfl, HG.out⟩
set_option maxRecDepth 100000 in
set_option maxHeartbeats 4000000 in
theorem iPlanAsk (ih : PlansAt m k R s st al) {c : Nat} (hs : s.size ≤ 1048576) (hlt : at_ < s.size) (hk : s.size - at_ < k + 1) (hc : s[at_].toNat = c) (h46 : c ≠ 46) (h48 : 48 ≤ c) (hr : RdrAt w R s at_ st) (hal : al.data.toList.contains s[at_] = true) :
    Calls Tryd.prog 55 #[.pointer (some ⟨R, 0, none⟩), .string al] w (PlanPost R s st ((openB ((bytesN s).drop (at_ + 1))).bind fun r0 => (readP m k r0).bind fun p => (readP m k p.2).bind fun q => (shutB q.2).map fun r2 => (.ask (c - 48) p.1 q.1, r2)) w) := by
  have HT := Lib.hid (iTake_is hs hlt hc hr hal)
  have HIH := Lib.hid ih
  have hR := rdr_lt hr
  have hc256 : c < 256 := by rw [← hc]; exact UInt8.toNat_lt _
  have e46 : ((c : Int) == 46) = false := by rw [beq_eq_false_iff_ne]; omega
  clear hr hc hal ih
  rcases ho : openB ((bytesN s).drop (at_ + 1)) with _ | r0
  · show Calls _ _ _ _ (Panics R w)
    have HO := Lib.hid ho
    clear ho
    go_enter Tryd.func55, Tryd.ntmps55
    go_wp2_with fail
    refine HT.out.mono ?_
    rintro e w1 ⟨rfl, hr1, hg⟩
    have HT2 := Lib.hid (iTake_no (al := ⟨#[40]⟩) hs (by omega) hr1 (open_no HO.out))
    have HG := Lib.hid hg
    clear hg hr1
    go_wp2_with fail
    refine HT2.out.mono ?_
    rintro e w2 ⟨v, rfl, hg2⟩
    exact ⟨rfl, v, rfl, HG.out.trans hg2⟩
  · obtain ⟨hlt2, ho2, hd2⟩ := open_yes ho
    have HO2 := Lib.hid ho2
    have HD2 := Lib.hid hd2
    clear ho ho2 hd2
    rw [Option.bind_some]
    rcases h1 : readP m k r0 with _ | ⟨x, r1⟩
    · show Calls _ _ _ _ (Panics R w)
      have HH1 := Lib.hid h1
      clear h1
      go_enter Tryd.func55, Tryd.ntmps55
      go_wp2_with fail
      refine HT.out.mono ?_
      rintro e w1 ⟨rfl, hr1, hg⟩
      have HT2 := Lib.hid (iTake_is hs hlt2 HO2.out hr1 (al := ⟨#[40]⟩) (by rw [open_has, HO2.out]; rfl))
      have HG := Lib.hid hg
      clear hg hr1
      go_wp2_with fail
      refine HT2.out.mono ?_
      rintro e w2 ⟨rfl, hr2, hg2⟩
      have HI := Lib.hid (plans_none HIH.out hr2 (by omega) (by omega) HD2.out HH1.out)
      have HG2 := Lib.hid (HG.out.trans hg2)
      clear hg2 hr2
      go_wp2_with fail
      refine HI.out.mono ?_
      rintro e w3 ⟨v, rfl, hg3⟩
      exact ⟨rfl, v, rfl, HG2.out.trans hg3⟩
    · rw [Option.bind_some]
      have HH1 := Lib.hid h1
      clear h1
      rcases h2 : readP m k r1 with _ | ⟨y, r2⟩
      · show Calls _ _ _ _ (Panics R w)
        have HH2 := Lib.hid h2
        clear h2
        go_enter Tryd.func55, Tryd.ntmps55
        go_wp2_with fail
        refine HT.out.mono ?_
        rintro e w1 ⟨rfl, hr1, hg⟩
        have HT2 := Lib.hid (iTake_is hs hlt2 HO2.out hr1 (al := ⟨#[40]⟩) (by rw [open_has, HO2.out]; rfl))
        have HG := Lib.hid hg
        clear hg hr1
        go_wp2_with fail
        refine HT2.out.mono ?_
        rintro e w2 ⟨rfl, hr2, hg2⟩
        have HI := Lib.hid (plans_some HIH.out hr2 (by omega) (by omega) HD2.out HH1.out)
        have HG2 := Lib.hid (HG.out.trans hg2)
        clear hg2 hr2
        go_wp2_with fail
        refine HI.out.mono ?_
        rintro e w3 ⟨p, a3, rfl, ha3, hd3, hr3, hq3, hg3⟩
        have hl3 := plan_less HH1.out HD2.out hd3 (by omega) ha3
        have HI3 := Lib.hid (plans_none HIH.out hr3 ha3 (by omega) hd3 HH2.out)
        have HG3 := Lib.hid (HG2.out.trans hg3)
        clear hd3 hr3 hq3 hg3
        go_wp2_with fail
        refine HI3.out.mono ?_
        rintro e w4 ⟨v, rfl, hg4⟩
        exact ⟨rfl, v, rfl, HG3.out.trans hg4⟩
      · simp only [Option.bind_some]
        have HH2 := Lib.hid h2
        clear h2
        rcases h3 : shutB r2 with _ | r3
        · show Calls _ _ _ _ (Panics R w)
          have HH3 := Lib.hid h3
          clear h3
          go_enter Tryd.func55, Tryd.ntmps55
          go_wp2_with fail
          refine HT.out.mono ?_
          rintro e w1 ⟨rfl, hr1, hg⟩
          have HT2 := Lib.hid (iTake_is hs hlt2 HO2.out hr1 (al := ⟨#[40]⟩) (by rw [open_has, HO2.out]; rfl))
          have HG := Lib.hid hg
          clear hg hr1
          go_wp2_with fail
          refine HT2.out.mono ?_
          rintro e w2 ⟨rfl, hr2, hg2⟩
          have HI := Lib.hid (plans_some HIH.out hr2 (by omega) (by omega) HD2.out HH1.out)
          have HG2 := Lib.hid (HG.out.trans hg2)
          clear hg2 hr2
          go_wp2_with fail
          refine HI.out.mono ?_
          rintro e w3 ⟨p, a3, rfl, ha3, hd3, hr3, hq3, hg3⟩
          have hl3 := plan_less HH1.out HD2.out hd3 (by omega) ha3
          have HI3 := Lib.hid (plans_some HIH.out hr3 ha3 (by omega) hd3 HH2.out)
          have HG3 := Lib.hid (HG2.out.trans hg3)
          clear hd3 hr3 hq3 hg3
          go_wp2_with fail
          refine HI3.out.mono ?_
          rintro e w4 ⟨q, a4, rfl, ha4, hd4, hr4, hq4, hg4⟩
          have HT4 := Lib.hid (iTake_no (al := ⟨#[41]⟩) hs ha4 hr4 (shut_no (by rw [hd4]; exact HH3.out)))
          have HG4 := Lib.hid (HG3.out.trans hg4)
          clear hd4 hr4 hq4 hg4
          go_wp2_with fail
          refine HT4.out.mono ?_
          rintro e w5 ⟨v, rfl, hg5⟩
          exact ⟨rfl, v, rfl, HG4.out.trans hg5⟩
        · show Calls _ _ _ _ (PlanSome R s st (.ask (c - 48) x y) r3 w)
          have HH3 := Lib.hid h3
          clear h3
          go_enter Tryd.func55, Tryd.ntmps55
          go_wp2_with fail
          refine HT.out.mono ?_
          rintro e w1 ⟨rfl, hr1, hg⟩
          have HT2 := Lib.hid (iTake_is hs hlt2 HO2.out hr1 (al := ⟨#[40]⟩) (by rw [open_has, HO2.out]; rfl))
          have HG := Lib.hid hg
          clear hg hr1
          go_wp2_with fail
          refine HT2.out.mono ?_
          rintro e w2 ⟨rfl, hr2, hg2⟩
          have HI := Lib.hid (plans_some HIH.out hr2 (by omega) (by omega) HD2.out HH1.out)
          have HG2 := Lib.hid (HG.out.trans hg2)
          clear hg2 hr2
          go_wp2_with fail
          refine HI.out.mono ?_
          rintro e w3 ⟨p, a3, rfl, ha3, hd3, hr3, hq3, hg3⟩
          have hl3 := plan_less HH1.out HD2.out hd3 (by omega) ha3
          have HI3 := Lib.hid (plans_some HIH.out hr3 ha3 (by omega) hd3 HH2.out)
          have HG3 := Lib.hid (HG2.out.trans hg3)
          have HQ3 := Lib.hid (QAt.low HG2.out.size x p hq3)
          clear hd3 hr3 hq3 hg3
          go_wp2_with fail
          refine HI3.out.mono ?_
          rintro e w4 ⟨q, a4, rfl, ha4, hd4, hr4, hq4, hg4⟩
          obtain ⟨hlt4, hc4, hd5⟩ := shut_yes (by rw [hd4]; exact HH3.out)
          have HT4 := Lib.hid (iTake_is hs hlt4 hc4 hr4 (al := ⟨#[41]⟩) (by rw [close_has, hc4]; rfl))
          have HG4 := Lib.hid (HG3.out.trans hg4)
          replace HQ3 := Lib.hid (HQ3.out.grown hg4 hR)
          have HQ4 := Lib.hid (QAt.low HG3.out.size y q hq4)
          have HD5 := Lib.hid hd5
          clear hd4 hr4 hq4 hg4 hc4 hd5
          go_wp2_with fail
          refine HT4.out.mono ?_
          rintro e w5 ⟨rfl, hr5, hg5⟩
          have HG5 := Lib.hid (HG4.out.trans hg5)
          replace HQ3 := Lib.hid (HQ3.out.grown hg5 hR)
          replace HQ4 := Lib.hid (HQ4.out.grown hg5 hR)
          have HR5 := Lib.hid hr5
          clear hr5 hg5
          go_wp2_with fail
          go_ret
          exact ⟨_, a4 + 1, rfl, hlt4, HD5.out, rdr_alloc HR5.out _, ⟨_, p, q, rfl, HG5.out.size, ask_new2 (by omega), QAt.below HQ3.out ((Below.refl _ _).alloc (Nat.le_refl _) _), QAt.below HQ4.out ((Below.refl _ _).alloc (Nat.le_refl _) _)⟩, grown_alloc HG5.out _⟩
end
theorem iPlan (m R : Nat) (s st al : ByteArray) (hs : s.size ≤ 1048576) (hal : StP m al) : ∀ k, PlansAt m k R s st al := by
  intro k
  induction k with
  | zero => intro at_ w hr hle hk; omega
  | succ k ih =>
    intro at_ w hr hle hk
    by_cases hlt : at_ < s.size
    · have hd := bytesN_drop hlt
      rw [hd]
      obtain ⟨c, hc⟩ : ∃ c, s[at_].toNat = c := ⟨_, rfl⟩
      have hh := hal s[at_]
      rw [hc] at hh ⊢
      unfold readP
      by_cases h46 : c = 46
      · subst h46
        rw [if_pos rfl]
        exact iPlanDot hs hlt hc rfl hr (by rw [hh]; rfl)
      · rw [if_neg h46]
        by_cases hb : 48 ≤ c ∧ c < 48 + m
        · rw [if_pos hb]
          exact iPlanAsk ih hs hlt hk hc h46 hb.1 hr (by rw [hh, decide_eq_true hb, Bool.or_true])
        · rw [if_neg hb]
          exact iPlanBad (iTake_bad R s st al at_ w hs hlt hr (by rw [hh, decide_eq_false h46, decide_eq_false hb]; rfl))
    · obtain rfl : at_ = s.size := by omega
      rw [List.drop_eq_nil_of_le (by rw [bytesN_len]; omega)]
      exact iPlanBad (iTake_end R s st al w hs hr)
end Go.Proofs.YtpjpbemgjniljaaDoor

namespace Go.Proofs.YtpjpbemgjniljaaDoor
open Go.RowKit

theorem catchP_panicking (p q : Addr) (v0 v1 : Value) (u : TypeId) (pv : Value) (w : World) (h0 : w.cell? p = some v0) (h1 : w.cell? q = some v1) (f0 : w.frozen? p = false) (f1 : w.frozen? q = false) (hne : p.block ≠ q.block) :
    CallsD Tryd.prog 54 #[.pointer (some p), .pointer (some q)] (.panicking [{ v := .iface u pv, recovered := false }]) w fun e u' w' =>
      e = .returned (.tuple #[]) ∧ u' = .panicking [{ v := .iface u pv, recovered := true }] ∧ w' = (w.setCell p (.pointer none)).setCell q (.bool false) := by
  refine callsD_of_wpS Tryd.func54 rfl fun c₀ cs hu => ?_
  apply wpS_seq
  apply wpS_region
  simp [wpOpsS, go_sem, recoverD, hu, Tryd.ntmps54, Exit.thenS]
  refine wpS_cond (t := true) (by simp [Act.eval, Array.replicate]) ?_
  simp only [if_true]
  apply wpS_region
  have h2 : (w.setCell p (.pointer none)).cell? q = some v1 := (World.cell?_setCell_far w p q _ hne).trans h1
  have f2 : (w.setCell p (.pointer none)).frozen? q = false := by rw [World.frozen?_setCell]; exact f1
  simp [wpOpsS, go_sem, h0, f0, h2, f2, bodyPostS, results, Tryd.results54]
theorem catchP_idle (p q : Addr) (w : World) :
    CallsD Tryd.prog 54 #[.pointer (some p), .pointer (some q)] .returning w fun e u' w' => e = .returned (.tuple #[]) ∧ u' = .returning ∧ w' = w := by
  refine callsD_of_wpS Tryd.func54 rfl fun c₀ cs hu => ?_
  apply wpS_seq
  apply wpS_region
  simp [wpOpsS, go_sem, recoverD, hu, Tryd.ntmps54, Exit.thenS]
  refine wpS_cond (t := false) (by simp [Act.eval, Array.replicate]) ?_
  simp only [Bool.false_eq_true, if_false]
  refine wpS_of_wp (wp_skip ?_)
  cases c₀
  simp_all [bodyPostS, results, Tryd.results54]

/-- The plan that a text is. -/
def planOf (m : Nat) (s : ByteArray) : Option PlanT :=
  if s.size ≤ 60 then match readP m (s.size + 1) (bytesN s) with | some (x, []) => some x | _ => none else none
def PTextPost (m : Nat) (s : ByteArray) (w : World) (e : Ending) (w' : World) : Prop :=
  match planOf m s with
  | some x => ∃ p, e = .returned (.tuple #[.pointer p, .bool true]) ∧ QAt w' w.heap.size x p ∧ Below w.heap.size w w'
  | none => e = .returned nothing ∧ Below w.heap.size w w'
section
variable {m : Nat} {s : ByteArray} {w : World} {e : Ending} {w' : World} {x : PlanT}
theorem PTextPost.of_none (h : planOf m s = none) (he : e = .returned nothing) (hb : Below w.heap.size w w') : PTextPost m s w e w' := by
  unfold PTextPost; rw [h]; exact ⟨he, hb⟩
theorem PTextPost.of_some (h : planOf m s = some x) {p : Option Addr} (he : e = .returned (.tuple #[.pointer p, .bool true])) (hn : QAt w' w.heap.size x p) (hb : Below w.heap.size w w') : PTextPost m s w e w' := by
  unfold PTextPost; rw [h]; exact ⟨p, he, hn, hb⟩
theorem planOf_none (hl : s.size ≤ 60) (h : readP m (s.size + 1) (bytesN s) = none) : planOf m s = none := by unfold planOf; rw [if_pos hl, h]
theorem planOf_more {c : Nat} {r : List Nat} (hl : s.size ≤ 60) (h : readP m (s.size + 1) (bytesN s) = some (x, c :: r)) : planOf m s = none := by unfold planOf; rw [if_pos hl, h]
theorem planOf_some (hl : s.size ≤ 60) (h : readP m (s.size + 1) (bytesN s) = some (x, [])) : planOf m s = some x := by unfold planOf; rw [if_pos hl, h]
end
def startsP (n : Nat) : ByteArray := (⟨#[46, 48, 49, 50, 51, 52]⟩ : ByteArray).extract 0 (n + 1)
theorem startsP_ok (n : Nat) (h5 : n ≤ 5) : StP n (startsP n) := by
  intro c
  have e : ∀ k : UInt8, c = k ↔ c.toNat = k.toNat := fun k => UInt8.toNat_inj.symm
  have hl : (startsP n).data.toList = [46, 48, 49, 50, 51, 52].take (n + 1) := by
    have : n = 0 ∨ n = 1 ∨ n = 2 ∨ n = 3 ∨ n = 4 ∨ n = 5 := by omega
    rcases this with rfl | rfl | rfl | rfl | rfl | rfl <;> rfl
  rw [hl, Bool.eq_iff_iff]
  have : n = 0 ∨ n = 1 ∨ n = 2 ∨ n = 3 ∨ n = 4 ∨ n = 5 := by omega
  rcases this with rfl | rfl | rfl | rfl | rfl | rfl <;> simp [e] <;> omega

set_option maxRecDepth 100000 in
set_option maxHeartbeats 4000000 in
theorem iReadP_long (n : Nat) (s : ByteArray) (w : World) (h : 60 < s.size) (hs : s.size ≤ 9223372036854775807) :
    Calls Tryd.prog 41 #[.int .i64 n, .string s] w fun e w' => e = .returned nothing ∧ Below w.heap.size w w' := by
  have x0 := Boxed.new w 42 (.pointer none)
  have x1 := Boxed.new (w.alloc (.cells #[.pointer none] 42)) 4 (.bool false)
  rw [World.size_alloc] at x1
  have HB : Hid (Below w.heap.size w ((w.alloc (.cells #[.pointer none] 42)).alloc (.cells #[.bool false] 4))) := ((Below.refl _ _).alloc (Nat.le_refl _) _).alloc (by simp) _
  have y0 := x0.alloc (.cells #[.bool false] 4)
  have hc0 := y0.cell
  have hc1 := x1.cell
  have hf0 := y0.frozen
  have hf1 := x1.frozen
  have X0 := Lib.hid y0
  have X1 := Lib.hid x1
  have z0 := (box_set (y0.set (.pointer none)) (.bool false) (C := w.heap.size + 1) (by omega)).cell
  have z1 := ((box_set x1 (.pointer none) (C := w.heap.size) (by omega)).set (.bool false)).cell
  have HB2 : Hid (Below w.heap.size w ((((w.alloc (.cells #[.pointer none] 42)).alloc (.cells #[.bool false] 4)).setCell ⟨w.heap.size, 0, none⟩ (.pointer none)).setCell ⟨w.heap.size + 1, 0, none⟩ (.bool false))) :=
    (HB.out.setCell (p := ⟨w.heap.size, 0, none⟩) (Nat.le_refl _) _).setCell (p := ⟨w.heap.size + 1, 0, none⟩) (by show w.heap.size ≤ w.heap.size + 1; omega) _
  clear x0 x1 y0
  have hd2 : decide ((60 : Int) < (s.size : Int)) = true := decide_eq_true (by omega)
  clear h
  go_enter_defers Tryd.func41, Tryd.ntmps41
  go_wp2_with fail
  exact ⟨nothing, by simp [results, Tryd.results41, go_sem, hc0, hc1, nothing], rfl, by first | exact HB.out | exact HB2.out⟩

set_option maxRecDepth 100000 in
set_option maxHeartbeats 4000000 in
theorem iReadP_ok (n : Nat) (s : ByteArray) (w : World) (h5 : n ≤ 5) (hs : s.size ≤ 60) :
    Calls Tryd.prog 41 #[.int .i64 n, .string s] w (PTextPost n s w) := by
  have hmf : ∀ (fn : Fn) (first cap : Array Value) (w : World), (Instr.makeFunc fn first cap).run Tryd.prog w = .ok (.func fn first cap) w := fun _ _ _ _ => rfl
  have hd : decide ((60 : Int) < (s.size : Int)) = false := decide_eq_false (by omega)
  have htn : (1 + (n : Int)).toNat = n + 1 := by omega
  have hle6 : (1 + (n : Int)) ≤ 6 := by omega
  have hge0 : (0 : Int) ≤ 1 + (n : Int) := by omega
  go_enter_defers Tryd.func41, Tryd.ntmps41
  go_wp2_with fail
  obtain ⟨W, hW⟩ : ∃ W, ((w.alloc (.cells #[.pointer none] 42)).alloc (.cells #[.bool false] 4)).alloc (.cells #[.string s, .int .i64 0, .string ⟨#[]⟩] 72) = W := ⟨_, rfl⟩
  have x0 : Boxed W w.heap.size 42 (.pointer none) := by rw [← hW]; exact ((Boxed.new w 42 (.pointer none)).alloc _).alloc _
  have x1 : Boxed W (w.heap.size + 1) 4 (.bool false) := by
    rw [← hW]; have := Boxed.new (w.alloc (.cells #[.pointer none] 42)) 4 (.bool false); rw [World.size_alloc] at this; exact this.alloc _
  have hr : RdrAt W (w.heap.size + 1 + 1) s 0 ⟨#[]⟩ := by
    rw [← hW]; have := World.alloc_heap_new ((w.alloc (.cells #[.pointer none] 42)).alloc (.cells #[.bool false] 4)) (.cells #[.string s, .int .i64 0, .string ⟨#[]⟩] 72); simp only [World.size_alloc] at this; exact this
  have hB : Below w.heap.size w W := by rw [← hW]; exact (((Below.refl _ _).alloc (Nat.le_refl _) _).alloc (by simp) _).alloc (by simp; omega) _
  have hsz : w.heap.size + 3 ≤ W.heap.size := by rw [← hW]; simp
  rw [hW]
  clear hW
  have hread := iPlan n (w.heap.size + 1 + 1) s ⟨#[]⟩ (startsP n) (by omega) (startsP_ok n h5) (s.size + 1) 0 W hr (by omega) (by omega)
  rw [List.drop_zero] at hread
  have HB := Lib.hid hB
  have X0 := Lib.hid x0
  have X1 := Lib.hid x1
  clear x0 x1 hB hr
  rcases hrd : readP n (s.size + 1) (bytesN s) with _ | ⟨x, rest⟩
  · rw [hrd] at hread
    have HI : Hid (Calls Tryd.prog 55 #[.pointer (some ⟨w.heap.size + 1 + 1, 0, none⟩), .string (startsP n)] W (Panics (w.heap.size + 1 + 1) W)) := hread
    have HE := Lib.hid (planOf_none hs hrd)
    clear hread hrd
    refine HI.out.mono ?_
    rintro e w1 ⟨v, rfl, hg⟩
    have y0 : Boxed w1 w.heap.size 42 (.pointer none) := X0.out.kept hg (fun e => by have := Option.some.inj e; omega)
    have y1 : Boxed w1 (w.heap.size + 1) 4 (.bool false) := X1.out.kept hg (fun e => by have := Option.some.inj e; omega)
    refine leaves_cons (f := 54) (args := #[.pointer (some ⟨w.heap.size, 0, none⟩), .pointer (some ⟨w.heap.size + 1, 0, none⟩)]) (by simp) (by simp [go_sem]) ?_
    refine (catchP_panicking ⟨w.heap.size, 0, none⟩ ⟨w.heap.size + 1, 0, none⟩ _ _ _ _ _ y0.cell y1.cell y0.frozen y1.frozen (by simp)).mono ?_
    rintro e u' w'' ⟨rfl, rfl, rfl⟩
    have z0 := (box_set (y0.set (.pointer none)) (.bool false) (C := w.heap.size + 1) (by omega)).cell
    have z1 := ((box_set y1 (.pointer none) (C := w.heap.size) (by omega)).set (.bool false)).cell
    have HP := Lib.hid (PTextPost.of_none HE.out rfl (below_caught (u0 := .pointer none) (u1 := .bool false) HB.out hg))
    simp [Leaves, settle, results, Tryd.results41, go_sem, z0, z1]
    exact HP.out
  · rw [hrd] at hread
    have HI : Hid (Calls Tryd.prog 55 #[.pointer (some ⟨w.heap.size + 1 + 1, 0, none⟩), .string (startsP n)] W (PlanSome (w.heap.size + 1 + 1) s ⟨#[]⟩ x rest W)) := hread
    have HRD := Lib.hid hrd
    clear hread hrd
    refine HI.out.mono ?_
    rintro e w1 ⟨p, a1, rfl, ha1, hda, hr1, hn1, hg⟩
    have y0 : Boxed w1 w.heap.size 42 (.pointer none) := X0.out.kept hg (fun e => by have := Option.some.inj e; omega)
    have y1 : Boxed w1 (w.heap.size + 1) 4 (.bool false) := X1.out.kept hg (fun e => by have := Option.some.inj e; omega)
    have hc0 := y0.cell
    have hf0 := y0.frozen
    rcases rest with _ | ⟨c, r⟩
    · have HE := Lib.hid (planOf_some hs HRD.out)
      obtain rfl := drop_end hda ha1
      have hr2 : RdrAt (w1.setCell ⟨w.heap.size, 0, none⟩ (.pointer p)) (w.heap.size + 1 + 1) s s.size ⟨#[]⟩ := (Below.heap_setCell _ _ _ _ (by show w.heap.size + 1 + 1 ≠ w.heap.size; omega)).trans hr1
      have HT := Lib.hid (iEnd_ok _ s ⟨#[]⟩ _ (by omega) hr2)
      have HG := Lib.hid hg
      have Y0 := Lib.hid (y0.set (.pointer p))
      have Y1 := Lib.hid (box_set y1 (.pointer p) (C := w.heap.size) (by omega))
      have HN := Lib.hid hn1
      clear hda hr1 hn1 hg y0 y1 hr2
      go_wp2_with fail
      refine HT.out.mono ?_
      rintro e w2 ⟨rfl, q, rfl⟩
      clear hc0 hf0
      have hc0 := Y0.out.cell
      have hf0 := Y0.out.frozen
      have hc1 := Y1.out.cell
      have hf1 := Y1.out.frozen
      go_wp2_with fail
      refine leaves_cons (f := 54) (args := #[.pointer (some ⟨w.heap.size, 0, none⟩), .pointer (some ⟨w.heap.size + 1, 0, none⟩)]) (by simp) (by simp [go_sem]) ?_
      refine (catchP_idle ⟨w.heap.size, 0, none⟩ ⟨w.heap.size + 1, 0, none⟩ _).mono ?_
      rintro e u' w'' ⟨rfl, rfl, rfl⟩
      have Y0q : Boxed ((w1.setCell ⟨w.heap.size, 0, none⟩ (.pointer p)).drewN q) w.heap.size 42 (.pointer p) := Y0.out
      have Y1q : Boxed ((w1.setCell ⟨w.heap.size, 0, none⟩ (.pointer p)).drewN q) (w.heap.size + 1) 4 (.bool false) := Y1.out
      have z0 := (box_set (Y0q.set (.pointer p)) (.bool true) (C := w.heap.size + 1) (by omega)).cell
      have z1 := ((box_set Y1q (.pointer p) (C := w.heap.size) (by omega)).set (.bool true)).cell
      have hsn : QAt ((((w1.setCell ⟨w.heap.size, 0, none⟩ (.pointer p)).drewN q).setCell ⟨w.heap.size, 0, none⟩ (.pointer p)).setCell ⟨w.heap.size + 1, 0, none⟩ (.bool true)) w.heap.size x p :=
        QAt.low (lo := W.heap.size) (by omega) x p (QAt.set (QAt.set (QAt.drewN (QAt.set HN.out (by omega) _) _) (by omega) _) (by omega) _)
      have hbl : Below w.heap.size w ((((w1.setCell ⟨w.heap.size, 0, none⟩ (.pointer p)).drewN q).setCell ⟨w.heap.size, 0, none⟩ (.pointer p)).setCell ⟨w.heap.size + 1, 0, none⟩ (.bool true)) :=
        ((bel_drewN ((HB.out.grown HG.out HB.out.size (fun k e => by have := Option.some.inj e; omega)).setCell (p := ⟨w.heap.size, 0, none⟩) (Nat.le_refl _) _) q).setCell (p := ⟨w.heap.size, 0, none⟩) (Nat.le_refl _) _).setCell (p := ⟨w.heap.size + 1, 0, none⟩) (by show w.heap.size ≤ w.heap.size + 1; omega) _
      have HP := Lib.hid (PTextPost.of_some HE.out rfl hsn hbl)
      simp [Leaves, settle, results, Tryd.results41, go_sem, z0, z1]
      exact HP.out
    · have HE := Lib.hid (planOf_more hs HRD.out)
      obtain ⟨hlt, _, _⟩ := drop_lt hda
      have hr2 : RdrAt (w1.setCell ⟨w.heap.size, 0, none⟩ (.pointer p)) (w.heap.size + 1 + 1) s a1 ⟨#[]⟩ := (Below.heap_setCell _ _ _ _ (by show w.heap.size + 1 + 1 ≠ w.heap.size; omega)).trans hr1
      have HT := Lib.hid (iEnd_bad _ s ⟨#[]⟩ a1 _ (by omega) hlt hr2)
      have HG := Lib.hid hg
      have Y0 := Lib.hid (y0.set (.pointer p))
      have Y1 := Lib.hid (box_set y1 (.pointer p) (C := w.heap.size) (by omega))
      clear hda hr1 hn1 hg y0 y1 hr2
      go_wp2_with fail
      refine HT.out.mono ?_
      rintro e w2 ⟨v, rfl, hg2⟩
      have y0 : Boxed w2 w.heap.size 42 (.pointer p) := Boxed.kept Y0.out hg2 (fun e => by have := Option.some.inj e; omega)
      have y1 : Boxed w2 (w.heap.size + 1) 4 (.bool false) := Boxed.kept Y1.out hg2 (fun e => by have := Option.some.inj e; omega)
      refine leaves_cons (f := 54) (args := #[.pointer (some ⟨w.heap.size, 0, none⟩), .pointer (some ⟨w.heap.size + 1, 0, none⟩)]) (by simp) (by simp [go_sem]) ?_
      refine (catchP_panicking ⟨w.heap.size, 0, none⟩ ⟨w.heap.size + 1, 0, none⟩ _ _ _ _ _ y0.cell y1.cell y0.frozen y1.frozen (by simp)).mono ?_
      rintro e u' w'' ⟨rfl, rfl, rfl⟩
      have z0 := (box_set (y0.set (.pointer none)) (.bool false) (C := w.heap.size + 1) (by omega)).cell
      have z1 := ((box_set y1 (.pointer none) (C := w.heap.size) (by omega)).set (.bool false)).cell
      have hb1 : Below w.heap.size w (w1.setCell ⟨w.heap.size, 0, none⟩ (.pointer p)) := (HB.out.grown HG.out HB.out.size (fun k e => by have := Option.some.inj e; omega)).setCell (p := ⟨w.heap.size, 0, none⟩) (Nat.le_refl _) _
      have HP := Lib.hid (PTextPost.of_none HE.out rfl (below_caught (u0 := .pointer none) (u1 := .bool false) hb1 hg2))
      simp [Leaves, settle, results, Tryd.results41, go_sem, z0, z1]
      exact HP.out
theorem iReadPlan (n : Nat) (s : ByteArray) (w : World) (h5 : n ≤ 5) (hs : s.size ≤ 9223372036854775807) : Calls Tryd.prog 41 #[.int .i64 n, .string s] w (PTextPost n s w) := by
  by_cases h : 60 < s.size
  · refine (iReadP_long n s w h hs).mono ?_
    rintro e w' ⟨he, hb⟩
    exact PTextPost.of_none (by unfold planOf; rw [if_neg (by omega)]) he hb
  · exact iReadP_ok n s w h5 (by omega)
end Go.Proofs.YtpjpbemgjniljaaDoor

namespace Go.Proofs.YtpjpbemgjniljaaDoor
open Go.RowKit

theorem bits_sub {s q : Int} (hs : 0 ≤ s) (hs2 : s < 256) (hq : 0 ≤ q) (hq2 : q < 256) : bits .andNot .i64 s q = s - andI s q := by
  obtain ⟨h1, h2⟩ := bits_less hs hs2 hq hq2
  refine has_ext h1 (sub_pos hs) fun w => ?_
  rw [h2, has_sub w hs]
theorem ask_cells_below {w W : World} {b k : Nat} {q r : Option Addr} (h : AskAt w b k q r) (hb : Below w.heap.size w W) : W.cell? ⟨b, 1, none⟩ = some (.pointer q) ∧ W.cell? ⟨b, 2, none⟩ = some (.pointer r) := by
  have := ask_cells ((hb.block b (Array.getElem?_eq_some_iff.1 h).1).trans h)
  exact ⟨this.2.1, this.2.2.1⟩
def LongPost (d : Nat) (w : World) (e : Ending) (w' : World) : Prop := e = .returned (.int .i64 d) ∧ Below w.heap.size w w'
set_option maxRecDepth 100000 in
set_option maxHeartbeats 4000000 in
theorem iLong_nil (w : World) : Calls Tryd.prog 22 #[.pointer none] w (LongPost 0 w) := by
  go_enter Tryd.func22, Tryd.ntmps22
  go_wp2_with fail
  go_ret
  exact ⟨rfl, Below.refl _ _⟩
set_option maxRecDepth 100000 in
set_option maxHeartbeats 4000000 in
theorem iLong_ask {b k : Nat} {q r : Option Addr} {w : World} {d1 d2 : Nat} (hn : AskAt w b k q r) (hd1 : d1 ≤ 1048576) (hd2 : d2 ≤ 1048576)
    (hk : ∀ W, Below w.heap.size w W → Calls Tryd.prog 22 #[.pointer q] W (LongPost d1 W))
    (hk2 : ∀ W, Below w.heap.size w W → Calls Tryd.prog 22 #[.pointer r] W (LongPost d2 W)) :
    Calls Tryd.prog 22 #[.pointer (some ⟨b, 0, none⟩)] w (LongPost (max d1 d2 + 1) w) := by
  obtain ⟨hc0, hc1, hc2, hlt⟩ := ask_cells hn
  have HK := Lib.hid hk
  have HK2 := Lib.hid hk2
  have HN := Lib.hid hn
  have HBd : Hid (Below w.heap.size w w.drew) := bel_drewN (Below.refl _ w) 1
  have hwr : IntKind.i64.wrap (1 + max (d1 : Int) (d2 : Int)) = 1 + max (d1 : Int) (d2 : Int) := by rw [IntKind.wrap_i64]; omega
  clear hk hn hk2
  go_enter Tryd.func22, Tryd.ntmps22
  go_wp2_with fail
  go_region_held3 (fun w' => w'.cell? ⟨b, 1, none⟩ = some (.pointer q) ∧ w'.cell? ⟨b, 2, none⟩ = some (.pointer r))
    (first | go_keep | exact ask_cells_below HN.out HB2.out | exact ask_cells_below HN.out HB1.out)
    (first
      | (go_at_call 22; ((with_reducible refine (HK.out w.drew HBd.out).mono ?_)); rintro e w1 ⟨rfl, hb⟩; have HB1 : Hid (Below w.heap.size w w1) := bel_trans HBd.out hb; clear hb HK HBd)
      | (go_at_call 22; ((with_reducible refine (HK2.out _ HB1.out).mono ?_)); rintro e w2 ⟨rfl, hb⟩; have HB2 : Hid (Below w.heap.size w w2) := bel_trans HB1.out hb; clear hb HK2 HB1))
  all_goals
    go_wp2_with fail
    go_ret
    refine ⟨ret_int ?_, HB2.out⟩
    first | omega | (rw [hwr]; omega)
theorem iLong : ∀ (x : PlanT) (p : Option Addr) (lo : Nat) (w : World), (textP x).length ≤ 1048576 → QAt w lo x p → Calls Tryd.prog 22 #[.pointer p] w (LongPost (depthP x) w)
  | .dot, _, _, w, _, h => by cases h; exact iLong_nil w
  | .ask k a c, _, lo, w, hl, ⟨b, q, r, rfl, _, hn, h1, h2⟩ => by
    have hla : (textP a).length ≤ 1048576 := by unfold textP at hl; simp at hl; omega
    have hlc : (textP c).length ≤ 1048576 := by unfold textP at hl; simp at hl; omega
    have hd : ∀ y : PlanT, depthP y ≤ (textP y).length := by
      intro y
      induction y with
      | dot => simp [depthP]
      | ask k y z h1 h2 => unfold depthP textP; simp; omega
    exact iLong_ask hn (by have := hd a; omega) (by have := hd c; omega) (fun W hb => iLong a q lo W hla (h1.below hb)) (fun W hb => iLong c r lo W hlc (h2.below hb))

set_option maxRecDepth 100000 in
set_option maxHeartbeats 4000000 in
theorem iWith_nil {issue : List Int} {A B : Option Addr} {na ca nb cb : Nat} {u : Int} {w : World} {v : Bool} (h : Hid (anyWithin u issue = v)) (hb : Row w B nb cb issue) (hi : ∀ x ∈ issue, 0 ≤ x ∧ x < 256) (hu0 : 0 ≤ u) (hu : u < 256) :
    Calls Tryd.prog 42 #[.slice A na ca, .slice B nb cb, .int .i64 u, .pointer none] w fun e w' => e = .returned (.bool v) ∧ w' = w := by
  have HB := Lib.hid hb
  have HI := Lib.hid hi
  clear hb hi
  go_enter Tryd.func42, Tryd.ntmps42
  go_wp2_with fail
  refine (iWithinAny_is h _ _ _ _ HB.out.hn hu0 hu HI.out HB.out.hl HB.out.hA).mono ?_
  rintro e w' ⟨rfl, rfl⟩
  go_wp2_with fail
  go_ret
  exact ⟨rfl, rfl⟩
set_option maxRecDepth 100000 in
set_option maxHeartbeats 4000000 in
theorem iWith_ask {asks : List Int} {A B : Option Addr} {na ca nb cb : Nat} {u x y : Int} {w : World} {v1 v2 : Bool} {b k : Nat} {q r : Option Addr} (hn : AskAt w b k q r) (ha : Row w A na ca asks) (hx : Hid (asks[k]? = some x)) (hr : ∀ q ∈ asks, 0 ≤ q ∧ q < 256) (hu0 : 0 ≤ u) (hu : u < 256) (hy : Hid (andI u x = y))
    (hk : Calls Tryd.prog 42 #[.slice A na ca, .slice B nb cb, .int .i64 y, .pointer q] w fun e w' => e = .returned (.bool v1) ∧ w' = w)
    (hk2 : Calls Tryd.prog 42 #[.slice A na ca, .slice B nb cb, .int .i64 (u - y), .pointer r] w fun e w' => e = .returned (.bool v2) ∧ w' = w) :
    Calls Tryd.prog 42 #[.slice A na ca, .slice B nb cb, .int .i64 u, .pointer (some ⟨b, 0, none⟩)] w fun e w' => e = .returned (.bool (v1 && v2)) ∧ w' = w := by
  obtain ⟨hc0, hc1, hc2, hlt⟩ := ask_cells hn
  have HK := Lib.hid hk
  have HK2 := Lib.hid hk2
  have hkl : k < asks.length := (List.getElem?_eq_some_iff.1 hx.out).1
  obtain ⟨hq0, hq1⟩ := hr x (List.mem_of_getElem? hx.out)
  obtain ⟨b2, off, x', rfl, hcell, hx', _⟩ := ha.hA.elem hkl
  obtain rfl : x' = x := by have h1 := hx.out; have h2 := hx'.out; rw [h1] at h2; exact (Option.some.inj h2).symm
  obtain rfl := ha.hn
  have hl := ha.hl
  have hb1 : bits .and .i64 u x' = y := by rw [bits_and u x' hu0 (by omega) hq0 (by omega), hy.out]
  have hb2 : bits .andNot .i64 u x' = u - y := by rw [bits_sub hu0 hu hq0 hq1, hy.out]
  clear hk hn hk2 ha hr hx'
  cases v1
  · go_enter Tryd.func42, Tryd.ntmps42
    go_wp2_with fail
    refine HK.out.mono ?_
    rintro e w' ⟨rfl, rfl⟩
    go_wp2_with fail
    go_ret
    exact ⟨rfl, rfl⟩
  · go_enter Tryd.func42, Tryd.ntmps42
    go_wp2_with fail
    refine HK.out.mono ?_
    rintro e w' ⟨rfl, rfl⟩
    go_wp2_with fail
    refine HK2.out.mono ?_
    rintro e w' ⟨rfl, rfl⟩
    go_wp2_with fail
    go_ret
    exact ⟨rfl, rfl⟩
theorem iWith {asks issue : List Int} {A B : Option Addr} {na ca nb cb : Nat} (hr : ∀ q ∈ asks, 0 ≤ q ∧ q < 256) (hi : ∀ x ∈ issue, 0 ≤ x ∧ x < 256) : ∀ (x : PlanT) (p : Option Addr) (lo : Nat) (u : Int) (w : World), knowsP asks.length x → QAt w lo x p → Row w A na ca asks → Row w B nb cb issue → 0 ≤ u → u < 256 →
    Calls Tryd.prog 42 #[.slice A na ca, .slice B nb cb, .int .i64 u, .pointer p] w fun e w' => e = .returned (.bool (okP asks issue x u)) ∧ w' = w
  | .dot, _, _, u, w, _, h, ha, hb, hu0, hu => by cases h; exact iWith_nil rfl hb hi hu0 hu
  | .ask k a c, _, lo, u, w, ⟨hk, hk1, hk2⟩, ⟨b, q, r, rfl, _, hn, h1, h2⟩, ha, hb, hu0, hu => by
    obtain ⟨hy0, hy1, hz0, hz1⟩ := andI_lt asks[k] hu0 hu
    have e : okP asks issue (.ask k a c) u = (okP asks issue a (andI u asks[k]) && okP asks issue c (u - andI u asks[k])) := by
      show (match asks[k]? with | some q => _ | none => _) = _
      rw [List.getElem?_eq_getElem hk]
    rw [e]
    exact iWith_ask hn ha (List.getElem?_eq_getElem hk) hr hu0 hu rfl (iWith hr hi a q lo _ w hk1 h1 ha hb hy0 hy1) (iWith hr hi c r lo _ w hk2 h2 ha hb hz0 hz1)
end Go.Proofs.YtpjpbemgjniljaaDoor
