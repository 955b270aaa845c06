/-
  What the proofs of this seat's statements share (LdcS).
-/
import Derived.Deep.RegionWith
import Derived.Test.YtjilcnehndmoaaaU17

namespace Go.Proofs.Ytjilcnehndmoaaa
open Go.RowKit

def startD (t : Int) (c : Nat) : Bool := decide (c = 49) || decide (c = 48) || decide (97 ≤ c ∧ (c : Int) - 97 < t) || decide (c = 33) || decide (c = 91) || decide (c = 40)
def StOkD (t : Int) (st : ByteArray) : Prop := ∀ c : UInt8, st.data.toList.contains c = startD t c.toNat
theorem readD_no (t : Int) (k c : Nat) (l : List Nat) (h : startD t c = false) : readD t (k + 1) (c :: l) = none := by
  unfold startD at h
  simp only [Bool.or_eq_false_iff, decide_eq_false_iff_not] at h
  unfold readD
  rw [if_neg h.1.1.1.1.1, if_neg h.1.1.1.1.2, if_neg h.1.1.1.2, if_neg h.1.1.2, if_neg h.1.2, if_neg h.2]
theorem readD_empty (t : Int) : ∀ n, readD t n [] = none
  | 0 => rfl
  | _ + 1 => rfl
theorem readD_no33 (t : Int) (k : Nat) (l : List Nat) : readD t (k + 1) (33 :: l) = (readD t k l).map fun p => (.no p.1, p.2) := by
  conv => lhs; unfold readD
  simp
def preD (t : Int) (k : Nat) (l : List Nat) : Option (Ld × List Nat) :=
  match readD t k l with
  | some (x, m :: l2) => if m = 93 then (readD t k l2).map fun p => (.pre x p.1, p.2) else none
  | _ => none
theorem readD_pre91 (t : Int) (k : Nat) (l : List Nat) : readD t (k + 1) (91 :: l) = preD t k l := by
  conv => lhs; unfold readD
  by_cases h : 97 ≤ 91 ∧ ((91 : Nat) : Int) - 97 < t
  · omega
  · simp only [show ¬ (91 : Nat) = 49 by omega, show ¬ (91 : Nat) = 48 by omega, h, show ¬ (91 : Nat) = 33 by omega, if_false, if_true]
    rfl
theorem readD_pair40 (t : Int) (k : Nat) (l : List Nat) : readD t (k + 1) (40 :: l) = pairD t k l := by
  conv => lhs; unfold readD
  by_cases h : 97 ≤ 40 ∧ ((40 : Nat) : Int) - 97 < t
  · omega
  · simp only [show ¬ (40 : Nat) = 49 by omega, show ¬ (40 : Nat) = 48 by omega, h, show ¬ (40 : Nat) = 33 by omega, show ¬ (40 : Nat) = 91 by omega, if_false, if_true]
    rfl
theorem square_has (c : UInt8) : (ByteArray.mk #[93]).data.toList.contains c = decide (c.toNat = 93) := by
  rw [Bool.eq_iff_iff]
  simp only [List.contains_iff_mem, decide_eq_true_eq]
  have e : ∀ k : UInt8, c = k ↔ c.toNat = k.toNat := fun k => UInt8.toNat_inj.symm
  simp [e]
theorem and_all8 {t s : Int} (h1 : 1 ≤ t) (h3 : t ≤ 3) (h0 : 0 ≤ s) (ha : s ≤ allOf t) : andI s (allOf t) = s :=
  has_ext (andI_nonneg _ _) h0 fun w => by
    rw [has_and]
    cases h : hasW s w
    · rfl
    · rw [has_all8 h1 h3, decide_eq_true (has_lt h1 h3 h0 ha h)]; rfl
theorem wordD_of {t : Int} {c : Nat} (ht1 : 1 ≤ t) (ht3 : t ≤ 3) (h : startD t c = true) (h1 : c ≠ 33) (h2 : c ≠ 91) (h3 : c ≠ 40) :
    ∃ x, (∀ k l, readD t (k + 1) (c :: l) = some (x, l)) ∧ isWord c ∧ ∀ s, 0 ≤ s → s ≤ allOf t → chgI t x s = some (bits .and .i64 s (wordTo c (nWorlds t))) := by
  have hall := allOf_lt t
  unfold startD at h
  simp only [Bool.or_eq_true, decide_eq_true_eq] at h
  by_cases e1 : c = 49
  · subst e1
    refine ⟨.one, fun _ _ => rfl, .inr (.inl rfl), fun s h0 ha => ?_⟩
    rw [word_one ht1 ht3, bits_and s (allOf t) h0 (by omega) hall.1 (by omega), and_all8 ht1 ht3 h0 ha]; rfl
  by_cases e2 : c = 48
  · subst e2
    refine ⟨.zero, fun _ _ => rfl, .inl rfl, fun s h0 ha => ?_⟩
    rw [word_zero ht1 ht3, bits_and s 0 h0 (by omega) (by omega) (by omega)]
    show some (0 : Int) = some (andI s 0)
    congr 1
    unfold andI; simp
  have h4 : 97 ≤ c ∧ (c : Int) - 97 < t := by omega
  obtain ⟨i, rfl⟩ : ∃ i, c = 97 + i := ⟨c - 97, by omega⟩
  have hr := word_range (97 + i) ht1 ht3 (show isWord (97 + i) by unfold isWord; omega)
  refine ⟨.thing i, fun k l => ?_, by unfold isWord; omega, fun s h0 ha => ?_⟩
  · unfold readD
    rw [if_neg e1, if_neg e2, if_pos h4]
    congr 3; omega
  · rw [bits_and s _ h0 (by omega) (by omega) (by omega), word_thing ht1 ht3 (by omega)]; rfl

set_option maxRecDepth 100000 in
set_option maxHeartbeats 8000000 in
theorem iLoaded (t : Int) (R : Nat) (s st : ByteArray) (hs : s.size ≤ 1048576) (ht1 : 1 ≤ t) (ht3 : t ≤ 3) (hst : StOkD t st) : ∀ k, LReadsAt t k R s st := by
  have hmf : ∀ (fn : Fn) (first cap : Array Value) (w : World), (Instr.makeFunc fn first cap).run Try.prog w = .ok (.func fn first cap) w := fun _ _ _ _ => rfl
  have HST := Lib.hid hst
  clear hst
  intro k
  induction k with
  | zero =>
    intro at_ w hr hle hk
    obtain rfl : at_ = s.size := by omega
    have hR := rdr_lt hr
    obtain ⟨W, hW⟩ : ∃ W, w.alloc (.cells #[.nilFunc] 43) = W := ⟨_, rfl⟩
    have hrW : RdrAt W R s s.size st := by rw [← hW]; exact rdr_alloc hr _
    have hgW : Hid (w.grownBy W (some R)) := by rw [← hW]; exact grown_alloc (World.grownBy.refl w (some R)) _
    obtain ⟨_, _, hc2, _, _⟩ := rdr_cells (show RdrAt (w.alloc (.cells #[.nilFunc] 43)) R s _ st by rw [hW]; exact hrW)
    have HT := Lib.hid (iTake_end R s st st W hs hrW)
    have HW := Lib.hid hW
    show Calls _ _ _ _ (Panics R w)
    clear hr hrW hW
    go_enter Try.func54, Try.ntmps54
    go_wp2_with fail
    rw [HW.out]
    refine HT.out.mono ?_
    rintro e w1 ⟨v, rfl, hg⟩
    exact ⟨rfl, v, rfl, hgW.out.trans hg⟩
  | succ k ih =>
    intro at_ w hr hle hk
    have hR := rdr_lt hr
    obtain ⟨W, hW⟩ : ∃ W, w.alloc (.cells #[.nilFunc] 43) = W := ⟨_, rfl⟩
    have hrW : RdrAt W R s at_ st := by rw [← hW]; exact rdr_alloc hr _
    have HGW : Hid (w.grownBy W (some R)) := by rw [← hW]; exact grown_alloc (World.grownBy.refl w (some R)) _
    have HX : Hid (Boxed W w.heap.size 43 .nilFunc) := by rw [← hW]; exact Boxed.new w 43 .nilFunc
    have hsz : W.heap.size = w.heap.size + 1 := by rw [← hW, World.size_alloc]
    obtain ⟨_, _, hc2, _, _⟩ := rdr_cells (show RdrAt (w.alloc (.cells #[.nilFunc] 43)) R s _ st by rw [hW]; exact hrW)
    have HW := Lib.hid hW
    clear hW
    by_cases hlt : at_ < s.size
    · have hd := bytesN_drop hlt
      rw [hd]
      obtain ⟨c, hc⟩ : ∃ c, s[at_].toNat = c := ⟨_, rfl⟩
      rw [hc]
      have hc255 : c < 256 := by rw [← hc]; exact UInt8.toNat_lt _
      rcases hb : startD t c with _ | _
      · have HT := Lib.hid (iTake_bad R s st st at_ W hs hlt hrW (by rw [HST.out, hc, hb]))
        rw [readD_no t k c _ hb]
        show Calls _ _ _ _ (Panics R w)
        clear hr hrW hb ih hd
        go_enter Try.func54, Try.ntmps54
        go_wp2_with fail
        rw [HW.out]
        refine HT.out.mono ?_
        rintro e w1 ⟨v, rfl, hg⟩
        exact ⟨rfl, v, rfl, HGW.out.trans hg⟩
      · have HT := Lib.hid (iTake_is hs hlt hc hrW (al := st) (by rw [HST.out, hc, hb]))
        have HIH := Lib.hid ih
        by_cases e33 : c = 33
        · subst e33
          rw [readD_no33]
          rcases h1 : readD t k ((bytesN s).drop (at_ + 1)) with _ | ⟨x, rest⟩
          · show Calls _ _ _ _ (Panics R w)
            have HH := Lib.hid h1
            clear hr hrW hb ih hd h1
            go_enter Try.func54, Try.ntmps54
            go_wp2_with fail
            rw [HW.out]
            refine HT.out.mono ?_
            rintro e w1 ⟨rfl, hr1, hg⟩
            have hs1 : W.heap.size ≤ w1.heap.size := hg.size
            have HI := Lib.hid (lreads_none HIH.out hr1 (by omega) (by omega) HH.out)
            have HG := Lib.hid (HGW.out.trans hg)
            clear hr1 hg
            go_wp2_with fail
            refine HI.out.mono ?_
            rintro e w2 ⟨v, rfl, hg2⟩
            exact ⟨rfl, v, rfl, HG.out.trans hg2⟩
          · show Calls _ _ _ _ (LReadSome t R s st (.no x) rest w)
            have HH := Lib.hid h1
            clear hr hrW hb ih hd h1
            go_enter Try.func54, Try.ntmps54
            go_wp2_with fail
            rw [HW.out]
            refine HT.out.mono ?_
            rintro e w1 ⟨rfl, hr1, hg⟩
            have hs1 : W.heap.size ≤ w1.heap.size := hg.size
            have HI := Lib.hid (lreads_some HIH.out hr1 (by omega) (by omega) HH.out)
            have HG := Lib.hid (HGW.out.trans hg)
            replace HX := Lib.hid (HX.out.kept hg (fun e => by have := Option.some.inj e; omega))
            clear hr1 hg
            go_wp2_with fail
            refine HI.out.mono ?_
            rintro e w2 ⟨v2, a2, rfl, hle2, hd2, hr2, hn2, hg2⟩
            obtain ⟨g2, cap2, rfl⟩ := hn2.form
            have hs2 : w1.heap.size ≤ w2.heap.size := hg2.size
            have HMK := Lib.hid (iMkNot t x _ W.heap.size w2 (by omega) (LdAt.low hs1 hn2))
            have HG2 := Lib.hid (HG.out.trans hg2)
            replace HX := Lib.hid (HX.out.kept hg2 (fun e => by have := Option.some.inj e; omega))
            have HR2 := Lib.hid hr2
            have HD2 := Lib.hid hd2
            clear hd2 hr2 hn2 hg2
            go_wp2_with (go_at_call 61; refine HMK.out.mono ?_; clear HMK; rintro e w5 ⟨v5, rfl, hn5, hb5⟩; obtain ⟨g5, cap5, rfl⟩ := hn5.form; have hx4 := (Boxed.cell (show Boxed w5 _ _ _ from (hb5.block _ HX.out.lt).trans HX.out)); have hf4 := (Boxed.frozen (show Boxed w5 _ _ _ from (hb5.block _ HX.out.lt).trans HX.out)); have HR5 : Hid (RdrAt w5 R s a2 st) := (hb5.block _ (rdr_lt HR2.out)).trans HR2.out; have HG5 := Lib.hid (grown_below HG2.out hb5); have HX := Lib.hid (show Boxed w5 _ _ _ from (hb5.block _ HX.out.lt).trans HX.out); have HN5 := Lib.hid hn5; clear hn5 hb5)
            have hc := (HX.out.set (.func (.func g5) #[] cap5)).cell
            have HE := Lib.hid (lread_end (B := w.heap.size) (Nat.le_refl _) hR hle2 HD2.out HR5.out (by rw [← hsz]; exact HN5.out) HG5.out)
            exact ⟨rfl, .agg #[.func (.func g5) #[] cap5], by simp [results, Try.results54, go_sem, hc], HE.out⟩
        by_cases e91 : c = 91
        · subst e91
          rw [readD_pre91]
          rcases h1 : readD t k ((bytesN s).drop (at_ + 1)) with _ | ⟨x, _ | ⟨m, l2⟩⟩
          · rw [show preD t k ((bytesN s).drop (at_ + 1)) = none by unfold preD; rw [h1]]
            show Calls _ _ _ _ (Panics R w)
            have HH := Lib.hid h1
            clear hr hrW hb ih hd h1
            go_enter Try.func54, Try.ntmps54
            go_wp2_with fail
            rw [HW.out]
            refine HT.out.mono ?_
            rintro e w1 ⟨rfl, hr1, hg⟩
            have hs1 : W.heap.size ≤ w1.heap.size := hg.size
            have HI := Lib.hid (lreads_none HIH.out hr1 (by omega) (by omega) HH.out)
            have HG := Lib.hid (HGW.out.trans hg)
            clear hr1 hg
            go_wp2_with fail
            refine HI.out.mono ?_
            rintro e w2 ⟨v, rfl, hg2⟩
            exact ⟨rfl, v, rfl, HG.out.trans hg2⟩
          · rw [show preD t k ((bytesN s).drop (at_ + 1)) = none by unfold preD; rw [h1]]
            show Calls _ _ _ _ (Panics R w)
            have HH := Lib.hid h1
            clear hr hrW hb ih hd h1
            go_enter Try.func54, Try.ntmps54
            go_wp2_with fail
            rw [HW.out]
            refine HT.out.mono ?_
            rintro e w1 ⟨rfl, hr1, hg⟩
            have hs1 : W.heap.size ≤ w1.heap.size := hg.size
            have HI := Lib.hid (lreads_some HIH.out hr1 (by omega) (by omega) HH.out)
            have HG := Lib.hid (HGW.out.trans hg)
            replace HX := Lib.hid (HX.out.kept hg (fun e => by have := Option.some.inj e; omega))
            clear hr1 hg
            go_wp2_with fail
            refine HI.out.mono ?_
            rintro e w2 ⟨v2, a2, rfl, hle2, hd2, hr2, hn2, hg2⟩
            obtain ⟨g2, cap2, rfl⟩ := hn2.form
            have hs2 : w1.heap.size ≤ w2.heap.size := hg2.size
            obtain ⟨W2, hW2⟩ : ∃ W, w2.alloc (.cells #[.func (.func g2) #[] cap2] 43) = W := ⟨_, rfl⟩
            have hrW2 : RdrAt W2 R s a2 st := by rw [← hW2]; exact rdr_alloc hr2 _
            have HG2 : Hid (w.grownBy W2 (some R)) := by rw [← hW2]; exact grown_alloc (HG.out.trans hg2) _
            have HX6 : Hid (Boxed W2 w2.heap.size 43 (.func (.func g2) #[] cap2)) := by rw [← hW2]; exact Boxed.new w2 _ _
            have hs3 : W2.heap.size = w2.heap.size + 1 := by rw [← hW2, World.size_alloc]
            have HN : Hid (LdAt t W2 W.heap.size x (.func (.func g2) #[] cap2)) := by rw [← hW2]; exact (LdAt.low hs1 hn2).below ((Below.refl _ _).alloc (Nat.le_refl _) _)
            replace HX := Lib.hid (show Boxed W2 _ _ _ by rw [← hW2]; exact (HX.out.kept hg2 (fun e => by have := Option.some.inj e; omega)).alloc _)
            have HW2 := Lib.hid hW2
            clear hr2 hn2 hg2 hW2
            obtain rfl := drop_end hd2 hle2
            have HT2 := Lib.hid (iTake_end R s st ⟨#[93]⟩ W2 hs hrW2)
            clear hd2 hrW2
            go_wp2_with fail
            rw [HW2.out]
            refine HT2.out.mono ?_
            rintro e w3 ⟨v, rfl, hg3⟩
            exact ⟨rfl, v, rfl, HG2.out.trans hg3⟩
          · by_cases hm : m = 93
            · subst hm
              rcases h2 : readD t k l2 with _ | ⟨y, r⟩
              · rw [show preD t k ((bytesN s).drop (at_ + 1)) = none by unfold preD; rw [h1]; simp only [if_true]; rw [h2]; rfl]
                show Calls _ _ _ _ (Panics R w)
                have HH := Lib.hid h1
                have HH2 := Lib.hid h2
                clear hr hrW hb ih hd h1 h2
                go_enter Try.func54, Try.ntmps54
                go_wp2_with fail
                rw [HW.out]
                refine HT.out.mono ?_
                rintro e w1 ⟨rfl, hr1, hg⟩
                have hs1 : W.heap.size ≤ w1.heap.size := hg.size
                have HI := Lib.hid (lreads_some HIH.out hr1 (by omega) (by omega) HH.out)
                have HG := Lib.hid (HGW.out.trans hg)
                replace HX := Lib.hid (HX.out.kept hg (fun e => by have := Option.some.inj e; omega))
                clear hr1 hg
                go_wp2_with fail
                refine HI.out.mono ?_
                rintro e w2 ⟨v2, a2, rfl, hle2, hd2, hr2, hn2, hg2⟩
                obtain ⟨g2, cap2, rfl⟩ := hn2.form
                have hs2 : w1.heap.size ≤ w2.heap.size := hg2.size
                obtain ⟨W2, hW2⟩ : ∃ W, w2.alloc (.cells #[.func (.func g2) #[] cap2] 43) = W := ⟨_, rfl⟩
                have hrW2 : RdrAt W2 R s a2 st := by rw [← hW2]; exact rdr_alloc hr2 _
                have HG2 : Hid (w.grownBy W2 (some R)) := by rw [← hW2]; exact grown_alloc (HG.out.trans hg2) _
                have HX6 : Hid (Boxed W2 w2.heap.size 43 (.func (.func g2) #[] cap2)) := by rw [← hW2]; exact Boxed.new w2 _ _
                have hs3 : W2.heap.size = w2.heap.size + 1 := by rw [← hW2, World.size_alloc]
                have HN : Hid (LdAt t W2 W.heap.size x (.func (.func g2) #[] cap2)) := by rw [← hW2]; exact (LdAt.low hs1 hn2).below ((Below.refl _ _).alloc (Nat.le_refl _) _)
                replace HX := Lib.hid (show Boxed W2 _ _ _ by rw [← hW2]; exact (HX.out.kept hg2 (fun e => by have := Option.some.inj e; omega)).alloc _)
                have HW2 := Lib.hid hW2
                clear hr2 hn2 hg2 hW2
                have hlt2 := lless_left HH.out hd2 (by omega) hle2
                obtain ⟨hlt3, hm3, hd4⟩ := drop_lt hd2
                have HT2 := Lib.hid (iTake_is hs hlt3 hm3 hrW2 (al := ⟨#[93]⟩) (by rw [square_has, hm3]; rfl))
                have HD4 := Lib.hid hd4
                clear hd2 hrW2 hm3 hd4
                go_wp2_with fail
                rw [HW2.out]
                refine HT2.out.mono ?_
                rintro e w3 ⟨rfl, hr3, hg3⟩
                have HI2 := Lib.hid (lreads_none HIH.out (w := w3.drew) hr3 (by omega) (by omega) (by rw [HD4.out]; exact HH2.out))
                have HG3 := Lib.hid (HG2.out.trans hg3)
                have hx6 := (HX6.out.kept hg3 (fun e => by have := Option.some.inj e; omega)).cell
                clear hr3 hg3
                go_upto_region 8 with fail
                have hx6d : w3.drew.cell? ⟨w2.heap.size, 0, none⟩ = some (.func (.func g2) #[] cap2) := hx6
                refine wp_region_held_drew (S := fun W => W = w3.drew) (by kernel_rfl) rfl (fun _ => ?_)
                refine wpAnyH_take (i := 0) (v := .agg #[.func (.func g2) #[] cap2]) rfl (by kernel_rfl) (by kernel_rfl) (by kernel_rfl) (fun _ _ _ h => h) (Or.inl ⟨by rfl, fun w hw => by subst hw; simp [go_sem, hx6d]⟩) rfl ?_
                simp only [List.getElem_toArray, List.getElem_cons_zero, Act.put, List.setIfInBounds_toArray, List.set_cons_zero, List.set_cons_succ]
                refine wpAnyH_take (i := 1) (v := .pointer (some ⟨R, 0, none⟩)) rfl (by kernel_rfl) (by kernel_rfl) (by kernel_rfl) (fun _ _ _ h => h) (Or.inl ⟨by rfl, fun w _ => by rfl⟩) rfl ?_
                simp only [List.getElem_toArray, List.getElem_cons_succ, List.getElem_cons_zero, Act.put, List.setIfInBounds_toArray, List.set_cons_zero, List.set_cons_succ]
                refine wpAnyH_take (i := 2) (v := .int .i64 t) rfl (by kernel_rfl) (by kernel_rfl) (by kernel_rfl) (fun _ _ _ h => h) (Or.inl ⟨by rfl, fun w _ => by rfl⟩) rfl ?_
                simp only [List.getElem_toArray, List.getElem_cons_succ, List.getElem_cons_zero, Act.put, List.setIfInBounds_toArray, List.set_cons_zero, List.set_cons_succ]
                refine wpAnyH_ready (rs := [3]) (by kernel_rfl) (by simp) ?_
                refine AllReadyH.cons rfl (fun K hK => ?_) AllReadyH.nil
                go_simp
                go_at_call 54
                refine HI2.out.mono ?_
                rintro e w4 ⟨v, rfl, hg4⟩
                exact ⟨rfl, v, rfl, HG3.out.trans ((grown_drewN (World.grownBy.refl w3 (some R)) 1).trans hg4)⟩
              · rw [show preD t k ((bytesN s).drop (at_ + 1)) = some (.pre x y, r) by unfold preD; rw [h1]; simp only [if_true]; rw [h2]; rfl]
                show Calls _ _ _ _ (LReadSome t R s st _ r w)
                have HH := Lib.hid h1
                have HH2 := Lib.hid h2
                clear hr hrW hb ih hd h1 h2
                go_enter Try.func54, Try.ntmps54
                go_wp2_with fail
                rw [HW.out]
                refine HT.out.mono ?_
                rintro e w1 ⟨rfl, hr1, hg⟩
                have hs1 : W.heap.size ≤ w1.heap.size := hg.size
                have HI := Lib.hid (lreads_some HIH.out hr1 (by omega) (by omega) HH.out)
                have HG := Lib.hid (HGW.out.trans hg)
                replace HX := Lib.hid (HX.out.kept hg (fun e => by have := Option.some.inj e; omega))
                clear hr1 hg
                go_wp2_with fail
                refine HI.out.mono ?_
                rintro e w2 ⟨v2, a2, rfl, hle2, hd2, hr2, hn2, hg2⟩
                obtain ⟨g2, cap2, rfl⟩ := hn2.form
                have hs2 : w1.heap.size ≤ w2.heap.size := hg2.size
                obtain ⟨W2, hW2⟩ : ∃ W, w2.alloc (.cells #[.func (.func g2) #[] cap2] 43) = W := ⟨_, rfl⟩
                have hrW2 : RdrAt W2 R s a2 st := by rw [← hW2]; exact rdr_alloc hr2 _
                have HG2 : Hid (w.grownBy W2 (some R)) := by rw [← hW2]; exact grown_alloc (HG.out.trans hg2) _
                have HX6 : Hid (Boxed W2 w2.heap.size 43 (.func (.func g2) #[] cap2)) := by rw [← hW2]; exact Boxed.new w2 _ _
                have hs3 : W2.heap.size = w2.heap.size + 1 := by rw [← hW2, World.size_alloc]
                have HN : Hid (LdAt t W2 W.heap.size x (.func (.func g2) #[] cap2)) := by rw [← hW2]; exact (LdAt.low hs1 hn2).below ((Below.refl _ _).alloc (Nat.le_refl _) _)
                replace HX := Lib.hid (show Boxed W2 _ _ _ by rw [← hW2]; exact (HX.out.kept hg2 (fun e => by have := Option.some.inj e; omega)).alloc _)
                have HW2 := Lib.hid hW2
                clear hr2 hn2 hg2 hW2
                have hlt2 := lless_left HH.out hd2 (by omega) hle2
                obtain ⟨hlt3, hm3, hd4⟩ := drop_lt hd2
                have HT2 := Lib.hid (iTake_is hs hlt3 hm3 hrW2 (al := ⟨#[93]⟩) (by rw [square_has, hm3]; rfl))
                have HD4 := Lib.hid hd4
                clear hd2 hrW2 hm3 hd4
                go_wp2_with fail
                rw [HW2.out]
                refine HT2.out.mono ?_
                rintro e w3 ⟨rfl, hr3, hg3⟩
                have hs4 : W2.heap.size ≤ w3.heap.size := hg3.size
                have HI2 := Lib.hid (lreads_some HIH.out (w := w3.drew) hr3 (by omega) (by omega) (by rw [HD4.out]; exact HH2.out))
                have HG3 := Lib.hid (HG2.out.trans hg3)
                have hx6 := (HX6.out.kept hg3 (fun e => by have := Option.some.inj e; omega)).cell
                replace HN := Lib.hid (HN.out.grown hg3 (by omega))
                replace HX := Lib.hid (HX.out.kept hg3 (fun e => by have := Option.some.inj e; omega))
                replace HX6 := Lib.hid (HX6.out.kept hg3 (fun e => by have := Option.some.inj e; omega))
                clear hr3 hg3
                go_upto_region 8 with fail
                go_region_with (first
                  | (go_at_call 54; refine HI2.out.mono ?_; clear HI2; rintro e w4 ⟨v4, a4, rfl, hle4, hd4, hr4, hn4, hg4⟩; obtain ⟨g4, cap4, rfl⟩ := hn4.form; have hs5 : w3.heap.size ≤ w4.heap.size := hg4.size; have hg4 := (grown_drewN (World.grownBy.refl w3 (some R)) 1).trans hg4; have HMK := Lib.hid (iMkPre t x y _ _ W.heap.size w4 (by omega) (HN.out.grown hg4 (by omega)) (LdAt.low (show W.heap.size ≤ w3.heap.size by omega) hn4)); have HG4 := Lib.hid (HG3.out.trans hg4); have HX4 := Lib.hid (HX.out.kept hg4 (fun e => by have := Option.some.inj e; omega)); have hx64 := (HX6.out.kept hg4 (fun e => by have := Option.some.inj e; omega)).cell; have HR4 := Lib.hid hr4; have HD5 := Lib.hid hd4; clear hr4 hd4 hn4 hg4)
                  | (go_at_call 62; refine HMK.out.mono ?_; clear HMK; rintro e w5 ⟨v5, rfl, hn5, hb5⟩; obtain ⟨g5, cap5, rfl⟩ := hn5.form; have hx4 := (Boxed.cell (show Boxed w5 _ _ _ from (hb5.block _ HX4.out.lt).trans HX4.out)); have hf4 := (Boxed.frozen (show Boxed w5 _ _ _ from (hb5.block _ HX4.out.lt).trans HX4.out)); have HR5 : Hid (RdrAt w5 R s a4 st) := (hb5.block _ (rdr_lt HR4.out)).trans HR4.out; have HG5 := Lib.hid (grown_below HG4.out hb5); have HX := Lib.hid (show Boxed w5 _ _ _ from (hb5.block _ HX4.out.lt).trans HX4.out); have HN5 := Lib.hid hn5; clear hn5 hb5))
                all_goals
                  go_wp2_with fail
                  have hc := (HX.out.set (.func (.func g5) #[] cap5)).cell
                  have HE := Lib.hid (lread_end (B := w.heap.size) (Nat.le_refl _) hR hle4 HD5.out HR5.out (by rw [← hsz]; exact HN5.out) HG5.out)
                  exact ⟨rfl, .agg #[.func (.func g5) #[] cap5], by simp [results, Try.results54, go_sem, hc], HE.out⟩
            · rw [show preD t k ((bytesN s).drop (at_ + 1)) = none by unfold preD; rw [h1]; simp only; rw [if_neg hm]]
              show Calls _ _ _ _ (Panics R w)
              have HH := Lib.hid h1
              have HM := Lib.hid hm
              clear hr hrW hb ih hd h1 hm
              go_enter Try.func54, Try.ntmps54
              go_wp2_with fail
              rw [HW.out]
              refine HT.out.mono ?_
              rintro e w1 ⟨rfl, hr1, hg⟩
              have hs1 : W.heap.size ≤ w1.heap.size := hg.size
              have HI := Lib.hid (lreads_some HIH.out hr1 (by omega) (by omega) HH.out)
              have HG := Lib.hid (HGW.out.trans hg)
              replace HX := Lib.hid (HX.out.kept hg (fun e => by have := Option.some.inj e; omega))
              clear hr1 hg
              go_wp2_with fail
              refine HI.out.mono ?_
              rintro e w2 ⟨v2, a2, rfl, hle2, hd2, hr2, hn2, hg2⟩
              obtain ⟨g2, cap2, rfl⟩ := hn2.form
              have hs2 : w1.heap.size ≤ w2.heap.size := hg2.size
              obtain ⟨W2, hW2⟩ : ∃ W, w2.alloc (.cells #[.func (.func g2) #[] cap2] 43) = W := ⟨_, rfl⟩
              have hrW2 : RdrAt W2 R s a2 st := by rw [← hW2]; exact rdr_alloc hr2 _
              have HG2 : Hid (w.grownBy W2 (some R)) := by rw [← hW2]; exact grown_alloc (HG.out.trans hg2) _
              have HX6 : Hid (Boxed W2 w2.heap.size 43 (.func (.func g2) #[] cap2)) := by rw [← hW2]; exact Boxed.new w2 _ _
              have hs3 : W2.heap.size = w2.heap.size + 1 := by rw [← hW2, World.size_alloc]
              have HN : Hid (LdAt t W2 W.heap.size x (.func (.func g2) #[] cap2)) := by rw [← hW2]; exact (LdAt.low hs1 hn2).below ((Below.refl _ _).alloc (Nat.le_refl _) _)
              replace HX := Lib.hid (show Boxed W2 _ _ _ by rw [← hW2]; exact (HX.out.kept hg2 (fun e => by have := Option.some.inj e; omega)).alloc _)
              have HW2 := Lib.hid hW2
              clear hr2 hn2 hg2 hW2
              obtain ⟨hlt3, hm3, _⟩ := drop_lt hd2
              have HT2 := Lib.hid (iTake_bad R s st ⟨#[93]⟩ a2 W2 hs hlt3 hrW2 (by rw [square_has, hm3]; exact decide_eq_false HM.out))
              clear hd2 hrW2 hm3
              go_wp2_with fail
              rw [HW2.out]
              refine HT2.out.mono ?_
              rintro e w3 ⟨v, rfl, hg3⟩
              exact ⟨rfl, v, rfl, HG2.out.trans hg3⟩
        by_cases e40 : c = 40
        · subst e40
          rw [readD_pair40]
          rcases h1 : pairD t k ((bytesN s).drop (at_ + 1)) with _ | ⟨x, rest⟩
          · show Calls _ _ _ _ (Panics R w)
            have HH := Lib.hid h1
            clear hr hrW hb ih hd h1
            go_enter Try.func54, Try.ntmps54
            go_wp2_with fail
            rw [HW.out]
            refine HT.out.mono ?_
            rintro e w1 ⟨rfl, hr1, hg⟩
            have hs1 : W.heap.size ≤ w1.heap.size := hg.size
            have hp := iLPair t k R s st hs HIH.out (at_ + 1) w1 hr1 (by omega) (by omega)
            rw [HH.out] at hp
            have HI : Hid (Calls Try.prog 63 #[.pointer (some ⟨R, 0, none⟩), .int .i64 t] w1 (Panics R w1)) := hp
            have HG := Lib.hid (HGW.out.trans hg)
            clear hr1 hg hp
            go_wp2_with fail
            refine HI.out.mono ?_
            rintro e w2 ⟨v, rfl, hg2⟩
            exact ⟨rfl, v, rfl, HG.out.trans hg2⟩
          · show Calls _ _ _ _ (LReadSome t R s st x rest w)
            have HH := Lib.hid h1
            clear hr hrW hb ih hd h1
            go_enter Try.func54, Try.ntmps54
            go_wp2_with fail
            rw [HW.out]
            refine HT.out.mono ?_
            rintro e w1 ⟨rfl, hr1, hg⟩
            have hs1 : W.heap.size ≤ w1.heap.size := hg.size
            have hp := iLPair t k R s st hs HIH.out (at_ + 1) w1 hr1 (by omega) (by omega)
            rw [HH.out] at hp
            have HI : Hid (Calls Try.prog 63 #[.pointer (some ⟨R, 0, none⟩), .int .i64 t] w1 (LReadSome t R s st x rest w1)) := hp
            have HG := Lib.hid (HGW.out.trans hg)
            replace HX := Lib.hid (HX.out.kept hg (fun e => by have := Option.some.inj e; omega))
            clear hr1 hg hp
            go_wp2_with fail
            refine HI.out.mono ?_
            rintro e w5 ⟨v5, a2, rfl, hle2, hd2, hr2, hn2, hg2⟩
            obtain ⟨g5, cap5, rfl⟩ := hn2.form
            have HN5 := Lib.hid (LdAt.low hs1 hn2)
            have HG5 := Lib.hid (HG.out.trans hg2)
            replace HX := Lib.hid (HX.out.kept hg2 (fun e => by have := Option.some.inj e; omega))
            have HR5 := Lib.hid hr2
            have HD2 := Lib.hid hd2
            have hx4 := HX.out.cell
            have hf4 := HX.out.frozen
            clear hd2 hr2 hn2 hg2
            go_wp2_with fail
            have hc := (HX.out.set (.func (.func g5) #[] cap5)).cell
            have HE := Lib.hid (lread_end (B := w.heap.size) (Nat.le_refl _) hR hle2 HD2.out HR5.out (by rw [← hsz]; exact HN5.out) HG5.out)
            exact ⟨rfl, .agg #[.func (.func g5) #[] cap5], by simp [results, Try.results54, go_sem, hc], HE.out⟩
        · obtain ⟨x, hx1, hiw, hx2⟩ := wordD_of ht1 ht3 hb e33 e91 e40
          rw [hx1]
          show Calls _ _ _ _ (LReadSome t R s st x _ w)
          have h33 : ((c : Int) == 33) = false := by rw [beq_eq_false_iff_ne]; omega
          have h91 : ((c : Int) == 91) = false := by rw [beq_eq_false_iff_ne]; omega
          have h40 : ((c : Int) == 40) = false := by rw [beq_eq_false_iff_ne]; omega
          have hnw := worlds_n ht1 ht3
          have HCW : Hid (∀ w, Calls Try.prog 49 #[.int .i64 t, .int .u8 c] w fun e w' => e = .returned (.int .i64 (wordTo c (nWorlds t))) ∧ w = w') := fun w => iWorldsOfWord t (nWorlds t) hnw.1 hnw.2 c w hiw
          have HCM : Hid (∀ w : World, W.heap.size ≤ w.heap.size → Calls Try.prog 64 #[.int .i64 (wordTo c (nWorlds t))] w (MkPost t W.heap.size x w)) := fun w hw => iMkWord t x _ W.heap.size w hw hx2
          obtain ⟨so, HSO⟩ : ∃ so : Nat, Hid (wordTo c (nWorlds t) = so) := ⟨_, rfl⟩
          rw [HSO.out] at HCW HCM
          clear hr hrW hb ih hd hx1 hx2 e33 e91 e40 hiw hnw HSO
          go_enter Try.func54, Try.ntmps54
          go_wp2_with fail
          rw [HW.out]
          refine HT.out.mono ?_
          rintro e w1 ⟨rfl, hr1, hg⟩
          have hs1 : W.heap.size ≤ w1.heap.size := hg.size
          have HG := Lib.hid (HGW.out.trans hg)
          have HR1 := Lib.hid hr1
          replace HX := Lib.hid (HX.out.kept hg (fun e => by have := Option.some.inj e; omega))
          have HMK := Lib.hid (HCM.out w1 hs1)
          clear hr1 hg HCM
          go_wp2_with (first
            | (go_at_call 49; refine (HCW.out _).mono ?_; rintro e w' ⟨rfl, rfl⟩)
            | (go_at_call 64; refine HMK.out.mono ?_; clear HMK; rintro e w5 ⟨v5, rfl, hn5, hb5⟩; obtain ⟨g5, cap5, rfl⟩ := hn5.form; have hx4 := (Boxed.cell (show Boxed w5 _ _ _ from (hb5.block _ HX.out.lt).trans HX.out)); have hf4 := (Boxed.frozen (show Boxed w5 _ _ _ from (hb5.block _ HX.out.lt).trans HX.out)); have HR5 : Hid (RdrAt w5 R s (at_ + 1) st) := (hb5.block _ (rdr_lt HR1.out)).trans HR1.out; have HG5 := Lib.hid (grown_below HG.out hb5); have HX := Lib.hid (show Boxed w5 _ _ _ from (hb5.block _ HX.out.lt).trans HX.out); have HN5 := Lib.hid hn5; clear hn5 hb5))
          have hc := (HX.out.set (.func (.func g5) #[] cap5)).cell
          have HE := Lib.hid (lread_end (B := w.heap.size) (Nat.le_refl _) hR (by omega) rfl HR5.out (by rw [← hsz]; exact HN5.out) HG5.out)
          exact ⟨rfl, .agg #[.func (.func g5) #[] cap5], by simp [results, Try.results54, go_sem, hc], HE.out⟩
    · obtain rfl : at_ = s.size := by omega
      have HT := Lib.hid (iTake_end R s st st W hs hrW)
      rw [List.drop_eq_nil_of_le (by rw [bytesN_len]; omega), readD_empty]
      show Calls _ _ _ _ (Panics R w)
      clear hr hrW ih
      go_enter Try.func54, Try.ntmps54
      go_wp2_with fail
      rw [HW.out]
      refine HT.out.mono ?_
      rintro e w1 ⟨v, rfl, hg⟩
      exact ⟨rfl, v, rfl, HGW.out.trans hg⟩
end Go.Proofs.Ytjilcnehndmoaaa
