/-
  What the proofs of this seat's statements share (CntJ, CntK, AskU).
-/
import Derived.Laws.BytesArg
import Derived.RangeFuncBox
import Derived.Test.YtpjpbemgjniljaaU16
import Derived.Test.YtpjpbemgjniljaaU15
import Derived.Test.YtpjpbemgjniljaaU7
import Derived.Test.YtpjpbemgjniljaaU14

namespace Go.Proofs.Ytpjpbemgjniljaa
open Go.RowKit Go.Maps

section
variable {asks issue : List Int} {A B : Option Addr} {na ca nb cb bI bR bA bF bM base : Nat} {w0 : World}
set_option maxRecDepth 100000 in
set_option maxHeartbeats 8000000 in
theorem iCounting (ids : CntIds asks issue bI bR bA bF bM base A B) (hna : na = asks.length) (hl5 : asks.length ≤ 5) (hnb : nb = issue.length) (hnb2 : nb ≤ 1048576) (hr : ∀ q ∈ asks, 0 ≤ q ∧ q < 256) (hi : ∀ x ∈ issue, 0 ≤ x ∧ x < 256)
    (hbase : ∀ W, Below base w0 W → base ≤ W.heap.size) {s : Int} (hs0 : 0 ≤ s) (hs : s < 256)
    (ih : ∀ x, 0 ≤ x → x < s → NeedAt (Cnt (needs asks issue) asks issue A B na ca nb cb bI bR bA bF bM base w0) (needs asks issue) (.pointer (some ⟨bI, 0, none⟩)) (.pointer (some ⟨bR, 0, none⟩)) (.pointer (some ⟨bA, 0, none⟩)) (.pointer (some ⟨bF, 0, none⟩)) x) :
    NeedAt (Cnt (needs asks issue) asks issue A B na ca nb cb bI bR bA bF bM base w0) (needs asks issue) (.pointer (some ⟨bI, 0, none⟩)) (.pointer (some ⟨bR, 0, none⟩)) (.pointer (some ⟨bA, 0, none⟩)) (.pointer (some ⟨bF, 0, none⟩)) s := by
  intro w hc
  have HC := Lib.hid hc
  have HIDS := Lib.hid ids
  have hc1 := hc.xI.cell
  have hc2 := hc.xR.cell
  have hc3 := hc.xA.cell
  have hc4 := hc.xF.cell
  have HI := Lib.hid hi
  have HNB := Lib.hid hnb
  obtain ⟨res, HRES⟩ : ∃ r, Hid (needs asks issue s = r) := ⟨_, rfl⟩
  rw [HRES.out]
  rcases hw : anyWithin s issue with _ | _
  · have HW := Lib.hid hw
    obtain ⟨D, hmp, hrem⟩ := hc.mp
    have HMP := Lib.hid hmp
    have HREM := Lib.hid hrem
    rcases hh : Maps.has D (.int .i64 s) with _ | _
    · have HB := Lib.hid (iBest (P := Cnt (needs asks issue) asks issue A B na ca nb cb bI bR bA bF bM base w0) (f := needs asks issue) (ca := ca) hc (fun x hx => needs_range asks issue hx) (fun W h => h.ra) hna hl5 hr hs0 hs ih)
      have HL : Hid (∀ b l, BestOf (worthI (needs asks issue) s) asks asks.length b l → l = res) := fun b l h => by
        rw [h.least, ← HRES.out, needs_eq hl5 hs0, if_neg (by rw [HW.out]; decide)]
      have hrg := needs_range asks issue hs0
      rw [HRES.out] at hrg
      have HBS := Lib.hid hbase
      clear hmp hrem hc hi hr ih hw hbase hna hnb ids
      go_enter Try.func49, Try.ntmps49
      go_wp2_with fail
      refine (iWithinAny_is HW _ _ _ _ HNB.out hs0 hs HI.out hnb2 HC.out.rb).mono ?_
      rintro e w' ⟨rfl, rfl⟩
      go_wp2_with (at_lookup; refine wpList_lookup_own_ok_int _ rfl _ _ 68 rfl 3 3 .i64 num_keyed Try.underlying68 Try.underlying3 (num_zero _) bM (Maps.size D) D rfl HMP.out _ _ rfl (num_key hs0 hs) ?_; intro cv hcv hwf; rw [hh]; clear hcv hwf)
      refine HB.out.mono ?_
      rintro e w2 ⟨b, l, rfl, hb, hc2⟩
      obtain rfl := HL.out b l hb
      have HC2 := Lib.hid hc2
      have hx2 := hc2.xR.cell
      obtain ⟨D2, hmp2, hrem2⟩ := hc2.mp
      have HMP2 := Lib.hid hmp2
      have HREM2 := Lib.hid hrem2
      have hsz : Maps.size D2 < maxLen := by have := cntM_le D2; rw [hrem2.1]; unfold maxLen; omega
      have HSZ := Lib.hid hsz
      clear hb hc2 hmp2 hrem2 hsz
      go_wp2_with (at_mapUpdate; refine wpList_mapUpdate_own _ rfl _ _ _ 68 rfl 3 3 num_keyed Try.underlying68 (plainElem Try.prog 3) bM (Maps.size D2) D2 rfl HMP2.out HSZ.out _ _ _ rfl rfl (num_key hs0 hs) (.lit (.int .i64 _)) [] (plainElem_int Try.underlying3 (wf_256 (by omega) (by omega))) ?_; intro w3 hown3 hgrow3)
      go_ret
      refine ⟨rfl, Cnt.put HIDS.out HC2.out hgrow3 ?_ hown3 (HBS.out _ HC2.out.hb)⟩
      have hrp := HREM2.out.put (HMP2.out.tidy num_keyed) hs0 hs
      rw [HRES.out] at hrp
      exact hrp
    · have HL : Hid (∀ c, D.atKey (.int .i64 s) (.lit (.int .i64 0)) = .lit (.int .i64 c) → c = res) := fun c h => by
        rw [← HRES.out]
        exact HREM.out.look hs0 hs hh h
      clear hmp hrem hc hi hr ih hw hbase hna hnb ids
      go_enter Try.func49, Try.ntmps49
      go_wp2_with fail
      refine (iWithinAny_is HW _ _ _ _ HNB.out hs0 hs HI.out hnb2 HC.out.rb).mono ?_
      rintro e w' ⟨rfl, rfl⟩
      go_wp2_with (at_lookup; refine wpList_lookup_own_ok_int _ rfl _ _ 68 rfl 3 3 .i64 num_keyed Try.underlying68 Try.underlying3 (num_zero _) bM (Maps.size D) D rfl HMP.out _ _ rfl (num_key hs0 hs) ?_; intro cv hcv hwf; rw [hh]; have HCV := Lib.hid (HL.out cv hcv); clear hcv hwf)
      go_ret
      exact ⟨ret_int HCV.out, HC.out⟩
  · have HW := Lib.hid hw
    have HZ : Hid (0 = res) := by
      unfold Hid
      rw [← HRES.out]
      exact ((need_none (asks := asks) (issue := issue) (l := 5) hs0).2 hw).symm
    clear hc hi hr ih hw hbase hna hnb ids
    go_enter Try.func49, Try.ntmps49
    go_wp2_with fail
    refine (iWithinAny_is HW _ _ _ _ HNB.out hs0 hs HI.out hnb2 HC.out.rb).mono ?_
    rintro e w' ⟨rfl, rfl⟩
    go_wp2_with fail
    go_ret
    exact ⟨ret_int HZ.out, HC.out⟩
theorem iNeedAt (ids : CntIds asks issue bI bR bA bF bM base A B) (hna : na = asks.length) (hl5 : asks.length ≤ 5) (hnb : nb = issue.length) (hnb2 : nb ≤ 1048576) (hr : ∀ q ∈ asks, 0 ≤ q ∧ q < 256) (hi : ∀ x ∈ issue, 0 ≤ x ∧ x < 256)
    (hbase : ∀ W, Below base w0 W → base ≤ W.heap.size) : ∀ (n : Nat) (s : Int), 0 ≤ s → s < 256 → s < n → NeedAt (Cnt (needs asks issue) asks issue A B na ca nb cb bI bR bA bF bM base w0) (needs asks issue) (.pointer (some ⟨bI, 0, none⟩)) (.pointer (some ⟨bR, 0, none⟩)) (.pointer (some ⟨bA, 0, none⟩)) (.pointer (some ⟨bF, 0, none⟩)) s := by
  intro n
  induction n with
  | zero => intro s h0 _ h; omega
  | succ n ihn =>
    intro s h0 h1 h2
    exact iCounting ids hna hl5 hnb hnb2 hr hi hbase h0 h1 (fun x hx hlt => ihn x hx (by omega) (by omega))
end
end Go.Proofs.Ytpjpbemgjniljaa

namespace Go.Proofs.Ytpjpbemgjniljaa
open Go.RowKit Go.Maps

set_option maxRecDepth 100000 in
set_option maxHeartbeats 4000000 in
theorem iAskingOk (t : Int) (A B : Option Addr) (na ca nb cb : Nat) (asks issue : List Int) (s : Int) (w : World) (ha : Row w A na ca asks) (hb : Row w B nb cb issue) :
    Calls Try.prog 27 #[.int .i64 t, .slice A na ca, .slice B nb cb, .int .i64 s] w fun e w' => e = .returned (.bool (ok7 t asks issue s)) ∧ ∃ n, w' = w.drewN n := by
  have HA := Lib.hid ha
  have HB := Lib.hid hb
  obtain rfl := ha.hn
  have hla := ha.hl
  clear ha hb
  obtain ⟨res, HRES⟩ : ∃ r, Hid (ok7 t asks issue s = r) := ⟨_, rfl⟩
  rw [HRES.out]
  have HNO : Hid (∀ x, x ∈ asks → Hid (setOkB t x = false) → Hid (res = false)) := fun x hx h => by
    unfold Hid
    rw [← HRES.out]
    unfold ok7
    have : asks.all (setOkB t) = false := by
      rw [List.all_eq_false]
      exact ⟨x, hx, by rw [h.out]; simp⟩
    rw [this]; rfl
  have HEND : Hid (asks.all (setOkB t) = true → asks.length ≤ 5 → Hid (res = (issueOkB t issue && setOkB t s))) := fun h h5 => by
    unfold Hid
    rw [← HRES.out]
    unfold ok7
    rw [h, Bool.true_and, decide_eq_true h5, Bool.true_and]
  by_cases h5 : asks.length ≤ 5
  · have hd5 : decide ((5 : Int) < (asks.length : Int)) = false := decide_eq_false (by omega)
    go_enter Try.func27, Try.ntmps27
    go_wp2_with fail
    go_loopw [16] (fun i wr => ∃ k : Nat, k ≤ asks.length ∧ i = .int .i64 k ∧ Hid ((asks.take k).all (setOkB t) = true) ∧ ∃ q, wr = w.drewN q) (fun i _ => asks.length - (Go.RowKit.intOf i).toNat)
    case atStart => exact ⟨0, Nat.zero_le _, rfl, rfl, 0, rfl⟩
    case round =>
      obtain ⟨k, hk, rfl, hall, q0, rfl⟩ := hrel
      by_cases hlt : k < asks.length
      · obtain ⟨b, off, x, rfl, hcell, hx, _⟩ := HA.out.hA.elem hlt
        have hn := all_next (t := t) hx
        rw [hall.out, Bool.true_and] at hn
        obtain ⟨y, HY⟩ : ∃ y, Hid (setOkB t x = y) := ⟨_, rfl⟩
        rw [HY.out] at hn
        cases y
        · have HR := HNO.out x (elem_mem hx) HY
          clear hn
          go_wp2_with fail
          refine (iSetOk_is HY _).mono ?_
          rintro e w' ⟨rfl, rfl⟩
          go_wp2_with fail
          go_ret
          exact ⟨ret_bool HR.out.symm, _, by first | rfl | rw [World.drewN_drewN]⟩
        · have HN := Lib.hid hn
          clear hn
          go_wp2_with fail
          refine (iSetOk_is HY _).mono ?_
          rintro e w' ⟨rfl, rfl⟩
          go_wp2_with fail
          go_roundw
          case rel => exact ⟨k + 1, by omega, by go_num, HN, _, rfl⟩
          case measure => simp [Go.RowKit.intOf]; omega
      · obtain rfl : k = asks.length := by omega
        have HE := HEND.out (by have h := hall.out; rw [List.take_length] at h; exact h) h5
        obtain ⟨b, HIB⟩ : ∃ b, Hid (issueOkB t issue = b) := ⟨_, rfl⟩
        obtain ⟨d, HID⟩ : ∃ d, Hid (setOkB t s = d) := ⟨_, rfl⟩
        have he := HE.out
        rw [HIB.out, HID.out] at he
        cases b
        · have HF : Hid (res = false) := he
          clear he
          go_wp2_with fail
          refine (iIssueOk_is HIB _ _ _ _ HB.out.hn HB.out.hl HB.out.hc HB.out.hm (HB.out.hA.drewN _)).mono ?_
          rintro e w' ⟨rfl, q, rfl⟩
          go_wp2_with fail
          go_ret
          exact ⟨ret_bool HF.out.symm, _, by first | rfl | rw [World.drewN_drewN]⟩
        · have HF : Hid (res = d) := by rw [Bool.true_and] at he; exact he
          clear he
          go_wp2_with fail
          refine (iIssueOk_is HIB _ _ _ _ HB.out.hn HB.out.hl HB.out.hc HB.out.hm (HB.out.hA.drewN _)).mono ?_
          rintro e w' ⟨rfl, q, rfl⟩
          go_wp2_with fail
          refine (iSetOk_is HID _).mono ?_
          rintro e w' ⟨rfl, rfl⟩
          go_wp2_with fail
          go_ret
          exact ⟨ret_bool HF.out.symm, _, by first | rfl | rw [World.drewN_drewN]⟩
  · have hd5 : decide ((5 : Int) < (asks.length : Int)) = true := decide_eq_true (by omega)
    have HF : Hid (res = false) := by
      unfold Hid
      rw [← HRES.out]
      unfold ok7
      rw [decide_eq_false h5, Bool.and_false]; rfl
    go_enter Try.func27, Try.ntmps27
    go_wp2_with fail
    go_ret
    exact ⟨ret_bool HF.out.symm, 0, rfl⟩
theorem iAskingOk_is {t : Int} {asks issue : List Int} {s : Int} {b : Bool} (h : Hid (ok7 t asks issue s = b)) {A B : Option Addr} {na ca nb cb : Nat} {w : World} (ha : Row w A na ca asks) (hb : Row w B nb cb issue) :
    Calls Try.prog 27 #[.int .i64 t, .slice A na ca, .slice B nb cb, .int .i64 s] w fun e w' => e = .returned (.bool b) ∧ ∃ n, w' = w.drewN n := by
  have := iAskingOk t A B na ca nb cb asks issue s w ha hb
  rw [h.out] at this; exact this

/-- The function that counts has been made. -/
def CntPost (asks issue : List Int) (A B : Option Addr) (na ca nb cb : Nat) (w : World) (e : Ending) (w' : World) : Prop :=
  ∃ bI bR bA bF bM : Nat, e = .returned (cntFn bI bR bA bF) ∧ CntIds asks issue bI bR bA bF bM w.heap.size A B ∧ Cnt (needs asks issue) asks issue A B na ca nb cb bI bR bA bF bM w.heap.size w w'
set_option maxRecDepth 100000 in
set_option maxHeartbeats 4000000 in
theorem iMakeCount (A B : Option Addr) (na ca nb cb : Nat) (asks issue : List Int) (w : World) (ha : Nums .i64 w A asks) (hb : Nums .i64 w B issue) (hoa : asks.length = 0 ∨ ∀ ad, A = some ad → ad.block < w.heap.size) (hob : issue.length = 0 ∨ ∀ ad, B = some ad → ad.block < w.heap.size) :
    Calls Try.prog 28 #[.slice A na ca, .slice B nb cb] w (CntPost asks issue A B na ca nb cb w) := by
  have HA := Lib.hid ha
  have HB := Lib.hid hb
  have HOA := Lib.hid hoa
  have HOB := Lib.hid hob
  clear ha hb hoa hob
  have hmf : ∀ (fn : Fn) (first cap : Array Value) (w : World), (Instr.makeFunc fn first cap).run Try.prog w = .ok (.func fn first cap) w := fun _ _ _ _ => rfl
  have hmm := @run_makeMap Try.prog
  have hst : ∀ (a : Addr) (fn : Fn) (first cap : Array Value) (m : Mode) (w : World), (store a (.func fn first cap) m).run Try.prog w = stored Try.prog w a (.func fn first cap) m := fun _ _ _ _ _ _ => run_store _ _ _ _ _ rfl
  obtain ⟨W4, hW4⟩ : ∃ W, (((w.alloc (.cells #[.slice A na ca] 23)).alloc (.cells #[.slice B nb cb] 23)).alloc (.map #[] 0)).alloc (.cells #[.map (some (w.heap.size + 1 + 1))] 68) = W := ⟨_, rfl⟩
  have hsz : W4.heap.size = w.heap.size + 1 + 1 + 1 + 1 := by rw [← hW4]; simp
  have xF := Boxed.new W4 40 .nilFunc
  rw [hsz] at xF
  have hcF := xF.cell
  have hfF := xF.frozen
  rw [← hW4] at hcF hfF
  have X4 := Lib.hid hW4
  have XF := Lib.hid xF
  clear hW4 xF
  go_enter Try.func28, Try.ntmps28
  go_wp2_with fail
  go_ret
  have hb1 : Below w.heap.size w (w.alloc (.cells #[.slice A na ca] 23)) := (Below.refl _ w).alloc (Nat.le_refl _) _
  have hb2 := hb1.alloc (o := .cells #[.slice B nb cb] 23) (by simp)
  have hb3 := hb2.alloc (o := .map #[] 0) (by simp; omega)
  have hb4 := hb3.alloc (o := .cells #[.map (some (w.heap.size + 1 + 1))] 68) (by simp; omega)
  have hb5 := hb4.alloc (o := .cells #[cntFn (w.heap.size + 1) (w.heap.size + 1 + 1 + 1) w.heap.size (w.heap.size + 1 + 1 + 1 + 1)] 40) (by simp; omega)
  have x1 := Boxed.new (w.alloc (.cells #[.slice A na ca] 23)) 23 (.slice B nb cb)
  rw [World.size_alloc] at x1
  have m2 := World.ownsMap_made ((w.alloc (.cells #[.slice A na ca] 23)).alloc (.cells #[.slice B nb cb] 23)) Try.prog 3 (plainElem (H := Unit) Try.prog 3)
  simp only [World.size_alloc] at m2
  have x3 := Boxed.new (((w.alloc (.cells #[.slice A na ca] 23)).alloc (.cells #[.slice B nb cb] 23)).alloc (.map #[] 0)) 68 (.map (some (w.heap.size + 1 + 1)))
  simp only [World.size_alloc] at x3
  have x4 := Boxed.new ((((w.alloc (.cells #[.slice A na ca] 23)).alloc (.cells #[.slice B nb cb] 23)).alloc (.map #[] 0)).alloc (.cells #[.map (some (w.heap.size + 1 + 1))] 68)) 40 (cntFn (w.heap.size + 1) (w.heap.size + 1 + 1 + 1) w.heap.size (w.heap.size + 1 + 1 + 1 + 1))
  simp only [World.size_alloc] at x4
  refine ⟨w.heap.size + 1, w.heap.size + 1 + 1 + 1, w.heap.size, w.heap.size + 1 + 1 + 1 + 1, w.heap.size + 1 + 1, rfl, ⟨by omega, by omega, by omega, by omega, by omega, ?_, ?_⟩, ⟨((x1.alloc _).alloc _).alloc _, x3.alloc _, ((((Boxed.new w 23 (.slice A na ca)).alloc _).alloc _).alloc _).alloc _, x4, HA.out.below hb5, HB.out.below hb5, hb5, ⟨.map [], (m2.alloc _).alloc _, Remb.start _⟩⟩⟩
  · exact HOA.out.elim .inl (fun h => .inr fun ad e => by have := h ad e; omega)
  · exact HOB.out.elim .inl (fun h => .inr fun ad e => by have := h ad e; omega)
theorem row_block {w : World} {A : Option Addr} {n c : Nat} {xs : List Int} (h : Row w A n c xs) : xs.length = 0 ∨ ∀ ad, A = some ad → ad.block < w.heap.size := by
  by_cases hz : xs.length = 0
  · exact .inl hz
  · right
    obtain ⟨b, off, x, rfl, hcell, _, _⟩ := h.hA.elem (i := 0) (by omega)
    intro ad e
    cases e
    exact World.block_lt_of_cell? w _ hcell
def AskedPost (v : Int) (w : World) (e : Ending) (w' : World) : Prop := e = .returned (.int .i64 v) ∧ Below w.heap.size w w'
set_option maxRecDepth 100000 in
set_option maxHeartbeats 4000000 in
theorem iAsksNeeded (t : Int) (A B : Option Addr) (na ca nb cb : Nat) (asks issue : List Int) (s : Int) (w : World) (ha : Row w A na ca asks) (hb : Row w B nb cb issue) :
    Calls Try.prog 10 #[.int .i64 t, .slice A na ca, .slice B nb cb, .int .i64 s] w (AskedPost (asksNeededI t asks issue s) w) := by
  have HA := Lib.hid ha
  have HB := Lib.hid hb
  obtain ⟨res, HRES⟩ : ∃ r, Hid (asksNeededI t asks issue s = r) := ⟨_, rfl⟩
  rw [HRES.out]
  obtain ⟨b, HOK⟩ : ∃ b, Hid (ok7 t asks issue s = b) := ⟨_, rfl⟩
  have hres := HRES.out
  unfold asksNeededI at hres
  rw [HOK.out] at hres
  clear ha hb HRES
  cases b
  · have HN : Hid (-1 = res) := hres
    clear hres
    go_enter Try.func10, Try.ntmps10
    go_wp2_with fail
    refine (iAskingOk_is HOK HA.out HB.out).mono ?_
    rintro e w' ⟨rfl, q, rfl⟩
    go_wp2_with fail
    go_ret
    exact ⟨ret_int HN.out, bel_drewN (Below.refl _ _) _⟩
  · obtain ⟨hr, hi, hu0, hu, hl5, _⟩ := ok7_parts HOK.out
    have HN : Hid (needs asks issue s = res) := hres
    have HR := Lib.hid hr
    have HI := Lib.hid hi
    clear hres hr hi
    go_enter Try.func10, Try.ntmps10
    go_wp2_with fail
    refine (iAskingOk_is HOK HA.out HB.out).mono ?_
    rintro e w1 ⟨rfl, q, rfl⟩
    have HM := Lib.hid (iMakeCount A B na ca nb cb asks issue (w.drewN q) (HA.out.hA.drewN q) (HB.out.hA.drewN q) (row_block (HA.out.drewN q)) (row_block (HB.out.drewN q)))
    go_wp2_with fail
    refine HM.out.mono ?_
    rintro e w2 ⟨bI, bR, bA, bF, bM, rfl, hids, hcnt⟩
    have HC := Lib.hid ((iNeedAt hids HA.out.hn hl5 HB.out.hn HB.out.hl HR.out HI.out (fun W h => h.size) 256 s hu0 hu (by omega)).call HN hcnt)
    clear hids hcnt
    go_wp2_with fail
    refine HC.out.mono ?_
    rintro e w3 ⟨rfl, hc3⟩
    have HB3 : Hid (Below w.heap.size w w3) := bel_trans (bel_drewN (Below.refl _ _) q) hc3.hb
    clear hc3
    go_wp2_with fail
    go_ret
    exact ⟨rfl, HB3.out⟩
end Go.Proofs.Ytpjpbemgjniljaa

namespace Go.Proofs.Ytpjpbemgjniljaa
open Go.RowKit

def digitB (k : Nat) : ByteArray := ⟨#[UInt8.ofNat (48 + k)]⟩
/-- A plan's text. -/
def planB : PlanT → ByteArray
  | .dot => ⟨#[46]⟩
  | .ask k y n => (((digitB k ++ ⟨#[40]⟩) ++ planB y) ++ planB n) ++ ⟨#[41]⟩
set_option maxRecDepth 100000 in
set_option maxHeartbeats 4000000 in
theorem sNumber7 {k : Nat} (hk : k ≤ 4) (w : World) : Calls Try.prog 74 #[.int .i64 k] w fun e w' => e = .returned (.string (digitB k)) ∧ Below w.heap.size w w' := by
  have h5 : k = 0 ∨ k = 1 ∨ k = 2 ∨ k = 3 ∨ k = 4 := by omega
  rcases h5 with rfl | rfl | rfl | rfl | rfl
  · have hcv : (convert 22 9 (.slice (some ⟨w.heap.size, 0, none⟩) 1 1)).run Try.prog (w.alloc (.cells #[.int .u8 (48 + 0)] 5)) = .ok (.string (digitB 0)) (w.alloc (.cells #[.int .u8 (48 + 0)] 5)) :=
      run_convert_bytes_arg _ 22 5 Try.underlying22 Try.underlying5 _ 0 1 1 [48 + 0] rfl (fun i hi => by
        obtain rfl : i = 0 := by omega
        exact (Boxed.new w 5 (.int .u8 (48 + 0))).cell) _ Try.underlying9
    simp only [show (48 : Int) + 0 = 48 by omega] at hcv
    go_enter Try.func74, Try.ntmps74
    go_wp2_with fail
    go_ret
    exact ⟨rfl, (Below.refl _ w).alloc (Nat.le_refl _) _⟩
  · have hcv : (convert 22 9 (.slice (some ⟨w.heap.size, 0, none⟩) 1 1)).run Try.prog (w.alloc (.cells #[.int .u8 (48 + 1)] 5)) = .ok (.string (digitB 1)) (w.alloc (.cells #[.int .u8 (48 + 1)] 5)) :=
      run_convert_bytes_arg _ 22 5 Try.underlying22 Try.underlying5 _ 0 1 1 [48 + 1] rfl (fun i hi => by
        obtain rfl : i = 0 := by omega
        exact (Boxed.new w 5 (.int .u8 (48 + 1))).cell) _ Try.underlying9
    simp only [show (48 : Int) + 1 = 49 by omega] at hcv
    go_enter Try.func74, Try.ntmps74
    go_wp2_with fail
    go_ret
    exact ⟨rfl, (Below.refl _ w).alloc (Nat.le_refl _) _⟩
  · have hcv : (convert 22 9 (.slice (some ⟨w.heap.size, 0, none⟩) 1 1)).run Try.prog (w.alloc (.cells #[.int .u8 (48 + 2)] 5)) = .ok (.string (digitB 2)) (w.alloc (.cells #[.int .u8 (48 + 2)] 5)) :=
      run_convert_bytes_arg _ 22 5 Try.underlying22 Try.underlying5 _ 0 1 1 [48 + 2] rfl (fun i hi => by
        obtain rfl : i = 0 := by omega
        exact (Boxed.new w 5 (.int .u8 (48 + 2))).cell) _ Try.underlying9
    simp only [show (48 : Int) + 2 = 50 by omega] at hcv
    go_enter Try.func74, Try.ntmps74
    go_wp2_with fail
    go_ret
    exact ⟨rfl, (Below.refl _ w).alloc (Nat.le_refl _) _⟩
  · have hcv : (convert 22 9 (.slice (some ⟨w.heap.size, 0, none⟩) 1 1)).run Try.prog (w.alloc (.cells #[.int .u8 (48 + 3)] 5)) = .ok (.string (digitB 3)) (w.alloc (.cells #[.int .u8 (48 + 3)] 5)) :=
      run_convert_bytes_arg _ 22 5 Try.underlying22 Try.underlying5 _ 0 1 1 [48 + 3] rfl (fun i hi => by
        obtain rfl : i = 0 := by omega
        exact (Boxed.new w 5 (.int .u8 (48 + 3))).cell) _ Try.underlying9
    simp only [show (48 : Int) + 3 = 51 by omega] at hcv
    go_enter Try.func74, Try.ntmps74
    go_wp2_with fail
    go_ret
    exact ⟨rfl, (Below.refl _ w).alloc (Nat.le_refl _) _⟩
  · have hcv : (convert 22 9 (.slice (some ⟨w.heap.size, 0, none⟩) 1 1)).run Try.prog (w.alloc (.cells #[.int .u8 (48 + 4)] 5)) = .ok (.string (digitB 4)) (w.alloc (.cells #[.int .u8 (48 + 4)] 5)) :=
      run_convert_bytes_arg _ 22 5 Try.underlying22 Try.underlying5 _ 0 1 1 [48 + 4] rfl (fun i hi => by
        obtain rfl : i = 0 := by omega
        exact (Boxed.new w 5 (.int .u8 (48 + 4))).cell) _ Try.underlying9
    simp only [show (48 : Int) + 4 = 52 by omega] at hcv
    go_enter Try.func74, Try.ntmps74
    go_wp2_with fail
    go_ret
    exact ⟨rfl, (Below.refl _ w).alloc (Nat.le_refl _) _⟩

theorem plan_first {asks issue : List Int} {l : Nat} {u : Int} (hn : anyWithin u issue = false) (h0 : 0 ≤ needI asks issue (l + 1) u) :
    ∃ (j : Nat) (hj : j < asks.length), worthI (needI asks issue l) u asks[j] = needI asks issue (l + 1) u ∧ (∀ (i : Nat) (hi : i < j), worthI (needI asks issue l) u (asks[i]'(by omega)) ≠ needI asks issue (l + 1) u) ∧
      planI asks issue (l + 1) u = .ask j (planI asks issue l (andI u asks[j])) (planI asks issue l (u - andI u asks[j])) := by
  have e : needI asks issue (l + 1) u = asks.foldl (leastOf (worthI (needI asks issue l) u)) (-1) := by
    show (if anyWithin u issue = true then 0 else _) = _
    rw [if_neg (by rw [hn]; decide)]
  have hex : ∃ q ∈ asks, needI asks issue (l + 1) u = worthI (needI asks issue l) u q := by
    rcases (least_fold (worthI (needI asks issue l) u) asks (-1)).1 with h1 | ⟨q, hq, h1, _⟩
    · rw [← e] at h1; omega
    · exact ⟨q, hq, by rw [e]; exact h1⟩
  obtain ⟨q0, hq0, hv0⟩ := hex
  cases hf : firstI asks issue l u with
  | none =>
    unfold firstI at hf
    rw [List.findIdx?_eq_none_iff] at hf
    have := hf q0 hq0
    rw [decide_eq_false_iff_not] at this
    exact absurd hv0.symm this
  | some k =>
    have hf2 := hf
    unfold firstI at hf2
    rw [List.findIdx?_eq_some_iff_getElem] at hf2
    obtain ⟨hk, hp, hlow⟩ := hf2
    rw [decide_eq_true_eq] at hp
    have hg : asks.getD k 0 = asks[k] := by rw [List.getD_eq_getElem?_getD, List.getElem?_eq_getElem hk]; rfl
    refine ⟨k, hk, hp, fun i hi => ?_, ?_⟩
    · have := hlow i hi
      rw [Bool.not_eq_true, decide_eq_false_iff_not] at this
      exact this
    · show (if anyWithin u issue = true then PlanT.dot else match firstI asks issue l u with | some k => _ | none => _) = _
      rw [if_neg (by rw [hn]; decide), hf]
      simp only [hg]

theorem planB_size : ∀ p : PlanT, (planB p).size + 3 ≤ 4 * 2 ^ depthP p
  | .dot => by show 1 + 3 ≤ 4 * 2 ^ 0; omega
  | .ask k y n => by
    have h1 := planB_size y
    have h2 := planB_size n
    have e : (planB (.ask k y n)).size = 1 + 1 + (planB y).size + (planB n).size + 1 := by
      show ((((digitB k ++ (⟨#[40]⟩ : ByteArray)) ++ planB y) ++ planB n) ++ (⟨#[41]⟩ : ByteArray)).size = _
      rw [ByteArray.size_append, ByteArray.size_append, ByteArray.size_append, ByteArray.size_append]
      rfl
    have g1 : 2 ^ depthP y ≤ 2 ^ max (depthP y) (depthP n) := Nat.pow_le_pow_right (by omega) (Nat.le_max_left _ _)
    have g2 : 2 ^ depthP n ≤ 2 ^ max (depthP y) (depthP n) := Nat.pow_le_pow_right (by omega) (Nat.le_max_right _ _)
    rw [e]
    unfold depthP
    rw [Nat.pow_succ]
    omega
theorem planI_depth (asks issue : List Int) : ∀ (l : Nat) (u : Int), depthP (planI asks issue l u) ≤ l
  | 0, _ => Nat.le_refl _
  | l + 1, u => by
    unfold planI
    split
    · exact Nat.zero_le _
    · split
      · unfold depthP
        have h1 := fun v => planI_depth asks issue l v
        rename_i k _
        have a := h1 (andI u (asks.getD k 0))
        have b := h1 (u - andI u (asks.getD k 0))
        omega
      · exact Nat.zero_le _
theorem planI_size {asks issue : List Int} {l : Nat} (hl : l ≤ 6) (u : Int) : (planB (planI asks issue l u)).size ≤ 256 := by
  have h1 := planB_size (planI asks issue l u)
  have h2 : 2 ^ depthP (planI asks issue l u) ≤ 2 ^ 6 := Nat.pow_le_pow_right (by omega) (Nat.le_trans (planI_depth asks issue l u) hl)
  omega
def TextPost7 (b : ByteArray) (w : World) (e : Ending) (w' : World) : Prop := e = .returned (.string b) ∧ Below w.heap.size w w'
def Plans7 (asks issue : List Int) (l : Nat) : Prop := ∀ (A B : Option Addr) (na ca nb cb : Nat) (u : Int) (w : World), Row w A na ca asks → Row w B nb cb issue → 0 ≤ u → u < 256 → 0 ≤ needI asks issue l u →
  Calls Try.prog 66 #[.slice A na ca, .slice B nb cb, .int .i64 u, .int .i64 l] w (TextPost7 (planB (planI asks issue l u)) w)
section
variable {asks issue : List Int} {l : Nat} {u : Int} {A B : Option Addr} {na ca nb cb : Nat} {w : World}
set_option maxRecDepth 100000 in
set_option maxHeartbeats 4000000 in
theorem sPlan_settled (hb : Row w B nb cb issue) (hi : ∀ x ∈ issue, 0 ≤ x ∧ x < 256) (hu0 : 0 ≤ u) (hu : u < 256) (h : Hid (anyWithin u issue = true)) :
    Calls Try.prog 66 #[.slice A na ca, .slice B nb cb, .int .i64 u, .int .i64 l] w (TextPost7 (planB .dot) w) := by
  have HB := Lib.hid hb
  have HI := Lib.hid hi
  clear hb hi
  go_enter Try.func66, Try.ntmps66
  go_wp2_with fail
  refine (sL2Settles_is h _ _ _ _ HB.out.hn hu0 hu HI.out HB.out.hl HB.out.hA).mono ?_
  rintro e w' ⟨rfl, q, rfl⟩
  go_wp2_with fail
  go_ret
  exact ⟨rfl, bel_drewN (Below.refl _ _) _⟩
set_option maxRecDepth 100000 in
set_option maxHeartbeats 8000000 in
theorem sPlan_more (hl5 : l ≤ 5) (hla5 : asks.length ≤ 5) (hp : Plans7 asks issue l) (hr : ∀ q ∈ asks, 0 ≤ q ∧ q < 256) (ha : Row w A na ca asks) (hb : Row w B nb cb issue) (hi : ∀ x ∈ issue, 0 ≤ x ∧ x < 256) (hu0 : 0 ≤ u) (hu : u < 256) (h : Hid (anyWithin u issue = false))
    (h0 : 0 ≤ needI asks issue (l + 1) u) :
    Calls Try.prog 66 #[.slice A na ca, .slice B nb cb, .int .i64 u, .int .i64 ((l + 1 : Nat) : Int)] w (TextPost7 (planB (planI asks issue (l + 1) u)) w) := by
  obtain ⟨j, hj, hjw, hjlow, hjp⟩ := plan_first (l := l) h.out h0
  have HA := Lib.hid ha
  have HB := Lib.hid hb
  have HI := Lib.hid hi
  have HS := Lib.hid (sNeed hr hi (l + 1) (by omega))
  have HIH := Lib.hid (sNeed hr hi l (by omega))
  have HPL := Lib.hid hp
  have HRQ := Lib.hid hr
  obtain rfl := ha.hn
  have hla := ha.hl
  have hll : ((l + 1 : Nat) : Int) = (l : Int) + 1 := by omega
  obtain ⟨n, HND⟩ : ∃ n, Hid (needI asks issue (l + 1) u = n) := ⟨_, rfl⟩
  rw [HND.out] at hjw h0
  have HLOW : Hid (∀ (i : Nat) (hi : i < j), worthI (needI asks issue l) u (asks[i]'(by omega)) ≠ n) := fun i hi => by rw [← HND.out]; exact hjlow i hi
  have HNR : Hid (∀ s, 0 ≤ s → -1 ≤ needI asks issue l s ∧ needI asks issue l s ≤ 5) := fun s hs => by have := need_range asks issue l s hs; omega
  have HJW := Lib.hid hjw
  have HNC : Hid (∀ W, Row W A asks.length ca asks → Row W B nb cb issue → Calls Try.prog 30 #[.slice A asks.length ca, .slice B nb cb, .int .i64 u, .int .i64 ((l : Int) + 1)] W fun e w' => e = .returned (.int .i64 n) ∧ ∃ n, w' = W.drewN n) := fun W ra rb => by
    have := needs7_is HS.out HND ra rb hu0 hu
    rw [hll] at this; exact this
  rw [hjp, hll]
  obtain ⟨x0, HX0⟩ : ∃ x, Hid (asks[j]'hj = x) := ⟨asks[j]'hj, rfl⟩
  rw [HX0.out] at hjw HJW ⊢
  obtain ⟨y0, HY0⟩ : ∃ y, Hid (andI u x0 = y) := ⟨andI u x0, rfl⟩
  rw [HY0.out]
  obtain ⟨p1, HP1⟩ : ∃ p, Hid (planI asks issue l y0 = p) := ⟨_, rfl⟩
  obtain ⟨p2, HP2⟩ : ∃ p, Hid (planI asks issue l (u - y0) = p) := ⟨_, rfl⟩
  rw [HP1.out, HP2.out]
  have hz1' : (planB p1).size ≤ 256 := by rw [← HP1.out]; exact planI_size (by omega) _
  have hz2' : (planB p2).size ≤ 256 := by rw [← HP2.out]; exact planI_size (by omega) _
  obtain ⟨hw1, hw2, hw3, hw4, hw5, hw6⟩ := worth_parts hjw h0
  rw [HY0.out] at hw1 hw2 hw3 hw4 hw5 hw6
  obtain ⟨res, HRES⟩ : ∃ r, Hid (planB (.ask j p1 p2) = r) := ⟨_, rfl⟩
  rw [HRES.out]
  have hz3' : (digitB j).size ≤ 1 := Nat.le_refl _
  obtain ⟨b1, HBB1⟩ : ∃ b, Hid (planB p1 = b) := ⟨_, rfl⟩
  obtain ⟨b2, HBB2⟩ : ∃ b, Hid (planB p2 = b) := ⟨_, rfl⟩
  obtain ⟨bd, HBBD⟩ : ∃ b, Hid (digitB j = b) := ⟨_, rfl⟩
  rw [HBB1.out] at hz1'
  rw [HBB2.out] at hz2'
  rw [HBBD.out] at hz3'
  replace HRES : Hid ((((bd ++ ⟨#[40]⟩) ++ b1) ++ b2) ++ ⟨#[41]⟩ = res) := by rw [← HBB1.out, ← HBB2.out, ← HBBD.out]; exact HRES
  clear hb hi hr ha hll hp hjw hjlow hjp
  go_enter Try.func66, Try.ntmps66
  go_wp2_with fail
  refine (sL2Settles_is h _ _ _ _ HB.out.hn hu0 hu HI.out HB.out.hl HB.out.hA).mono ?_
  rintro e w' ⟨rfl, q0, rfl⟩
  go_wp2_with fail
  refine (HNC.out _ (HA.out.drewN _) (HB.out.drewN _)).mono ?_
  rintro e w' ⟨rfl, q1, rfl⟩
  go_wp2_with fail
  go_loopw [10] (fun i wr => ∃ k : Nat, k ≤ j ∧ i = .int .i64 k ∧ ∃ q, wr = w.drewN q) (fun i _ => asks.length - (Go.RowKit.intOf i).toNat)
  case atStart => exact ⟨0, Nat.zero_le _, rfl, _, by first | rfl | rw [World.drewN_drewN]⟩
  case round =>
    obtain ⟨k, hk, rfl, q2, rfl⟩ := hrel
    have hlt : k < asks.length := by omega
    obtain ⟨b, off, x, rfl, hcell, hx, _⟩ := HA.out.hA.elem hlt
    obtain ⟨hx0, hx1⟩ := HRQ.out x (elem_mem hx)
    have hxe : asks[k] = x := (List.getElem?_eq_some_iff.1 hx.out).2
    have HXE := Lib.hid hxe
    obtain ⟨y, HY⟩ : ∃ y, Hid (andI u x = y) := ⟨_, rfl⟩
    obtain ⟨hy0, hy1, hz0, hz1⟩ := andI_lt x hu0 hu
    rw [HY.out] at hy0 hy1 hz0 hz1
    have hlk : (k : Int) < (asks.length : Int) := by omega
    clear hxe
    by_cases hkj : k = j
    · subst hkj
      obtain rfl : y = y0 := by rw [← HY.out, ← HY0.out, ← HX0.out, HXE.out]
      have e0 : (y == (0 : Int)) = false := by rw [beq_eq_false_iff_ne]; exact hw1
      have eu : (y == u) = false := by rw [beq_eq_false_iff_ne]; exact hw2
      obtain ⟨a1, HA1⟩ : ∃ a, Hid (needI asks issue l y = a) := ⟨_, rfl⟩
      obtain ⟨a2, HA2⟩ : ∃ a, Hid (needI asks issue l (u - y) = a) := ⟨_, rfl⟩
      have hr1 := HNR.out y hy0
      have hr2 := HNR.out (u - y) hz0
      have HE : Hid (1 + max a1 a2 = n) := by
        have hh := HJW.out
        unfold worthI at hh
        rw [HY0.out, if_neg (by omega), if_pos ⟨hw3, hw4⟩, HA1.out, HA2.out] at hh
        exact hh
      have HC1 := Lib.hid (fun W ra rb => HPL.out (some ⟨b, off, none⟩) B asks.length ca nb cb y W ra rb hy0 hy1 hw3)
      have HC2 := Lib.hid (fun W ra rb => HPL.out (some ⟨b, off, none⟩) B asks.length ca nb cb (u - y) W ra rb hz0 hz1 hw4)
      rw [HP1.out, HBB1.out] at HC1
      rw [HP2.out, HBB2.out] at HC2
      rw [HA1.out] at hr1 hw3
      rw [HA2.out] at hr2 hw4
      have hq1 : decide ((0 : Int) ≤ a1) = true := decide_eq_true hw3
      have hq2 : decide ((0 : Int) ≤ a2) = true := decide_eq_true hw4
      have hqn : ((1 + max a1 a2) == n) = true := by rw [beq_iff_eq]; exact HE.out
      have HNUM := Lib.hid (sNumber7 (k := k) (by omega))
      rw [HBBD.out] at HNUM
      clear hw1 hw2 hw5 hw6
      go_wp2_with fail
      refine (sBoth_is7 HY hu0 hu hx0 hx1 _).mono ?_
      rintro e w' ⟨rfl, q3, rfl⟩
      go_wp2_with fail
      refine (needs7_is HIH.out HA1 (HA.out.drewN _) (HB.out.drewN _) hy0 hy1).mono ?_
      rintro e w' ⟨rfl, q4, rfl⟩
      go_wp2_with fail
      refine (needs7_is HIH.out HA2 (HA.out.drewN _) (HB.out.drewN _) hz0 hz1).mono ?_
      rintro e w' ⟨rfl, q5, rfl⟩
      have HD : Hid (∀ m : Nat, Below w.heap.size w (w.drewN m)) := fun m => bel_drewN (Below.refl _ _) m
      go_wp2_with fail
      refine (HNUM.out _).mono ?_
      rintro e w1 ⟨rfl, hb1⟩
      have HB1 : Hid (Below w.heap.size w w1) := bel_trans (HD.out _) hb1
      clear hb1
      go_wp2_with fail
      refine (HC1.out _ (HA.out.below HB1.out) (HB.out.below HB1.out)).mono ?_
      rintro e w2 ⟨rfl, hb2⟩
      have HB2 : Hid (Below w.heap.size w w2) := bel_trans HB1.out hb2
      clear hb2
      go_wp2_with fail
      refine (HC2.out _ (HA.out.below HB2.out) (HB.out.below HB2.out)).mono ?_
      rintro e w3 ⟨rfl, hb3⟩
      have HB3 : Hid (Below w.heap.size w w3) := bel_trans HB2.out hb3
      clear hb3
      go_wp2_with fail
      go_ret
      exact ⟨by rw [← HRES.out]; rfl, HB3.out⟩
    · have hkj2 : k < j := by omega
      have HNE : Hid (worthI (needI asks issue l) u x ≠ n) := by have := HLOW.out k hkj2; rw [HXE.out] at this; exact this
      clear hkj
      by_cases hyz : y = 0
      · subst hyz
        go_wp2_with fail
        refine (sBoth_is7 HY hu0 hu hx0 hx1 _).mono ?_
        rintro e w' ⟨rfl, q3, rfl⟩
        go_wp2_with fail
        go_roundw
        case rel => exact ⟨k + 1, by omega, by go_num, _, by first | rfl | rw [World.drewN_drewN]⟩
        case measure => simp [Go.RowKit.intOf]; omega
      · have e0 : (y == (0 : Int)) = false := by rw [beq_eq_false_iff_ne]; exact hyz
        by_cases hyu : y = u
        · have eu : (y == u) = true := by rw [beq_iff_eq]; exact hyu
          clear hyz hyu
          go_wp2_with fail
          refine (sBoth_is7 HY hu0 hu hx0 hx1 _).mono ?_
          rintro e w' ⟨rfl, q3, rfl⟩
          go_wp2_with fail
          go_roundw
          case rel => exact ⟨k + 1, by omega, by go_num, _, by first | rfl | rw [World.drewN_drewN]⟩
          case measure => simp [Go.RowKit.intOf]; omega
        · have eu : (y == u) = false := by rw [beq_eq_false_iff_ne]; exact hyu
          obtain ⟨a1, HA1⟩ : ∃ a, Hid (needI asks issue l y = a) := ⟨_, rfl⟩
          obtain ⟨a2, HA2⟩ : ∃ a, Hid (needI asks issue l (u - y) = a) := ⟨_, rfl⟩
          have hr1 := HNR.out y hy0
          have hr2 := HNR.out (u - y) hz0
          rw [HA1.out] at hr1
          rw [HA2.out] at hr2
          by_cases hp1 : 0 ≤ a1
          · have hq1 : decide ((0 : Int) ≤ a1) = true := decide_eq_true hp1
            by_cases hp2 : 0 ≤ a2
            · have hq2 : decide ((0 : Int) ≤ a2) = true := decide_eq_true hp2
              have hqn : ((1 + max a1 a2) == n) = false := by
                rw [beq_eq_false_iff_ne]
                intro he
                apply HNE.out
                unfold worthI
                rw [HY.out, if_neg (by omega), HA1.out, HA2.out, if_pos ⟨hp1, hp2⟩]
                exact he
              clear hyz hyu
              go_wp2_with fail
              refine (sBoth_is7 HY hu0 hu hx0 hx1 _).mono ?_
              rintro e w' ⟨rfl, q3, rfl⟩
              go_wp2_with fail
              refine (needs7_is HIH.out HA1 (HA.out.drewN _) (HB.out.drewN _) hy0 hy1).mono ?_
              rintro e w' ⟨rfl, q4, rfl⟩
              go_wp2_with fail
              refine (needs7_is HIH.out HA2 (HA.out.drewN _) (HB.out.drewN _) hz0 hz1).mono ?_
              rintro e w' ⟨rfl, q5, rfl⟩
              go_wp2_with fail
              go_roundw
              case rel => exact ⟨k + 1, by omega, by go_num, _, by first | rfl | rw [World.drewN_drewN]⟩
              case measure => simp [Go.RowKit.intOf]; omega
            · have hq2 : decide ((0 : Int) ≤ a2) = false := decide_eq_false hp2
              clear hyz hyu
              go_wp2_with fail
              refine (sBoth_is7 HY hu0 hu hx0 hx1 _).mono ?_
              rintro e w' ⟨rfl, q3, rfl⟩
              go_wp2_with fail
              refine (needs7_is HIH.out HA1 (HA.out.drewN _) (HB.out.drewN _) hy0 hy1).mono ?_
              rintro e w' ⟨rfl, q4, rfl⟩
              go_wp2_with fail
              refine (needs7_is HIH.out HA2 (HA.out.drewN _) (HB.out.drewN _) hz0 hz1).mono ?_
              rintro e w' ⟨rfl, q5, rfl⟩
              go_wp2_with fail
              go_roundw
              case rel => exact ⟨k + 1, by omega, by go_num, _, by first | rfl | rw [World.drewN_drewN]⟩
              case measure => simp [Go.RowKit.intOf]; omega
          · have hq1 : decide ((0 : Int) ≤ a1) = false := decide_eq_false hp1
            clear hyz hyu
            go_wp2_with fail
            refine (sBoth_is7 HY hu0 hu hx0 hx1 _).mono ?_
            rintro e w' ⟨rfl, q3, rfl⟩
            go_wp2_with fail
            refine (needs7_is HIH.out HA1 (HA.out.drewN _) (HB.out.drewN _) hy0 hy1).mono ?_
            rintro e w' ⟨rfl, q4, rfl⟩
            go_wp2_with fail
            refine (needs7_is HIH.out HA2 (HA.out.drewN _) (HB.out.drewN _) hz0 hz1).mono ?_
            rintro e w' ⟨rfl, q5, rfl⟩
            go_wp2_with fail
            go_roundw
            case rel => exact ⟨k + 1, by omega, by go_num, _, by first | rfl | rw [World.drewN_drewN]⟩
            case measure => simp [Go.RowKit.intOf]; omega
end
theorem sPlan {asks issue : List Int} (hla5 : asks.length ≤ 5) (hr : ∀ q ∈ asks, 0 ≤ q ∧ q < 256) (hi : ∀ x ∈ issue, 0 ≤ x ∧ x < 256) : ∀ l : Nat, l ≤ 6 → Plans7 asks issue l := by
  intro l
  induction l with
  | zero =>
    intro _ A B na ca nb cb u w ha hb hu0 hu h0
    have h : anyWithin u issue = true := by
      unfold needI at h0
      rcases h : anyWithin u issue with _ | _
      · rw [h, if_neg (by decide)] at h0; omega
      · rfl
    exact sPlan_settled hb hi hu0 hu h
  | succ l ih =>
    intro hl A B na ca nb cb u w ha hb hu0 hu h0
    rcases h : anyWithin u issue with _ | _
    · exact sPlan_more (by omega) hla5 (ih (by omega)) hr ha hb hi hu0 hu h h0
    · unfold planI; rw [if_pos h]; exact sPlan_settled hb hi hu0 hu h
/-- The best plan, and whether there is one. -/
def planForB (t : Int) (asks issue : List Int) (u : Int) : Option ByteArray := if 0 ≤ asksNeededI t asks issue u then some (planB (planI asks issue 5 u)) else none
def PForPost (o : Option ByteArray) (w : World) (e : Ending) (w' : World) : Prop :=
  match o with
  | some b => e = .returned (.tuple #[.string b, .bool true]) ∧ Below w.heap.size w w'
  | none => e = .returned (.tuple #[.string ⟨#[]⟩, .bool false]) ∧ Below w.heap.size w w'
theorem sAsksNeeded_is {t : Int} {asks issue : List Int} {u v : Int} (h : Hid (asksNeededI t asks issue u = v)) {A B : Option Addr} {na ca nb cb : Nat} {w : World} (ha : Row w A na ca asks) (hb : Row w B nb cb issue) :
    Calls Try.prog 11 #[.int .i64 t, .slice A na ca, .slice B nb cb, .int .i64 u] w fun e w' => e = .returned (.int .i64 v) ∧ ∃ n, w' = w.drewN n := by
  have := sAsksNeeded t A B na ca nb cb asks issue u w ha hb
  rw [h.out] at this; exact this
set_option maxRecDepth 100000 in
set_option maxHeartbeats 4000000 in
theorem sPlanFor (t : Int) (A B : Option Addr) (na ca nb cb : Nat) (asks issue : List Int) (u : Int) (w : World) (ha : Row w A na ca asks) (hb : Row w B nb cb issue) :
    Calls Try.prog 57 #[.int .i64 t, .slice A na ca, .slice B nb cb, .int .i64 u] w (PForPost (planForB t asks issue u) w) := by
  have HA := Lib.hid ha
  have HB := Lib.hid hb
  obtain ⟨v, HV⟩ : ∃ v, Hid (asksNeededI t asks issue u = v) := ⟨_, rfl⟩
  unfold planForB
  rw [HV.out]
  clear ha hb
  by_cases h0 : 0 ≤ v
  · rw [if_pos h0]
    have hd : decide (v < (0 : Int)) = false := decide_eq_false (by omega)
    have hok : ok7 t asks issue u = true := by
      rcases hk : ok7 t asks issue u with _ | _
      · have := HV.out
        unfold asksNeededI at this
        rw [hk, if_neg (by decide)] at this
        omega
      · rfl
    obtain ⟨hr, hi, hu0, hu, hl5, _⟩ := ok7_parts hok
    have hv2 : 0 ≤ needI asks issue 5 u := by
      have := HV.out
      unfold asksNeededI needs at this
      rw [if_pos hok] at this
      omega
    have HP := Lib.hid (fun W ra rb => sPlan hl5 hr hi 5 (by omega) A B na ca nb cb u W ra rb hu0 hu hv2)
    have h5 : ((5 : Nat) : Int) = 5 := rfl
    rw [h5] at HP
    obtain ⟨b, HBB⟩ : ∃ b, Hid (planB (planI asks issue 5 u) = b) := ⟨_, rfl⟩
    rw [HBB.out] at HP ⊢
    show Calls _ _ _ _ (fun e w' => e = .returned (.tuple #[.string b, .bool true]) ∧ Below w.heap.size w w')
    clear hr hi hok hv2 h5
    go_enter Try.func57, Try.ntmps57
    go_wp2_with fail
    refine (sAsksNeeded_is HV HA.out HB.out).mono ?_
    rintro e w' ⟨rfl, q, rfl⟩
    go_wp2_with fail
    refine (HP.out _ (HA.out.drewN _) (HB.out.drewN _)).mono ?_
    rintro e w2 ⟨rfl, hb2⟩
    have HB2 : Hid (Below w.heap.size w w2) := bel_trans (bel_drewN (Below.refl _ _) _) hb2
    clear hb2
    go_wp2_with fail
    go_ret2
    exact ⟨rfl, HB2.out⟩
  · rw [if_neg h0]
    have hd : decide (v < (0 : Int)) = true := decide_eq_true (by omega)
    show Calls _ _ _ _ (fun e w' => e = .returned (.tuple #[.string ⟨#[]⟩, .bool false]) ∧ Below w.heap.size w w')
    go_enter Try.func57, Try.ntmps57
    go_wp2_with fail
    refine (sAsksNeeded_is HV HA.out HB.out).mono ?_
    rintro e w' ⟨rfl, q, rfl⟩
    go_wp2_with fail
    go_ret2
    exact ⟨rfl, bel_drewN (Below.refl _ _) _⟩
end Go.Proofs.Ytpjpbemgjniljaa
