/-
  What the proofs of this seat's statements share (BndD, BndE, BndF, BndG).
-/
import Derived.Test.YtannpnhboeopdaaU8

namespace Go.Proofs.Ytannpnhboeopdaa
open Go.RowKit

/-- The slice at A reads as the dependences ds. -/
def Bonds (w : World) (A : Option Addr) (ds : List (Int × Int)) : Prop :=
  0 < ds.length → ∃ b off, A = some ⟨b, off, none⟩ ∧ b < w.heap.size ∧ ∀ (i : Nat) (d : Int × Int), ds[i]? = some d → w.cell? ⟨b, off + i * 2, none⟩ = some (.int .i64 d.1) ∧ w.cell? ⟨b, off + i * 2 + 1, none⟩ = some (.int .i64 d.2)
theorem Bonds.below {w w' : World} {A : Option Addr} {ds : List (Int × Int)} (h : Bonds w A ds) (hb : Below w.heap.size w w') : Bonds w' A ds := by
  intro hn
  obtain ⟨b, off, rfl, hlt, hc⟩ := h hn
  have := hb.size
  refine ⟨b, off, rfl, by omega, fun i d hd => ?_⟩
  obtain ⟨h1, h2⟩ := hc i d hd
  exact ⟨(hb.cell (p := ⟨b, off + i * 2, none⟩) hlt).trans h1, (hb.cell (p := ⟨b, off + i * 2 + 1, none⟩) hlt).trans h2⟩
structure BRow (w : World) (A : Option Addr) (n c : Nat) (ds : List (Int × Int)) : Prop where
  hn : n = ds.length
  hl : n ≤ 1048576
  hc : n ≤ c
  hm : c ≤ maxLen
  hA : Bonds w A ds
theorem BRow.below {w w' : World} {A : Option Addr} {n c : Nat} {ds : List (Int × Int)} (h : BRow w A n c ds) (hb : Below w.heap.size w w') : BRow w' A n c ds := ⟨h.hn, h.hl, h.hc, h.hm, h.hA.below hb⟩
theorem BRow.drewN {w : World} {A : Option Addr} {n c : Nat} {ds : List (Int × Int)} (h : BRow w A n c ds) (m : Nat) : BRow (w.drewN m) A n c ds := ⟨h.hn, h.hl, h.hc, h.hm, h.hA⟩
theorem Bonds.elem {w : World} {A : Option Addr} {ds : List (Int × Int)} (h : Bonds w A ds) {i : Nat} (hi : i < ds.length) :
    ∃ b off f g, A = some ⟨b, off, none⟩ ∧ w.cell? ⟨b, off + i * 2, none⟩ = some (.int .i64 f) ∧ w.cell? ⟨b, off + i * 2 + 1, none⟩ = some (.int .i64 g) ∧ Hid (ds[i]? = some (f, g)) ∧ Hid (b < w.heap.size) := by
  obtain ⟨b, off, rfl, hlt, hc⟩ := h (by omega)
  obtain ⟨d, hd⟩ : ∃ d, ds[i]? = some d := ⟨_, List.getElem?_eq_getElem hi⟩
  obtain ⟨h1, h2⟩ := hc i d hd
  exact ⟨b, off, d.1, d.2, rfl, h1, h2, hd, hlt⟩
theorem takeP_snoc {ds : List (Int × Int)} {i : Nat} {d : Int × Int} (h : Hid (ds[i]? = some d)) : ds.take (i + 1) = ds.take i ++ [d] := by
  obtain ⟨hlt, he⟩ := List.getElem?_eq_some_iff.1 h.out
  rw [List.take_succ_eq_append_getElem hlt, he]
def bondsOkB (t : Int) (ds : List (Int × Int)) : Bool := decide (ds.length ≤ 8) && ds.all fun d => bondOkB t d.1 d.2
theorem allP_snoc {ds : List (Int × Int)} {i : Nat} {f g t : Int} (h : Hid (ds[i]? = some (f, g))) : ((ds.take (i + 1)).all fun d => bondOkB t d.1 d.2) = (((ds.take i).all fun d => bondOkB t d.1 d.2) && bondOkB t f g) := by
  rw [takeP_snoc h, List.all_append]; simp
theorem allP_miss {ds : List (Int × Int)} {i : Nat} {f g t : Int} (h : Hid (ds[i]? = some (f, g))) (hb : bondOkB t f g = false) : bondsOkB t ds = false := by
  unfold bondsOkB
  rw [Bool.and_eq_false_iff]
  right
  rw [List.all_eq_false]
  exact ⟨(f, g), List.mem_of_getElem? h.out, by simp [hb]⟩
theorem two_set (w : World) (T : TypeId) (a b c d : Value) (fr : Nat × Nat) : ((w.alloc (.cells #[a, b] T fr)).setCell ⟨w.heap.size, 0, none⟩ c).setCell ⟨w.heap.size, 1, none⟩ d = w.alloc (.cells #[c, d] T fr) := by
  simp only [World.setCell, World.alloc]
  congr 1
  apply Array.ext_getElem?
  intro i
  rw [Array.getElem?_modify, Array.getElem?_modify]
  by_cases h : w.heap.size = i
  · subst h; simp
  · have h' : ¬ i = w.heap.size := fun e => h e.symm
    simp [h, h', Array.getElem?_push]

set_option maxRecDepth 100000 in
set_option maxHeartbeats 4000000 in
theorem iBondsOk (t : Int) (A : Option Addr) (n c : Nat) (ds : List (Int × Int)) (w : World) (ha : BRow w A n c ds) :
    Calls Try.prog 56 #[.int .i64 t, .slice A n c] w (BPost (bondsOkB t ds) w) := by
  have HA := Lib.hid ha
  obtain rfl := ha.hn
  have hll := ha.hl
  clear ha
  by_cases hl : 8 < ds.length
  · have hd : decide ((8 : Int) < (ds.length : Int)) = true := decide_eq_true (by omega)
    rw [show bondsOkB t ds = false by unfold bondsOkB; rw [decide_eq_false (by omega)]; rfl]
    clear hl
    go_enter Try.func56, Try.ntmps56
    go_wp2_with fail
    go_ret
    exact ⟨rfl, Below.refl _ _⟩
  · have hd : decide ((8 : Int) < (ds.length : Int)) = false := decide_eq_false (by omega)
    have HE : Hid (bondsOkB t ds = ds.all fun d => bondOkB t d.1 d.2) := by unfold Hid bondsOkB; rw [decide_eq_true (by omega)]; rfl
    obtain ⟨res, HR⟩ : ∃ b, Hid (bondsOkB t ds = b) := ⟨_, rfl⟩
    rw [HR.out]
    clear hl
    go_enter Try.func56, Try.ntmps56
    go_wp2_with fail
    clear hd
    go_loopw [12] (fun i wr => ∃ k : Nat, k ≤ ds.length ∧ i = .int .i64 k ∧ Hid (((ds.take k).all fun d => bondOkB t d.1 d.2) = true) ∧ Below w.heap.size w wr) (fun i _ => ds.length - (Go.RowKit.intOf i).toNat)
    case atStart => exact ⟨0, Nat.zero_le _, rfl, rfl, Below.refl _ _⟩
    case round =>
      obtain ⟨k, hk, rfl, hso, hbel⟩ := hrel
      have HB := Lib.hid hbel
      clear hbel
      by_cases hlt : k < ds.length
      · obtain ⟨b, off, f, g, rfl, hc0, hc1, hx, _⟩ := (HA.out.hA.below HB.out).elem hlt
        rcases hb : bondOkB t f g with _ | _
        · have HBO := Lib.hid hb
          have HF : Hid (res = false) := by unfold Hid; rw [← HR.out]; exact allP_miss hx hb
          clear hb
          go_wp2_with fail
          refine (iBondOk_is HBO _).mono ?_
          rintro e w1 ⟨rfl, hb⟩
          have HB2 := Lib.hid (bel_trans (HB.out.alloc HB.out.size _) hb)
          clear hb
          go_wp2_with fail
          go_ret
          exact ⟨ret_bool HF.out.symm, HB2.out⟩
        · have HBO := Lib.hid hb
          have HN : Hid (((ds.take (k + 1)).all fun d => bondOkB t d.1 d.2) = true) := by unfold Hid; rw [allP_snoc hx, hso.out, hb]; rfl
          clear hb
          go_wp2_with fail
          refine (iBondOk_is HBO _).mono ?_
          rintro e w1 ⟨rfl, hb⟩
          have HB2 := Lib.hid (bel_trans (HB.out.alloc HB.out.size _) hb)
          clear hb
          go_wp2_with fail
          go_roundw
          case rel => exact ⟨k + 1, by omega, by go_num, HN, HB2.out⟩
          case measure => simp [Go.RowKit.intOf]; omega
      · obtain rfl : k = ds.length := by omega
        have HF : Hid (res = true) := by unfold Hid; rw [← HR.out, HE.out, ← hso.out, List.take_length]
        go_wp2_with fail
        go_ret
        exact ⟨ret_bool HF.out.symm, HB.out⟩
theorem iBondsOk_is {t : Int} {ds : List (Int × Int)} {v : Bool} (h : Hid (bondsOkB t ds = v)) {A : Option Addr} {n c : Nat} {w : World} (ha : BRow w A n c ds) :
    Calls Try.prog 56 #[.int .i64 t, .slice A n c] w (BPost v w) := by
  have := iBondsOk t A n c ds w ha
  rw [h.out] at this; exact this
end Go.Proofs.Ytannpnhboeopdaa

namespace Go.Proofs.Ytannpnhboeopdaa
open Go.RowKit

def oneStep (x : Int) (d : Int × Int) : Int := if withinB d.1 x = true then orI x d.2 else x
def stepTo (ds : List (Int × Int)) (x : Int) (k : Nat) : Int := closeStep (ds.take k) x
theorem stepTo_next {ds : List (Int × Int)} {x : Int} {k : Nat} {d : Int × Int} (h : Hid (ds[k]? = some d)) : stepTo ds x (k + 1) = oneStep (stepTo ds x k) d := by
  unfold stepTo closeStep; rw [takeP_snoc h, List.foldl_append]; rfl
theorem stepTo_end (ds : List (Int × Int)) (x : Int) : stepTo ds x ds.length = closeStep ds x := by unfold stepTo; rw [List.take_length]
theorem closeN_succ (ds : List (Int × Int)) : ∀ (n : Nat) (x : Int), closeN ds (n + 1) x = closeStep ds (closeN ds n x)
  | 0, _ => rfl
  | n + 1, x => closeN_succ ds n (closeStep ds x)
section
variable {t : Int} {ds : List (Int × Int)}
theorem ListOk.take (h : ListOk t ds) (k : Nat) : ListOk t (ds.take k) := fun d hd => h d (List.mem_of_mem_take hd)
theorem stepTo_top (h1 : 1 ≤ t) (h3 : t ≤ 3) (h : ListOk t ds) {x : Int} (hx : 0 ≤ x) (hx2 : x ≤ topT t) (k : Nat) : 0 ≤ stepTo ds x k ∧ stepTo ds x k ≤ topT t := closeStep_top h1 h3 (h.take k) hx hx2
/-- The walk's state between two passes: what is there, what was there before. -/
def ClosingTo (_t : Int) (ds : List (Int × Int)) (f x b : Int) : Prop := ∃ n : Nat, x = closeN ds n f ∧ ((n = 0 ∧ b = -1) ∨ ∃ m, n = m + 1 ∧ b = closeN ds m f)
theorem ClosingTo.start (t : Int) (ds : List (Int × Int)) (f : Int) : ClosingTo t ds f f (-1) := ⟨0, rfl, .inl ⟨rfl, rfl⟩⟩
theorem ClosingTo.top (h1 : 1 ≤ t) (h3 : t ≤ 3) (h : ListOk t ds) {f x b : Int} (hf : 0 ≤ f) (hf2 : f ≤ topT t) (hc : ClosingTo t ds f x b) : 0 ≤ x ∧ x ≤ topT t := by
  obtain ⟨n, rfl, _⟩ := hc; exact closeN_top h1 h3 h n hf hf2
theorem ClosingTo.next {f x b : Int} (hc : ClosingTo t ds f x b) : ClosingTo t ds f (closeStep ds x) x := by
  obtain ⟨n, rfl, _⟩ := hc
  exact ⟨n + 1, (closeN_succ ds n f).symm, .inr ⟨n, rfl, rfl⟩⟩
theorem ClosingTo.done (h1 : 1 ≤ t) (h3 : t ≤ 3) (h : ListOk t ds) {f x : Int} (hf : thingsOk t f = true) (hc : ClosingTo t ds f x x) : x = closeN ds t.toNat f := by
  obtain ⟨_, _, hf0, hf7, _⟩ := thingsOk_of hf
  obtain ⟨n, hx, h0 | ⟨m, rfl, hb⟩⟩ := hc
  · have := (closeN_top h1 h3 h n hf0 hf7).1; omega
  · have hfix : closeStep ds (closeN ds m f) = closeN ds m f := by rw [← closeN_succ, ← hx, hb]
    have htm := closeN_top h1 h3 h m hf0 hf7
    have htt := closeN_top h1 h3 h t.toNat hf0 hf7
    rw [hb]
    refine within_anti htm.1 htt.1 ?_ ?_
    · exact closeN_least h htt.1 (closed_fix hf h) m hf0 (closeN_within h t.toNat hf0).1
    · exact closeN_least h htm.1 (closeStep_fix htm.1 h.pos hfix) t.toNat hf0 (closeN_within h m hf0).1
/-- How many passes may come. -/
def passes (x b : Int) : Nat := if x = b then 0 else 2 * (3 - pc x) + 1
theorem passes_less (h1 : 1 ≤ t) (h3 : t ≤ 3) (h : ListOk t ds) {x b : Int} (hx : 0 ≤ x) (hx2 : x ≤ topT t) (hne : x ≠ b) : passes (closeStep ds x) x < passes x b := by
  unfold passes
  rw [if_neg hne]
  by_cases e : closeStep ds x = x
  · rw [if_pos e]; omega
  · rw [if_neg e]
    have ht := closeStep_top h1 h3 h hx hx2
    have h7 := topT_range t
    have := pc_less hx ht.1 (by omega) (closeStep_le hx (fun d hd => (h.pos d hd).2)).1 (fun e2 => e e2.symm)
    have h4 := pc_top h1 h3 ht.1 ht.2
    have : t.toNat ≤ 3 := by omega
    omega
end

set_option maxRecDepth 100000 in
set_option maxHeartbeats 8000000 in
theorem iClosed (t f : Int) (A : Option Addr) (n c : Nat) (ds : List (Int × Int)) (w : World) (hf : thingsOk t f = true) (ho : ListOk t ds) (ha : BRow w A n c ds) :
    Calls Try.prog 57 #[.slice A n c, .int .i64 f] w fun e w' => e = .returned (.int .i64 (closeN ds t.toNat f)) ∧ Below w.heap.size w w' := by
  have HA := Lib.hid ha
  obtain rfl := ha.hn
  have hll := ha.hl
  obtain ⟨h1, h3, hf0, hf7, _⟩ := thingsOk_of hf
  obtain ⟨ht0, ht7⟩ := topT_range t
  have HTOP : Hid (∀ x b, ClosingTo t ds f x b → 0 ≤ x ∧ x ≤ topT t) := fun x b hc => hc.top h1 h3 ho hf0 hf7
  have HDONE : Hid (∀ x, ClosingTo t ds f x x → x = closeN ds t.toNat f) := fun x hc => hc.done h1 h3 ho hf
  have HST : Hid (∀ x k, 0 ≤ x → x ≤ topT t → 0 ≤ stepTo ds x k ∧ stepTo ds x k ≤ topT t) := fun x k a b => stepTo_top h1 h3 ho a b k
  have HP : Hid (∀ x b, 0 ≤ x → x ≤ topT t → x ≠ b → passes (closeStep ds x) x < passes x b) := fun x b a c d => passes_less h1 h3 ho a c d
  have HEL : Hid (∀ (k : Nat) (g h : Int), Hid (ds[k]? = some (g, h)) → 0 ≤ g ∧ g ≤ 7 ∧ 0 ≤ h ∧ h ≤ 7) := fun k g h hk => by
    have := ho _ (List.mem_of_getElem? hk.out)
    unfold bondOkB at this
    rw [Bool.and_eq_true] at this
    have ha := thingsOk_of this.1
    have hb := thingsOk_of this.2
    exact ⟨ha.2.2.1, ha.2.2.2.2, hb.2.2.1, hb.2.2.2.2⟩
  obtain ⟨res, HRES⟩ : ∃ r, Hid (closeN ds t.toNat f = r) := ⟨_, rfl⟩
  rw [HRES.out] at HDONE ⊢
  obtain ⟨tp, HTP⟩ : ∃ r, Hid (topT t = r) := ⟨_, rfl⟩
  rw [HTP.out] at HTOP HST HP ht0 ht7
  clear ha hf ho h1 h3 hf0 hf7
  go_enter Try.func57, Try.ntmps57
  go_wp2_with fail
  go_loopw [5, 6] (fun xv bv wr => ∃ x b : Int, xv = .int .i64 x ∧ bv = .int .i64 b ∧ Hid (ClosingTo t ds f x b) ∧ Below w.heap.size w wr) (fun xv bv _ => passes (Go.RowKit.intOf xv) (Go.RowKit.intOf bv))
  case atStart => exact ⟨f, -1, rfl, rfl, ClosingTo.start t ds f, Below.refl _ _⟩
  case round =>
    obtain ⟨x, b, rfl, rfl, hcl, hbel⟩ := hrel
    have HB := Lib.hid hbel
    obtain ⟨hx0, hx1⟩ := HTOP.out x b hcl.out
    clear hbel
    by_cases hxb : x = b
    · subst hxb
      have HR := Lib.hid (HDONE.out x hcl.out)
      go_wp2_with fail
      go_ret
      exact ⟨ret_int HR.out, HB.out⟩
    · have hd : (x != b) = true := by simpa using hxb
      have HN := Lib.hid hcl.out.next
      have HPL := Lib.hid (HP.out x b hx0 hx1 hxb)
      have HE := Lib.hid (stepTo_end ds x)
      have HS := Lib.hid (fun k => HST.out x k hx0 hx1)
      clear hxb
      go_wp2_with fail
      clear hd
      go_loopw [5, 16] (fun xv i wi => ∃ k : Nat, k ≤ ds.length ∧ i = .int .i64 k ∧ xv = .int .i64 (stepTo ds x k) ∧ Below w.heap.size w wi) (fun _ i _ => ds.length - (Go.RowKit.intOf i).toNat)
      case atStart => exact ⟨0, Nat.zero_le _, rfl, rfl, HB.out⟩
      case round =>
        obtain ⟨k, hk, rfl, rfl, hbel⟩ := hrel
        have HBI := Lib.hid hbel
        obtain ⟨hy0, hy1⟩ := HS.out k
        have HNX : Hid (∀ g h, Hid (ds[k]? = some (g, h)) → stepTo ds x (k + 1) = oneStep (stepTo ds x k) (g, h)) := fun g h hk => stepTo_next hk
        obtain ⟨y, HY⟩ : ∃ y, Hid (stepTo ds x k = y) := ⟨_, rfl⟩
        rw [HY.out] at hy0 hy1 HNX ⊢
        clear hbel
        by_cases hlt : k < ds.length
        · obtain ⟨bb, off, g, h, rfl, hc0, hc1, hx, _⟩ := (HA.out.hA.below HBI.out).elem hlt
          obtain ⟨hg0, hg7, hh0, hh7⟩ := HEL.out k g h hx
          have hnx := HNX.out g h hx
          unfold oneStep at hnx
          rcases hwi : withinB g y with _ | _
          · have HWI := Lib.hid hwi
            have HN2 : Hid (stepTo ds x (k + 1) = y) := by unfold Hid; rw [hnx, hwi]; rfl
            clear hnx hwi
            go_wp2_with fail
            refine (iWithin_is5 HWI hg0 (by omega) hy0 (by omega) _).mono ?_
            rintro e w' ⟨rfl, rfl⟩
            go_wp2_with fail
            go_roundw
            case rel => exact ⟨k + 1, by omega, by go_num, by rw [HN2.out], HBI.out.alloc HBI.out.size _⟩
            case measure => simp [Go.RowKit.intOf]; omega
          · have HWI := Lib.hid hwi
            have HN2 : Hid (stepTo ds x (k + 1) = orI y h) := by unfold Hid; rw [hnx, hwi]; rfl
            have HBO := Lib.hid (bits_or y h hy0 (by omega) hh0 (by omega))
            clear hnx hwi
            go_wp2_with fail
            refine (iWithin_is5 HWI hg0 (by omega) hy0 (by omega) _).mono ?_
            rintro e w' ⟨rfl, rfl⟩
            go_wp2_with fail
            go_roundw
            case rel => exact ⟨k + 1, by omega, by go_num, by rw [HN2.out, HBO.out], HBI.out.alloc HBI.out.size _⟩
            case measure => simp [Go.RowKit.intOf]; omega
        · obtain rfl : k = ds.length := by omega
          have HC : Hid (y = closeStep ds x) := by unfold Hid; rw [← HY.out, HE.out]
          have HN2 : Hid (ClosingTo t ds f y x) := by unfold Hid; rw [HC.out]; exact HN.out
          have HM : Hid (passes y x < passes x b) := by unfold Hid; rw [HC.out]; exact HPL.out
          go_wp2_with fail
          go_roundw
          case rel => exact ⟨y, x, rfl, rfl, HN2, HBI.out⟩
          case measure => exact HM.out
end Go.Proofs.Ytannpnhboeopdaa

namespace Go.Proofs.Ytannpnhboeopdaa
open Go.RowKit

theorem closed_eq (t : Int) (ds : List (Int × Int)) (f : Int) : closedB t ds f = if (bondsOkB t ds && thingsOk t f) = true then closeN ds t.toNat f else -1 := by
  unfold closedB bondsOkB
  by_cases h1 : thingsOk t f = true <;> by_cases h2 : ds.length ≤ 8 <;> by_cases h3 : (ds.all fun d => bondOkB t d.1 d.2) = true <;> simp [h1, h2, h3]
theorem bonds_list {t : Int} {ds : List (Int × Int)} (h : bondsOkB t ds = true) : ds.length ≤ 8 ∧ ListOk t ds := by
  unfold bondsOkB at h
  rw [Bool.and_eq_true, decide_eq_true_eq, List.all_eq_true] at h
  exact h
def NPost (v : Int) (w : World) (e : Ending) (w' : World) : Prop := e = .returned (.int .i64 v) ∧ Below w.heap.size w w'
set_option maxRecDepth 100000 in
set_option maxHeartbeats 4000000 in
theorem iClosedBy (t f : Int) (A : Option Addr) (n c : Nat) (ds : List (Int × Int)) (w : World) (ha : BRow w A n c ds) :
    Calls Try.prog 20 #[.int .i64 t, .slice A n c, .int .i64 f] w (NPost (closedB t ds f) w) := by
  have hnot : ∀ (x : Bool) (w : World), (Op.unary .not (.bool x)).run Try.prog w = .ok (.bool (!x)) w := fun _ _ => rfl
  have HA := Lib.hid ha
  have HE := Lib.hid (closed_eq t ds f)
  clear ha
  rcases hp : bondsOkB t ds with _ | _
  · have HP := Lib.hid hp
    have HR : Hid (closedB t ds f = -1) := by unfold Hid; rw [HE.out, hp]; rfl
    rw [HR.out]
    clear hp
    go_enter Try.func20, Try.ntmps20
    go_wp2_with fail
    refine (iBondsOk_is HP HA.out).mono ?_
    rintro e w1 ⟨rfl, hb⟩
    have HB := Lib.hid hb
    clear hb
    go_wp2_with fail
    go_ret
    exact ⟨rfl, HB.out⟩
  · have HP := Lib.hid hp
    rcases hq : thingsOk t f with _ | _
    · have HQ := Lib.hid hq
      have HR : Hid (closedB t ds f = -1) := by unfold Hid; rw [HE.out, hp, hq]; rfl
      rw [HR.out]
      clear hp hq
      go_enter Try.func20, Try.ntmps20
      go_wp2_with fail
      refine (iBondsOk_is HP HA.out).mono ?_
      rintro e w1 ⟨rfl, hb⟩
      have HB := Lib.hid hb
      clear hb
      go_wp2_with fail
      refine (iThingsOk_is HQ _).mono ?_
      rintro e w' ⟨rfl, rfl⟩
      go_wp2_with fail
      go_ret
      exact ⟨rfl, HB.out⟩
    · have HQ := Lib.hid hq
      have HR : Hid (closedB t ds f = closeN ds t.toNat f) := by unfold Hid; rw [HE.out, hp, hq]; rfl
      have HL := Lib.hid (bonds_list hp).2
      rw [HR.out]
      clear hp hq
      go_enter Try.func20, Try.ntmps20
      go_wp2_with fail
      refine (iBondsOk_is HP HA.out).mono ?_
      rintro e w1 ⟨rfl, hb⟩
      have HB := Lib.hid hb
      have HA2 := Lib.hid (HA.out.below hb)
      clear hb
      go_wp2_with fail
      refine (iThingsOk_is HQ _).mono ?_
      rintro e w' ⟨rfl, rfl⟩
      go_wp2_with fail
      refine (iClosed t f _ _ _ ds _ HQ.out HL.out HA2.out).mono ?_
      rintro e w2 ⟨rfl, hb⟩
      have HB2 := Lib.hid (bel_trans HB.out hb)
      clear hb
      go_wp2_with fail
      go_ret
      exact ⟨rfl, HB2.out⟩
theorem iClosedBy_is {t f v : Int} {ds : List (Int × Int)} (h : Hid (closedB t ds f = v)) {A : Option Addr} {n c : Nat} {w : World} (ha : BRow w A n c ds) :
    Calls Try.prog 20 #[.int .i64 t, .slice A n c, .int .i64 f] w (NPost v w) := by
  have := iClosedBy t f A n c ds w ha
  rw [h.out] at this; exact this

theorem bond_zero (t f : Int) : bondOkB t f 0 = thingsOk t f := by
  unfold bondOkB
  rcases h : thingsOk t f with _ | _
  · rfl
  · obtain ⟨h1, h3, _⟩ := thingsOk_of h
    have := topT_range t
    exact decide_eq_true ⟨h1, h3, by omega, by omega⟩
set_option maxRecDepth 100000 in
set_option maxHeartbeats 8000000 in
theorem sClosedBy (t f : Int) (A : Option Addr) (n c : Nat) (ds : List (Int × Int)) (w : World) (ha : BRow w A n c ds) :
    Calls Try.prog 21 #[.int .i64 t, .slice A n c, .int .i64 f] w (NPost (closedB t ds f) w) := by
  have hnot : ∀ (x : Bool) (w : World), (Op.unary .not (.bool x)).run Try.prog w = .ok (.bool (!x)) w := fun _ _ => rfl
  have HA := Lib.hid ha
  obtain rfl := ha.hn
  have hll := ha.hl
  have HE := Lib.hid (closed_eq t ds f)
  have HZ := Lib.hid (bond_zero t f)
  clear ha
  rcases hq : thingsOk t f with _ | _
  · have HQ : Hid (bondOkB t f 0 = false) := HZ.out.trans hq
    have HR : Hid (closedB t ds f = -1) := by unfold Hid; rw [HE.out, hq, Bool.and_false]; rfl
    rw [HR.out]
    clear hq
    go_enter Try.func21, Try.ntmps21
    go_wp2_with fail
    refine (sBondOk_is HQ _).mono ?_
    rintro e w1 ⟨rfl, hb⟩
    have HB := Lib.hid hb
    clear hb
    go_wp2_with fail
    go_ret
    exact ⟨rfl, HB.out⟩
  have HQ : Hid (bondOkB t f 0 = true) := HZ.out.trans hq
  have HTF := Lib.hid hq
  by_cases hl : 8 < ds.length
  · have hd : decide ((8 : Int) < (ds.length : Int)) = true := decide_eq_true (by omega)
    have HR : Hid (closedB t ds f = -1) := by unfold Hid; rw [HE.out]; unfold bondsOkB; rw [decide_eq_false (by omega)]; rfl
    rw [HR.out]
    clear hq hl
    go_enter Try.func21, Try.ntmps21
    go_wp2_with fail
    refine (sBondOk_is HQ _).mono ?_
    rintro e w1 ⟨rfl, hb⟩
    have HB := Lib.hid hb
    clear hb
    go_wp2_with fail
    go_ret
    exact ⟨rfl, HB.out⟩
  have hd : decide ((8 : Int) < (ds.length : Int)) = false := decide_eq_false (by omega)
  have HE2 : Hid (bondsOkB t ds = ds.all fun d => bondOkB t d.1 d.2) := by unfold Hid bondsOkB; rw [decide_eq_true (by omega)]; rfl
  obtain ⟨h1, h3, hf0, hf7, _⟩ := thingsOk_of hq
  obtain ⟨tn, rfl⟩ : ∃ n : Nat, t = n := ⟨t.toNat, by omega⟩
  have HTN : Hid ((tn : Int).toNat = tn) := by unfold Hid; omega
  obtain ⟨ht0, ht7⟩ := topT_range (tn : Int)
  obtain ⟨tp, HTP⟩ : ∃ r, Hid (topT (tn : Int) = r) := ⟨_, rfl⟩
  have HTOP : Hid (ListOk (tn : Int) ds → ∀ n, 0 ≤ closeN ds n f ∧ closeN ds n f ≤ tp) := fun ho n => by rw [← HTP.out]; exact closeN_top h1 h3 ho n hf0 hf7
  have HST : Hid (ListOk (tn : Int) ds → ∀ x k, 0 ≤ x → x ≤ tp → 0 ≤ stepTo ds x k ∧ stepTo ds x k ≤ tp) := fun ho x k a b => by rw [← HTP.out] at b ⊢; exact stepTo_top h1 h3 ho a b k
  rw [HTP.out] at ht0 ht7
  obtain ⟨res, HRES⟩ : ∃ r, Hid (closedB (tn : Int) ds f = r) := ⟨_, rfl⟩
  have HBAD : Hid (bondsOkB (tn : Int) ds = false → res = -1) := fun h => by rw [← HRES.out, HE.out, h]; rfl
  have HGOOD : Hid (bondsOkB (tn : Int) ds = true → res = closeN ds tn f) := fun h => by rw [← HRES.out, HE.out, h, hq, HTN.out]; rfl
  rw [HRES.out]
  have htn3 : tn ≤ 3 := by omega
  clear hq hl h1 h3 hf0 hf7
  go_enter Try.func21, Try.ntmps21
  go_wp2_with fail
  refine (sBondOk_is HQ _).mono ?_
  rintro e w1 ⟨rfl, hb⟩
  have HB := Lib.hid hb
  have HA1 := Lib.hid (HA.out.below hb)
  clear hb
  go_wp2_with fail
  clear hd
  go_loopw [7] (fun i wr => ∃ k : Nat, k ≤ ds.length ∧ i = .int .i64 k ∧ Hid (((ds.take k).all fun d => bondOkB (tn : Int) d.1 d.2) = true) ∧ Below w1.heap.size w1 wr) (fun i _ => ds.length - (Go.RowKit.intOf i).toNat)
  case atStart => exact ⟨0, Nat.zero_le _, rfl, rfl, Below.refl _ _⟩
  case round =>
    obtain ⟨k, hk, rfl, hso, hbel⟩ := hrel
    have HBW := Lib.hid hbel
    clear hbel
    by_cases hlt : k < ds.length
    · obtain ⟨b, off, g, h, rfl, hc0, hc1, hx, _⟩ := (HA1.out.hA.below HBW.out).elem hlt
      have hki : (k : Int) < (ds.length : Int) := by omega
      rcases hb : bondOkB (tn : Int) g h with _ | _
      · have HBO := Lib.hid hb
        have HF := Lib.hid (HBAD.out (allP_miss hx hb))
        clear hb
        go_wp2_with fail
        refine (sBondOk_is HBO _).mono ?_
        rintro e w2 ⟨rfl, hb⟩
        have HB2 := Lib.hid (bel_trans HBW.out hb)
        clear hb
        go_wp2_with fail
        go_ret
        exact ⟨ret_int HF.out.symm, bel_trans HB.out HB2.out⟩
      · have HBO := Lib.hid hb
        have HN : Hid (((ds.take (k + 1)).all fun d => bondOkB (tn : Int) d.1 d.2) = true) := by unfold Hid; rw [allP_snoc hx, hso.out, hb]; rfl
        clear hb
        go_wp2_with fail
        refine (sBondOk_is HBO _).mono ?_
        rintro e w2 ⟨rfl, hb⟩
        have HB2 := Lib.hid (bel_trans HBW.out hb)
        clear hb
        go_wp2_with fail
        go_roundw
        case rel => exact ⟨k + 1, by omega, by go_num, HN, HB2.out⟩
        case measure => simp [Go.RowKit.intOf]; omega
    · obtain rfl : k = ds.length := by omega
      have hbo : bondsOkB (tn : Int) ds = true := by rw [HE2.out, ← hso.out, List.take_length]
      have HRE := Lib.hid (HGOOD.out hbo)
      have HLO := Lib.hid (bonds_list hbo).2
      have HTOP2 := Lib.hid (HTOP.out HLO.out)
      have HST2 := Lib.hid (HST.out HLO.out)
      have HEL : Hid (∀ (k : Nat) (g h : Int), Hid (ds[k]? = some (g, h)) → 0 ≤ g ∧ g ≤ 7 ∧ 0 ≤ h ∧ h ≤ 7) := fun k g h hk => by
        have := HLO.out _ (List.mem_of_getElem? hk.out)
        unfold bondOkB at this
        rw [Bool.and_eq_true] at this
        have ha := thingsOk_of this.1
        have hb := thingsOk_of this.2
        exact ⟨ha.2.2.1, ha.2.2.2.2, hb.2.2.1, hb.2.2.2.2⟩
      obtain ⟨W2, rfl⟩ : ∃ W, W = wr := ⟨_, rfl⟩
      have HA2 := Lib.hid (HA1.out.below HBW.out)
      have HB2 := Lib.hid (bel_trans HB.out HBW.out)
      clear hbo hso
      go_wp2_with fail
      go_loopw [8, 9] (fun xv i wr => ∃ n : Nat, n ≤ tn ∧ i = .int .i64 n ∧ xv = .int .i64 (closeN ds n f) ∧ ∃ q, wr = W2.drewN q) (fun _ i _ => tn - (Go.RowKit.intOf i).toNat)
      case atStart => exact ⟨0, Nat.zero_le _, rfl, rfl, 0, rfl⟩
      case round =>
        obtain ⟨n, hn, rfl, rfl, q, rfl⟩ := hrel
        by_cases hnt : n < tn
        · obtain ⟨hx0, hx1⟩ := HTOP2.out n
          have HNS := Lib.hid (closeN_succ ds n f)
          obtain ⟨x, HX⟩ : ∃ x, Hid (closeN ds n f = x) := ⟨_, rfl⟩
          rw [HX.out] at hx0 hx1 HNS ⊢
          have HSX := Lib.hid (fun k => HST2.out x k hx0 hx1)
          have hni : (n : Int) < (tn : Int) := by omega
          go_wp2_with fail
          go_loopw [8, 10] (fun xv i wr => ∃ k : Nat, k ≤ ds.length ∧ i = .int .i64 k ∧ xv = .int .i64 (stepTo ds x k) ∧ ∃ q, wr = W2.drewN q) (fun _ i _ => ds.length - (Go.RowKit.intOf i).toNat)
          case atStart => exact ⟨0, Nat.zero_le _, rfl, rfl, q, rfl⟩
          case round =>
            obtain ⟨k, hk, rfl, rfl, q2, rfl⟩ := hrel
            obtain ⟨hy0, hy1⟩ := HSX.out k
            have HNX : Hid (∀ g h, Hid (ds[k]? = some (g, h)) → stepTo ds x (k + 1) = oneStep (stepTo ds x k) (g, h)) := fun g h hk => stepTo_next hk
            obtain ⟨y, HY⟩ : ∃ y, Hid (stepTo ds x k = y) := ⟨_, rfl⟩
            rw [HY.out] at hy0 hy1 HNX ⊢
            by_cases hlt : k < ds.length
            · obtain ⟨bb, off, g, h, rfl, hc0, hc1, hx, _⟩ := HA2.out.hA.elem hlt
              obtain ⟨hg0, hg7, hh0, hh7⟩ := HEL.out k g h hx
              have hnx := HNX.out g h hx
              have hki : (k : Int) < (ds.length : Int) := by omega
              unfold oneStep at hnx
              rcases hwi : withinB g y with _ | _
              · have HWI := Lib.hid hwi
                have HN2 : Hid (stepTo ds x (k + 1) = y) := by unfold Hid; rw [hnx, hwi]; rfl
                clear hnx hwi
                go_wp2_with fail
                refine (sWithin_is HWI hg0 (by omega) hy0 (by omega) _).mono ?_
                rintro e w' ⟨rfl, q3, rfl⟩
                go_wp2_with fail
                go_roundw
                case rel => exact ⟨k + 1, by omega, by go_num, by rw [HN2.out], _, rfl⟩
                case measure => simp [Go.RowKit.intOf]; omega
              · have HWI := Lib.hid hwi
                have HN2 : Hid (stepTo ds x (k + 1) = orI y h) := by unfold Hid; rw [hnx, hwi]; rfl
                clear hnx hwi
                go_wp2_with fail
                refine (sWithin_is HWI hg0 (by omega) hy0 (by omega) _).mono ?_
                rintro e w' ⟨rfl, q3, rfl⟩
                go_wp2_with fail
                refine (sEither y h hy0 (by omega) hh0 (by omega) _).mono ?_
                rintro e w' ⟨rfl, q4, rfl⟩
                go_wp2_with fail
                go_roundw
                case rel => exact ⟨k + 1, by omega, by go_num, by rw [HN2.out], _, rfl⟩
                case measure => simp [Go.RowKit.intOf]; omega
            · obtain rfl : k = ds.length := by omega
              have HC : Hid (y = closeN ds (n + 1) f) := by unfold Hid; rw [← HY.out, stepTo_end, HNS.out]
              go_wp2_with fail
              go_roundw
              case rel => exact ⟨n + 1, by omega, by go_num, by rw [HC.out], _, rfl⟩
              case measure => simp [Go.RowKit.intOf]; omega
        · obtain rfl : n = tn := by omega
          go_wp2_with fail
          go_ret
          exact ⟨ret_int HRE.out.symm, bel_drewN HB2.out _⟩
theorem sClosedBy_is {t f v : Int} {ds : List (Int × Int)} (h : Hid (closedB t ds f = v)) {A : Option Addr} {n c : Nat} {w : World} (ha : BRow w A n c ds) :
    Calls Try.prog 21 #[.int .i64 t, .slice A n c, .int .i64 f] w (NPost v w) := by
  have := sClosedBy t f A n c ds w ha
  rw [h.out] at this; exact this
end Go.Proofs.Ytannpnhboeopdaa

namespace Go.Proofs.Ytannpnhboeopdaa
open Go.RowKit

theorem BRow.drew_ {w : World} {A : Option Addr} {n c : Nat} {ds : List (Int × Int)} (h : BRow w A n c ds) : BRow w.drew A n c ds := ⟨h.hn, h.hl, h.hc, h.hm, h.hA⟩
theorem follows_eq5 (t : Int) (ds : List (Int × Int)) (f g : Int) : bondFollowsB t ds f g = (bondsOkB t ds && bondOkB t f g && withinB g (closeN ds t.toNat f)) := by
  unfold bondFollowsB
  rw [closed_eq]
  rcases h1 : bondsOkB t ds with _ | _
  · simp
  · rcases h2 : bondOkB t f g with _ | _
    · simp
    · have h3 : thingsOk t f = true := by unfold bondOkB at h2; rw [Bool.and_eq_true] at h2; exact h2.1
      obtain ⟨_, hl⟩ := bonds_list h1
      obtain ⟨a, b, hf0, hf7, _⟩ := thingsOk_of h3
      have := (closeN_top a b hl t.toNat hf0 hf7).1
      simp [h3, this]
set_option maxRecDepth 100000 in
set_option maxHeartbeats 4000000 in
theorem sBondFollows (t f g : Int) (A : Option Addr) (n c : Nat) (ds : List (Int × Int)) (w : World) (ha : BRow w A n c ds) :
    Calls Try.prog 26 #[.int .i64 t, .slice A n c, .agg #[.int .i64 f, .int .i64 g]] w (BPost (bondFollowsB t ds f g) w) := by
  have HE : Hid (bondFollowsB t ds f g = (decide (0 ≤ closedB t ds f) && bondOkB t f g && withinB g (closedB t ds f))) := rfl
  have HX1 : Hid (BoxAt (w.alloc (.cells #[.int .i64 f, .int .i64 g] 24)) w.heap.size f g) := BoxAt.new w f g _
  have HB1 : Hid (Below w.heap.size w (w.alloc (.cells #[.int .i64 f, .int .i64 g] 24))) := (Below.refl _ _).alloc (Nat.le_refl _) _
  have HA1 := Lib.hid (ha.below HB1.out)
  have hrng : 0 ≤ closedB t ds f → bondOkB t f g = true → 0 ≤ g ∧ g ≤ 7 ∧ closedB t ds f ≤ 7 := fun h0 h => by
    unfold bondOkB at h
    rw [Bool.and_eq_true] at h
    obtain ⟨h1, h3, hf0, hf7, _⟩ := thingsOk_of h.1
    obtain ⟨_, _, hg0, _, hg7⟩ := thingsOk_of h.2
    obtain ⟨_, _, hl, he⟩ := closed_ok h0
    have := closeN_top h1 h3 hl t.toNat hf0 hf7
    have := topT_range t
    rw [he]
    omega
  obtain ⟨v, HV⟩ : ∃ v, Hid (closedB t ds f = v) := ⟨_, rfl⟩
  obtain ⟨x, HX⟩ : ∃ v, Hid (bondOkB t f g = v) := ⟨_, rfl⟩
  rw [HV.out, HX.out] at HE
  rw [HV.out, HX.out] at hrng
  rw [HE.out]
  have HRG := Lib.hid hrng
  clear ha hrng
  by_cases hv : 0 ≤ v
  · have hd : decide (0 ≤ v) = true := decide_eq_true hv
    rw [hd]
    cases x
    · go_enter Try.func26, Try.ntmps26
      go_wp2_with fail
      refine (sClosedBy_is HV HA1.out).mono ?_
      rintro e w1 ⟨rfl, hb⟩
      have HB2 := Lib.hid (bel_trans HB1.out hb)
      obtain ⟨hc0, hc1, _⟩ := HX1.out.below hb
      clear hb
      go_wp2_with fail
      refine (sBondOk_is HX _).mono ?_
      rintro e w2 ⟨rfl, hb⟩
      have HB3 := Lib.hid (bel_trans HB2.out hb)
      clear hb
      go_wp2_with fail
      go_ret
      exact ⟨rfl, HB3.out⟩
    · obtain ⟨hg0, hg7, hv7⟩ := HRG.out hv rfl
      obtain ⟨y, HY⟩ : ∃ b, Hid (withinB g v = b) := ⟨_, rfl⟩
      rw [HY.out]
      go_enter Try.func26, Try.ntmps26
      go_wp2_with fail
      refine (sClosedBy_is HV HA1.out).mono ?_
      rintro e w1 ⟨rfl, hb⟩
      have HB2 := Lib.hid (bel_trans HB1.out hb)
      have HX2 := Lib.hid (HX1.out.below hb)
      obtain ⟨hc0, hc1, _⟩ := HX2.out
      clear hb
      go_wp2_with fail
      refine (sBondOk_is HX _).mono ?_
      rintro e w2 ⟨rfl, hb⟩
      have HB3 := Lib.hid (bel_trans HB2.out hb)
      clear hc0 hc1
      obtain ⟨hc0, hc1, _⟩ := HX2.out.below hb
      clear hb
      go_wp2_with fail
      refine (sWithin_is HY hg0 (by omega) hv (by omega) _).mono ?_
      rintro e w' ⟨rfl, q, rfl⟩
      go_wp2_with fail
      go_ret
      exact ⟨rfl, bel_drewN HB3.out _⟩
  · have hd : decide (0 ≤ v) = false := decide_eq_false hv
    rw [hd]
    clear hv
    go_enter Try.func26, Try.ntmps26
    go_wp2_with fail
    refine (sClosedBy_is HV HA1.out).mono ?_
    rintro e w1 ⟨rfl, hb⟩
    have HB2 := Lib.hid (bel_trans HB1.out hb)
    clear hb
    go_wp2_with fail
    go_ret
    exact ⟨rfl, HB2.out⟩
theorem sBondFollows_is {t f g : Int} {ds : List (Int × Int)} {v : Bool} (h : Hid (bondFollowsB t ds f g = v)) {A : Option Addr} {n c : Nat} {w : World} (ha : BRow w A n c ds) :
    Calls Try.prog 26 #[.int .i64 t, .slice A n c, .agg #[.int .i64 f, .int .i64 g]] w (BPost v w) := by
  have := sBondFollows t f g A n c ds w ha
  rw [h.out] at this; exact this
end Go.Proofs.Ytannpnhboeopdaa
