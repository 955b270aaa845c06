/-
  What the proofs of this seat's statements share (LstY).
-/
import Derived.Test.YtfmknllemhdnaaaU16

namespace Go.Proofs.Ytfmknllemhdnaaa
open Go.RowKit

set_option maxHeartbeats 400000 in
theorem drawIssuesOf_any (A : Option Addr) (nn c : Nat) (zs : List Int) (w : World) (hn : nn = zs.length) (hc : nn ≤ c) (hm : c ≤ maxLen) (hr : ∀ z ∈ zs, 0 ≤ z ∧ z ≤ 255) (hA : Nums .u8 w A zs) :
    Calls Try.prog 7 #[.slice A nn c] w (Draw1 0 4 w) := by
  have HO := Lib.hid (open_any A nn c zs w hn hc hm hr hA)
  clear hn hc hm hr hA
  go_enter Try.func7, Try.ntmps7
  go_wp2_with fail
  refine HO.out.mono ?_
  rintro e w1 ⟨rfl, hrd, hb⟩
  have HR := Lib.hid hrd
  have HB := Lib.hid hb
  clear hrd hb
  go_wp2_with fail
  refine (pick_any _ 0 _ _ (by omega) (by omega) (by omega) HR.out).mono ?_
  rintro e w2 ⟨k, rfl, hk0, hk1, _, hg⟩
  have hk := hk1 (by omega)
  have HB2 := Lib.hid (below_grown HB.out hg HB.out.size (Nat.le_refl _))
  clear hg hk1
  go_wp2_with fail
  go_ret
  exact ⟨_, rfl, by omega, by omega, HB2.out⟩
/-- No row is the one ahead of it. -/
def nextB : List (List Int) → Bool
  | x :: y :: r => decide (y ≠ x) && nextB (y :: r)
  | _ => true
theorem next_at : ∀ {L : List (List Int)} {j : Nat} {x y : List Int}, nextB L = true → L[j]? = some x → L[j + 1]? = some y → decide (y = x) = false
  | [], _, _, _, _, h, _ => by simp at h
  | [_], j, _, _, _, _, h => by simp at h
  | a :: b :: r, 0, x, y, h, hx, hy => by
    simp only [nextB, Bool.and_eq_true, decide_eq_true_eq] at h
    simp at hx hy
    subst hx hy
    simpa using h.1
  | a :: b :: r, j + 1, x, y, h, hx, hy => by
    simp only [nextB, Bool.and_eq_true] at h
    exact next_at (j := j) (L := b :: r) h.2 (by simpa using hx) (by simpa using hy)
theorem list_ok {t : Int} {n : Int} (h : t = 1 ∧ n = 5 ∨ t = 2 ∧ n = 167) : (issuesOfL t).all (issueOkB t) = true ∧ nextB (issuesOfL t) = true ∧ ((issuesOfL t).length : Int) = n := by
  rcases h with ⟨rfl, rfl⟩ | ⟨rfl, rfl⟩
  · rw [issues_grow, if_pos rfl]
    exact ⟨by decide +kernel, by decide +kernel, by rw [grow_one]; rfl⟩
  · rw [issues_grow, if_neg (by decide), if_pos rfl]
    exact ⟨by decide +kernel, by decide +kernel, by rw [grow_two]; rfl⟩
theorem list_none {t : Int} (h : t < 1 ∨ 2 < t) : issuesOfL t = [] := by
  rw [issues_grow, if_neg (by omega), if_neg (by omega)]
theorem cells_new2 (W : World) (a b : Value) (t : TypeId) : (W.alloc (.cells #[a, b] t)).cell? ⟨W.heap.size, 0, none⟩ = some a ∧ (W.alloc (.cells #[a, b] t)).cell? ⟨W.heap.size, 1, none⟩ = some b := by
  have h := World.alloc_heap_new W (.cells #[a, b] t)
  constructor <;> (simp only [World.cell?]; rw [h]; rfl)
theorem issues_row {t : Int} {xs : List Int} {b : Bool} (h : Hid (issueOkB t xs = b)) {A : Option Addr} {nn c : Nat} {w : World} (ha : Row w A nn c xs) :
    Calls Try.prog 12 #[.int .i64 t, .slice A nn c] w fun e w' => e = .returned (.bool b) ∧ ∃ n, w' = w.drewN n := iIssueOk_is h A nn c w ha.hn ha.hl ha.hc ha.hm ha.hA
set_option maxRecDepth 100000 in
set_option maxHeartbeats 8000000 in
theorem wIssuesOf (A : Option Addr) (nn c : Nat) (zs : List Int) (w : World) (hn : nn = zs.length) (hc : nn ≤ c) (hm : c ≤ maxLen) (hr : ∀ z ∈ zs, 0 ≤ z ∧ z ≤ 255) (hA : Nums .u8 w A zs) :
    Calls Try.prog 3 #[.slice A nn c] w fun e w' => e = .returned (.bool true) ∧ Below w.heap.size w w' := by
  have HO := Lib.hid (drawIssuesOf_any A nn c zs w hn hc hm hr hA)
  have hm' : nn ≤ 9223372036854775807 := by unfold maxLen at hm; omega
  clear hn hc hm hr hA
  by_cases hl : 1048576 < nn
  · have hd : decide ((1048576 : Int) < (nn : Int)) = true := decide_eq_true (by omega)
    go_enter Try.func3, Try.ntmps3
    go_wp2_with fail
    go_ret
    exact ⟨rfl, Below.refl _ _⟩
  have hd : decide ((1048576 : Int) < (nn : Int)) = false := decide_eq_false (by omega)
  clear hl
  go_enter Try.func3, Try.ntmps3
  go_wp2_with fail
  refine HO.out.mono ?_
  rintro e w1 ⟨t, rfl, ht0, ht1, hb⟩
  have HB1 := Lib.hid hb
  clear hb HO hd
  have HIM : Hid (∀ W, Calls Try.prog 8 #[.int .i64 t] W (RowsPost (issuesOfL t) W)) := iIssuesOf t
  have HSP : Hid (∀ W, Calls Try.prog 10 #[.int .i64 t] W (OwnR (issuesOfL t) W)) := sIssuesOf t
  have hl := list_len t
  obtain ⟨L, HL⟩ : ∃ L, Hid (issuesOfL t = L) := ⟨_, rfl⟩
  rw [HL.out] at HIM HSP hl
  go_wp2_with fail
  refine (HIM.out _).mono ?_
  rintro e w2 ⟨v, us, rfl, ho, _, hb⟩
  obtain ⟨A2, c2, rfl, _⟩ := ho.form
  have HO2 := Lib.hid ho
  have HB2 := Lib.hid (bel_trans HB1.out hb)
  clear ho hb
  go_wp2_with fail
  refine (HSP.out _).mono ?_
  rintro e w3 ⟨v, vs, rfl, ho, hb⟩
  obtain ⟨A3, c3, rfl, _⟩ := ho.form
  have HO3 := Lib.hid ho
  have HO2 := Lib.hid (HO2.out.below hb)
  have HB3 := Lib.hid (bel_trans HB2.out hb)
  clear ho hb
  go_wp2_with fail
  refine (lSameRows HO2.out HO3.out (by omega)).mono ?_
  rintro e w' ⟨rfl, q1, rfl⟩
  by_cases hbad : t < 1 ∨ 2 < t
  · have HE : Hid (L.length = 0) := by unfold Hid; rw [← HL.out, list_none hbad]; rfl
    rcases hbad with hbad | hbad
    · have hz : ((L.length : Int) == 0) = true := by rw [HE.out]; rfl
      go_wp2_with fail
      refine (lAlive _).mono ?_
      rintro e w' ⟨rfl, rfl⟩
      go_wp2_with fail
      go_ret
      exact ⟨rfl, bel_drewN HB3.out _⟩
    · have hz : ((L.length : Int) == 0) = true := by rw [HE.out]; rfl
      have hge : ¬ (t < 1) := by omega
      go_wp2_with fail
      refine (lAlive _).mono ?_
      rintro e w' ⟨rfl, rfl⟩
      go_wp2_with fail
      go_ret
      exact ⟨rfl, bel_drewN HB3.out _⟩
  · have h : t = 1 ∨ t = 2 := by omega
    clear hbad ht0 ht1
    obtain ⟨n, hn⟩ : ∃ n : Int, t = 1 ∧ n = 5 ∨ t = 2 ∧ n = 167 := by
      rcases h with h | h
      · exact ⟨5, .inl ⟨h, rfl⟩⟩
      · exact ⟨167, .inr ⟨h, rfl⟩⟩
    obtain ⟨hok, hnx, hnl⟩ := list_ok hn
    rw [HL.out] at hok hnx hnl
    have HOK : Hid (∀ x ∈ L, issueOkB t x = true) := fun x hx => List.all_eq_true.1 hok x hx
    have HNX := Lib.hid hnx
    have HNL := Lib.hid hnl
    clear hok hnx hnl h
    have h1 : ¬ (t < 1) := by omega
    have h2 : ¬ (2 < t) := by omega
    go_wp2_with fail
    go_loopw [5] (fun i wr => ∃ k : Nat, k ≤ L.length ∧ i = .int .i64 k ∧ ∃ q, wr = w3.drewN q) (fun i _ => L.length - (Go.RowKit.intOf i).toNat)
    case atStart => exact ⟨0, Nat.zero_le _, rfl, q1, rfl⟩
    case round =>
      obtain ⟨k, hk, rfl, q, rfl⟩ := hrel
      by_cases hlt : k < L.length
      · obtain ⟨g1, o1, A1, c1, x, rfl, hcx, hx, hr1, _, hx3, _⟩ := HO2.out.elemO hlt
        have HKX := Lib.hid (HOK.out x (List.mem_of_getElem? hx.out))
        rcases Nat.eq_zero_or_pos k with rfl | hpos
        · rw [Nat.add_zero] at hcx
          go_wp2_with fail
          go_quiet ((go_at_call 12; exact quiet_more (issues_row HKX (hr1.out.drewN _))))
          go_wp2_with fail
          go_roundw
          case rel => exact ⟨1, by omega, by go_num, _, by first | rfl | rw [World.drewN_drewN]⟩
          case measure => simp [Go.RowKit.intOf]; omega
        · obtain ⟨j, hj⟩ : ∃ j, k = j + 1 := ⟨k - 1, by omega⟩
          obtain ⟨g2, o2, A2', c2', y, hge, hcy, hy, hr2, _, hy3, _⟩ := HO2.out.elemO (i := j) (by omega)
          cases hge
          have HNE : Hid (decide (x = y) = false) := next_at HNX.out hy.out (by rw [← hj]; exact hx.out)
          have hkz : decide ((0 : Int) < (k : Int)) = true := decide_eq_true (by omega)
          have hkj : IntKind.i64.wrap ((k : Int) - 1) = (j : Int) := (wrap_small _ (by omega) (by omega)).trans (by omega)
          have hjl : (j : Int) < (L.length : Int) := by omega
          clear hj
          go_wp2_with fail
          go_quiet (first | (go_at_call 12; exact quiet_more (issues_row HKX (hr1.out.drewN _))) | (go_at_call 13; exact quiet_more (lSame6 HNE rfl rfl (by omega) (by omega) (hr1.out.drewN _).hA (hr2.out.drewN _).hA)))
          go_wp2_with fail
          go_roundw
          case rel => exact ⟨k + 1, by omega, by go_num, _, by first | rfl | rw [World.drewN_drewN]⟩
          case measure => simp [Go.RowKit.intOf]; omega
      · obtain rfl : k = L.length := by omega
        rcases hn with ⟨rfl, rfl⟩ | ⟨rfl, rfl⟩
        · clear h1 h2
          have hnew : ((w3.drewN q).alloc (.cells #[.int .i64 5, .int .i64 167] 3)).cell? ⟨w3.heap.size, 0, none⟩ = some (.int .i64 5) := (cells_new2 (w3.drewN q) (.int .i64 5) (.int .i64 167) 3).1
          go_wp2_with fail
          go_ret
          exact ⟨ret_bool (by rw [HNL.out]; rfl), by first | exact bel_drewN HB3.out _ | exact (bel_drewN HB3.out q).alloc (by have := HB3.out.size; exact this) _⟩
        · clear h1 h2
          have hnew : ((w3.drewN q).alloc (.cells #[.int .i64 5, .int .i64 167] 3)).cell? ⟨w3.heap.size, 1, none⟩ = some (.int .i64 167) := (cells_new2 (w3.drewN q) (.int .i64 5) (.int .i64 167) 3).2
          go_wp2_with fail
          go_ret
          exact ⟨ret_bool (by rw [HNL.out]; rfl), by first | exact bel_drewN HB3.out _ | exact (bel_drewN HB3.out q).alloc (by have := HB3.out.size; exact this) _⟩
end Go.Proofs.Ytfmknllemhdnaaa
