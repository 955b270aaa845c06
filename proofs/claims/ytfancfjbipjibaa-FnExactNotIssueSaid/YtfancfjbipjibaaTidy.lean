/-
  The model's l1Tidy and IssueFrom.
-/
import Derived.Test.YtfancfjbipjibaaStatement
import Derived.OwnWalk
namespace Go.Proofs.Ytfancfjbipjibaa
open Go.RowKit

theorem wp_append1 {W : World} {ops : Array Oper} {rest : List Oper} {o : Oper} {a : Act} {Q : Exit → Act → World → Prop} (hgd : o.guard = none) (s x : Operand)
    (ho : o.op = .call { callee := .builtin .append, args := #[s, x], argTypes := #[23, 23] }) (base : Nat) (v : Value) (xs : List Int) (hs : a.eval s = v) (hown : Owns W base v xs)
    (y : Int) (hx : a.eval x = .slice (some ⟨W.heap.size, 0, none⟩) 1 1) (hl : xs.length ≤ 1048576) (hb : base ≤ W.heap.size)
    (h : ∀ v' w', Owns w' base v' (xs ++ [y]) → (W.alloc (.cells #[.int .i64 y] 3)).grownBy w' v.ownBlock → wpList Try.prog ops Q rest (a.put o.dst v') w') :
    wpList Try.prog ops Q (o :: rest) a (W.alloc (.cells #[.int .i64 y] 3)) := by
  obtain ⟨i0, hi0, hz0, hz1, hz2⟩ := info_parts int_info
  refine wpList_append_own _ hgd s x 23 ho base 3 i0 (.int .i64 0) 1 8 Try.underlying23 hi0 hz0 hz1 hz2 rfl (by decide) v xs.length (xs.map (Value.int .i64)) hs (World.ownsRow.alloc hown _)
    ⟨W.heap.size, 0, none⟩ 1 1 [.int .i64 y] hx rfl (cell_one_new _ _ _) (fun u hu => by rw [List.mem_singleton] at hu; subst hu; rfl) (by simp only [maxLen]; omega) (by omega) (by rw [World.size_alloc]; omega) ?_
  intro v' w' h1 h2 _
  refine h v' w' ?_ h2
  unfold Owns
  simpa using h1
/-- What an append of the call's own row leaves below a block that is older than the row. -/
theorem below_append {B : Nat} {a W w' : World} {base : Nat} {v : Value} {xs : List Int} {o : Obj} (h : Below B a W) (hB : B ≤ W.heap.size) (hown : Owns W base v xs) (hbase : B ≤ base) (hg : (W.alloc o).grownBy w' v.ownBlock) : Below B a w' :=
  (h.alloc hB o).grown hg (by simp; omega) fun k e => by have := (World.ownsRow.lt hown k e).1; omega

def hereB (xs : List Int) (s : Int) (j : Nat) : Bool := decide (s ∈ xs.take j)
def topB (xs : List Int) (s : Int) (j : Nat) : Bool := (xs.take j).all (fun x => decide (x = s) || !withinB s x)
def keepB (xs : List Int) (s : Int) : Bool := decide (s ∈ xs) && xs.all (fun x => decide (x = s) || !withinB s x)
def tidyTo (xs : List Int) (k : Nat) : List Int := ((List.range k).map (fun n : Nat => (n : Int))).filter (keepB xs)
def tidyL (xs : List Int) : List Int := tidyTo xs 256
theorem here_next {xs : List Int} {s x : Int} {j : Nat} {b : Bool} (h : Hid (hereB xs s j = b)) (hx : Hid (xs[j]? = some x)) : hereB xs s (j + 1) = (b || decide (x = s)) := by
  rw [← h.out]; unfold hereB; rw [take_snoc hx, Bool.eq_iff_iff]; simp only [List.mem_append, List.mem_singleton, Bool.or_eq_true, decide_eq_true_eq]; exact or_congr Iff.rfl eq_comm
theorem top_next {xs : List Int} {s x : Int} {j : Nat} {b : Bool} (h : Hid (topB xs s j = b)) (hx : Hid (xs[j]? = some x)) : topB xs s (j + 1) = (b && (decide (x = s) || !withinB s x)) := by
  rw [← h.out]; unfold topB; rw [take_snoc hx, List.all_append]; simp
theorem keep_of {xs : List Int} {s : Int} {b1 b2 : Bool} (h1 : Hid (hereB xs s xs.length = b1)) (h2 : Hid (topB xs s xs.length = b2)) : keepB xs s = (b1 && b2) := by
  rw [← h1.out, ← h2.out]; unfold keepB hereB topB; rw [List.take_length]
theorem tidy_next (xs : List Int) (k : Nat) : tidyTo xs (k + 1) = tidyTo xs k ++ (if keepB xs k = true then [(k : Int)] else []) := by
  unfold tidyTo
  rw [List.range_succ, List.map_append, List.filter_append]
  simp only [List.map_cons, List.map_nil, List.filter_cons, List.filter_nil]
theorem tidy_len (xs : List Int) (k : Nat) : (tidyTo xs k).length ≤ k := by
  unfold tidyTo
  refine Nat.le_trans (List.length_filter_le _ _) (by simp)

set_option maxRecDepth 100000 in
set_option maxHeartbeats 4000000 in
theorem sTidy (A : Option Addr) (nn c : Nat) (xs : List Int) (w : World) (hn : nn = xs.length) (hl : nn ≤ 1048576) (hr : ∀ x ∈ xs, 0 ≤ x ∧ x < 256) (hA : Nums .i64 w A xs) :
    Calls Try.prog 60 #[.slice A nn c] w fun e w' => ∃ v, e = .returned v ∧ Owns w' w.heap.size v (tidyL xs) ∧ Below w.heap.size w w' := by
  subst hn
  have HA := Lib.hid hA
  have HR := Lib.hid hr
  clear hr hA
  go_enter Try.func60, Try.ntmps60
  go_wp2
  go_loopw [3, 4] (fun v i wr => ∃ k : Nat, k ≤ 256 ∧ i = .int .i64 k ∧ Owns wr w.heap.size v (tidyTo xs k) ∧ Below w.heap.size w wr) (fun _ i _ => 256 - (intOf i).toNat)
  case atStart => exact ⟨0, by omega, rfl, Owns.lit _ _ [] (Nat.le_refl _) (by simp [maxLen]), (Below.refl _ _).alloc (Nat.le_refl _) _⟩
  case round =>
    obtain ⟨k, hk, rfl, hown, hbel⟩ := hrel
    have HOW := Lib.hid hown
    have HB := Lib.hid hbel
    clear hown hbel
    by_cases hlt : k < 256
    · have hd256 : decide ((k : Int) < 256) = true := decide_eq_true (by omega)
      go_wp2
      clear hd256
      go_loopw [5, 6, 7] (fun h g j wi => ∃ (i : Nat) (b1 b2 : Bool), i ≤ xs.length ∧ j = .int .i64 i ∧ h = .bool b1 ∧ g = .bool b2 ∧ Hid (hereB xs k i = b1) ∧ Hid (topB xs k i = b2) ∧ ∃ m, wi = wr.drewN m) (fun _ _ j _ => xs.length - (intOf j).toNat)
      case atStart => exact ⟨0, false, true, Nat.zero_le _, rfl, rfl, rfl, by unfold Hid hereB; simp, rfl, 0, rfl⟩
      case round =>
        obtain ⟨i, b1, b2, hi, rfl, rfl, rfl, hh, ht, m, rfl⟩ := hrel
        by_cases hil : i < xs.length
        · obtain ⟨b, off, x, rfl, hcell, hx, _⟩ := (HA.out.below HB.out).elem hil
          obtain ⟨hx0, hx1⟩ := HR.out x (elem_mem hx)
          by_cases hxs : x = (k : Int)
          · have hq1 : (x == (k : Int)) = true := by simp [hxs]
            have hq2 : (x != (k : Int)) = false := by simp [hxs]
            have HH : Hid (hereB xs k (i + 1) = true) := by unfold Hid; rw [here_next hh hx, decide_eq_true hxs]; simp
            have HT : Hid (topB xs k (i + 1) = b2) := by unfold Hid; rw [top_next ht hx, decide_eq_true hxs]; simp
            clear hxs
            cases b1
            · go_wp2_with fail
              go_roundw
              case rel => exact ⟨i + 1, true, b2, by omega, by go_num, rfl, rfl, HH, HT, _, rfl⟩
              case measure => simp [intOf]; omega
            · go_wp2_with fail
              go_roundw
              case rel => exact ⟨i + 1, true, b2, by omega, by go_num, rfl, rfl, HH, HT, _, rfl⟩
              case measure => simp [intOf]; omega
          · have hq1 : (x == (k : Int)) = false := by simp [hxs]
            have hq2 : (x != (k : Int)) = true := by simp [hxs]
            have HH : Hid (hereB xs k (i + 1) = b1) := by unfold Hid; rw [here_next hh hx, decide_eq_false hxs]; simp
            obtain ⟨wb, HW⟩ : ∃ wb, Hid (withinB (k : Int) x = wb) := ⟨_, rfl⟩
            have HT : Hid (topB xs k (i + 1) = (b2 && !wb)) := by unfold Hid; rw [top_next ht hx, decide_eq_false hxs, HW.out]; simp
            clear hxs
            cases b1
            · cases wb
              · go_wp2_with fail
                refine (sWithin_is HW (by omega) (by omega) hx0 hx1 _).mono ?_
                rintro e w' ⟨rfl, m2, rfl⟩
                go_wp2_with fail
                go_roundw
                case rel => exact ⟨i + 1, false, b2, by omega, by go_num, rfl, rfl, HH, by unfold Hid; rw [HT.out]; simp, _, rfl⟩
                case measure => simp [intOf]; omega
              · go_wp2_with fail
                refine (sWithin_is HW (by omega) (by omega) hx0 hx1 _).mono ?_
                rintro e w' ⟨rfl, m2, rfl⟩
                go_wp2_with fail
                go_roundw
                case rel => exact ⟨i + 1, false, false, by omega, by go_num, rfl, rfl, HH, by unfold Hid; rw [HT.out]; simp, _, rfl⟩
                case measure => simp [intOf]; omega
            · cases wb
              · go_wp2_with fail
                refine (sWithin_is HW (by omega) (by omega) hx0 hx1 _).mono ?_
                rintro e w' ⟨rfl, m2, rfl⟩
                go_wp2_with fail
                go_roundw
                case rel => exact ⟨i + 1, true, b2, by omega, by go_num, rfl, rfl, HH, by unfold Hid; rw [HT.out]; simp, _, rfl⟩
                case measure => simp [intOf]; omega
              · go_wp2_with fail
                refine (sWithin_is HW (by omega) (by omega) hx0 hx1 _).mono ?_
                rintro e w' ⟨rfl, m2, rfl⟩
                go_wp2_with fail
                go_roundw
                case rel => exact ⟨i + 1, true, false, by omega, by go_num, rfl, rfl, HH, by unfold Hid; rw [HT.out]; simp, _, rfl⟩
                case measure => simp [intOf]; omega
        · obtain rfl : i = xs.length := by omega
          have HK := Lib.hid (keep_of hh ht)
          have HN := Lib.hid (tidy_next xs k)
          have hlen := tidy_len xs k
          clear hh ht
          cases b1
          · have HN2 : Hid (tidyTo xs (k + 1) = tidyTo xs k) := by unfold Hid; rw [HN.out, HK.out]; simp
            go_wp2_with fail
            go_roundw
            case rel => exact ⟨k + 1, by omega, by go_num, by rw [HN2.out]; exact HOW.out, bel_drewN HB.out m⟩
            case measure => simp [intOf]; omega
          · cases b2
            · have HN2 : Hid (tidyTo xs (k + 1) = tidyTo xs k) := by unfold Hid; rw [HN.out, HK.out]; simp
              go_wp2_with fail
              go_roundw
              case rel => exact ⟨k + 1, by omega, by go_num, by rw [HN2.out]; exact HOW.out, bel_drewN HB.out m⟩
              case measure => simp [intOf]; omega
            · have HN2 : Hid (tidyTo xs (k + 1) = tidyTo xs k ++ [(k : Int)]) := by unfold Hid; rw [HN.out, HK.out]; simp
              have HOW2 : Hid (Owns (wr.drewN m) w.heap.size u3 (tidyTo xs k)) := HOW.out
              have HB2 := Lib.hid (bel_drewN HB.out m)
              go_wp2_with (at_builtin; refine wp_append1 (W := wr.drewN m) rfl _ _ rfl w.heap.size u3 (tidyTo xs k) rfl HOW2.out (k : Int) rfl (by omega) HB2.out.size ?_; intro v' w' hown' hgrow)
              have hb' := below_append HB2.out HB2.out.size HOW2.out (Nat.le_refl _) hgrow
              go_roundw
              case rel => exact ⟨k + 1, by omega, by go_num, by rw [HN2.out]; exact hown', hb'⟩
              case measure => simp [intOf]; omega
    · obtain rfl : k = 256 := by omega
      go_wp2
      go_ret
      exact ⟨_, rfl, HOW.out, HB.out⟩

def issueFromL (t : Int) (xs : List Int) : List Int := if partsOkB t xs = true then tidyL xs else []
theorem from_bad {t : Int} {xs : List Int} (h : partsOkB t xs = false) : issueFromL t xs = [] := by unfold issueFromL; rw [h]; rfl
theorem from_ok {t : Int} {xs : List Int} (h : partsOkB t xs = true) : issueFromL t xs = tidyL xs := by unfold issueFromL; rw [h]; rfl
theorem parts_end {t : Int} {xs : List Int} (h : Hid ((xs.take xs.length).all (setOkB t) = true)) : partsOkB t xs = (inB t 1 3 && inB (xs.length : Int) 1 70) := by
  have h := h.out
  rw [List.take_length] at h
  unfold partsOkB inB
  rw [h, Bool.and_true, Bool.eq_iff_iff]
  simp only [Bool.and_eq_true, decide_eq_true_eq]
  cases xs with
  | nil => simp
  | cons x r =>
    rw [List.all_eq_true] at h
    have := setOkB_lt (h x (by simp))
    simp only [List.length_cons]
    omega
theorem sIn_is {n a b : Int} {v : Bool} (h : Hid (inB n a b = v)) (w : World) : Calls Try.prog 72 #[.int .i64 n, .int .i64 a, .int .i64 b] w fun e w' => e = .returned (.bool v) ∧ w = w' :=
  (sIn n a b w).mono fun _ _ ⟨he, hw⟩ => ⟨he.trans (ret_bool h.out), hw⟩

set_option maxHeartbeats 1000000 in
theorem sIssueFrom (t : Int) (A : Option Addr) (nn c : Nat) (xs : List Int) (w : World) (hn : nn = xs.length) (hl : nn ≤ 1048576) (hA : Nums .i64 w A xs) :
    Calls Try.prog 88 #[.int .i64 t, .slice A nn c] w fun e w' => ∃ v, e = .returned v ∧ Owns w' w.heap.size v (issueFromL t xs) ∧ Below w.heap.size w w' := by
  subst hn
  have HA := Lib.hid hA
  have HE : Hid (∀ o, Below w.heap.size w (w.alloc o)) := fun o => (Below.refl _ _).alloc (Nat.le_refl _) o
  clear hA
  go_enter Try.func88, Try.ntmps88
  go_wp2
  go_loop [5] (fun i => ∃ k : Nat, k ≤ xs.length ∧ i = .int .i64 k ∧ Hid ((xs.take k).all (setOkB t) = true)) (fun i => xs.length - (intOf i).toNat)
  case atStart => exact ⟨0, Nat.zero_le _, rfl, rfl⟩
  case round =>
    obtain ⟨k, hk, rfl, hsofar⟩ := hrel
    by_cases hlt : k < xs.length
    · obtain ⟨b, off, x, rfl, hcell, hx, _⟩ := HA.out.elem hlt
      rcases hs : setOkB t x with _ | _
      · have HS := Lib.hid hs
        have HF := Lib.hid (from_bad (partsOk_miss hx hs))
        clear hs
        go_wp2_with fail
        refine (sSetOk_is HS _).mono ?_
        rintro e w' ⟨rfl, rfl⟩
        go_wp2_with fail
        go_ret
        exact ⟨_, rfl, by rw [HF.out]; exact Owns.lit _ _ [] (Nat.le_refl _) (by simp [maxLen]), HE.out _⟩
      · have HS := Lib.hid hs
        clear hs
        go_wp2_with fail
        refine (sSetOk_is HS _).mono ?_
        rintro e w' ⟨rfl, rfl⟩
        go_wp2_with fail
        go_round
        case rel => exact ⟨k + 1, by omega, by go_num, by unfold Hid; rw [all_snoc hx, hsofar.out, HS.out]; rfl⟩
        case measure => simp [intOf]; omega
    · obtain rfl : k = xs.length := by omega
      have HP := Lib.hid (parts_end hsofar)
      clear hsofar
      rcases h1 : inB t 1 3 with _ | _
      · have H1 := Lib.hid h1
        have HF : Hid (issueFromL t xs = []) := by unfold Hid; rw [from_bad]; rw [HP.out, h1]; rfl
        clear h1
        go_wp2_with fail
        refine (sIn_is H1 _).mono ?_
        rintro e w' ⟨rfl, rfl⟩
        go_wp2_with fail
        go_ret
        exact ⟨_, rfl, by rw [HF.out]; exact Owns.lit _ _ [] (Nat.le_refl _) (by simp [maxLen]), HE.out _⟩
      · rcases h2 : inB (xs.length : Int) 1 70 with _ | _
        · have H1 := Lib.hid h1
          have H2 := Lib.hid h2
          have HF : Hid (issueFromL t xs = []) := by unfold Hid; rw [from_bad]; rw [HP.out, h1, h2]; rfl
          clear h1 h2
          go_wp2_with fail
          refine (sIn_is H1 _).mono ?_
          rintro e w' ⟨rfl, rfl⟩
          go_wp2_with fail
          refine (sIn_is H2 _).mono ?_
          rintro e w' ⟨rfl, rfl⟩
          go_wp2_with fail
          go_ret
          exact ⟨_, rfl, by rw [HF.out]; exact Owns.lit _ _ [] (Nat.le_refl _) (by simp [maxLen]), HE.out _⟩
        · have H1 := Lib.hid h1
          have H2 := Lib.hid h2
          have hok : partsOkB t xs = true := by rw [HP.out, h1, h2]; rfl
          have HR := Lib.hid (partsOk_range hok)
          have HF := Lib.hid (from_ok hok)
          clear h1 h2 hok
          go_wp2_with fail
          refine (sIn_is H1 _).mono ?_
          rintro e w' ⟨rfl, rfl⟩
          go_wp2_with fail
          refine (sIn_is H2 _).mono ?_
          rintro e w' ⟨rfl, rfl⟩
          go_wp2_with fail
          refine (sTidy _ _ _ xs _ rfl hl HR.out HA.out).mono ?_
          rintro e w1 ⟨v, rfl, ho, hb⟩
          have HO := Lib.hid ho
          have HB := Lib.hid hb
          clear ho hb
          go_wp2_with fail
          go_ret
          exact ⟨_, rfl, by rw [HF.out]; exact HO.out, HB.out⟩
end Go.Proofs.Ytfancfjbipjibaa
