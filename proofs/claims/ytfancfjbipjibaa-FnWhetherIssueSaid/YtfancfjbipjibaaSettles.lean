/-
  Settles and GrantedBy, the program's and the model's.
-/
import Derived.Test.YtfancfjbipjibaaIssueOk
namespace Go.Proofs.Ytfancfjbipjibaa
open Go.RowKit

def settlesB (t : Int) (xs : List Int) (s : Int) : Bool := issueOkB t xs && setOkB t s && anyWithin s xs

theorem iSetOk_is {t s : Int} {b : Bool} (h : Hid (setOkB t s = b)) (w : World) : Calls Try.prog 62 #[.int .i64 t, .int .i64 s] w fun e w' => e = .returned (.bool b) ∧ w = w' :=
  (iSetOk t s w).mono fun _ _ ⟨he, hw⟩ => ⟨he.trans (ret_bool h.out), hw⟩
theorem iIssueOk_is {t : Int} {xs : List Int} {b : Bool} (h : Hid (issueOkB t xs = b)) (A : Option Addr) (nn c : Nat) (w : World) (hn : nn = xs.length) (hl : nn ≤ 1048576) (hc : nn ≤ c) (hm : c ≤ maxLen) (hA : Nums .i64 w A xs) :
    Calls Try.prog 24 #[.int .i64 t, .slice A nn c] w fun e w' => e = .returned (.bool b) ∧ ∃ n, w' = w.drewN n :=
  (iIssueOk t A nn c xs w hn hl hc hm hA).mono fun _ _ ⟨he, hw⟩ => ⟨he.trans (ret_bool h.out), hw⟩
theorem sIssueOk_is {t : Int} {xs : List Int} {b : Bool} (h : Hid (issueOkB t xs = b)) (A : Option Addr) (nn c : Nat) (w : World) (hn : nn = xs.length) (hl : nn ≤ 1048576) (hA : Nums .i64 w A xs) :
    Calls Try.prog 33 #[.int .i64 t, .slice A nn c] w fun e w' => e = .returned (.bool b) ∧ ∃ n, w' = w.drewN n :=
  (sIssueOk t A nn c xs w hn hl hA).mono fun _ _ ⟨he, hw⟩ => ⟨he.trans (ret_bool h.out), hw⟩

set_option maxHeartbeats 1000000 in
theorem iSettles (t : Int) (A : Option Addr) (nn c : Nat) (xs : List Int) (s : Int) (w : World) (hn : nn = xs.length) (hl : nn ≤ 1048576) (hc : nn ≤ c) (hm : c ≤ maxLen) (hA : Nums .i64 w A xs) :
    Calls Try.prog 23 #[.int .i64 t, .slice A nn c, .int .i64 s] w fun e w' => e = .returned (.bool (settlesB t xs s)) ∧ ∃ n, w' = w.drewN n := by
  subst hn
  have HM := Lib.hid hm
  have HA := Lib.hid hA
  clear hA hm
  rcases h1 : setOkB t s with _ | _
  · have H1 := Lib.hid h1
    have HF : Hid (settlesB t xs s = false) := by unfold Hid settlesB; rw [h1]; simp
    clear h1
    go_enter Try.func23, Try.ntmps23
    go_wp2_with fail
    refine (iSetOk_is H1 _).mono ?_
    rintro e w' ⟨rfl, rfl⟩
    go_wp2_with fail
    go_ret
    exact ⟨ret_bool HF.out.symm, 0, rfl⟩
  · rcases h2 : issueOkB t xs with _ | _
    · have H1 := Lib.hid h1
      have H2 := Lib.hid h2
      have HF : Hid (settlesB t xs s = false) := by unfold Hid settlesB; rw [h2]; rfl
      clear h1 h2
      go_enter Try.func23, Try.ntmps23
      go_wp2_with fail
      refine (iSetOk_is H1 _).mono ?_
      rintro e w' ⟨rfl, rfl⟩
      go_wp2_with fail
      refine (iIssueOk_is H2 _ _ _ _ rfl hl hc HM.out HA.out).mono ?_
      rintro e w' ⟨rfl, n, rfl⟩
      go_wp2_with fail
      go_ret
      exact ⟨ret_bool HF.out.symm, _, rfl⟩
    · have H1 := Lib.hid h1
      have H2 := Lib.hid h2
      have HF : Hid (settlesB t xs s = anyWithin s xs) := by unfold Hid settlesB; rw [h1, h2]; rfl
      obtain ⟨_, _, hs0, _, hs1⟩ := setOkB_lt h1
      clear h1 h2
      go_enter Try.func23, Try.ntmps23
      go_wp2_with fail
      refine (iSetOk_is H1 _).mono ?_
      rintro e w' ⟨rfl, rfl⟩
      go_wp2_with fail
      refine (iIssueOk_is H2 _ _ _ _ rfl hl hc HM.out HA.out).mono ?_
      rintro e w' ⟨rfl, n, rfl⟩
      go_wp2_with fail
      refine (iWithinAny _ _ _ _ xs _ rfl hs0 hs1 (issue_range H2.out) hl (by exact HA.out)).mono ?_
      rintro e w' ⟨rfl, rfl⟩
      go_wp2_with fail
      go_ret
      exact ⟨ret_bool HF.out.symm, _, rfl⟩

def unionI (xs : List Int) : Int := xs.foldl orI 0
def grantedI (t : Int) (xs : List Int) : Int := if issueOkB t xs = true then unionI xs else -1
theorem union_snoc {xs : List Int} {i : Nat} {x : Int} (hx : Hid (xs[i]? = some x)) : unionI (xs.take (i + 1)) = orI (unionI (xs.take i)) x := by
  unfold unionI; rw [take_snoc hx, List.foldl_append]; rfl
theorem union_range {xs : List Int} (h : ∀ x ∈ xs, 0 ≤ x ∧ x < 256) : 0 ≤ unionI xs ∧ unionI xs < 256 := by
  unfold unionI
  have : ∀ (l : List Int) (a : Int), 0 ≤ a ∧ a < 256 → (∀ x ∈ l, 0 ≤ x ∧ x < 256) → 0 ≤ l.foldl orI a ∧ l.foldl orI a < 256 := by
    intro l
    induction l with
    | nil => intro a ha _; exact ha
    | cons x r ih =>
      intro a ha hr
      exact ih _ ⟨orI_nonneg _ _, orI_lt _ _ ha.2 (hr x (by simp)).2⟩ fun y hy => hr y (by simp [hy])
  exact this xs 0 (by omega) h
theorem union_take_range {xs : List Int} (h : Hid (∀ x ∈ xs, 0 ≤ x ∧ x < 256)) (k : Nat) : 0 ≤ unionI (xs.take k) ∧ unionI (xs.take k) < 256 :=
  union_range fun x hx => h.out x (List.mem_of_mem_take hx)

theorem ofInt_i64 (a : Nat) (ha : a < 9223372036854775808) : (BitVec.ofInt 64 (a : Int)).toNat = a := by
  rw [BitVec.ofInt_natCast, BitVec.toNat_ofNat]; exact Nat.mod_eq_of_lt (by omega)
theorem bits_or (a b : Int) (ha : 0 ≤ a) (ha2 : a < 1024) (hb : 0 ≤ b) (hb2 : b < 1024) : bits .or .i64 a b = orI a b := by
  obtain ⟨a, rfl⟩ := Int.eq_ofNat_of_zero_le ha
  obtain ⟨b, rfl⟩ := Int.eq_ofNat_of_zero_le hb
  have hx : a ||| b < 2 ^ 10 := Nat.or_lt_two_pow (by omega) (by omega)
  show IntKind.i64.wrap ((BitVec.ofInt 64 (a : Int) ||| BitVec.ofInt 64 (b : Int)).toNat : Int) = _
  rw [BitVec.toNat_or, ofInt_i64 a (by omega), ofInt_i64 b (by omega), IntKind.wrap_i64, orI_nat]
  omega
theorem bits_and (a b : Int) (ha : 0 ≤ a) (ha2 : a < 1024) (hb : 0 ≤ b) (_ : b < 1024) : bits .and .i64 a b = andI a b := by
  obtain ⟨a, rfl⟩ := Int.eq_ofNat_of_zero_le ha
  obtain ⟨b, rfl⟩ := Int.eq_ofNat_of_zero_le hb
  have hx : a &&& b ≤ a := Nat.and_le_left
  show IntKind.i64.wrap ((BitVec.ofInt 64 (a : Int) &&& BitVec.ofInt 64 (b : Int)).toNat : Int) = _
  rw [BitVec.toNat_and, ofInt_i64 a (by omega), ofInt_i64 b (by omega), IntKind.wrap_i64, andI_nat]
  omega

set_option maxHeartbeats 1000000 in
theorem iGrantedBy (t : Int) (A : Option Addr) (nn c : Nat) (xs : List Int) (w : World) (hn : nn = xs.length) (hl : nn ≤ 1048576) (hc : nn ≤ c) (hm : c ≤ maxLen) (hA : Nums .i64 w A xs) :
    Calls Try.prog 25 #[.int .i64 t, .slice A nn c] w fun e w' => e = .returned (.int .i64 (grantedI t xs)) ∧ ∃ n, w' = w.drewN n := by
  subst hn
  have HM := Lib.hid hm
  have HA := Lib.hid hA
  clear hA hm
  rcases h2 : issueOkB t xs with _ | _
  · have H2 := Lib.hid h2
    have HF : Hid (grantedI t xs = -1) := by unfold Hid grantedI; rw [h2]; rfl
    clear h2
    go_enter Try.func25, Try.ntmps25
    go_wp2_with fail
    refine (iIssueOk_is H2 _ _ _ _ rfl hl hc HM.out HA.out).mono ?_
    rintro e w' ⟨rfl, n, rfl⟩
    go_wp2_with fail
    go_ret
    exact ⟨ret_int HF.out.symm, _, rfl⟩
  · have H2 := Lib.hid h2
    have HR := Lib.hid (issue_range h2)
    have HF : Hid (grantedI t xs = unionI xs) := by unfold Hid grantedI; rw [h2]; rfl
    clear h2
    go_enter Try.func25, Try.ntmps25
    go_wp2_with fail
    refine (iIssueOk_is H2 _ _ _ _ rfl hl hc HM.out HA.out).mono ?_
    rintro e w' ⟨rfl, n, rfl⟩
    go_wp2_with fail
    go_loop [5, 14] (fun g i => ∃ k : Nat, k ≤ xs.length ∧ i = .int .i64 k ∧ g = .int .i64 (unionI (xs.take k))) (fun _ i => xs.length - (intOf i).toNat)
    case atStart => exact ⟨0, Nat.zero_le _, rfl, rfl⟩
    case round =>
      obtain ⟨k, hk, rfl, rfl⟩ := hrel
      by_cases hlt : k < xs.length
      · obtain ⟨b, off, x, rfl, hcell, hx, _⟩ := HA.out.elem hlt
        obtain ⟨he1, he2⟩ := HR.out x (elem_mem hx)
        obtain ⟨hg1, hg2⟩ := union_take_range HR k
        have HU : Hid (unionI (xs.take (k + 1)) = bits .or .i64 (unionI (xs.take k)) x) := by unfold Hid; rw [union_snoc hx, bits_or _ _ hg1 (by omega) he1 (by omega)]
        go_wp2
        go_round
        case rel => exact ⟨k + 1, by omega, by go_num, by rw [HU.out]⟩
        case measure => simp [intOf]; omega
      · obtain rfl : k = xs.length := by omega
        have HT : Hid (unionI (xs.take xs.length) = grantedI t xs) := by unfold Hid; rw [List.take_length, HF.out]
        go_wp2
        go_ret
        exact ⟨ret_int (by first | exact HT.out | (rw [HF.out])), _, rfl⟩

end Go.Proofs.Ytfancfjbipjibaa
