/-
  The walk of the law of StatementOf.
-/
import Derived.Test.YtfancfjbipjibaaLaws3
import Derived.Test.YtfancfjbipjibaaBoth
namespace Go.Proofs.Ytfancfjbipjibaa
open Go.RowKit

theorem iSettles_is {t : Int} {xs : List Int} {s : Int} {b : Bool} (h : Hid (settlesB t xs s = b)) (A : Option Addr) (nn c : Nat) (w : World) (hn : nn = xs.length) (hl : nn ≤ 1048576) (hc : nn ≤ c) (hm : c ≤ maxLen) (hA : Nums .i64 w A xs) :
    Calls Try.prog 23 #[.int .i64 t, .slice A nn c, .int .i64 s] w fun e w' => e = .returned (.bool b) ∧ ∃ n, w' = w.drewN n :=
  (iSettles t A nn c xs s w hn hl hc hm hA).mono fun _ _ ⟨he, hw⟩ => ⟨he.trans (ret_bool h.out), hw⟩
theorem lWhole_is {t al : Int} (h : Hid (allOf t = al)) (h1 : 1 ≤ t) (h3 : t ≤ 3) (w : World) : Calls Try.prog 22 #[.int .i64 t] w fun e w' => e = .returned (.int .i64 al) ∧ w = w' :=
  (lWhole t w h1 h3).mono fun _ _ ⟨he, hw⟩ => ⟨he.trans (ret_int h.out), hw⟩
theorem setOk_of {t k : Int} (h1 : 1 ≤ t) (h3 : t ≤ 3) (h0 : 0 ≤ k) (hk : k ≤ allOf t) : setOkB t k = true := by
  unfold setOkB; apply decide_eq_true; exact ⟨h1, h3, h0, hk⟩
theorem issue_one {t s : Int} (h : setOkB t s = true) : issueOkB t [s] = true := by
  unfold issueOkB partsOkB pairB; simp [h]
theorem settles_one {t s k : Int} (h : setOkB t s = true) (hk : setOkB t k = true) : settlesB t [s] k = withinB k s := by
  unfold settlesB; rw [issue_one h, hk]; simp [anyWithin]
theorem granted_one {t s : Int} (h : setOkB t s = true) : grantedI t [s] = s := by
  have := setOkB_lt h
  unfold grantedI unionI; rw [issue_one h]; simp [orI]; omega

end Go.Proofs.Ytfancfjbipjibaa
