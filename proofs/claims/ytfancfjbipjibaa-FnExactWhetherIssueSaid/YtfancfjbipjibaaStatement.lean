/-
  StatementOf, the program's and the model's.
-/
import Derived.Test.YtfancfjbipjibaaSettles
import Derived.Test.YtfancfjbipjibaaCopies
namespace Go.Proofs.Ytfancfjbipjibaa
open Go.RowKit

def statementL (t s : Int) : List Int := if setOkB t s = true then [s] else []

set_option maxHeartbeats 400000 in
theorem iStatementOf (t s : Int) (w : World) : Calls Try.prog 38 #[.int .i64 t, .int .i64 s] w fun e w' => ∃ v, e = .returned v ∧ Owns w' w.heap.size v (statementL t s) ∧ Below w.heap.size w w' := by
  rcases h1 : setOkB t s with _ | _
  · have H1 := Lib.hid h1
    have HF : Hid (statementL t s = []) := by unfold Hid statementL; rw [h1]; rfl
    clear h1
    go_enter Try.func38, Try.ntmps38
    go_wp2_with fail
    refine (iSetOk_is H1 _).mono ?_
    rintro e w' ⟨rfl, rfl⟩
    go_wp2_with fail
    go_ret
    exact ⟨_, rfl, by rw [HF.out]; exact Owns.nil _ _, Below.refl _ _⟩
  · have H1 := Lib.hid h1
    have HF : Hid (statementL t s = [s]) := by unfold Hid statementL; rw [h1]; rfl
    clear h1
    go_enter Try.func38, Try.ntmps38
    go_wp2_with fail
    refine (iSetOk_is H1 _).mono ?_
    rintro e w' ⟨rfl, rfl⟩
    go_wp2_with fail
    go_ret
    exact ⟨_, rfl, by rw [HF.out]; exact Owns.lit _ _ [s] (Nat.le_refl _) (by simp [maxLen]), (Below.refl _ _).alloc (Nat.le_refl _) _⟩

end Go.Proofs.Ytfancfjbipjibaa
