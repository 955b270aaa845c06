/-
  Walks of the laws of WorldsOf, SetOk, StatementOf, over whatever is drawn.
-/
import Derived.Test.YtfancfjbipjibaaDraw
import Derived.Test.YtfancfjbipjibaaStatement
import Derived.OpenShut
namespace Go.Proofs.Ytfancfjbipjibaa
open Go.RowKit

theorem bytes_range {xs : List Int} (h : ∀ x ∈ xs, (Lit.int .u8 x).wf = true) : ∀ z ∈ xs, 0 ≤ z ∧ z ≤ 255 := fun z hz => bounds_u8 (h z hz)
def Draw1 (lo hi : Int) (w : World) (e : Ending) (w' : World) : Prop := ∃ k : Int, e = .returned (.int .i64 k) ∧ lo ≤ k ∧ k ≤ hi ∧ Below w.heap.size w w'
def Draw2 (w : World) (e : Ending) (w' : World) : Prop := ∃ t s : Int, e = .returned (.tuple #[.int .i64 t, .int .i64 s]) ∧ -1 ≤ t ∧ t ≤ 4 ∧ -1 ≤ s ∧ s ≤ 256 ∧ Below w.heap.size w w'

end Go.Proofs.Ytfancfjbipjibaa
