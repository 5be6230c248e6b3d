/- The statements' helper on error numbers (folder almonrylaw0). -/
import Derived.Test.YtmgaegaibglnhaaGreatRows
import Derived.Test.YtmgaegaibglnhaaGreatWords
namespace Go.Proofs.YtmgaegaibglnhaaGreat
open Go.RowKit

theorem errNum_any (x : Int) (w : World) : Calls Tryz.prog 11 #[.int .i64 x] w fun e w' => e = .returned (.int .i64 x) ∧ w = w' := by
  go_enter Tryz.func11, Tryz.ntmps11
  go_wp2
  go_ret
  exact ⟨rfl, rfl⟩

end Go.Proofs.YtmgaegaibglnhaaGreat
