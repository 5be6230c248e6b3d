/- The statements' helper on error numbers (folder almonrylaw0). -/
import Derived.Test.YtlbmlnefglgonabRows
import Derived.Test.YtlbmlnefglgonabWords
namespace Go.Proofs.Ytlbmlnefglgonab
open Go.RowKit

theorem errNum_any (x : Int) (w : World) : Calls Try.prog 15 #[.int .i64 x] w fun e w' => e = .returned (.int .i64 x) ∧ w = w' := by
  go_enter Try.func15, Try.ntmps15
  go_wp2
  go_ret
  exact ⟨rfl, rfl⟩

end Go.Proofs.Ytlbmlnefglgonab
