/- The statements' helper on error numbers (folder almonrylaw0). -/
import Derived.Test.YtncfgdhofefkbaaRows
import Derived.Test.YtncfgdhofefkbaaWords
namespace Go.Proofs.Ytncfgdhofefkbaa
open Go.RowKit

theorem errNum_any (x : Int) (w : World) : Calls Try.prog 18 #[.int .i64 x] w fun e w' => e = .returned (.int .i64 x) ∧ w = w' := by
  go_enter Try.func18, Try.ntmps18
  go_wp2
  go_ret
  exact ⟨rfl, rfl⟩

end Go.Proofs.Ytncfgdhofefkbaa
