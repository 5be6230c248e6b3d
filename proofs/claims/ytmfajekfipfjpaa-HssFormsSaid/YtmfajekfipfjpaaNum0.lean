/- The statements' helper on error numbers (folder almonrylaw0). -/
import Derived.Test.YtmfajekfipfjpaaRows
import Derived.Test.YtmfajekfipfjpaaWords
namespace Go.Proofs.Ytmfajekfipfjpaa
open Go.RowKit

theorem errNum_any (x : Int) (w : World) : Calls Try.prog 16 #[.int .i64 x] w fun e w' => e = .returned (.int .i64 x) ∧ w = w' := by
  go_enter Try.func16, Try.ntmps16
  go_wp2
  go_ret
  exact ⟨rfl, rfl⟩

end Go.Proofs.Ytmfajekfipfjpaa
