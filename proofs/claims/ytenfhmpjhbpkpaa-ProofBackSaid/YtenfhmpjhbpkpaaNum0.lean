/- The statements' helper on error numbers (folder almonrylaw0). -/
import Derived.Test.YtenfhmpjhbpkpaaRows
import Derived.Test.YtenfhmpjhbpkpaaWords
namespace Go.Proofs.Ytenfhmpjhbpkpaa
open Go.RowKit

theorem errNum_any (x : Int) (w : World) : Calls Try.prog 25 #[.int .i64 x] w fun e w' => e = .returned (.int .i64 x) ∧ w = w' := by
  go_enter Try.func25, Try.ntmps25
  go_wp2
  go_ret
  exact ⟨rfl, rfl⟩

end Go.Proofs.Ytenfhmpjhbpkpaa
