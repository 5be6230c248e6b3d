/- The statements' helper on error numbers (folder almonrylaw0). -/
import Derived.Test.YtbclmkpigdeilaaRows
import Derived.Test.YtbclmkpigdeilaaWords
namespace Go.Proofs.Ytbclmkpigdeilaa
open Go.RowKit

theorem errNum_any (x : Int) (w : World) : Calls Try.prog 17 #[.int .i64 x] w fun e w' => e = .returned (.int .i64 x) ∧ w = w' := by
  go_enter Try.func17, Try.ntmps17
  go_wp2
  go_ret
  exact ⟨rfl, rfl⟩

end Go.Proofs.Ytbclmkpigdeilaa
