/- The statements' helper on error numbers (folder almonrylaw0). -/
import Derived.Test.YtlicmbmhcpfocaaRows
import Derived.Test.YtlicmbmhcpfocaaWords
namespace Go.Proofs.Ytlicmbmhcpfocaa
open Go.RowKit

theorem errNum_any (x : Int) (w : World) : Calls Try.prog 12 #[.int .i64 x] w fun e w' => e = .returned (.int .i64 x) ∧ w = w' := by
  go_enter Try.func12, Try.ntmps12
  go_wp2
  go_ret
  exact ⟨rfl, rfl⟩

end Go.Proofs.Ytlicmbmhcpfocaa
