/- What a byte's type is. -/
import Derived.Test.YtmgaegaibglnhaaGreatRows
namespace Go.Proofs.YtmgaegaibglnhaaGreat

theorem Tryz.infoU8 : (Tryz.prog.info? 5).map (fun i => (i.zero, i.size, i.bytes)) = some (some (.int .u8 0), 1, 1) := by kernel_rfl

end Go.Proofs.YtmgaegaibglnhaaGreat
