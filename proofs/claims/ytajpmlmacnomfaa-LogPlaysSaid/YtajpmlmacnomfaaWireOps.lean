/- Contracts of what a Reader takes: bytes, numbers, texts, yes or no, what must be so: what comes, what is left, or the panic and the error that is noted. -/
import Derived.Test.YtajpmlmacnomfaaWireNumb
namespace Go.Proofs.Ytajpmlmacnomfaa.Wirey
open Go.ChangeShapes Go.WideShapes Go.ChangeAt Go.RowKit

theorem u8_info : (Try.prog.info? 5).map (fun i => (i.zero, i.size, i.bytes)) = some (some (.int .u8 0), 1, 1) := by kernel_rfl

end Go.Proofs.Ytajpmlmacnomfaa.Wirey
