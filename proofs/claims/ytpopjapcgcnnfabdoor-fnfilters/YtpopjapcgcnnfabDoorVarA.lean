/- The contract of the program's appendVarint: it puts the number's sevens behind the bytes that it is given. -/
import Derived.Test.YtpopjapcgcnnfabDoorRows
import Derived.Lib.VarintMem
import Derived.Lib.Slices
import Derived.OwnWalk
import Derived.WalkKit
import Derived.ProofKit
namespace Go.Proofs.YtpopjapcgcnnfabDoor
open Go.RowKit

theorem Tryd.infoU8 : (Tryd.prog.info? 5).map (fun i => (i.zero, i.size, i.bytes)) = some (some (.int .u8 0), 1, 1) := by kernel_rfl

end Go.Proofs.YtpopjapcgcnnfabDoor
