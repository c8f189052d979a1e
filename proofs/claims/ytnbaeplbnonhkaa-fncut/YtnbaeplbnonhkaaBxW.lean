/- The law's own looks at boxes: how great they are, whether two are alike. -/
import Derived.Test.YtnbaeplbnonhkaaBxM
import Derived.Deep.RegionWith
namespace Go.Proofs.Ytnbaeplbnonhkaa
open Go.RowKit Plain Sch Bxs

end Go.Proofs.Ytnbaeplbnonhkaa
