/- What the functions of chapter 9 tell of lists of sides. -/
import Derived.Test.YtnbaeplbnonhkaaBxA
namespace Go.Proofs.Ytnbaeplbnonhkaa
open Plain Sch Bxs

/-- what BoxCovers tells -/
def cvo (T U : List Sd) : Bool := gb T && gb U && cov (bx T) (bx U)
/-- what HullOf tells -/
def hlo (T U : List Sd) : List Sd := if gb T && gb U then (hul (bx T) (bx U)).list else []
/-- what MeetBoxes tells -/
def mok (T U : List Sd) : Bool := gb T && gb U && !apart (bx T) (bx U)
def mlo (T U : List Sd) : List Sd := if mok T U then (mee (bx T) (bx U)).list else []

end Go.Proofs.Ytnbaeplbnonhkaa
