/- A node of the model's trees as a value. -/
import Derived.Test.YtjaklpibjijkkaaSchJ
namespace Go.Proofs.Ytjaklpibjijkkaa
open Go.RowKit Plain Sch

def tv (t : Tr) (ac : Option Addr) (lc cc : Nat) : Value := .agg #[.int .i64 t.kind, .string t.name, .int .i64 t.no, .bool t.must, .int .i64 t.most, .slice ac lc cc]

end Go.Proofs.Ytjaklpibjijkkaa
