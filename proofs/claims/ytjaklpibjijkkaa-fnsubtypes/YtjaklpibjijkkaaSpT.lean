/- Assertions on shapes, as closed facts. -/
import Derived.Test.YtjaklpibjijkkaaRows
namespace Go.Proofs.Ytjaklpibjijkkaa


theorem taNumEnu (v : Value) (w : World) : (Instr.typeAssert (.iface 126 v) 93 118 true).run Try.prog w = .ok (.tuple #[.agg #[.int .i64 0], .bool false]) w := by kernel_rfl
theorem taNumLst (v : Value) (w : World) : (Instr.typeAssert (.iface 126 v) 93 121 true).run Try.prog w = .ok (.tuple #[.agg #[.nilIface], .bool false]) w := by kernel_rfl
theorem taNumMsg (v : Value) (w : World) : (Instr.typeAssert (.iface 126 v) 93 103 true).run Try.prog w = .ok (.tuple #[.agg #[.slice none 0 0], .bool false]) w := by kernel_rfl
theorem taTxtEnu (v : Value) (w : World) : (Instr.typeAssert (.iface 127 v) 93 118 true).run Try.prog w = .ok (.tuple #[.agg #[.int .i64 0], .bool false]) w := by kernel_rfl
theorem taTxtLst (v : Value) (w : World) : (Instr.typeAssert (.iface 127 v) 93 121 true).run Try.prog w = .ok (.tuple #[.agg #[.nilIface], .bool false]) w := by kernel_rfl
theorem taTxtMsg (v : Value) (w : World) : (Instr.typeAssert (.iface 127 v) 93 103 true).run Try.prog w = .ok (.tuple #[.agg #[.slice none 0 0], .bool false]) w := by kernel_rfl
theorem taEnuEnu (v : Value) (w : World) : (Instr.typeAssert (.iface 118 v) 93 118 true).run Try.prog w = .ok (.tuple #[v, .bool true]) w := by kernel_rfl
theorem taEnuLst (v : Value) (w : World) : (Instr.typeAssert (.iface 118 v) 93 121 true).run Try.prog w = .ok (.tuple #[.agg #[.nilIface], .bool false]) w := by kernel_rfl
theorem taEnuMsg (v : Value) (w : World) : (Instr.typeAssert (.iface 118 v) 93 103 true).run Try.prog w = .ok (.tuple #[.agg #[.slice none 0 0], .bool false]) w := by kernel_rfl
theorem taLstEnu (v : Value) (w : World) : (Instr.typeAssert (.iface 121 v) 93 118 true).run Try.prog w = .ok (.tuple #[.agg #[.int .i64 0], .bool false]) w := by kernel_rfl
theorem taLstLst (v : Value) (w : World) : (Instr.typeAssert (.iface 121 v) 93 121 true).run Try.prog w = .ok (.tuple #[v, .bool true]) w := by kernel_rfl
theorem taLstMsg (v : Value) (w : World) : (Instr.typeAssert (.iface 121 v) 93 103 true).run Try.prog w = .ok (.tuple #[.agg #[.slice none 0 0], .bool false]) w := by kernel_rfl
theorem taMsgEnu (v : Value) (w : World) : (Instr.typeAssert (.iface 103 v) 93 118 true).run Try.prog w = .ok (.tuple #[.agg #[.int .i64 0], .bool false]) w := by kernel_rfl
theorem taMsgLst (v : Value) (w : World) : (Instr.typeAssert (.iface 103 v) 93 121 true).run Try.prog w = .ok (.tuple #[.agg #[.nilIface], .bool false]) w := by kernel_rfl
theorem taMsgMsg (v : Value) (w : World) : (Instr.typeAssert (.iface 103 v) 93 103 true).run Try.prog w = .ok (.tuple #[v, .bool true]) w := by kernel_rfl

end Go.Proofs.Ytjaklpibjijkkaa
