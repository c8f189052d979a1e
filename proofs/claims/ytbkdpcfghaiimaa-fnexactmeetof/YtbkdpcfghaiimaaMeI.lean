/- The model's l2Meet of messages. -/
import Derived.Test.YtbkdpcfghaiimaaMeI1
import Derived.Test.YtbkdpcfghaiimaaMeI2
import Derived.Test.YtbkdpcfghaiimaaMeI3
import Derived.Test.YtbkdpcfghaiimaaMeI4
namespace Go.Proofs.Ytbkdpcfghaiimaa
open Go.RowKit Plain Sch

theorem l2Meet_parts (D : Nat) (a b : Tr) (aa ab : Option Addr) (ca cb : Nat) (S : Nat → Prop) (w : World) (hkA : KidsIn (D + 1) w S (.slice aa a.kids.length ca) a.kids) (hkB : KidsIn (D + 1) w S (.slice ab b.kids.length cb) b.kids) (hS : ∀ g, S g → g < w.heap.size)
    (hkk : a.kind = b.kind) (h4 : a.kind ≠ 4) (hlen : a.kids.length ≤ 400) (hlenb : b.kids.length ≤ 400)
    (IH0 : ∀ (x y : Tr) (ax ay : Option Addr) (lx cx ly cy : Nat) (S : Nat → Prop) (w : World), x ∈ a.kids → y ∈ b.kids → KidsIn D w S (.slice ax lx cx) x.kids → KidsIn D w S (.slice ay ly cy) y.kids → (∀ g, S g → g < w.heap.size) → Calls Try.prog 46 #[.agg #[.int .i64 x.kind, .string x.name, .int .i64 x.no, .bool x.must, .int .i64 x.most, .slice ax lx cx], .agg #[.int .i64 y.kind, .string y.name, .int .i64 y.no, .bool y.must, .int .i64 y.most, .slice ay ly cy]] w fun e w' => MeR D x y S w w' e ∧ Below w.heap.size w w') :
    Calls Try.prog 46 #[tv a aa a.kids.length ca, tv b ab b.kids.length cb] w fun e w' => ((∃ L, spA (meetT D) a.kids b.kids a.kids.length = some L ∧ ∃ ar lr cr, e = .returned (.tuple #[tv (mn a b (spB a.kids b.kids L b.kids.length)) ar lr cr, .bool true]) ∧ KidsIn (D + 1) w' (fun g => (S g ∨ w.heap.size ≤ g) ∧ g < w'.heap.size) (.slice ar lr cr) (spB a.kids b.kids L b.kids.length)) ∨ (spA (meetT D) a.kids b.kids a.kids.length = none ∧ ∃ t ar lr cr, e = .returned (.tuple #[tv t ar lr cr, .bool false]))) ∧ Below w.heap.size w w' := by
  cases hm : a.must with
  | true =>
    by_cases hl : b.most < a.most
    · exact l2Meet_parts1 D a b aa ab ca cb S w hkA hkB hS hkk h4 hlen hlenb IH0 hm hl
    · exact l2Meet_parts2 D a b aa ab ca cb S w hkA hkB hS hkk h4 hlen hlenb IH0 hm hl
  | false =>
    by_cases hl : b.most < a.most
    · exact l2Meet_parts3 D a b aa ab ca cb S w hkA hkB hS hkk h4 hlen hlenb IH0 hm hl
    · exact l2Meet_parts4 D a b aa ab ca cb S w hkA hkB hS hkk h4 hlen hlenb IH0 hm hl

end Go.Proofs.Ytbkdpcfghaiimaa
