/- Sessions: packets, acks, steps, sessions; what a step does. -/
import Derived.Test.YtnlppeieccbhgaaToM
namespace Go.Proofs.Ytnlppeieccbhgaa
open Go.RowKit Plain Tpc

namespace Ssn
/-- a packet -/
structure Pk where
  ep : Int
  no : Int
  tx : ByteArray
deriving Inhabited
/-- an ack -/
structure Ak where
  ep : Int
  up : Int
deriving Inhabited
/-- a step -/
structure Sp where
  kind : Int
  kk : Int
  tx : ByteArray
deriving Inhabited
def pk (T : List Pk) (i : Nat) : Pk := T.getD i default
def ak (T : List Ak) (i : Nat) : Ak := T.getD i default
def sp (T : List Sp) (i : Nat) : Sp := T.getD i default
/-- a session -/
structure Ses where
  ep : Int
  items : List ByteArray
  base : Int
  handed : List ByteArray
  way : List Pk
  acks : List Ak
def Ses.val (s : Ses) (vi vh vw va : Value) : Value := .agg #[.int .i64 s.ep, vi, .int .i64 s.base, vh, vw, va]
def szero : Ses := ⟨0, [], 0, [], [], []⟩

/-- whether a list of texts begins another one -/
def bgn (a b : List ByteArray) : Bool := decide (a.length ≤ b.length) && decide (a = b.take a.length)
def okPk (s : Ses) (p : Pk) : Bool := decide (1 ≤ p.ep ∧ p.ep ≤ s.ep) && (decide (0 ≤ p.no) && (decide (p.no < (s.items.length : Int)) && (decide (p.no < s.base + 4) && decide (p.tx = lq s.items p.no.toNat))))
def okAk (s : Ses) (a : Ak) : Bool := decide (1 ≤ a.ep ∧ a.ep ≤ s.ep) && decide (0 ≤ a.up ∧ a.up ≤ (s.handed.length : Int))
def gE (s : Ses) : Bool := decide (1 ≤ s.ep ∧ s.ep ≤ 1000)
def gI (s : Ses) : Bool := decide (s.items.length ≤ 30) && s.items.all fun t => decide (t.size ≤ 20)
def gH (s : Ses) : Bool := decide (0 ≤ s.base ∧ s.base ≤ (s.handed.length : Int)) && bgn s.handed s.items
def gW (s : Ses) : Bool := decide (s.way.length ≤ 12) && s.way.all (okPk s)
def gA (s : Ses) : Bool := decide (s.acks.length ≤ 12) && s.acks.all (okAk s)
/-- whether it is good -/
def gs (s : Ses) : Bool := gE s && (gI s && (gH s && (gW s && gA s)))
end Ssn

end Go.Proofs.Ytnlppeieccbhgaa
