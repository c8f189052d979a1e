/- How types lie in memory: a slice's cells, six a type. The program's looks at one type of a schema. The program's walks up a schema. The program's walks up and along a schema, for each of its types. -/
import Derived.Test.YtnlppeieccbhgaaRows
import Derived.Test.YtnlppeieccbhgaaGa
import Derived.Lib.Slices
import Derived.Lib.SmallJoins
import Derived.OwnWalk
import Derived.WalkKit
import Derived.ProofKit
import Derived.Deep.QuietTactic
import Derived.BigQuiet
import Derived.WalkSpells
namespace Go.Proofs.Ytnlppeieccbhgaa
open Go.RowKit Plain Sch

def Sch.Ty.cells (t : Ty) : List Value := [.int .i64 t.kind, .string t.name, .int .i64 t.no, .bool t.must, .int .i64 t.up, .int .i64 t.most]
def Sch.Ty.val (t : Ty) : Value := .agg #[.int .i64 t.kind, .string t.name, .int .i64 t.no, .bool t.must, .int .i64 t.up, .int .i64 t.most]

/-- a type's six cells -/
def TyIn (w : World) (g o : Nat) (t : Ty) : Prop :=
  w.cell? ⟨g, o, none⟩ = some (.int .i64 t.kind) ∧ w.cell? ⟨g, o + 1, none⟩ = some (.string t.name) ∧ w.cell? ⟨g, o + 2, none⟩ = some (.int .i64 t.no) ∧ w.cell? ⟨g, o + 3, none⟩ = some (.bool t.must) ∧ w.cell? ⟨g, o + 4, none⟩ = some (.int .i64 t.up) ∧ w.cell? ⟨g, o + 5, none⟩ = some (.int .i64 t.most)

theorem TyIn.below {w w' : World} {g o B : Nat} {t : Ty} (h : TyIn w g o t) (hb : Below B w w') (hg : g < B) : TyIn w' g o t := by
  obtain ⟨c0, c1, c2, c3, c4, c5⟩ := h
  exact ⟨(hb.cell (p := ⟨g, o, none⟩) hg).trans c0, (hb.cell (p := ⟨g, o + 1, none⟩) hg).trans c1, (hb.cell (p := ⟨g, o + 2, none⟩) hg).trans c2, (hb.cell (p := ⟨g, o + 3, none⟩) hg).trans c3, (hb.cell (p := ⟨g, o + 4, none⟩) hg).trans c4, (hb.cell (p := ⟨g, o + 5, none⟩) hg).trans c5⟩

/-- a slice of types, in blocks below B -/
def TysAt (w : World) (B : Nat) (v : Value) (T : List Ty) : Prop :=
  ∃ ao cap, v = .slice ao T.length cap ∧ T.length ≤ cap ∧ cap ≤ maxLen ∧ (∀ i, i < T.length → ∃ g o, ao = some ⟨g, o, none⟩ ∧ g < B ∧ TyIn w g (o + i * 6) (ty T i)) ∧ ∀ i, i < T.length → (ty T i).name.size ≤ maxLen

theorem TysAt.below {w w' : World} {v : Value} {T : List Ty} {B : Nat} (h : TysAt w B v T) (hb : Below B w w') (hB : B ≤ w.heap.size := by exact Nat.le_refl _) : TysAt w' w'.heap.size v T := by
  obtain ⟨ao, cap, hv, hc, hm, hr, hn⟩ := h
  refine ⟨ao, cap, hv, hc, hm, fun i hi => ?_, hn⟩
  obtain ⟨g, o, ha, hg, c⟩ := hr i hi
  have := hb.size
  exact ⟨g, o, ha, by omega, c.below hb hg⟩

/-- a slice with a type in it, opened -/
theorem TysAt.open {w : World} {v : Value} {T : List Ty} {B : Nat} (h : TysAt w B v T) (h0 : 0 < T.length) : ∃ g o cap, v = .slice (some ⟨g, o, none⟩) T.length cap ∧ T.length ≤ cap ∧ cap ≤ maxLen ∧ g < B ∧ (∀ i, i < T.length → TyIn w g (o + i * 6) (ty T i)) ∧ ∀ i, i < T.length → (ty T i).name.size ≤ maxLen := by
  obtain ⟨ao, cap, hv, hc, hm, hr, hn⟩ := h
  obtain ⟨g, o, ha, hg, _⟩ := hr 0 h0
  subst ha
  refine ⟨g, o, cap, hv, hc, hm, hg, fun i hi => ?_, hn⟩
  obtain ⟨g', o', ha, _, c⟩ := hr i hi
  simp only [Option.some.injEq, Addr.mk.injEq, and_true] at ha
  obtain ⟨rfl, rfl⟩ := ha
  exact c

theorem index_atS (s : ByteArray) (i : Int) (j x : Nat) (w : World) (h0 : 0 ≤ i) (hij : i = (j : Int)) (hj : j < s.size) (hx : bt s j = x) :
    (Instr.index 9 (.string s) (.int .i64 i)).run Try.prog w = .ok (.int .u8 (x : Int)) w := by
  rw [run_index_string w 9 s .i64 i Try.underlying9, dif_pos ⟨h0, by omega⟩]
  subst hij
  rw [← hx, ← bt_get s j hj]
  simp

theorem str_neB {a b : ByteArray} (h : ¬ a = b) : (a.toList == b.toList) = false := by
  rw [beq_eq_false_iff_ne]
  intro e
  apply h
  rw [ByteArray.toList_eq, ByteArray.toList_eq] at e
  apply ByteArray.ext
  exact Array.toList_inj.1 e

theorem below_drewN {B n : Nat} {a w : World} (h : Below B a w) : Below B a (w.drewN n) := ⟨h.os, h.tape, h.output, h.size, h.block⟩

end Go.Proofs.Ytnlppeieccbhgaa

namespace Go.Proofs.Ytnlppeieccbhgaa
open Go.RowKit Plain Sch

end Go.Proofs.Ytnlppeieccbhgaa

namespace Go.Proofs.Ytnlppeieccbhgaa
open Go.RowKit Plain Sch

/-- all types ahead of k are parts of ones ahead of them -/
def UpsTo (T : List Ty) (k : Nat) : Prop := (ty T 0).up = -1 ∧ ∀ i, 0 < i → i < k → 0 ≤ (ty T i).up ∧ (ty T i).up < i

theorem UpsTo.mono {T : List Ty} {k j : Nat} (h : UpsTo T k) (hj : j ≤ k) : UpsTo T j := ⟨h.1, fun i h0 hi => h.2 i h0 (by omega)⟩

end Go.Proofs.Ytnlppeieccbhgaa

namespace Go.Proofs.Ytnlppeieccbhgaa
open Go.RowKit Plain Sch

/-- whether a type is a part of the one ahead of it, or of one that this is in -/
def rb (T : List Ty) (k : Nat) : Bool := decide (0 ≤ (ty T k).up) && decide ((ty T k).up.toNat ∈ chain T (k - 1)) && holds (ty T (ty T k).up.toNat).kind

end Go.Proofs.Ytnlppeieccbhgaa
