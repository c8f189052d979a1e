/- How types lie in memory: a slice's cells, six a type. The program's looks at one type of a schema. The program's walks up a schema. The program's walks up and along a schema, for each of its types. -/
import Derived.Test.YtlmhjkcollohnaaDoorRows
import Derived.Test.YtlmhjkcollohnaaDoorGa
import Derived.Lib.Slices
import Derived.Lib.SmallJoins
import Derived.OwnWalk
import Derived.WalkKit
import Derived.ProofKit
import Derived.Deep.QuietTactic
import Derived.BigQuiet
import Derived.WalkSpells
namespace Go.Proofs.YtlmhjkcollohnaaDoor
open Go.RowKit Plain Sch

def Sch.Ty.cells (t : Ty) : List Value := [.int .i64 t.kind, .string t.name, .int .i64 t.no, .bool t.must, .int .i64 t.up, .int .i64 t.most]
def Sch.Ty.val (t : Ty) : Value := .agg #[.int .i64 t.kind, .string t.name, .int .i64 t.no, .bool t.must, .int .i64 t.up, .int .i64 t.most]

/-- a type's six cells -/
def TyIn (w : World) (g o : Nat) (t : Ty) : Prop :=
  w.cell? ⟨g, o, none⟩ = some (.int .i64 t.kind) ∧ w.cell? ⟨g, o + 1, none⟩ = some (.string t.name) ∧ w.cell? ⟨g, o + 2, none⟩ = some (.int .i64 t.no) ∧ w.cell? ⟨g, o + 3, none⟩ = some (.bool t.must) ∧ w.cell? ⟨g, o + 4, none⟩ = some (.int .i64 t.up) ∧ w.cell? ⟨g, o + 5, none⟩ = some (.int .i64 t.most)

theorem TyIn.below {w w' : World} {g o B : Nat} {t : Ty} (h : TyIn w g o t) (hb : Below B w w') (hg : g < B) : TyIn w' g o t := by
  obtain ⟨c0, c1, c2, c3, c4, c5⟩ := h
  exact ⟨(hb.cell (p := ⟨g, o, none⟩) hg).trans c0, (hb.cell (p := ⟨g, o + 1, none⟩) hg).trans c1, (hb.cell (p := ⟨g, o + 2, none⟩) hg).trans c2, (hb.cell (p := ⟨g, o + 3, none⟩) hg).trans c3, (hb.cell (p := ⟨g, o + 4, none⟩) hg).trans c4, (hb.cell (p := ⟨g, o + 5, none⟩) hg).trans c5⟩

/-- a slice of types, in blocks below B -/
def TysAt (w : World) (B : Nat) (v : Value) (T : List Ty) : Prop :=
  ∃ ao cap, v = .slice ao T.length cap ∧ T.length ≤ cap ∧ cap ≤ maxLen ∧ (∀ i, i < T.length → ∃ g o, ao = some ⟨g, o, none⟩ ∧ g < B ∧ TyIn w g (o + i * 6) (ty T i)) ∧ ∀ i, i < T.length → (ty T i).name.size ≤ maxLen

theorem TysAt.below {w w' : World} {v : Value} {T : List Ty} {B : Nat} (h : TysAt w B v T) (hb : Below B w w') (hB : B ≤ w.heap.size := by exact Nat.le_refl _) : TysAt w' w'.heap.size v T := by
  obtain ⟨ao, cap, hv, hc, hm, hr, hn⟩ := h
  refine ⟨ao, cap, hv, hc, hm, fun i hi => ?_, hn⟩
  obtain ⟨g, o, ha, hg, c⟩ := hr i hi
  have := hb.size
  exact ⟨g, o, ha, by omega, c.below hb hg⟩

/-- a slice with a type in it, opened -/
theorem TysAt.open {w : World} {v : Value} {T : List Ty} {B : Nat} (h : TysAt w B v T) (h0 : 0 < T.length) : ∃ g o cap, v = .slice (some ⟨g, o, none⟩) T.length cap ∧ T.length ≤ cap ∧ cap ≤ maxLen ∧ g < B ∧ (∀ i, i < T.length → TyIn w g (o + i * 6) (ty T i)) ∧ ∀ i, i < T.length → (ty T i).name.size ≤ maxLen := by
  obtain ⟨ao, cap, hv, hc, hm, hr, hn⟩ := h
  obtain ⟨g, o, ha, hg, _⟩ := hr 0 h0
  subst ha
  refine ⟨g, o, cap, hv, hc, hm, hg, fun i hi => ?_, hn⟩
  obtain ⟨g', o', ha, _, c⟩ := hr i hi
  simp only [Option.some.injEq, Addr.mk.injEq, and_true] at ha
  obtain ⟨rfl, rfl⟩ := ha
  exact c

theorem index_atS (s : ByteArray) (i : Int) (j x : Nat) (w : World) (h0 : 0 ≤ i) (hij : i = (j : Int)) (hj : j < s.size) (hx : bt s j = x) :
    (Instr.index 9 (.string s) (.int .i64 i)).run Tryd.prog w = .ok (.int .u8 (x : Int)) w := by
  rw [run_index_string w 9 s .i64 i Tryd.underlying9, dif_pos ⟨h0, by omega⟩]
  subst hij
  rw [← hx, ← bt_get s j hj]
  simp

theorem str_neB {a b : ByteArray} (h : ¬ a = b) : (a.toList == b.toList) = false := by
  rw [beq_eq_false_iff_ne]
  intro e
  apply h
  rw [ByteArray.toList_eq, ByteArray.toList_eq] at e
  apply ByteArray.ext
  exact Array.toList_inj.1 e

theorem below_drewN {B n : Nat} {a w : World} (h : Below B a w) : Below B a (w.drewN n) := ⟨h.os, h.tape, h.output, h.size, h.block⟩

end Go.Proofs.YtlmhjkcollohnaaDoor

namespace Go.Proofs.YtlmhjkcollohnaaDoor
open Go.RowKit Plain Sch

set_option maxRecDepth 100000 in
set_option maxHeartbeats 4000000 in
theorem isName_any (s : ByteArray) (w : World) (hs : s.size ≤ maxLen) :
    Calls Tryd.prog 94 #[.string s] w fun e w' => e = .returned (.bool (isName s)) ∧ w' = w := by
  unfold maxLen at hs
  by_cases h1 : 1 ≤ s.size
  · by_cases h10 : s.size ≤ 10
    · have h1' : (1 : Int) ≤ (s.size : Int) := by omega
      have h10' : (s.size : Int) ≤ 10 := by omega
      obtain ⟨R, hR⟩ : ∃ R, R = isName s := ⟨_, rfl⟩
      have HR : Hid (R = decide (1 ≤ s.size ∧ s.size ≤ 10 ∧ ∀ i, i < s.size → 97 ≤ bt s i ∧ bt s i ≤ 122)) := hR
      rw [← hR]
      clear hR hs
      go_enter Tryd.func94, Tryd.ntmps94
      go_wp2
      go_loopw [3] (fun vi wr => ∃ i : Nat, i ≤ s.size ∧ vi = .int .i64 (i : Int) ∧ Hid (∀ j, j < i → 97 ≤ bt s j ∧ bt s j ≤ 122) ∧ wr = w)
        (fun vi _ => s.size - (intOf vi).toNat)
      case atStart => exact ⟨0, by omega, rfl, fun j hj => by omega, rfl⟩
      case round =>
        obtain ⟨i, hi, rfl, hall, rfl⟩ := hrel
        by_cases hlt : i < s.size
        · have hlt' : (i : Int) < (s.size : Int) := by omega
          obtain ⟨x, hx⟩ : ∃ x, bt s i = x := ⟨_, rfl⟩
          have hx256 : x < 256 := by rw [← hx]; exact bt_lt s i
          have hrun : ∀ w : World, (Instr.index 9 (.string s) (.int .i64 (i : Int))).run Tryd.prog w = .ok (.int .u8 (x : Int)) w := fun w => index_atS s i i x w (by omega) rfl hlt hx
          have HX : Hid (bt s i = x) := hx
          clear hx
          by_cases ha : x < 97
          · have hn : Hid (R = false) := by
              show R = _
              rw [HR.out]
              simp only [decide_eq_false_iff_not]
              rintro ⟨_, _, h⟩
              have := (h i hlt).1
              rw [HX.out] at this
              omega
            have ha' : (x : Int) < 97 := by omega
            clear HR
            go_wp2
            go_ret
            exact ⟨by rw [hn.out]; rfl, rfl⟩
          · by_cases hz : 122 < x
            · have hn : Hid (R = false) := by
                show R = _
                rw [HR.out]
                simp only [decide_eq_false_iff_not]
                rintro ⟨_, _, h⟩
                have := (h i hlt).2
                rw [HX.out] at this
                omega
              have ha' : (97 : Int) ≤ (x : Int) := by omega
              have hz' : (122 : Int) < (x : Int) := by omega
              clear HR ha
              go_wp2
              go_ret
              exact ⟨by rw [hn.out]; rfl, rfl⟩
            · have ha' : (97 : Int) ≤ (x : Int) := by omega
              have hz' : (x : Int) ≤ 122 := by omega
              have hall2 : Hid (∀ j, j < i + 1 → 97 ≤ bt s j ∧ bt s j ≤ 122) := fun j hj => by
                by_cases hji : j = i
                · rw [hji, HX.out]; omega
                · exact hall.out j (by omega)
              clear ha hz
              go_wp2
              go_roundw
              case rel => exact ⟨i + 1, by omega, by go_num, hall2, trivial⟩
              case measure => simp [intOf]; omega
        · have hke : i = s.size := by omega
          subst hke
          have hge : ¬ ((s.size : Int) < (s.size : Int)) := by omega
          have hn : Hid (R = true) := by
            show R = _
            rw [HR.out]
            simp only [decide_eq_true_eq]
            exact ⟨h1, h10, hall.out⟩
          go_wp2
          go_ret
          exact ⟨by rw [hn.out]; rfl, rfl⟩
    · have hn : isName s = false := by unfold isName; simp only [decide_eq_false_iff_not]; omega
      rw [hn]
      have h1' : ¬ ((s.size : Int) < 1) := by omega
      have h10' : (10 : Int) < (s.size : Int) := by omega
      clear hn h1 h10
      go_enter Tryd.func94, Tryd.ntmps94
      go_wp2
      go_ret
      exact ⟨rfl, rfl⟩
  · have hn : isName s = false := by unfold isName; simp only [decide_eq_false_iff_not]; omega
    rw [hn]
    have h1' : (s.size : Int) < 1 := by omega
    clear hn h1
    go_enter Tryd.func94, Tryd.ntmps94
    go_wp2
    go_ret
    exact ⟨rfl, rfl⟩

end Go.Proofs.YtlmhjkcollohnaaDoor

namespace Go.Proofs.YtlmhjkcollohnaaDoor
open Go.RowKit Plain Sch

/-- all types ahead of k are parts of ones ahead of them -/
def UpsTo (T : List Ty) (k : Nat) : Prop := (ty T 0).up = -1 ∧ ∀ i, 0 < i → i < k → 0 ≤ (ty T i).up ∧ (ty T i).up < i

theorem UpsTo.mono {T : List Ty} {k j : Nat} (h : UpsTo T k) (hj : j ≤ k) : UpsTo T j := ⟨h.1, fun i h0 hi => h.2 i h0 (by omega)⟩

end Go.Proofs.YtlmhjkcollohnaaDoor

namespace Go.Proofs.YtlmhjkcollohnaaDoor
open Go.RowKit Plain Sch

/-- whether a type is a part of the one ahead of it, or of one that this is in -/
def rb (T : List Ty) (k : Nat) : Bool := decide (0 ≤ (ty T k).up) && decide ((ty T k).up.toNat ∈ chain T (k - 1)) && holds (ty T (ty T k).up.toNat).kind

end Go.Proofs.YtlmhjkcollohnaaDoor
