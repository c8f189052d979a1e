/- The model's looks at one type of a schema. The model's look at one part of a schema. The model's parts of a type; how its trees lie in memory. The model's tree of a type. A node of the model's trees as a value. -/
import Derived.Test.YtfkhbbmnjndmcaaGb
import Derived.Deep.AppendLies
import Derived.Laws.ResultCell
import Derived.Laws.Rows
import Derived.Deep.RegionLaw
namespace Go.Proofs.Ytfkhbbmnjndmcaa
open Go.RowKit Plain Sch

set_option maxRecDepth 100000 in
set_option maxHeartbeats 1000000 in
theorem l1In_any (n lo hi : Int) (w : World) :
    Calls Try.prog 44 #[.int .i64 n, .int .i64 lo, .int .i64 hi] w fun e w' => e = .returned (.bool (decide (lo ≤ n ∧ n ≤ hi))) ∧ w' = w := by
  by_cases h1 : lo ≤ n
  · by_cases h2 : n ≤ hi
    · have hd : decide (lo ≤ n ∧ n ≤ hi) = true := by simp [h1, h2]
      rw [hd]
      clear hd
      go_enter Try.func44, Try.ntmps44
      go_wp2
      go_ret
      exact ⟨rfl, rfl⟩
    · have hd : decide (lo ≤ n ∧ n ≤ hi) = false := by simp [h2]
      rw [hd]
      have h2' : decide (n ≤ hi) = false := by simpa using h2
      clear hd h2
      go_enter Try.func44, Try.ntmps44
      go_wp2
      go_ret
      exact ⟨rfl, rfl⟩
  · have hd : decide (lo ≤ n ∧ n ≤ hi) = false := by simp [h1]
    rw [hd]
    have h1' : decide (lo ≤ n) = false := by simpa using h1
    clear hd h1
    go_enter Try.func44, Try.ntmps44
    go_wp2
    go_ret
    exact ⟨rfl, rfl⟩

end Go.Proofs.Ytfkhbbmnjndmcaa

namespace Go.Proofs.Ytfkhbbmnjndmcaa
open Go.RowKit Plain Sch

theorem sis_low (T : List Ty) (i j : Nat) (hu : UpsTo T i) (h0 : 0 ≤ (ty T i).up) (hj : (j : Int) ≤ (ty T i).up) (hji : j < i) : sisBad T i j = false := by
  unfold sisBad
  have : ¬ (ty T j).up = (ty T i).up := by
    by_cases hj0 : j = 0
    · subst hj0; have := hu.1; omega
    · have := hu.2 j (by omega) hji; omega
  simp [this]

end Go.Proofs.Ytfkhbbmnjndmcaa

namespace Go.Proofs.Ytfkhbbmnjndmcaa
open Go.RowKit Plain Sch

theorem Try.infoInt : (Try.prog.info? 3).map (fun i => (i.zero, i.size, i.bytes)) = some (some (.int .i64 0), 1, 8) := by kernel_rfl

theorem own_below {w w' : World} {B e size n : Nat} {v : Value} {xs : List Value} (h : w.ownsRow B e size v n xs) (hb : Below w.heap.size w w') : w'.ownsRow B e size v n xs := by
  refine ⟨h.1, ?_⟩
  rcases h.2 with hn | ⟨g, cap, cur, hv, hg, hgg, rest⟩
  · exact .inl hn
  · exact .inr ⟨g, cap, cur, hv, hg, (hb.block g (Array.getElem?_eq_some_iff.1 hgg).1).trans hgg, rest⟩

theorem cell_new (w : World) (c : Array Value) (t : TypeId) (n j : Nat) (hn : n = w.heap.size) : (w.alloc (.cells c t)).cell? ⟨n, 0 + j, none⟩ = c[j]? := by
  subst hn; simp

def kidsTo (T : List Ty) (k i : Nat) : List Nat := (List.range i).filter fun i => decide (k < i) && decide ((ty T i).up = (k : Int))

theorem kidsTo_start (T : List Ty) (k : Nat) : kidsTo T k (k + 1) = [] := by
  unfold kidsTo
  rw [List.filter_eq_nil_iff]
  intro x hx
  have := List.mem_range.1 hx
  simp
  omega

theorem kidsTo_end (T : List Ty) (k : Nat) : kidsTo T k T.length = kids T k := rfl

theorem kidsTo_yes (T : List Ty) (k i : Nat) (hi : k < i) (h : (ty T i).up = (k : Int)) : kidsTo T k (i + 1) = kidsTo T k i ++ [i] := by
  unfold kidsTo
  rw [List.range_succ, List.filter_append]
  simp [hi, h]

theorem kidsTo_no (T : List Ty) (k i : Nat) (h : ¬ (ty T i).up = (k : Int)) : kidsTo T k (i + 1) = kidsTo T k i := by
  unfold kidsTo
  rw [List.range_succ, List.filter_append]
  simp [h]

theorem kidsTo_len (T : List Ty) (k i : Nat) : (kidsTo T k i).length ≤ i := by
  unfold kidsTo
  refine Nat.le_trans (List.length_filter_le _ _) ?_
  simp

def ints (l : List Nat) : List Value := l.map fun (i : Nat) => .int .i64 (i : Int)

def trCells (t : Tr) (c : Value) : List Value := [.int .i64 t.kind, .string t.name, .int .i64 t.no, .bool t.must, .int .i64 t.most, c]
def trVal (t : Tr) (c : Value) : Value := .agg #[.int .i64 t.kind, .string t.name, .int .i64 t.no, .bool t.must, .int .i64 t.most, c]

/-- the six cells of a node -/
def NdIn (w : World) (g o : Nat) (t : Tr) (c : Value) : Prop :=
  w.cell? ⟨g, o, none⟩ = some (.int .i64 t.kind) ∧ w.cell? ⟨g, o + 1, none⟩ = some (.string t.name) ∧ w.cell? ⟨g, o + 2, none⟩ = some (.int .i64 t.no) ∧ w.cell? ⟨g, o + 3, none⟩ = some (.bool t.must) ∧ w.cell? ⟨g, o + 4, none⟩ = some (.int .i64 t.most) ∧ w.cell? ⟨g, o + 5, none⟩ = some c

/-- the parts of a tree, d steps deep at most, as a slice: in blocks of S alone -/
def KidsIn : Nat → World → (Nat → Prop) → Value → List Tr → Prop
  | 0, _, _, c, l => ∃ ao cap, c = .slice ao 0 cap ∧ cap ≤ maxLen ∧ l = []
  | d + 1, w, S, c, l => ∃ ao cap, c = .slice ao l.length cap ∧ l.length ≤ cap ∧ cap ≤ maxLen ∧ ∀ i t, l[i]? = some t → ∃ g o c', ao = some ⟨g, o, none⟩ ∧ S g ∧ NdIn w g (o + i * 6) t c' ∧ KidsIn d w S c' t.kids

theorem cell_blockEq {w w' : World} {g o : Nat} (h : w'.heap[g]? = w.heap[g]?) : w'.cell? ⟨g, o, none⟩ = w.cell? ⟨g, o, none⟩ := World.cell?_of_block (w := w) h

theorem NdIn.kept {w w' : World} {g o : Nat} {t : Tr} {c : Value} (h : NdIn w g o t c) (hb : w'.heap[g]? = w.heap[g]?) : NdIn w' g o t c := by
  obtain ⟨c0, c1, c2, c3, c4, c5⟩ := h
  exact ⟨(cell_blockEq hb).trans c0, (cell_blockEq hb).trans c1, (cell_blockEq hb).trans c2, (cell_blockEq hb).trans c3, (cell_blockEq hb).trans c4, (cell_blockEq hb).trans c5⟩

theorem KidsIn.kept {w w' : World} {S S' : Nat → Prop} (hS : ∀ g, S g → w'.heap[g]? = w.heap[g]?) (hS' : ∀ g, S g → S' g) : ∀ {d : Nat} {c : Value} {l : List Tr}, KidsIn d w S c l → KidsIn d w' S' c l
  | 0, _, _, h => h
  | d + 1, c, l, h => by
    obtain ⟨ao, cap, hc, h1, h2, h3⟩ := h
    refine ⟨ao, cap, hc, h1, h2, fun i t hi => ?_⟩
    obtain ⟨g, o, c', ha, hg, hn, hk⟩ := h3 i t hi
    exact ⟨g, o, c', ha, hS' g hg, hn.kept (hS g hg), KidsIn.kept hS hS' hk⟩

theorem KidsIn.form {d : Nat} {w : World} {S : Nat → Prop} {c : Value} {l : List Tr} (h : KidsIn d w S c l) : ∃ ao cap, c = .slice ao l.length cap ∧ cap ≤ maxLen := by
  cases d with
  | zero => obtain ⟨ao, cap, hc, h1, rfl⟩ := h; exact ⟨ao, cap, hc, h1⟩
  | succ d => obtain ⟨ao, cap, hc, _, h1, _⟩ := h; exact ⟨ao, cap, hc, h1⟩

end Go.Proofs.Ytfkhbbmnjndmcaa

namespace Go.Proofs.Ytfkhbbmnjndmcaa
open Go.RowKit Plain Sch

theorem ints_at {w : World} {B n cap g : Nat} {l : List Nat} (h : w.ownsRow B 3 1 (.slice (some ⟨g, 0, none⟩) n cap) n (ints l)) (i x : Nat) (hx : l[i]? = some x) (hi : i < n) : w.cell? ⟨g, i, none⟩ = some (.int .i64 (x : Int)) := by
  have := h.cellAt i (by omega)
  rw [this]
  simp [ints, hx]

theorem one6 {k : Int} {nm : ByteArray} {no : Int} {m : Bool} {mo : Int} {ao : Option Addr} {l cp : Nat} : ∀ u ∈ [Value.int .i64 k, .string nm, .int .i64 no, .bool m, .int .i64 mo, .slice ao l cp], u.oneCell' = true := by
  intro u hu
  simp at hu
  rcases hu with rfl | rfl | rfl | rfl | rfl | rfl <;> rfl

theorem own_keptB {w w' : World} {B e size n : Nat} {v : Value} {xs : List Value} (h : w.ownsRow B e size v n xs) (hb : ∀ g, v.ownBlock = some g → w'.heap[g]? = w.heap[g]?) : w'.ownsRow B e size v n xs := by
  refine ⟨h.1, ?_⟩
  rcases h.2 with hn | ⟨g, cap, cur, hv, hg, hgg, rest⟩
  · exact .inl hn
  · exact .inr ⟨g, cap, cur, hv, hg, (hb g (by rw [hv]; rfl)).trans hgg, rest⟩

theorem flat6 {α : Type} (F : α → List Value) (hF : ∀ x, (F x).length = 6) (l : List α) (i j : Nat) (x : α) (h : l[i]? = some x) (hj : j < 6) : (l.flatMap F)[i * 6 + j]? = (F x)[j]? := by
  induction l generalizing i with
  | nil => simp at h
  | cons a l ih =>
    rw [List.flatMap_cons]
    have ha := hF a
    cases i with
    | zero =>
      simp at h; subst h
      rw [Nat.zero_mul, Nat.zero_add, List.getElem?_append_left (by omega)]
    | succ i =>
      simp at h
      rw [List.getElem?_append_right (by omega), ← ih i h]
      congr 1
      omega

theorem results_cell1 {fn : Func} {p : Tmp} {ty : TypeId} (h : fn.results = #[.cell p ty]) (tmps : Array Value) (P : Program) (w : World) :
    (results fn tmps).run P w = ((asAddr (tmps.getD p undef)).run P w).andThen fun a w₁ => (loadVar ty a).run P w₁ := by
  simp only [results, h]
  simp [Sem.run_bind, Result.andThen]

end Go.Proofs.Ytfkhbbmnjndmcaa

namespace Go.Proofs.Ytfkhbbmnjndmcaa
open Go.RowKit Plain Sch

def tv (t : Tr) (ac : Option Addr) (lc cc : Nat) : Value := .agg #[.int .i64 t.kind, .string t.name, .int .i64 t.no, .bool t.must, .int .i64 t.most, .slice ac lc cc]

end Go.Proofs.Ytfkhbbmnjndmcaa
