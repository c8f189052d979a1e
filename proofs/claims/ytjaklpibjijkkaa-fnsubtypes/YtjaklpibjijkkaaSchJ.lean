/- The model's parts of a type; how its trees lie in memory. -/
import Derived.Test.YtjaklpibjijkkaaSchH
namespace Go.Proofs.Ytjaklpibjijkkaa
open Go.RowKit Plain Sch

theorem Try.infoInt : (Try.prog.info? 3).map (fun i => (i.zero, i.size, i.bytes)) = some (some (.int .i64 0), 1, 8) := by kernel_rfl

theorem own_below {w w' : World} {B e size n : Nat} {v : Value} {xs : List Value} (h : w.ownsRow B e size v n xs) (hb : Below w.heap.size w w') : w'.ownsRow B e size v n xs := by
  refine ⟨h.1, ?_⟩
  rcases h.2 with hn | ⟨g, cap, cur, hv, hg, hgg, rest⟩
  · exact .inl hn
  · exact .inr ⟨g, cap, cur, hv, hg, (hb.block g (Array.getElem?_eq_some_iff.1 hgg).1).trans hgg, rest⟩

theorem cell_new (w : World) (c : Array Value) (t : TypeId) (n j : Nat) (hn : n = w.heap.size) : (w.alloc (.cells c t)).cell? ⟨n, 0 + j, none⟩ = c[j]? := by
  subst hn; simp

def kidsTo (T : List Ty) (k i : Nat) : List Nat := (List.range i).filter fun i => decide (k < i) && decide ((ty T i).up = (k : Int))

theorem kidsTo_start (T : List Ty) (k : Nat) : kidsTo T k (k + 1) = [] := by
  unfold kidsTo
  rw [List.filter_eq_nil_iff]
  intro x hx
  have := List.mem_range.1 hx
  simp
  omega

theorem kidsTo_end (T : List Ty) (k : Nat) : kidsTo T k T.length = kids T k := rfl

theorem kidsTo_yes (T : List Ty) (k i : Nat) (hi : k < i) (h : (ty T i).up = (k : Int)) : kidsTo T k (i + 1) = kidsTo T k i ++ [i] := by
  unfold kidsTo
  rw [List.range_succ, List.filter_append]
  simp [hi, h]

theorem kidsTo_no (T : List Ty) (k i : Nat) (h : ¬ (ty T i).up = (k : Int)) : kidsTo T k (i + 1) = kidsTo T k i := by
  unfold kidsTo
  rw [List.range_succ, List.filter_append]
  simp [h]

theorem kidsTo_len (T : List Ty) (k i : Nat) : (kidsTo T k i).length ≤ i := by
  unfold kidsTo
  refine Nat.le_trans (List.length_filter_le _ _) ?_
  simp

def ints (l : List Nat) : List Value := l.map fun (i : Nat) => .int .i64 (i : Int)

set_option maxRecDepth 100000 in
set_option maxHeartbeats 4000000 in
theorem l2Kids_any (T : List Ty) (v : Value) (k : Nat) (w : World) (hT : TysAt w w.heap.size v T) (hk : k < T.length) (hl : T.length ≤ 2097152) :
    Calls Try.prog 56 #[.agg #[v], .int .i64 k] w fun e w' => ∃ r, e = .returned r ∧ w'.ownsRow w.heap.size 3 1 r (kids T k).length (ints (kids T k)) ∧ Below w.heap.size w w' := by
  obtain ⟨i0, hi, hz0, hz1, hz2⟩ := info_parts Try.infoInt
  obtain ⟨g, o, cap, rfl, hlc, hcm, hg, hrow, _⟩ := hT.open (by omega)
  clear hT
  have hcm' : cap ≤ 9223372036854775807 := by unfold maxLen at hcm; omega
  go_enter Try.func56, Try.ntmps56
  go_wp2
  go_loopw [5, 6] (fun vl vi wr => ∃ (i : Nat), k < i ∧ i ≤ T.length ∧ vi = .int .i64 (i : Int) ∧ wr.ownsRow (w.heap.size + 1) 3 1 vl (kidsTo T k i).length (ints (kidsTo T k i)) ∧ Below (w.heap.size + 1) (w.alloc (.cells #[.slice (some ⟨g, o, none⟩) T.length cap] 30)) wr)
    (fun _ vi _ => T.length - (intOf vi).toNat)
  case atStart =>
    refine ⟨k + 1, by omega, by omega, by go_num, ?_, Below.refl _ _⟩
    rw [kidsTo_start]
    exact World.ownsRow_nil _ _ _ _
  case round =>
    obtain ⟨i, hki, hil, rfl, hown, hbw⟩ := hrel
    have hB0 : Below w.heap.size w wr := ((Below.refl _ w).alloc (Nat.le_refl _) _).trans (hbw.mono (by omega))
    have hsz : w.heap.size < wr.heap.size := by have := hbw.size; simp at this; omega
    have q0 : wr.cell? ⟨w.heap.size, 0, none⟩ = some (.slice (some ⟨g, o, none⟩) T.length cap) := (hbw.cell (p := ⟨w.heap.size, 0, none⟩) (by simp)).trans (by simp)
    have hkl := kidsTo_len T k i
    by_cases hlt : i < T.length
    · have hlt' : (i : Int) < (T.length : Int) := by omega
      have hi0 : (0 : Int) ≤ (i : Int) := by omega
      have hc4 := ((hrow i hlt).below hB0 hg).2.2.2.2.1
      by_cases hup : (ty T i).up = (k : Int)
      · have HK : Hid (kidsTo T k (i + 1) = kidsTo T k i ++ [i]) := kidsTo_yes T k i hki hup
        rw [hup] at hc4
        clear hup
        generalize kidsTo T k i = ks at hown hkl HK
        go_wp2_with (at_builtin; refine wpList_append_own _ rfl _ _ 45 rfl (w.heap.size + 1) 3 i0 (.int .i64 0) 1 8 Try.underlying45 hi hz0 hz1 hz2 rfl (by decide) _ _ _ rfl (hown.alloc _) ⟨wr.heap.size, 0, none⟩ 1 1 [Value.int .i64 (i : Int)] rfl rfl ?c1 ?c2 ?c3 ?c4 ?c5 ?_)
        case c1 =>
          intro j u hj
          match j, hj with
          | 0, hj => simp at hj; subst hj; simp [Addr.add]
          | j + 1, hj => simp at hj
        case c2 => intro u hu; simp at hu; subst hu; rfl
        case c3 => unfold maxLen; omega
        case c4 => omega
        case c5 => simp; omega
        intro v' w1 hown' hgrow _
        have hlt9 := hown.lt
        have hbw1 := (hbw.alloc (show w.heap.size + 1 ≤ wr.heap.size by omega) (.cells #[.int .i64 (i : Int)] 3)).grown hgrow (by simp; omega) (fun k hk => (hlt9 k hk).1)
        have hown1 : w1.ownsRow (w.heap.size + 1) 3 1 v' (ks ++ [i]).length (ints (ks ++ [i])) := by
          unfold ints
          rw [List.map_append, List.length_append, List.length_singleton]
          simpa [ints] using hown'
        clear hgrow hown' hlt9 hown hbw hB0
        go_wp2
        go_roundw
        case rel => exact ⟨i + 1, by omega, by omega, by go_num, by rw [HK.out]; exact hown1, hbw1⟩
        case measure => simp [intOf]; omega
      · have HK : Hid (kidsTo T k (i + 1) = kidsTo T k i) := kidsTo_no T k i hup
        generalize (ty T i).up = up at hc4 hup
        have hup' : (up == (k : Int)) = false := by simpa using hup
        clear hup
        generalize kidsTo T k i = ks at hown hkl HK
        go_wp2
        go_roundw
        case rel => exact ⟨i + 1, by omega, by omega, by go_num, by rw [HK.out]; exact hown, hbw⟩
        case measure => simp [intOf]; omega
    · have hke : i = T.length := by omega
      subst hke
      rw [kidsTo_end] at hown
      have hge : ¬ ((T.length : Int) < (T.length : Int)) := by omega
      go_wp2
      go_ret
      refine ⟨_, rfl, ?_, hB0⟩
      refine ⟨hown.1, ?_⟩
      rcases hown.2 with h | ⟨g', cap', cur, h1, h2, h3⟩
      · exact .inl h
      · exact .inr ⟨g', cap', cur, h1, by omega, h3⟩

def trCells (t : Tr) (c : Value) : List Value := [.int .i64 t.kind, .string t.name, .int .i64 t.no, .bool t.must, .int .i64 t.most, c]
def trVal (t : Tr) (c : Value) : Value := .agg #[.int .i64 t.kind, .string t.name, .int .i64 t.no, .bool t.must, .int .i64 t.most, c]

/-- the six cells of a node -/
def NdIn (w : World) (g o : Nat) (t : Tr) (c : Value) : Prop :=
  w.cell? ⟨g, o, none⟩ = some (.int .i64 t.kind) ∧ w.cell? ⟨g, o + 1, none⟩ = some (.string t.name) ∧ w.cell? ⟨g, o + 2, none⟩ = some (.int .i64 t.no) ∧ w.cell? ⟨g, o + 3, none⟩ = some (.bool t.must) ∧ w.cell? ⟨g, o + 4, none⟩ = some (.int .i64 t.most) ∧ w.cell? ⟨g, o + 5, none⟩ = some c

/-- the parts of a tree, d steps deep at most, as a slice: in blocks of S alone -/
def KidsIn : Nat → World → (Nat → Prop) → Value → List Tr → Prop
  | 0, _, _, c, l => ∃ ao cap, c = .slice ao 0 cap ∧ cap ≤ maxLen ∧ l = []
  | d + 1, w, S, c, l => ∃ ao cap, c = .slice ao l.length cap ∧ l.length ≤ cap ∧ cap ≤ maxLen ∧ ∀ i t, l[i]? = some t → ∃ g o c', ao = some ⟨g, o, none⟩ ∧ S g ∧ NdIn w g (o + i * 6) t c' ∧ KidsIn d w S c' t.kids

theorem cell_blockEq {w w' : World} {g o : Nat} (h : w'.heap[g]? = w.heap[g]?) : w'.cell? ⟨g, o, none⟩ = w.cell? ⟨g, o, none⟩ := World.cell?_of_block (w := w) h

theorem NdIn.kept {w w' : World} {g o : Nat} {t : Tr} {c : Value} (h : NdIn w g o t c) (hb : w'.heap[g]? = w.heap[g]?) : NdIn w' g o t c := by
  obtain ⟨c0, c1, c2, c3, c4, c5⟩ := h
  exact ⟨(cell_blockEq hb).trans c0, (cell_blockEq hb).trans c1, (cell_blockEq hb).trans c2, (cell_blockEq hb).trans c3, (cell_blockEq hb).trans c4, (cell_blockEq hb).trans c5⟩

theorem KidsIn.kept {w w' : World} {S S' : Nat → Prop} (hS : ∀ g, S g → w'.heap[g]? = w.heap[g]?) (hS' : ∀ g, S g → S' g) : ∀ {d : Nat} {c : Value} {l : List Tr}, KidsIn d w S c l → KidsIn d w' S' c l
  | 0, _, _, h => h
  | d + 1, c, l, h => by
    obtain ⟨ao, cap, hc, h1, h2, h3⟩ := h
    refine ⟨ao, cap, hc, h1, h2, fun i t hi => ?_⟩
    obtain ⟨g, o, c', ha, hg, hn, hk⟩ := h3 i t hi
    exact ⟨g, o, c', ha, hS' g hg, hn.kept (hS g hg), KidsIn.kept hS hS' hk⟩

theorem KidsIn.form {d : Nat} {w : World} {S : Nat → Prop} {c : Value} {l : List Tr} (h : KidsIn d w S c l) : ∃ ao cap, c = .slice ao l.length cap ∧ cap ≤ maxLen := by
  cases d with
  | zero => obtain ⟨ao, cap, hc, h1, rfl⟩ := h; exact ⟨ao, cap, hc, h1⟩
  | succ d => obtain ⟨ao, cap, hc, _, h1, _⟩ := h; exact ⟨ao, cap, hc, h1⟩

end Go.Proofs.Ytjaklpibjijkkaa
