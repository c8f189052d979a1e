/- The model's pairs: rows of them, l12At. -/
import Derived.Test.YtkkofblgjilopaaMcYa
import Derived.Laws.BytesArg
namespace Go.Proofs.Ytkkofblgjilopaa
open Go.RowKit Plain Mch Tpc

def Mch.Pq.cells3 (p : Pq) : List Value := [.int .i64 (p.a : Int), .int .i64 (p.b : Int), .string p.s]

theorem flatT (l : List Pq) (i j : Nat) (h : i < l.length) (hj : j < 3) : (l.flatMap Pq.cells3)[i * 3 + j]? = (pq l i).cells3[j]? := by
  induction l generalizing i with
  | nil => simp at h
  | cons a l ih =>
    rw [List.flatMap_cons]
    have ha : a.cells3.length = 3 := rfl
    cases i with
    | zero =>
      rw [Nat.zero_mul, Nat.zero_add, List.getElem?_append_left (by omega)]
      rfl
    | succ i =>
      rw [List.getElem?_append_right (by omega)]
      have := ih i (by simpa using h)
      have e : pq (a :: l) (i + 1) = pq l i := by simp [pq]
      rw [e, ← this]
      congr 1
      omega
theorem flatT_len (l : List Pq) : (l.flatMap Pq.cells3).length = l.length * 3 := by
  induction l with
  | nil => rfl
  | cons a l ih => rw [List.flatMap_cons, List.length_append, ih, List.length_cons]; have : a.cells3.length = 3 := rfl; omega

/-- an own row of pairs with their texts -/
def TRow (w : World) (B : Nat) (v : Value) (l : List Pq) : Prop := w.ownsRow B 79 3 v l.length (l.flatMap Pq.cells3)

theorem TRow.slice {w : World} {B : Nat} {v : Value} {l : List Pq} (h : TRow w B v l) : ∃ ao cap, v = Value.slice ao l.length cap ∧ cap ≤ maxLen := by
  rcases h.2 with ⟨rfl, h0⟩ | ⟨g, cap, cur, rfl, _, _, h1, h2, _⟩
  · exact ⟨none, 0, by rw [h0], by unfold maxLen; omega⟩
  · exact ⟨_, _, rfl, h2⟩

theorem TRow.cells {w : World} {B n cap : Nat} {ao : Option Addr} {l : List Pq} (h : TRow w B (.slice ao n cap) l) {i : Nat} (hi : i < l.length) : ∃ g, ao = some ⟨g, 0, none⟩ ∧ g < w.heap.size ∧ B ≤ g ∧ w.cell? ⟨g, i * 3, none⟩ = some (.int .i64 ((pq l i).a : Int)) ∧ w.cell? ⟨g, i * 3 + 1, none⟩ = some (.int .i64 ((pq l i).b : Int)) ∧ w.cell? ⟨g, i * 3 + 2, none⟩ = some (.string (pq l i).s) := by
  obtain ⟨g, c, hv⟩ := Joins.ownsRow_form h (by omega)
  simp only [Value.slice.injEq] at hv
  obtain ⟨rfl, rfl, rfl⟩ := hv
  have hlt := World.ownsRow.lt h g rfl
  refine ⟨g, rfl, hlt.2, hlt.1, ?_, ?_, ?_⟩
  · have := World.ownsRow.cellAt h (i * 3) (by omega)
    rw [this]
    exact flatT l i 0 hi (by omega)
  · have := World.ownsRow.cellAt h (i * 3 + 1) (by omega)
    rw [this]
    exact flatT l i 1 hi (by omega)
  · have := World.ownsRow.cellAt h (i * 3 + 2) (by omega)
    rw [this]
    exact flatT l i 2 hi (by omega)

theorem TRow.snoc {w9 : World} {B g cap : Nat} {l : List Pq} {q : Pq} (hown : w9.ownsRow B 79 3 (.slice (some ⟨g, 0, none⟩) (l.length + 1) cap) (l.length + 1) (l.flatMap Pq.cells3 ++ [.int .i64 (q.a : Int), .int .i64 (q.b : Int), .string q.s])) : TRow w9 B (.slice (some ⟨g, 0, none⟩) (l.length + 1) cap) (l ++ [q]) := by
  unfold TRow
  rw [List.length_append, List.length_singleton, List.flatMap_append]
  simpa [Pq.cells3] using hown

set_option maxRecDepth 100000 in
set_option maxHeartbeats 4000000 in
theorem l12At_any (B : Nat) (v : Value) (l : List Pq) (x y : Nat) (w : World) (h : TRow w B v l) :
    Calls Try.prog 60 #[v, .int .i64 (x : Int), .int .i64 (y : Int)] w fun e w' => e = .returned (.int .i64 (if ix l x y < l.length then ((ix l x y : Nat) : Int) else -1)) ∧ Below w.heap.size w w' := by
  have HT : Hid (TRow w B v l) := h
  obtain ⟨ap, cp, hv, hcp⟩ := h.slice
  subst hv
  unfold maxLen at hcp
  obtain ⟨_, hlc⟩ : True ∧ l.length ≤ cp := ⟨trivial, by rcases h.2 with ⟨hh, h0⟩ | ⟨g, cap, cur, hh, _, _, h1, _⟩ <;> simp at hh <;> omega⟩
  clear h
  obtain ⟨RR, hRR⟩ : ∃ R : Int, R = if ix l x y < l.length then ((ix l x y : Nat) : Int) else -1 := ⟨_, rfl⟩
  rw [← hRR]
  have HRR : Hid (RR = if ix l x y < l.length then ((ix l x y : Nat) : Int) else -1) := hRR
  clear hRR
  go_enter Try.func60, Try.ntmps60
  go_wp2
  go_loopw [11] (fun vi wr => ∃ i : Nat, i ≤ l.length ∧ vi = .int .i64 (i : Int) ∧ Hid (i ≤ ix l x y) ∧ Hid (Below w.heap.size w wr))
    (fun vi _ => l.length - (intOf vi).toNat)
  case atStart => exact ⟨0, by omega, rfl, Nat.zero_le _, Below.refl _ _⟩
  case round =>
    obtain ⟨i, hil, rfl, hix, hbw⟩ := hrel
    have HTr : Hid (TRow wr B (.slice ap l.length cp) l) := own_belowM HT.out hbw.out
    have hsz := hbw.out.size
    by_cases hlt : i < l.length
    · have hlt' : (i : Int) < (l.length : Int) := by omega
      obtain ⟨g, hap, hgl, _, k0, k1, k2⟩ := HTr.out.cells hlt
      subst hap
      have HEQ : Hid ((pq l i).a = x ∧ (pq l i).b = y → ix l x y = i) := fun e => by
        have h1 := hix.out
        by_cases h2 : i < ix l x y
        · exact absurd e (ix_first h2)
        · omega
      have HNE : Hid (¬ ((pq l i).a = x ∧ (pq l i).b = y) → i + 1 ≤ ix l x y) := fun e => by
        have h1 := hix.out
        by_cases h2 : i = ix l x y
        · exfalso
          have h3 := ix_some (l := l) (a := x) (b := y) (by omega)
          rw [← h2] at h3
          exact e h3
        · omega
      generalize (pq l i).a = pa at k0 HEQ HNE
      generalize (pq l i).b = pb at k1 HEQ HNE
      generalize (pq l i).s = ps at k2
      have hbw2 : Hid (Below w.heap.size w (wr.alloc (.cells #[.int .i64 (pa : Int), .int .i64 (pb : Int), .string ps] 79))) := hbw.out.alloc hsz _
      by_cases hx : pa = x
      · subst hx
        have d1 : ((pa : Int) == (pa : Int)) = true := by simp
        by_cases hy : pb = y
        · subst hy
          have d2 : ((pb : Int) == (pb : Int)) = true := by simp
          have hR : Hid (RR = (i : Int)) := by show _ = _; rw [HRR.out, HEQ.out ⟨rfl, rfl⟩, if_pos hlt]
          clear HEQ HNE hix
          go_wp2
          go_ret
          exact ⟨by rw [hR.out]; rfl, hbw2.out⟩
        · have d2 : ((pb : Int) == (y : Int)) = false := by simp; omega
          have hN : Hid (i + 1 ≤ ix l pa y) := HNE.out (fun e => hy e.2)
          clear HEQ HNE hix hy
          go_wp2
          go_roundw
          case rel => exact ⟨i + 1, by omega, by go_num, hN, hbw2⟩
          case measure => simp [intOf]; omega
      · have d1 : ((pa : Int) == (x : Int)) = false := by simp; omega
        have hN : Hid (i + 1 ≤ ix l x y) := HNE.out (fun e => hx e.1)
        clear HEQ HNE hix hx
        go_wp2
        go_roundw
        case rel => exact ⟨i + 1, by omega, by go_num, hN, hbw2⟩
        case measure => simp [intOf]; omega
    · have hge : ¬ ((i : Int) < (l.length : Int)) := by omega
      have hR : Hid (RR = -1) := by
        have h1 := hix.out
        show _ = _
        rw [HRR.out, if_neg (by omega)]
      clear hix
      go_wp2
      go_ret
      exact ⟨by rw [hR.out]; rfl, hbw.out⟩

end Go.Proofs.Ytkkofblgjilopaa
