/- What CalmSession tells. -/
import Derived.Test.YtnlppeieccbhgaaSnCa
import Derived.Test.YtnlppeieccbhgaaSnSu
namespace Go.Proofs.Ytnlppeieccbhgaa
open Go.RowKit Plain Tpc Ssn

theorem results_cell2S {fn : Func} {p u v : Tmp} {ty : TypeId} (h : fn.results = #[.cell p ty, .tmp u, .tmp v]) (tmps : Array Value) (P : Program) (w : World) :
    (results fn tmps).run P w =
      ((asAddr (tmps.getD p undef)).run P w).andThen fun a w₁ => ((loadVar ty a).run P w₁).andThen fun x w₂ => .ok (.tuple #[x, tmps.getD u undef, tmps.getD v undef]) w₂ := by
  simp only [results, h]
  simp [Sem.run_bind, Result.andThen]

def Ssn.cmS (s : Ses) : Ses := if gs s = true then (clm s).1 else zeS
def Ssn.cmN (s : Ses) : Int := if gs s = true then ((clm s).2 : Int) else 0

def CmO (w w' : World) (e : Ending) (s : Ses) : Prop := SesOut w w' (cmS s) (fun v => e = .returned (.tuple #[v, .int .i64 (cmN s), .bool (gs s)]))

theorem CmO.no {w w' : World} {s : Ses} (h : gs s = false) (hb : Below w.heap.size w w') : CmO w w' (.returned (.tuple #[.agg #[.int .i64 0, .slice none 0 0, .int .i64 0, .slice none 0 0, .slice none 0 0, .slice none 0 0], .int .i64 0, .bool false])) s := by
  unfold CmO cmS cmN
  rw [h]
  exact SesOut.mk (s := zeS) rfl (zeS_row _ _) hb
theorem CmO.yes {w w' : World} {s t : Ses} {c : Nat} {vi vh vw va : Value} (h : gs s = true) (hc : clm s = (t, c)) (hr : SesRow w' w.heap.size t vi vh vw va) (hb : Below w.heap.size w w') : CmO w w' (.returned (.tuple #[t.val vi vh vw va, .int .i64 (c : Int), .bool true])) s := by
  unfold CmO cmS cmN
  rw [h, hc]
  exact SesOut.mk rfl hr hb

theorem clmA_end {k c : Nat} {t : Ses} (h : ¬ t.base < (t.items.length : Int)) : clmA k t c = (t, c) := by
  cases k with
  | zero => rfl
  | succ n => show (if t.base < (t.items.length : Int) then _ else _) = _; rw [if_neg h]
theorem clmA_step {n c : Nat} {t : Ses} (h : t.base < (t.items.length : Int)) : clmA (n + 1) t c = clmA n (calm (sendS t t.base)) (c + 1) := by
  show (if t.base < (t.items.length : Int) then _ else _) = _
  rw [if_pos h]

theorem clmA_cap : ∀ (k c : Nat) (t : Ses), t.items.length ≤ 30 → Gd t → t.way = [] → t.acks = [] → Gd (clmA k t c).1 ∧ (clmA k t c).2 ≤ c + k
  | 0, _, _, _, hg, _, _ => ⟨hg, Nat.le_refl _⟩
  | n + 1, c, t, hi, hg, hw, ha => by
    by_cases h : t.base < (t.items.length : Int)
    · rw [clmA_step h]
      have hk : sendK t t.base = true := by rw [calm_send hw]; exact decide_eq_true h
      obtain ⟨h1, h2, h3, _, h5⟩ := calm_keep (hg.send hk)
      obtain ⟨r1, r2⟩ := clmA_cap n (c + 1) (calm (sendS t t.base)) (by rw [h3]; exact hi) h5 h1 h2
      exact ⟨r1, by omega⟩
    · rw [clmA_end h]
      exact ⟨hg, Nat.le_add_right _ _⟩
theorem clm_good {s : Ses} (hg : Gd s) : Gd (clm s).1 ∧ (clm s).2 ≤ 31 := by
  obtain ⟨h1, h2, h3, _, h5⟩ := calm_keep hg
  have := clmA_cap 31 0 (calm s) (by rw [h3]; exact hg.il) h5 h1 h2
  exact ⟨this.1, by have := this.2; unfold clm; omega⟩

end Go.Proofs.Ytnlppeieccbhgaa
