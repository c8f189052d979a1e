/- What the laws over sessions keep from call to call. What StepSession tells. A session made calm: all packets taken, each followed by all acks; then what is pending is sent, one by one. What CalmSession tells. -/
import Derived.Test.YtnlppeieccbhgaaSnM
import Derived.Test.YtnlppeieccbhgaaSnD
import Derived.Test.YtnlppeieccbhgaaSnP
import Derived.Test.YtnlppeieccbhgaaSnQ
import Derived.Test.YtnlppeieccbhgaaSnS
namespace Go.Proofs.Ytnlppeieccbhgaa
open Go.RowKit Plain Tpc Ssn

/-- the rows' blocks lie there -/
def OwnIn (lo hi : Nat) (vi vh vw va : Value) : Prop := ∀ g, vi.ownBlock = some g ∨ vh.ownBlock = some g ∨ vw.ownBlock = some g ∨ va.ownBlock = some g → lo ≤ g ∧ g < hi

theorem SesRow.ownIn {w : World} {B : Nat} {s : Ses} {vi vh vw va : Value} (h : SesRow w B s vi vh vw va) : OwnIn B w.heap.size vi vh vw va := fun g hg => by
  rcases hg with hg | hg | hg | hg
  · exact World.ownsRow.lt h.i g hg
  · exact World.ownsRow.lt h.h g hg
  · exact World.ownsRow.lt h.y g hg
  · exact World.ownsRow.lt h.a g hg

theorem own_keptS {w w' : World} {B e size n : Nat} {v : Value} {xs : List Value} (h : w.ownsRow B e size v n xs) (hk : ∀ g, v.ownBlock = some g → w'.heap[g]? = w.heap[g]?) : w'.ownsRow B e size v n xs := by
  refine ⟨h.1, ?_⟩
  rcases h.2 with hn | ⟨g, cap, cur, hv, hB, hgg, rest⟩
  · exact .inl hn
  · exact .inr ⟨g, cap, cur, hv, hB, (hk g (by rw [hv]; rfl)).trans hgg, rest⟩

theorem SesRow.mid {w w' : World} {B B' T lo hi : Nat} {s : Ses} {vi vh vw va : Value} (h : SesRow w B s vi vh vw va) (ho : OwnIn lo hi vi vh vw va) (hm : Mid B' T w w') (hk : hi ≤ B' ∨ T ≤ lo) : SesRow w' B s vi vh vw va := by
  have k : ∀ g, vi.ownBlock = some g ∨ vh.ownBlock = some g ∨ vw.ownBlock = some g ∨ va.ownBlock = some g → w'.heap[g]? = w.heap[g]? := fun g hg => by
    have h1 := ho g hg
    have h2 := h.ownIn g hg
    exact hm.block g h2.2 (by omega)
  exact ⟨own_keptS h.i fun g hg => k g (.inl hg), own_keptS h.h fun g hg => k g (.inr (.inl hg)), own_keptS h.y fun g hg => k g (.inr (.inr (.inl hg))), own_keptS h.a fun g hg => k g (.inr (.inr (.inr hg))), h.ih, h.iw, h.ia, h.hw, h.ha, h.wa⟩

theorem Sv.mid {w w' : World} {b B T : Nat} {x0 x1 x2 x3 x4 x5 : Value} (h : Sv w b x0 x1 x2 x3 x4 x5) (hm : Mid B T w w') (hk : b < B ∨ T ≤ b) : Sv w' b x0 x1 x2 x3 x4 x5 := h.kept (hm.block b h.low hk) hm.size

theorem StRow.mid {w w' : World} {B B' T lo hi : Nat} {v : Value} {L : List ByteArray} (h : StRow w B v L) (ho : ∀ g, v.ownBlock = some g → lo ≤ g ∧ g < hi) (hm : Mid B' T w w') (hk : hi ≤ B' ∨ T ≤ lo) : StRow w' B v L :=
  own_keptS h fun g hg => hm.block g (World.ownsRow.lt h g hg).2 (by have := ho g hg; omega)

theorem SesRow.form {w : World} {B : Nat} {s : Ses} {vi vh vw va : Value} (h : SesRow w B s vi vh vw va) : ∃ ai ci ah ch aw cw aa ca, vi = .slice ai s.items.length ci ∧ vh = .slice ah s.handed.length ch ∧ vw = .slice aw s.way.length cw ∧ va = .slice aa s.acks.length ca := h.at.form

/-- a session as an answer, its slices shown -/
def SesOut (w w' : World) (s : Ses) (P : Value → Prop) : Prop := ∃ ai ci ah ch aw cw aa ca, P (.agg #[.int .i64 s.ep, .slice ai s.items.length ci, .int .i64 s.base, .slice ah s.handed.length ch, .slice aw s.way.length cw, .slice aa s.acks.length ca]) ∧ SesRow w' w.heap.size s (.slice ai s.items.length ci) (.slice ah s.handed.length ch) (.slice aw s.way.length cw) (.slice aa s.acks.length ca) ∧ Below w.heap.size w w'

theorem SesOut.mk {w w' : World} {s : Ses} {P : Value → Prop} {vi vh vw va : Value} (hp : P (s.val vi vh vw va)) (hr : SesRow w' w.heap.size s vi vh vw va) (hb : Below w.heap.size w w') : SesOut w w' s P := by
  obtain ⟨ai, ci, ah, ch, aw, cw, aa, ca, rfl, rfl, rfl, rfl⟩ := hr.form
  exact ⟨ai, ci, ah, ch, aw, cw, aa, ca, hp, hr, hb⟩

end Go.Proofs.Ytnlppeieccbhgaa

namespace Go.Proofs.Ytnlppeieccbhgaa
open Go.RowKit Plain Tpc Ssn

def Ssn.zeS : Ses := ⟨0, [], 0, [], [], []⟩
def Ssn.spK (s : Ses) (x : Sp) : Bool := gs s && stK s x
def Ssn.spS (s : Ses) (x : Sp) : Ses := if spK s x = true then stS s x else zeS

theorem zeS_row (w : World) (B : Nat) : SesRow w B zeS (.slice none 0 0) (.slice none 0 0) (.slice none 0 0) (.slice none 0 0) :=
  ⟨⟨rfl, .inl ⟨rfl, rfl⟩⟩, ⟨rfl, .inl ⟨rfl, rfl⟩⟩, ⟨rfl, .inl ⟨rfl, rfl⟩⟩, ⟨rfl, .inl ⟨rfl, rfl⟩⟩, fun _ q => by simp [Value.ownBlock] at q, fun _ q => by simp [Value.ownBlock] at q, fun _ q => by simp [Value.ownBlock] at q, fun _ q => by simp [Value.ownBlock] at q, fun _ q => by simp [Value.ownBlock] at q, fun _ q => by simp [Value.ownBlock] at q⟩

def StpO (w w' : World) (e : Ending) (s : Ses) (x : Sp) : Prop := SesOut w w' (spS s x) (fun v => e = .returned (.tuple #[v, .bool (spK s x)]))

theorem StpO.no {w w' : World} {s : Ses} {x : Sp} (h : spK s x = false) (hb : Below w.heap.size w w') : StpO w w' (.returned (.tuple #[.agg #[.int .i64 0, .slice none 0 0, .int .i64 0, .slice none 0 0, .slice none 0 0, .slice none 0 0], .bool false])) s x := by
  unfold StpO spS
  rw [h]
  exact SesOut.mk (s := zeS) rfl (zeS_row _ _) hb
theorem StpO.yes {w w' : World} {s : Ses} {x : Sp} {vi vh vw va : Value} (h : spK s x = true) (hr : SesRow w' w.heap.size (stS s x) vi vh vw va) (hb : Below w.heap.size w w') : StpO w w' (.returned (.tuple #[(stS s x).val vi vh vw va, .bool true])) s x := by
  unfold StpO spS
  rw [h]
  exact SesOut.mk rfl hr hb

theorem Below.sets6 {w w' : World} {B b : Nat} {x0 x1 x2 x3 x4 x5 : Value} (h : Below B w w') (hb : B ≤ b) : Below B w ((((((w'.setCell ⟨b, 0, none⟩ x0).setCell ⟨b, 1, none⟩ x1).setCell ⟨b, 2, none⟩ x2).setCell ⟨b, 3, none⟩ x3).setCell ⟨b, 4, none⟩ x4).setCell ⟨b, 5, none⟩ x5) :=
  (((((h.setCell (p := ⟨b, 0, none⟩) hb x0).setCell (p := ⟨b, 1, none⟩) hb x1).setCell (p := ⟨b, 2, none⟩) hb x2).setCell (p := ⟨b, 3, none⟩) hb x3).setCell (p := ⟨b, 4, none⟩) hb x4).setCell (p := ⟨b, 5, none⟩) hb x5

theorem Gd.sml {s : Ses} (h : Gd s) : Sml s 30 := ⟨h.il, by have := h.hl; have := h.il; omega, by have := h.yl; omega, by have := h.al; omega⟩
theorem Sml.up {s : Ses} {M N : Nat} (h : Sml s M) (hN : M ≤ N) : Sml s N := ⟨by have := h.i; omega, by have := h.h; omega, by have := h.y; omega, by have := h.a; omega⟩

end Go.Proofs.Ytnlppeieccbhgaa

namespace Go.Proofs.Ytnlppeieccbhgaa
open Go.RowKit Plain Tpc Ssn

namespace Ssn
def aksA : Nat → Ses → Ses
  | 0, s => s
  | n + 1, s => aksA n (ackS s 0)
def ackAll (s : Ses) : Ses := aksA s.acks.length s
def calmA : Nat → Ses → Ses
  | 0, s => s
  | n + 1, s => calmA n (ackAll (takeS s 0))
def calmB (s : Ses) : Ses := calmA s.way.length s
def calm (s : Ses) : Ses := calmB (ackAll s)
def clmA : Nat → Ses → Nat → Ses × Nat
  | 0, s, c => (s, c)
  | n + 1, s, c => if s.base < (s.items.length : Int) then clmA n (calm (sendS s s.base)) (c + 1) else (s, c)
def clm (s : Ses) : Ses × Nat := clmA 31 (calm s) 0
end Ssn

theorem outA_len (l : List Ak) : (outA l 0).length = l.length - 1 := by unfold outA; simp
theorem outP_len (l : List Pk) : (outP l 0).length = l.length - 1 := by unfold outP; simp

theorem ackAll_step {s : Ses} (h : 0 < s.acks.length) : ackAll (ackS s 0) = ackAll s := by
  unfold ackAll
  obtain ⟨n, hn⟩ : ∃ n, s.acks.length = n + 1 := ⟨s.acks.length - 1, by omega⟩
  have h1 : (ackS s 0).acks.length = n := by
    show (outA s.acks (Int.toNat 0)).length = n
    rw [show Int.toNat 0 = 0 from rfl, outA_len _]; omega
  rw [h1, hn]
  rfl
theorem ackAll_nil {s : Ses} (h : s.acks.length = 0) : ackAll s = s := by unfold ackAll; rw [h]; rfl

theorem aksA_keep : ∀ (n : Nat) (s : Ses), (aksA n s).way = s.way ∧ (aksA n s).items = s.items ∧ (aksA n s).handed = s.handed ∧ (aksA n s).ep = s.ep ∧ s.base ≤ (aksA n s).base ∧ (s.acks.length = n → (aksA n s).acks = [])
  | 0, s => ⟨rfl, rfl, rfl, rfl, Int.le_refl _, fun h => List.eq_nil_of_length_eq_zero h⟩
  | n + 1, s => by
    obtain ⟨h1, h2, h3, h4, h5, h6⟩ := aksA_keep n (ackS s 0)
    refine ⟨h1, h2, h3, h4, ?_, fun h => h6 ?_⟩
    · refine Int.le_trans ?_ h5
      show s.base ≤ raise s.base s _
      unfold raise
      split
      · rename_i hq; omega
      · exact Int.le_refl _
    · show (outA s.acks (Int.toNat 0)).length = n
      rw [show Int.toNat 0 = 0 from rfl, outA_len _]; omega
theorem aksA_good : ∀ (n : Nat) (s : Ses), s.acks.length = n → Gd s → Gd (aksA n s)
  | 0, _, _, h => h
  | n + 1, s, hn, h => by
    refine aksA_good n (ackS s 0) ?_ (h.ack ?_)
    · show (outA s.acks (Int.toNat 0)).length = n
      rw [show Int.toNat 0 = 0 from rfl, outA_len _]; omega
    · unfold inA; exact decide_eq_true ⟨by omega, by omega⟩

theorem ackAll_way (s : Ses) : (ackAll s).way = s.way := (aksA_keep _ s).1
theorem ackAll_items (s : Ses) : (ackAll s).items = s.items := (aksA_keep _ s).2.1
theorem ackAll_acks (s : Ses) : (ackAll s).acks = [] := (aksA_keep _ s).2.2.2.2.2 rfl
theorem ackAll_base (s : Ses) : s.base ≤ (ackAll s).base := (aksA_keep _ s).2.2.2.2.1
theorem ackAll_good {s : Ses} (h : Gd s) : Gd (ackAll s) := aksA_good _ s rfl h

theorem come_way (s : Ses) (p : Pk) : (come s p).way = s.way ∧ (come s p).items = s.items ∧ (come s p).base = s.base := by
  unfold come
  split
  · exact ⟨rfl, rfl, rfl⟩
  · exact ⟨rfl, rfl, rfl⟩
theorem takeS_way (s : Ses) : (takeS s 0).way = outP s.way 0 := (come_way _ _).1
theorem takeS_items (s : Ses) : (takeS s 0).items = s.items := (come_way _ _).2.1
theorem takeS_base (s : Ses) : (takeS s 0).base = s.base := (come_way _ _).2.2

theorem calmB_step {s : Ses} (h : 0 < s.way.length) : calmB (ackAll (takeS s 0)) = calmB s := by
  unfold calmB
  obtain ⟨n, hn⟩ : ∃ n, s.way.length = n + 1 := ⟨s.way.length - 1, by omega⟩
  have h1 : (ackAll (takeS s 0)).way.length = n := by rw [ackAll_way, takeS_way, outP_len _]; omega
  rw [h1, hn]
  rfl
theorem calmB_nil {s : Ses} (h : s.way.length = 0) : calmB s = s := by unfold calmB; rw [h]; rfl

theorem calmA_keep : ∀ (n : Nat) (s : Ses), s.way.length = n → s.acks = [] → Gd s → (calmA n s).way = [] ∧ (calmA n s).acks = [] ∧ (calmA n s).items = s.items ∧ s.base ≤ (calmA n s).base ∧ Gd (calmA n s)
  | 0, s, h, ha, hg => ⟨List.eq_nil_of_length_eq_zero h, ha, rfl, Int.le_refl _, hg⟩
  | n + 1, s, h, _, hg => by
    have hi : inW s 0 = true := by unfold inW; exact decide_eq_true ⟨by omega, by omega⟩
    obtain ⟨h1, h2, h3, h4, h5⟩ := calmA_keep n (ackAll (takeS s 0)) (by rw [ackAll_way, takeS_way, outP_len _]; omega) (ackAll_acks _) (ackAll_good (hg.take hi))
    refine ⟨h1, h2, h3.trans ?_, Int.le_trans ?_ h4, h5⟩
    · rw [ackAll_items, takeS_items]
    · have := ackAll_base (takeS s 0)
      rw [takeS_base] at this
      exact this
theorem calm_keep {s : Ses} (hg : Gd s) : (calm s).way = [] ∧ (calm s).acks = [] ∧ (calm s).items = s.items ∧ s.base ≤ (calm s).base ∧ Gd (calm s) := by
  obtain ⟨h1, h2, h3, h4, h5⟩ := calmA_keep (ackAll s).way.length (ackAll s) rfl (ackAll_acks s) (ackAll_good hg)
  exact ⟨h1, h2, h3.trans (ackAll_items s), Int.le_trans (ackAll_base s) h4, h5⟩

/-- a calm session can send as long as there is an item at Base -/
theorem calm_send {s : Ses} (hw : s.way = []) : sendK s s.base = decide (s.base < (s.items.length : Int)) := by
  unfold sendK
  rw [hw, decide_eq_true (show s.base ≤ s.base by omega), decide_eq_true (show s.base < s.base + 4 by omega)]
  simp

/-- and Base rises by it -/
theorem calm_rise {s : Ses} (hw : s.way = []) (ha : s.acks = []) (hg : Gd s) : s.base + 1 ≤ (calm (sendS s s.base)).base := by
  have hb1 := hg.b1
  have e1 : (sendS s s.base).acks.length = 0 := by unfold sendS; rw [ha]; rfl
  have e2 : (sendS s s.base).way = [⟨s.ep, s.base, lq s.items s.base.toNat⟩] := by unfold sendS; rw [hw]; rfl
  unfold calm
  rw [ackAll_nil e1]
  unfold calmB
  rw [e2]
  show s.base + 1 ≤ (ackAll (takeS (sendS s s.base) 0)).base
  have e3 : takeS (sendS s s.base) 0 = come (loseS (sendS s s.base) 0) ⟨s.ep, s.base, lq s.items s.base.toNat⟩ := by
    unfold takeS
    rw [e2]
    rfl
  rw [e3]
  have e4 : (loseS (sendS s s.base) 0).acks = [] := by show s.acks = []; exact ha
  obtain ⟨h, hh, hl⟩ : ∃ h : List ByteArray, (if s.base = (s.handed.length : Int) then s.handed ++ [lq s.items s.base.toNat] else s.handed) = h ∧ s.base + 1 ≤ (h.length : Int) := by
    by_cases hq : s.base = (s.handed.length : Int)
    · rw [if_pos hq]; exact ⟨_, rfl, by simp; omega⟩
    · rw [if_neg hq]; exact ⟨_, rfl, by omega⟩
  have e5 : (come (loseS (sendS s s.base) 0) ⟨s.ep, s.base, lq s.items s.base.toNat⟩).acks = [⟨s.ep, (h.length : Int)⟩] := by
    unfold come
    rw [if_pos (show s.ep = (loseS (sendS s s.base) 0).ep from rfl), e4]
    show (if ([] : List Ak).length < 12 then (([] : List Ak) ++ [⟨s.ep, _⟩]) else ([] : List Ak)) = _
    rw [if_pos (by decide), List.nil_append]
    show [(⟨s.ep, (((if s.base = (s.handed.length : Int) then s.handed ++ [lq s.items s.base.toNat] else s.handed) : List ByteArray).length : Int)⟩ : Ak)] = _
    rw [hh]
  have e6 : (come (loseS (sendS s s.base) 0) ⟨s.ep, s.base, lq s.items s.base.toNat⟩).ep = s.ep := by unfold come; split <;> rfl
  have e7 := (come_way (loseS (sendS s s.base) 0) ⟨s.ep, s.base, lq s.items s.base.toNat⟩).2.2
  generalize come (loseS (sendS s s.base) 0) ⟨s.ep, s.base, lq s.items s.base.toNat⟩ = t at e5 e6 e7 ⊢
  unfold ackAll
  rw [e5]
  show s.base + 1 ≤ (ackS t 0).base
  show s.base + 1 ≤ raise t.base t (ak t.acks (Int.toNat 0))
  rw [e5, show ak [(⟨s.ep, (h.length : Int)⟩ : Ak)] (Int.toNat 0) = ⟨s.ep, (h.length : Int)⟩ from rfl]
  unfold raise
  have e8 : t.base = s.base := e7
  rw [if_pos (show s.ep = t.ep ∧ t.base < (h.length : Int) from ⟨e6.symm, by omega⟩)]
  exact hl

end Go.Proofs.Ytnlppeieccbhgaa

namespace Go.Proofs.Ytnlppeieccbhgaa
open Go.RowKit Plain Tpc Ssn

theorem results_cell2S {fn : Func} {p u v : Tmp} {ty : TypeId} (h : fn.results = #[.cell p ty, .tmp u, .tmp v]) (tmps : Array Value) (P : Program) (w : World) :
    (results fn tmps).run P w =
      ((asAddr (tmps.getD p undef)).run P w).andThen fun a w₁ => ((loadVar ty a).run P w₁).andThen fun x w₂ => .ok (.tuple #[x, tmps.getD u undef, tmps.getD v undef]) w₂ := by
  simp only [results, h]
  simp [Sem.run_bind, Result.andThen]

def Ssn.cmS (s : Ses) : Ses := if gs s = true then (clm s).1 else zeS
def Ssn.cmN (s : Ses) : Int := if gs s = true then ((clm s).2 : Int) else 0

def CmO (w w' : World) (e : Ending) (s : Ses) : Prop := SesOut w w' (cmS s) (fun v => e = .returned (.tuple #[v, .int .i64 (cmN s), .bool (gs s)]))

theorem CmO.no {w w' : World} {s : Ses} (h : gs s = false) (hb : Below w.heap.size w w') : CmO w w' (.returned (.tuple #[.agg #[.int .i64 0, .slice none 0 0, .int .i64 0, .slice none 0 0, .slice none 0 0, .slice none 0 0], .int .i64 0, .bool false])) s := by
  unfold CmO cmS cmN
  rw [h]
  exact SesOut.mk (s := zeS) rfl (zeS_row _ _) hb
theorem CmO.yes {w w' : World} {s t : Ses} {c : Nat} {vi vh vw va : Value} (h : gs s = true) (hc : clm s = (t, c)) (hr : SesRow w' w.heap.size t vi vh vw va) (hb : Below w.heap.size w w') : CmO w w' (.returned (.tuple #[t.val vi vh vw va, .int .i64 (c : Int), .bool true])) s := by
  unfold CmO cmS cmN
  rw [h, hc]
  exact SesOut.mk rfl hr hb

theorem clmA_end {k c : Nat} {t : Ses} (h : ¬ t.base < (t.items.length : Int)) : clmA k t c = (t, c) := by
  cases k with
  | zero => rfl
  | succ n => show (if t.base < (t.items.length : Int) then _ else _) = _; rw [if_neg h]
theorem clmA_step {n c : Nat} {t : Ses} (h : t.base < (t.items.length : Int)) : clmA (n + 1) t c = clmA n (calm (sendS t t.base)) (c + 1) := by
  show (if t.base < (t.items.length : Int) then _ else _) = _
  rw [if_pos h]

theorem clmA_cap : ∀ (k c : Nat) (t : Ses), t.items.length ≤ 30 → Gd t → t.way = [] → t.acks = [] → Gd (clmA k t c).1 ∧ (clmA k t c).2 ≤ c + k
  | 0, _, _, _, hg, _, _ => ⟨hg, Nat.le_refl _⟩
  | n + 1, c, t, hi, hg, hw, ha => by
    by_cases h : t.base < (t.items.length : Int)
    · rw [clmA_step h]
      have hk : sendK t t.base = true := by rw [calm_send hw]; exact decide_eq_true h
      obtain ⟨h1, h2, h3, _, h5⟩ := calm_keep (hg.send hk)
      obtain ⟨r1, r2⟩ := clmA_cap n (c + 1) (calm (sendS t t.base)) (by rw [h3]; exact hi) h5 h1 h2
      exact ⟨r1, by omega⟩
    · rw [clmA_end h]
      exact ⟨hg, Nat.le_add_right _ _⟩
theorem clm_good {s : Ses} (hg : Gd s) : Gd (clm s).1 ∧ (clm s).2 ≤ 31 := by
  obtain ⟨h1, h2, h3, _, h5⟩ := calm_keep hg
  have := clmA_cap 31 0 (calm s) (by rw [h3]; exact hg.il) h5 h1 h2
  exact ⟨this.1, by have := this.2; unfold clm; omega⟩

end Go.Proofs.Ytnlppeieccbhgaa
