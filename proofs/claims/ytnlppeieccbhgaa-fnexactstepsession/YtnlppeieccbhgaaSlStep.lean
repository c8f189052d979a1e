/- Proved here: at every session and step the law FnExactStepSession answers true, that is, StepSession answers as its model, its answer owns its memory, and it writes into nothing.
   Conditions: none beside the row's own. -/
import Derived.Test.YtnlppeieccbhgaaSnK
import Derived.Test.YtnlppeieccbhgaaXr
import Derived.Test.YtnlppeieccbhgaaXt
import Derived.Deep.DeepCutAuto
import Derived.Deep.RegionHeld3
import Derived.Deep.DrawnRows
import Derived.OpenShut
import Derived.ShutString
import Derived.ChangeMaps5
namespace Go.Proofs.Ytnlppeieccbhgaa
attribute [local go_sem ↓] Go.wp_at_zero Go.wp_at_succ
open Go.RowKit Plain Tpc Ssn

theorem Cv3.mid {w w' : World} {b B T : Nat} {x0 x1 x2 : Value} (h : Cv3 w b x0 x1 x2) (hm : Mid B T w w') (hk : b < B ∨ T ≤ b) : Cv3 w' b x0 x1 x2 := h.kept (hm.block b h.low hk) hm.size

theorem listed_ofB3 {md : Region.Mode} {ops : Array Oper} {l : Array Bool} (h0 : Region.ready md ops l = []) (i : Nat) (o : Oper) (hs : i < l.size) (ho : ops[i]? = some o) (hd : ∀ e ∈ o.after, Region.binds md e = true → l.getD e.on false = true) : l.getD i false = true := by
  rcases Bool.eq_false_or_eq_true (l.getD i false) with h | h
  · exact h
  · have hi : i ∈ Region.ready md ops l := mem_ready.2 ⟨by
      simp only [Array.getD, dif_pos hs] at h ⊢
      exact h, o, ho, hd⟩
    rw [h0] at hi
    cases hi

def SlA (w Wp : World) (s F : Ses) (x : Sp) (K : Bool) (aa0 : Option Addr) (ah0 : Option Addr) (ai0 : Option Addr) (aw0 : Option Addr) (ca0 : Nat) (ch0 : Nat) (ci0 : Nat) (cw0 : Nat) (r1 : Int) (r2 : Int)  (l : Array Bool) (a : Act) (W : World) : Prop :=
  l.size = 11 ∧ Below Wp.heap.size Wp W ∧ ∃ (oi oh ow oa : Value) (ri rh rw ra : Option Addr) (ki kh kw ka lo hi : Nat) (u27 u28 u29 u30 u31 u26 u32 u33 u6 u7 : Value), a = ⟨#[Value.agg #[Value.int IntKind.i64 s.ep, Value.slice ai0 s.items.length ci0, Value.int IntKind.i64 s.base, Value.slice ah0 s.handed.length ch0, Value.slice aw0 s.way.length cw0, Value.slice aa0 s.acks.length ca0], Value.agg #[Value.int IntKind.i64 x.kind, Value.int IntKind.i64 x.kk, Value.string x.tx], Value.pointer (some { block := w.heap.size, off := 0 }), Value.pointer (some { block := w.heap.size + 1, off := 0 }), Value.bool false, Value.int IntKind.i64 r2, u6, u7, undef, undef, undef, undef, undef, undef, undef, undef, Value.agg #[Value.int IntKind.i64 s.ep, Value.slice ai0 s.items.length ci0, Value.int IntKind.i64 s.base, Value.slice ah0 s.handed.length ch0, Value.slice aw0 s.way.length cw0, Value.slice aa0 s.acks.length ca0], Value.int IntKind.i64 1048576, Value.int IntKind.i64 r1, Value.int IntKind.i64 r1, Value.bool (decide (r1 < 0)), Value.agg #[Value.int IntKind.i64 x.kind, Value.int IntKind.i64 x.kk, Value.string x.tx], Value.int IntKind.i64 r1, Value.int IntKind.i64 r2, Value.int IntKind.i64 r2, Value.bool (decide (r2 < 0)), u26, u27, u28, u29, u30, u31, u32, u33, undef, undef, undef, undef, undef, undef, undef, undef, undef, undef, undef, undef, undef, undef, undef, undef, undef, undef, undef, undef, undef, undef, undef, undef, undef, undef, undef, undef, undef, undef, undef, undef, undef, undef, undef, undef, undef, undef, undef, undef, undef, undef, undef, undef, undef, undef, undef, undef, undef, undef, undef, undef, undef, undef, undef, undef, undef, undef, undef, undef, undef, undef, undef, undef, undef, undef, undef, undef, undef, undef, undef, undef, undef, undef, undef], []⟩ ∧
    (l.getD 1 false = true → l.getD 4 false = false → SesRow W Wp.heap.size s oi oh ow oa) ∧
    (l.getD 4 false = true → SesRow W lo F (.slice ri F.items.length ki) (.slice rh F.handed.length kh) (.slice rw F.way.length kw) (.slice ra F.acks.length ka) ∧ OwnIn lo hi (.slice ri F.items.length ki) (.slice rh F.handed.length kh) (.slice rw F.way.length kw) (.slice ra F.acks.length ka) ∧ Wp.heap.size ≤ lo ∧ hi ≤ W.heap.size ∧ lo ≤ hi) ∧
    (l.getD 0 false = true → u27 = .agg #[.int .i64 s.ep, .slice ai0 s.items.length ci0, .int .i64 s.base, .slice ah0 s.handed.length ch0, .slice aw0 s.way.length cw0, .slice aa0 s.acks.length ca0]) ∧
    (l.getD 1 false = true → u28 = s.val oi oh ow oa) ∧
    (l.getD 2 false = true → u29 = .agg #[.int .i64 x.kind, .int .i64 x.kk, .string x.tx]) ∧
    (l.getD 3 false = true → u30 = .agg #[.int .i64 x.kind, .int .i64 x.kk, .string x.tx]) ∧
    (l.getD 4 false = true → u31 = .tuple #[.agg #[.int .i64 F.ep, .slice ri F.items.length ki, .int .i64 F.base, .slice rh F.handed.length kh, .slice rw F.way.length kw, .slice ra F.acks.length ka], .bool K]) ∧
    (l.getD 5 false = true → l.getD 4 false = true ∧ u26 = .tuple #[.agg #[.int .i64 F.ep, .slice ri F.items.length ki, .int .i64 F.base, .slice rh F.handed.length kh, .slice rw F.way.length kw, .slice ra F.acks.length ka], .bool K]) ∧
    (l.getD 6 false = true → l.getD 4 false = true ∧ u32 = .agg #[.int .i64 F.ep, .slice ri F.items.length ki, .int .i64 F.base, .slice rh F.handed.length kh, .slice rw F.way.length kw, .slice ra F.acks.length ka]) ∧
    (l.getD 7 false = true → l.getD 4 false = true ∧ u33 = .bool K) ∧
    (l.getD 8 false = true → ∃ g, u6 = .pointer (some ⟨g, 0, none⟩) ∧ (Wp.heap.size ≤ g ∧ g < W.heap.size) ∧ (∃ y0 y1 y2 y3 y4 y5, Sv W g y0 y1 y2 y3 y4 y5) ∧ (l.getD 4 false = true → g < lo ∨ hi ≤ g) ∧ (l.getD 9 false = true → Sv W g (.int .i64 F.ep) (.slice ri F.items.length ki) (.int .i64 F.base) (.slice rh F.handed.length kh) (.slice rw F.way.length kw) (.slice ra F.acks.length ka))) ∧
    (l.getD 9 false = true → l.getD 6 false = true ∧ l.getD 8 false = true) ∧
    (l.getD 10 false = true → u7 = .bool K)

def SlB (w Wp : World) (s F : Ses) (x : Sp) (K : Bool) (aa0 : Option Addr) (aa9 : Option Addr) (ah0 : Option Addr) (ah9 : Option Addr) (ai0 : Option Addr) (ai9 : Option Addr) (aw0 : Option Addr) (aw9 : Option Addr) (ca0 : Nat) (ca9 : Nat) (ch0 : Nat) (ch9 : Nat) (ci0 : Nat) (ci9 : Nat) (cw0 : Nat) (cw9 : Nat) (g8 : Nat) (ka8 : Nat) (kh8 : Nat) (ki8 : Nat) (kw8 : Nat) (oa8 : Value) (oh8 : Value) (oi8 : Value) (ow8 : Value) (r1 : Int) (r2 : Int) (ra8 : Option Addr) (rh8 : Option Addr) (ri8 : Option Addr) (rw8 : Option Addr) (w9 : World) (l : Array Bool) (a : Act) (W : World) : Prop :=
  l.size = 10 ∧ Below Wp.heap.size Wp W ∧ ∃ (oi oh ow oa : Value) (ri rh rw ra : Option Addr) (ki kh kw ka lo hi : Nat) (u37 u38 u39 u40 u36 u41 u42 u9 u10 : Value), a = ⟨#[Value.agg #[Value.int IntKind.i64 s.ep, Value.slice ai0 s.items.length ci0, Value.int IntKind.i64 s.base, Value.slice ah0 s.handed.length ch0, Value.slice aw0 s.way.length cw0, Value.slice aa0 s.acks.length ca0], Value.agg #[Value.int IntKind.i64 x.kind, Value.int IntKind.i64 x.kk, Value.string x.tx], Value.pointer (some { block := w.heap.size, off := 0 }), Value.pointer (some { block := w.heap.size + 1, off := 0 }), Value.bool false, Value.int IntKind.i64 r2, Value.pointer (some { block := g8, off := 0 }), Value.bool K, Value.pointer (some { block := w9.heap.size, off := 0 }), u9, u10, undef, undef, undef, undef, undef, Value.agg #[Value.int IntKind.i64 s.ep, Value.slice ai0 s.items.length ci0, Value.int IntKind.i64 s.base, Value.slice ah0 s.handed.length ch0, Value.slice aw0 s.way.length cw0, Value.slice aa0 s.acks.length ca0], Value.int IntKind.i64 1048576, Value.int IntKind.i64 r1, Value.int IntKind.i64 r1, Value.bool (decide (r1 < 0)), Value.agg #[Value.int IntKind.i64 x.kind, Value.int IntKind.i64 x.kk, Value.string x.tx], Value.int IntKind.i64 r1, Value.int IntKind.i64 r2, Value.int IntKind.i64 r2, Value.bool (decide (r2 < 0)), Value.tuple #[Value.agg #[Value.int IntKind.i64 F.ep, Value.slice ri8 F.items.length ki8, Value.int IntKind.i64 F.base, Value.slice rh8 F.handed.length kh8, Value.slice rw8 F.way.length kw8, Value.slice ra8 F.acks.length ka8], Value.bool K], Value.agg #[Value.int IntKind.i64 s.ep, Value.slice ai0 s.items.length ci0, Value.int IntKind.i64 s.base, Value.slice ah0 s.handed.length ch0, Value.slice aw0 s.way.length cw0, Value.slice aa0 s.acks.length ca0], s.val oi8 oh8 ow8 oa8, Value.agg #[Value.int IntKind.i64 x.kind, Value.int IntKind.i64 x.kk, Value.string x.tx], Value.agg #[Value.int IntKind.i64 x.kind, Value.int IntKind.i64 x.kk, Value.string x.tx], Value.tuple #[Value.agg #[Value.int IntKind.i64 F.ep, Value.slice ri8 F.items.length ki8, Value.int IntKind.i64 F.base, Value.slice rh8 F.handed.length kh8, Value.slice rw8 F.way.length kw8, Value.slice ra8 F.acks.length ka8], Value.bool K], Value.agg #[Value.int IntKind.i64 F.ep, Value.slice ri8 F.items.length ki8, Value.int IntKind.i64 F.base, Value.slice rh8 F.handed.length kh8, Value.slice rw8 F.way.length kw8, Value.slice ra8 F.acks.length ka8], Value.bool K, Value.agg #[Value.int IntKind.i64 s.ep, Value.slice ai0 s.items.length ci0, Value.int IntKind.i64 s.base, Value.slice ah0 s.handed.length ch0, Value.slice aw0 s.way.length cw0, Value.slice aa0 s.acks.length ca0], Value.agg #[Value.int IntKind.i64 s.ep, Value.slice ai9 s.items.length ci9, Value.int IntKind.i64 s.base, Value.slice ah9 s.handed.length ch9, Value.slice aw9 s.way.length cw9, Value.slice aa9 s.acks.length ca9], u36, u37, u38, u39, u40, u41, u42, undef, undef, undef, undef, undef, undef, undef, undef, undef, undef, undef, undef, undef, undef, undef, undef, undef, undef, undef, undef, undef, undef, undef, undef, undef, undef, undef, undef, undef, undef, undef, undef, undef, undef, undef, undef, undef, undef, undef, undef, undef, undef, undef, undef, undef, undef, undef, undef, undef, undef, undef, undef, undef, undef, undef, undef, undef, undef, undef, undef, undef, undef, undef, undef, undef, undef], []⟩ ∧
    (oi = oh ∧ ow = oa ∨ True) ∧
    (l.getD 3 false = true → SesRow W lo F (.slice ri F.items.length ki) (.slice rh F.handed.length kh) (.slice rw F.way.length kw) (.slice ra F.acks.length ka) ∧ OwnIn lo hi (.slice ri F.items.length ki) (.slice rh F.handed.length kh) (.slice rw F.way.length kw) (.slice ra F.acks.length ka) ∧ Wp.heap.size ≤ lo ∧ hi ≤ W.heap.size ∧ lo ≤ hi) ∧
    (l.getD 0 false = true → u37 = .agg #[.int .i64 s.ep, .slice ai9 s.items.length ci9, .int .i64 s.base, .slice ah9 s.handed.length ch9, .slice aw9 s.way.length cw9, .slice aa9 s.acks.length ca9]) ∧
    (l.getD 1 false = true → u38 = .agg #[.int .i64 x.kind, .int .i64 x.kk, .string x.tx]) ∧
    (l.getD 2 false = true → u39 = .agg #[.int .i64 x.kind, .int .i64 x.kk, .string x.tx]) ∧
    (l.getD 3 false = true → u40 = .tuple #[.agg #[.int .i64 F.ep, .slice ri F.items.length ki, .int .i64 F.base, .slice rh F.handed.length kh, .slice rw F.way.length kw, .slice ra F.acks.length ka], .bool K]) ∧
    (l.getD 4 false = true → l.getD 3 false = true ∧ u36 = .tuple #[.agg #[.int .i64 F.ep, .slice ri F.items.length ki, .int .i64 F.base, .slice rh F.handed.length kh, .slice rw F.way.length kw, .slice ra F.acks.length ka], .bool K]) ∧
    (l.getD 5 false = true → l.getD 3 false = true ∧ u41 = .agg #[.int .i64 F.ep, .slice ri F.items.length ki, .int .i64 F.base, .slice rh F.handed.length kh, .slice rw F.way.length kw, .slice ra F.acks.length ka]) ∧
    (l.getD 6 false = true → l.getD 3 false = true ∧ u42 = .bool K) ∧
    (l.getD 7 false = true → ∃ g, u9 = .pointer (some ⟨g, 0, none⟩) ∧ (Wp.heap.size ≤ g ∧ g < W.heap.size) ∧ (∃ y0 y1 y2 y3 y4 y5, Sv W g y0 y1 y2 y3 y4 y5) ∧ (l.getD 3 false = true → g < lo ∨ hi ≤ g) ∧ (l.getD 8 false = true → Sv W g (.int .i64 F.ep) (.slice ri F.items.length ki) (.int .i64 F.base) (.slice rh F.handed.length kh) (.slice rw F.way.length kw) (.slice ra F.acks.length ka))) ∧
    (l.getD 8 false = true → l.getD 5 false = true ∧ l.getD 7 false = true) ∧
    (l.getD 9 false = true → u10 = .bool K)

def SlC (w Wp : World) (s F : Ses) (x : Sp) (K : Bool) (aa0 : Option Addr) (aa12 : Option Addr) (aa9 : Option Addr) (ah0 : Option Addr) (ah12 : Option Addr) (ah9 : Option Addr) (ai0 : Option Addr) (ai12 : Option Addr) (ai9 : Option Addr) (aw0 : Option Addr) (aw12 : Option Addr) (aw9 : Option Addr) (ca0 : Nat) (ca12 : Nat) (ca9 : Nat) (ch0 : Nat) (ch12 : Nat) (ch9 : Nat) (ci0 : Nat) (ci12 : Nat) (ci9 : Nat) (cw0 : Nat) (cw12 : Nat) (cw9 : Nat) (g10 : Nat) (g8 : Nat) (ka10 : Nat) (ka8 : Nat) (kh10 : Nat) (kh8 : Nat) (ki10 : Nat) (ki8 : Nat) (kw10 : Nat) (kw8 : Nat) (oa8 : Value) (oh8 : Value) (oi8 : Value) (ow8 : Value) (r1 : Int) (r2 : Int) (ra10 : Option Addr) (ra8 : Option Addr) (rh10 : Option Addr) (rh8 : Option Addr) (ri10 : Option Addr) (ri8 : Option Addr) (rw10 : Option Addr) (rw8 : Option Addr) (w9 : World) (l : Array Bool) (a : Act) (W : World) : Prop :=
  l.size = 11 ∧ Below Wp.heap.size Wp W ∧ ∃ (oi oh ow oa : Value) (ri rh rw ra : Option Addr) (ki kh kw ka lo hi : Nat) (u85 u86 u87 u88 u89 u84 u90 u91 u14 u15 : Value), a = ⟨#[Value.agg #[Value.int IntKind.i64 s.ep, Value.slice ai0 s.items.length ci0, Value.int IntKind.i64 s.base, Value.slice ah0 s.handed.length ch0, Value.slice aw0 s.way.length cw0, Value.slice aa0 s.acks.length ca0], Value.agg #[Value.int IntKind.i64 x.kind, Value.int IntKind.i64 x.kk, Value.string x.tx], Value.pointer (some { block := w.heap.size, off := 0 }), Value.pointer (some { block := w.heap.size + 1, off := 0 }), Value.bool false, Value.int IntKind.i64 r2, Value.pointer (some { block := g8, off := 0 }), Value.bool K, Value.pointer (some { block := w9.heap.size, off := 0 }), Value.pointer (some { block := g10, off := 0 }), Value.bool K, Value.int IntKind.i64 (1 + ↑s.items.length + ↑s.handed.length + ↑s.way.length * 3 + ↑s.acks.length * 2), Value.int IntKind.i64 (1 + ↑F.items.length + ↑F.handed.length + ↑F.way.length * 3 + ↑F.acks.length * 2), Value.int IntKind.i64 (1 + ↑F.items.length + ↑F.handed.length + ↑F.way.length * 3 + ↑F.acks.length * 2), u14, u15, Value.agg #[Value.int IntKind.i64 s.ep, Value.slice ai0 s.items.length ci0, Value.int IntKind.i64 s.base, Value.slice ah0 s.handed.length ch0, Value.slice aw0 s.way.length cw0, Value.slice aa0 s.acks.length ca0], Value.int IntKind.i64 1048576, Value.int IntKind.i64 r1, Value.int IntKind.i64 r1, Value.bool (decide (r1 < 0)), Value.agg #[Value.int IntKind.i64 x.kind, Value.int IntKind.i64 x.kk, Value.string x.tx], Value.int IntKind.i64 r1, Value.int IntKind.i64 r2, Value.int IntKind.i64 r2, Value.bool (decide (r2 < 0)), Value.tuple #[Value.agg #[Value.int IntKind.i64 F.ep, Value.slice ri8 F.items.length ki8, Value.int IntKind.i64 F.base, Value.slice rh8 F.handed.length kh8, Value.slice rw8 F.way.length kw8, Value.slice ra8 F.acks.length ka8], Value.bool K], Value.agg #[Value.int IntKind.i64 s.ep, Value.slice ai0 s.items.length ci0, Value.int IntKind.i64 s.base, Value.slice ah0 s.handed.length ch0, Value.slice aw0 s.way.length cw0, Value.slice aa0 s.acks.length ca0], s.val oi8 oh8 ow8 oa8, Value.agg #[Value.int IntKind.i64 x.kind, Value.int IntKind.i64 x.kk, Value.string x.tx], Value.agg #[Value.int IntKind.i64 x.kind, Value.int IntKind.i64 x.kk, Value.string x.tx], Value.tuple #[Value.agg #[Value.int IntKind.i64 F.ep, Value.slice ri8 F.items.length ki8, Value.int IntKind.i64 F.base, Value.slice rh8 F.handed.length kh8, Value.slice rw8 F.way.length kw8, Value.slice ra8 F.acks.length ka8], Value.bool K], Value.agg #[Value.int IntKind.i64 F.ep, Value.slice ri8 F.items.length ki8, Value.int IntKind.i64 F.base, Value.slice rh8 F.handed.length kh8, Value.slice rw8 F.way.length kw8, Value.slice ra8 F.acks.length ka8], Value.bool K, Value.agg #[Value.int IntKind.i64 s.ep, Value.slice ai0 s.items.length ci0, Value.int IntKind.i64 s.base, Value.slice ah0 s.handed.length ch0, Value.slice aw0 s.way.length cw0, Value.slice aa0 s.acks.length ca0], Value.agg #[Value.int IntKind.i64 s.ep, Value.slice ai9 s.items.length ci9, Value.int IntKind.i64 s.base, Value.slice ah9 s.handed.length ch9, Value.slice aw9 s.way.length cw9, Value.slice aa9 s.acks.length ca9], Value.tuple #[Value.agg #[Value.int IntKind.i64 F.ep, Value.slice ri10 F.items.length ki10, Value.int IntKind.i64 F.base, Value.slice rh10 F.handed.length kh10, Value.slice rw10 F.way.length kw10, Value.slice ra10 F.acks.length ka10], Value.bool K], Value.agg #[Value.int IntKind.i64 s.ep, Value.slice ai9 s.items.length ci9, Value.int IntKind.i64 s.base, Value.slice ah9 s.handed.length ch9, Value.slice aw9 s.way.length cw9, Value.slice aa9 s.acks.length ca9], Value.agg #[Value.int IntKind.i64 x.kind, Value.int IntKind.i64 x.kk, Value.string x.tx], Value.agg #[Value.int IntKind.i64 x.kind, Value.int IntKind.i64 x.kk, Value.string x.tx], Value.tuple #[Value.agg #[Value.int IntKind.i64 F.ep, Value.slice ri10 F.items.length ki10, Value.int IntKind.i64 F.base, Value.slice rh10 F.handed.length kh10, Value.slice rw10 F.way.length kw10, Value.slice ra10 F.acks.length ka10], Value.bool K], Value.agg #[Value.int IntKind.i64 F.ep, Value.slice ri10 F.items.length ki10, Value.int IntKind.i64 F.base, Value.slice rh10 F.handed.length kh10, Value.slice rw10 F.way.length kw10, Value.slice ra10 F.acks.length ka10], Value.bool K, Value.agg #[Value.int IntKind.i64 F.ep, Value.slice ri10 F.items.length ki10, Value.int IntKind.i64 F.base, Value.slice rh10 F.handed.length kh10, Value.slice rw10 F.way.length kw10, Value.slice ra10 F.acks.length ka10], Value.agg #[Value.int IntKind.i64 F.ep, Value.slice ri8 F.items.length ki8, Value.int IntKind.i64 F.base, Value.slice rh8 F.handed.length kh8, Value.slice rw8 F.way.length kw8, Value.slice ra8 F.acks.length ka8], Value.bool true, Value.bool false, Value.bool false, Value.bool K, Value.bool K, Value.bool false, Value.bool false, Value.agg #[Value.int IntKind.i64 s.ep, Value.slice ai9 s.items.length ci9, Value.int IntKind.i64 s.base, Value.slice ah9 s.handed.length ch9, Value.slice aw9 s.way.length cw9, Value.slice aa9 s.acks.length ca9], Value.agg #[Value.int IntKind.i64 s.ep, Value.slice ai0 s.items.length ci0, Value.int IntKind.i64 s.base, Value.slice ah0 s.handed.length ch0, Value.slice aw0 s.way.length cw0, Value.slice aa0 s.acks.length ca0], Value.agg #[Value.int IntKind.i64 s.ep, Value.slice ai12 s.items.length ci12, Value.int IntKind.i64 s.base, Value.slice ah12 s.handed.length ch12, Value.slice aw12 s.way.length cw12, Value.slice aa12 s.acks.length ca12], Value.bool true, Value.bool false, Value.agg #[Value.int IntKind.i64 s.ep, Value.slice ai9 s.items.length ci9, Value.int IntKind.i64 s.base, Value.slice ah9 s.handed.length ch9, Value.slice aw9 s.way.length cw9, Value.slice aa9 s.acks.length ca9], Value.int IntKind.i64 1, Value.int IntKind.i64 (1 + ↑s.items.length + ↑s.handed.length + ↑s.way.length * 3 + ↑s.acks.length * 2), Value.int IntKind.i64 (1 + ↑s.items.length + ↑s.handed.length + ↑s.way.length * 3 + ↑s.acks.length * 2), Value.bool (decide (1 + ↑s.items.length + ↑s.handed.length + ↑s.way.length * 3 + ↑s.acks.length * 2 < 0)), Value.bool (decide (1 + ↑s.items.length + ↑s.handed.length + ↑s.way.length * 3 + ↑s.acks.length * 2 < 0)), Value.agg #[Value.int IntKind.i64 F.ep, Value.slice ri10 F.items.length ki10, Value.int IntKind.i64 F.base, Value.slice rh10 F.handed.length kh10, Value.slice rw10 F.way.length kw10, Value.slice ra10 F.acks.length ka10], Value.agg #[Value.int IntKind.i64 F.ep, Value.slice ri8 F.items.length ki8, Value.int IntKind.i64 F.base, Value.slice rh8 F.handed.length kh8, Value.slice rw8 F.way.length kw8, Value.slice ra8 F.acks.length ka8], Value.bool true, Value.bool false, Value.bool (decide (1 + ↑s.items.length + ↑s.handed.length + ↑s.way.length * 3 + ↑s.acks.length * 2 < 0)), Value.bool (decide (1 + ↑s.items.length + ↑s.handed.length + ↑s.way.length * 3 + ↑s.acks.length * 2 < 0)), Value.bool K, Value.bool K, Value.bool false, Value.bool (decide (1 + ↑s.items.length + ↑s.handed.length + ↑s.way.length * 3 + ↑s.acks.length * 2 < 0)), Value.agg #[Value.int IntKind.i64 F.ep, Value.slice ri10 F.items.length ki10, Value.int IntKind.i64 F.base, Value.slice rh10 F.handed.length kh10, Value.slice rw10 F.way.length kw10, Value.slice ra10 F.acks.length ka10], Value.int IntKind.i64 1, Value.int IntKind.i64 (1 + ↑F.items.length + ↑F.handed.length + ↑F.way.length * 3 + ↑F.acks.length * 2), Value.agg #[Value.int IntKind.i64 F.ep, Value.slice ri10 F.items.length ki10, Value.int IntKind.i64 F.base, Value.slice rh10 F.handed.length kh10, Value.slice rw10 F.way.length kw10, Value.slice ra10 F.acks.length ka10], Value.int IntKind.i64 1, Value.int IntKind.i64 (1 + ↑F.items.length + ↑F.handed.length + ↑F.way.length * 3 + ↑F.acks.length * 2), Value.int IntKind.i64 (1 + ↑F.items.length + ↑F.handed.length + ↑F.way.length * 3 + ↑F.acks.length * 2), Value.bool (decide (1 + ↑F.items.length + ↑F.handed.length + ↑F.way.length * 3 + ↑F.acks.length * 2 < 0)), Value.int IntKind.i64 (1 + ↑F.items.length + ↑F.handed.length + ↑F.way.length * 3 + ↑F.acks.length * 2), Value.int IntKind.i64 (1 + ↑F.items.length + ↑F.handed.length + ↑F.way.length * 3 + ↑F.acks.length * 2), Value.bool false, u84, u85, u86, u87, u88, u89, u90, u91, undef, undef, undef, undef, undef, undef, undef, undef, undef, undef, undef, undef, undef, undef, undef, undef, undef], []⟩ ∧
    (l.getD 1 false = true → l.getD 4 false = false → SesRow W Wp.heap.size s oi oh ow oa) ∧
    (l.getD 4 false = true → SesRow W lo F (.slice ri F.items.length ki) (.slice rh F.handed.length kh) (.slice rw F.way.length kw) (.slice ra F.acks.length ka) ∧ OwnIn lo hi (.slice ri F.items.length ki) (.slice rh F.handed.length kh) (.slice rw F.way.length kw) (.slice ra F.acks.length ka) ∧ Wp.heap.size ≤ lo ∧ hi ≤ W.heap.size ∧ lo ≤ hi) ∧
    (l.getD 0 false = true → u85 = .agg #[.int .i64 s.ep, .slice ai0 s.items.length ci0, .int .i64 s.base, .slice ah0 s.handed.length ch0, .slice aw0 s.way.length cw0, .slice aa0 s.acks.length ca0]) ∧
    (l.getD 1 false = true → u86 = s.val oi oh ow oa) ∧
    (l.getD 2 false = true → u87 = .agg #[.int .i64 x.kind, .int .i64 x.kk, .string x.tx]) ∧
    (l.getD 3 false = true → u88 = .agg #[.int .i64 x.kind, .int .i64 x.kk, .string x.tx]) ∧
    (l.getD 4 false = true → u89 = .tuple #[.agg #[.int .i64 F.ep, .slice ri F.items.length ki, .int .i64 F.base, .slice rh F.handed.length kh, .slice rw F.way.length kw, .slice ra F.acks.length ka], .bool K]) ∧
    (l.getD 5 false = true → l.getD 4 false = true ∧ u84 = .tuple #[.agg #[.int .i64 F.ep, .slice ri F.items.length ki, .int .i64 F.base, .slice rh F.handed.length kh, .slice rw F.way.length kw, .slice ra F.acks.length ka], .bool K]) ∧
    (l.getD 6 false = true → l.getD 4 false = true ∧ u90 = .agg #[.int .i64 F.ep, .slice ri F.items.length ki, .int .i64 F.base, .slice rh F.handed.length kh, .slice rw F.way.length kw, .slice ra F.acks.length ka]) ∧
    (l.getD 7 false = true → l.getD 4 false = true ∧ u91 = .bool K) ∧
    (l.getD 8 false = true → ∃ g, u14 = .pointer (some ⟨g, 0, none⟩) ∧ (Wp.heap.size ≤ g ∧ g < W.heap.size) ∧ (∃ y0 y1 y2 y3 y4 y5, Sv W g y0 y1 y2 y3 y4 y5) ∧ (l.getD 4 false = true → g < lo ∨ hi ≤ g) ∧ (l.getD 9 false = true → Sv W g (.int .i64 F.ep) (.slice ri F.items.length ki) (.int .i64 F.base) (.slice rh F.handed.length kh) (.slice rw F.way.length kw) (.slice ra F.acks.length ka))) ∧
    (l.getD 9 false = true → l.getD 6 false = true ∧ l.getD 8 false = true) ∧
    (l.getD 10 false = true → u15 = .bool K)

set_option maxRecDepth 100000 in
set_option maxHeartbeats 32000000 in
theorem walkFnExactStepSession (s : Ses) (vi vh vw va : Value) (x : Sp) (w : World) (hA : SesAt w w.heap.size s vi vh vw va) (hS : Shr s 9223372036854775807) (hx : x.tx.size ≤ 9223372036854775807) :
    Calls Try.prog 6 #[s.val vi vh vw va, .agg #[.int .i64 x.kind, .int .i64 x.kk, .string x.tx]] w fun e w' => e = .returned (.bool true) ∧ Below w.heap.size w w' := by
  obtain ⟨ai0, ci0, ah0, ch0, aw0, cw0, aa0, ca0, rfl, rfl, rfl, rfl⟩ := hA.form
  have HA : Hid (SesAt w w.heap.size s (.slice ai0 s.items.length ci0) (.slice ah0 s.handed.length ch0) (.slice aw0 s.way.length cw0) (.slice aa0 s.acks.length ca0)) := hA
  have SZ : Hid (∀ W, Below w.heap.size w W → Calls Try.prog 16 #[.agg #[.int .i64 s.ep, .slice ai0 s.items.length ci0, .int .i64 s.base, .slice ah0 s.handed.length ch0, .slice aw0 s.way.length cw0, .slice aa0 s.acks.length ca0], .int .i64 1048576] W fun e w' => (∃ r : Int, e = .returned (.int .i64 r) ∧ SzR s r) ∧ Below W.heap.size W w') := fun W hW => szSession_left s _ _ _ _ W (HA.out.below hW) hS
  have C1 : Hid (Sml s 1048576 → ∀ W, Below w.heap.size w W → Calls Try.prog 18 #[.agg #[.int .i64 s.ep, .slice ai0 s.items.length ci0, .int .i64 s.base, .slice ah0 s.handed.length ch0, .slice aw0 s.way.length cw0, .slice aa0 s.acks.length ca0]] W fun e w' => SesOut W w' s (fun v => e = .returned v)) := fun hl W hW => (toSession_any s _ _ _ _ W (HA.out.below hW) hl).mono fun e w' h => by
    obtain ⟨ui, uh, uw, ua, he, hr, hb⟩ := h
    exact SesOut.mk he hr hb
  have ES : Hid (Sml s 1048576 → ∀ W vi vh vw va ui uh uw ua, SesAt W W.heap.size s vi vh vw va → SesAt W W.heap.size s ui uh uw ua → Calls Try.prog 13 #[.agg #[.int .i64 s.ep, vi, .int .i64 s.base, vh, vw, va], .agg #[.int .i64 s.ep, ui, .int .i64 s.base, uh, uw, ua]] W fun e w' => e = .returned (.bool true) ∧ Below W.heap.size W w') := fun hl W vi vh vw va ui uh uw ua h1 h2 => eqSession_same s vi vh vw va ui uh uw ua W h1 h2 ⟨by have := hl.i; omega, by have := hl.h; omega, by have := hl.y; omega, by have := hl.a; omega⟩
  have hFl : Sml (spS s x) 40 := by
    unfold spS
    by_cases h : spK s x = true
    · rw [if_pos h]
      have hq : gs s = true := by unfold spK at h; simp at h; exact h.1
      exact (((gs_iff s).1 hq).step x).sml.up (by decide)
    · rw [if_neg h]; exact ⟨Nat.zero_le _, Nat.zero_le _, Nat.zero_le _, Nat.zero_le _⟩
  have SX : Hid (∀ W (r : Int), 0 ≤ r → r ≤ 1048576 → Calls Try.prog 25 #[.agg #[.int .i64 x.kind, .int .i64 x.kk, .string x.tx], .int .i64 r] W fun e w' => (∃ q : Int, e = .returned (.int .i64 q)) ∧ Below W.heap.size W w') := fun W r h0 h1 => (szSesStep_any x.kind x.kk x.tx r W hx h0 h1).mono fun e w' h => ⟨⟨_, h.1.choose_spec.1⟩, h.2⟩
  have HTX : Hid (∀ W, Calls Try.prog 27 #[.agg #[.int .i64 x.kind, .int .i64 x.kk, .string x.tx]] W fun e w' => e = .returned (.agg #[.int .i64 x.kind, .int .i64 x.kk, .string x.tx]) ∧ Below W.heap.size W w') := fun W => toSesStep_any x.kind x.kk x.tx W
  have CS : Hid (∀ W vi vh vw va, SesAt W W.heap.size s vi vh vw va → Calls Try.prog 26 #[s.val vi vh vw va, .agg #[.int .i64 x.kind, .int .i64 x.kk, .string x.tx]] W fun e w' => SesOut W w' (spS s x) (fun v => e = .returned (.tuple #[v, .bool (spK s x)]))) := fun W vi vh vw va h => specStepS s x vi vh vw va W h hS hx
  have CI : Hid (∀ W vi vh vw va, SesAt W W.heap.size s vi vh vw va → Calls Try.prog 28 #[s.val vi vh vw va, .agg #[.int .i64 x.kind, .int .i64 x.kk, .string x.tx]] W fun e w' => SesOut W w' (spS s x) (fun v => e = .returned (.tuple #[v, .bool (spK s x)]))) := fun W vi vh vw va h => implStepS s x vi vh vw va W h hS hx
  have MX : Hid (Sml s 1048576 → ∀ B T W vi vh vw va, SesRow W B s vi vh vw va → OwnIn B T vi vh vw va → Calls Try.prog 14 #[.agg #[.int .i64 s.ep, vi, .int .i64 s.base, vh, vw, va], .int .i64 1] W fun e w' => e = .returned (.int .i64 ((1 + s.items.length + s.handed.length + s.way.length * 3 + s.acks.length * 2 : Nat) : Int)) ∧ SesMk w' w'.heap.size 1 s.items.length s.handed.length s.way.length s.acks.length vi vh vw va ∧ Mid B T W w') := fun hl B T W vi vh vw va h1 h2 => markSession_any s B T 1 vi vh vw va W h1 (fun g hg => (h2 g hg).2) hl (by omega) (by omega)
  generalize spS s x = F at CS CI hFl
  generalize spK s x = K at CS CI
  have EF : Hid (∀ W vi vh vw va ui uh uw ua, SesAt W W.heap.size F vi vh vw va → SesAt W W.heap.size F ui uh uw ua → Calls Try.prog 13 #[.agg #[.int .i64 F.ep, vi, .int .i64 F.base, vh, vw, va], .agg #[.int .i64 F.ep, ui, .int .i64 F.base, uh, uw, ua]] W fun e w' => e = .returned (.bool true) ∧ Below W.heap.size W w') := fun W vi vh vw va ui uh uw ua h1 h2 => eqSession_same F vi vh vw va ui uh uw ua W h1 h2 ⟨by have := hFl.i; omega, by have := hFl.h; omega, by have := hFl.y; omega, by have := hFl.a; omega⟩
  have MG : Hid (∀ B T W vi vh vw va, SesRow W B F vi vh vw va → OwnIn B T vi vh vw va → Calls Try.prog 14 #[.agg #[.int .i64 F.ep, vi, .int .i64 F.base, vh, vw, va], .int .i64 1] W fun e w' => e = .returned (.int .i64 ((1 + F.items.length + F.handed.length + F.way.length * 3 + F.acks.length * 2 : Nat) : Int)) ∧ SesMk w' w'.heap.size 1 F.items.length F.handed.length F.way.length F.acks.length vi vh vw va ∧ Mid B T W w') := fun B T W vi vh vw va h1 h2 => markSession_any F B T 1 vi vh vw va W h1 (fun g hg => (h2 g hg).2) ⟨by have := hFl.i; omega, by have := hFl.h; omega, by have := hFl.y; omega, by have := hFl.a; omega⟩ (by omega) (by omega)
  have HG : Hid (∀ W vi vh vw va, SesMk W W.heap.size 1 F.items.length F.handed.length F.way.length F.acks.length vi vh vw va → Calls Try.prog 15 #[.agg #[.int .i64 F.ep, vi, .int .i64 F.base, vh, vw, va], .int .i64 1] W fun e w' => e = .returned (.int .i64 ((1 + F.items.length + F.handed.length + F.way.length * 3 + F.acks.length * 2 : Nat) : Int)) ∧ Below W.heap.size W w') := fun W vi vh vw va h => heldSession_any F 1 _ _ _ _ vi vh vw va W h (by have := hFl.i; omega) (by have := hFl.h; omega) (by have := hFl.y; omega) (by have := hFl.a; omega) (by omega) (by omega)
  have nK : (K != K) = false := bne_self_eq_false K
  have hNK : ¬ (((1 + F.items.length + F.handed.length + F.way.length * 3 + F.acks.length * 2 : Nat) : Int) < 0) := by omega
  clear hFl
  unfold Ses.val
  obtain ⟨W0, hW0⟩ : ∃ X, X = (w.alloc (.cells #[.int .i64 s.ep, .slice ai0 s.items.length ci0, .int .i64 s.base, .slice ah0 s.handed.length ch0, .slice aw0 s.way.length cw0, .slice aa0 s.acks.length ca0] 35)).alloc (.cells #[.int .i64 x.kind, .int .i64 x.kk, .string x.tx] 45) := ⟨_, rfl⟩
  have hb0 : Below w.heap.size w W0 := by rw [hW0]; exact ((Below.refl _ w).alloc (Nat.le_refl _) _).alloc (by simp) _
  have HV0 : Hid (Sv W0 (w.heap.size) (.int .i64 s.ep) (.slice ai0 s.items.length ci0) (.int .i64 s.base) (.slice ah0 s.handed.length ch0) (.slice aw0 s.way.length cw0) (.slice aa0 s.acks.length ca0)) := by show Sv _ _ _ _ _ _ _ _; rw [hW0]; exact (Sv.fresh w _ _ _ _ _ _ _).below ((Below.refl _ _).alloc (Nat.le_refl _) _)
  have HCP : Hid (Cv3 W0 (w.heap.size + 1) (.int .i64 x.kind) (.int .i64 x.kk) (.string x.tx)) := by
    show Cv3 _ _ _ _ _
    rw [hW0]
    have h := Cv3.fresh (w.alloc (.cells #[.int .i64 s.ep, .slice ai0 s.items.length ci0, .int .i64 s.base, .slice ah0 s.handed.length ch0, .slice aw0 s.way.length cw0, .slice aa0 s.acks.length ca0] 35)) (.int .i64 x.kind) (.int .i64 x.kk) (.string x.tx) 45
    simpa using h
  have hlW0 : w.heap.size + 1 < W0.heap.size := by rw [hW0]; simp
  have HBW0 : Hid (Below w.heap.size w W0) := hb0
  clear hb0 hA hS
  go_enter Try.func6, Try.ntmps6
  go_upto_region 1 with fail
  rw [← hW0]
  clear hW0
  have y00 := HV0.out.c0
  have y01 := HV0.out.c1
  have y02 := HV0.out.c2
  have y03 := HV0.out.c3
  have y04 := HV0.out.c4
  have y05 := HV0.out.c5
  go_wp2_with fail
  go_at_call 16
  refine (SZ.out _ HBW0.out).mono ?_
  rintro e w1 ⟨⟨r1, rfl, hr0, hr1, hr2⟩, hb1⟩
  clear y00 y01 y02 y03 y04 y05
  have hsw1 := hb1.size
  have HBw1 : Hid (Below w.heap.size w w1) := HBW0.out.trans (hb1.mono HBW0.out.size)
  have HV0 : Hid (Sv w1 (w.heap.size) (.int .i64 s.ep) (.slice ai0 s.items.length ci0) (.int .i64 s.base) (.slice ah0 s.handed.length ch0) (.slice aw0 s.way.length cw0) (.slice aa0 s.acks.length ca0)) := HV0.out.below hb1
  have HCP : Hid (Cv3 w1 (w.heap.size + 1) (.int .i64 x.kind) (.int .i64 x.kk) (.string x.tx)) := HCP.out.below hb1
  clear HBW0
  clear hb1
  by_cases hneg : r1 < 0
  · clear hr2 C1 ES CS CI MX SX HTX EF MG HG
    go_wp2_with fail
    go_ret
    exact ⟨rfl, HBw1.out⟩
  obtain ⟨hsml, hshr⟩ := hr2 (by omega)
  clear hr2 SZ
  have HC1 : Hid (type_of% (C1.out hsml)) := C1.out hsml
  have HES : Hid (type_of% (ES.out hsml)) := ES.out hsml
  have HMX : Hid (type_of% (MX.out hsml)) := MX.out hsml
  clear C1 ES MX
  have yP0 := HCP.out.c0
  have yP1 := HCP.out.c1
  have yP2 := HCP.out.c2
  go_wp2_with fail
  go_at_call 25
  refine (SX.out _ r1 (by omega) hr1).mono ?_
  rintro e w2 ⟨⟨r2, rfl⟩, hb2⟩
  clear yP0 yP1 yP2
  have hsw2 := hb2.size
  have HBw2 : Hid (Below w.heap.size w w2) := HBw1.out.trans (hb2.mono HBw1.out.size)
  have HV0 : Hid (Sv w2 (w.heap.size) (.int .i64 s.ep) (.slice ai0 s.items.length ci0) (.int .i64 s.base) (.slice ah0 s.handed.length ch0) (.slice aw0 s.way.length cw0) (.slice aa0 s.acks.length ca0)) := HV0.out.below hb2
  have HCP : Hid (Cv3 w2 (w.heap.size + 1) (.int .i64 x.kind) (.int .i64 x.kk) (.string x.tx)) := HCP.out.below hb2
  clear HBw1
  clear hb2
  by_cases hneg2 : r2 < 0
  · clear CS CI HMX SX HTX EF MG HG HC1 HES
    go_wp2_with fail
    go_ret
    exact ⟨rfl, HBw2.out⟩
  clear SX hr0 hr1 hshr
  have HIA : Hid (SlA w w2 s F x K aa0 ah0 ai0 aw0 ca0 ch0 ci0 cw0 r1 r2  (Array.replicate 11 false) ⟨#[Value.agg #[Value.int IntKind.i64 s.ep, Value.slice ai0 s.items.length ci0, Value.int IntKind.i64 s.base, Value.slice ah0 s.handed.length ch0, Value.slice aw0 s.way.length cw0, Value.slice aa0 s.acks.length ca0], Value.agg #[Value.int IntKind.i64 x.kind, Value.int IntKind.i64 x.kk, Value.string x.tx], Value.pointer (some { block := w.heap.size, off := 0 }), Value.pointer (some { block := w.heap.size + 1, off := 0 }), Value.bool false, Value.int IntKind.i64 r2, undef, undef, undef, undef, undef, undef, undef, undef, undef, undef, Value.agg #[Value.int IntKind.i64 s.ep, Value.slice ai0 s.items.length ci0, Value.int IntKind.i64 s.base, Value.slice ah0 s.handed.length ch0, Value.slice aw0 s.way.length cw0, Value.slice aa0 s.acks.length ca0], Value.int IntKind.i64 1048576, Value.int IntKind.i64 r1, Value.int IntKind.i64 r1, Value.bool (decide (r1 < 0)), Value.agg #[Value.int IntKind.i64 x.kind, Value.int IntKind.i64 x.kk, Value.string x.tx], Value.int IntKind.i64 r1, Value.int IntKind.i64 r2, Value.int IntKind.i64 r2, Value.bool (decide (r2 < 0)), undef, undef, undef, undef, undef, undef, undef, undef, undef, undef, undef, undef, undef, undef, undef, undef, undef, undef, undef, undef, undef, undef, undef, undef, undef, undef, undef, undef, undef, undef, undef, undef, undef, undef, undef, undef, undef, undef, undef, undef, undef, undef, undef, undef, undef, undef, undef, undef, undef, undef, undef, undef, undef, undef, undef, undef, undef, undef, undef, undef, undef, undef, undef, undef, undef, undef, undef, undef, undef, undef, undef, undef, undef, undef, undef, undef, undef, undef, undef, undef, undef, undef, undef], []⟩ w2.drew) := by
    refine ⟨by simp, (Below.refl _ w2).drew, undef, undef, undef, undef, none, none, none, none, 0, 0, 0, 0, 0, 0, _, _, _, _, _, _, _, _, _, _, rfl, ?_, ?_, ?_, ?_, ?_, ?_, ?_, ?_, ?_, ?_, ?_, ?_, ?_⟩
    all_goals
      intro h
      exact absurd h (by decide)
  go_upto_region 8 with fail
  refine wp_region_held_drew (S := fun _ => True) (by kernel_rfl) trivial (fun _ => ?_)
  refine wpAnyH_inv (SlA w w2 s F x K aa0 ah0 ai0 aw0 ca0 ch0 ci0 cw0 r1 r2 ) ?stepA ?finA _ _ _ _ HIA.out (by decide)
  case stepA =>
    intro l a W i hI hi' K' hK'
    have hlt := ready_lt hi'
    obtain ⟨hls, hB, oi, oh, ow, oa, ri, rh, rw, ra, ki, kh, kw, ka, lo, hi, u27, u28, u29, u30, u31, u26, u32, u33, u6, u7, rfl, cO, cR, c0, c1, c2, c3, c4, c5, c6, c7, c8, c9, c10⟩ := hI
    have hlt' : i < 11 := hlt
    have hsz := hB.size
    rcases (show i = 0 ∨ i = 1 ∨ i = 2 ∨ i = 3 ∨ i = 4 ∨ i = 5 ∨ i = 6 ∨ i = 7 ∨ i = 8 ∨ i = 9 ∨ i = 10 by omega) with rfl | rfl | rfl | rfl | rfl | rfl | rfl | rfl | rfl | rfl | rfl
    · -- 0
      have V := HV0.out.below hB
      have y0 := V.c0
      have y1 := V.c1
      have y2 := V.c2
      have y3 := V.c3
      have y4 := V.c4
      have y5 := V.c5
      clear V
      refine wpOp_step rfl (fun K9 hK9 => ?_)
      have HK : Hid (∀ a w, K' a w → K9 a w) := hK9
      have HK2 : Hid (type_of% hK') := hK'
      clear hK9 hK'
      go_simp
      exact HK.out _ _ (HK2.out _ _ ⟨by simp [hls], hB, oi, oh, ow, oa, ri, rh, rw, ra, ki, kh, kw, ka, lo, hi, _, _, _, _, _, _, _, _, _, _, rfl, fun h h3 => cO (getD_ne h (by decide)) (getD_off h3 (by decide)), fun h => cR (getD_ne h (by decide)), fun _ => rfl, fun h => (c1 (getD_ne h (by decide))), fun h => (c2 (getD_ne h (by decide))), fun h => (c3 (getD_ne h (by decide))), fun h => (c4 (getD_ne h (by decide))), fun h => ⟨getD_set_true (c5 (getD_ne h (by decide))).1, (c5 (getD_ne h (by decide))).2⟩, fun h => ⟨getD_set_true (c6 (getD_ne h (by decide))).1, (c6 (getD_ne h (by decide))).2⟩, fun h => ⟨getD_set_true (c7 (getD_ne h (by decide))).1, (c7 (getD_ne h (by decide))).2⟩, fun h => by obtain ⟨g, q1, q2, q3, q4, q5⟩ := (c8 (getD_ne h (by decide))); exact ⟨g, q1, q2, q3, fun h5 => q4 (getD_ne h5 (by decide)), fun h5 => q5 (getD_ne h5 (by decide))⟩, fun h => ⟨getD_set_true (c9 (getD_ne h (by decide))).1, getD_set_true (c9 (getD_ne h (by decide))).2⟩, fun h => (c10 (getD_ne h (by decide)))⟩)
    · -- 1
      obtain rfl := c0 (by have hd := ready_deps hi' (o := _) rfl; exact hd ⟨0, .data⟩ (by simp) (by rfl))
      have CC := HC1.out W (HBw2.out.trans (hB.mono HBw2.out.size))
      refine wpOp_step rfl (fun K9 hK9 => ?_)
      have HK : Hid (∀ a w, K' a w → K9 a w) := hK9
      have HK2 : Hid (type_of% hK') := hK'
      clear hK9 hK'
      go_simp
      go_at_call 18
      refine CC.mono ?_
      rintro r W9 ⟨ai, ci, ah, ch, aw, cw, aa, ca, rfl, hr, hb⟩
      (try go_simp)
      exact HK.out _ _ (HK2.out _ _ ⟨by simp [hls], hB.trans (hb.mono hsz), .slice ai s.items.length ci, .slice ah s.handed.length ch, .slice aw s.way.length cw, .slice aa s.acks.length ca, ri, rh, rw, ra, ki, kh, kw, ka, lo, hi, _, _, _, _, _, _, _, _, _, _, rfl, fun _ _ => hr.lower hsz, fun h => by obtain ⟨q1, q2, q3, q4⟩ := cR (getD_ne h (by decide)); exact ⟨q1.below hb, q2, q3, Nat.le_trans q4.1 hb.size, q4.2⟩, fun h => (c0 (getD_ne h (by decide))), fun _ => rfl, fun h => (c2 (getD_ne h (by decide))), fun h => (c3 (getD_ne h (by decide))), fun h => (c4 (getD_ne h (by decide))), fun h => ⟨getD_set_true (c5 (getD_ne h (by decide))).1, (c5 (getD_ne h (by decide))).2⟩, fun h => ⟨getD_set_true (c6 (getD_ne h (by decide))).1, (c6 (getD_ne h (by decide))).2⟩, fun h => ⟨getD_set_true (c7 (getD_ne h (by decide))).1, (c7 (getD_ne h (by decide))).2⟩, fun h => by obtain ⟨g, q1, q2, ⟨y0, y1, y2, y3, y4, y5, q3⟩, q4, q5⟩ := (c8 (getD_ne h (by decide))); exact ⟨g, q1, ⟨q2.1, Nat.lt_of_lt_of_le q2.2 hb.size⟩, ⟨y0, y1, y2, y3, y4, y5, q3.below hb⟩, fun h5 => q4 (getD_ne h5 (by decide)), fun h5 => (q5 (getD_ne h5 (by decide))).below hb⟩, fun h => ⟨getD_set_true (c9 (getD_ne h (by decide))).1, getD_set_true (c9 (getD_ne h (by decide))).2⟩, fun h => (c10 (getD_ne h (by decide)))⟩)
    · -- 2
      have V := HCP.out.below hB
      have y0 := V.c0
      have y1 := V.c1
      have y2 := V.c2
      clear V
      refine wpOp_step rfl (fun K9 hK9 => ?_)
      have HK : Hid (∀ a w, K' a w → K9 a w) := hK9
      have HK2 : Hid (type_of% hK') := hK'
      clear hK9 hK'
      go_simp
      exact HK.out _ _ (HK2.out _ _ ⟨by simp [hls], hB, oi, oh, ow, oa, ri, rh, rw, ra, ki, kh, kw, ka, lo, hi, _, _, _, _, _, _, _, _, _, _, rfl, fun h h3 => cO (getD_ne h (by decide)) (getD_off h3 (by decide)), fun h => cR (getD_ne h (by decide)), fun h => (c0 (getD_ne h (by decide))), fun h => (c1 (getD_ne h (by decide))), fun _ => rfl, fun h => (c3 (getD_ne h (by decide))), fun h => (c4 (getD_ne h (by decide))), fun h => ⟨getD_set_true (c5 (getD_ne h (by decide))).1, (c5 (getD_ne h (by decide))).2⟩, fun h => ⟨getD_set_true (c6 (getD_ne h (by decide))).1, (c6 (getD_ne h (by decide))).2⟩, fun h => ⟨getD_set_true (c7 (getD_ne h (by decide))).1, (c7 (getD_ne h (by decide))).2⟩, fun h => by obtain ⟨g, q1, q2, q3, q4, q5⟩ := (c8 (getD_ne h (by decide))); exact ⟨g, q1, q2, q3, fun h5 => q4 (getD_ne h5 (by decide)), fun h5 => q5 (getD_ne h5 (by decide))⟩, fun h => ⟨getD_set_true (c9 (getD_ne h (by decide))).1, getD_set_true (c9 (getD_ne h (by decide))).2⟩, fun h => (c10 (getD_ne h (by decide)))⟩)
    · -- 3
      obtain rfl := c2 (by have hd := ready_deps hi' (o := _) rfl; exact hd ⟨2, .data⟩ (by simp) (by rfl))
      have CC := HTX.out W
      refine wpOp_step rfl (fun K9 hK9 => ?_)
      have HK : Hid (∀ a w, K' a w → K9 a w) := hK9
      have HK2 : Hid (type_of% hK') := hK'
      clear hK9 hK'
      go_simp
      go_at_call 27
      refine CC.mono ?_
      rintro r W9 ⟨rfl, hb⟩
      (try go_simp)
      exact HK.out _ _ (HK2.out _ _ ⟨by simp [hls], hB.trans (hb.mono hsz), oi, oh, ow, oa, ri, rh, rw, ra, ki, kh, kw, ka, lo, hi, _, _, _, _, _, _, _, _, _, _, rfl, fun h h3 => (cO (getD_ne h (by decide)) (getD_off h3 (by decide))).below hb, fun h => by obtain ⟨q1, q2, q3, q4⟩ := cR (getD_ne h (by decide)); exact ⟨q1.below hb, q2, q3, Nat.le_trans q4.1 hb.size, q4.2⟩, fun h => (c0 (getD_ne h (by decide))), fun h => (c1 (getD_ne h (by decide))), fun h => (c2 (getD_ne h (by decide))), fun _ => rfl, fun h => (c4 (getD_ne h (by decide))), fun h => ⟨getD_set_true (c5 (getD_ne h (by decide))).1, (c5 (getD_ne h (by decide))).2⟩, fun h => ⟨getD_set_true (c6 (getD_ne h (by decide))).1, (c6 (getD_ne h (by decide))).2⟩, fun h => ⟨getD_set_true (c7 (getD_ne h (by decide))).1, (c7 (getD_ne h (by decide))).2⟩, fun h => by obtain ⟨g, q1, q2, ⟨y0, y1, y2, y3, y4, y5, q3⟩, q4, q5⟩ := (c8 (getD_ne h (by decide))); exact ⟨g, q1, ⟨q2.1, Nat.lt_of_lt_of_le q2.2 hb.size⟩, ⟨y0, y1, y2, y3, y4, y5, q3.below hb⟩, fun h5 => q4 (getD_ne h5 (by decide)), fun h5 => (q5 (getD_ne h5 (by decide))).below hb⟩, fun h => ⟨getD_set_true (c9 (getD_ne h (by decide))).1, getD_set_true (c9 (getD_ne h (by decide))).2⟩, fun h => (c10 (getD_ne h (by decide)))⟩)
    · -- 4
      have D1 : Hid (l.getD 1 false = true) := (by have hd := ready_deps hi' (o := _) rfl; exact hd ⟨1, .data⟩ (by simp) (by rfl))
      obtain rfl := c1 D1.out
      obtain rfl := c3 (by have hd := ready_deps hi' (o := _) rfl; exact hd ⟨3, .data⟩ (by simp) (by rfl))
      have hoff := ready_off hi' (by omega)
      have hrO := cO D1.out hoff
      have CC := CS.out W _ _ _ _ hrO.at
      clear hrO
      unfold Ses.val at CC
      have hoff := ready_off hi' (by omega)
      refine wpOp_step rfl (fun K9 hK9 => ?_)
      have HK : Hid (∀ a w, K' a w → K9 a w) := hK9
      have HK2 : Hid (type_of% hK') := hK'
      clear hK9 hK'
      (try unfold Ses.val)
      go_simp
      go_at_call 26
      refine CC.mono ?_
      rintro r W9 ⟨ri', ki', rh', kh', rw', kw', ra', ka', rfl, hr, hb⟩
      (try go_simp)
      exact HK.out _ _ (HK2.out _ _ ⟨by simp [hls], hB.trans (hb.mono hsz), oi, oh, ow, oa, ri', rh', rw', ra', ki', kh', kw', ka', W.heap.size, W9.heap.size, _, _, _, _, _, _, _, _, _, _, rfl, fun _ h3 => absurd h3 (by rw [getD_on (by omega)]; decide), fun _ => ⟨hr, hr.ownIn, hsz, Nat.le_refl _, hb.size⟩, fun h => (c0 (getD_ne h (by decide))), fun h => (c1 (getD_ne h (by decide))), fun h => (c2 (getD_ne h (by decide))), fun h => (c3 (getD_ne h (by decide))), fun _ => rfl, fun h => absurd (c5 (getD_ne h (by decide))).1 (by rw [hoff]; decide), fun h => absurd (c6 (getD_ne h (by decide))).1 (by rw [hoff]; decide), fun h => absurd (c7 (getD_ne h (by decide))).1 (by rw [hoff]; decide), fun h => by obtain ⟨g, q1, q2, ⟨y0, y1, y2, y3, y4, y5, q3⟩, q4, q5⟩ := (c8 (getD_ne h (by decide))); exact ⟨g, q1, ⟨q2.1, Nat.lt_of_lt_of_le q2.2 hb.size⟩, ⟨y0, y1, y2, y3, y4, y5, q3.below hb⟩, fun _ => .inl q2.2, fun h5 => absurd (c6 (c9 (getD_ne h5 (by decide))).1).1 (by rw [hoff]; decide)⟩, fun h => absurd (c6 (c9 (getD_ne h (by decide))).1).1 (by rw [hoff]; decide), fun h => (c10 (getD_ne h (by decide)))⟩)
    · -- 5
      have D4 : Hid (l.getD 4 false = true) := (by have hd := ready_deps hi' (o := _) rfl; exact hd ⟨4, .data⟩ (by simp) (by rfl))
      obtain rfl := c4 D4.out
      refine wpOp_step rfl (fun K9 hK9 => ?_)
      have HK : Hid (∀ a w, K' a w → K9 a w) := hK9
      have HK2 : Hid (type_of% hK') := hK'
      clear hK9 hK'
      go_simp
      exact HK.out _ _ (HK2.out _ _ ⟨by simp [hls], hB, oi, oh, ow, oa, ri, rh, rw, ra, ki, kh, kw, ka, lo, hi, _, _, _, _, _, _, _, _, _, _, rfl, fun h h3 => cO (getD_ne h (by decide)) (getD_off h3 (by decide)), fun h => cR (getD_ne h (by decide)), fun h => (c0 (getD_ne h (by decide))), fun h => (c1 (getD_ne h (by decide))), fun h => (c2 (getD_ne h (by decide))), fun h => (c3 (getD_ne h (by decide))), fun h => (c4 (getD_ne h (by decide))), fun _ => ⟨getD_set_true D4.out, rfl⟩, fun h => ⟨getD_set_true (c6 (getD_ne h (by decide))).1, (c6 (getD_ne h (by decide))).2⟩, fun h => ⟨getD_set_true (c7 (getD_ne h (by decide))).1, (c7 (getD_ne h (by decide))).2⟩, fun h => by obtain ⟨g, q1, q2, q3, q4, q5⟩ := (c8 (getD_ne h (by decide))); exact ⟨g, q1, q2, q3, fun h5 => q4 (getD_ne h5 (by decide)), fun h5 => q5 (getD_ne h5 (by decide))⟩, fun h => ⟨getD_set_true (c9 (getD_ne h (by decide))).1, getD_set_true (c9 (getD_ne h (by decide))).2⟩, fun h => (c10 (getD_ne h (by decide)))⟩)
    · -- 6
      have D5 : Hid (l.getD 5 false = true) := (by have hd := ready_deps hi' (o := _) rfl; exact hd ⟨5, .data⟩ (by simp) (by rfl))
      have f5 := c5 D5.out
      obtain rfl := f5.2
      have D4 : Hid (l.getD 4 false = true) := f5.1
      clear f5
      refine wpOp_step rfl (fun K9 hK9 => ?_)
      have HK : Hid (∀ a w, K' a w → K9 a w) := hK9
      have HK2 : Hid (type_of% hK') := hK'
      clear hK9 hK'
      go_simp
      exact HK.out _ _ (HK2.out _ _ ⟨by simp [hls], hB, oi, oh, ow, oa, ri, rh, rw, ra, ki, kh, kw, ka, lo, hi, _, _, _, _, _, _, _, _, _, _, rfl, fun h h3 => cO (getD_ne h (by decide)) (getD_off h3 (by decide)), fun h => cR (getD_ne h (by decide)), fun h => (c0 (getD_ne h (by decide))), fun h => (c1 (getD_ne h (by decide))), fun h => (c2 (getD_ne h (by decide))), fun h => (c3 (getD_ne h (by decide))), fun h => (c4 (getD_ne h (by decide))), fun h => ⟨getD_set_true (c5 (getD_ne h (by decide))).1, (c5 (getD_ne h (by decide))).2⟩, fun _ => ⟨getD_set_true D4.out, rfl⟩, fun h => ⟨getD_set_true (c7 (getD_ne h (by decide))).1, (c7 (getD_ne h (by decide))).2⟩, fun h => by obtain ⟨g, q1, q2, q3, q4, q5⟩ := (c8 (getD_ne h (by decide))); exact ⟨g, q1, q2, q3, fun h5 => q4 (getD_ne h5 (by decide)), fun h5 => q5 (getD_ne h5 (by decide))⟩, fun h => ⟨getD_set_true (c9 (getD_ne h (by decide))).1, getD_set_true (c9 (getD_ne h (by decide))).2⟩, fun h => (c10 (getD_ne h (by decide)))⟩)
    · -- 7
      have D5 : Hid (l.getD 5 false = true) := (by have hd := ready_deps hi' (o := _) rfl; exact hd ⟨5, .data⟩ (by simp) (by rfl))
      have f5 := c5 D5.out
      obtain rfl := f5.2
      have D4 : Hid (l.getD 4 false = true) := f5.1
      clear f5
      refine wpOp_step rfl (fun K9 hK9 => ?_)
      have HK : Hid (∀ a w, K' a w → K9 a w) := hK9
      have HK2 : Hid (type_of% hK') := hK'
      clear hK9 hK'
      go_simp
      exact HK.out _ _ (HK2.out _ _ ⟨by simp [hls], hB, oi, oh, ow, oa, ri, rh, rw, ra, ki, kh, kw, ka, lo, hi, _, _, _, _, _, _, _, _, _, _, rfl, fun h h3 => cO (getD_ne h (by decide)) (getD_off h3 (by decide)), fun h => cR (getD_ne h (by decide)), fun h => (c0 (getD_ne h (by decide))), fun h => (c1 (getD_ne h (by decide))), fun h => (c2 (getD_ne h (by decide))), fun h => (c3 (getD_ne h (by decide))), fun h => (c4 (getD_ne h (by decide))), fun h => ⟨getD_set_true (c5 (getD_ne h (by decide))).1, (c5 (getD_ne h (by decide))).2⟩, fun h => ⟨getD_set_true (c6 (getD_ne h (by decide))).1, (c6 (getD_ne h (by decide))).2⟩, fun _ => ⟨getD_set_true D4.out, rfl⟩, fun h => by obtain ⟨g, q1, q2, q3, q4, q5⟩ := (c8 (getD_ne h (by decide))); exact ⟨g, q1, q2, q3, fun h5 => q4 (getD_ne h5 (by decide)), fun h5 => q5 (getD_ne h5 (by decide))⟩, fun h => ⟨getD_set_true (c9 (getD_ne h (by decide))).1, getD_set_true (c9 (getD_ne h (by decide))).2⟩, fun h => (c10 (getD_ne h (by decide)))⟩)
    · -- 8
      have hoff := ready_off hi' (by omega)
      refine wpOp_step rfl (fun K9 hK9 => ?_)
      have HK : Hid (∀ a w, K' a w → K9 a w) := hK9
      have HK2 : Hid (type_of% hK') := hK'
      clear hK9 hK'
      have hb : Below W.heap.size W (W.alloc (.cells #[.int .i64 0, .slice none 0 0, .int .i64 0, .slice none 0 0, .slice none 0 0, .slice none 0 0] 26)) := (Below.refl _ W).alloc (Nat.le_refl _) _
      go_simp
      exact HK.out _ _ (HK2.out _ _ ⟨by simp [hls], hB.alloc hsz _, oi, oh, ow, oa, ri, rh, rw, ra, ki, kh, kw, ka, lo, hi, _, _, _, _, _, _, _, _, _, _, rfl, fun h h3 => (cO (getD_ne h (by decide)) (getD_off h3 (by decide))).below hb, fun h => by obtain ⟨q1, q2, q3, q4⟩ := cR (getD_ne h (by decide)); exact ⟨q1.below hb, q2, q3, Nat.le_trans q4.1 hb.size, q4.2⟩, fun h => (c0 (getD_ne h (by decide))), fun h => (c1 (getD_ne h (by decide))), fun h => (c2 (getD_ne h (by decide))), fun h => (c3 (getD_ne h (by decide))), fun h => (c4 (getD_ne h (by decide))), fun h => ⟨getD_set_true (c5 (getD_ne h (by decide))).1, (c5 (getD_ne h (by decide))).2⟩, fun h => ⟨getD_set_true (c6 (getD_ne h (by decide))).1, (c6 (getD_ne h (by decide))).2⟩, fun h => ⟨getD_set_true (c7 (getD_ne h (by decide))).1, (c7 (getD_ne h (by decide))).2⟩, fun _ => ⟨W.heap.size, rfl, ⟨hsz, by simp⟩, ⟨_, _, _, _, _, _, Sv.fresh W _ _ _ _ _ _ _⟩, fun h5 => .inr (cR (getD_ne h5 (by decide))).2.2.2.1, fun h5 => absurd (c9 (getD_ne h5 (by decide))).2 (by rw [hoff]; decide)⟩, fun h => absurd (c9 (getD_ne h (by decide))).2 (by rw [hoff]; decide), fun h => (c10 (getD_ne h (by decide)))⟩)
    · -- 9
      have DA : Hid (l.getD 8 false = true) := (by have hd := ready_deps hi' (o := _) rfl; exact hd ⟨8, .data⟩ (by simp) (by rfl))
      have DE : Hid (l.getD 6 false = true) := (by have hd := ready_deps hi' (o := _) rfl; exact hd ⟨6, .data⟩ (by simp) (by rfl))
      obtain ⟨g, q1, q2, ⟨y0, y1, y2, y3, y4, y5, q3⟩, q4, q5⟩ := c8 DA.out
      subst q1
      have fe := c6 DE.out
      have DM : Hid (l.getD 4 false = true) := fe.1
      obtain rfl := fe.2
      have hRm := cR DM.out
      have hnR : ¬ P4 (.slice ri F.items.length ki) (.slice rh F.handed.length kh) (.slice rw F.way.length kw) (.slice ra F.acks.length ka) g := fun q => by have h1 := hRm.2.1 g q; have h2 := q4 DM.out; omega
      have t0 := q3.c0
      have z0 := q3.f0
      have t1 := q3.c1
      have z1 := q3.f1
      have t2 := q3.c2
      have z2 := q3.f2
      have t3 := q3.c3
      have z3 := q3.f3
      have t4 := q3.c4
      have z4 := q3.f4
      have t5 := q3.c5
      have z5 := q3.f5
      have HRM : Hid (type_of% hRm) := hRm
      have HNR : Hid (type_of% hnR) := hnR
      clear fe hRm hnR
      refine wpOp_step rfl (fun K9 hK9 => ?_)
      have HK : Hid (∀ a w, K' a w → K9 a w) := hK9
      have HK2 : Hid (type_of% hK') := hK'
      clear hK9 hK'
      go_simp
      exact HK.out _ _ (HK2.out _ _ ⟨by simp [hls], Below.sets6 hB q2.1, oi, oh, ow, oa, ri, rh, rw, ra, ki, kh, kw, ka, lo, hi, _, _, _, _, _, _, _, _, _, _, rfl, fun _ h3 => absurd DM.out (by rw [getD_off h3 (by decide)]; decide), fun _ => ⟨HRM.out.1.set6 HNR.out, HRM.out.2.1, HRM.out.2.2.1, by simpa using HRM.out.2.2.2.1, HRM.out.2.2.2.2⟩, fun h => (c0 (getD_ne h (by decide))), fun h => (c1 (getD_ne h (by decide))), fun h => (c2 (getD_ne h (by decide))), fun h => (c3 (getD_ne h (by decide))), fun h => (c4 (getD_ne h (by decide))), fun h => ⟨getD_set_true (c5 (getD_ne h (by decide))).1, (c5 (getD_ne h (by decide))).2⟩, fun h => ⟨getD_set_true (c6 (getD_ne h (by decide))).1, (c6 (getD_ne h (by decide))).2⟩, fun h => ⟨getD_set_true (c7 (getD_ne h (by decide))).1, (c7 (getD_ne h (by decide))).2⟩, fun _ => ⟨g, rfl, ⟨q2.1, by simpa using q2.2⟩, ⟨_, _, _, _, _, _, q3.set6⟩, fun _ => q4 DM.out, fun _ => q3.set6⟩, fun _ => ⟨getD_set_true DE.out, getD_set_true DA.out⟩, fun h => (c10 (getD_ne h (by decide)))⟩)
    · -- 10
      have f7 := c7 (by have hd := ready_deps hi' (o := _) rfl; exact hd ⟨7, .data⟩ (by simp) (by rfl))
      obtain rfl := f7.2
      clear f7
      refine wpOp_step rfl (fun K9 hK9 => ?_)
      have HK : Hid (∀ a w, K' a w → K9 a w) := hK9
      have HK2 : Hid (type_of% hK') := hK'
      clear hK9 hK'
      go_simp
      exact HK.out _ _ (HK2.out _ _ ⟨by simp [hls], hB, oi, oh, ow, oa, ri, rh, rw, ra, ki, kh, kw, ka, lo, hi, _, _, _, _, _, _, _, _, _, _, rfl, fun h h3 => cO (getD_ne h (by decide)) (getD_off h3 (by decide)), fun h => cR (getD_ne h (by decide)), fun h => (c0 (getD_ne h (by decide))), fun h => (c1 (getD_ne h (by decide))), fun h => (c2 (getD_ne h (by decide))), fun h => (c3 (getD_ne h (by decide))), fun h => (c4 (getD_ne h (by decide))), fun h => ⟨getD_set_true (c5 (getD_ne h (by decide))).1, (c5 (getD_ne h (by decide))).2⟩, fun h => ⟨getD_set_true (c6 (getD_ne h (by decide))).1, (c6 (getD_ne h (by decide))).2⟩, fun h => ⟨getD_set_true (c7 (getD_ne h (by decide))).1, (c7 (getD_ne h (by decide))).2⟩, fun h => by obtain ⟨g, q1, q2, q3, q4, q5⟩ := (c8 (getD_ne h (by decide))); exact ⟨g, q1, q2, q3, fun h5 => q4 (getD_ne h5 (by decide)), fun h5 => q5 (getD_ne h5 (by decide))⟩, fun h => ⟨getD_set_true (c9 (getD_ne h (by decide))).1, getD_set_true (c9 (getD_ne h (by decide))).2⟩, fun _ => rfl⟩)
  intro l a w8 hI h0
  obtain ⟨hls, hb8, oi8, oh8, ow8, oa8, ri8, rh8, rw8, ra8, ki8, kh8, kw8, ka8, lo8, hi8, u27, u28, u29, u30, u31, u26, u32, u33, u6, u7, rfl, cO, cR, c0, c1, c2, c3, c4, c5, c6, c7, c8, c9, c10⟩ := hI
  have b0 : l.getD 0 false = true := listed_ofB3 h0 0 _ (by omega) rfl (by intro e he hbd; first | (simp at he; done) | skip; simp at he; (repeat (rcases he with rfl | he; · first | assumption | exact absurd hbd (by decide))); all_goals (subst he; first | assumption | exact absurd hbd (by decide)))
  have b1 : l.getD 1 false = true := listed_ofB3 h0 1 _ (by omega) rfl (by intro e he hbd; first | (simp at he; done) | skip; simp at he; (repeat (rcases he with rfl | he; · first | assumption | exact absurd hbd (by decide))); all_goals (subst he; first | assumption | exact absurd hbd (by decide)))
  have b2 : l.getD 2 false = true := listed_ofB3 h0 2 _ (by omega) rfl (by intro e he hbd; first | (simp at he; done) | skip; simp at he; (repeat (rcases he with rfl | he; · first | assumption | exact absurd hbd (by decide))); all_goals (subst he; first | assumption | exact absurd hbd (by decide)))
  have b3 : l.getD 3 false = true := listed_ofB3 h0 3 _ (by omega) rfl (by intro e he hbd; first | (simp at he; done) | skip; simp at he; (repeat (rcases he with rfl | he; · first | assumption | exact absurd hbd (by decide))); all_goals (subst he; first | assumption | exact absurd hbd (by decide)))
  have b4 : l.getD 4 false = true := listed_ofB3 h0 4 _ (by omega) rfl (by intro e he hbd; first | (simp at he; done) | skip; simp at he; (repeat (rcases he with rfl | he; · first | assumption | exact absurd hbd (by decide))); all_goals (subst he; first | assumption | exact absurd hbd (by decide)))
  have b5 : l.getD 5 false = true := listed_ofB3 h0 5 _ (by omega) rfl (by intro e he hbd; first | (simp at he; done) | skip; simp at he; (repeat (rcases he with rfl | he; · first | assumption | exact absurd hbd (by decide))); all_goals (subst he; first | assumption | exact absurd hbd (by decide)))
  have b6 : l.getD 6 false = true := listed_ofB3 h0 6 _ (by omega) rfl (by intro e he hbd; first | (simp at he; done) | skip; simp at he; (repeat (rcases he with rfl | he; · first | assumption | exact absurd hbd (by decide))); all_goals (subst he; first | assumption | exact absurd hbd (by decide)))
  have b7 : l.getD 7 false = true := listed_ofB3 h0 7 _ (by omega) rfl (by intro e he hbd; first | (simp at he; done) | skip; simp at he; (repeat (rcases he with rfl | he; · first | assumption | exact absurd hbd (by decide))); all_goals (subst he; first | assumption | exact absurd hbd (by decide)))
  have b8 : l.getD 8 false = true := listed_ofB3 h0 8 _ (by omega) rfl (by intro e he hbd; first | (simp at he; done) | skip; simp at he; (repeat (rcases he with rfl | he; · first | assumption | exact absurd hbd (by decide))); all_goals (subst he; first | assumption | exact absurd hbd (by decide)))
  have b9 : l.getD 9 false = true := listed_ofB3 h0 9 _ (by omega) rfl (by intro e he hbd; first | (simp at he; done) | skip; simp at he; (repeat (rcases he with rfl | he; · first | assumption | exact absurd hbd (by decide))); all_goals (subst he; first | assumption | exact absurd hbd (by decide)))
  have b10 : l.getD 10 false = true := listed_ofB3 h0 10 _ (by omega) rfl (by intro e he hbd; first | (simp at he; done) | skip; simp at he; (repeat (rcases he with rfl | he; · first | assumption | exact absurd hbd (by decide))); all_goals (subst he; first | assumption | exact absurd hbd (by decide)))
  obtain ⟨g8, q1, hg8, _, q4, q5⟩ := c8 b8
  subst q1
  have hga8 := q4 b4
  have hv8 := q5 b9
  obtain ⟨hr8, ho8, hlo8, hhi8, hlh8⟩ := cR b4
  obtain rfl := c0 b0
  obtain rfl := c1 b1
  obtain rfl := c2 b2
  obtain rfl := c3 b3
  obtain rfl := c4 b4
  obtain rfl := (c5 b5).2
  obtain rfl := (c6 b6).2
  obtain rfl := (c7 b7).2
  obtain rfl := c10 b10
  clear cO cR c0 c1 c2 c3 c4 c5 c6 c7 c8 c9 c10 b0 b1 b2 b3 b4 b5 b6 b7 b8 b9 b10 q4 q5 h0 hls HIA
  (try dsimp only)
  have hsw8 := hb8.size
  have HBw8 : Hid (Below w.heap.size w w8) := HBw2.out.trans (hb8.mono HBw2.out.size)
  have HV0 : Hid (Sv w8 (w.heap.size) (.int .i64 s.ep) (.slice ai0 s.items.length ci0) (.int .i64 s.base) (.slice ah0 s.handed.length ch0) (.slice aw0 s.way.length cw0) (.slice aa0 s.acks.length ca0)) := HV0.out.below hb8
  have HCP : Hid (Cv3 w8 (w.heap.size + 1) (.int .i64 x.kind) (.int .i64 x.kk) (.string x.tx)) := HCP.out.below hb8
  clear HBw2
  clear hb8
  have HRU : Hid (SesRow w8 (lo8) F (.slice ri8 F.items.length ki8) (.slice rh8 F.handed.length kh8) (.slice rw8 F.way.length kw8) (.slice ra8 F.acks.length ka8)) := hr8
  have HLU : Hid (OwnIn lo8 hi8 (.slice ri8 F.items.length ki8) (.slice rh8 F.handed.length kh8) (.slice rw8 F.way.length kw8) (.slice ra8 F.acks.length ka8)) := ho8
  clear hr8 ho8
  have HV1 : Hid (Sv w8 (g8) (.int .i64 F.ep) (.slice ri8 F.items.length ki8) (.int .i64 F.base) (.slice rh8 F.handed.length kh8) (.slice rw8 F.way.length kw8) (.slice ra8 F.acks.length ka8)) := hv8
  clear hv8
  obtain ⟨hgl8, hgh8⟩ := hg8
  have y00 := HV0.out.c0
  have y01 := HV0.out.c1
  have y02 := HV0.out.c2
  have y03 := HV0.out.c3
  have y04 := HV0.out.c4
  have y05 := HV0.out.c5
  go_wp2_with fail
  go_at_call 18
  refine (HC1.out _ HBw8.out).mono ?_
  rintro e w9 ⟨ai9, ci9, ah9, ch9, aw9, cw9, aa9, ca9, rfl, hr9, hb9⟩
  clear y00 y01 y02 y03 y04 y05
  have hsw9 := hb9.size
  have HBw9 : Hid (Below w.heap.size w w9) := HBw8.out.trans (hb9.mono HBw8.out.size)
  have HV0 : Hid (Sv w9 (w.heap.size) (.int .i64 s.ep) (.slice ai0 s.items.length ci0) (.int .i64 s.base) (.slice ah0 s.handed.length ch0) (.slice aw0 s.way.length cw0) (.slice aa0 s.acks.length ca0)) := HV0.out.below hb9
  have HV1 : Hid (Sv w9 (g8) (.int .i64 F.ep) (.slice ri8 F.items.length ki8) (.int .i64 F.base) (.slice rh8 F.handed.length kh8) (.slice rw8 F.way.length kw8) (.slice ra8 F.acks.length ka8)) := HV1.out.below hb9
  have HCP : Hid (Cv3 w9 (w.heap.size + 1) (.int .i64 x.kind) (.int .i64 x.kk) (.string x.tx)) := HCP.out.below hb9
  have HRU : Hid (SesRow w9 (lo8) F (.slice ri8 F.items.length ki8) (.slice rh8 F.handed.length kh8) (.slice rw8 F.way.length kw8) (.slice ra8 F.acks.length ka8)) := HRU.out.below hb9
  clear HBw8
  clear hb9
  have HRX : Hid (SesRow w9 (w8.heap.size) s (.slice ai9 s.items.length ci9) (.slice ah9 s.handed.length ch9) (.slice aw9 s.way.length cw9) (.slice aa9 s.acks.length ca9)) := hr9
  have HLX : Hid (OwnIn (w8.heap.size) w9.heap.size (.slice ai9 s.items.length ci9) (.slice ah9 s.handed.length ch9) (.slice aw9 s.way.length cw9) (.slice aa9 s.acks.length ca9)) := SesRow.ownIn hr9
  clear hr9
  obtain ⟨W9, hW9⟩ : ∃ X, X = w9.alloc (.cells #[.int .i64 s.ep, .slice ai9 s.items.length ci9, .int .i64 s.base, .slice ah9 s.handed.length ch9, .slice aw9 s.way.length cw9, .slice aa9 s.acks.length ca9] 26) := ⟨_, rfl⟩
  have hbW9 : Below w9.heap.size w9 W9 := by rw [hW9]; exact (Below.refl _ _).alloc (Nat.le_refl _) _
  have hlW9 : w9.heap.size < W9.heap.size := by rw [hW9]; simp
  have hsW9 := hbW9.size
  have HBW9 : Hid (Below w.heap.size w W9) := HBw9.out.trans (hbW9.mono HBw9.out.size)
  have HV0 : Hid (Sv W9 (w.heap.size) (.int .i64 s.ep) (.slice ai0 s.items.length ci0) (.int .i64 s.base) (.slice ah0 s.handed.length ch0) (.slice aw0 s.way.length cw0) (.slice aa0 s.acks.length ca0)) := HV0.out.below hbW9
  have HV1 : Hid (Sv W9 (g8) (.int .i64 F.ep) (.slice ri8 F.items.length ki8) (.int .i64 F.base) (.slice rh8 F.handed.length kh8) (.slice rw8 F.way.length kw8) (.slice ra8 F.acks.length ka8)) := HV1.out.below hbW9
  have HCP : Hid (Cv3 W9 (w.heap.size + 1) (.int .i64 x.kind) (.int .i64 x.kk) (.string x.tx)) := HCP.out.below hbW9
  have HRU : Hid (SesRow W9 (lo8) F (.slice ri8 F.items.length ki8) (.slice rh8 F.handed.length kh8) (.slice rw8 F.way.length kw8) (.slice ra8 F.acks.length ka8)) := HRU.out.below hbW9
  have HRX : Hid (SesRow W9 (w8.heap.size) s (.slice ai9 s.items.length ci9) (.slice ah9 s.handed.length ch9) (.slice aw9 s.way.length cw9) (.slice aa9 s.acks.length ca9)) := HRX.out.below hbW9
  clear HBw9
  have HV9 : Hid (Sv W9 (w9.heap.size) (.int .i64 s.ep) (.slice ai9 s.items.length ci9) (.int .i64 s.base) (.slice ah9 s.handed.length ch9) (.slice aw9 s.way.length cw9) (.slice aa9 s.acks.length ca9)) := by show Sv _ _ _ _ _ _ _ _; rw [hW9]; exact Sv.fresh w9 _ _ _ _ _ _ _
  clear hbW9
  go_upto_region 10 with fail
  rw [← hW9]
  clear hW9
  have HIB : Hid (SlB w W9 s F x K aa0 aa9 ah0 ah9 ai0 ai9 aw0 aw9 ca0 ca9 ch0 ch9 ci0 ci9 cw0 cw9 g8 ka8 kh8 ki8 kw8 oa8 oh8 oi8 ow8 r1 r2 ra8 rh8 ri8 rw8 w9 (Array.replicate 10 false) ⟨#[Value.agg #[Value.int IntKind.i64 s.ep, Value.slice ai0 s.items.length ci0, Value.int IntKind.i64 s.base, Value.slice ah0 s.handed.length ch0, Value.slice aw0 s.way.length cw0, Value.slice aa0 s.acks.length ca0], Value.agg #[Value.int IntKind.i64 x.kind, Value.int IntKind.i64 x.kk, Value.string x.tx], Value.pointer (some { block := w.heap.size, off := 0 }), Value.pointer (some { block := w.heap.size + 1, off := 0 }), Value.bool false, Value.int IntKind.i64 r2, Value.pointer (some { block := g8, off := 0 }), Value.bool K, Value.pointer (some { block := w9.heap.size, off := 0 }), undef, undef, undef, undef, undef, undef, undef, Value.agg #[Value.int IntKind.i64 s.ep, Value.slice ai0 s.items.length ci0, Value.int IntKind.i64 s.base, Value.slice ah0 s.handed.length ch0, Value.slice aw0 s.way.length cw0, Value.slice aa0 s.acks.length ca0], Value.int IntKind.i64 1048576, Value.int IntKind.i64 r1, Value.int IntKind.i64 r1, Value.bool (decide (r1 < 0)), Value.agg #[Value.int IntKind.i64 x.kind, Value.int IntKind.i64 x.kk, Value.string x.tx], Value.int IntKind.i64 r1, Value.int IntKind.i64 r2, Value.int IntKind.i64 r2, Value.bool (decide (r2 < 0)), Value.tuple #[Value.agg #[Value.int IntKind.i64 F.ep, Value.slice ri8 F.items.length ki8, Value.int IntKind.i64 F.base, Value.slice rh8 F.handed.length kh8, Value.slice rw8 F.way.length kw8, Value.slice ra8 F.acks.length ka8], Value.bool K], Value.agg #[Value.int IntKind.i64 s.ep, Value.slice ai0 s.items.length ci0, Value.int IntKind.i64 s.base, Value.slice ah0 s.handed.length ch0, Value.slice aw0 s.way.length cw0, Value.slice aa0 s.acks.length ca0], s.val oi8 oh8 ow8 oa8, Value.agg #[Value.int IntKind.i64 x.kind, Value.int IntKind.i64 x.kk, Value.string x.tx], Value.agg #[Value.int IntKind.i64 x.kind, Value.int IntKind.i64 x.kk, Value.string x.tx], Value.tuple #[Value.agg #[Value.int IntKind.i64 F.ep, Value.slice ri8 F.items.length ki8, Value.int IntKind.i64 F.base, Value.slice rh8 F.handed.length kh8, Value.slice rw8 F.way.length kw8, Value.slice ra8 F.acks.length ka8], Value.bool K], Value.agg #[Value.int IntKind.i64 F.ep, Value.slice ri8 F.items.length ki8, Value.int IntKind.i64 F.base, Value.slice rh8 F.handed.length kh8, Value.slice rw8 F.way.length kw8, Value.slice ra8 F.acks.length ka8], Value.bool K, Value.agg #[Value.int IntKind.i64 s.ep, Value.slice ai0 s.items.length ci0, Value.int IntKind.i64 s.base, Value.slice ah0 s.handed.length ch0, Value.slice aw0 s.way.length cw0, Value.slice aa0 s.acks.length ca0], Value.agg #[Value.int IntKind.i64 s.ep, Value.slice ai9 s.items.length ci9, Value.int IntKind.i64 s.base, Value.slice ah9 s.handed.length ch9, Value.slice aw9 s.way.length cw9, Value.slice aa9 s.acks.length ca9], undef, undef, undef, undef, undef, undef, undef, undef, undef, undef, undef, undef, undef, undef, undef, undef, undef, undef, undef, undef, undef, undef, undef, undef, undef, undef, undef, undef, undef, undef, undef, undef, undef, undef, undef, undef, undef, undef, undef, undef, undef, undef, undef, undef, undef, undef, undef, undef, undef, undef, undef, undef, undef, undef, undef, undef, undef, undef, undef, undef, undef, undef, undef, undef, undef, undef, undef, undef, undef, undef, undef, undef, undef], []⟩ W9.drew) := by
    refine ⟨by simp, (Below.refl _ W9).drew, undef, undef, undef, undef, none, none, none, none, 0, 0, 0, 0, 0, 0, _, _, _, _, _, _, _, _, _, rfl, .inr trivial, ?_, ?_, ?_, ?_, ?_, ?_, ?_, ?_, ?_, ?_, ?_⟩
    all_goals
      intro h
      exact absurd h (by decide)
  go_upto_region 10 with fail
  refine wp_region_held_drew (S := fun _ => True) (by kernel_rfl) trivial (fun _ => ?_)
  refine wpAnyH_inv (SlB w W9 s F x K aa0 aa9 ah0 ah9 ai0 ai9 aw0 aw9 ca0 ca9 ch0 ch9 ci0 ci9 cw0 cw9 g8 ka8 kh8 ki8 kw8 oa8 oh8 oi8 ow8 r1 r2 ra8 rh8 ri8 rw8 w9) ?stepB ?finB _ _ _ _ HIB.out (by decide)
  case stepB =>
    intro l a W i hI hi' K' hK'
    have hlt := ready_lt hi'
    obtain ⟨hls, hB, oi, oh, ow, oa, ri, rh, rw, ra, ki, kh, kw, ka, lo, hi, u37, u38, u39, u40, u36, u41, u42, u9, u10, rfl, cO, cR, c0, c1, c2, c3, c4, c5, c6, c7, c8, c9⟩ := hI
    have hlt' : i < 10 := hlt
    have hsz := hB.size
    rcases (show i = 0 ∨ i = 1 ∨ i = 2 ∨ i = 3 ∨ i = 4 ∨ i = 5 ∨ i = 6 ∨ i = 7 ∨ i = 8 ∨ i = 9 by omega) with rfl | rfl | rfl | rfl | rfl | rfl | rfl | rfl | rfl | rfl
    · -- 0
      have V := HV9.out.below hB
      have y0 := V.c0
      have y1 := V.c1
      have y2 := V.c2
      have y3 := V.c3
      have y4 := V.c4
      have y5 := V.c5
      clear V
      refine wpOp_step rfl (fun K9 hK9 => ?_)
      have HK : Hid (∀ a w, K' a w → K9 a w) := hK9
      have HK2 : Hid (type_of% hK') := hK'
      clear hK9 hK'
      go_simp
      exact HK.out _ _ (HK2.out _ _ ⟨by simp [hls], hB, oi, oh, ow, oa, ri, rh, rw, ra, ki, kh, kw, ka, lo, hi, _, _, _, _, _, _, _, _, _, rfl, .inr trivial, fun h => cR (getD_ne h (by decide)), fun _ => rfl, fun h => (c1 (getD_ne h (by decide))), fun h => (c2 (getD_ne h (by decide))), fun h => (c3 (getD_ne h (by decide))), fun h => ⟨getD_set_true (c4 (getD_ne h (by decide))).1, (c4 (getD_ne h (by decide))).2⟩, fun h => ⟨getD_set_true (c5 (getD_ne h (by decide))).1, (c5 (getD_ne h (by decide))).2⟩, fun h => ⟨getD_set_true (c6 (getD_ne h (by decide))).1, (c6 (getD_ne h (by decide))).2⟩, fun h => by obtain ⟨g, q1, q2, q3, q4, q5⟩ := (c7 (getD_ne h (by decide))); exact ⟨g, q1, q2, q3, fun h5 => q4 (getD_ne h5 (by decide)), fun h5 => q5 (getD_ne h5 (by decide))⟩, fun h => ⟨getD_set_true (c8 (getD_ne h (by decide))).1, getD_set_true (c8 (getD_ne h (by decide))).2⟩, fun h => (c9 (getD_ne h (by decide)))⟩)
    · -- 1
      have V := HCP.out.below hB
      have y0 := V.c0
      have y1 := V.c1
      have y2 := V.c2
      clear V
      refine wpOp_step rfl (fun K9 hK9 => ?_)
      have HK : Hid (∀ a w, K' a w → K9 a w) := hK9
      have HK2 : Hid (type_of% hK') := hK'
      clear hK9 hK'
      go_simp
      exact HK.out _ _ (HK2.out _ _ ⟨by simp [hls], hB, oi, oh, ow, oa, ri, rh, rw, ra, ki, kh, kw, ka, lo, hi, _, _, _, _, _, _, _, _, _, rfl, .inr trivial, fun h => cR (getD_ne h (by decide)), fun h => (c0 (getD_ne h (by decide))), fun _ => rfl, fun h => (c2 (getD_ne h (by decide))), fun h => (c3 (getD_ne h (by decide))), fun h => ⟨getD_set_true (c4 (getD_ne h (by decide))).1, (c4 (getD_ne h (by decide))).2⟩, fun h => ⟨getD_set_true (c5 (getD_ne h (by decide))).1, (c5 (getD_ne h (by decide))).2⟩, fun h => ⟨getD_set_true (c6 (getD_ne h (by decide))).1, (c6 (getD_ne h (by decide))).2⟩, fun h => by obtain ⟨g, q1, q2, q3, q4, q5⟩ := (c7 (getD_ne h (by decide))); exact ⟨g, q1, q2, q3, fun h5 => q4 (getD_ne h5 (by decide)), fun h5 => q5 (getD_ne h5 (by decide))⟩, fun h => ⟨getD_set_true (c8 (getD_ne h (by decide))).1, getD_set_true (c8 (getD_ne h (by decide))).2⟩, fun h => (c9 (getD_ne h (by decide)))⟩)
    · -- 2
      obtain rfl := c1 (by have hd := ready_deps hi' (o := _) rfl; exact hd ⟨1, .data⟩ (by simp) (by rfl))
      have CC := HTX.out W
      refine wpOp_step rfl (fun K9 hK9 => ?_)
      have HK : Hid (∀ a w, K' a w → K9 a w) := hK9
      have HK2 : Hid (type_of% hK') := hK'
      clear hK9 hK'
      go_simp
      go_at_call 27
      refine CC.mono ?_
      rintro r W9 ⟨rfl, hb⟩
      (try go_simp)
      exact HK.out _ _ (HK2.out _ _ ⟨by simp [hls], hB.trans (hb.mono hsz), oi, oh, ow, oa, ri, rh, rw, ra, ki, kh, kw, ka, lo, hi, _, _, _, _, _, _, _, _, _, rfl, .inr trivial, fun h => by obtain ⟨q1, q2, q3, q4⟩ := cR (getD_ne h (by decide)); exact ⟨q1.below hb, q2, q3, Nat.le_trans q4.1 hb.size, q4.2⟩, fun h => (c0 (getD_ne h (by decide))), fun h => (c1 (getD_ne h (by decide))), fun _ => rfl, fun h => (c3 (getD_ne h (by decide))), fun h => ⟨getD_set_true (c4 (getD_ne h (by decide))).1, (c4 (getD_ne h (by decide))).2⟩, fun h => ⟨getD_set_true (c5 (getD_ne h (by decide))).1, (c5 (getD_ne h (by decide))).2⟩, fun h => ⟨getD_set_true (c6 (getD_ne h (by decide))).1, (c6 (getD_ne h (by decide))).2⟩, fun h => by obtain ⟨g, q1, q2, ⟨y0, y1, y2, y3, y4, y5, q3⟩, q4, q5⟩ := (c7 (getD_ne h (by decide))); exact ⟨g, q1, ⟨q2.1, Nat.lt_of_lt_of_le q2.2 hb.size⟩, ⟨y0, y1, y2, y3, y4, y5, q3.below hb⟩, fun h5 => q4 (getD_ne h5 (by decide)), fun h5 => (q5 (getD_ne h5 (by decide))).below hb⟩, fun h => ⟨getD_set_true (c8 (getD_ne h (by decide))).1, getD_set_true (c8 (getD_ne h (by decide))).2⟩, fun h => (c9 (getD_ne h (by decide)))⟩)
    · -- 3
      obtain rfl := c0 (by have hd := ready_deps hi' (o := _) rfl; exact hd ⟨0, .data⟩ (by simp) (by rfl))
      obtain rfl := c2 (by have hd := ready_deps hi' (o := _) rfl; exact hd ⟨2, .data⟩ (by simp) (by rfl))
      have CC := CI.out W _ _ _ _ (HRX.out.below hB).at
      unfold Ses.val at CC
      have hoff := ready_off hi' (by omega)
      refine wpOp_step rfl (fun K9 hK9 => ?_)
      have HK : Hid (∀ a w, K' a w → K9 a w) := hK9
      have HK2 : Hid (type_of% hK') := hK'
      clear hK9 hK'
      (try unfold Ses.val)
      go_simp
      go_at_call 28
      refine CC.mono ?_
      rintro r W9 ⟨ri', ki', rh', kh', rw', kw', ra', ka', rfl, hr, hb⟩
      (try go_simp)
      exact HK.out _ _ (HK2.out _ _ ⟨by simp [hls], hB.trans (hb.mono hsz), oi, oh, ow, oa, ri', rh', rw', ra', ki', kh', kw', ka', W.heap.size, W9.heap.size, _, _, _, _, _, _, _, _, _, rfl, .inr trivial, fun _ => ⟨hr, hr.ownIn, hsz, Nat.le_refl _, hb.size⟩, fun h => (c0 (getD_ne h (by decide))), fun h => (c1 (getD_ne h (by decide))), fun h => (c2 (getD_ne h (by decide))), fun _ => rfl, fun h => absurd (c4 (getD_ne h (by decide))).1 (by rw [hoff]; decide), fun h => absurd (c5 (getD_ne h (by decide))).1 (by rw [hoff]; decide), fun h => absurd (c6 (getD_ne h (by decide))).1 (by rw [hoff]; decide), fun h => by obtain ⟨g, q1, q2, ⟨y0, y1, y2, y3, y4, y5, q3⟩, q4, q5⟩ := (c7 (getD_ne h (by decide))); exact ⟨g, q1, ⟨q2.1, Nat.lt_of_lt_of_le q2.2 hb.size⟩, ⟨y0, y1, y2, y3, y4, y5, q3.below hb⟩, fun _ => .inl q2.2, fun h5 => absurd (c5 (c8 (getD_ne h5 (by decide))).1).1 (by rw [hoff]; decide)⟩, fun h => absurd (c5 (c8 (getD_ne h (by decide))).1).1 (by rw [hoff]; decide), fun h => (c9 (getD_ne h (by decide)))⟩)
    · -- 4
      have D3 : Hid (l.getD 3 false = true) := (by have hd := ready_deps hi' (o := _) rfl; exact hd ⟨3, .data⟩ (by simp) (by rfl))
      obtain rfl := c3 D3.out
      refine wpOp_step rfl (fun K9 hK9 => ?_)
      have HK : Hid (∀ a w, K' a w → K9 a w) := hK9
      have HK2 : Hid (type_of% hK') := hK'
      clear hK9 hK'
      go_simp
      exact HK.out _ _ (HK2.out _ _ ⟨by simp [hls], hB, oi, oh, ow, oa, ri, rh, rw, ra, ki, kh, kw, ka, lo, hi, _, _, _, _, _, _, _, _, _, rfl, .inr trivial, fun h => cR (getD_ne h (by decide)), fun h => (c0 (getD_ne h (by decide))), fun h => (c1 (getD_ne h (by decide))), fun h => (c2 (getD_ne h (by decide))), fun h => (c3 (getD_ne h (by decide))), fun _ => ⟨getD_set_true D3.out, rfl⟩, fun h => ⟨getD_set_true (c5 (getD_ne h (by decide))).1, (c5 (getD_ne h (by decide))).2⟩, fun h => ⟨getD_set_true (c6 (getD_ne h (by decide))).1, (c6 (getD_ne h (by decide))).2⟩, fun h => by obtain ⟨g, q1, q2, q3, q4, q5⟩ := (c7 (getD_ne h (by decide))); exact ⟨g, q1, q2, q3, fun h5 => q4 (getD_ne h5 (by decide)), fun h5 => q5 (getD_ne h5 (by decide))⟩, fun h => ⟨getD_set_true (c8 (getD_ne h (by decide))).1, getD_set_true (c8 (getD_ne h (by decide))).2⟩, fun h => (c9 (getD_ne h (by decide)))⟩)
    · -- 5
      have D4 : Hid (l.getD 4 false = true) := (by have hd := ready_deps hi' (o := _) rfl; exact hd ⟨4, .data⟩ (by simp) (by rfl))
      have f4 := c4 D4.out
      obtain rfl := f4.2
      have D3 : Hid (l.getD 3 false = true) := f4.1
      clear f4
      refine wpOp_step rfl (fun K9 hK9 => ?_)
      have HK : Hid (∀ a w, K' a w → K9 a w) := hK9
      have HK2 : Hid (type_of% hK') := hK'
      clear hK9 hK'
      go_simp
      exact HK.out _ _ (HK2.out _ _ ⟨by simp [hls], hB, oi, oh, ow, oa, ri, rh, rw, ra, ki, kh, kw, ka, lo, hi, _, _, _, _, _, _, _, _, _, rfl, .inr trivial, fun h => cR (getD_ne h (by decide)), fun h => (c0 (getD_ne h (by decide))), fun h => (c1 (getD_ne h (by decide))), fun h => (c2 (getD_ne h (by decide))), fun h => (c3 (getD_ne h (by decide))), fun h => ⟨getD_set_true (c4 (getD_ne h (by decide))).1, (c4 (getD_ne h (by decide))).2⟩, fun _ => ⟨getD_set_true D3.out, rfl⟩, fun h => ⟨getD_set_true (c6 (getD_ne h (by decide))).1, (c6 (getD_ne h (by decide))).2⟩, fun h => by obtain ⟨g, q1, q2, q3, q4, q5⟩ := (c7 (getD_ne h (by decide))); exact ⟨g, q1, q2, q3, fun h5 => q4 (getD_ne h5 (by decide)), fun h5 => q5 (getD_ne h5 (by decide))⟩, fun h => ⟨getD_set_true (c8 (getD_ne h (by decide))).1, getD_set_true (c8 (getD_ne h (by decide))).2⟩, fun h => (c9 (getD_ne h (by decide)))⟩)
    · -- 6
      have D4 : Hid (l.getD 4 false = true) := (by have hd := ready_deps hi' (o := _) rfl; exact hd ⟨4, .data⟩ (by simp) (by rfl))
      have f4 := c4 D4.out
      obtain rfl := f4.2
      have D3 : Hid (l.getD 3 false = true) := f4.1
      clear f4
      refine wpOp_step rfl (fun K9 hK9 => ?_)
      have HK : Hid (∀ a w, K' a w → K9 a w) := hK9
      have HK2 : Hid (type_of% hK') := hK'
      clear hK9 hK'
      go_simp
      exact HK.out _ _ (HK2.out _ _ ⟨by simp [hls], hB, oi, oh, ow, oa, ri, rh, rw, ra, ki, kh, kw, ka, lo, hi, _, _, _, _, _, _, _, _, _, rfl, .inr trivial, fun h => cR (getD_ne h (by decide)), fun h => (c0 (getD_ne h (by decide))), fun h => (c1 (getD_ne h (by decide))), fun h => (c2 (getD_ne h (by decide))), fun h => (c3 (getD_ne h (by decide))), fun h => ⟨getD_set_true (c4 (getD_ne h (by decide))).1, (c4 (getD_ne h (by decide))).2⟩, fun h => ⟨getD_set_true (c5 (getD_ne h (by decide))).1, (c5 (getD_ne h (by decide))).2⟩, fun _ => ⟨getD_set_true D3.out, rfl⟩, fun h => by obtain ⟨g, q1, q2, q3, q4, q5⟩ := (c7 (getD_ne h (by decide))); exact ⟨g, q1, q2, q3, fun h5 => q4 (getD_ne h5 (by decide)), fun h5 => q5 (getD_ne h5 (by decide))⟩, fun h => ⟨getD_set_true (c8 (getD_ne h (by decide))).1, getD_set_true (c8 (getD_ne h (by decide))).2⟩, fun h => (c9 (getD_ne h (by decide)))⟩)
    · -- 7
      have hoff := ready_off hi' (by omega)
      refine wpOp_step rfl (fun K9 hK9 => ?_)
      have HK : Hid (∀ a w, K' a w → K9 a w) := hK9
      have HK2 : Hid (type_of% hK') := hK'
      clear hK9 hK'
      have hb : Below W.heap.size W (W.alloc (.cells #[.int .i64 0, .slice none 0 0, .int .i64 0, .slice none 0 0, .slice none 0 0, .slice none 0 0] 26)) := (Below.refl _ W).alloc (Nat.le_refl _) _
      go_simp
      exact HK.out _ _ (HK2.out _ _ ⟨by simp [hls], hB.alloc hsz _, oi, oh, ow, oa, ri, rh, rw, ra, ki, kh, kw, ka, lo, hi, _, _, _, _, _, _, _, _, _, rfl, .inr trivial, fun h => by obtain ⟨q1, q2, q3, q4⟩ := cR (getD_ne h (by decide)); exact ⟨q1.below hb, q2, q3, Nat.le_trans q4.1 hb.size, q4.2⟩, fun h => (c0 (getD_ne h (by decide))), fun h => (c1 (getD_ne h (by decide))), fun h => (c2 (getD_ne h (by decide))), fun h => (c3 (getD_ne h (by decide))), fun h => ⟨getD_set_true (c4 (getD_ne h (by decide))).1, (c4 (getD_ne h (by decide))).2⟩, fun h => ⟨getD_set_true (c5 (getD_ne h (by decide))).1, (c5 (getD_ne h (by decide))).2⟩, fun h => ⟨getD_set_true (c6 (getD_ne h (by decide))).1, (c6 (getD_ne h (by decide))).2⟩, fun _ => ⟨W.heap.size, rfl, ⟨hsz, by simp⟩, ⟨_, _, _, _, _, _, Sv.fresh W _ _ _ _ _ _ _⟩, fun h5 => .inr (cR (getD_ne h5 (by decide))).2.2.2.1, fun h5 => absurd (c8 (getD_ne h5 (by decide))).2 (by rw [hoff]; decide)⟩, fun h => absurd (c8 (getD_ne h (by decide))).2 (by rw [hoff]; decide), fun h => (c9 (getD_ne h (by decide)))⟩)
    · -- 8
      have DA : Hid (l.getD 7 false = true) := (by have hd := ready_deps hi' (o := _) rfl; exact hd ⟨7, .data⟩ (by simp) (by rfl))
      have DE : Hid (l.getD 5 false = true) := (by have hd := ready_deps hi' (o := _) rfl; exact hd ⟨5, .data⟩ (by simp) (by rfl))
      obtain ⟨g, q1, q2, ⟨y0, y1, y2, y3, y4, y5, q3⟩, q4, q5⟩ := c7 DA.out
      subst q1
      have fe := c5 DE.out
      have DM : Hid (l.getD 3 false = true) := fe.1
      obtain rfl := fe.2
      have hRm := cR DM.out
      have hnR : ¬ P4 (.slice ri F.items.length ki) (.slice rh F.handed.length kh) (.slice rw F.way.length kw) (.slice ra F.acks.length ka) g := fun q => by have h1 := hRm.2.1 g q; have h2 := q4 DM.out; omega
      have t0 := q3.c0
      have z0 := q3.f0
      have t1 := q3.c1
      have z1 := q3.f1
      have t2 := q3.c2
      have z2 := q3.f2
      have t3 := q3.c3
      have z3 := q3.f3
      have t4 := q3.c4
      have z4 := q3.f4
      have t5 := q3.c5
      have z5 := q3.f5
      have HRM : Hid (type_of% hRm) := hRm
      have HNR : Hid (type_of% hnR) := hnR
      clear fe hRm hnR
      refine wpOp_step rfl (fun K9 hK9 => ?_)
      have HK : Hid (∀ a w, K' a w → K9 a w) := hK9
      have HK2 : Hid (type_of% hK') := hK'
      clear hK9 hK'
      go_simp
      exact HK.out _ _ (HK2.out _ _ ⟨by simp [hls], Below.sets6 hB q2.1, oi, oh, ow, oa, ri, rh, rw, ra, ki, kh, kw, ka, lo, hi, _, _, _, _, _, _, _, _, _, rfl, .inr trivial, fun _ => ⟨HRM.out.1.set6 HNR.out, HRM.out.2.1, HRM.out.2.2.1, by simpa using HRM.out.2.2.2.1, HRM.out.2.2.2.2⟩, fun h => (c0 (getD_ne h (by decide))), fun h => (c1 (getD_ne h (by decide))), fun h => (c2 (getD_ne h (by decide))), fun h => (c3 (getD_ne h (by decide))), fun h => ⟨getD_set_true (c4 (getD_ne h (by decide))).1, (c4 (getD_ne h (by decide))).2⟩, fun h => ⟨getD_set_true (c5 (getD_ne h (by decide))).1, (c5 (getD_ne h (by decide))).2⟩, fun h => ⟨getD_set_true (c6 (getD_ne h (by decide))).1, (c6 (getD_ne h (by decide))).2⟩, fun _ => ⟨g, rfl, ⟨q2.1, by simpa using q2.2⟩, ⟨_, _, _, _, _, _, q3.set6⟩, fun _ => q4 DM.out, fun _ => q3.set6⟩, fun _ => ⟨getD_set_true DE.out, getD_set_true DA.out⟩, fun h => (c9 (getD_ne h (by decide)))⟩)
    · -- 9
      have f6 := c6 (by have hd := ready_deps hi' (o := _) rfl; exact hd ⟨6, .data⟩ (by simp) (by rfl))
      obtain rfl := f6.2
      clear f6
      refine wpOp_step rfl (fun K9 hK9 => ?_)
      have HK : Hid (∀ a w, K' a w → K9 a w) := hK9
      have HK2 : Hid (type_of% hK') := hK'
      clear hK9 hK'
      go_simp
      exact HK.out _ _ (HK2.out _ _ ⟨by simp [hls], hB, oi, oh, ow, oa, ri, rh, rw, ra, ki, kh, kw, ka, lo, hi, _, _, _, _, _, _, _, _, _, rfl, .inr trivial, fun h => cR (getD_ne h (by decide)), fun h => (c0 (getD_ne h (by decide))), fun h => (c1 (getD_ne h (by decide))), fun h => (c2 (getD_ne h (by decide))), fun h => (c3 (getD_ne h (by decide))), fun h => ⟨getD_set_true (c4 (getD_ne h (by decide))).1, (c4 (getD_ne h (by decide))).2⟩, fun h => ⟨getD_set_true (c5 (getD_ne h (by decide))).1, (c5 (getD_ne h (by decide))).2⟩, fun h => ⟨getD_set_true (c6 (getD_ne h (by decide))).1, (c6 (getD_ne h (by decide))).2⟩, fun h => by obtain ⟨g, q1, q2, q3, q4, q5⟩ := (c7 (getD_ne h (by decide))); exact ⟨g, q1, q2, q3, fun h5 => q4 (getD_ne h5 (by decide)), fun h5 => q5 (getD_ne h5 (by decide))⟩, fun h => ⟨getD_set_true (c8 (getD_ne h (by decide))).1, getD_set_true (c8 (getD_ne h (by decide))).2⟩, fun _ => rfl⟩)
  intro l a w10 hI h0
  obtain ⟨hls, hb10, oi10, oh10, ow10, oa10, ri10, rh10, rw10, ra10, ki10, kh10, kw10, ka10, lo10, hi10, u37, u38, u39, u40, u36, u41, u42, u9, u10, rfl, cO, cR, c0, c1, c2, c3, c4, c5, c6, c7, c8, c9⟩ := hI
  have b0 : l.getD 0 false = true := listed_ofB3 h0 0 _ (by omega) rfl (by intro e he hbd; first | (simp at he; done) | skip; simp at he; (repeat (rcases he with rfl | he; · first | assumption | exact absurd hbd (by decide))); all_goals (subst he; first | assumption | exact absurd hbd (by decide)))
  have b1 : l.getD 1 false = true := listed_ofB3 h0 1 _ (by omega) rfl (by intro e he hbd; first | (simp at he; done) | skip; simp at he; (repeat (rcases he with rfl | he; · first | assumption | exact absurd hbd (by decide))); all_goals (subst he; first | assumption | exact absurd hbd (by decide)))
  have b2 : l.getD 2 false = true := listed_ofB3 h0 2 _ (by omega) rfl (by intro e he hbd; first | (simp at he; done) | skip; simp at he; (repeat (rcases he with rfl | he; · first | assumption | exact absurd hbd (by decide))); all_goals (subst he; first | assumption | exact absurd hbd (by decide)))
  have b3 : l.getD 3 false = true := listed_ofB3 h0 3 _ (by omega) rfl (by intro e he hbd; first | (simp at he; done) | skip; simp at he; (repeat (rcases he with rfl | he; · first | assumption | exact absurd hbd (by decide))); all_goals (subst he; first | assumption | exact absurd hbd (by decide)))
  have b4 : l.getD 4 false = true := listed_ofB3 h0 4 _ (by omega) rfl (by intro e he hbd; first | (simp at he; done) | skip; simp at he; (repeat (rcases he with rfl | he; · first | assumption | exact absurd hbd (by decide))); all_goals (subst he; first | assumption | exact absurd hbd (by decide)))
  have b5 : l.getD 5 false = true := listed_ofB3 h0 5 _ (by omega) rfl (by intro e he hbd; first | (simp at he; done) | skip; simp at he; (repeat (rcases he with rfl | he; · first | assumption | exact absurd hbd (by decide))); all_goals (subst he; first | assumption | exact absurd hbd (by decide)))
  have b6 : l.getD 6 false = true := listed_ofB3 h0 6 _ (by omega) rfl (by intro e he hbd; first | (simp at he; done) | skip; simp at he; (repeat (rcases he with rfl | he; · first | assumption | exact absurd hbd (by decide))); all_goals (subst he; first | assumption | exact absurd hbd (by decide)))
  have b7 : l.getD 7 false = true := listed_ofB3 h0 7 _ (by omega) rfl (by intro e he hbd; first | (simp at he; done) | skip; simp at he; (repeat (rcases he with rfl | he; · first | assumption | exact absurd hbd (by decide))); all_goals (subst he; first | assumption | exact absurd hbd (by decide)))
  have b8 : l.getD 8 false = true := listed_ofB3 h0 8 _ (by omega) rfl (by intro e he hbd; first | (simp at he; done) | skip; simp at he; (repeat (rcases he with rfl | he; · first | assumption | exact absurd hbd (by decide))); all_goals (subst he; first | assumption | exact absurd hbd (by decide)))
  have b9 : l.getD 9 false = true := listed_ofB3 h0 9 _ (by omega) rfl (by intro e he hbd; first | (simp at he; done) | skip; simp at he; (repeat (rcases he with rfl | he; · first | assumption | exact absurd hbd (by decide))); all_goals (subst he; first | assumption | exact absurd hbd (by decide)))
  obtain ⟨g10, q1, hg10, _, q4, q5⟩ := c7 b7
  subst q1
  have hga10 := q4 b3
  have hv10 := q5 b8
  obtain ⟨hr10, ho10, hlo10, hhi10, hlh10⟩ := cR b3
  obtain rfl := c0 b0
  obtain rfl := c1 b1
  obtain rfl := c2 b2
  obtain rfl := c3 b3
  obtain rfl := (c4 b4).2
  obtain rfl := (c5 b5).2
  obtain rfl := (c6 b6).2
  obtain rfl := c9 b9
  clear cO cR c0 c1 c2 c3 c4 c5 c6 c7 c8 c9 b0 b1 b2 b3 b4 b5 b6 b7 b8 b9 q4 q5 h0 hls HIB
  (try dsimp only)
  have hsw10 := hb10.size
  have HBw10 : Hid (Below w.heap.size w w10) := HBW9.out.trans (hb10.mono HBW9.out.size)
  have HV0 : Hid (Sv w10 (w.heap.size) (.int .i64 s.ep) (.slice ai0 s.items.length ci0) (.int .i64 s.base) (.slice ah0 s.handed.length ch0) (.slice aw0 s.way.length cw0) (.slice aa0 s.acks.length ca0)) := HV0.out.below hb10
  have HV1 : Hid (Sv w10 (g8) (.int .i64 F.ep) (.slice ri8 F.items.length ki8) (.int .i64 F.base) (.slice rh8 F.handed.length kh8) (.slice rw8 F.way.length kw8) (.slice ra8 F.acks.length ka8)) := HV1.out.below hb10
  have HV9 : Hid (Sv w10 (w9.heap.size) (.int .i64 s.ep) (.slice ai9 s.items.length ci9) (.int .i64 s.base) (.slice ah9 s.handed.length ch9) (.slice aw9 s.way.length cw9) (.slice aa9 s.acks.length ca9)) := HV9.out.below hb10
  have HCP : Hid (Cv3 w10 (w.heap.size + 1) (.int .i64 x.kind) (.int .i64 x.kk) (.string x.tx)) := HCP.out.below hb10
  have HRU : Hid (SesRow w10 (lo8) F (.slice ri8 F.items.length ki8) (.slice rh8 F.handed.length kh8) (.slice rw8 F.way.length kw8) (.slice ra8 F.acks.length ka8)) := HRU.out.below hb10
  have HRX : Hid (SesRow w10 (w8.heap.size) s (.slice ai9 s.items.length ci9) (.slice ah9 s.handed.length ch9) (.slice aw9 s.way.length cw9) (.slice aa9 s.acks.length ca9)) := HRX.out.below hb10
  clear HBW9
  clear hb10
  have HRG : Hid (SesRow w10 (lo10) F (.slice ri10 F.items.length ki10) (.slice rh10 F.handed.length kh10) (.slice rw10 F.way.length kw10) (.slice ra10 F.acks.length ka10)) := hr10
  have HLG : Hid (OwnIn lo10 hi10 (.slice ri10 F.items.length ki10) (.slice rh10 F.handed.length kh10) (.slice rw10 F.way.length kw10) (.slice ra10 F.acks.length ka10)) := ho10
  clear hr10 ho10
  have HV2 : Hid (Sv w10 (g10) (.int .i64 F.ep) (.slice ri10 F.items.length ki10) (.int .i64 F.base) (.slice rh10 F.handed.length kh10) (.slice rw10 F.way.length kw10) (.slice ra10 F.acks.length ka10)) := hv10
  clear hv10
  obtain ⟨hgl10, hgh10⟩ := hg10
  have y20 := HV2.out.c0
  have y21 := HV2.out.c1
  have y22 := HV2.out.c2
  have y23 := HV2.out.c3
  have y24 := HV2.out.c4
  have y25 := HV2.out.c5
  have y10 := HV1.out.c0
  have y11 := HV1.out.c1
  have y12 := HV1.out.c2
  have y13 := HV1.out.c3
  have y14 := HV1.out.c4
  have y15 := HV1.out.c5
  go_wp2_with fail
  go_at_call 13
  refine (EF.out _ _ _ _ _ _ _ _ _ HRG.out.at HRU.out.at).mono ?_
  rintro e w11 ⟨rfl, hbw11⟩
  clear y20 y21 y22 y23 y24 y25 y10 y11 y12 y13 y14 y15
  have hsw11 := hbw11.size
  have HBw11 : Hid (Below w.heap.size w w11) := HBw10.out.trans (hbw11.mono HBw10.out.size)
  have HV0 : Hid (Sv w11 (w.heap.size) (.int .i64 s.ep) (.slice ai0 s.items.length ci0) (.int .i64 s.base) (.slice ah0 s.handed.length ch0) (.slice aw0 s.way.length cw0) (.slice aa0 s.acks.length ca0)) := HV0.out.below hbw11
  have HV1 : Hid (Sv w11 (g8) (.int .i64 F.ep) (.slice ri8 F.items.length ki8) (.int .i64 F.base) (.slice rh8 F.handed.length kh8) (.slice rw8 F.way.length kw8) (.slice ra8 F.acks.length ka8)) := HV1.out.below hbw11
  have HV9 : Hid (Sv w11 (w9.heap.size) (.int .i64 s.ep) (.slice ai9 s.items.length ci9) (.int .i64 s.base) (.slice ah9 s.handed.length ch9) (.slice aw9 s.way.length cw9) (.slice aa9 s.acks.length ca9)) := HV9.out.below hbw11
  have HV2 : Hid (Sv w11 (g10) (.int .i64 F.ep) (.slice ri10 F.items.length ki10) (.int .i64 F.base) (.slice rh10 F.handed.length kh10) (.slice rw10 F.way.length kw10) (.slice ra10 F.acks.length ka10)) := HV2.out.below hbw11
  have HCP : Hid (Cv3 w11 (w.heap.size + 1) (.int .i64 x.kind) (.int .i64 x.kk) (.string x.tx)) := HCP.out.below hbw11
  have HRU : Hid (SesRow w11 (lo8) F (.slice ri8 F.items.length ki8) (.slice rh8 F.handed.length kh8) (.slice rw8 F.way.length kw8) (.slice ra8 F.acks.length ka8)) := HRU.out.below hbw11
  have HRX : Hid (SesRow w11 (w8.heap.size) s (.slice ai9 s.items.length ci9) (.slice ah9 s.handed.length ch9) (.slice aw9 s.way.length cw9) (.slice aa9 s.acks.length ca9)) := HRX.out.below hbw11
  have HRG : Hid (SesRow w11 (lo10) F (.slice ri10 F.items.length ki10) (.slice rh10 F.handed.length kh10) (.slice rw10 F.way.length kw10) (.slice ra10 F.acks.length ka10)) := HRG.out.below hbw11
  clear HBw10
  clear hbw11
  go_upto_region 13 with fail
  have HBw11d : Hid (Below w.heap.size w w11.drew) := HBw11.out.drew
  have KD : Hid (∀ W, Below w11.heap.size w11 W → W.cell? ⟨w9.heap.size, 0, none⟩ = some (.int .i64 s.ep) ∧ W.cell? ⟨w9.heap.size, 1, none⟩ = some (.slice ai9 s.items.length ci9) ∧ W.cell? ⟨w9.heap.size, 2, none⟩ = some (.int .i64 s.base) ∧ W.cell? ⟨w9.heap.size, 3, none⟩ = some (.slice ah9 s.handed.length ch9) ∧ W.cell? ⟨w9.heap.size, 4, none⟩ = some (.slice aw9 s.way.length cw9) ∧ W.cell? ⟨w9.heap.size, 5, none⟩ = some (.slice aa9 s.acks.length ca9) ∧ W.cell? ⟨w.heap.size, 0, none⟩ = some (.int .i64 s.ep) ∧ W.cell? ⟨w.heap.size, 1, none⟩ = some (.slice ai0 s.items.length ci0) ∧ W.cell? ⟨w.heap.size, 2, none⟩ = some (.int .i64 s.base) ∧ W.cell? ⟨w.heap.size, 3, none⟩ = some (.slice ah0 s.handed.length ch0) ∧ W.cell? ⟨w.heap.size, 4, none⟩ = some (.slice aw0 s.way.length cw0) ∧ W.cell? ⟨w.heap.size, 5, none⟩ = some (.slice aa0 s.acks.length ca0)) := fun W hW => ⟨(HV9.out.below hW).c0, (HV9.out.below hW).c1, (HV9.out.below hW).c2, (HV9.out.below hW).c3, (HV9.out.below hW).c4, (HV9.out.below hW).c5, (HV0.out.below hW).c0, (HV0.out.below hW).c1, (HV0.out.below hW).c2, (HV0.out.below hW).c3, (HV0.out.below hW).c4, (HV0.out.below hW).c5⟩
  go_region_held3 (fun W => W.cell? ⟨w9.heap.size, 0, none⟩ = some (.int .i64 s.ep) ∧ W.cell? ⟨w9.heap.size, 1, none⟩ = some (.slice ai9 s.items.length ci9) ∧ W.cell? ⟨w9.heap.size, 2, none⟩ = some (.int .i64 s.base) ∧ W.cell? ⟨w9.heap.size, 3, none⟩ = some (.slice ah9 s.handed.length ch9) ∧ W.cell? ⟨w9.heap.size, 4, none⟩ = some (.slice aw9 s.way.length cw9) ∧ W.cell? ⟨w9.heap.size, 5, none⟩ = some (.slice aa9 s.acks.length ca9) ∧ W.cell? ⟨w.heap.size, 0, none⟩ = some (.int .i64 s.ep) ∧ W.cell? ⟨w.heap.size, 1, none⟩ = some (.slice ai0 s.items.length ci0) ∧ W.cell? ⟨w.heap.size, 2, none⟩ = some (.int .i64 s.base) ∧ W.cell? ⟨w.heap.size, 3, none⟩ = some (.slice ah0 s.handed.length ch0) ∧ W.cell? ⟨w.heap.size, 4, none⟩ = some (.slice aw0 s.way.length cw0) ∧ W.cell? ⟨w.heap.size, 5, none⟩ = some (.slice aa0 s.acks.length ca0)) (first | with_reducible exact KD.out _ (Below.refl _ w11).drew | with_reducible exact KD.out _ hbD | with_reducible exact KD.out _ hbE)
    (first | ((go_at_call 13; (with_reducible refine (HES.out _ _ _ _ _ _ _ _ _ HRXd.out.at HRD.out.at).mono ?_); rintro e w13 ⟨rfl, hbE0⟩; have hbE : Below w11.heap.size w11 w13 := hbD.trans (hbE0.mono hbD.size))) | ((go_at_call 18; (with_reducible refine (HC1.out _ HBw11d.out).mono ?_); rintro e w12 ⟨ai12, ci12, ah12, ch12, aw12, cw12, aa12, ca12, rfl, hrD, hbD0⟩; have hbD : Below w11.heap.size w11 w12 := (Below.refl _ w11).drew.trans (hbD0.mono (Nat.le_refl _)); have HRXd : Hid (SesRow w12 (w8.heap.size) s (.slice ai9 s.items.length ci9) (.slice ah9 s.handed.length ch9) (.slice aw9 s.way.length cw9) (.slice aa9 s.acks.length ca9)) := HRX.out.below hbD; have HRD : Hid (SesRow w12 w11.drew.heap.size s (.slice ai12 s.items.length ci12) (.slice ah12 s.handed.length ch12) (.slice aw12 s.way.length cw12) (.slice aa12 s.acks.length ca12)) := hrD)))
  clear KD HRXd HRD hbD hbD0 hrD hbE0
  have hsw13 := hbE.size
  have HBw13 : Hid (Below w.heap.size w w13) := HBw11.out.trans (hbE.mono HBw11.out.size)
  have HV0 : Hid (Sv w13 (w.heap.size) (.int .i64 s.ep) (.slice ai0 s.items.length ci0) (.int .i64 s.base) (.slice ah0 s.handed.length ch0) (.slice aw0 s.way.length cw0) (.slice aa0 s.acks.length ca0)) := HV0.out.below hbE
  have HV1 : Hid (Sv w13 (g8) (.int .i64 F.ep) (.slice ri8 F.items.length ki8) (.int .i64 F.base) (.slice rh8 F.handed.length kh8) (.slice rw8 F.way.length kw8) (.slice ra8 F.acks.length ka8)) := HV1.out.below hbE
  have HV9 : Hid (Sv w13 (w9.heap.size) (.int .i64 s.ep) (.slice ai9 s.items.length ci9) (.int .i64 s.base) (.slice ah9 s.handed.length ch9) (.slice aw9 s.way.length cw9) (.slice aa9 s.acks.length ca9)) := HV9.out.below hbE
  have HV2 : Hid (Sv w13 (g10) (.int .i64 F.ep) (.slice ri10 F.items.length ki10) (.int .i64 F.base) (.slice rh10 F.handed.length kh10) (.slice rw10 F.way.length kw10) (.slice ra10 F.acks.length ka10)) := HV2.out.below hbE
  have HCP : Hid (Cv3 w13 (w.heap.size + 1) (.int .i64 x.kind) (.int .i64 x.kk) (.string x.tx)) := HCP.out.below hbE
  have HRU : Hid (SesRow w13 (lo8) F (.slice ri8 F.items.length ki8) (.slice rh8 F.handed.length kh8) (.slice rw8 F.way.length kw8) (.slice ra8 F.acks.length ka8)) := HRU.out.below hbE
  have HRX : Hid (SesRow w13 (w8.heap.size) s (.slice ai9 s.items.length ci9) (.slice ah9 s.handed.length ch9) (.slice aw9 s.way.length cw9) (.slice aa9 s.acks.length ca9)) := HRX.out.below hbE
  have HRG : Hid (SesRow w13 (lo10) F (.slice ri10 F.items.length ki10) (.slice rh10 F.handed.length kh10) (.slice rw10 F.way.length kw10) (.slice ra10 F.acks.length ka10)) := HRG.out.below hbE
  clear HBw11
  clear hbE
  have y90 := HV9.out.c0
  have y91 := HV9.out.c1
  have y92 := HV9.out.c2
  have y93 := HV9.out.c3
  have y94 := HV9.out.c4
  have y95 := HV9.out.c5
  go_wp2_with fail
  go_at_call 14
  refine (HMX.out (w8.heap.size) (w9.heap.size) _ _ _ _ _ HRX.out HLX.out).mono ?_
  rintro e w14 ⟨rfl, hkw14, hmw14⟩
  clear y90 y91 y92 y93 y94 y95
  have hsw14 := hmw14.size
  have HBw14 : Hid (Below w.heap.size w w14) := HBw13.out.trans ((hmw14.below (by omega)).mono (by omega))
  have HV0 : Hid (Sv w14 (w.heap.size) (.int .i64 s.ep) (.slice ai0 s.items.length ci0) (.int .i64 s.base) (.slice ah0 s.handed.length ch0) (.slice aw0 s.way.length cw0) (.slice aa0 s.acks.length ca0)) := HV0.out.mid hmw14 (by omega)
  have HV1 : Hid (Sv w14 (g8) (.int .i64 F.ep) (.slice ri8 F.items.length ki8) (.int .i64 F.base) (.slice rh8 F.handed.length kh8) (.slice rw8 F.way.length kw8) (.slice ra8 F.acks.length ka8)) := HV1.out.mid hmw14 (by omega)
  have HV9 : Hid (Sv w14 (w9.heap.size) (.int .i64 s.ep) (.slice ai9 s.items.length ci9) (.int .i64 s.base) (.slice ah9 s.handed.length ch9) (.slice aw9 s.way.length cw9) (.slice aa9 s.acks.length ca9)) := HV9.out.mid hmw14 (by omega)
  have HV2 : Hid (Sv w14 (g10) (.int .i64 F.ep) (.slice ri10 F.items.length ki10) (.int .i64 F.base) (.slice rh10 F.handed.length kh10) (.slice rw10 F.way.length kw10) (.slice ra10 F.acks.length ka10)) := HV2.out.mid hmw14 (by omega)
  have HCP : Hid (Cv3 w14 (w.heap.size + 1) (.int .i64 x.kind) (.int .i64 x.kk) (.string x.tx)) := HCP.out.mid hmw14 (by omega)
  have HRU : Hid (SesRow w14 (lo8) F (.slice ri8 F.items.length ki8) (.slice rh8 F.handed.length kh8) (.slice rw8 F.way.length kw8) (.slice ra8 F.acks.length ka8)) := HRU.out.mid HLU.out hmw14 (by omega)
  have HRG : Hid (SesRow w14 (lo10) F (.slice ri10 F.items.length ki10) (.slice rh10 F.handed.length kh10) (.slice rw10 F.way.length kw10) (.slice ra10 F.acks.length ka10)) := HRG.out.mid HLG.out hmw14 (by omega)
  clear HBw13
  clear hmw14 HRX HLX
  have HMX : Hid (SesMk w14 w14.heap.size 1 s.items.length s.handed.length s.way.length s.acks.length (.slice ai9 s.items.length ci9) (.slice ah9 s.handed.length ch9) (.slice aw9 s.way.length cw9) (.slice aa9 s.acks.length ca9)) := hkw14
  clear hkw14
  clear HMX
  clear HV9
  have hk14 : ¬ (((1 + s.items.length + s.handed.length + s.way.length * 3 + s.acks.length * 2 : Nat) : Int) < 0) := by omega
  have y20 := HV2.out.c0
  have y21 := HV2.out.c1
  have y22 := HV2.out.c2
  have y23 := HV2.out.c3
  have y24 := HV2.out.c4
  have y25 := HV2.out.c5
  have y10 := HV1.out.c0
  have y11 := HV1.out.c1
  have y12 := HV1.out.c2
  have y13 := HV1.out.c3
  have y14 := HV1.out.c4
  have y15 := HV1.out.c5
  go_wp2_with fail
  go_at_call 13
  refine (EF.out _ _ _ _ _ _ _ _ _ HRG.out.at HRU.out.at).mono ?_
  rintro e w15 ⟨rfl, hbw15⟩
  clear y20 y21 y22 y23 y24 y25 y10 y11 y12 y13 y14 y15
  have hsw15 := hbw15.size
  have HBw15 : Hid (Below w.heap.size w w15) := HBw14.out.trans (hbw15.mono HBw14.out.size)
  have HV0 : Hid (Sv w15 (w.heap.size) (.int .i64 s.ep) (.slice ai0 s.items.length ci0) (.int .i64 s.base) (.slice ah0 s.handed.length ch0) (.slice aw0 s.way.length cw0) (.slice aa0 s.acks.length ca0)) := HV0.out.below hbw15
  have HV1 : Hid (Sv w15 (g8) (.int .i64 F.ep) (.slice ri8 F.items.length ki8) (.int .i64 F.base) (.slice rh8 F.handed.length kh8) (.slice rw8 F.way.length kw8) (.slice ra8 F.acks.length ka8)) := HV1.out.below hbw15
  have HV2 : Hid (Sv w15 (g10) (.int .i64 F.ep) (.slice ri10 F.items.length ki10) (.int .i64 F.base) (.slice rh10 F.handed.length kh10) (.slice rw10 F.way.length kw10) (.slice ra10 F.acks.length ka10)) := HV2.out.below hbw15
  have HCP : Hid (Cv3 w15 (w.heap.size + 1) (.int .i64 x.kind) (.int .i64 x.kk) (.string x.tx)) := HCP.out.below hbw15
  have HRU : Hid (SesRow w15 (lo8) F (.slice ri8 F.items.length ki8) (.slice rh8 F.handed.length kh8) (.slice rw8 F.way.length kw8) (.slice ra8 F.acks.length ka8)) := HRU.out.below hbw15
  have HRG : Hid (SesRow w15 (lo10) F (.slice ri10 F.items.length ki10) (.slice rh10 F.handed.length kh10) (.slice rw10 F.way.length kw10) (.slice ra10 F.acks.length ka10)) := HRG.out.below hbw15
  clear HBw14
  clear hbw15
  have y20 := HV2.out.c0
  have y21 := HV2.out.c1
  have y22 := HV2.out.c2
  have y23 := HV2.out.c3
  have y24 := HV2.out.c4
  have y25 := HV2.out.c5
  go_wp2_with fail
  go_at_call 14
  refine (MG.out (lo10) (hi10) _ _ _ _ _ HRG.out HLG.out).mono ?_
  rintro e w16 ⟨rfl, hkw16, hmw16⟩
  clear y20 y21 y22 y23 y24 y25
  have hsw16 := hmw16.size
  have HBw16 : Hid (Below w.heap.size w w16) := HBw15.out.trans ((hmw16.below (by omega)).mono (by omega))
  have HV0 : Hid (Sv w16 (w.heap.size) (.int .i64 s.ep) (.slice ai0 s.items.length ci0) (.int .i64 s.base) (.slice ah0 s.handed.length ch0) (.slice aw0 s.way.length cw0) (.slice aa0 s.acks.length ca0)) := HV0.out.mid hmw16 (by omega)
  have HV1 : Hid (Sv w16 (g8) (.int .i64 F.ep) (.slice ri8 F.items.length ki8) (.int .i64 F.base) (.slice rh8 F.handed.length kh8) (.slice rw8 F.way.length kw8) (.slice ra8 F.acks.length ka8)) := HV1.out.mid hmw16 (by omega)
  have HV2 : Hid (Sv w16 (g10) (.int .i64 F.ep) (.slice ri10 F.items.length ki10) (.int .i64 F.base) (.slice rh10 F.handed.length kh10) (.slice rw10 F.way.length kw10) (.slice ra10 F.acks.length ka10)) := HV2.out.mid hmw16 (by omega)
  have HCP : Hid (Cv3 w16 (w.heap.size + 1) (.int .i64 x.kind) (.int .i64 x.kk) (.string x.tx)) := HCP.out.mid hmw16 (by omega)
  have HRU : Hid (SesRow w16 (lo8) F (.slice ri8 F.items.length ki8) (.slice rh8 F.handed.length kh8) (.slice rw8 F.way.length kw8) (.slice ra8 F.acks.length ka8)) := HRU.out.mid HLU.out hmw16 (by omega)
  clear HBw15
  clear hmw16 HRG HLG
  have HMG : Hid (SesMk w16 w16.heap.size 1 F.items.length F.handed.length F.way.length F.acks.length (.slice ri10 F.items.length ki10) (.slice rh10 F.handed.length kh10) (.slice rw10 F.way.length kw10) (.slice ra10 F.acks.length ka10)) := hkw16
  clear hkw16
  have y20 := HV2.out.c0
  have y21 := HV2.out.c1
  have y22 := HV2.out.c2
  have y23 := HV2.out.c3
  have y24 := HV2.out.c4
  have y25 := HV2.out.c5
  go_wp2_with fail
  go_at_call 15
  refine (HG.out _ _ _ _ _ HMG.out).mono ?_
  rintro e w17 ⟨rfl, hbw17⟩
  clear y20 y21 y22 y23 y24 y25
  have hsw17 := hbw17.size
  have HBw17 : Hid (Below w.heap.size w w17) := HBw16.out.trans (hbw17.mono HBw16.out.size)
  have HV0 : Hid (Sv w17 (w.heap.size) (.int .i64 s.ep) (.slice ai0 s.items.length ci0) (.int .i64 s.base) (.slice ah0 s.handed.length ch0) (.slice aw0 s.way.length cw0) (.slice aa0 s.acks.length ca0)) := HV0.out.below hbw17
  have HV1 : Hid (Sv w17 (g8) (.int .i64 F.ep) (.slice ri8 F.items.length ki8) (.int .i64 F.base) (.slice rh8 F.handed.length kh8) (.slice rw8 F.way.length kw8) (.slice ra8 F.acks.length ka8)) := HV1.out.below hbw17
  have HV2 : Hid (Sv w17 (g10) (.int .i64 F.ep) (.slice ri10 F.items.length ki10) (.int .i64 F.base) (.slice rh10 F.handed.length kh10) (.slice rw10 F.way.length kw10) (.slice ra10 F.acks.length ka10)) := HV2.out.below hbw17
  have HCP : Hid (Cv3 w17 (w.heap.size + 1) (.int .i64 x.kind) (.int .i64 x.kk) (.string x.tx)) := HCP.out.below hbw17
  have HRU : Hid (SesRow w17 (lo8) F (.slice ri8 F.items.length ki8) (.slice rh8 F.handed.length kh8) (.slice rw8 F.way.length kw8) (.slice ra8 F.acks.length ka8)) := HRU.out.below hbw17
  have HMG : Hid (SesMk w17 w17.heap.size 1 F.items.length F.handed.length F.way.length F.acks.length (.slice ri10 F.items.length ki10) (.slice rh10 F.handed.length kh10) (.slice rw10 F.way.length kw10) (.slice ra10 F.acks.length ka10)) := HMG.out.below hbw17
  clear HBw16
  clear hbw17
  have HIC : Hid (SlC w w17 s F x K aa0 aa12 aa9 ah0 ah12 ah9 ai0 ai12 ai9 aw0 aw12 aw9 ca0 ca12 ca9 ch0 ch12 ch9 ci0 ci12 ci9 cw0 cw12 cw9 g10 g8 ka10 ka8 kh10 kh8 ki10 ki8 kw10 kw8 oa8 oh8 oi8 ow8 r1 r2 ra10 ra8 rh10 rh8 ri10 ri8 rw10 rw8 w9 (Array.replicate 11 false) ⟨#[Value.agg #[Value.int IntKind.i64 s.ep, Value.slice ai0 s.items.length ci0, Value.int IntKind.i64 s.base, Value.slice ah0 s.handed.length ch0, Value.slice aw0 s.way.length cw0, Value.slice aa0 s.acks.length ca0], Value.agg #[Value.int IntKind.i64 x.kind, Value.int IntKind.i64 x.kk, Value.string x.tx], Value.pointer (some { block := w.heap.size, off := 0 }), Value.pointer (some { block := w.heap.size + 1, off := 0 }), Value.bool false, Value.int IntKind.i64 r2, Value.pointer (some { block := g8, off := 0 }), Value.bool K, Value.pointer (some { block := w9.heap.size, off := 0 }), Value.pointer (some { block := g10, off := 0 }), Value.bool K, Value.int IntKind.i64 (1 + ↑s.items.length + ↑s.handed.length + ↑s.way.length * 3 + ↑s.acks.length * 2), Value.int IntKind.i64 (1 + ↑F.items.length + ↑F.handed.length + ↑F.way.length * 3 + ↑F.acks.length * 2), Value.int IntKind.i64 (1 + ↑F.items.length + ↑F.handed.length + ↑F.way.length * 3 + ↑F.acks.length * 2), undef, undef, Value.agg #[Value.int IntKind.i64 s.ep, Value.slice ai0 s.items.length ci0, Value.int IntKind.i64 s.base, Value.slice ah0 s.handed.length ch0, Value.slice aw0 s.way.length cw0, Value.slice aa0 s.acks.length ca0], Value.int IntKind.i64 1048576, Value.int IntKind.i64 r1, Value.int IntKind.i64 r1, Value.bool (decide (r1 < 0)), Value.agg #[Value.int IntKind.i64 x.kind, Value.int IntKind.i64 x.kk, Value.string x.tx], Value.int IntKind.i64 r1, Value.int IntKind.i64 r2, Value.int IntKind.i64 r2, Value.bool (decide (r2 < 0)), Value.tuple #[Value.agg #[Value.int IntKind.i64 F.ep, Value.slice ri8 F.items.length ki8, Value.int IntKind.i64 F.base, Value.slice rh8 F.handed.length kh8, Value.slice rw8 F.way.length kw8, Value.slice ra8 F.acks.length ka8], Value.bool K], Value.agg #[Value.int IntKind.i64 s.ep, Value.slice ai0 s.items.length ci0, Value.int IntKind.i64 s.base, Value.slice ah0 s.handed.length ch0, Value.slice aw0 s.way.length cw0, Value.slice aa0 s.acks.length ca0], s.val oi8 oh8 ow8 oa8, Value.agg #[Value.int IntKind.i64 x.kind, Value.int IntKind.i64 x.kk, Value.string x.tx], Value.agg #[Value.int IntKind.i64 x.kind, Value.int IntKind.i64 x.kk, Value.string x.tx], Value.tuple #[Value.agg #[Value.int IntKind.i64 F.ep, Value.slice ri8 F.items.length ki8, Value.int IntKind.i64 F.base, Value.slice rh8 F.handed.length kh8, Value.slice rw8 F.way.length kw8, Value.slice ra8 F.acks.length ka8], Value.bool K], Value.agg #[Value.int IntKind.i64 F.ep, Value.slice ri8 F.items.length ki8, Value.int IntKind.i64 F.base, Value.slice rh8 F.handed.length kh8, Value.slice rw8 F.way.length kw8, Value.slice ra8 F.acks.length ka8], Value.bool K, Value.agg #[Value.int IntKind.i64 s.ep, Value.slice ai0 s.items.length ci0, Value.int IntKind.i64 s.base, Value.slice ah0 s.handed.length ch0, Value.slice aw0 s.way.length cw0, Value.slice aa0 s.acks.length ca0], Value.agg #[Value.int IntKind.i64 s.ep, Value.slice ai9 s.items.length ci9, Value.int IntKind.i64 s.base, Value.slice ah9 s.handed.length ch9, Value.slice aw9 s.way.length cw9, Value.slice aa9 s.acks.length ca9], Value.tuple #[Value.agg #[Value.int IntKind.i64 F.ep, Value.slice ri10 F.items.length ki10, Value.int IntKind.i64 F.base, Value.slice rh10 F.handed.length kh10, Value.slice rw10 F.way.length kw10, Value.slice ra10 F.acks.length ka10], Value.bool K], Value.agg #[Value.int IntKind.i64 s.ep, Value.slice ai9 s.items.length ci9, Value.int IntKind.i64 s.base, Value.slice ah9 s.handed.length ch9, Value.slice aw9 s.way.length cw9, Value.slice aa9 s.acks.length ca9], Value.agg #[Value.int IntKind.i64 x.kind, Value.int IntKind.i64 x.kk, Value.string x.tx], Value.agg #[Value.int IntKind.i64 x.kind, Value.int IntKind.i64 x.kk, Value.string x.tx], Value.tuple #[Value.agg #[Value.int IntKind.i64 F.ep, Value.slice ri10 F.items.length ki10, Value.int IntKind.i64 F.base, Value.slice rh10 F.handed.length kh10, Value.slice rw10 F.way.length kw10, Value.slice ra10 F.acks.length ka10], Value.bool K], Value.agg #[Value.int IntKind.i64 F.ep, Value.slice ri10 F.items.length ki10, Value.int IntKind.i64 F.base, Value.slice rh10 F.handed.length kh10, Value.slice rw10 F.way.length kw10, Value.slice ra10 F.acks.length ka10], Value.bool K, Value.agg #[Value.int IntKind.i64 F.ep, Value.slice ri10 F.items.length ki10, Value.int IntKind.i64 F.base, Value.slice rh10 F.handed.length kh10, Value.slice rw10 F.way.length kw10, Value.slice ra10 F.acks.length ka10], Value.agg #[Value.int IntKind.i64 F.ep, Value.slice ri8 F.items.length ki8, Value.int IntKind.i64 F.base, Value.slice rh8 F.handed.length kh8, Value.slice rw8 F.way.length kw8, Value.slice ra8 F.acks.length ka8], Value.bool true, Value.bool false, Value.bool false, Value.bool K, Value.bool K, Value.bool false, Value.bool false, Value.agg #[Value.int IntKind.i64 s.ep, Value.slice ai9 s.items.length ci9, Value.int IntKind.i64 s.base, Value.slice ah9 s.handed.length ch9, Value.slice aw9 s.way.length cw9, Value.slice aa9 s.acks.length ca9], Value.agg #[Value.int IntKind.i64 s.ep, Value.slice ai0 s.items.length ci0, Value.int IntKind.i64 s.base, Value.slice ah0 s.handed.length ch0, Value.slice aw0 s.way.length cw0, Value.slice aa0 s.acks.length ca0], Value.agg #[Value.int IntKind.i64 s.ep, Value.slice ai12 s.items.length ci12, Value.int IntKind.i64 s.base, Value.slice ah12 s.handed.length ch12, Value.slice aw12 s.way.length cw12, Value.slice aa12 s.acks.length ca12], Value.bool true, Value.bool false, Value.agg #[Value.int IntKind.i64 s.ep, Value.slice ai9 s.items.length ci9, Value.int IntKind.i64 s.base, Value.slice ah9 s.handed.length ch9, Value.slice aw9 s.way.length cw9, Value.slice aa9 s.acks.length ca9], Value.int IntKind.i64 1, Value.int IntKind.i64 (1 + ↑s.items.length + ↑s.handed.length + ↑s.way.length * 3 + ↑s.acks.length * 2), Value.int IntKind.i64 (1 + ↑s.items.length + ↑s.handed.length + ↑s.way.length * 3 + ↑s.acks.length * 2), Value.bool (decide (1 + ↑s.items.length + ↑s.handed.length + ↑s.way.length * 3 + ↑s.acks.length * 2 < 0)), Value.bool (decide (1 + ↑s.items.length + ↑s.handed.length + ↑s.way.length * 3 + ↑s.acks.length * 2 < 0)), Value.agg #[Value.int IntKind.i64 F.ep, Value.slice ri10 F.items.length ki10, Value.int IntKind.i64 F.base, Value.slice rh10 F.handed.length kh10, Value.slice rw10 F.way.length kw10, Value.slice ra10 F.acks.length ka10], Value.agg #[Value.int IntKind.i64 F.ep, Value.slice ri8 F.items.length ki8, Value.int IntKind.i64 F.base, Value.slice rh8 F.handed.length kh8, Value.slice rw8 F.way.length kw8, Value.slice ra8 F.acks.length ka8], Value.bool true, Value.bool false, Value.bool (decide (1 + ↑s.items.length + ↑s.handed.length + ↑s.way.length * 3 + ↑s.acks.length * 2 < 0)), Value.bool (decide (1 + ↑s.items.length + ↑s.handed.length + ↑s.way.length * 3 + ↑s.acks.length * 2 < 0)), Value.bool K, Value.bool K, Value.bool false, Value.bool (decide (1 + ↑s.items.length + ↑s.handed.length + ↑s.way.length * 3 + ↑s.acks.length * 2 < 0)), Value.agg #[Value.int IntKind.i64 F.ep, Value.slice ri10 F.items.length ki10, Value.int IntKind.i64 F.base, Value.slice rh10 F.handed.length kh10, Value.slice rw10 F.way.length kw10, Value.slice ra10 F.acks.length ka10], Value.int IntKind.i64 1, Value.int IntKind.i64 (1 + ↑F.items.length + ↑F.handed.length + ↑F.way.length * 3 + ↑F.acks.length * 2), Value.agg #[Value.int IntKind.i64 F.ep, Value.slice ri10 F.items.length ki10, Value.int IntKind.i64 F.base, Value.slice rh10 F.handed.length kh10, Value.slice rw10 F.way.length kw10, Value.slice ra10 F.acks.length ka10], Value.int IntKind.i64 1, Value.int IntKind.i64 (1 + ↑F.items.length + ↑F.handed.length + ↑F.way.length * 3 + ↑F.acks.length * 2), Value.int IntKind.i64 (1 + ↑F.items.length + ↑F.handed.length + ↑F.way.length * 3 + ↑F.acks.length * 2), Value.bool (decide (1 + ↑F.items.length + ↑F.handed.length + ↑F.way.length * 3 + ↑F.acks.length * 2 < 0)), Value.int IntKind.i64 (1 + ↑F.items.length + ↑F.handed.length + ↑F.way.length * 3 + ↑F.acks.length * 2), Value.int IntKind.i64 (1 + ↑F.items.length + ↑F.handed.length + ↑F.way.length * 3 + ↑F.acks.length * 2), Value.bool false, undef, undef, undef, undef, undef, undef, undef, undef, undef, undef, undef, undef, undef, undef, undef, undef, undef, undef, undef, undef, undef, undef, undef, undef, undef], []⟩ w17.drew) := by
    refine ⟨by simp, (Below.refl _ w17).drew, undef, undef, undef, undef, none, none, none, none, 0, 0, 0, 0, 0, 0, _, _, _, _, _, _, _, _, _, _, rfl, ?_, ?_, ?_, ?_, ?_, ?_, ?_, ?_, ?_, ?_, ?_, ?_, ?_⟩
    all_goals
      intro h
      exact absurd h (by decide)
  go_upto_region 27 with fail
  refine wp_region_held_drew (S := fun _ => True) (by kernel_rfl) trivial (fun _ => ?_)
  refine wpAnyH_inv (SlC w w17 s F x K aa0 aa12 aa9 ah0 ah12 ah9 ai0 ai12 ai9 aw0 aw12 aw9 ca0 ca12 ca9 ch0 ch12 ch9 ci0 ci12 ci9 cw0 cw12 cw9 g10 g8 ka10 ka8 kh10 kh8 ki10 ki8 kw10 kw8 oa8 oh8 oi8 ow8 r1 r2 ra10 ra8 rh10 rh8 ri10 ri8 rw10 rw8 w9) ?stepC ?finC _ _ _ _ HIC.out (by decide)
  case stepC =>
    intro l a W i hI hi' K' hK'
    have hlt := ready_lt hi'
    obtain ⟨hls, hB, oi, oh, ow, oa, ri, rh, rw, ra, ki, kh, kw, ka, lo, hi, u85, u86, u87, u88, u89, u84, u90, u91, u14, u15, rfl, cO, cR, c0, c1, c2, c3, c4, c5, c6, c7, c8, c9, c10⟩ := hI
    have hlt' : i < 11 := hlt
    have hsz := hB.size
    rcases (show i = 0 ∨ i = 1 ∨ i = 2 ∨ i = 3 ∨ i = 4 ∨ i = 5 ∨ i = 6 ∨ i = 7 ∨ i = 8 ∨ i = 9 ∨ i = 10 by omega) with rfl | rfl | rfl | rfl | rfl | rfl | rfl | rfl | rfl | rfl | rfl
    · -- 0
      have V := HV0.out.below hB
      have y0 := V.c0
      have y1 := V.c1
      have y2 := V.c2
      have y3 := V.c3
      have y4 := V.c4
      have y5 := V.c5
      clear V
      refine wpOp_step rfl (fun K9 hK9 => ?_)
      have HK : Hid (∀ a w, K' a w → K9 a w) := hK9
      have HK2 : Hid (type_of% hK') := hK'
      clear hK9 hK'
      go_simp
      exact HK.out _ _ (HK2.out _ _ ⟨by simp [hls], hB, oi, oh, ow, oa, ri, rh, rw, ra, ki, kh, kw, ka, lo, hi, _, _, _, _, _, _, _, _, _, _, rfl, fun h h3 => cO (getD_ne h (by decide)) (getD_off h3 (by decide)), fun h => cR (getD_ne h (by decide)), fun _ => rfl, fun h => (c1 (getD_ne h (by decide))), fun h => (c2 (getD_ne h (by decide))), fun h => (c3 (getD_ne h (by decide))), fun h => (c4 (getD_ne h (by decide))), fun h => ⟨getD_set_true (c5 (getD_ne h (by decide))).1, (c5 (getD_ne h (by decide))).2⟩, fun h => ⟨getD_set_true (c6 (getD_ne h (by decide))).1, (c6 (getD_ne h (by decide))).2⟩, fun h => ⟨getD_set_true (c7 (getD_ne h (by decide))).1, (c7 (getD_ne h (by decide))).2⟩, fun h => by obtain ⟨g, q1, q2, q3, q4, q5⟩ := (c8 (getD_ne h (by decide))); exact ⟨g, q1, q2, q3, fun h5 => q4 (getD_ne h5 (by decide)), fun h5 => q5 (getD_ne h5 (by decide))⟩, fun h => ⟨getD_set_true (c9 (getD_ne h (by decide))).1, getD_set_true (c9 (getD_ne h (by decide))).2⟩, fun h => (c10 (getD_ne h (by decide)))⟩)
    · -- 1
      obtain rfl := c0 (by have hd := ready_deps hi' (o := _) rfl; exact hd ⟨0, .data⟩ (by simp) (by rfl))
      have CC := HC1.out W (HBw17.out.trans (hB.mono HBw17.out.size))
      refine wpOp_step rfl (fun K9 hK9 => ?_)
      have HK : Hid (∀ a w, K' a w → K9 a w) := hK9
      have HK2 : Hid (type_of% hK') := hK'
      clear hK9 hK'
      go_simp
      go_at_call 18
      refine CC.mono ?_
      rintro r W9 ⟨ai, ci, ah, ch, aw, cw, aa, ca, rfl, hr, hb⟩
      (try go_simp)
      exact HK.out _ _ (HK2.out _ _ ⟨by simp [hls], hB.trans (hb.mono hsz), .slice ai s.items.length ci, .slice ah s.handed.length ch, .slice aw s.way.length cw, .slice aa s.acks.length ca, ri, rh, rw, ra, ki, kh, kw, ka, lo, hi, _, _, _, _, _, _, _, _, _, _, rfl, fun _ _ => hr.lower hsz, fun h => by obtain ⟨q1, q2, q3, q4⟩ := cR (getD_ne h (by decide)); exact ⟨q1.below hb, q2, q3, Nat.le_trans q4.1 hb.size, q4.2⟩, fun h => (c0 (getD_ne h (by decide))), fun _ => rfl, fun h => (c2 (getD_ne h (by decide))), fun h => (c3 (getD_ne h (by decide))), fun h => (c4 (getD_ne h (by decide))), fun h => ⟨getD_set_true (c5 (getD_ne h (by decide))).1, (c5 (getD_ne h (by decide))).2⟩, fun h => ⟨getD_set_true (c6 (getD_ne h (by decide))).1, (c6 (getD_ne h (by decide))).2⟩, fun h => ⟨getD_set_true (c7 (getD_ne h (by decide))).1, (c7 (getD_ne h (by decide))).2⟩, fun h => by obtain ⟨g, q1, q2, ⟨y0, y1, y2, y3, y4, y5, q3⟩, q4, q5⟩ := (c8 (getD_ne h (by decide))); exact ⟨g, q1, ⟨q2.1, Nat.lt_of_lt_of_le q2.2 hb.size⟩, ⟨y0, y1, y2, y3, y4, y5, q3.below hb⟩, fun h5 => q4 (getD_ne h5 (by decide)), fun h5 => (q5 (getD_ne h5 (by decide))).below hb⟩, fun h => ⟨getD_set_true (c9 (getD_ne h (by decide))).1, getD_set_true (c9 (getD_ne h (by decide))).2⟩, fun h => (c10 (getD_ne h (by decide)))⟩)
    · -- 2
      have V := HCP.out.below hB
      have y0 := V.c0
      have y1 := V.c1
      have y2 := V.c2
      clear V
      refine wpOp_step rfl (fun K9 hK9 => ?_)
      have HK : Hid (∀ a w, K' a w → K9 a w) := hK9
      have HK2 : Hid (type_of% hK') := hK'
      clear hK9 hK'
      go_simp
      exact HK.out _ _ (HK2.out _ _ ⟨by simp [hls], hB, oi, oh, ow, oa, ri, rh, rw, ra, ki, kh, kw, ka, lo, hi, _, _, _, _, _, _, _, _, _, _, rfl, fun h h3 => cO (getD_ne h (by decide)) (getD_off h3 (by decide)), fun h => cR (getD_ne h (by decide)), fun h => (c0 (getD_ne h (by decide))), fun h => (c1 (getD_ne h (by decide))), fun _ => rfl, fun h => (c3 (getD_ne h (by decide))), fun h => (c4 (getD_ne h (by decide))), fun h => ⟨getD_set_true (c5 (getD_ne h (by decide))).1, (c5 (getD_ne h (by decide))).2⟩, fun h => ⟨getD_set_true (c6 (getD_ne h (by decide))).1, (c6 (getD_ne h (by decide))).2⟩, fun h => ⟨getD_set_true (c7 (getD_ne h (by decide))).1, (c7 (getD_ne h (by decide))).2⟩, fun h => by obtain ⟨g, q1, q2, q3, q4, q5⟩ := (c8 (getD_ne h (by decide))); exact ⟨g, q1, q2, q3, fun h5 => q4 (getD_ne h5 (by decide)), fun h5 => q5 (getD_ne h5 (by decide))⟩, fun h => ⟨getD_set_true (c9 (getD_ne h (by decide))).1, getD_set_true (c9 (getD_ne h (by decide))).2⟩, fun h => (c10 (getD_ne h (by decide)))⟩)
    · -- 3
      obtain rfl := c2 (by have hd := ready_deps hi' (o := _) rfl; exact hd ⟨2, .data⟩ (by simp) (by rfl))
      have CC := HTX.out W
      refine wpOp_step rfl (fun K9 hK9 => ?_)
      have HK : Hid (∀ a w, K' a w → K9 a w) := hK9
      have HK2 : Hid (type_of% hK') := hK'
      clear hK9 hK'
      go_simp
      go_at_call 27
      refine CC.mono ?_
      rintro r W9 ⟨rfl, hb⟩
      (try go_simp)
      exact HK.out _ _ (HK2.out _ _ ⟨by simp [hls], hB.trans (hb.mono hsz), oi, oh, ow, oa, ri, rh, rw, ra, ki, kh, kw, ka, lo, hi, _, _, _, _, _, _, _, _, _, _, rfl, fun h h3 => (cO (getD_ne h (by decide)) (getD_off h3 (by decide))).below hb, fun h => by obtain ⟨q1, q2, q3, q4⟩ := cR (getD_ne h (by decide)); exact ⟨q1.below hb, q2, q3, Nat.le_trans q4.1 hb.size, q4.2⟩, fun h => (c0 (getD_ne h (by decide))), fun h => (c1 (getD_ne h (by decide))), fun h => (c2 (getD_ne h (by decide))), fun _ => rfl, fun h => (c4 (getD_ne h (by decide))), fun h => ⟨getD_set_true (c5 (getD_ne h (by decide))).1, (c5 (getD_ne h (by decide))).2⟩, fun h => ⟨getD_set_true (c6 (getD_ne h (by decide))).1, (c6 (getD_ne h (by decide))).2⟩, fun h => ⟨getD_set_true (c7 (getD_ne h (by decide))).1, (c7 (getD_ne h (by decide))).2⟩, fun h => by obtain ⟨g, q1, q2, ⟨y0, y1, y2, y3, y4, y5, q3⟩, q4, q5⟩ := (c8 (getD_ne h (by decide))); exact ⟨g, q1, ⟨q2.1, Nat.lt_of_lt_of_le q2.2 hb.size⟩, ⟨y0, y1, y2, y3, y4, y5, q3.below hb⟩, fun h5 => q4 (getD_ne h5 (by decide)), fun h5 => (q5 (getD_ne h5 (by decide))).below hb⟩, fun h => ⟨getD_set_true (c9 (getD_ne h (by decide))).1, getD_set_true (c9 (getD_ne h (by decide))).2⟩, fun h => (c10 (getD_ne h (by decide)))⟩)
    · -- 4
      have D1 : Hid (l.getD 1 false = true) := (by have hd := ready_deps hi' (o := _) rfl; exact hd ⟨1, .data⟩ (by simp) (by rfl))
      obtain rfl := c1 D1.out
      obtain rfl := c3 (by have hd := ready_deps hi' (o := _) rfl; exact hd ⟨3, .data⟩ (by simp) (by rfl))
      have hoff := ready_off hi' (by omega)
      have hrO := cO D1.out hoff
      have CC := CI.out W _ _ _ _ hrO.at
      clear hrO
      unfold Ses.val at CC
      have hoff := ready_off hi' (by omega)
      refine wpOp_step rfl (fun K9 hK9 => ?_)
      have HK : Hid (∀ a w, K' a w → K9 a w) := hK9
      have HK2 : Hid (type_of% hK') := hK'
      clear hK9 hK'
      (try unfold Ses.val)
      go_simp
      go_at_call 28
      refine CC.mono ?_
      rintro r W9 ⟨ri', ki', rh', kh', rw', kw', ra', ka', rfl, hr, hb⟩
      (try go_simp)
      exact HK.out _ _ (HK2.out _ _ ⟨by simp [hls], hB.trans (hb.mono hsz), oi, oh, ow, oa, ri', rh', rw', ra', ki', kh', kw', ka', W.heap.size, W9.heap.size, _, _, _, _, _, _, _, _, _, _, rfl, fun _ h3 => absurd h3 (by rw [getD_on (by omega)]; decide), fun _ => ⟨hr, hr.ownIn, hsz, Nat.le_refl _, hb.size⟩, fun h => (c0 (getD_ne h (by decide))), fun h => (c1 (getD_ne h (by decide))), fun h => (c2 (getD_ne h (by decide))), fun h => (c3 (getD_ne h (by decide))), fun _ => rfl, fun h => absurd (c5 (getD_ne h (by decide))).1 (by rw [hoff]; decide), fun h => absurd (c6 (getD_ne h (by decide))).1 (by rw [hoff]; decide), fun h => absurd (c7 (getD_ne h (by decide))).1 (by rw [hoff]; decide), fun h => by obtain ⟨g, q1, q2, ⟨y0, y1, y2, y3, y4, y5, q3⟩, q4, q5⟩ := (c8 (getD_ne h (by decide))); exact ⟨g, q1, ⟨q2.1, Nat.lt_of_lt_of_le q2.2 hb.size⟩, ⟨y0, y1, y2, y3, y4, y5, q3.below hb⟩, fun _ => .inl q2.2, fun h5 => absurd (c6 (c9 (getD_ne h5 (by decide))).1).1 (by rw [hoff]; decide)⟩, fun h => absurd (c6 (c9 (getD_ne h (by decide))).1).1 (by rw [hoff]; decide), fun h => (c10 (getD_ne h (by decide)))⟩)
    · -- 5
      have D4 : Hid (l.getD 4 false = true) := (by have hd := ready_deps hi' (o := _) rfl; exact hd ⟨4, .data⟩ (by simp) (by rfl))
      obtain rfl := c4 D4.out
      refine wpOp_step rfl (fun K9 hK9 => ?_)
      have HK : Hid (∀ a w, K' a w → K9 a w) := hK9
      have HK2 : Hid (type_of% hK') := hK'
      clear hK9 hK'
      go_simp
      exact HK.out _ _ (HK2.out _ _ ⟨by simp [hls], hB, oi, oh, ow, oa, ri, rh, rw, ra, ki, kh, kw, ka, lo, hi, _, _, _, _, _, _, _, _, _, _, rfl, fun h h3 => cO (getD_ne h (by decide)) (getD_off h3 (by decide)), fun h => cR (getD_ne h (by decide)), fun h => (c0 (getD_ne h (by decide))), fun h => (c1 (getD_ne h (by decide))), fun h => (c2 (getD_ne h (by decide))), fun h => (c3 (getD_ne h (by decide))), fun h => (c4 (getD_ne h (by decide))), fun _ => ⟨getD_set_true D4.out, rfl⟩, fun h => ⟨getD_set_true (c6 (getD_ne h (by decide))).1, (c6 (getD_ne h (by decide))).2⟩, fun h => ⟨getD_set_true (c7 (getD_ne h (by decide))).1, (c7 (getD_ne h (by decide))).2⟩, fun h => by obtain ⟨g, q1, q2, q3, q4, q5⟩ := (c8 (getD_ne h (by decide))); exact ⟨g, q1, q2, q3, fun h5 => q4 (getD_ne h5 (by decide)), fun h5 => q5 (getD_ne h5 (by decide))⟩, fun h => ⟨getD_set_true (c9 (getD_ne h (by decide))).1, getD_set_true (c9 (getD_ne h (by decide))).2⟩, fun h => (c10 (getD_ne h (by decide)))⟩)
    · -- 6
      have D5 : Hid (l.getD 5 false = true) := (by have hd := ready_deps hi' (o := _) rfl; exact hd ⟨5, .data⟩ (by simp) (by rfl))
      have f5 := c5 D5.out
      obtain rfl := f5.2
      have D4 : Hid (l.getD 4 false = true) := f5.1
      clear f5
      refine wpOp_step rfl (fun K9 hK9 => ?_)
      have HK : Hid (∀ a w, K' a w → K9 a w) := hK9
      have HK2 : Hid (type_of% hK') := hK'
      clear hK9 hK'
      go_simp
      exact HK.out _ _ (HK2.out _ _ ⟨by simp [hls], hB, oi, oh, ow, oa, ri, rh, rw, ra, ki, kh, kw, ka, lo, hi, _, _, _, _, _, _, _, _, _, _, rfl, fun h h3 => cO (getD_ne h (by decide)) (getD_off h3 (by decide)), fun h => cR (getD_ne h (by decide)), fun h => (c0 (getD_ne h (by decide))), fun h => (c1 (getD_ne h (by decide))), fun h => (c2 (getD_ne h (by decide))), fun h => (c3 (getD_ne h (by decide))), fun h => (c4 (getD_ne h (by decide))), fun h => ⟨getD_set_true (c5 (getD_ne h (by decide))).1, (c5 (getD_ne h (by decide))).2⟩, fun _ => ⟨getD_set_true D4.out, rfl⟩, fun h => ⟨getD_set_true (c7 (getD_ne h (by decide))).1, (c7 (getD_ne h (by decide))).2⟩, fun h => by obtain ⟨g, q1, q2, q3, q4, q5⟩ := (c8 (getD_ne h (by decide))); exact ⟨g, q1, q2, q3, fun h5 => q4 (getD_ne h5 (by decide)), fun h5 => q5 (getD_ne h5 (by decide))⟩, fun h => ⟨getD_set_true (c9 (getD_ne h (by decide))).1, getD_set_true (c9 (getD_ne h (by decide))).2⟩, fun h => (c10 (getD_ne h (by decide)))⟩)
    · -- 7
      have D5 : Hid (l.getD 5 false = true) := (by have hd := ready_deps hi' (o := _) rfl; exact hd ⟨5, .data⟩ (by simp) (by rfl))
      have f5 := c5 D5.out
      obtain rfl := f5.2
      have D4 : Hid (l.getD 4 false = true) := f5.1
      clear f5
      refine wpOp_step rfl (fun K9 hK9 => ?_)
      have HK : Hid (∀ a w, K' a w → K9 a w) := hK9
      have HK2 : Hid (type_of% hK') := hK'
      clear hK9 hK'
      go_simp
      exact HK.out _ _ (HK2.out _ _ ⟨by simp [hls], hB, oi, oh, ow, oa, ri, rh, rw, ra, ki, kh, kw, ka, lo, hi, _, _, _, _, _, _, _, _, _, _, rfl, fun h h3 => cO (getD_ne h (by decide)) (getD_off h3 (by decide)), fun h => cR (getD_ne h (by decide)), fun h => (c0 (getD_ne h (by decide))), fun h => (c1 (getD_ne h (by decide))), fun h => (c2 (getD_ne h (by decide))), fun h => (c3 (getD_ne h (by decide))), fun h => (c4 (getD_ne h (by decide))), fun h => ⟨getD_set_true (c5 (getD_ne h (by decide))).1, (c5 (getD_ne h (by decide))).2⟩, fun h => ⟨getD_set_true (c6 (getD_ne h (by decide))).1, (c6 (getD_ne h (by decide))).2⟩, fun _ => ⟨getD_set_true D4.out, rfl⟩, fun h => by obtain ⟨g, q1, q2, q3, q4, q5⟩ := (c8 (getD_ne h (by decide))); exact ⟨g, q1, q2, q3, fun h5 => q4 (getD_ne h5 (by decide)), fun h5 => q5 (getD_ne h5 (by decide))⟩, fun h => ⟨getD_set_true (c9 (getD_ne h (by decide))).1, getD_set_true (c9 (getD_ne h (by decide))).2⟩, fun h => (c10 (getD_ne h (by decide)))⟩)
    · -- 8
      have hoff := ready_off hi' (by omega)
      refine wpOp_step rfl (fun K9 hK9 => ?_)
      have HK : Hid (∀ a w, K' a w → K9 a w) := hK9
      have HK2 : Hid (type_of% hK') := hK'
      clear hK9 hK'
      have hb : Below W.heap.size W (W.alloc (.cells #[.int .i64 0, .slice none 0 0, .int .i64 0, .slice none 0 0, .slice none 0 0, .slice none 0 0] 26)) := (Below.refl _ W).alloc (Nat.le_refl _) _
      go_simp
      exact HK.out _ _ (HK2.out _ _ ⟨by simp [hls], hB.alloc hsz _, oi, oh, ow, oa, ri, rh, rw, ra, ki, kh, kw, ka, lo, hi, _, _, _, _, _, _, _, _, _, _, rfl, fun h h3 => (cO (getD_ne h (by decide)) (getD_off h3 (by decide))).below hb, fun h => by obtain ⟨q1, q2, q3, q4⟩ := cR (getD_ne h (by decide)); exact ⟨q1.below hb, q2, q3, Nat.le_trans q4.1 hb.size, q4.2⟩, fun h => (c0 (getD_ne h (by decide))), fun h => (c1 (getD_ne h (by decide))), fun h => (c2 (getD_ne h (by decide))), fun h => (c3 (getD_ne h (by decide))), fun h => (c4 (getD_ne h (by decide))), fun h => ⟨getD_set_true (c5 (getD_ne h (by decide))).1, (c5 (getD_ne h (by decide))).2⟩, fun h => ⟨getD_set_true (c6 (getD_ne h (by decide))).1, (c6 (getD_ne h (by decide))).2⟩, fun h => ⟨getD_set_true (c7 (getD_ne h (by decide))).1, (c7 (getD_ne h (by decide))).2⟩, fun _ => ⟨W.heap.size, rfl, ⟨hsz, by simp⟩, ⟨_, _, _, _, _, _, Sv.fresh W _ _ _ _ _ _ _⟩, fun h5 => .inr (cR (getD_ne h5 (by decide))).2.2.2.1, fun h5 => absurd (c9 (getD_ne h5 (by decide))).2 (by rw [hoff]; decide)⟩, fun h => absurd (c9 (getD_ne h (by decide))).2 (by rw [hoff]; decide), fun h => (c10 (getD_ne h (by decide)))⟩)
    · -- 9
      have DA : Hid (l.getD 8 false = true) := (by have hd := ready_deps hi' (o := _) rfl; exact hd ⟨8, .data⟩ (by simp) (by rfl))
      have DE : Hid (l.getD 6 false = true) := (by have hd := ready_deps hi' (o := _) rfl; exact hd ⟨6, .data⟩ (by simp) (by rfl))
      obtain ⟨g, q1, q2, ⟨y0, y1, y2, y3, y4, y5, q3⟩, q4, q5⟩ := c8 DA.out
      subst q1
      have fe := c6 DE.out
      have DM : Hid (l.getD 4 false = true) := fe.1
      obtain rfl := fe.2
      have hRm := cR DM.out
      have hnR : ¬ P4 (.slice ri F.items.length ki) (.slice rh F.handed.length kh) (.slice rw F.way.length kw) (.slice ra F.acks.length ka) g := fun q => by have h1 := hRm.2.1 g q; have h2 := q4 DM.out; omega
      have t0 := q3.c0
      have z0 := q3.f0
      have t1 := q3.c1
      have z1 := q3.f1
      have t2 := q3.c2
      have z2 := q3.f2
      have t3 := q3.c3
      have z3 := q3.f3
      have t4 := q3.c4
      have z4 := q3.f4
      have t5 := q3.c5
      have z5 := q3.f5
      have HRM : Hid (type_of% hRm) := hRm
      have HNR : Hid (type_of% hnR) := hnR
      clear fe hRm hnR
      refine wpOp_step rfl (fun K9 hK9 => ?_)
      have HK : Hid (∀ a w, K' a w → K9 a w) := hK9
      have HK2 : Hid (type_of% hK') := hK'
      clear hK9 hK'
      go_simp
      exact HK.out _ _ (HK2.out _ _ ⟨by simp [hls], Below.sets6 hB q2.1, oi, oh, ow, oa, ri, rh, rw, ra, ki, kh, kw, ka, lo, hi, _, _, _, _, _, _, _, _, _, _, rfl, fun _ h3 => absurd DM.out (by rw [getD_off h3 (by decide)]; decide), fun _ => ⟨HRM.out.1.set6 HNR.out, HRM.out.2.1, HRM.out.2.2.1, by simpa using HRM.out.2.2.2.1, HRM.out.2.2.2.2⟩, fun h => (c0 (getD_ne h (by decide))), fun h => (c1 (getD_ne h (by decide))), fun h => (c2 (getD_ne h (by decide))), fun h => (c3 (getD_ne h (by decide))), fun h => (c4 (getD_ne h (by decide))), fun h => ⟨getD_set_true (c5 (getD_ne h (by decide))).1, (c5 (getD_ne h (by decide))).2⟩, fun h => ⟨getD_set_true (c6 (getD_ne h (by decide))).1, (c6 (getD_ne h (by decide))).2⟩, fun h => ⟨getD_set_true (c7 (getD_ne h (by decide))).1, (c7 (getD_ne h (by decide))).2⟩, fun _ => ⟨g, rfl, ⟨q2.1, by simpa using q2.2⟩, ⟨_, _, _, _, _, _, q3.set6⟩, fun _ => q4 DM.out, fun _ => q3.set6⟩, fun _ => ⟨getD_set_true DE.out, getD_set_true DA.out⟩, fun h => (c10 (getD_ne h (by decide)))⟩)
    · -- 10
      have f7 := c7 (by have hd := ready_deps hi' (o := _) rfl; exact hd ⟨7, .data⟩ (by simp) (by rfl))
      obtain rfl := f7.2
      clear f7
      refine wpOp_step rfl (fun K9 hK9 => ?_)
      have HK : Hid (∀ a w, K' a w → K9 a w) := hK9
      have HK2 : Hid (type_of% hK') := hK'
      clear hK9 hK'
      go_simp
      exact HK.out _ _ (HK2.out _ _ ⟨by simp [hls], hB, oi, oh, ow, oa, ri, rh, rw, ra, ki, kh, kw, ka, lo, hi, _, _, _, _, _, _, _, _, _, _, rfl, fun h h3 => cO (getD_ne h (by decide)) (getD_off h3 (by decide)), fun h => cR (getD_ne h (by decide)), fun h => (c0 (getD_ne h (by decide))), fun h => (c1 (getD_ne h (by decide))), fun h => (c2 (getD_ne h (by decide))), fun h => (c3 (getD_ne h (by decide))), fun h => (c4 (getD_ne h (by decide))), fun h => ⟨getD_set_true (c5 (getD_ne h (by decide))).1, (c5 (getD_ne h (by decide))).2⟩, fun h => ⟨getD_set_true (c6 (getD_ne h (by decide))).1, (c6 (getD_ne h (by decide))).2⟩, fun h => ⟨getD_set_true (c7 (getD_ne h (by decide))).1, (c7 (getD_ne h (by decide))).2⟩, fun h => by obtain ⟨g, q1, q2, q3, q4, q5⟩ := (c8 (getD_ne h (by decide))); exact ⟨g, q1, q2, q3, fun h5 => q4 (getD_ne h5 (by decide)), fun h5 => q5 (getD_ne h5 (by decide))⟩, fun h => ⟨getD_set_true (c9 (getD_ne h (by decide))).1, getD_set_true (c9 (getD_ne h (by decide))).2⟩, fun _ => rfl⟩)
  intro l a w27 hI h0
  obtain ⟨hls, hb27, oi27, oh27, ow27, oa27, ri27, rh27, rw27, ra27, ki27, kh27, kw27, ka27, lo27, hi27, u85, u86, u87, u88, u89, u84, u90, u91, u14, u15, rfl, cO, cR, c0, c1, c2, c3, c4, c5, c6, c7, c8, c9, c10⟩ := hI
  have b0 : l.getD 0 false = true := listed_ofB3 h0 0 _ (by omega) rfl (by intro e he hbd; first | (simp at he; done) | skip; simp at he; (repeat (rcases he with rfl | he; · first | assumption | exact absurd hbd (by decide))); all_goals (subst he; first | assumption | exact absurd hbd (by decide)))
  have b1 : l.getD 1 false = true := listed_ofB3 h0 1 _ (by omega) rfl (by intro e he hbd; first | (simp at he; done) | skip; simp at he; (repeat (rcases he with rfl | he; · first | assumption | exact absurd hbd (by decide))); all_goals (subst he; first | assumption | exact absurd hbd (by decide)))
  have b2 : l.getD 2 false = true := listed_ofB3 h0 2 _ (by omega) rfl (by intro e he hbd; first | (simp at he; done) | skip; simp at he; (repeat (rcases he with rfl | he; · first | assumption | exact absurd hbd (by decide))); all_goals (subst he; first | assumption | exact absurd hbd (by decide)))
  have b3 : l.getD 3 false = true := listed_ofB3 h0 3 _ (by omega) rfl (by intro e he hbd; first | (simp at he; done) | skip; simp at he; (repeat (rcases he with rfl | he; · first | assumption | exact absurd hbd (by decide))); all_goals (subst he; first | assumption | exact absurd hbd (by decide)))
  have b4 : l.getD 4 false = true := listed_ofB3 h0 4 _ (by omega) rfl (by intro e he hbd; first | (simp at he; done) | skip; simp at he; (repeat (rcases he with rfl | he; · first | assumption | exact absurd hbd (by decide))); all_goals (subst he; first | assumption | exact absurd hbd (by decide)))
  have b5 : l.getD 5 false = true := listed_ofB3 h0 5 _ (by omega) rfl (by intro e he hbd; first | (simp at he; done) | skip; simp at he; (repeat (rcases he with rfl | he; · first | assumption | exact absurd hbd (by decide))); all_goals (subst he; first | assumption | exact absurd hbd (by decide)))
  have b6 : l.getD 6 false = true := listed_ofB3 h0 6 _ (by omega) rfl (by intro e he hbd; first | (simp at he; done) | skip; simp at he; (repeat (rcases he with rfl | he; · first | assumption | exact absurd hbd (by decide))); all_goals (subst he; first | assumption | exact absurd hbd (by decide)))
  have b7 : l.getD 7 false = true := listed_ofB3 h0 7 _ (by omega) rfl (by intro e he hbd; first | (simp at he; done) | skip; simp at he; (repeat (rcases he with rfl | he; · first | assumption | exact absurd hbd (by decide))); all_goals (subst he; first | assumption | exact absurd hbd (by decide)))
  have b8 : l.getD 8 false = true := listed_ofB3 h0 8 _ (by omega) rfl (by intro e he hbd; first | (simp at he; done) | skip; simp at he; (repeat (rcases he with rfl | he; · first | assumption | exact absurd hbd (by decide))); all_goals (subst he; first | assumption | exact absurd hbd (by decide)))
  have b9 : l.getD 9 false = true := listed_ofB3 h0 9 _ (by omega) rfl (by intro e he hbd; first | (simp at he; done) | skip; simp at he; (repeat (rcases he with rfl | he; · first | assumption | exact absurd hbd (by decide))); all_goals (subst he; first | assumption | exact absurd hbd (by decide)))
  have b10 : l.getD 10 false = true := listed_ofB3 h0 10 _ (by omega) rfl (by intro e he hbd; first | (simp at he; done) | skip; simp at he; (repeat (rcases he with rfl | he; · first | assumption | exact absurd hbd (by decide))); all_goals (subst he; first | assumption | exact absurd hbd (by decide)))
  obtain ⟨g27, q1, hg27, _, q4, q5⟩ := c8 b8
  subst q1
  have hga27 := q4 b4
  have hv27 := q5 b9
  obtain ⟨hr27, ho27, hlo27, hhi27, hlh27⟩ := cR b4
  obtain rfl := c0 b0
  obtain rfl := c1 b1
  obtain rfl := c2 b2
  obtain rfl := c3 b3
  obtain rfl := c4 b4
  obtain rfl := (c5 b5).2
  obtain rfl := (c6 b6).2
  obtain rfl := (c7 b7).2
  obtain rfl := c10 b10
  clear cO cR c0 c1 c2 c3 c4 c5 c6 c7 c8 c9 c10 b0 b1 b2 b3 b4 b5 b6 b7 b8 b9 b10 q4 q5 h0 hls HIC
  (try dsimp only)
  have hsw27 := hb27.size
  have HBw27 : Hid (Below w.heap.size w w27) := HBw17.out.trans (hb27.mono HBw17.out.size)
  have HV0 : Hid (Sv w27 (w.heap.size) (.int .i64 s.ep) (.slice ai0 s.items.length ci0) (.int .i64 s.base) (.slice ah0 s.handed.length ch0) (.slice aw0 s.way.length cw0) (.slice aa0 s.acks.length ca0)) := HV0.out.below hb27
  have HV1 : Hid (Sv w27 (g8) (.int .i64 F.ep) (.slice ri8 F.items.length ki8) (.int .i64 F.base) (.slice rh8 F.handed.length kh8) (.slice rw8 F.way.length kw8) (.slice ra8 F.acks.length ka8)) := HV1.out.below hb27
  have HV2 : Hid (Sv w27 (g10) (.int .i64 F.ep) (.slice ri10 F.items.length ki10) (.int .i64 F.base) (.slice rh10 F.handed.length kh10) (.slice rw10 F.way.length kw10) (.slice ra10 F.acks.length ka10)) := HV2.out.below hb27
  have HCP : Hid (Cv3 w27 (w.heap.size + 1) (.int .i64 x.kind) (.int .i64 x.kk) (.string x.tx)) := HCP.out.below hb27
  have HRU : Hid (SesRow w27 (lo8) F (.slice ri8 F.items.length ki8) (.slice rh8 F.handed.length kh8) (.slice rw8 F.way.length kw8) (.slice ra8 F.acks.length ka8)) := HRU.out.below hb27
  have HMG : Hid (SesMk w27 w27.heap.size 1 F.items.length F.handed.length F.way.length F.acks.length (.slice ri10 F.items.length ki10) (.slice rh10 F.handed.length kh10) (.slice rw10 F.way.length kw10) (.slice ra10 F.acks.length ka10)) := HMG.out.below hb27
  clear HBw17
  clear hb27
  have HRZ : Hid (SesRow w27 (lo27) F (.slice ri27 F.items.length ki27) (.slice rh27 F.handed.length kh27) (.slice rw27 F.way.length kw27) (.slice ra27 F.acks.length ka27)) := hr27
  have HLZ : Hid (OwnIn lo27 hi27 (.slice ri27 F.items.length ki27) (.slice rh27 F.handed.length kh27) (.slice rw27 F.way.length kw27) (.slice ra27 F.acks.length ka27)) := ho27
  clear hr27 ho27
  have HV14 : Hid (Sv w27 (g27) (.int .i64 F.ep) (.slice ri27 F.items.length ki27) (.int .i64 F.base) (.slice rh27 F.handed.length kh27) (.slice rw27 F.way.length kw27) (.slice ra27 F.acks.length ka27)) := hv27
  clear hv27
  obtain ⟨hgl27, hgh27⟩ := hg27
  have y140 := HV14.out.c0
  have y141 := HV14.out.c1
  have y142 := HV14.out.c2
  have y143 := HV14.out.c3
  have y144 := HV14.out.c4
  have y145 := HV14.out.c5
  have y10 := HV1.out.c0
  have y11 := HV1.out.c1
  have y12 := HV1.out.c2
  have y13 := HV1.out.c3
  have y14 := HV1.out.c4
  have y15 := HV1.out.c5
  go_wp2_with fail
  go_at_call 13
  refine (EF.out _ _ _ _ _ _ _ _ _ HRZ.out.at HRU.out.at).mono ?_
  rintro e w28 ⟨rfl, hbw28⟩
  clear y140 y141 y142 y143 y144 y145 y10 y11 y12 y13 y14 y15
  have hsw28 := hbw28.size
  have HBw28 : Hid (Below w.heap.size w w28) := HBw27.out.trans (hbw28.mono HBw27.out.size)
  have HV0 : Hid (Sv w28 (w.heap.size) (.int .i64 s.ep) (.slice ai0 s.items.length ci0) (.int .i64 s.base) (.slice ah0 s.handed.length ch0) (.slice aw0 s.way.length cw0) (.slice aa0 s.acks.length ca0)) := HV0.out.below hbw28
  have HV1 : Hid (Sv w28 (g8) (.int .i64 F.ep) (.slice ri8 F.items.length ki8) (.int .i64 F.base) (.slice rh8 F.handed.length kh8) (.slice rw8 F.way.length kw8) (.slice ra8 F.acks.length ka8)) := HV1.out.below hbw28
  have HV2 : Hid (Sv w28 (g10) (.int .i64 F.ep) (.slice ri10 F.items.length ki10) (.int .i64 F.base) (.slice rh10 F.handed.length kh10) (.slice rw10 F.way.length kw10) (.slice ra10 F.acks.length ka10)) := HV2.out.below hbw28
  have HV14 : Hid (Sv w28 (g27) (.int .i64 F.ep) (.slice ri27 F.items.length ki27) (.int .i64 F.base) (.slice rh27 F.handed.length kh27) (.slice rw27 F.way.length kw27) (.slice ra27 F.acks.length ka27)) := HV14.out.below hbw28
  have HCP : Hid (Cv3 w28 (w.heap.size + 1) (.int .i64 x.kind) (.int .i64 x.kk) (.string x.tx)) := HCP.out.below hbw28
  have HRU : Hid (SesRow w28 (lo8) F (.slice ri8 F.items.length ki8) (.slice rh8 F.handed.length kh8) (.slice rw8 F.way.length kw8) (.slice ra8 F.acks.length ka8)) := HRU.out.below hbw28
  have HRZ : Hid (SesRow w28 (lo27) F (.slice ri27 F.items.length ki27) (.slice rh27 F.handed.length kh27) (.slice rw27 F.way.length kw27) (.slice ra27 F.acks.length ka27)) := HRZ.out.below hbw28
  have HMG : Hid (SesMk w28 w28.heap.size 1 F.items.length F.handed.length F.way.length F.acks.length (.slice ri10 F.items.length ki10) (.slice rh10 F.handed.length kh10) (.slice rw10 F.way.length kw10) (.slice ra10 F.acks.length ka10)) := HMG.out.below hbw28
  clear HBw27
  clear hbw28
  have y20 := HV2.out.c0
  have y21 := HV2.out.c1
  have y22 := HV2.out.c2
  have y23 := HV2.out.c3
  have y24 := HV2.out.c4
  have y25 := HV2.out.c5
  go_wp2_with fail
  go_at_call 15
  refine (HG.out _ _ _ _ _ HMG.out).mono ?_
  rintro e w29 ⟨rfl, hbw29⟩
  clear y20 y21 y22 y23 y24 y25
  have hsw29 := hbw29.size
  have HBw29 : Hid (Below w.heap.size w w29) := HBw28.out.trans (hbw29.mono HBw28.out.size)
  have HV0 : Hid (Sv w29 (w.heap.size) (.int .i64 s.ep) (.slice ai0 s.items.length ci0) (.int .i64 s.base) (.slice ah0 s.handed.length ch0) (.slice aw0 s.way.length cw0) (.slice aa0 s.acks.length ca0)) := HV0.out.below hbw29
  have HV1 : Hid (Sv w29 (g8) (.int .i64 F.ep) (.slice ri8 F.items.length ki8) (.int .i64 F.base) (.slice rh8 F.handed.length kh8) (.slice rw8 F.way.length kw8) (.slice ra8 F.acks.length ka8)) := HV1.out.below hbw29
  have HV2 : Hid (Sv w29 (g10) (.int .i64 F.ep) (.slice ri10 F.items.length ki10) (.int .i64 F.base) (.slice rh10 F.handed.length kh10) (.slice rw10 F.way.length kw10) (.slice ra10 F.acks.length ka10)) := HV2.out.below hbw29
  have HV14 : Hid (Sv w29 (g27) (.int .i64 F.ep) (.slice ri27 F.items.length ki27) (.int .i64 F.base) (.slice rh27 F.handed.length kh27) (.slice rw27 F.way.length kw27) (.slice ra27 F.acks.length ka27)) := HV14.out.below hbw29
  have HCP : Hid (Cv3 w29 (w.heap.size + 1) (.int .i64 x.kind) (.int .i64 x.kk) (.string x.tx)) := HCP.out.below hbw29
  have HRU : Hid (SesRow w29 (lo8) F (.slice ri8 F.items.length ki8) (.slice rh8 F.handed.length kh8) (.slice rw8 F.way.length kw8) (.slice ra8 F.acks.length ka8)) := HRU.out.below hbw29
  have HRZ : Hid (SesRow w29 (lo27) F (.slice ri27 F.items.length ki27) (.slice rh27 F.handed.length kh27) (.slice rw27 F.way.length kw27) (.slice ra27 F.acks.length ka27)) := HRZ.out.below hbw29
  have HMG : Hid (SesMk w29 w29.heap.size 1 F.items.length F.handed.length F.way.length F.acks.length (.slice ri10 F.items.length ki10) (.slice rh10 F.handed.length kh10) (.slice rw10 F.way.length kw10) (.slice ra10 F.acks.length ka10)) := HMG.out.below hbw29
  clear HBw28
  clear hbw29
  go_wp2_with fail
  go_ret
  exact ⟨rfl, HBw29.out⟩

namespace fnExactStepSession
open Go.ChangeShapes Go.WideShapes Go.ChangeAt

theorem own : ownKnob Try.prog.godebug = none := by kernel_rfl
theorem laidOut : laidOutB Try.prog = true := by kernel_rfl

set_option maxRecDepth 100000 in
theorem lifted (os : Os) (started : os.Started) (H : Type) (enc : TypeId × Value → H) :
    ReturnsInHanded {} Try.checked os 6 .any (Rows.fnExactStepSessionSpec.pre6 enc Try.prog Try.f6 Rows.fnExactStepSessionRow.domain false) (Rows.fnExactStepSessionSpec.post enc Try.prog Try.f6 false true false false) := by
  refine returnsInHanded_of_change (C := Try.checked) own started (by kernel_rfl) Try.func6
    (ChangeSpec.witness6 (enc := enc) (C := Try.checked) false ⟨#[], #[.agg #[.int .i64 0, .slice none 0 0, .int .i64 0, .slice none 0 0, .slice none 0 0, .slice none 0 0], .agg #[.int .i64 0, .int .i64 0, .string ByteArray.empty]], []⟩ 8 (by kernel_rfl) (by kernel_rfl) (by kernel_rfl) (by kernel_rfl)) ?_
  intro W base args ds gs before hval0 hW hcnd _
  have hval : ∀ (j : Nat) t v, Try.f6.params[j]? = some t → args[j]? = some v → Value.okWide Try.prog W .any base t v := hval0
  have hW' := hW
  obtain ⟨p, q, hA0, hV, rfl, hfz, hnd⟩ := hW
  have hA : DataW.TrodAll enc Try.prog W 0 (fun _ => true) true Try.f6.params.toList args.toList ds p := hA0
  rw [Try.params6] at hA hval
  obtain ⟨v0, vs0, d0, ds0, p0, q0, hargs, rfl, rfl, h0, r0⟩ := trodAll_cons hA
  obtain ⟨v1, vs1, d1, ds1, p1, q1, rfl, rfl, rfl, h1, r1⟩ := trodAll_cons r0
  obtain ⟨rfl, rfl, rfl⟩ := trodAll_nil r1
  obtain rfl : args = #[v0, v1] := by cases args; simp_all
  obtain ⟨rfl, rfl⟩ := trodVars_none hV
  have h0k := h0
  obtain ⟨R0, vi0, vh0, vw0, va0, rfl, hT0, hN0⟩ := open_session (hval 0 35 v0 rfl rfl) h0
  have h1k := h1
  obtain ⟨R1, rfl, hN1⟩ := open_step (hval 1 45 v1 rfl rfl) h1
  clear hA0 hval0
  have hlt0 : ∀ x ∈ p0, x.block < W.heap.size := fun x hx => by
    have := hW'.lt x (by simp_all)
    simpa using this
  have hlt1 : ∀ x ∈ p1, x.block < W.heap.size := fun x hx => by
    have := hW'.lt x (by simp_all)
    simpa using this
  refine (walkFnExactStepSession R0 vi0 vh0 vw0 va0 R1 W hT0 hN0 hN1).mono fun e W' ⟨he, hg⟩ => ?_
  subst he
  exact ⟨_, rfl, _, _, _, [], _, [], hW', trodAll_mk1 (shut_bool Try.underlying4 _), (trodAll_cons_mk (Below.trod laidOut (by kernel_rfl) (of_decide_eq_true (by kernel_rfl)) h0k hg (fun x hx => hlt0 x hx)) (trodAll_cons_mk (Below.trod laidOut (by kernel_rfl) (of_decide_eq_true (by kernel_rfl)) h1k hg (fun x hx => hlt1 x hx)) trodAll_mk0)), rfl, hg.frame _, fun h => by cases h⟩

theorem over : Rows.fnExactStepSessionRow.holds Try.pinned (OpenSpec.ofChange Rows.fnExactStepSessionSpec) :=
  OpenClaim.holds_of_wide 6 Try.f6 rfl rfl rfl rfl rfl rfl rfl ⟨rfl, rfl, rfl, rfl, rfl⟩ rfl rfl rfl rfl rfl (by kernel_rfl) Try.func6 (by kernel_rfl)
    (of_decide_eq_true (by kernel_rfl)) (by unfold Func.isWrapper; first | (rw [if_pos (by decide +kernel)]; kernel_rfl) | (rw [if_neg (by decide +kernel)]; exact ⟨rfl, rfl⟩))
    (fun os started H enc _ => lifted os started H enc)

end fnExactStepSession

theorem fnExactStepSession_holds : Rows.FnExactStepSessionSaid := fnExactStepSession.over
#print axioms fnExactStepSession_holds
end Go.Proofs.Ytnlppeieccbhgaa
