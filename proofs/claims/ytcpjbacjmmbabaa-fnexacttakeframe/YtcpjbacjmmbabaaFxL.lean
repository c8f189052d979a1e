/- UnframeAll and NewReader: the model's and the program's. -/
import Derived.Test.YtcpjbacjmmbabaaFxJ
namespace Go.Proofs.Ytcpjbacjmmbabaa
open Go.RowKit Plain Tpc Frm
attribute [local go_sem ↓] Go.wp_at_zero Go.wp_at_succ

theorem results_tmp4F {fn : Func} {t u v x : Tmp} (h : fn.results = #[.tmp t, .tmp u, .tmp v, .tmp x]) (tmps : Array Value) (P : Program) (w : World) :
    (results fn tmps).run P w = .ok (.tuple #[tmps.getD t undef, tmps.getD u undef, tmps.getD v undef, tmps.getD x undef]) w := by
  simp [results, h]

theorem results_cellF {fn : Func} {p : Tmp} {ty : TypeId} (h : fn.results = #[.cell p ty]) (tmps : Array Value) (P : Program) (w : World) :
    (results fn tmps).run P w = ((asAddr (tmps.getD p undef)).run P w).andThen fun a w₁ => (loadVar ty a).run P w₁ := by
  simp only [results, h]
  simp [Sem.run_bind, Result.andThen]

theorem results_cell2F {fn : Func} {p u v : Tmp} {ty : TypeId} (h : fn.results = #[.cell p ty, .tmp u, .tmp v]) (tmps : Array Value) (P : Program) (w : World) :
    (results fn tmps).run P w =
      ((asAddr (tmps.getD p undef)).run P w).andThen fun a w₁ => ((loadVar ty a).run P w₁).andThen fun x w₂ => .ok (.tuple #[x, tmps.getD u undef, tmps.getD v undef]) w₂ := by
  simp only [results, h]
  simp [Sem.run_bind, Result.andThen]

/-- what UnframeAll tells -/
def uaT (s : ByteArray) : List ByteArray := if s.size ≤ 300 then unT (ul s) else []
def uaR (s : ByteArray) : ByteArray := if s.size ≤ 300 then tx (unR (ul s)) else ⟨#[]⟩
def uaB (s : ByteArray) : Bool := decide (s.size ≤ 300) && unB (ul s)

def UaO (w w' : World) (e : Ending) (s : ByteArray) : Prop := (∃ v, e = .returned (.tuple #[v, .string (uaR s), .bool (uaB s), .bool (decide (s.size ≤ 300))]) ∧ StRow w' w.heap.size v (uaT s)) ∧ Below w.heap.size w w'

theorem UaO.no {w : World} {s : ByteArray} (h : ¬ s.size ≤ 300) : UaO w w (.returned (.tuple #[.slice none 0 0, .string ⟨#[]⟩, .bool false, .bool false])) s := by
  unfold UaO uaT uaR uaB
  rw [if_neg h, if_neg h, decide_eq_false h]
  exact ⟨⟨_, rfl, rfl, .inl ⟨rfl, rfl⟩⟩, Below.refl _ _⟩

theorem UaO.yes {w w' : World} {s : ByteArray} {v : Value} (h : s.size ≤ 300) (hr : StRow w' w.heap.size v (unT (ul s))) (hb : Below w.heap.size w w') : UaO w w' (.returned (.tuple #[v, .string (tx (unR (ul s))), .bool (unB (ul s)), .bool true])) s := by
  unfold UaO uaT uaR uaB
  rw [if_pos h, if_pos h, decide_eq_true h]
  exact ⟨⟨_, rfl, hr⟩, hb⟩

set_option maxRecDepth 100000 in
set_option maxHeartbeats 4000000 in
theorem specUnframe (s : ByteArray) (w : World) (hs : s.size ≤ maxLen) : Calls Try.prog 17 #[.string s] w fun e w' => UaO w w' e s := by
  unfold maxLen at hs
  by_cases h : s.size ≤ 300
  · have C := l14Unframe_any s w (by omega)
    have HY : Hid (∀ w' v, StRow w' w.heap.size v (unT (ul s)) → Below w.heap.size w w' → UaO w w' (.returned (.tuple #[v, .string (tx (unR (ul s))), .bool (unB (ul s)), .bool true])) s) := fun w' v hr hb => UaO.yes h hr hb
    have h' : ¬ ((300 : Int) < (s.size : Int)) := by omega
    generalize tx (unR (ul s)) = R at C HY
    generalize unB (ul s) = b at C HY
    generalize unT (ul s) = T at C HY
    go_enter Try.func17, Try.ntmps17
    go_wp2_with fail
    go_at_call 49
    refine C.mono ?_
    rintro e w' ⟨⟨v, rfl, hr⟩, hb⟩
    obtain ⟨a, c, rfl⟩ := hr.slice
    go_wp2_with fail
    (try simp only [Exit.inBlock, Exit.then])
    refine bodyPost_ret (results_tmp4F rfl _ _ _) rfl ?_
    exact HY.out _ _ hr hb
  · have HY : Hid (UaO w w (.returned (.tuple #[.slice none 0 0, .string ⟨#[]⟩, .bool false, .bool false])) s) := UaO.no h
    have h' : ((300 : Int) < (s.size : Int)) := by omega
    go_enter Try.func17, Try.ntmps17
    go_wp2_with fail
    (try simp only [Exit.inBlock, Exit.then])
    refine bodyPost_ret (results_tmp4F rfl _ _ _) rfl ?_
    exact HY.out

/-- a reading that begins -/
theorem Um.fresh (w : World) (t : TypeId) : Um (w.alloc (.cells #[.slice none 0 0, .slice none 0 0, .bool false] t)) w.heap.size w.heap.size (.slice none 0 0) (.slice none 0 0) [] [] false :=
  ⟨by simp, by simp, by simp, by simp, by simp, by simp, by simp, ⟨rfl, .inl ⟨rfl, rfl⟩⟩, GRow.nil _ _, fun g hg => by simp [Value.ownBlock] at hg, fun g hg => by simp [Value.ownBlock] at hg, fun g hg => by simp [Value.ownBlock] at hg⟩

set_option maxRecDepth 100000 in
set_option maxHeartbeats 4000000 in
theorem implUnframe (s : ByteArray) (w : World) (hs : s.size ≤ maxLen) : Calls Try.prog 18 #[.string s] w fun e w' => UaO w w' e s := by
  unfold maxLen at hs
  by_cases h : s.size ≤ 300
  · have hU0 := Um.fresh w 62
    have CT : Hid (type_of% (takeAll_any _ _ _ _ _ [] [] false s hU0 (by simp) (by omega) (by simp; omega) (by simp; omega))) := takeAll_any _ _ _ _ _ [] [] false s hU0 (by simp) (by omega) (by simp; omega) (by simp; omega)
    have hall := tksT_all [] (ul s) rfl
    rw [List.nil_append] at hall
    rw [hall] at CT
    have HY : Hid (∀ w' v, StRow w' w.heap.size v (unT (ul s)) → Below w.heap.size w w' → UaO w w' (.returned (.tuple #[v, .string (tx (unR (ul s))), .bool (unB (ul s)), .bool true])) s) := fun w' v hr hb => UaO.yes h hr hb
    have h' : ¬ ((300 : Int) < (s.size : Int)) := by omega
    clear hall hU0
    generalize unR (ul s) = R at CT HY
    generalize unB (ul s) = b at CT HY
    generalize unT (ul s) = T at CT HY
    go_enter Try.func18, Try.ntmps18
    go_wp2_with fail
    go_at_call 50
    refine CT.out.mono ?_
    rintro e w2 ⟨rfl, vt, vr, hU, hP⟩
    have hbl := hU.low
    have hB2 : Below w.heap.size w w2 := ((Below.refl _ w).alloc (Nat.le_refl _) _).trans (hP.below (by simp) (Nat.le_refl _) (fun g hg => by simp [Value.ownBlock] at hg) (fun g hg => by simp [Value.ownBlock] at hg))
    have KW : Hid (∀ W, Below w2.heap.size w2 W → W.cell? ⟨w.heap.size, 0, none⟩ = some vt ∧ W.cell? ⟨w.heap.size, 1, none⟩ = some vr ∧ W.cell? ⟨w.heap.size, 2, none⟩ = some (.bool b) ∧ (convert 51 9 vr).run Try.prog W = .ok (.string (tx R)) W) := fun W hW => by
      have h2 := hU.belowU hW
      exact ⟨h2.c0, h2.c1, h2.c2, h2.ownR.conv⟩
    have HT : Hid (StRow w2.drew w.heap.size vt T) := own_belowY hU.ownT (Below.refl _ w2).drew
    have HB2 : Hid (Below w.heap.size w w2.drew) := hB2.drew
    obtain ⟨at_, ct, rfl⟩ := hU.ownT.slice
    obtain ⟨ar, cr, rfl, _, _⟩ := hU.ownR.form
    clear hU hP CT hB2
    go_wp2_with fail
    go_region_held3 (fun W => W.cell? ⟨w.heap.size, 0, none⟩ = some (.slice at_ T.length ct) ∧ W.cell? ⟨w.heap.size, 1, none⟩ = some (.slice ar R.length cr) ∧ W.cell? ⟨w.heap.size, 2, none⟩ = some (.bool b) ∧ (convert 51 9 (.slice ar R.length cr)).run Try.prog W = .ok (.string (tx R)) W) (exact KW.out _ (Below.refl _ w2).drew) (fail)
    go_wp2_with fail
    (try simp only [Exit.inBlock, Exit.then])
    refine bodyPost_ret (results_tmp4F rfl _ _ _) rfl ?_
    exact HY.out _ _ HT.out HB2.out
  · have HY : Hid (UaO w w (.returned (.tuple #[.slice none 0 0, .string ⟨#[]⟩, .bool false, .bool false])) s) := UaO.no h
    have h' : ((300 : Int) < (s.size : Int)) := by omega
    go_enter Try.func18, Try.ntmps18
    go_wp2_with fail
    (try simp only [Exit.inBlock, Exit.then])
    refine bodyPost_ret (results_tmp4F rfl _ _ _) rfl ?_
    exact HY.out

end Go.Proofs.Ytcpjbacjmmbabaa
