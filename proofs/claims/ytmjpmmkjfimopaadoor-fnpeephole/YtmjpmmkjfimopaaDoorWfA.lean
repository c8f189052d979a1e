/- The program's looks at the kinds of wants: those that ask a field, those that ask other wants. -/
import Derived.Test.YtmjpmmkjfimopaaDoorFwM
import Derived.Test.YtmjpmmkjfimopaaDoorHb
import Derived.Test.YtmjpmmkjfimopaaDoorHd
import Derived.Test.YtmjpmmkjfimopaaDoorGb
import Derived.Deep.RegionWith
import Derived.Deep.RegionHeld3
import Derived.Laws.EntriesVeiled
namespace Go.Proofs.YtmjpmmkjfimopaaDoor
open Go.RowKit Plain Sch Wan

theorem results_cell_tmp {fn : Func} {p u : Tmp} {ty : TypeId} (h : fn.results = #[.cell p ty, .tmp u]) (tmps : Array Value) (P : Program) (w : World) :
    (results fn tmps).run P w =
      ((asAddr (tmps.getD p undef)).run P w).andThen fun a w₁ => ((loadVar ty a).run P w₁).andThen fun x w₂ => .ok (.tuple #[x, tmps.getD u undef]) w₂ := by
  simp only [results, h]
  simp [Sem.run_bind, Result.andThen]

theorem results_cell_one {fn : Func} {p : Tmp} {ty : TypeId} (h : fn.results = #[.cell p ty]) (tmps : Array Value) (P : Program) (w : World) :
    (results fn tmps).run P w = ((asAddr (tmps.getD p undef)).run P w).andThen fun a w₁ => (loadVar ty a).run P w₁ := by
  simp only [results, h]
  simp [Sem.run_bind, Result.andThen]

/-- what a joining want does with what the others tell -/
def fnJ (k : Int) : Value := if k = 6 then .func (.func 77) #[] #[] else if k = 7 then .func (.func 78) #[] #[] else if k = 8 then .func (.func 79) #[] #[] else .nilFunc

def isJoin (k : Int) : Bool := isBin k || isNot k

set_option maxRecDepth 100000 in
set_option maxHeartbeats 2000000 in
theorem wantJoinOf_any (k : Int) (w : World) :
    Calls Tryd.prog 50 #[.int .i64 k] w fun e w' => e = .returned (.tuple #[.agg #[.bool (isBin k), fnJ k], .bool (isJoin k)]) ∧ Below w.heap.size w w' := by
  by_cases h6 : k = 6
  · subst h6
    go_enter Tryd.func50, Tryd.ntmps50
    go_wp2
    (try simp only [Exit.inBlock, Exit.then])
    refine bodyPost_ret (v := .tuple #[.agg #[.bool true, .func (.func 77) #[] #[]], .bool true]) ?_ rfl ⟨rfl, ?_⟩
    · rw [results_cell_tmp rfl]
      go_simp
    · repeat' (first | exact Below.refl _ _ | refine Below.alloc ?_ (by simp <;> omega) _ | refine Below.setCell ?_ (by simp <;> omega) _)
  · have d6 : (k == 6) = false := by simpa using h6
    by_cases h7 : k = 7
    · subst h7
      go_enter Tryd.func50, Tryd.ntmps50
      go_wp2
      (try simp only [Exit.inBlock, Exit.then])
      refine bodyPost_ret (v := .tuple #[.agg #[.bool true, .func (.func 78) #[] #[]], .bool true]) ?_ rfl ⟨rfl, ?_⟩
      · rw [results_cell_tmp rfl]
        go_simp
      · repeat' (first | exact Below.refl _ _ | refine Below.alloc ?_ (by simp <;> omega) _ | refine Below.setCell ?_ (by simp <;> omega) _)
    · have d7 : (k == 7) = false := by simpa using h7
      by_cases h8 : k = 8
      · subst h8
        go_enter Tryd.func50, Tryd.ntmps50
        go_wp2
        (try simp only [Exit.inBlock, Exit.then])
        refine bodyPost_ret (v := .tuple #[.agg #[.bool false, .func (.func 79) #[] #[]], .bool true]) ?_ rfl ⟨rfl, ?_⟩
        · rw [results_cell_tmp rfl]
          go_simp
        · repeat' (first | exact Below.refl _ _ | refine Below.alloc ?_ (by simp <;> omega) _ | refine Below.setCell ?_ (by simp <;> omega) _)
      · have d8 : (k == 8) = false := by simpa using h8
        have e1 : isBin k = false := by simp [isBin, h6, h7]
        have e2 : isNot k = false := by simp [isNot, h8]
        have e3 : fnJ k = .nilFunc := by unfold fnJ; rw [if_neg h6, if_neg h7, if_neg h8]
        have e4 : isJoin k = false := by unfold isJoin; rw [e1, e2]; rfl
        rw [e1, e3, e4]
        clear e1 e2 e3 e4 h6 h7 h8
        go_enter Tryd.func50, Tryd.ntmps50
        go_wp2
        (try simp only [Exit.inBlock, Exit.then])
        refine bodyPost_ret (v := .tuple #[.agg #[.bool false, .nilFunc], .bool false]) ?_ rfl ⟨rfl, ?_⟩
        · rw [results_cell_tmp rfl]
          go_simp
        · repeat' (first | exact Below.refl _ _ | refine Below.alloc ?_ (by simp <;> omega) _ | refine Below.setCell ?_ (by simp <;> omega) _)

/-- what a kind of wants that ask a field asks of its type -/
def fnF (k : Int) : Value := if 1 ≤ k ∧ k ≤ 3 then .func (.func 100) #[] #[] else if k = 4 then .func (.func 84) #[] #[] else if k = 5 then .func (.func 86) #[] #[] else .nilFunc

set_option maxRecDepth 100000 in
set_option maxHeartbeats 2000000 in
theorem numberAsk_any (fn : Nat) (w : World) :
    Calls Tryd.prog 80 #[.func (.func fn) #[] #[]] w fun e w' => e = .returned (.agg #[.bool true, .bool false, .func (.func 100) #[] #[], .func (.func 101) #[] #[.pointer (some ⟨w.heap.size, 0, none⟩)]]) ∧ Below w.heap.size w w' ∧ w'.cell? ⟨w.heap.size, 0, none⟩ = some (.func (.func fn) #[] #[]) ∧ w.heap.size < w'.heap.size := by
  go_enter Tryd.func80, Tryd.ntmps80
  go_wp2
  (try simp only [Exit.inBlock, Exit.then])
  refine bodyPost_ret (v := .agg #[.bool true, .bool false, .func (.func 100) #[] #[], .func (.func 101) #[] #[.pointer (some ⟨w.heap.size, 0, none⟩)]]) ?_ rfl ⟨rfl, ?_, ?_, ?_⟩
  · rw [results_cell_one rfl]
    go_simp
  · repeat' (first | exact Below.refl _ _ | refine Below.alloc ?_ (by simp <;> omega) _ | refine Below.setCell ?_ (by simp <;> omega) _)
  · go_simp
  · go_simp

theorem storeJ (k : Int) (a : Addr) (m : Mode) (P : Program) (w : World) : (store a (fnJ k) m).run P w = stored P w a (fnJ k) m := by
  refine run_store P w a _ m ?_
  unfold fnJ
  split
  · rfl
  · split
    · rfl
    · split <;> rfl

theorem storeF (k : Int) (a : Addr) (m : Mode) (P : Program) (w : World) : (store a (fnF k) m).run P w = stored P w a (fnF k) m := by
  refine run_store P w a _ m ?_
  unfold fnF
  split
  · rfl
  · split
    · rfl
    · split <;> rfl

attribute [local go_sem] storeJ storeF


/-- what a want that asks a field does with it -/
def IsoF (k : Int) (w : World) (v : Value) : Prop :=
  (askN k = true ∧ ∃ g, v = .func (.func 101) #[] #[.pointer (some ⟨g, 0, none⟩)] ∧ g < w.heap.size ∧ w.cell? ⟨g, 0, none⟩ = some (.func (.func (if k = 1 then 81 else if k = 2 then 82 else 83)) #[] #[]))
    ∨ (k = 4 ∧ v = .func (.func 85) #[] #[]) ∨ (k = 5 ∧ v = .func (.func 87) #[] #[]) ∨ (isAsk k = false ∧ v = .nilFunc)

def isF (v : Value) : Prop := (∃ fn first cap, v = .func fn first cap) ∨ v = .nilFunc

theorem IsoF.isF {k : Int} {w : World} {v : Value} (h : IsoF k w v) : isF v := by
  rcases h with ⟨_, g, rfl, _⟩ | ⟨_, rfl⟩ | ⟨_, rfl⟩ | ⟨_, rfl⟩
  · exact .inl ⟨_, _, _, rfl⟩
  · exact .inl ⟨_, _, _, rfl⟩
  · exact .inl ⟨_, _, _, rfl⟩
  · exact .inr rfl

set_option maxRecDepth 100000 in
set_option maxHeartbeats 2000000 in
theorem fieldAskOf_any (k : Int) (w : World) :
    Calls Tryd.prog 51 #[.int .i64 k] w fun e w' => ∃ v, e = .returned (.tuple #[.agg #[.bool (askN k), .bool (askT k), fnF k, v], .bool (isAsk k)]) ∧ IsoF k w' v ∧ Below w.heap.size w w' := by
  have hB1 : ∀ o, Below w.heap.size w (w.alloc o) := fun o => (Below.refl _ w).alloc (Nat.le_refl _) o
  by_cases h1 : k = 1
  · subst h1
    go_enter Tryd.func51, Tryd.ntmps51
    go_wp2_with fail
    refine (numberAsk_any _ _).mono ?_
    rintro e w1 ⟨rfl, hb1, hc1, hz1⟩
    have hB2 : Below w.heap.size w w1 := (hB1 _).trans (hb1.mono (by simp))
    have hs1 : w.heap.size + 1 < w1.heap.size := by simpa using hz1
    have c0 : w1.cell? ⟨w.heap.size, 0, none⟩ = some (.bool false) := (hb1.cell (p := ⟨w.heap.size, 0, none⟩) (by simp)).trans (by simp)
    have c1 : w1.cell? ⟨w.heap.size, 1, none⟩ = some (.bool false) := (hb1.cell (p := ⟨w.heap.size, 1, none⟩) (by simp)).trans (by simp)
    have c2 : w1.cell? ⟨w.heap.size, 2, none⟩ = some .nilFunc := (hb1.cell (p := ⟨w.heap.size, 2, none⟩) (by simp)).trans (by simp)
    have c3 : w1.cell? ⟨w.heap.size, 3, none⟩ = some .nilFunc := (hb1.cell (p := ⟨w.heap.size, 3, none⟩) (by simp)).trans (by simp)
    have f0 : w1.frozen? ⟨w.heap.size, 0, none⟩ = false := (hb1.frozen (p := ⟨w.heap.size, 0, none⟩) (by simp)).trans (by simp)
    have f1 : w1.frozen? ⟨w.heap.size, 1, none⟩ = false := (hb1.frozen (p := ⟨w.heap.size, 1, none⟩) (by simp)).trans (by simp)
    have f2 : w1.frozen? ⟨w.heap.size, 2, none⟩ = false := (hb1.frozen (p := ⟨w.heap.size, 2, none⟩) (by simp)).trans (by simp)
    have f3 : w1.frozen? ⟨w.heap.size, 3, none⟩ = false := (hb1.frozen (p := ⟨w.heap.size, 3, none⟩) (by simp)).trans (by simp)
    simp only [World.size_alloc] at hc1
    clear hb1 hz1
    go_wp2
    (try simp only [Exit.inBlock, Exit.then])
    refine bodyPost_ret (v := .tuple #[.agg #[.bool true, .bool false, .func (.func 100) #[] #[], .func (.func 101) #[] #[.pointer (some ⟨w.heap.size + 1, 0, none⟩)]], .bool true]) ?_ rfl ⟨_, rfl, .inl ⟨rfl, w.heap.size + 1, rfl, by simpa using hs1, ?_⟩, ?_⟩
    · rw [results_cell_tmp rfl]
      go_simp
    · go_simp
    · repeat' (first | exact hB2 | refine Below.setCell ?_ (by simp <;> omega) _)
  · have d1 : (k == 1) = false := by simpa using h1
    by_cases h2 : k = 2
    · subst h2
      go_enter Tryd.func51, Tryd.ntmps51
      go_wp2_with fail
      refine (numberAsk_any _ _).mono ?_
      rintro e w1 ⟨rfl, hb1, hc1, hz1⟩
      have hB2 : Below w.heap.size w w1 := (hB1 _).trans (hb1.mono (by simp))
      have hs1 : w.heap.size + 1 < w1.heap.size := by simpa using hz1
      have c0 : w1.cell? ⟨w.heap.size, 0, none⟩ = some (.bool false) := (hb1.cell (p := ⟨w.heap.size, 0, none⟩) (by simp)).trans (by simp)
      have c1 : w1.cell? ⟨w.heap.size, 1, none⟩ = some (.bool false) := (hb1.cell (p := ⟨w.heap.size, 1, none⟩) (by simp)).trans (by simp)
      have c2 : w1.cell? ⟨w.heap.size, 2, none⟩ = some .nilFunc := (hb1.cell (p := ⟨w.heap.size, 2, none⟩) (by simp)).trans (by simp)
      have c3 : w1.cell? ⟨w.heap.size, 3, none⟩ = some .nilFunc := (hb1.cell (p := ⟨w.heap.size, 3, none⟩) (by simp)).trans (by simp)
      have f0 : w1.frozen? ⟨w.heap.size, 0, none⟩ = false := (hb1.frozen (p := ⟨w.heap.size, 0, none⟩) (by simp)).trans (by simp)
      have f1 : w1.frozen? ⟨w.heap.size, 1, none⟩ = false := (hb1.frozen (p := ⟨w.heap.size, 1, none⟩) (by simp)).trans (by simp)
      have f2 : w1.frozen? ⟨w.heap.size, 2, none⟩ = false := (hb1.frozen (p := ⟨w.heap.size, 2, none⟩) (by simp)).trans (by simp)
      have f3 : w1.frozen? ⟨w.heap.size, 3, none⟩ = false := (hb1.frozen (p := ⟨w.heap.size, 3, none⟩) (by simp)).trans (by simp)
      simp only [World.size_alloc] at hc1
      clear hb1 hz1
      go_wp2
      (try simp only [Exit.inBlock, Exit.then])
      refine bodyPost_ret (v := .tuple #[.agg #[.bool true, .bool false, .func (.func 100) #[] #[], .func (.func 101) #[] #[.pointer (some ⟨w.heap.size + 1, 0, none⟩)]], .bool true]) ?_ rfl ⟨_, rfl, .inl ⟨rfl, w.heap.size + 1, rfl, by simpa using hs1, ?_⟩, ?_⟩
      · rw [results_cell_tmp rfl]
        go_simp
      · go_simp
      · repeat' (first | exact hB2 | refine Below.setCell ?_ (by simp <;> omega) _)
    · have d2 : (k == 2) = false := by simpa using h2
      by_cases h3 : k = 3
      · subst h3
        go_enter Tryd.func51, Tryd.ntmps51
        go_wp2_with fail
        refine (numberAsk_any _ _).mono ?_
        rintro e w1 ⟨rfl, hb1, hc1, hz1⟩
        have hB2 : Below w.heap.size w w1 := (hB1 _).trans (hb1.mono (by simp))
        have hs1 : w.heap.size + 1 < w1.heap.size := by simpa using hz1
        have c0 : w1.cell? ⟨w.heap.size, 0, none⟩ = some (.bool false) := (hb1.cell (p := ⟨w.heap.size, 0, none⟩) (by simp)).trans (by simp)
        have c1 : w1.cell? ⟨w.heap.size, 1, none⟩ = some (.bool false) := (hb1.cell (p := ⟨w.heap.size, 1, none⟩) (by simp)).trans (by simp)
        have c2 : w1.cell? ⟨w.heap.size, 2, none⟩ = some .nilFunc := (hb1.cell (p := ⟨w.heap.size, 2, none⟩) (by simp)).trans (by simp)
        have c3 : w1.cell? ⟨w.heap.size, 3, none⟩ = some .nilFunc := (hb1.cell (p := ⟨w.heap.size, 3, none⟩) (by simp)).trans (by simp)
        have f0 : w1.frozen? ⟨w.heap.size, 0, none⟩ = false := (hb1.frozen (p := ⟨w.heap.size, 0, none⟩) (by simp)).trans (by simp)
        have f1 : w1.frozen? ⟨w.heap.size, 1, none⟩ = false := (hb1.frozen (p := ⟨w.heap.size, 1, none⟩) (by simp)).trans (by simp)
        have f2 : w1.frozen? ⟨w.heap.size, 2, none⟩ = false := (hb1.frozen (p := ⟨w.heap.size, 2, none⟩) (by simp)).trans (by simp)
        have f3 : w1.frozen? ⟨w.heap.size, 3, none⟩ = false := (hb1.frozen (p := ⟨w.heap.size, 3, none⟩) (by simp)).trans (by simp)
        simp only [World.size_alloc] at hc1
        clear hb1 hz1
        go_wp2
        (try simp only [Exit.inBlock, Exit.then])
        refine bodyPost_ret (v := .tuple #[.agg #[.bool true, .bool false, .func (.func 100) #[] #[], .func (.func 101) #[] #[.pointer (some ⟨w.heap.size + 1, 0, none⟩)]], .bool true]) ?_ rfl ⟨_, rfl, .inl ⟨rfl, w.heap.size + 1, rfl, by simpa using hs1, ?_⟩, ?_⟩
        · rw [results_cell_tmp rfl]
          go_simp
        · go_simp
        · repeat' (first | exact hB2 | refine Below.setCell ?_ (by simp <;> omega) _)
      · have d3 : (k == 3) = false := by simpa using h3
        by_cases h4 : k = 4
        · subst h4
          go_enter Tryd.func51, Tryd.ntmps51
          go_wp2
          (try simp only [Exit.inBlock, Exit.then])
          refine bodyPost_ret (v := .tuple #[.agg #[.bool false, .bool false, .func (.func 84) #[] #[], .func (.func 85) #[] #[]], .bool true]) ?_ rfl ⟨.func (.func 85) #[] #[], rfl, .inr (.inl ⟨rfl, rfl⟩), ?_⟩
          · rw [results_cell_tmp rfl]
            go_simp
          · repeat' (first | exact Below.refl _ _ | refine Below.alloc ?_ (by simp <;> omega) _ | refine Below.setCell ?_ (by simp <;> omega) _)
        · have d4 : (k == 4) = false := by simpa using h4
          by_cases h5 : k = 5
          · subst h5
            go_enter Tryd.func51, Tryd.ntmps51
            go_wp2
            (try simp only [Exit.inBlock, Exit.then])
            refine bodyPost_ret (v := .tuple #[.agg #[.bool false, .bool true, .func (.func 86) #[] #[], .func (.func 87) #[] #[]], .bool true]) ?_ rfl ⟨.func (.func 87) #[] #[], rfl, .inr (.inr (.inl ⟨rfl, rfl⟩)), ?_⟩
            · rw [results_cell_tmp rfl]
              go_simp
            · repeat' (first | exact Below.refl _ _ | refine Below.alloc ?_ (by simp <;> omega) _ | refine Below.setCell ?_ (by simp <;> omega) _)
          · have d5 : (k == 5) = false := by simpa using h5
            have e1 : askN k = false := by
              unfold askN
              by_cases a : 1 ≤ k
              · have : ¬ k ≤ 3 := by omega
                simp [this]
              · simp [a]
            have e2 : askT k = false := by simp [askT, h5]
            have e3 : fnF k = .nilFunc := by unfold fnF; rw [if_neg (by omega), if_neg h4, if_neg h5]
            have e4 : isAsk k = false := by
              unfold isAsk
              by_cases a : 1 ≤ k
              · have : ¬ k ≤ 5 := by omega
                simp [this]
              · simp [a]
            rw [e1, e2, e3, e4]
            have HI : Hid (∀ w, IsoF k w .nilFunc) := fun w => .inr (.inr (.inr ⟨e4, rfl⟩))
            clear e1 e2 e3 e4 h1 h2 h3 h4 h5
            go_enter Tryd.func51, Tryd.ntmps51
            go_wp2
            (try simp only [Exit.inBlock, Exit.then])
            refine bodyPost_ret (v := .tuple #[.agg #[.bool false, .bool false, .nilFunc, .nilFunc], .bool false]) ?_ rfl ⟨.nilFunc, rfl, HI.out _, ?_⟩
            · rw [results_cell_tmp rfl]
              go_simp
            · repeat' (first | exact Below.refl _ _ | refine Below.alloc ?_ (by simp <;> omega) _ | refine Below.setCell ?_ (by simp <;> omega) _)

end Go.Proofs.YtmjpmmkjfimopaaDoor
