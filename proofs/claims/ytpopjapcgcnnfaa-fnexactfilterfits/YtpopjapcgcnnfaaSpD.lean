/- The program's parts by number; shapes of unlike make are held against each other. -/
import Derived.Test.YtpopjapcgcnnfaaGf
import Derived.Test.YtpopjapcgcnnfaaGh
import Derived.Handy
namespace Go.Proofs.Ytpopjapcgcnnfaa
open Go.RowKit Plain Sch

/-- what partByNo answers -/
def PtR (d : Nat) (w' : World) (S : Nat → Prop) (l : List Tr) (no : Int) (e : Ending) : Prop :=
  (∃ (x : Tr) (a : TypeId) (y : Value), byNo l no = some x ∧ e = .returned (.tuple #[.agg #[.string x.name, .int .i64 x.no, .bool x.must, .iface a y], .bool true]) ∧ ShIn d w' S (.iface a y) x) ∨
  (byNo l no = none ∧ e = .returned (.tuple #[.agg #[.string ⟨#[]⟩, .int .i64 0, .bool false, .nilIface], .bool false]))

set_option maxRecDepth 100000 in
set_option maxHeartbeats 1000000 in
theorem partByNo_any (d : Nat) (l : List Tr) (c : Value) (no : Int) (S : Nat → Prop) (w : World) (hk : PartsIn d w S c l) (hS : ∀ g, S g → g < w.heap.size) :
    Calls Try.prog 79 #[c, .int .i64 no] w fun e w' => PtR d w' S l no e ∧ Below w.heap.size w w' := by
  obtain ⟨ao, cap, rfl, hlc, hcm, hrow⟩ := hk
  have hcm' : cap ≤ 9223372036854775807 := by unfold maxLen at hcm; omega
  have HROW : Hid (∀ i x, l[i]? = some x → ∃ (g o : Nat) (u : TypeId × Value), ao = some ⟨g, o, none⟩ ∧ S g ∧ PtIn w g (o + i * 4) x (.iface u.1 u.2) ∧ ShIn d w S (.iface u.1 u.2) x) := hrow
  have HS : Hid (∀ g, S g → g < w.heap.size) := hS
  clear hrow hS
  obtain ⟨W2, hW2⟩ : ∃ W, W = w.alloc (.cells #[.string ⟨#[]⟩, .int .i64 0, .bool false, .nilIface] 122) := ⟨_, rfl⟩
  have hB2 : Below w.heap.size w W2 := by rw [hW2]; exact (Below.refl _ w).alloc (Nat.le_refl _) _
  have hs2 : W2.heap.size = w.heap.size + 1 := by rw [hW2]; simp
  have y0 : W2.cell? ⟨w.heap.size, 0, none⟩ = some (.string ⟨#[]⟩) := by rw [hW2]; go_simp
  have y1 : W2.cell? ⟨w.heap.size, 1, none⟩ = some (.int .i64 0) := by rw [hW2]; go_simp
  have y2 : W2.cell? ⟨w.heap.size, 2, none⟩ = some (.bool false) := by rw [hW2]; go_simp
  have y3 : W2.cell? ⟨w.heap.size, 3, none⟩ = some .nilIface := by rw [hW2]; go_simp
  have yz : ∀ j, W2.frozen? ⟨w.heap.size, j, none⟩ = false := by intro j; rw [hW2]; go_simp
  go_enter Try.func79, Try.ntmps79
  go_wp2
  rw [← hW2]
  go_loopw [10] (fun vi wr => ∃ i : Nat, i ≤ l.length ∧ vi = .int .i64 (i : Int) ∧ Hid (∀ j y, j < i → l[j]? = some y → y.no ≠ no) ∧ Below (w.heap.size + 1) W2 wr)
    (fun vi _ => l.length - (intOf vi).toNat)
  case atStart => exact ⟨0, by omega, rfl, fun j y hj => by omega, Below.refl _ _⟩
  case round =>
    obtain ⟨i, hil, rfl, hall, hbw⟩ := hrel
    have hB0 : Below w.heap.size w wr := hB2.trans (hbw.mono (by omega))
    have hsz : w.heap.size < wr.heap.size := by have := hbw.size; omega
    have hb1 : w.heap.size < w.heap.size + 1 := by omega
    have y0 := (hbw.cell (p := ⟨w.heap.size, 0, none⟩) hb1).trans y0
    have y1 := (hbw.cell (p := ⟨w.heap.size, 1, none⟩) hb1).trans y1
    have y2 := (hbw.cell (p := ⟨w.heap.size, 2, none⟩) hb1).trans y2
    have y3 := (hbw.cell (p := ⟨w.heap.size, 3, none⟩) hb1).trans y3
    have z0 := (hbw.frozen (p := ⟨w.heap.size, 0, none⟩) hb1).trans (yz 0)
    have z1 := (hbw.frozen (p := ⟨w.heap.size, 1, none⟩) hb1).trans (yz 1)
    have z2 := (hbw.frozen (p := ⟨w.heap.size, 2, none⟩) hb1).trans (yz 2)
    have z3 := (hbw.frozen (p := ⟨w.heap.size, 3, none⟩) hb1).trans (yz 3)
    clear hW2 yz
    by_cases hlt : i < l.length
    · have hlt' : (i : Int) < (l.length : Int) := by omega
      obtain ⟨x, hx⟩ : ∃ x, l[i]? = some x := ⟨_, List.getElem?_eq_getElem hlt⟩
      obtain ⟨g, o, u, hao, hSg, hnd, hkk⟩ := HROW.out i x hx
      subst hao
      have hg := HS.out g hSg
      have hnd' := hnd.kept (hB0.block g hg)
      obtain ⟨ua, uy⟩ := u
      obtain ⟨c0, c1, c2, c3⟩ := hnd'
      dsimp only at c3 hkk
      have hgz : g < wr.heap.size := by omega
      by_cases he : x.no = no
      · have hby : Hid (byNo l no = some x) := byNo_at l no i x hall.out hx he
        have he' : (x.no == no) = true := by simpa using he
        have HK : Hid (∀ w' : World, Below w.heap.size w w' → ShIn d w' S (.iface ua uy) x) := fun w' hw' => hkk.kept (fun g hg => hw'.block g (HS.out g hg)) (fun _ h => h)
        clear hnd hkk hx hall he
        go_wp2
        (try simp only [Exit.inBlock, Exit.then])
        have hle : w.heap.size ≤ w.heap.size := Nat.le_refl _
        have hBs := (((hB0.setCell (p := ⟨w.heap.size, 0, none⟩) hle (.string x.name)).setCell (p := ⟨w.heap.size, 1, none⟩) hle (.int .i64 x.no)).setCell (p := ⟨w.heap.size, 2, none⟩) hle (.bool x.must)).setCell (p := ⟨w.heap.size, 3, none⟩) hle (.iface ua uy)
        have hBf := hBs.alloc hBs.size (.cells #[.string x.name, .int .i64 x.no, .bool x.must, .iface ua uy] 122)
        have HKf := HK.out _ hBf
        clear HK hBs
        refine bodyPost_ret (v := .tuple #[.agg #[.string x.name, .int .i64 x.no, .bool x.must, .iface ua uy], .bool true]) ?_ rfl ⟨.inl ⟨x, ua, uy, hby.out, rfl, HKf⟩, hBf⟩
        rw [results_cell_tmp rfl]
        go_simp
      · have he' : (x.no == no) = false := by simpa using he
        have hall2 : Hid (∀ j y, j < i + 1 → l[j]? = some y → y.no ≠ no) := fun j y hj hy => by
          by_cases hji : j = i
          · subst hji; rw [hx] at hy; cases hy; exact he
          · exact hall.out j y (by omega) hy
        clear hnd hkk hx hall he
        go_wp2
        go_roundw
        case rel => exact ⟨i + 1, by omega, by go_num, hall2, hbw.alloc (by omega) _⟩
        case measure => simp [intOf]; omega
    · have hke : i = l.length := by omega
      subst hke
      have hge : ¬ ((l.length : Int) < (l.length : Int)) := by omega
      have hby : Hid (byNo l no = none) := byNo_none l no hall.out
      clear hall
      go_wp2
      (try simp only [Exit.inBlock, Exit.then])
      refine bodyPost_ret (v := .tuple #[.agg #[.string ⟨#[]⟩, .int .i64 0, .bool false, .nilIface], .bool false]) ?_ rfl ⟨.inr ⟨hby.out, rfl⟩, ?_⟩
      · rw [results_cell_tmp rfl]
        go_simp
      · have hle : w.heap.size ≤ w.heap.size := Nat.le_refl _
        exact (((hB0.setCell (p := ⟨w.heap.size, 0, none⟩) hle _).setCell (p := ⟨w.heap.size, 1, none⟩) hle _).setCell (p := ⟨w.heap.size, 2, none⟩) hle _).setCell (p := ⟨w.heap.size, 3, none⟩) hle _

/-- a shape's outermost make -/
def SF (v : Value) (k mo : Int) : Prop :=
  (k = 1 ∧ v = .iface 183 (.agg #[])) ∨ (k = 2 ∧ v = .iface 184 (.agg #[])) ∨ (k = 3 ∧ v = .iface 186 (.agg #[.int .i64 mo])) ∨
  (k = 4 ∧ ∃ a x, v = .iface 188 (.agg #[.iface a x])) ∨ (k = 5 ∧ ∃ ao l cap, v = .iface 190 (.agg #[.slice ao l cap]))

theorem ShIn.sf {d : Nat} {w : World} {S : Nat → Prop} {v : Value} {t : Tr} (h : ShIn d w S v t) : SF v t.kind t.most := by
  have hl : Leaf v t → SF v t.kind t.most := fun h => by
    rcases h.2 with h | h | h
    · exact .inl h
    · exact .inr (.inl h)
    · exact .inr (.inr (.inl h))
  cases d with
  | zero => exact hl h
  | succ d =>
    rcases h with h | ⟨hk, x, l, u, _, rfl, _⟩ | ⟨hk, ao, cap, rfl, _⟩
    · exact hl h
    · exact .inr (.inr (.inr (.inl ⟨hk, _, _, rfl⟩)))
    · exact .inr (.inr (.inr (.inr ⟨hk, _, _, _, rfl⟩)))

def likeK (ka kb ma mb : Int) : Bool := decide (ka = kb) && (if ka = 3 then decide (ma ≤ mb) else true)

end Go.Proofs.Ytpopjapcgcnnfaa
