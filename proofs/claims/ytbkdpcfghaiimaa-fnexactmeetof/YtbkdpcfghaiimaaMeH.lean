/- The model's l2Meet of messages. -/
import Derived.Test.YtbkdpcfghaiimaaMeA
import Derived.Test.YtbkdpcfghaiimaaJoJ
namespace Go.Proofs.Ytbkdpcfghaiimaa
open Go.RowKit Plain Sch

set_option maxRecDepth 100000 in
set_option maxHeartbeats 4000000 in
theorem l2Meet_no (a b : Tr) (aa ab : Option Addr) (la ca lb cb : Nat) (w : World) (h : a.kind ≠ b.kind) :
    Calls Try.prog 46 #[tv a aa la ca, tv b ab lb cb] w fun e w' => (∃ t ar lr cr, e = .returned (.tuple #[tv t ar lr cr, .bool false])) ∧ Below w.heap.size w w' := by
  have hk' : (a.kind != b.kind) = true := by simpa using h
  unfold tv
  generalize a.kind = ka at *
  generalize b.kind = kb at *
  clear h
  go_enter Try.func46, Try.ntmps46
  go_wp2
  (try simp only [Exit.inBlock, Exit.then])
  refine bodyPost_ret (v := .tuple #[.agg #[.int .i64 0, .string ⟨#[]⟩, .int .i64 0, .bool false, .int .i64 0, .slice none 0 0], .bool false]) ?_ rfl ⟨⟨.mk 0 ⟨#[]⟩ 0 false 0 [], none, 0, 0, rfl⟩, ?_⟩
  · rw [results_cell_tmp rfl]
    go_simp
  · go_grown

/-- what l2Meet answers -/
def MeR (d : Nat) (a b : Tr) (S : Nat → Prop) (w w' : World) (e : Ending) : Prop :=
  (∃ t ar lr cr, meetT d a b = some t ∧ e = .returned (.tuple #[.agg #[.int .i64 t.kind, .string t.name, .int .i64 t.no, .bool t.must, .int .i64 t.most, .slice ar lr cr], .bool true]) ∧ KidsIn d w' (fun g => (S g ∨ w.heap.size ≤ g) ∧ g < w'.heap.size) (.slice ar lr cr) t.kids) ∨
  (meetT d a b = none ∧ ∃ t ar lr cr, e = .returned (.tuple #[.agg #[.int .i64 (Tr.kind t), .string t.name, .int .i64 t.no, .bool t.must, .int .i64 t.most, .slice ar lr cr], .bool false]))

/-- what holds while L is put together in the block OB -/
def MeInv (D : Nat) (a : Tr) (M : Bool) (X : Int) (S : Nat → Prop) (w4 : World) (OB : Nat) (L : List Tr) (wr : World) : Prop :=
  ∃ ar cr, Six wr OB (.int .i64 a.kind) (.string a.name) (.int .i64 a.no) (.bool M) (.int .i64 X) (.slice ar L.length cr) ∧ KidsIn (D + 1) wr (fun g => S g ∨ (OB < g ∧ g < wr.heap.size)) (.slice ar L.length cr) L ∧ Below OB w4 wr ∧ OB < wr.heap.size

theorem MeInv.more {D : Nat} {a : Tr} {M : Bool} {X : Int} {S : Nat → Prop} {w4 : World} {OB : Nat} {L : List Tr} {wr W : World} (h : MeInv D a M X S w4 OB L wr) (hS : ∀ g, S g → g < wr.heap.size) (hW : Below wr.heap.size wr W) : MeInv D a M X S w4 OB L W := by
  obtain ⟨ar, cr, SX, hkr, hbw, hob⟩ := h
  have hs := hW.size
  refine ⟨ar, cr, SX.kept (hW.block _ hob), hkr.kept (fun g hg => hW.block g ?_) (fun g hg => ?_), hbw.trans (hW.mono (Nat.le_of_lt hob)), by omega⟩
  · rcases hg with hg | hg
    · exact hS g hg
    · exact hg.2
  · rcases hg with hg | hg
    · exact .inl hg
    · exact .inr ⟨hg.1, by omega⟩

theorem spA_len {F : Tr → Tr → Option Tr} {la lb : List Tr} : ∀ {i : Nat} {l : List Tr}, spA F la lb i = some l → l.length ≤ i
  | 0, l, h => by rw [spA] at h; cases h; simp
  | i + 1, l, h => by
    rw [spA] at h
    split at h
    · have := spA_len h; omega
    · obtain ⟨l0, hl0, hl⟩ := Option.bind_eq_some_iff.1 h
      obtain ⟨z, _, rfl⟩ := Option.map_eq_some_iff.1 hl
      have := spA_len hl0
      rw [putL_len]; omega

theorem spB_len (la lb l : List Tr) : ∀ j, (spB la lb l j).length ≤ l.length + j
  | 0 => Nat.le_refl _
  | j + 1 => by
    have ih := spB_len la lb l j
    rw [spB]
    split
    · omega
    · split
      · rw [putL_len]; omega
      · omega

theorem spA_gone {F : Tr → Tr → Option Tr} {la lb : List Tr} {n : Nat} (h : spA F la lb n = none) : ∀ m, spA F la lb (n + m) = none
  | 0 => h
  | m + 1 => by
    show spA F la lb (n + m + 1) = none
    rw [spA, spA_gone h m]
    split <;> rfl

/-- six cells that are loaded -/
theorem spA_step {F : Tr → Tr → Option Tr} {la lb : List Tr} {i : Nat} {x : Tr} {l : List Tr} (hx : la[i]? = some x) (h : spA F la lb i = some l) : spA F la lb (i + 1) = (mg F lb x).map (putL l) := by
  rw [spA, hx]
  dsimp only
  rw [h]
  rfl

theorem spB_step {la lb l : List Tr} {j : Nat} {y : Tr} (hy : lb[j]? = some y) : spB la lb l (j + 1) = if byNo la y.no = none then putL (spB la lb l j) y else spB la lb l j := by
  rw [spB, hy]

end Go.Proofs.Ytbkdpcfghaiimaa
