/- The model's l2Shell. The model's l2PutKid, where the new part comes last. append of some or no elements onto a row of the call's own. -/
import Derived.Test.YtbkdpcfghaiimaaGm
import Derived.Test.YtbkdpcfghaiimaaGo
import Derived.Deep.Upon
import Derived.Deep.DeepCutAuto
import Derived.Deep.QuietTactic
import Derived.BigQuiet
import Derived.Deep.AppendLies
namespace Go.Proofs.Ytbkdpcfghaiimaa
open Go.RowKit Plain Sch

set_option maxRecDepth 100000 in
set_option maxHeartbeats 4000000 in
theorem l2Shell_any (t : Tr) (ac : Option Addr) (lc cc : Nat) (w : World) :
    Calls Try.prog 92 #[tv t ac lc cc] w fun e w' => e = .returned (tv t none 0 0) ∧ Below w.heap.size w w' := by
  obtain ⟨kind, name, no, must, most, kids⟩ := t
  unfold tv
  dsimp only [Tr.kind, Tr.name, Tr.no, Tr.must, Tr.most]
  go_enter Try.func92, Try.ntmps92
  go_wp2
  (try simp only [Exit.inBlock, Exit.then])
  refine bodyPost_ret (v := .agg #[.int .i64 kind, .string name, .int .i64 no, .bool must, .int .i64 most, .slice none 0 0]) ?_ rfl ⟨rfl, ?_⟩
  · rw [results_cell1 rfl]
    go_simp
    try exact ⟨rfl, rfl, rfl, rfl, rfl⟩
  · go_grown

/-- the rows behind parts in memory -/
theorem kids_rows {w : World} {S : Nat → Prop} {d g o : Nat} : ∀ (l : List Tr) (s : Nat), (∀ i t, l[i]? = some t → ∃ c', NdIn w g (o + (s + i) * 6) t c' ∧ KidsIn d w S c' t.kids) →
    ∃ rows : List (Tr × Value), rows.map Prod.fst = l ∧ (∀ x ∈ rows, KidsIn d w S x.2 x.1.kids) ∧ ∀ i (x : Tr × Value), rows[i]? = some x → NdIn w g (o + (s + i) * 6) x.1 x.2
  | [], s, _ => ⟨[], rfl, fun x hx => by simp at hx, fun i x hx => by simp at hx⟩
  | t :: l, s, h => by
    obtain ⟨c, hn, hk⟩ := h 0 t rfl
    obtain ⟨rows, h1, h2, h3⟩ := kids_rows l (s + 1) (fun i x hx => by
      have := h (i + 1) x (by simpa using hx)
      rwa [show s + 1 + i = s + (i + 1) by omega])
    refine ⟨(t, c) :: rows, by simp [h1], fun x hx => ?_, fun i x hx => ?_⟩
    · rcases List.mem_cons.1 hx with rfl | hx
      · exact hk
      · exact h2 x hx
    · cases i with
      | zero => simp at hx; subst hx; exact hn
      | succ i =>
        have := h3 i x (by simpa using hx)
        rwa [show s + (i + 1) = s + 1 + i by omega]

end Go.Proofs.Ytbkdpcfghaiimaa

namespace Go.Proofs.Ytbkdpcfghaiimaa
open Go.RowKit Plain Sch

theorem onesT {rows : List (Tr × Value)} (h : ∀ x ∈ rows, x.2.oneCell' = true) : ∀ u ∈ (rows.flatMap fun x => trCells x.1 x.2), u.oneCell' = true := by
  intro u hu
  obtain ⟨x, hx, hux⟩ := List.mem_flatMap.1 hu
  unfold trCells at hux
  simp at hux
  rcases hux with rfl | rfl | rfl | rfl | rfl | rfl
  · rfl
  · rfl
  · rfl
  · rfl
  · rfl
  · exact h x hx

theorem rows_len (rows : List (Tr × Value)) : (rows.flatMap fun x => trCells x.1 x.2).length = rows.length * 6 := by
  induction rows with
  | nil => rfl
  | cons a l ih => rw [List.flatMap_cons, List.length_append, ih, List.length_cons]; have : (trCells a.1 a.2).length = 6 := rfl; omega

theorem rows_cell {w : World} {g o : Nat} : ∀ (rows : List (Tr × Value)) (s : Nat), (∀ i (x : Tr × Value), rows[i]? = some x → NdIn w g (o + (s + i) * 6) x.1 x.2) → ∀ j u, (rows.flatMap fun x => trCells x.1 x.2)[j]? = some u → w.cell? ⟨g, o + s * 6 + j, none⟩ = some u
  | [], s, _, j, u, h => by simp at h
  | x :: rows, s, hr, j, u, h => by
    rw [List.flatMap_cons] at h
    by_cases hj : j < 6
    · rw [List.getElem?_append_left (by show j < 6; exact hj)] at h
      obtain ⟨c0, c1, c2, c3, c4, c5⟩ := hr 0 x rfl
      rw [Nat.add_zero] at c0 c1 c2 c3 c4 c5
      have h6 : j = 0 ∨ j = 1 ∨ j = 2 ∨ j = 3 ∨ j = 4 ∨ j = 5 := by omega
      rcases h6 with rfl | rfl | rfl | rfl | rfl | rfl <;> (simp [trCells] at h; subst h; assumption)
    · rw [List.getElem?_append_right (by show 6 ≤ j; omega)] at h
      have := rows_cell rows (s + 1) (fun i y hy => by
        have h := hr (i + 1) y (by simpa using hy)
        rwa [show s + 1 + i = s + (i + 1) by omega]) (j - 6) u h
      rwa [show o + (s + 1) * 6 + (j - 6) = o + s * 6 + j by omega] at this

/-- nothing is appended -/
theorem append_nothing (W : World) (b : Option Addr) (n c : Nat) (bx : Option Addr) (cx : Nat) (h : n ≤ c) : (Builtin.append_ #[73, 73] 73 #[.slice b n c, .slice bx 0 cx]).run Try.prog W = .ok (.slice b n c) W := by
  obtain ⟨i0, hi, _, _, _⟩ := info_parts Try.infoTr
  exact run_append_nothing W _ _ _ _ i0 Try.underlying73 hi b n c h _ ⟨.inl ⟨_, Try.underlying73⟩, fun _ => by simp [Builtin.lenOf], by cases bx <;> simp [Builtin.firstCells, loadCells, loadCellsFrom], by cases bx <;> simp [Builtin.firstCells, loadCells, loadCellsFrom], by simp, fun u hu => by simp at hu⟩

end Go.Proofs.Ytbkdpcfghaiimaa

namespace Go.Proofs.Ytbkdpcfghaiimaa
open Go.RowKit

theorem run_append_may {P : Program} (w : World) (t ty : TypeId) (base : Nat) (e : TypeId) (i : TypeInfo) (z : Value) (size bytes : Nat) (ht : P.underlying t = some (.slice e)) (hi : P.info? e = some i) (hz : i.zero = some z)
    (hsize : i.size = size) (hby : i.bytes = bytes) (hzs : z.cells.size = size) (hsz : 0 < size)
    (v : Value) (n : Nat) (xs : List Value) (hown : w.ownsRow base e size v n xs)
    (ao : Option Addr) (m c : Nat) (news : List Value) (hl : news.length = m * size) (hnews : ∀ j u, news[j]? = some u → ∃ ad, ao = some ad ∧ w.cell? (ad.add j) = some u) (h1 : ∀ u ∈ news, u.oneCell' = true)
    (h63 : n + m ≤ maxLen) (hbytes : (n + m) * bytes ≤ 140737488355328) (hbase : base ≤ w.heap.size) :
    ∃ ar cap w', (Builtin.append_ #[t, t] ty #[v, .slice ao m c]).run P w = .ok (.slice ar (n + m) cap) w' ∧
      w'.ownsRow base e size (.slice ar (n + m) cap) (n + m) (xs ++ news) ∧ w.grownBy w' v.ownBlock ∧ (∀ g, (Value.slice ar (n + m) cap).ownBlock = some g → v.ownBlock = some g ∨ g = w.heap.size) := by
  by_cases hm : m = 0
  · subst hm
    have hn : news = [] := List.eq_nil_of_length_eq_zero (by omega)
    subst hn
    have hsrc : Src P i.size t (.slice ao 0 c) 0 [] w := ⟨.inl ⟨_, ht⟩, fun _ => by simp [Builtin.lenOf], by cases ao <;> simp [Builtin.firstCells, loadCells, loadCellsFrom], by cases ao <;> simp [Builtin.firstCells, loadCells, loadCellsFrom], by simp, fun u hu => by simp at hu⟩
    rcases hown.2 with ⟨rfl, h0⟩ | ⟨g, cap, cur, rfl, hb, hg, hnc, hrest⟩
    · subst h0
      refine ⟨none, 0, w, run_append_nothing w t t ty e i ht hi none 0 0 (Nat.le_refl _) _ hsrc, by simpa using hown, World.grownBy.refl _ _, fun g hg => by simp [Value.ownBlock] at hg⟩
    · refine ⟨some ⟨g, 0, none⟩, cap, w, run_append_nothing w t t ty e i ht hi _ n cap hnc _ hsrc, by simpa using hown, World.grownBy.refl _ _, fun g' hg' => .inl hg'⟩
  · obtain ⟨u, hu⟩ : ∃ u, news[0]? = some u := ⟨_, List.getElem?_eq_getElem (by have := Nat.mul_pos (Nat.pos_of_ne_zero hm) hsz; omega)⟩
    obtain ⟨ad, rfl, _⟩ := hnews 0 u hu
    obtain ⟨g, cap, w', hr, h2, h3, h4, h5⟩ := run_append_lies (P := P) w t ty base e i z size bytes ht hi hz hsize hby hzs hsz v n xs hown ad m c news hl (fun j u hu => by obtain ⟨ad', ha, hc⟩ := hnews j u hu; cases ha; exact hc) h1 (by omega) h63 hbytes hbase _ rfl
    exact ⟨some ⟨g, 0, none⟩, cap, w', hr, h2, h3, fun g' hg' => by simp [Value.ownBlock] at hg'; subst hg'; exact h4⟩

theorem wpList_append_may {P : Program} (w : World) {ops : Array Oper} {rest : List Oper} {o : Oper} {a : Act} {Q : Exit → Act → World → Prop} (hgd : o.guard = none) (s x : Operand) (t : TypeId)
    (ho : o.op = .call { callee := .builtin .append, args := #[s, x], argTypes := #[t, t] })
    (base : Nat) (e : TypeId) (i : TypeInfo) (z : Value) (size bytes : Nat) (ht : P.underlying t = some (.slice e)) (hi : P.info? e = some i) (hz : i.zero = some z)
    (hsize : i.size = size) (hby : i.bytes = bytes) (hzs : z.cells.size = size) (hsz : 0 < size)
    (v : Value) (n : Nat) (xs : List Value) (hs : a.eval s = v) (hown : w.ownsRow base e size v n xs)
    (ao : Option Addr) (m c : Nat) (news : List Value) (hx : a.eval x = .slice ao m c) (hl : news.length = m * size) (hnews : ∀ j u, news[j]? = some u → ∃ ad, ao = some ad ∧ w.cell? (ad.add j) = some u) (h1 : ∀ u ∈ news, u.oneCell' = true)
    (h63 : n + m ≤ maxLen) (hbytes : (n + m) * bytes ≤ 140737488355328) (hbase : base ≤ w.heap.size)
    (h : ∀ ar cap w', w'.ownsRow base e size (.slice ar (n + m) cap) (n + m) (xs ++ news) → w.grownBy w' v.ownBlock → (∀ g, (Value.slice ar (n + m) cap).ownBlock = some g → v.ownBlock = some g ∨ g = w.heap.size) → wpList P ops Q rest (a.put o.dst (.slice ar (n + m) cap)) w') : wpList P ops Q (o :: rest) a w :=
  wpList_plain hgd fun _ hK => by
    obtain ⟨ar, cap, w', hr, h2, h3, h4⟩ := run_append_may (P := P) w t o.type base e i z size bytes ht hi hz hsize hby hzs hsz v n xs hown ao m c news hl hnews h1 h63 hbytes hbase
    unfold Oper.wp execOp
    simp only [ho, resolve, invoke, builtin, Sem.run_bind, Sem.run_pure, Result.andThen_ok, List.map_toArray, List.map_cons, List.map_nil, hs, hx, hr]
    exact hK _ _ (h ar cap w' h2 h3 h4)

end Go.Proofs.Ytbkdpcfghaiimaa
