/- GetPart: what it tells; a part that is laid flat, seen from its own head. A piece made a value of its own: its nodes copied, their Ups counted from its head. The program's asWhole. A value that fits: its texts are short, its Ups small. -/
import Derived.Test.YtpajdmhakdbkjaaPfG
import Derived.Test.YtpajdmhakdbkjaaVwB
import Derived.Test.YtpajdmhakdbkjaaGk
import Derived.Laws.CopyOwn
namespace Go.Proofs.Ytpajdmhakdbkjaa
open Plain Sch

def upBy (s : Int) (t : Ty) : Ty := { t with up := t.up - s }

mutual
theorem flat_shift (x : Tr) (up : Int) (s k : Nat) : (flat x up (s + k)).map (upBy s) = flat x (up - s) k := by
  cases x with
  | mk kd n no mu mo ks =>
    rw [flat, flat, List.map_cons]
    congr 1
    have := flatL_shift ks k s (k + 1)
    rwa [show s + (k + 1) = s + k + 1 by omega] at this
theorem flatL_shift (l : List Tr) (p s k : Nat) : (flatL l (s + p) (s + k)).map (upBy s) = flatL l p k := by
  cases l with
  | nil => rfl
  | cons x l =>
    rw [flatL, flatL, List.map_append, flat_shift x ((s + p : Nat) : Int) s k]
    have := flatL_shift l p s (k + x.size)
    rw [show s + (k + x.size) = s + k + x.size by omega] at this
    rw [this]
    congr 2
    omega
end

/-- the same tree without a number -/
def noZ (x : Tr) : Tr := .mk x.kind x.name 0 x.must x.most x.kids

theorem noZ_kids (x : Tr) : (noZ x).kids = x.kids := rfl
theorem noZ_size (x : Tr) : (noZ x).size = x.size := by rw [Tr.size_eq, Tr.size_eq]; rfl

/-- nodes of a piece, its Ups counted from its head, the head in nothing -/
def awl (s : Nat) (L : List Ty) : List Ty := match L.map (upBy s) with | [] => [] | h :: M => { h with no := 0, up := -1 } :: M

theorem awl_flat (x : Tr) (up : Int) (s : Nat) : awl s (flat x up s) = flat (noZ x) (-1) 0 := by
  unfold awl
  have := flat_shift x up s 0
  rw [Nat.add_zero] at this
  rw [this]
  cases x with
  | mk kd n no mu mo ks => rw [flat]; rfl

/-- what GetPart tells -/
def gpo (V T : List Ty) (no : Int) : List Ty × Bool :=
  if fof4 V T = true then (match byNo (tree T 41 0).kids no with
    | some y => if y.kind = 5 then (match byNo (tree V 41 0).kids no with | some x => (flat (noZ x) (-1) 0, true) | none => ([], false)) else ([], false)
    | none => ([], false)) else ([], false)

theorem gpo_fit {V T : List Ty} {no : Int} (h : fof4 V T = false) : gpo V T no = ([], false) := by unfold gpo; rw [if_neg (by simp [h])]

theorem gpo_none {V T : List Ty} {no : Int} (h : byNo (tree T 41 0).kids no = none) : gpo V T no = ([], false) := by
  unfold gpo
  rw [h]
  split <;> rfl

theorem gpo_kind {V T : List Ty} {no : Int} {y : Tr} (h : byNo (tree T 41 0).kids no = some y) (hk : ¬ y.kind = 5) : gpo V T no = ([], false) := by
  unfold gpo
  rw [h]
  split
  · dsimp only; rw [if_neg hk]
  · rfl

theorem gpo_miss {V T : List Ty} {no : Int} (h : byNo (tree V 41 0).kids no = none) : gpo V T no = ([], false) := by
  unfold gpo
  rw [h]
  split
  · split
    · dsimp only; split <;> rfl
    · rfl
  · rfl

theorem gpo_yes {V T : List Ty} {no : Int} {x y : Tr} (hf : fof4 V T = true) (hy : byNo (tree T 41 0).kids no = some y) (hk : y.kind = 5) (hx : byNo (tree V 41 0).kids no = some x) : gpo V T no = (flat (noZ x) (-1) 0, true) := by
  unfold gpo
  rw [if_pos hf, hy]
  dsimp only
  rw [if_pos hk, hx]

/-- a value that fits is its tree, laid flat -/
theorem fit_flat {V T : List Ty} (h : fof4 V T = true) : 1 ≤ V.length ∧ V.length ≤ 40 ∧ gs T = true ∧ V = flat (tree V 41 0) (-1) 0 ∧ (tree V 41 0).size ≤ 40 := by
  unfold fof4 at h
  simp only [Bool.and_eq_true] at h
  obtain ⟨h1, h2, _⟩ := h
  obtain ⟨a, b, hall⟩ := nds_parts V h2
  have h0 := nds_zero V (hall 0 (by omega))
  have hft := flat_of_treeV V (by omega) h0.1 (nds_pc V hall) 41 (by omega)
  exact ⟨a, b, h1, hft.1.symm, by rw [hft.2]; exact b⟩

/-- the pieces of a whole that fits are its parts -/
theorem fit_own {V T : List Ty} (h : fof4 V T = true) : ∃ hd M, V = hd :: M ∧ own 0 1 M = segs (tree V 41 0).kids 0 1 := by
  obtain ⟨_, _, _, e, _⟩ := fit_flat h
  generalize tree V 41 0 = x at *
  rw [flat_eq] at e
  refine ⟨_, _, e, ?_⟩
  exact own_flat 0 x.kids 1 (by omega)

/-- pieces side by side: each is a part of the same place -/
theorem segs_at : ∀ (l : List Tr) (p s i : Nat) (q : Nat × List Ty), (segs l p s)[i]? = some q → ∃ x, l[i]? = some x ∧ q.2 = flat x p q.1
  | [], _, _, _, _, h => by simp [segs] at h
  | x :: l, p, s, 0, q, h => by
    simp [segs] at h
    subst h
    exact ⟨x, rfl, rfl⟩
  | x :: l, p, s, i + 1, q, h => by
    rw [segs, List.getElem?_cons_succ] at h
    obtain ⟨y, hy, e⟩ := segs_at l p (s + x.size) i q h
    exact ⟨y, by simpa using hy, e⟩

theorem segs_len : ∀ (l : List Tr) (p s : Nat), (segs l p s).length = l.length
  | [], _, _ => rfl
  | x :: l, p, s => by rw [segs, List.length_cons, List.length_cons, segs_len l]

end Go.Proofs.Ytpajdmhakdbkjaa

namespace Go.Proofs.Ytpajdmhakdbkjaa
open Go.RowKit Plain Sch

/-- copy of elements of several cells into a row of the call's own -/
theorem run_copy_wide {P : Program} (w : World) (dT sT ty elem : TypeId) (g o dLen dCap : Nat) (a : Addr) (sLen sCap : Nat) (cur : Array Value) (t : TypeId) (cs : List Value) (size n : Nat)
    (hu : P.underlying dT = some (.slice elem)) (hs : (P.info? elem).map (·.size) = some size)
    (hg : w.heap[g]? = some (.cells cur t (0, 0))) (hn : n = Nat.min sLen dLen) (hcs : cs.length = n * size)
    (hsrc : ∀ j v, cs[j]? = some v → w.cell? (a.add j) = some v) (hfit : o + cs.length ≤ cur.size) (h1 : ∀ v ∈ cs, v.oneCell' = true) :
    (Builtin.copy_ #[dT, sT] ty #[.slice (some ⟨g, o, none⟩) dLen dCap, .slice (some a) sLen sCap]).run P w =
      .ok (goInt n) (w.setRow g (cur.toList.take o ++ cs ++ cur.toList.drop (o + cs.length)).toArray) := by
  have hl := run_loadCells_list (P := P) w a cs hsrc
  have hst := run_storeCells_at P g o t cs 0 cur w hg (by simpa using hfit) h1
  cases hq : P.info? elem with
  | none => simp [hq] at hs
  | some i =>
    have hi : i.size = size := by simpa [hq] using hs
    rw [hcs] at hl
    simp [Builtin.copy_, run_underlying hu, Builtin.lenOf, Builtin.firstCells, sizeOf, typeInfo, hq, hi, ← hn, hl, hst]

theorem wpList_copy_wide {P : Program} {w : World} {ops : Array Oper} {rest : List Oper} {o : Oper} {a : Act} {Q : Exit → Act → World → Prop} (hgd : o.guard = none) (d s : Operand) (dT sT : TypeId)
    (ho : o.op = .call { callee := .builtin .copy, args := #[d, s], argTypes := #[dT, sT] }) (elem : TypeId) (size n : Nat) (hu : P.underlying dT = some (.slice elem)) (hsz : (P.info? elem).map (·.size) = some size)
    (g off dLen dCap : Nat) (ad : Addr) (sLen sCap : Nat) (hd : a.eval d = .slice (some ⟨g, off, none⟩) dLen dCap) (hs : a.eval s = .slice (some ad) sLen sCap)
    (cur : Array Value) (t : TypeId) (hg : w.heap[g]? = some (.cells cur t (0, 0))) (cs : List Value) (hn : n = Nat.min sLen dLen) (hcs : cs.length = n * size)
    (hsrc : ∀ j v, cs[j]? = some v → w.cell? (ad.add j) = some v) (hfit : off + cs.length ≤ cur.size) (h1 : ∀ v ∈ cs, v.oneCell' = true)
    (h : wpList P ops Q rest (a.put o.dst (goInt n)) (w.setRow g (cur.toList.take off ++ cs ++ cur.toList.drop (off + cs.length)).toArray)) : wpList P ops Q (o :: rest) a w := by
  refine wpList_plain hgd fun K hK => ?_
  have hrun := run_copy_wide (P := P) w dT sT o.type elem g off dLen dCap ad sLen sCap cur t cs size n hu hsz hg hn hcs hsrc hfit h1
  unfold Oper.wp
  simp [execOp, ho, resolve, invoke, builtin, hd, hs, hrun, Result.andThen]
  exact hK _ _ (by simpa using h)

/-- the nodes while the loop is at i -/
def tti (s : Nat) (L : List Ty) (i m : Nat) : Ty := if m < i then upBy s (ty L m) else ty L m

theorem set2_tti (ys : List Value) (s : Nat) (L : List Ty) (i : Nat) (hl : ys.length = L.length * 5) (hi : i < L.length) (hm : ∀ m, m < L.length → ∀ j, j < 5 → ys[m * 5 + j]? = (tti s L i m).ncells[j]?) : ∀ m, m < L.length → ∀ j, j < 5 →
    ((ys.set (i * 5 + 1) (.string (ty L i).name)).set (i * 5 + 3) (.int .i64 ((ty L i).up - s)))[m * 5 + j]? = (tti s L (i + 1) m).ncells[j]? := by
  intro m hml j hj
  simp only [List.getElem?_set, List.length_set]
  by_cases hme : m = i
  · subst hme
    have hold := hm m hml j hj
    have e1 : tti s L (m + 1) m = upBy s (ty L m) := by unfold tti; rw [if_pos (by omega)]
    have e2 : tti s L m m = ty L m := by unfold tti; rw [if_neg (by omega)]
    rw [e2] at hold
    rw [e1]
    match j, hj with
    | 0, _ => rw [if_neg (by omega), if_neg (by omega), hold]; rfl
    | 1, _ => rw [if_neg (by omega), if_pos (by omega), if_pos (by omega)]; rfl
    | 2, _ => rw [if_neg (by omega), if_neg (by omega), hold]; rfl
    | 3, _ => rw [if_pos (by omega), if_pos (by omega)]; rfl
    | 4, _ => rw [if_neg (by omega), if_neg (by omega), hold]; rfl
  · rw [if_neg (by omega), if_neg (by omega), hm m hml j hj]
    unfold tti
    by_cases hlt : m < i
    · rw [if_pos hlt, if_pos (by omega)]
    · rw [if_neg hlt, if_neg (by omega)]

theorem awl_len (s : Nat) (L : List Ty) : (awl s L).length = L.length := by
  unfold awl
  cases L with
  | nil => rfl
  | cons h M => simp

theorem ty_awl (s : Nat) (L : List Ty) (m : Nat) (hm : m < L.length) : ty (awl s L) m = if m = 0 then { upBy s (ty L 0) with no := 0, up := -1 } else upBy s (ty L m) := by
  unfold awl
  cases L with
  | nil => simp at hm
  | cons h M =>
    rw [List.map_cons]
    dsimp only
    cases m with
    | zero => rfl
    | succ m =>
      rw [if_neg (by omega)]
      have hm' : m < M.length := by simpa using hm
      unfold ty
      simp [List.getD_eq_getElem?_getD, List.getElem?_eq_getElem hm']

theorem set_last (ys : List Value) (s : Nat) (L : List Ty) (h0 : 0 < L.length) (hl : ys.length = L.length * 5) (hm : ∀ m, m < L.length → ∀ j, j < 5 → ys[m * 5 + j]? = (tti s L L.length m).ncells[j]?) :
    (ys.set 2 (.int .i64 0)).set 3 (.int .i64 (-1)) = (awl s L).flatMap Ty.ncells := by
  refine ys_eqN (awl s L) _ (by simp [hl, awl_len]) (fun m hml j hj => ?_)
  rw [awl_len] at hml
  rw [ty_awl s L m hml]
  have hold := hm m hml j hj
  have e1 : tti s L L.length m = upBy s (ty L m) := by unfold tti; rw [if_pos hml]
  rw [e1] at hold
  simp only [List.getElem?_set, List.length_set]
  by_cases hm0 : m = 0
  · subst hm0
    rw [if_pos rfl]
    match j, hj with
    | 0, _ => rw [if_neg (by omega), if_neg (by omega), hold]; rfl
    | 1, _ => rw [if_neg (by omega), if_neg (by omega), hold]; rfl
    | 2, _ => rw [if_neg (by omega), if_pos (by omega), if_pos (by omega)]; rfl
    | 3, _ => rw [if_pos (by omega), if_pos (by omega)]; rfl
    | 4, _ => rw [if_neg (by omega), if_neg (by omega), hold]; rfl
  · rw [if_neg hm0, if_neg (by omega), if_neg (by omega), hold]

end Go.Proofs.Ytpajdmhakdbkjaa

namespace Go.Proofs.Ytpajdmhakdbkjaa
open Go.RowKit Plain Sch

theorem addr_add (g o j : Nat) : (⟨g, o, none⟩ : Addr).add j = ⟨g, o + j, none⟩ := by
  unfold Addr.add
  split
  · next h => subst h; rfl
  · rfl

set_option maxRecDepth 100000 in
set_option maxHeartbeats 4000000 in
theorem asWhole_any (L : List Ty) (s g o cap : Nat) (w : World) (hin : PcIn w g o (s, L)) (hg : g < w.heap.size) (h0 : 0 < L.length) (hl : L.length ≤ 1000) (hs : s ≤ 1000) (hnc : L.length ≤ cap) (hc : cap ≤ maxLen) (hnm : ∀ i, i < L.length → (ty L i).name.size ≤ 281474976710656) (hup : ∀ i, i < L.length → -1000000 ≤ (ty L i).up ∧ (ty L i).up ≤ 1000000) :
    Calls Try.prog 53 #[.agg #[.int .i64 (s : Int), .slice (some ⟨g, o + s * 5, none⟩) L.length cap]] w fun e w' => ∃ rv, e = .returned (.agg #[rv]) ∧ NdRow w' w.heap.size rv (awl s L) ∧ Below w.heap.size w w' := by
  obtain ⟨i0, hi, hz0, hz1, hz2⟩ := info_parts Try.infoNd
  have hc' : cap ≤ 9223372036854775807 := by unfold maxLen at hc; omega
  have HIN : Hid (∀ i, i < L.length → NoIn w g (o + (s + i) * 5) (ty L i)) := hin
  have HNM : Hid (∀ i, i < L.length → (ty L i).name.size ≤ 281474976710656) := hnm
  have HUP : Hid (∀ i, i < L.length → -1000000 ≤ (ty L i).up ∧ (ty L i).up ≤ 1000000) := hup
  clear hin hnm hup
  obtain ⟨n, hn⟩ : ∃ n, n = L.length := ⟨_, rfl⟩
  have HN : Hid (n = L.length) := hn
  rw [← hn] at h0 hl hnc ⊢
  clear hn
  obtain ⟨ob, hob⟩ : ∃ ob, ob = o + s * 5 := ⟨_, rfl⟩
  rw [← hob]
  have HOB : Hid (∀ i : Nat, o + (s + i) * 5 = ob + i * 5) := fun i => by rw [hob]; omega
  clear hob
  obtain ⟨F, hF⟩ : ∃ F, F = awl s L := ⟨_, rfl⟩
  rw [← hF]
  have HF : Hid (F = awl s L) := hF
  have HFL : Hid (F.length = n) := by show _ = _; rw [hF, awl_len, HN.out]
  clear hF
  obtain ⟨W2, hW2⟩ : ∃ W, W = (w.alloc (.cells #[.int .i64 (s : Int), .slice (some ⟨g, ob, none⟩) n cap] 88)).alloc (.cells #[.slice none 0 0] 29) := ⟨_, rfl⟩
  have hB2 : Below w.heap.size w W2 := by rw [hW2]; exact ((Below.refl _ w).alloc (Nat.le_refl _) _).alloc (by simp) _
  have HS2 : Hid (W2.heap.size = w.heap.size + 2) := by show _ = _; rw [hW2]; simp
  have k0 : W2.cell? ⟨w.heap.size, 0, none⟩ = some (.int .i64 (s : Int)) := by rw [hW2]; go_simp
  have k1 : W2.cell? ⟨w.heap.size, 1, none⟩ = some (.slice (some ⟨g, ob, none⟩) n cap) := by rw [hW2]; go_simp
  have r0 : W2.cell? ⟨w.heap.size + 1, 0, none⟩ = some (.slice none 0 0) := by rw [hW2]; go_simp
  have f0 : W2.frozen? ⟨w.heap.size + 1, 0, none⟩ = false := by rw [hW2]; go_simp
  obtain ⟨M, hM⟩ : ∃ M, M = madeCells (Value.agg #[.int .i64 0, .string ⟨#[]⟩, .int .i64 0, .int .i64 0, .bool false]).cells (((n : Nat) : Int).toNat * i0.size) := ⟨_, rfl⟩
  have hMs : M.size = n * 5 := by rw [hM, size_madeCells, hz1]; simp
  have hmk : ∀ W : World, (Instr.makeSlice 27 (.int .i64 (n : Int)) (.int .i64 (n : Int))).run Try.prog W = .ok (.slice (some ⟨W.heap.size, 0, none⟩) n n) (W.alloc (.cells M 85)) := fun W => by
    have h := run_make (P := Try.prog) W 27 85 i0 (.agg #[.int .i64 0, .string ⟨#[]⟩, .int .i64 0, .int .i64 0, .bool false]) Try.underlying27 hi hz0 .i64 .i64 (n : Int) (n : Int) (by omega) (by omega) (by rw [hz2]; omega) (by omega)
    rw [← hM] at h
    simpa using h
  clear hM
  obtain ⟨W3, hW3⟩ : ∃ W, W = W2.alloc (.cells M 85) := ⟨_, rfl⟩
  have hB23 : Below W2.heap.size W2 W3 := by rw [hW3]; exact (Below.refl _ W2).alloc (Nat.le_refl _) _
  have HS3 : Hid (W3.heap.size = W2.heap.size + 1) := by show _ = _; rw [hW3]; simp
  have hblk : W3.heap[W2.heap.size]? = some (.cells M 85 (0, 0)) := by rw [hW3]; exact heap_alloc_new W2 _
  have hB3 : Below w.heap.size w W3 := hB2.trans (hB23.mono hB2.size)
  have hw2 : w.heap.size < W2.heap.size := by have := HS2.out; omega
  have k13 := (hB23.cell (p := ⟨w.heap.size, 1, none⟩) hw2).trans k1
  have hw3 : w.heap.size < W3.heap.size := by have := HS3.out; omega
  have HSRC : Hid (∀ j v, (L.flatMap Ty.ncells)[j]? = some v → W3.cell? ((⟨g, ob, none⟩ : Addr).add j) = some v) := by
    intro j v hv
    have hjl : j < L.length * 5 := by have := (List.getElem?_eq_some_iff.1 hv).1; rw [flat5_len] at this; exact this
    have ej : j = j / 5 * 5 + j % 5 := by omega
    rw [ej, flat5N L (j / 5) (j % 5) (by omega) (by omega)] at hv
    have hc := (HIN.out (j / 5) (by omega)).below hB3 hg
    rw [HOB.out] at hc
    obtain ⟨c0, c1, c2, c3, c4⟩ := hc
    rw [addr_add, show ob + j = ob + j / 5 * 5 + j % 5 by omega]
    have h5 : j % 5 = 0 ∨ j % 5 = 1 ∨ j % 5 = 2 ∨ j % 5 = 3 ∨ j % 5 = 4 := by omega
    rcases h5 with h | h | h | h | h <;> rw [h] at hv ⊢
    · rw [← hv]; exact c0
    · rw [← hv]; exact c1
    · rw [← hv]; exact c2
    · rw [← hv]; exact c3
    · rw [← hv]; exact c4
  have HONE : Hid (∀ v ∈ L.flatMap Ty.ncells, v.oneCell' = true) := fun v hv => by
    obtain ⟨t, _, ht⟩ := List.mem_flatMap.1 hv
    exact one5N v ht
  have HLEN : Hid ((L.flatMap Ty.ncells).length = n * 5) := by show _ = _; rw [flat5_len, HN.out]
  have hsz5 : (Try.prog.info? 85).map (·.size) = some 5 := by rw [hi]; simp [hz1]
  go_enter Try.func53, Try.ntmps53
  go_upto_region 1 with fail
  rw [← hW2]
  clear hW2
  go_upto_region 2 with fail
  rw [← hW3]
  clear hW3 hmk
  obtain ⟨W4, hW4⟩ : ∃ W, W = W3.setRow W2.heap.size (M.toList.take 0 ++ L.flatMap Ty.ncells ++ M.toList.drop (0 + (L.flatMap Ty.ncells).length)).toArray := ⟨_, rfl⟩
  have hB34 : Below W2.heap.size W2 W4 := by rw [hW4]; exact below_setRow hB23 (Nat.le_refl _) _
  have HS4 : Hid (W4.heap.size = W3.heap.size) := by show _ = _; rw [hW4]; simp [World.setRow]
  have hown4 : W4.ownsRow W2.heap.size 85 5 (.slice (some ⟨W2.heap.size, 0, none⟩) n n) n (L.flatMap Ty.ncells) := by
    refine ⟨by rw [HLEN.out], .inr ⟨W2.heap.size, n, (L.flatMap Ty.ncells).toArray, rfl, Nat.le_refl _, ?_, Nat.le_refl _, by unfold maxLen; omega, by simp [HLEN.out], by rw [List.take_of_length_le (by simp [HLEN.out])]⟩⟩
    have := setRow_heap W3 W2.heap.size M (M.toList.take 0 ++ L.flatMap Ty.ncells ++ M.toList.drop (0 + (L.flatMap Ty.ncells).length)).toArray 85 (0, 0) hblk
    rw [hW4, this, List.take_zero, List.nil_append, List.drop_of_length_le (by simp [HLEN.out, hMs]), List.append_nil]
  have hcp := run_copy_wide (P := Try.prog) W3 27 27 3 85 W2.heap.size 0 n n ⟨g, ob, none⟩ n cap M 85 (L.flatMap Ty.ncells) 5 n Try.underlying27 hsz5 hblk (Nat.min_self n).symm HLEN.out HSRC.out (by rw [HLEN.out, hMs]; omega) HONE.out
  rw [← hW4] at hcp
  clear hW4 hblk hMs
  go_upto_region 3 with fail
  clear hcp
  obtain ⟨gd, hgd⟩ : ∃ gd, gd = W2.heap.size := ⟨_, rfl⟩
  rw [← hgd] at hown4 hB34 hw2 ⊢
  have HGD : Hid (gd = w.heap.size + 2) := by show _ = _; rw [hgd, HS2.out]
  have HW4 : Hid (gd < W4.heap.size) := by show _ < _; rw [HS4.out, HS3.out, ← hgd]; omega
  clear hB23 hB3 hgd k13 hw3 HSRC HONE HLEN HS2 HS3 HS4 W3 hz0 hz1 hz2 hsz5 hi i0 HIN HOB M
  have hw21 : w.heap.size + 1 < gd := by have := HGD.out; omega
  go_upto_region 4 with fail
  go_loopw [15] (fun vi wr => ∃ (i : Nat) (ys : List Value), i ≤ n ∧ vi = .int .i64 (i : Int) ∧ Hid (∀ m, m < L.length → ∀ j, j < 5 → ys[m * 5 + j]? = (tti s L i m).ncells[j]?) ∧ Hid (ys.length = L.length * 5) ∧ wr.ownsRow gd 85 5 (.slice (some ⟨gd, 0, none⟩) n n) n ys ∧ Below gd W2 wr ∧ gd < wr.heap.size)
    (fun vi _ => n - (intOf vi).toNat)
  case atStart =>
    refine ⟨0, L.flatMap Ty.ncells, Nat.zero_le _, rfl, fun m hm j hj => ?_, flat5_len L, hown4, hB34, HW4.out⟩
    rw [flat5N L m j hm hj]
    unfold tti
    rw [if_neg (by omega)]
  case round =>
    obtain ⟨i, ys, hi0, rfl, hys, hyl, hown, hbw, hgw⟩ := hrel
    have k0' : wr.cell? ⟨w.heap.size, 0, none⟩ = some (.int .i64 (s : Int)) := (hbw.cell (p := ⟨w.heap.size, 0, none⟩) hw2).trans k0
    clear hown4 hB34 HW4
    by_cases hlt : i < n
    · have hltI : (i : Int) < (n : Int) := by omega
      have hi00 : (0 : Int) ≤ (i : Int) := by omega
      have hltL : Hid (i < L.length) := by show _ < _; rw [← HN.out]; exact hlt
      obtain ⟨nm, hnm⟩ : ∃ nm, Hid (nm = (ty L i).name) := ⟨_, rfl⟩
      obtain ⟨up, hup⟩ : ∃ up, Hid (up = (ty L i).up) := ⟨_, rfl⟩
      have q1 : wr.cell? ⟨gd, i * 5 + 1, none⟩ = some (.string nm) := by
        rw [hown.cellAt (i * 5 + 1) (by omega), hys.out i hltL.out 1 (by omega)]
        unfold tti
        rw [if_neg (by omega), hnm.out]
        rfl
      have hnl : nm.size ≤ 281474976710656 := by rw [hnm.out]; exact HNM.out i hltL.out
      have hup1 : -1000000 ≤ up := by rw [hup.out]; exact (HUP.out i hltL.out).1
      have hup2 : up ≤ 1000000 := by rw [hup.out]; exact (HUP.out i hltL.out).2
      go_wp2_with fail
      refine (clone_any nm wr hnl).mono ?_
      rintro e w1 ⟨rfl, hb1⟩
      have hown1 := own_below hown hb1
      have q1' := (hb1.cell (p := ⟨gd, i * 5 + 1, none⟩) hgw).trans q1
      have z1 := hown1.frozenAt (i * 5 + 1)
      have hs1 := (hown1.stored (i * 5 + 1) (.string nm)).1
      have hbw1 : Below gd W2 w1 := hbw.trans (hb1.mono (Nat.le_of_lt hgw))
      have hgw1 : gd < w1.heap.size := by have := hb1.size; omega
      obtain ⟨w2, hw2'⟩ : ∃ W, W = w1.setCell ⟨gd, i * 5 + 1, none⟩ (.string nm) := ⟨_, rfl⟩
      rw [← hw2'] at hs1
      have hbw2 : Below gd W2 w2 := by rw [hw2']; exact hbw1.setCell (p := ⟨gd, i * 5 + 1, none⟩) (Nat.le_refl _) _
      have hgw2 : gd < w2.heap.size := by rw [hw2']; simpa using hgw1
      have k02 : w2.cell? ⟨w.heap.size, 0, none⟩ = some (.int .i64 (s : Int)) := (hbw2.cell (p := ⟨w.heap.size, 0, none⟩) hw2).trans k0
      have q3 : w2.cell? ⟨gd, i * 5 + 3, none⟩ = some (.int .i64 up) := by
        rw [hs1.cellAt (i * 5 + 3) (by omega), List.getElem?_set_ne (by omega), hys.out i hltL.out 3 (by omega)]
        unfold tti
        rw [if_neg (by omega), hup.out]
        rfl
      have z3 := hs1.frozenAt (i * 5 + 3)
      clear hown hown1 hbw hbw1 hgw hb1 k0' q1
      go_upto_region 7 with fail
      rw [← hw2']
      clear hw2' q1' z1 hgw1
      have HREL : Hid (∀ (q : Nat) (u : Int), u = up - (s : Int) → ∃ (i' : Nat) (ys' : List Value), i' ≤ n ∧ Value.int .i64 ((i : Int) + 1) = .int .i64 (i' : Int) ∧ Hid (∀ m, m < L.length → ∀ j, j < 5 → ys'[m * 5 + j]? = (tti s L i' m).ncells[j]?) ∧ Hid (ys'.length = L.length * 5) ∧ ((w2.setCell ⟨gd, i * 5 + 3, none⟩ (.int .i64 u)).drewN q).ownsRow gd 85 5 (.slice (some ⟨gd, 0, none⟩) n n) n ys' ∧ Below gd W2 ((w2.setCell ⟨gd, i * 5 + 3, none⟩ (.int .i64 u)).drewN q) ∧ gd < ((w2.setCell ⟨gd, i * 5 + 3, none⟩ (.int .i64 u)).drewN q).heap.size) := by
        intro q u hu
        subst hu
        have hd := (hs1.stored (i * 5 + 3) (.int .i64 (up - s))).1
        have hbq : Below gd W2 (w2.setCell ⟨gd, i * 5 + 3, none⟩ (.int .i64 (up - s))) := hbw2.setCell (p := ⟨gd, i * 5 + 3, none⟩) (Nat.le_refl _) _
        refine ⟨i + 1, (ys.set (i * 5 + 1) (.string nm)).set (i * 5 + 3) (.int .i64 (up - s)), by omega, by simp, ?_, ?_, own_below hd ⟨rfl, rfl, rfl, Nat.le_refl _, fun _ _ => rfl⟩, hbq.trans ⟨rfl, rfl, rfl, Nat.le_refl _, fun _ _ => rfl⟩, by simpa using hgw2⟩
        · show ∀ m, _
          rw [hnm.out, hup.out]
          exact set2_tti ys s L i hyl.out hltL.out hys.out
        · show _ = _
          rw [List.length_set, List.length_set, hyl.out]
      clear hs1 hbw2 hys hyl hnm hup
      go_region
      go_wp2
      go_roundw
      case rel => exact HREL.out 1 _ rfl
      case measure => simp [intOf]; omega
    · have hie : i = n := by omega
      subst hie
      have hge : ¬ ((i : Int) < (i : Int)) := by omega
      have h0L : 0 < L.length := by rw [← HN.out]; exact h0
      have q2 : wr.cell? ⟨gd, 2, none⟩ = some (.int .i64 (tti s L i 0).no) := (hown.cellAt 2 (by omega)).trans (hys.out 0 h0L 2 (by omega))
      have z2 := hown.frozenAt 2
      have ho1 := (hown.stored 2 (.int .i64 0)).1
      have hb1 : Below gd W2 (wr.setCell ⟨gd, 2, none⟩ (.int .i64 0)) := hbw.setCell (p := ⟨gd, 2, none⟩) (Nat.le_refl _) _
      have q3 : (wr.setCell ⟨gd, 2, none⟩ (.int .i64 0)).cell? ⟨gd, 3, none⟩ = some (.int .i64 (tti s L i 0).up) := by
        rw [ho1.cellAt 3 (by omega), List.getElem?_set_ne (by omega)]
        exact hys.out 0 h0L 3 (by omega)
      have z3 := ho1.frozenAt 3
      obtain ⟨W5, hW5⟩ : ∃ W, W = (wr.setCell ⟨gd, 2, none⟩ (.int .i64 0)).setCell ⟨gd, 3, none⟩ (.int .i64 (-1)) := ⟨_, rfl⟩
      have HO5 : Hid (NdRow W5 gd (.slice (some ⟨gd, 0, none⟩) i i) F) := by
        have h := (ho1.stored 3 (.int .i64 (-1))).1
        have e := set_last ys s L h0L hyl.out (fun m hm j hj => by rw [show tti s L L.length m = tti s L i m by rw [← HN.out]]; exact hys.out m hm j hj)
        rw [e, ← HF.out] at h
        show World.ownsRow _ _ _ _ _ _ _
        rw [HFL.out, hW5]
        exact h
      have hb5 : Below gd W2 W5 := by rw [hW5]; exact hb1.setCell (p := ⟨gd, 3, none⟩) (Nat.le_refl _) _
      have r5 := (hb5.cell (p := ⟨w.heap.size + 1, 0, none⟩) hw21).trans r0
      have f5 := (hb5.frozen (p := ⟨w.heap.size + 1, 0, none⟩) hw21).trans f0
      have hs5 : w.heap.size + 1 < W5.heap.size := by rw [hW5]; simp; omega
      have HROW : Hid (NdRow (W5.setCell ⟨w.heap.size + 1, 0, none⟩ (.slice (some ⟨gd, 0, none⟩) i i)) w.heap.size (.slice (some ⟨gd, 0, none⟩) i i) F) := (NdRow.setCell HO5.out (a := ⟨w.heap.size + 1, 0, none⟩) hw21 _).lower (by omega)
      have hB5 : Below w.heap.size w W5 := hB2.trans (hb5.mono (by omega))
      have hle : w.heap.size ≤ w.heap.size + 1 := by omega
      clear hown ho1 hb1 hbw hb5 hys hyl k0' HO5
      go_upto_region 10 with fail
      rw [← hW5]
      clear hW5 q2 q3 z2 z3
      go_wp2
      (try simp only [Exit.inBlock, Exit.then])
      refine bodyPost_ret (v := .agg #[.slice (some ⟨gd, 0, none⟩) i i]) ?_ rfl ⟨.slice (some ⟨gd, 0, none⟩) i i, rfl, HROW.out, ?_⟩
      · rw [results_cell1 rfl]
        go_simp
      · exact hB5.setCell (p := ⟨w.heap.size + 1, 0, none⟩) hle _

end Go.Proofs.Ytpajdmhakdbkjaa

namespace Go.Proofs.Ytpajdmhakdbkjaa
open Plain Sch

theorem flatL_mem : ∀ (l : List Tr) (p s : Nat) (y : Ty), y ∈ flatL l p s → ∃ x ∈ l, ∃ s', y ∈ flat x p s'
  | [], _, _, y, h => by simp [flatL] at h
  | x :: l, p, s, y, h => by
    rw [flatL, List.mem_append] at h
    rcases h with h | h
    · exact ⟨x, by simp, s, h⟩
    · obtain ⟨z, hz, s', hs⟩ := flatL_mem l p _ y h
      exact ⟨z, by simp [hz], s', hs⟩

theorem vfits_head (d : Nat) (v t : Tr) (h : vfits d v t = true) : v.name.size ≤ 30 := by
  by_cases hk : t.kind = 2
  · cases v with
    | mk k n no m mo vs => exact ((vfits_text d k n no m mo vs t hk).1 h).2.2.1
  · have hh : headOk v t = true := by
      cases d <;> · rw [vfits, Bool.and_eq_true] at h; exact h.1
    rw [((headOk_iff v t).1 hh).2.1 hk]
    decide

theorem vfits_names : ∀ (d : Nat) (v t : Tr) (up : Int) (s : Nat), vfits d v t = true → ∀ y ∈ flat v up s, y.name.size ≤ 30 := by
  intro d
  induction d with
  | zero =>
    intro v t up s h y hy
    have h1 := vfits_head 0 v t h
    have h2 : v.kids = [] := by
      rw [vfits, Bool.and_eq_true] at h
      have h := h.2
      split at h
      · rw [Bool.and_eq_true] at h; simpa using h.2
      · simpa using h
    rw [flat_eq, h2] at hy
    simp [flatL] at hy
    subst hy
    exact h1
  | succ d ih =>
    intro v t up s h y hy
    have h1 := vfits_head (d + 1) v t h
    rw [flat_eq, List.mem_cons] at hy
    rcases hy with rfl | hy
    · exact h1
    · obtain ⟨x, hx, s', hy⟩ := flatL_mem _ _ _ _ hy
      rw [vfits, Bool.and_eq_true] at h
      have h := h.2
      split at h
      · rw [Bool.and_eq_true] at h
        have h2 : v.kids = [] := by simpa using h.2
        rw [h2] at hx
        simp at hx
      · split at h
        · have := List.all_eq_true.1 h x hx
          rw [Bool.and_eq_true] at this
          have h3 := this.2
          split at h3
          · exact ih x _ _ _ h3 y hy
          · cases h3
        · rw [Bool.and_eq_true, Bool.and_eq_true] at h
          have h3 := List.all_eq_true.1 h.1.1 x hx
          split at h3
          · exact ih x _ _ _ h3 y hy
          · cases h3

theorem fit_all {V T : List Ty} (h : fof4 V T = true) : ∀ y ∈ V, y.name.size ≤ 30 ∧ -1 ≤ y.up ∧ y.up ≤ 40 := by
  obtain ⟨a, b, hg, _, _⟩ := fit_flat h
  obtain ⟨v, hv, _, hf⟩ := (fof4_yes V T hg a b).1 h
  dsimp only at hv
  unfold fof4 at h
  simp only [Bool.and_eq_true] at h
  obtain ⟨_, _, hall⟩ := nds_parts V h.2.1
  intro y hy
  refine ⟨vfits_names _ v _ _ _ hf y (by rw [← hv]; exact hy), ?_⟩
  obtain ⟨i, hi, e⟩ := List.getElem_of_mem hy
  have ey : ty V i = y := by unfold ty; rw [List.getD_eq_getElem?_getD, List.getElem?_eq_getElem hi, e]; rfl
  by_cases h0 : i = 0
  · subst h0
    have := (nds_zero V (hall 0 hi)).1
    rw [ey] at this
    omega
  · have := nds_step V i (by omega) (hall i hi)
    rw [ey] at this
    omega

/-- the pieces of a value that fits -/
structure FitP (w : World) (g o : Nat) (V : List Ty) (P : List (Nat × List Ty)) : Prop where
  cut : Cuts w g o 40 P
  len : P.length = (tree V 41 0).kids.length
  at' : ∀ (i : Nat) (q : Nat × List Ty), P[i]? = some q → ∃ x, (tree V 41 0).kids[i]? = some x ∧ q.2 = flat x 0 q.1
  nam : ∀ q ∈ P, ∀ i, i < q.2.length → (ty q.2 i).name.size ≤ 281474976710656
  ups : ∀ q ∈ P, ∀ i, i < q.2.length → -1000000 ≤ (ty q.2 i).up ∧ (ty q.2 i).up ≤ 1000000

theorem fit_pieces {V T : List Ty} {w : World} {g o : Nat} (h : fof4 V T = true) (hin : PcIn w g o (0, V)) (hn : ∀ i, i < V.length → (ty V i).name.size ≤ maxLen) : FitP w g o V (own 0 1 (V.drop 1)) := by
  obtain ⟨hd, M, hV, hP⟩ := fit_own h
  obtain ⟨_, b, _, _, _⟩ := fit_flat h
  have hall := fit_all h
  have eM : V.drop 1 = M := by rw [hV]; rfl
  rw [eM]
  have hc : Cuts w g o 40 (own 0 1 M) := by
    have e0 : own 0 1 M = own 0 (0 + 1) M := rfl
    rw [e0]
    rw [hV] at hin hn
    exact own_cuts hin (by rw [hV] at b; omega) hn
  have hmem : ∀ q ∈ own 0 1 M, ∀ i, i < q.2.length → ty q.2 i ∈ V := fun q hq i hi => by
    have h1 := ty_mem hi
    have h2 : ty q.2 i ∈ (own 0 1 M).flatMap Prod.snd := List.mem_flatMap.2 ⟨q, hq, h1⟩
    rw [own_join] at h2
    rw [hV]
    exact List.mem_cons_of_mem _ h2
  refine ⟨hc, by rw [hP, segs_len], fun i q hi => ?_, fun q hq i hi => ?_, fun q hq i hi => ?_⟩
  · rw [hP] at hi
    obtain ⟨x, hx, e⟩ := segs_at _ _ _ _ _ hi
    exact ⟨x, hx, e⟩
  · have := (hall _ (hmem q hq i hi)).1
    omega
  · have := (hall _ (hmem q hq i hi)).2
    omega

end Go.Proofs.Ytpajdmhakdbkjaa
