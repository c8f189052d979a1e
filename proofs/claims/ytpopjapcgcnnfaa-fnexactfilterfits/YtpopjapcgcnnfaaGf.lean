/- How the program's shapes lie in memory: values behind an interface, the parts of a message a row. The parts of a type: the program's partsAt. -/
import Derived.Test.YtpopjapcgcnnfaaGd
import Derived.Test.YtpopjapcgcnnfaaGa
namespace Go.Proofs.Ytpopjapcgcnnfaa
open Go.RowKit Plain Sch

theorem Try.infoPt : (Try.prog.info? 122).map (fun i => (i.zero, i.size, i.bytes)) = some (some (.agg #[.string ⟨#[]⟩, .int .i64 0, .bool false, .nilIface]), 4, 48) := by kernel_rfl

def ptCells (t : Tr) (v : Value) : List Value := [.string t.name, .int .i64 t.no, .bool t.must, v]

/-- the four cells of a part -/
def PtIn (w : World) (g o : Nat) (t : Tr) (v : Value) : Prop :=
  w.cell? ⟨g, o, none⟩ = some (.string t.name) ∧ w.cell? ⟨g, o + 1, none⟩ = some (.int .i64 t.no) ∧ w.cell? ⟨g, o + 2, none⟩ = some (.bool t.must) ∧ w.cell? ⟨g, o + 3, none⟩ = some v

theorem PtIn.kept {w w' : World} {g o : Nat} {t : Tr} {c : Value} (h : PtIn w g o t c) (hb : w'.heap[g]? = w.heap[g]?) : PtIn w' g o t c := by
  obtain ⟨c0, c1, c2, c3⟩ := h
  exact ⟨(cell_blockEq hb).trans c0, (cell_blockEq hb).trans c1, (cell_blockEq hb).trans c2, (cell_blockEq hb).trans c3⟩

/-- a shape that has no parts -/
def Leaf (v : Value) (t : Tr) : Prop :=
  t.kids = [] ∧ ((t.kind = 1 ∧ v = .iface 183 (.agg #[])) ∨ (t.kind = 2 ∧ v = .iface 184 (.agg #[])) ∨ (t.kind = 3 ∧ v = .iface 186 (.agg #[.int .i64 t.most])))

/-- a shape, d steps deep at most: in blocks of S alone -/
def ShIn : Nat → World → (Nat → Prop) → Value → Tr → Prop
  | 0, _, _, v, t => Leaf v t
  | d + 1, w, S, v, t => Leaf v t ∨ (t.kind = 4 ∧ ∃ (x : Tr) (l : List Tr) (u : TypeId × Value), t.kids = x :: l ∧ v = .iface 188 (.agg #[.iface u.1 u.2]) ∧ ShIn d w S (.iface u.1 u.2) x) ∨
    (t.kind = 5 ∧ ∃ ao cap, v = .iface 190 (.agg #[.slice ao t.kids.length cap]) ∧ t.kids.length ≤ cap ∧ cap ≤ maxLen ∧
      ∀ i x, t.kids[i]? = some x → ∃ (g o : Nat) (u : TypeId × Value), ao = some ⟨g, o, none⟩ ∧ S g ∧ PtIn w g (o + i * 4) x (.iface u.1 u.2) ∧ ShIn d w S (.iface u.1 u.2) x)

/-- parts as a slice -/
def PartsIn (d : Nat) (w : World) (S : Nat → Prop) (c : Value) (l : List Tr) : Prop :=
  ∃ ao cap, c = .slice ao l.length cap ∧ l.length ≤ cap ∧ cap ≤ maxLen ∧
    ∀ i x, l[i]? = some x → ∃ (g o : Nat) (u : TypeId × Value), ao = some ⟨g, o, none⟩ ∧ S g ∧ PtIn w g (o + i * 4) x (.iface u.1 u.2) ∧ ShIn d w S (.iface u.1 u.2) x

theorem shIn_message {d : Nat} {w : World} {S : Nat → Prop} {c : Value} {t : Tr} (hk : t.kind = 5) (h : PartsIn d w S c t.kids) : ShIn (d + 1) w S (.iface 190 (.agg #[c])) t := by
  obtain ⟨ao, cap, rfl, h1, h2, h3⟩ := h
  exact .inr (.inr ⟨hk, ao, cap, rfl, h1, h2, h3⟩)

theorem ShIn.kept {w w' : World} {S S' : Nat → Prop} (hS : ∀ g, S g → w'.heap[g]? = w.heap[g]?) (hS' : ∀ g, S g → S' g) : ∀ {d : Nat} {v : Value} {t : Tr}, ShIn d w S v t → ShIn d w' S' v t
  | 0, _, _, h => h
  | d + 1, v, t, h => by
    rcases h with h | ⟨hk, x, l, u, h1, h2, h3⟩ | ⟨hk, ao, cap, h1, h2, h3, h4⟩
    · exact .inl h
    · exact .inr (.inl ⟨hk, x, l, u, h1, h2, ShIn.kept hS hS' h3⟩)
    · refine .inr (.inr ⟨hk, ao, cap, h1, h2, h3, fun i x hi => ?_⟩)
      obtain ⟨g, o, u, ha, hg, hn, hh⟩ := h4 i x hi
      exact ⟨g, o, u, ha, hS' g hg, hn.kept (hS g hg), ShIn.kept hS hS' hh⟩

theorem PartsIn.kept {d : Nat} {w w' : World} {S S' : Nat → Prop} {c : Value} {l : List Tr} (h : PartsIn d w S c l) (hS : ∀ g, S g → w'.heap[g]? = w.heap[g]?) (hS' : ∀ g, S g → S' g) : PartsIn d w' S' c l := by
  obtain ⟨ao, cap, h1, h2, h3, h4⟩ := h
  refine ⟨ao, cap, h1, h2, h3, fun i x hi => ?_⟩
  obtain ⟨g, o, u, ha, hg, hn, hh⟩ := h4 i x hi
  exact ⟨g, o, u, ha, hS' g hg, hn.kept (hS g hg), hh.kept hS hS'⟩

theorem leaf_form {v : Value} {t : Tr} (h : Leaf v t) : ∃ u : TypeId × Value, v = .iface u.1 u.2 := by
  rcases h.2 with ⟨_, rfl⟩ | ⟨_, rfl⟩ | ⟨_, rfl⟩ <;> exact ⟨(_, _), rfl⟩

theorem ShIn.form {d : Nat} {w : World} {S : Nat → Prop} {v : Value} {t : Tr} (h : ShIn d w S v t) : ∃ u : TypeId × Value, v = .iface u.1 u.2 := by
  cases d with
  | zero => exact leaf_form h
  | succ d =>
    rcases h with h | ⟨_, x, l, u, _, rfl, _⟩ | ⟨_, ao, cap, rfl, _⟩
    · exact leaf_form h
    · exact ⟨(_, _), rfl⟩
    · exact ⟨(_, _), rfl⟩

theorem one4 {nm : ByteArray} {no : Int} {m : Bool} {a : TypeId} {x : Value} : ∀ u ∈ [Value.string nm, .int .i64 no, .bool m, .iface a x], u.oneCell' = true := by
  intro u hu
  simp at hu
  rcases hu with rfl | rfl | rfl | rfl <;> rfl

/-- what holds when n parts have been put to a row -/
def PInv (lo b : Nat) (d : Nat) (w1 : World) (l : List Tr) (vp : Value) (wr : World) : Prop :=
  ∃ (rows : List (Tr × (TypeId × Value))) (S : Nat → Prop), rows.map Prod.fst = l ∧
    wr.ownsRow b 122 4 vp l.length (rows.flatMap fun x => ptCells x.1 (.iface x.2.1 x.2.2)) ∧ (∀ x ∈ rows, ShIn d wr S (.iface x.2.1 x.2.2) x.1) ∧
    (∀ g, S g → lo ≤ g ∧ g < wr.heap.size) ∧ (∀ g, vp.ownBlock = some g → ¬ S g) ∧ Below b w1 wr

theorem PInv.own {lo b d : Nat} {w1 wr : World} {l : List Tr} {vp : Value} (h : PInv lo b d w1 l vp wr) : ∃ xs, wr.ownsRow b 122 4 vp l.length xs := by
  obtain ⟨rows, S, _, h, _⟩ := h
  exact ⟨_, h⟩

theorem PInv.below {lo b d : Nat} {w1 wr : World} {l : List Tr} {vp : Value} (h : PInv lo b d w1 l vp wr) : Below b w1 wr := by
  obtain ⟨rows, S, _, _, _, _, _, h⟩ := h
  exact h

theorem PInv.start {lo b d : Nat} {w1 : World} : PInv lo b d w1 [] (.slice none 0 0) w1 :=
  ⟨[], fun _ => False, rfl, World.ownsRow_nil _ _ _ _, fun x hx => by simp at hx, fun g hg => hg.elim, fun g _ => id, Below.refl _ _⟩

/-- memory was made, nothing old has turned -/
theorem PInv.more {lo b d : Nat} {w1 wr w2 : World} {l : List Tr} {vp : Value} (h : PInv lo b d w1 l vp wr) (hb : Below wr.heap.size wr w2) (hbw : b ≤ wr.heap.size) : PInv lo b d w1 l vp w2 := by
  obtain ⟨rows, S, h1, h2, h3, h4, h5, h6⟩ := h
  refine ⟨rows, S, h1, own_below h2 hb, fun x hx => (h3 x hx).kept (fun g hg => hb.block g (h4 g hg).2) (fun _ h => h), fun g hg => ?_, h5, h6.trans (hb.mono hbw)⟩
  have := h4 g hg
  have := hb.size
  omega

theorem own_same {w : World} {b b' e size n : Nat} {v : Value} {xs ys : List Value} (h : w.ownsRow b e size v n xs) (h' : w.ownsRow b' e size v n ys) : xs = ys := by
  obtain ⟨hl, h⟩ := h
  obtain ⟨hl', h'⟩ := h'
  rcases h with ⟨hv, h0⟩ | ⟨g, cap, cur, hv, _, hg, _, _, _, ht⟩
  · subst h0
    rw [Nat.zero_mul] at hl hl'
    rw [List.eq_nil_of_length_eq_zero hl, List.eq_nil_of_length_eq_zero hl']
  · rcases h' with ⟨hv', h0⟩ | ⟨g', cap', cur', hv', _, hg', _, _, _, ht'⟩
    · rw [hv] at hv'; cases hv'
    · rw [hv] at hv'
      cases hv'
      rw [hg] at hg'
      cases hg'
      rw [← ht, ← ht']

theorem flat4 {α : Type} (F : α → List Value) (hF : ∀ x, (F x).length = 4) (l : List α) (i j : Nat) (x : α) (h : l[i]? = some x) (hj : j < 4) : (l.flatMap F)[i * 4 + j]? = (F x)[j]? := by
  induction l generalizing i with
  | nil => simp at h
  | cons y l ih =>
    rw [List.flatMap_cons]
    cases i with
    | zero =>
      simp at h
      subst h
      rw [Nat.zero_mul, Nat.zero_add, List.getElem?_append_left (by rw [hF]; omega)]
    | succ i =>
      simp at h
      rw [List.getElem?_append_right (by rw [hF]; omega), ← ih i h, hF]
      congr 1
      omega

/-- the row as parts -/
theorem PInv.parts {lo b d : Nat} {w1 wr : World} {l : List Tr} {vp : Value} (h : PInv lo b d w1 l vp wr) (hlo : lo ≤ b) : PartsIn d wr (fun g => lo ≤ g ∧ g < wr.heap.size) vp l := by
  obtain ⟨rows, S, rfl, h2, h3, h4, h5, h6⟩ := h
  have h0 := h2
  rcases h2.2 with ⟨rfl, hn0⟩ | ⟨g, cap, cur, rfl, hB, hb, hnc, hcm, _⟩
  · refine ⟨none, 0, by rw [hn0], by omega, by unfold maxLen; omega, fun i t hi => ?_⟩
    have : i < (rows.map Prod.fst).length := (List.getElem?_eq_some_iff.1 hi).1
    omega
  · refine ⟨some ⟨g, 0, none⟩, cap, rfl, by omega, hcm, fun i t hi => ?_⟩
    have hil : i < (rows.map Prod.fst).length := (List.getElem?_eq_some_iff.1 hi).1
    rw [List.getElem?_map, Option.map_eq_some_iff] at hi
    obtain ⟨x, hx, rfl⟩ := hi
    refine ⟨g, 0, x.2, rfl, by have := h0.lt g rfl; omega, ?_, (h3 x (List.mem_of_getElem? hx)).kept (fun _ _ => rfl) h4⟩
    have c : ∀ j, j < 4 → wr.cell? ⟨g, 0 + i * 4 + j, none⟩ = (ptCells x.1 (.iface x.2.1 x.2.2))[j]? := fun j hj => by
      rw [Nat.zero_add, h0.cellAt (i * 4 + j) (by omega)]
      exact flat4 _ (fun _ => rfl) rows i j x hx hj
    exact ⟨c 0 (by omega), c 1 (by omega), c 2 (by omega), c 3 (by omega)⟩

/-- one more part: wa is the world with the new cells laid, w9 the one behind the append -/
theorem PInv.step {lo b d : Nat} {w1 wr w2 w9 : World} {l : List Tr} {vp : Value} {t : Tr} {u : TypeId × Value} {g9 cap9 : Nat} {xs cs : List Value} {S2 : Nat → Prop}
    (h : PInv lo b d w1 l vp wr) (hbw : b ≤ wr.heap.size) (hb2 : Below wr.heap.size wr w2) (hsh : ShIn d w2 S2 (.iface u.1 u.2) t) (hS2 : ∀ g, S2 g → lo ≤ g ∧ g < w2.heap.size ∧ vp.ownBlock ≠ some g)
    (hown : wr.ownsRow b 122 4 vp l.length xs) (hcs : cs = ptCells t (.iface u.1 u.2)) (hown9 : w9.ownsRow b 122 4 (.slice (some ⟨g9, 0, none⟩) (l.length + 1) cap9) (l.length + 1) (xs ++ cs))
    (hgrow9 : w2.grownBy w9 vp.ownBlock) (hat9 : vp.ownBlock = some g9 ∨ w2.heap.size ≤ g9) : PInv lo b d w1 (l ++ [t]) (.slice (some ⟨g9, 0, none⟩) (l.length + 1) cap9) w9 := by
  obtain ⟨rows, S, h1, h2, h3, h4, h5, h6⟩ := h
  have hx : xs = rows.flatMap fun x => ptCells x.1 (.iface x.2.1 x.2.2) := own_same hown h2
  subst hx
  subst hcs
  have hs2 := hb2.size
  have hs9 := hgrow9.size
  have hkl := h2.lt
  have blk : ∀ g, g < w2.heap.size → some g ≠ vp.ownBlock → w9.heap[g]? = w2.heap[g]? := fun g h1 h2 => hgrow9.block g h1 h2
  refine ⟨rows ++ [(t, u)], fun g => S g ∨ S2 g, by rw [List.map_append, h1]; rfl, ?_, ?_, ?_, ?_, ?_⟩
  · rw [List.length_append, List.length_singleton, List.flatMap_append]
    simpa using hown9
  · intro x hx
    rcases List.mem_append.1 hx with hx | hx
    · refine (h3 x hx).kept (fun g hg => ?_) (fun g hg => .inl hg)
      have a := h4 g hg
      rw [blk g (by omega) (fun e => h5 g e.symm hg), hb2.block g a.2]
    · simp at hx
      subst hx
      refine hsh.kept (fun g hg => ?_) (fun g hg => .inr hg)
      have a := hS2 g hg
      exact blk g a.2.1 (fun e => a.2.2 e.symm)
  · intro g hg
    rcases hg with hg | hg
    · have := h4 g hg; omega
    · have := hS2 g hg; omega
  · intro g hg
    simp [Value.ownBlock] at hg
    subst hg
    rintro (h | h)
    · rcases hat9 with h9 | h9
      · exact h5 _ h9 h
      · have := h4 _ h; omega
    · have a := hS2 _ h
      rcases hat9 with h9 | h9
      · exact a.2.2 h9
      · omega
  · exact (h6.trans (hb2.mono hbw)).grown hgrow9 (by omega) (fun k hk => (hkl k hk).1)

end Go.Proofs.Ytpopjapcgcnnfaa

namespace Go.Proofs.Ytpopjapcgcnnfaa
open Go.RowKit Plain Sch

def partsTo (T : List Ty) (k i : Nat) : List Nat := (List.range i).filter fun i => decide ((ty T i).up = (k : Int))

theorem partsTo_yes (T : List Ty) (k i : Nat) (h : (ty T i).up = (k : Int)) : partsTo T k (i + 1) = partsTo T k i ++ [i] := by
  unfold partsTo
  rw [List.range_succ, List.filter_append]
  simp [h]

theorem partsTo_no (T : List Ty) (k i : Nat) (h : ¬ (ty T i).up = (k : Int)) : partsTo T k (i + 1) = partsTo T k i := by
  unfold partsTo
  rw [List.range_succ, List.filter_append]
  simp [h]

theorem partsTo_len (T : List Ty) (k i : Nat) : (partsTo T k i).length ≤ i := by
  unfold partsTo
  refine Nat.le_trans (List.length_filter_le _ _) ?_
  simp

/-- of a good schema the parts lie behind their type -/
theorem parts_kids (T : List Ty) (h : gs T = true) (k : Nat) : partsTo T k T.length = kids T k := by
  unfold partsTo kids
  apply List.filter_congr
  intro x hx
  have hx' := List.mem_range.1 hx
  have hu := ups_of T (by have := (gs_parts T h).1; omega) (gs_parts T h).2.2.1
  by_cases he : (ty T x).up = (k : Int)
  · have : k < x := by
      by_cases h0 : x = 0
      · subst h0; have := hu.1; omega
      · have := hu.2 x (by omega) hx'; omega
    simp [he, this]
  · simp [he]

set_option maxRecDepth 100000 in
set_option maxHeartbeats 4000000 in
theorem partsAt_any (T : List Ty) (v : Value) (k : Nat) (w : World) (hT : TysAt w w.heap.size v T) (hk : k < T.length) (hl : T.length ≤ 2097152) :
    Calls Try.prog 112 #[v, .int .i64 k] w fun e w' => ∃ r, e = .returned r ∧ w'.ownsRow w.heap.size 3 1 r (partsTo T k T.length).length (ints (partsTo T k T.length)) ∧ Below w.heap.size w w' := by
  obtain ⟨i0, hi, hz0, hz1, hz2⟩ := info_parts Try.infoInt
  obtain ⟨g, o, cap, rfl, hlc, hcm, hg, hrow, _⟩ := hT.open (by omega)
  clear hT
  have hcm' : cap ≤ 9223372036854775807 := by unfold maxLen at hcm; omega
  go_enter Try.func112, Try.ntmps112
  go_wp2
  go_loopw [5, 10] (fun vl vi wr => ∃ (i : Nat), i ≤ T.length ∧ vi = .int .i64 (i : Int) ∧ wr.ownsRow w.heap.size 3 1 vl (partsTo T k i).length (ints (partsTo T k i)) ∧ Below w.heap.size w wr)
    (fun _ vi _ => T.length - (intOf vi).toNat)
  case atStart => exact ⟨0, by omega, by go_num, World.ownsRow_nil _ _ _ _, Below.refl _ _⟩
  case round =>
    obtain ⟨i, hil, rfl, hown, hbw⟩ := hrel
    have hkl := partsTo_len T k i
    by_cases hlt : i < T.length
    · have hlt' : (i : Int) < (T.length : Int) := by omega
      have hsz : g < wr.heap.size := by have := hbw.size; omega
      have hci := (hrow i hlt).below hbw hg
      obtain ⟨ti, hti⟩ : ∃ t, ty T i = t := ⟨_, rfl⟩
      have HTI : Hid (ty T i = ti) := hti
      rw [hti] at hci
      clear hti hrow
      obtain ⟨kind, name, no, must, up, most⟩ := ti
      obtain ⟨c0, c1, c2, c3, c4, c5⟩ := hci
      dsimp only at c0 c1 c2 c3 c4 c5
      by_cases hup : up = (k : Int)
      · have HK : Hid (partsTo T k (i + 1) = partsTo T k i ++ [i]) := partsTo_yes T k i (by rw [HTI.out]; exact hup)
        subst hup
        generalize partsTo T k i = ks at hown hkl HK
        go_wp2_with (at_builtin; refine wpList_append_own _ rfl _ _ 67 rfl w.heap.size 3 i0 (.int .i64 0) 1 8 Try.underlying67 hi hz0 hz1 hz2 rfl (by decide) _ _ _ rfl ((hown.alloc _).alloc _) ⟨wr.heap.size + 1, 0, none⟩ 1 1 [Value.int .i64 (i : Int)] rfl rfl ?c1 ?c2 ?c3 ?c4 ?c5 ?_)
        case c1 =>
          intro j u hj
          match j, hj with
          | 0, hj => simp at hj; subst hj; simp [Addr.add]
          | j + 1, hj => simp at hj
        case c2 => intro u hu; simp at hu; subst hu; rfl
        case c3 => unfold maxLen; omega
        case c4 => omega
        case c5 => have := hbw.size; simp; omega
        intro v' w1 hown' hgrow _
        have hlt9 := hown.lt
        have hs9 := hbw.size
        have hbw1 : Below w.heap.size w w1 := ((hbw.alloc hbw.size _).alloc (by simp; omega) _).grown hgrow (by simp; omega) (fun k hk => (hlt9 k hk).1)
        have hown1 : w1.ownsRow w.heap.size 3 1 v' (ks ++ [i]).length (ints (ks ++ [i])) := by
          unfold ints
          rw [List.map_append, List.length_append, List.length_singleton]
          simpa [ints] using hown'
        clear hgrow hown' hlt9 hown hbw
        go_wp2
        go_roundw
        case rel => exact ⟨i + 1, by omega, by go_num, by rw [HK.out]; exact hown1, hbw1⟩
        case measure => simp [intOf]; omega
      · have HK : Hid (partsTo T k (i + 1) = partsTo T k i) := partsTo_no T k i (by rw [HTI.out]; exact hup)
        have hup' : (up == (k : Int)) = false := by simpa using hup
        clear hup
        generalize partsTo T k i = ks at hown hkl HK
        go_wp2
        go_roundw
        case rel => exact ⟨i + 1, by omega, by go_num, by rw [HK.out]; exact hown.alloc _, hbw.alloc hbw.size _⟩
        case measure => simp [intOf]; omega
    · have hke : i = T.length := by omega
      subst hke
      have hge : ¬ ((T.length : Int) < (T.length : Int)) := by omega
      go_wp2
      go_ret
      exact ⟨_, rfl, hown, hbw⟩


end Go.Proofs.Ytpopjapcgcnnfaa
