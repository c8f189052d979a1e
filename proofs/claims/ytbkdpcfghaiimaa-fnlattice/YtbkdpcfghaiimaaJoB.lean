/- The program's joins of shapes and of parts. -/
import Derived.Test.YtbkdpcfghaiimaaGm
import Derived.Test.YtbkdpcfghaiimaaGi
import Derived.Deep.DeepCutAuto
namespace Go.Proofs.Ytbkdpcfghaiimaa
open Go.RowKit Plain Sch

/-- a row of parts whose shapes lie in blocks of P, or in new ones, apart from the row -/
def PJ (P : Nat → Prop) (b d : Nat) (w1 : World) (l : List Tr) (vp : Value) (wr : World) : Prop :=
  ∃ (rows : List (Tr × (TypeId × Value))) (S : Nat → Prop), rows.map Prod.fst = l ∧
    wr.ownsRow b 86 4 vp l.length (rows.flatMap fun x => ptCells x.1 (.iface x.2.1 x.2.2)) ∧ (∀ x ∈ rows, ShIn d wr S (.iface x.2.1 x.2.2) x.1) ∧
    (∀ g, S g → (P g ∨ b ≤ g) ∧ g < wr.heap.size) ∧ (∀ g, vp.ownBlock = some g → ¬ S g) ∧ Below b w1 wr

theorem PJ.own {P : Nat → Prop} {b d : Nat} {w1 wr : World} {l : List Tr} {vp : Value} (h : PJ P b d w1 l vp wr) : ∃ xs, wr.ownsRow b 86 4 vp l.length xs := by
  obtain ⟨rows, S, _, h, _⟩ := h
  exact ⟨_, h⟩

theorem PJ.below {P : Nat → Prop} {b d : Nat} {w1 wr : World} {l : List Tr} {vp : Value} (h : PJ P b d w1 l vp wr) : Below b w1 wr := by
  obtain ⟨rows, S, _, _, _, _, _, h⟩ := h
  exact h

theorem PJ.start {P : Nat → Prop} {b d : Nat} {w1 : World} : PJ P b d w1 [] (.slice none 0 0) w1 :=
  ⟨[], fun _ => False, rfl, World.ownsRow_nil _ _ _ _, fun x hx => by simp at hx, fun g hg => hg.elim, fun g _ => id, Below.refl _ _⟩

theorem PJ.more {P : Nat → Prop} {b d : Nat} {w1 wr w2 : World} {l : List Tr} {vp : Value} (h : PJ P b d w1 l vp wr) (hb : Below wr.heap.size wr w2) (hbw : b ≤ wr.heap.size) : PJ P b d w1 l vp w2 := by
  obtain ⟨rows, S, h1, h2, h3, h4, h5, h6⟩ := h
  refine ⟨rows, S, h1, own_below h2 hb, fun x hx => (h3 x hx).kept (fun g hg => hb.block g (h4 g hg).2) (fun _ h => h), fun g hg => ?_, h5, h6.trans (hb.mono hbw)⟩
  have h := h4 g hg
  have := hb.size
  exact ⟨h.1, by omega⟩

theorem PJ.parts {P : Nat → Prop} {b d : Nat} {w1 wr : World} {l : List Tr} {vp : Value} (h : PJ P b d w1 l vp wr) : PartsIn d wr (fun g => (P g ∨ b ≤ g) ∧ g < wr.heap.size) vp l := by
  obtain ⟨rows, S, rfl, h2, h3, h4, h5, h6⟩ := h
  have h0 := h2
  rcases h2.2 with ⟨rfl, hn0⟩ | ⟨g, cap, cur, rfl, hB, hb, hnc, hcm, _⟩
  · refine ⟨none, 0, by rw [hn0], by omega, by unfold maxLen; omega, fun i t hi => ?_⟩
    have : i < (rows.map Prod.fst).length := (List.getElem?_eq_some_iff.1 hi).1
    omega
  · refine ⟨some ⟨g, 0, none⟩, cap, rfl, by omega, hcm, fun i t hi => ?_⟩
    have hil : i < (rows.map Prod.fst).length := (List.getElem?_eq_some_iff.1 hi).1
    rw [List.getElem?_map, Option.map_eq_some_iff] at hi
    obtain ⟨x, hx, rfl⟩ := hi
    refine ⟨g, 0, x.2, rfl, by have := h0.lt g rfl; exact ⟨.inr this.1, this.2⟩, ?_, (h3 x (List.mem_of_getElem? hx)).kept (fun _ _ => rfl) h4⟩
    have c : ∀ j, j < 4 → wr.cell? ⟨g, 0 + i * 4 + j, none⟩ = (ptCells x.1 (.iface x.2.1 x.2.2))[j]? := fun j hj => by
      rw [Nat.zero_add, h0.cellAt (i * 4 + j) (by omega)]
      exact flat4 _ (fun _ => rfl) rows i j x hx hj
    exact ⟨c 0 (by omega), c 1 (by omega), c 2 (by omega), c 3 (by omega)⟩

theorem PJ.step {P : Nat → Prop} {b d : Nat} {w1 wr w2 w9 : World} {l : List Tr} {vp : Value} {t : Tr} {u : TypeId × Value} {g9 cap9 : Nat} {xs cs : List Value} {S2 : Nat → Prop}
    (h : PJ P b d w1 l vp wr) (hbw : b ≤ wr.heap.size) (hb2 : Below wr.heap.size wr w2) (hsh : ShIn d w2 S2 (.iface u.1 u.2) t) (hS2 : ∀ g, S2 g → (P g ∨ b ≤ g) ∧ g < w2.heap.size ∧ vp.ownBlock ≠ some g)
    (hown : wr.ownsRow b 86 4 vp l.length xs) (hcs : cs = ptCells t (.iface u.1 u.2)) (hown9 : w9.ownsRow b 86 4 (.slice (some ⟨g9, 0, none⟩) (l.length + 1) cap9) (l.length + 1) (xs ++ cs))
    (hgrow9 : w2.grownBy w9 vp.ownBlock) (hat9 : vp.ownBlock = some g9 ∨ w2.heap.size ≤ g9) : PJ P b d w1 (l ++ [t]) (.slice (some ⟨g9, 0, none⟩) (l.length + 1) cap9) w9 := by
  obtain ⟨rows, S, h1, h2, h3, h4, h5, h6⟩ := h
  have hx : xs = rows.flatMap fun x => ptCells x.1 (.iface x.2.1 x.2.2) := own_same hown h2
  subst hx
  subst hcs
  have hs2 := hb2.size
  have hs9 := hgrow9.size
  have hkl := h2.lt
  have blk : ∀ g, g < w2.heap.size → some g ≠ vp.ownBlock → w9.heap[g]? = w2.heap[g]? := fun g h1 h2 => hgrow9.block g h1 h2
  refine ⟨rows ++ [(t, u)], fun g => S g ∨ S2 g, by rw [List.map_append, h1]; rfl, ?_, ?_, ?_, ?_, ?_⟩
  · rw [List.length_append, List.length_singleton, List.flatMap_append]
    simpa using hown9
  · intro x hx
    rcases List.mem_append.1 hx with hx | hx
    · refine (h3 x hx).kept (fun g hg => ?_) (fun g hg => .inl hg)
      have a := h4 g hg
      rw [blk g (by omega) (fun e => h5 g e.symm hg), hb2.block g a.2]
    · simp at hx
      subst hx
      refine hsh.kept (fun g hg => ?_) (fun g hg => .inr hg)
      have a := hS2 g hg
      exact blk g a.2.1 (fun e => a.2.2 e.symm)
  · intro g hg
    rcases hg with hg | hg
    · have a := h4 g hg; exact ⟨a.1, by omega⟩
    · have a := hS2 g hg; exact ⟨a.1, by omega⟩
  · intro g hg
    simp [Value.ownBlock] at hg
    subst hg
    rintro (h | h)
    · rcases hat9 with h9 | h9
      · exact h5 _ h9 h
      · have := h4 _ h; omega
    · have a := hS2 _ h
      rcases hat9 with h9 | h9
      · exact a.2.2 h9
      · omega
  · exact (h6.trans (hb2.mono hbw)).grown hgrow9 (by omega) (fun k hk => (hkl k hk).1)

/-- what joinShapes and meetShapes answer -/
def ShR (d : Nat) (w w' : World) (Sa Sb : Nat → Prop) (e : Ending) (r : Option Tr) : Prop :=
  (∃ (t : Tr) (ua : TypeId) (uv : Value), r = some t ∧ e = .returned (.tuple #[.iface ua uv, .bool true]) ∧ ShIn d w' (fun g => ((Sa g ∨ Sb g) ∨ w.heap.size ≤ g) ∧ g < w'.heap.size) (.iface ua uv) t) ∨
  (r = none ∧ ∃ v, e = .returned (.tuple #[v, .bool false]) ∧ (v = .nilIface ∨ ∃ a x, v = .iface a x))

def JoinSh (d : Nat) : Prop := ∀ (a b : Tr) (va vb : Value) (Sa Sb : Nat → Prop) (w : World), ShIn d w Sa va a → ShIn d w Sb vb b → (∀ g, Sa g → g < w.heap.size) → (∀ g, Sb g → g < w.heap.size) → a.size ≤ 1000 →
  Calls Try.prog 95 #[va, vb] w fun e w' => ShR d w w' Sa Sb e (joinT d a b) ∧ Below w.heap.size w w'

theorem len_sizeL : ∀ (l : List Tr), l.length ≤ sizeL l
  | [] => by simp [sizeL]
  | x :: l => by rw [sizeL, List.length_cons]; have := len_sizeL l; have := x.size_pos; omega

theorem joinL_step (d : Nat) (la lb : List Tr) (i : Nat) (x : Tr) (h : la[i]? = some x) : joinL d (la.take (i + 1)) lb = joinL d (la.take i) lb ++ ((byNo lb x.no).bind (joinT d x)).toList := by
  unfold joinL
  rw [List.take_add_one, h, List.filterMap_append]
  congr 1

theorem joinT_form {d : Nat} {a b t : Tr} (h : joinT d a b = some t) : t.name = a.name ∧ t.no = a.no ∧ t.must = (a.must && b.must) := by
  cases d with
  | zero =>
    rw [joinT] at h
    split at h
    · cases h
    · cases h; exact ⟨rfl, rfl, rfl⟩
  | succ d =>
    rw [joinT] at h
    split at h
    · cases h
    · split at h
      · split at h
        · rw [Option.map_eq_some_iff] at h
          obtain ⟨z, _, rfl⟩ := h
          exact ⟨rfl, rfl, rfl⟩
        · cases h
      · cases h; exact ⟨rfl, rfl, rfl⟩

set_option maxRecDepth 100000 in
set_option maxHeartbeats 4000000 in
theorem joinParts_of (d : Nat) (ih0 : JoinSh d) (la lb : List Tr) (ca cb : Value) (Sa Sb : Nat → Prop) (w : World) (hA : PartsIn d w Sa ca la) (hB : PartsIn d w Sb cb lb) (hSa : ∀ g, Sa g → g < w.heap.size) (hSb : ∀ g, Sb g → g < w.heap.size) (hsl : sizeL la ≤ 1000) :
    Calls Try.prog 49 #[ca, cb] w fun e w' => ∃ rv, e = .returned rv ∧ PartsIn d w' (fun g => ((Sa g ∨ Sb g) ∨ w.heap.size ≤ g) ∧ g < w'.heap.size) rv (joinL d la lb) ∧ Below w.heap.size w w' := by
  obtain ⟨i0, hi, hz0, hz1, hz2⟩ := info_parts Try.infoPt
  have hlen : la.length ≤ 1000 := by have := len_sizeL la; omega
  have HSZ : Hid (∀ x ∈ la, x.size ≤ 1000) := fun x hx => by have := sizeL_mem la x hx; omega
  clear hsl
  have ih : Hid (JoinSh d) := ih0
  have HKB : Hid (PartsIn d w Sb cb lb) := hB
  obtain ⟨aa, capa, rfl, hlc, hcm, hrow⟩ := hA
  obtain ⟨ab, capb, rfl, _, _, _⟩ := hB
  have hcm' : capa ≤ 9223372036854775807 := by unfold maxLen at hcm; omega
  have HRA : Hid (∀ i x, la[i]? = some x → ∃ (g o : Nat) (u : TypeId × Value), aa = some ⟨g, o, none⟩ ∧ Sa g ∧ PtIn w g (o + i * 4) x (.iface u.1 u.2) ∧ ShIn d w Sa (.iface u.1 u.2) x) := hrow
  have HSa : Hid (∀ g, Sa g → g < w.heap.size) := hSa
  have HSb : Hid (∀ g, Sb g → g < w.heap.size) := hSb
  have HJL : Hid (∀ i, (joinL d (la.take i) lb).length ≤ i) := fun i => by
    refine Nat.le_trans (List.length_filterMap_le _ _) ?_
    rw [List.length_take]; omega
  clear hrow hSa hSb ih0
  go_enter Try.func49, Try.ntmps49
  go_wp2
  go_loopw [5, 14] (fun s5 vi wr => ∃ (i : Nat) (vr : Value), i ≤ la.length ∧ vr = s5 ∧ vi = .int .i64 (i : Int) ∧ Hid (PJ (fun g => Sa g ∨ Sb g) w.heap.size d w (joinL d (la.take i) lb) vr wr))
    (fun _ vi _ => la.length - (intOf vi).toNat)
  case atStart => exact ⟨0, _, by omega, rfl, rfl, PJ.start⟩
  case round =>
    obtain ⟨i, vr, hil, hvr, rfl, hinv⟩ := hrel
    subst hvr
    have hB0 := hinv.out.below
    have hs0 := hB0.size
    have hjl := HJL.out i
    by_cases hlt : i < la.length
    · have hlt' : (i : Int) < (la.length : Int) := by omega
      obtain ⟨x, hx⟩ : ∃ x, la[i]? = some x := ⟨_, List.getElem?_eq_getElem hlt⟩
      obtain ⟨g, o, u, hao, hSg, hnd, hkk⟩ := HRA.out i x hx
      subst hao
      have hg := HSa.out g hSg
      have hnd' := hnd.kept (hB0.block g hg)
      obtain ⟨ua, ux⟩ := u
      obtain ⟨c0, c1, c2, c3⟩ := hnd'
      dsimp only at c3 hkk
      have HKX : Hid (∀ W : World, Below w.heap.size w W → ShIn d W Sa (.iface ua ux) x) := fun W hW => hkk.kept (fun g hg => hW.block g (HSa.out g hg)) (fun _ h => h)
      have hBx : Below w.heap.size w (wr.alloc (.cells #[.string x.name, .int .i64 x.no, .bool x.must, .iface ua ux] 86)) := hB0.alloc hB0.size _
      have hbx : Below wr.heap.size wr (wr.alloc (.cells #[.string x.name, .int .i64 x.no, .bool x.must, .iface ua ux] 86)) := (Below.refl _ wr).alloc (Nat.le_refl _) _
      clear hnd hkk
      go_wp2_with fail
      refine (partByNo_any d lb _ x.no Sb _ (HKB.out.kept (fun g hg => hBx.block g (HSb.out g hg)) (fun _ h => h)) (fun g hg => by have h1 := HSb.out g hg; have h2 := hBx.size; omega)).mono ?_
      rintro e w3 ⟨hby, hb3⟩
      have hB3 : Below w.heap.size w w3 := hBx.trans (hb3.mono hBx.size)
      have hb03 : Below wr.heap.size wr w3 := hbx.trans (hb3.mono hbx.size)
      have hs3 : wr.heap.size < w3.heap.size := by have := hb3.size; simp at this; omega
      have k0 : w3.cell? ⟨wr.heap.size, 0, none⟩ = some (.string x.name) := (hb3.cell (p := ⟨wr.heap.size, 0, none⟩) (by simp)).trans (by simp)
      have k1 : w3.cell? ⟨wr.heap.size, 1, none⟩ = some (.int .i64 x.no) := (hb3.cell (p := ⟨wr.heap.size, 1, none⟩) (by simp)).trans (by simp)
      have k2 : w3.cell? ⟨wr.heap.size, 2, none⟩ = some (.bool x.must) := (hb3.cell (p := ⟨wr.heap.size, 2, none⟩) (by simp)).trans (by simp)
      have k3 : w3.cell? ⟨wr.heap.size, 3, none⟩ = some (.iface ua ux) := (hb3.cell (p := ⟨wr.heap.size, 3, none⟩) (by simp)).trans (by simp)
      clear hb3 hBx hbx c0 c1 c2 c3
      rcases hby with ⟨y, ya, yv, hfy, rfl, hky⟩ | ⟨hfy, rfl⟩
      · obtain ⟨W4, hW4⟩ : ∃ W, W = w3.alloc (.cells #[.string y.name, .int .i64 y.no, .bool y.must, .iface ya yv] 86) := ⟨_, rfl⟩
        have hb34 : Below w3.heap.size w3 W4 := by rw [hW4]; exact (Below.refl _ w3).alloc (Nat.le_refl _) _
        have hb04 : Below wr.heap.size wr W4 := hb03.trans (hb34.mono hb03.size)
        have HB4 : Hid (Below w.heap.size w W4) := hB3.trans (hb34.mono hB3.size)
        have HS4 : Hid (W4.heap.size = w3.heap.size + 1) := by show _ = _; rw [hW4]; simp
        have HK4 : Hid (∀ W : World, Below W4.heap.size W4 W → (W.cell? ⟨wr.heap.size, 0, none⟩ = some (.string x.name) ∧ W.cell? ⟨wr.heap.size, 1, none⟩ = some (.int .i64 x.no) ∧ W.cell? ⟨wr.heap.size, 2, none⟩ = some (.bool x.must) ∧ W.cell? ⟨wr.heap.size, 3, none⟩ = some (.iface ua ux)) ∧ W.cell? ⟨w3.heap.size, 0, none⟩ = some (.string y.name) ∧ W.cell? ⟨w3.heap.size, 1, none⟩ = some (.int .i64 y.no) ∧ W.cell? ⟨w3.heap.size, 2, none⟩ = some (.bool y.must) ∧ W.cell? ⟨w3.heap.size, 3, none⟩ = some (.iface ya yv)) := fun W hW => by
          have hs4 := HS4.out
          have f : ∀ j v, w3.cell? ⟨wr.heap.size, j, none⟩ = some v → W.cell? ⟨wr.heap.size, j, none⟩ = some v := fun j v h => (hW.cell (p := ⟨wr.heap.size, j, none⟩) (by show wr.heap.size < _; omega)).trans ((hb34.cell (p := ⟨wr.heap.size, j, none⟩) (by show wr.heap.size < _; omega)).trans h)
          refine ⟨⟨f _ _ k0, f _ _ k1, f _ _ k2, f _ _ k3⟩, ?_, ?_, ?_, ?_⟩
          · exact (hW.cell (p := ⟨w3.heap.size, 0, none⟩) (by show w3.heap.size < _; omega)).trans (by rw [hW4]; simp)
          · exact (hW.cell (p := ⟨w3.heap.size, 1, none⟩) (by show w3.heap.size < _; omega)).trans (by rw [hW4]; simp)
          · exact (hW.cell (p := ⟨w3.heap.size, 2, none⟩) (by show w3.heap.size < _; omega)).trans (by rw [hW4]; simp)
          · exact (hW.cell (p := ⟨w3.heap.size, 3, none⟩) (by show w3.heap.size < _; omega)).trans (by rw [hW4]; simp)
        have IC : Hid (Calls Try.prog 95 #[.iface ua ux, .iface ya yv] W4 fun e w' => ShR d W4 w' Sa Sb e (joinT d x y) ∧ Below W4.heap.size W4 w') := ih.out x y _ _ Sa Sb W4 (HKX.out W4 HB4.out) (hky.kept (fun g hg => hb34.block g (by have h1 := HSb.out g hg; omega)) (fun _ h => h)) (fun g hg => by have h1 := HSa.out g hg; have h2 := HB4.out.size; omega) (fun g hg => by have h1 := HSb.out g hg; have h2 := HB4.out.size; omega) (HSZ.out x (List.mem_of_getElem? hx))
        unfold ShR at IC
        have HP4 : Hid (PJ (fun g => Sa g ∨ Sb g) w.heap.size d w (joinL d (la.take i) lb) vr W4) := hinv.out.more hb04 (by omega)
        have HVR : Hid (∀ g, vr.ownBlock = some g → w.heap.size ≤ g ∧ g < wr.heap.size) := fun g hg => by obtain ⟨xs, hown⟩ := hinv.out.own; exact hown.lt g hg
        clear hky hb34 hb04 hb03 hB3
        go_wp2_with fail
        rw [← hW4]
        clear hW4
        refine IC.out.mono ?_
        rintro e w5 ⟨hres, hb5⟩
        have hs5 := hb5.size
        have hs4 := HS4.out
        have HP5 : Hid (PJ (fun g => Sa g ∨ Sb g) w.heap.size d w (joinL d (la.take i) lb) vr w5) := HP4.out.more hb5 (by omega)
        obtain ⟨xs5, hown5⟩ := HP5.out.own
        obtain ⟨⟨k0, k1, k2, k3⟩, n0, n1, n2, n3⟩ := HK4.out w5 hb5
        have hz5 : wr.heap.size < w5.heap.size := by omega
        have hz53 : w3.heap.size < w5.heap.size := by omega
        clear hs4 hb5 HP4 IC HK4
        rcases hres with ⟨t, ta, tv, hjt, rfl, hsht⟩ | ⟨hjt, v, rfl, _⟩
        · cases hm : x.must
          · rw [hm] at k2
            go_wp2_with (at_builtin; refine wpList_append_lies _ rfl _ _ 68 rfl w.heap.size 86 i0 (.agg #[.string ⟨#[]⟩, .int .i64 0, .bool false, .nilIface]) 4 48 Try.underlying68 hi hz0 hz1 hz2 rfl (by decide) _ (joinL d (la.take i) lb).length _ rfl (hown5.alloc _) ⟨w5.heap.size, 0, none⟩ 1 1 [Value.string x.name, .int .i64 x.no, .bool false, .iface ta tv] rfl rfl ?c1 one4 ?c2 ?c3 ?c4 ?c5 (w5.heap.size + 1) ?c6 ?_)
            case c1 => exact World.news_of_block (heap_alloc_new w5 _)
            case c2 => omega
            case c3 => unfold maxLen; omega
            case c4 => omega
            case c5 => simp; omega
            case c6 => simp
            intro g9 cap9 w9 hown9 hgrow9 hat9 hlt9
            have hb5a : Below w5.heap.size w5 (w5.alloc (.cells #[.string x.name, .int .i64 x.no, .bool false, .iface ta tv] 86)) := (Below.refl _ w5).alloc (Nat.le_refl _) _
            have hstep : Hid (PJ (fun g => Sa g ∨ Sb g) w.heap.size d w (joinL d (la.take (i + 1)) lb) (.slice (some ⟨g9, 0, none⟩) ((joinL d (la.take i) lb).length + 1) cap9) w9) := by
              show PJ _ _ _ _ _ _ _
              have hs4 := HS4.out
              rw [joinL_step d la lb i x hx, hfy]
              show PJ _ _ _ _ (_ ++ (joinT d x y).toList) _ _
              rw [hjt]
              refine PJ.step (t := t) (u := (ta, tv)) (S2 := fun g => ((Sa g ∨ Sb g) ∨ w.heap.size + 0 ≤ g ∧ W4.heap.size ≤ g) ∧ g < w5.heap.size) HP5.out (by omega) hb5a ((hsht.kept (fun g hg => rfl) (fun g hg => by
                refine ⟨?_, hg.2⟩
                rcases hg.1 with h | h
                · exact .inl h
                · exact .inr ⟨by omega, h⟩)).kept (fun g hg => hb5a.block g hg.2) (fun _ h => h)) (fun g hg => ⟨?_, by have := hb5a.size; omega, fun e => ?_⟩) hown5 ?_ (by simpa using hown9) hgrow9 (by rcases hat9 with h | h; exact .inl h; exact .inr (by simp; omega))
              · rcases hg.1 with h | h
                · exact .inl h
                · exact .inr (by omega)
              · have h1 := HVR.out g e
                rcases hg.1 with (h | h) | h
                · have := HSa.out g h; omega
                · have := HSb.out g h; omega
                · omega
              · have hf := joinT_form hjt
                unfold ptCells
                rw [hf.1, hf.2.1, hf.2.2, hm]
                rfl
            clear hown9 hgrow9 hat9 hsht HP5 hown5 k0 k1 k2 k3 n0 n1 n2 n3
            go_wp2
            go_roundw
            case rel => exact ⟨i + 1, _, by omega, rfl, by go_num, hstep⟩
            case measure => simp [intOf]; omega
          · rw [hm] at k2
            go_wp2_with (at_builtin; refine wpList_append_lies _ rfl _ _ 68 rfl w.heap.size 86 i0 (.agg #[.string ⟨#[]⟩, .int .i64 0, .bool false, .nilIface]) 4 48 Try.underlying68 hi hz0 hz1 hz2 rfl (by decide) _ (joinL d (la.take i) lb).length _ rfl (hown5.alloc _) ⟨w5.heap.size, 0, none⟩ 1 1 [Value.string x.name, .int .i64 x.no, .bool y.must, .iface ta tv] rfl rfl ?c1 one4 ?c2 ?c3 ?c4 ?c5 (w5.heap.size + 1) ?c6 ?_)
            case c1 => exact World.news_of_block (heap_alloc_new w5 _)
            case c2 => omega
            case c3 => unfold maxLen; omega
            case c4 => omega
            case c5 => simp; omega
            case c6 => simp
            intro g9 cap9 w9 hown9 hgrow9 hat9 hlt9
            have hb5a : Below w5.heap.size w5 (w5.alloc (.cells #[.string x.name, .int .i64 x.no, .bool y.must, .iface ta tv] 86)) := (Below.refl _ w5).alloc (Nat.le_refl _) _
            have hstep : Hid (PJ (fun g => Sa g ∨ Sb g) w.heap.size d w (joinL d (la.take (i + 1)) lb) (.slice (some ⟨g9, 0, none⟩) ((joinL d (la.take i) lb).length + 1) cap9) w9) := by
              show PJ _ _ _ _ _ _ _
              have hs4 := HS4.out
              rw [joinL_step d la lb i x hx, hfy]
              show PJ _ _ _ _ (_ ++ (joinT d x y).toList) _ _
              rw [hjt]
              refine PJ.step (t := t) (u := (ta, tv)) (S2 := fun g => ((Sa g ∨ Sb g) ∨ w.heap.size + 0 ≤ g ∧ W4.heap.size ≤ g) ∧ g < w5.heap.size) HP5.out (by omega) hb5a ((hsht.kept (fun g hg => rfl) (fun g hg => by
                refine ⟨?_, hg.2⟩
                rcases hg.1 with h | h
                · exact .inl h
                · exact .inr ⟨by omega, h⟩)).kept (fun g hg => hb5a.block g hg.2) (fun _ h => h)) (fun g hg => ⟨?_, by have := hb5a.size; omega, fun e => ?_⟩) hown5 ?_ (by simpa using hown9) hgrow9 (by rcases hat9 with h | h; exact .inl h; exact .inr (by simp; omega))
              · rcases hg.1 with h | h
                · exact .inl h
                · exact .inr (by omega)
              · have h1 := HVR.out g e
                rcases hg.1 with (h | h) | h
                · have := HSa.out g h; omega
                · have := HSb.out g h; omega
                · omega
              · have hf := joinT_form hjt
                unfold ptCells
                rw [hf.1, hf.2.1, hf.2.2, hm]
                rfl
            clear hown9 hgrow9 hat9 hsht HP5 hown5 k0 k1 k2 k3 n0 n1 n2 n3
            go_wp2
            go_roundw
            case rel => exact ⟨i + 1, _, by omega, rfl, by go_num, hstep⟩
            case measure => simp [intOf]; omega
        · have hstep : Hid (PJ (fun g => Sa g ∨ Sb g) w.heap.size d w (joinL d (la.take (i + 1)) lb) vr w5) := by
            show PJ _ _ _ _ _ _ _
            rw [joinL_step d la lb i x hx, hfy]
            show PJ _ _ _ _ (_ ++ (joinT d x y).toList) _ _
            rw [hjt]
            simpa using HP5.out
          clear hown5 HP5
          go_wp2
          go_roundw
          case rel => exact ⟨i + 1, _, by omega, rfl, by go_num, hstep⟩
          case measure => simp [intOf]; omega
      · have hstep : Hid (PJ (fun g => Sa g ∨ Sb g) w.heap.size d w (joinL d (la.take (i + 1)) lb) vr (w3.alloc (.cells #[.string ⟨#[]⟩, .int .i64 0, .bool false, .nilIface] 86))) := by
          show PJ _ _ _ _ _ _ _
          rw [joinL_step d la lb i x hx, hfy]
          have h := hinv.out.more (hb03.alloc hb03.size (.cells #[.string ⟨#[]⟩, .int .i64 0, .bool false, .nilIface] 86)) (by omega)
          simpa using h
        clear hinv
        go_wp2
        go_roundw
        case rel => exact ⟨i + 1, _, by omega, rfl, by go_num, hstep⟩
        case measure => simp [intOf]; omega
    · have hke : i = la.length := by omega
      subst hke
      have hge : ¬ ((la.length : Int) < (la.length : Int)) := by omega
      have hp := hinv.out.parts
      rw [List.take_length] at hp
      have HP : Hid (PartsIn d wr (fun g => ((Sa g ∨ Sb g) ∨ w.heap.size ≤ g) ∧ g < wr.heap.size) vr (joinL d la lb)) := hp
      clear hp hinv
      go_wp2
      go_ret
      exact ⟨_, rfl, HP.out, hB0⟩

end Go.Proofs.Ytbkdpcfghaiimaa
