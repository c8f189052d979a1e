/- The model's l2Join. -/
import Derived.Test.YtbkdpcfghaiimaaJoH
namespace Go.Proofs.Ytbkdpcfghaiimaa
open Go.RowKit Plain Sch

set_option maxRecDepth 100000 in
set_option maxHeartbeats 4000000 in
theorem l2Join_no (a b : Tr) (aa ab : Option Addr) (la ca lb cb : Nat) (w : World) (h : a.kind ≠ b.kind) :
    Calls Try.prog 50 #[tv a aa la ca, tv b ab lb cb] w fun e w' => (∃ t ar lr cr, e = .returned (.tuple #[tv t ar lr cr, .bool false])) ∧ Below w.heap.size w w' := by
  have hk' : (a.kind != b.kind) = true := by simpa using h
  unfold tv
  generalize a.kind = ka at *
  generalize b.kind = kb at *
  clear h
  go_enter Try.func50, Try.ntmps50
  go_wp2
  (try simp only [Exit.inBlock, Exit.then])
  refine bodyPost_ret (v := .tuple #[.agg #[.int .i64 0, .string ⟨#[]⟩, .int .i64 0, .bool false, .int .i64 0, .slice none 0 0], .bool false]) ?_ rfl ⟨⟨.mk 0 ⟨#[]⟩ 0 false 0 [], none, 0, 0, rfl⟩, ?_⟩
  · rw [results_cell_tmp rfl]
    go_simp
  · go_grown

/-- what l2Join answers -/
def JoR (d : Nat) (a b : Tr) (S : Nat → Prop) (w w' : World) (e : Ending) : Prop :=
  (∃ t ar lr cr, joinT d a b = some t ∧ e = .returned (.tuple #[.agg #[.int .i64 t.kind, .string t.name, .int .i64 t.no, .bool t.must, .int .i64 t.most, .slice ar lr cr], .bool true]) ∧ KidsIn d w' (fun g => (S g ∨ w.heap.size ≤ g) ∧ g < w'.heap.size) (.slice ar lr cr) t.kids) ∨
  (joinT d a b = none ∧ ∃ t ar lr cr, e = .returned (.tuple #[.agg #[.int .i64 (Tr.kind t), .string t.name, .int .i64 t.no, .bool t.must, .int .i64 t.most, .slice ar lr cr], .bool false]))

theorem six6_six {w : World} {b : Nat} {u0 u1 u2 u3 u4 u5 : Value} (h : Six w b u0 u1 u2 u3 u4 u5) (v0 v1 v2 v3 v4 v5 : Value) : Six (six6 w b v0 v1 v2 v3 v4 v5) b v0 v1 v2 v3 v4 v5 := by
  obtain ⟨⟨c0, c1, c2, c3, c4, c5⟩, z0, z1, z2, z3, z4, z5⟩ := h
  unfold six6
  have ne : ∀ i j : Nat, i ≠ j → (⟨b, i, none⟩ : Addr) ≠ ⟨b, j, none⟩ := fun i j h e => h (congrArg Addr.off e)
  refine ⟨⟨?_, ?_, ?_, ?_, ?_, ?_⟩, ?_, ?_, ?_, ?_, ?_, ?_⟩
  · rw [World.cell?_setCell_other _ _ _ _ (ne 5 0 (by omega)), World.cell?_setCell_other _ _ _ _ (ne 4 0 (by omega)), World.cell?_setCell_other _ _ _ _ (ne 3 0 (by omega)), World.cell?_setCell_other _ _ _ _ (ne 2 0 (by omega)), World.cell?_setCell_other _ _ _ _ (ne 1 0 (by omega))]
    exact World.cell?_setCell_same _ _ _ c0
  · rw [World.cell?_setCell_other _ _ _ _ (ne 5 1 (by omega)), World.cell?_setCell_other _ _ _ _ (ne 4 1 (by omega)), World.cell?_setCell_other _ _ _ _ (ne 3 1 (by omega)), World.cell?_setCell_other _ _ _ _ (ne 2 1 (by omega))]
    refine World.cell?_setCell_same _ _ _ (u := u1) ?_
    rw [World.cell?_setCell_other _ _ _ _ (ne 0 1 (by omega))]; exact c1
  · rw [World.cell?_setCell_other _ _ _ _ (ne 5 2 (by omega)), World.cell?_setCell_other _ _ _ _ (ne 4 2 (by omega)), World.cell?_setCell_other _ _ _ _ (ne 3 2 (by omega))]
    refine World.cell?_setCell_same _ _ _ (u := u2) ?_
    rw [World.cell?_setCell_other _ _ _ _ (ne 1 2 (by omega)), World.cell?_setCell_other _ _ _ _ (ne 0 2 (by omega))]; exact c2
  · rw [World.cell?_setCell_other _ _ _ _ (ne 5 3 (by omega)), World.cell?_setCell_other _ _ _ _ (ne 4 3 (by omega))]
    refine World.cell?_setCell_same _ _ _ (u := u3) ?_
    rw [World.cell?_setCell_other _ _ _ _ (ne 2 3 (by omega)), World.cell?_setCell_other _ _ _ _ (ne 1 3 (by omega)), World.cell?_setCell_other _ _ _ _ (ne 0 3 (by omega))]; exact c3
  · rw [World.cell?_setCell_other _ _ _ _ (ne 5 4 (by omega))]
    refine World.cell?_setCell_same _ _ _ (u := u4) ?_
    rw [World.cell?_setCell_other _ _ _ _ (ne 3 4 (by omega)), World.cell?_setCell_other _ _ _ _ (ne 2 4 (by omega)), World.cell?_setCell_other _ _ _ _ (ne 1 4 (by omega)), World.cell?_setCell_other _ _ _ _ (ne 0 4 (by omega))]; exact c4
  · refine World.cell?_setCell_same _ _ _ (u := u5) ?_
    rw [World.cell?_setCell_other _ _ _ _ (ne 4 5 (by omega)), World.cell?_setCell_other _ _ _ _ (ne 3 5 (by omega)), World.cell?_setCell_other _ _ _ _ (ne 2 5 (by omega)), World.cell?_setCell_other _ _ _ _ (ne 1 5 (by omega)), World.cell?_setCell_other _ _ _ _ (ne 0 5 (by omega))]; exact c5
  all_goals
    repeat rw [World.frozen?_setCell]
    assumption

/-- what holds when the parts of a have been gone through up to i -/
def JInv (D : Nat) (a b : Tr) (M : Bool) (X : Int) (S : Nat → Prop) (w4 : World) (OB i : Nat) (wr : World) : Prop :=
  ∃ ar cr, Six wr OB (.int .i64 a.kind) (.string a.name) (.int .i64 a.no) (.bool M) (.int .i64 X) (.slice ar (joinL D (a.kids.take i) b.kids).length cr) ∧ KidsIn (D + 1) wr (fun g => S g ∨ (OB < g ∧ g < wr.heap.size)) (.slice ar (joinL D (a.kids.take i) b.kids).length cr) (joinL D (a.kids.take i) b.kids) ∧ Below OB w4 wr ∧ OB < wr.heap.size

theorem joinL_snoc (D : Nat) (la lb : List Tr) (i : Nat) (x : Tr) (hx : la[i]? = some x) : joinL D (la.take (i + 1)) lb = joinL D (la.take i) lb ++ ((byNo lb x.no).bind (joinT D x)).toList := by
  unfold joinL
  rw [List.take_add_one, hx, List.filterMap_append]
  congr 1

theorem joinT_no {d : Nat} {a b t : Tr} (h : joinT d a b = some t) : t.no = a.no := by
  cases d with
  | zero =>
    rw [joinT] at h
    split at h
    · cases h
    · cases h; rfl
  | succ d =>
    rw [joinT] at h
    split at h
    · cases h
    · split at h
      · cases ha : a.kids with
        | nil => rw [ha] at h; simp at h
        | cons x l =>
          cases hb : b.kids with
          | nil => rw [ha, hb] at h; simp at h
          | cons y l' =>
            rw [ha, hb] at h
            simp only [Option.map_eq_some_iff] at h
            obtain ⟨z, _, rfl⟩ := h
            rfl
      · cases h; rfl

theorem joinL_less (D : Nat) (la lb : List Tr) (hr : la.Pairwise fun a b => a.no < b.no) (i : Nat) (x : Tr) (hx : la[i]? = some x) : ∀ y ∈ joinL D (la.take i) lb, y.no < x.no := by
  intro y hy
  unfold joinL at hy
  obtain ⟨z, hz, he⟩ := List.mem_filterMap.1 hy
  cases hb : byNo lb z.no with
  | none => rw [hb] at he; simp at he
  | some u =>
    rw [hb] at he
    rw [joinT_no he]
    obtain ⟨j, hj, rfl⟩ := List.getElem_of_mem hz
    rw [List.length_take] at hj
    rw [List.getElem_take]
    obtain ⟨hi, rfl⟩ := List.getElem?_eq_some_iff.1 hx
    exact List.pairwise_iff_getElem.1 hr j i (by omega) hi (by omega)

theorem joinL_le (D : Nat) (la lb : List Tr) (i : Nat) : (joinL D (la.take i) lb).length ≤ i := by
  unfold joinL
  refine Nat.le_trans (List.length_filterMap_le _ _) ?_
  rw [List.length_take]
  omega

set_option maxRecDepth 100000 in
set_option maxHeartbeats 8000000 in
theorem l2Join_parts (D : Nat) (a b : Tr) (aa ab : Option Addr) (ca cb : Nat) (S : Nat → Prop) (w : World) (hkA : KidsIn (D + 1) w S (.slice aa a.kids.length ca) a.kids) (hkB : KidsIn (D + 1) w S (.slice ab b.kids.length cb) b.kids) (hS : ∀ g, S g → g < w.heap.size)
    (hkk : a.kind = b.kind) (h4 : a.kind ≠ 4) (hrise : a.kids.Pairwise fun a b => a.no < b.no) (hlen : a.kids.length ≤ 1000)
    (IH0 : ∀ (x y : Tr) (ax ay : Option Addr) (lx cx ly cy : Nat) (S : Nat → Prop) (w : World), x ∈ a.kids → y ∈ b.kids → KidsIn D w S (.slice ax lx cx) x.kids → KidsIn D w S (.slice ay ly cy) y.kids → (∀ g, S g → g < w.heap.size) → Calls Try.prog 50 #[.agg #[.int .i64 x.kind, .string x.name, .int .i64 x.no, .bool x.must, .int .i64 x.most, .slice ax lx cx], .agg #[.int .i64 y.kind, .string y.name, .int .i64 y.no, .bool y.must, .int .i64 y.most, .slice ay ly cy]] w fun e w' => JoR D x y S w w' e ∧ Below w.heap.size w w') :
    Calls Try.prog 50 #[tv a aa a.kids.length ca, tv b ab b.kids.length cb] w fun e w' => ∃ ar lr cr, e = .returned (.tuple #[tv (jn a b (joinL D a.kids b.kids)) ar lr cr, .bool true]) ∧ KidsIn (D + 1) w' (fun g => (S g ∨ w.heap.size ≤ g) ∧ g < w'.heap.size) (.slice ar lr cr) (joinL D a.kids b.kids) ∧ Below w.heap.size w w' := by
  have hk' : (a.kind != b.kind) = false := by simpa using hkk
  have h4' : (a.kind == 4) = false := by simpa using h4
  clear hkk h4
  obtain ⟨ao', cap', hcc, _, hcm, hrow⟩ := hkA
  simp only [Value.slice.injEq, true_and] at hcc
  obtain ⟨rfl, rfl⟩ := hcc
  have hcm' : ca ≤ 9223372036854775807 := by unfold maxLen at hcm; omega
  have IH : Hid (∀ (x y : Tr) (ax ay : Option Addr) (lx cx ly cy : Nat) (S : Nat → Prop) (w : World), x ∈ a.kids → y ∈ b.kids → KidsIn D w S (.slice ax lx cx) x.kids → KidsIn D w S (.slice ay ly cy) y.kids → (∀ g, S g → g < w.heap.size) → Calls Try.prog 50 #[.agg #[.int .i64 x.kind, .string x.name, .int .i64 x.no, .bool x.must, .int .i64 x.most, .slice ax lx cx], .agg #[.int .i64 y.kind, .string y.name, .int .i64 y.no, .bool y.must, .int .i64 y.most, .slice ay ly cy]] w fun e w' => JoR D x y S w w' e ∧ Below w.heap.size w w') := IH0
  have HROW : Hid (∀ i y, a.kids[i]? = some y → ∃ g o c', aa = some ⟨g, o, none⟩ ∧ S g ∧ NdIn w g (o + i * 6) y c' ∧ KidsIn D w S c' y.kids) := hrow
  have HKB : Hid (KidsIn (D + 1) w S (.slice ab b.kids.length cb) b.kids) := hkB
  have HS : Hid (∀ g, S g → g < w.heap.size) := hS
  have HRI : Hid (a.kids.Pairwise fun a b => a.no < b.no) := hrise
  clear hrow hkB hS hrise IH0
  have HJN : Hid (∀ ks, jn a b ks = .mk a.kind a.name a.no (a.must && b.must) (if a.most < b.most then b.most else a.most) ks) := fun _ => rfl
  unfold tv
  obtain ⟨W3, hW3⟩ : ∃ W, W = ((w.alloc (.cells #[.int .i64 a.kind, .string a.name, .int .i64 a.no, .bool a.must, .int .i64 a.most, .slice aa a.kids.length ca] 75)).alloc (.cells #[.int .i64 b.kind, .string b.name, .int .i64 b.no, .bool b.must, .int .i64 b.most, .slice ab b.kids.length cb] 75)).alloc (.cells #[.int .i64 0, .string ⟨#[]⟩, .int .i64 0, .bool false, .int .i64 0, .slice none 0 0] 75) := ⟨_, rfl⟩
  have hB3 : Below w.heap.size w W3 := by rw [hW3]; exact (((Below.refl _ w).alloc (Nat.le_refl _) _).alloc (by simp) _).alloc (by simp; omega) _
  have HS3 : Hid (W3.heap.size = w.heap.size + 3) := by show _ = _; rw [hW3]; simp
  have HC3 : Hid (∀ W : World, Below (w.heap.size + 3) W3 W → (Six W w.heap.size (.int .i64 a.kind) (.string a.name) (.int .i64 a.no) (.bool a.must) (.int .i64 a.most) (.slice aa a.kids.length ca) ∧ Six W (w.heap.size + 1) (.int .i64 b.kind) (.string b.name) (.int .i64 b.no) (.bool b.must) (.int .i64 b.most) (.slice ab b.kids.length cb) ∧ Six W (w.heap.size + 1 + 1) (.int .i64 0) (.string ⟨#[]⟩) (.int .i64 0) (.bool false) (.int .i64 0) (.slice none 0 0)) ∧ Below w.heap.size w W ∧ w.heap.size + 1 + 1 < W.heap.size) := fun W hW => by
    have hs := HS3.out
    have h2 := hW.size
    have h0 : Six W3 w.heap.size (.int .i64 a.kind) (.string a.name) (.int .i64 a.no) (.bool a.must) (.int .i64 a.most) (.slice aa a.kids.length ca) := by
      rw [hW3]; exact ⟨⟨by go_simp, by go_simp, by go_simp, by go_simp, by go_simp, by go_simp⟩, by go_simp, by go_simp, by go_simp, by go_simp, by go_simp, by go_simp⟩
    have h1 : Six W3 (w.heap.size + 1) (.int .i64 b.kind) (.string b.name) (.int .i64 b.no) (.bool b.must) (.int .i64 b.most) (.slice ab b.kids.length cb) := by
      rw [hW3]; exact ⟨⟨by go_simp, by go_simp, by go_simp, by go_simp, by go_simp, by go_simp⟩, by go_simp, by go_simp, by go_simp, by go_simp, by go_simp, by go_simp⟩
    have h3 : Six W3 (w.heap.size + 1 + 1) (.int .i64 0) (.string ⟨#[]⟩) (.int .i64 0) (.bool false) (.int .i64 0) (.slice none 0 0) := by
      rw [hW3]; exact ⟨⟨by go_simp, by go_simp, by go_simp, by go_simp, by go_simp, by go_simp⟩, by go_simp, by go_simp, by go_simp, by go_simp, by go_simp, by go_simp⟩
    exact ⟨⟨h0.kept (hW.block _ (by omega)), h1.kept (hW.block _ (by omega)), h3.kept (hW.block _ (by omega))⟩, hB3.trans (hW.mono (by omega)), by omega⟩
  go_enter Try.func50, Try.ntmps50
  go_wp2_with fail
  rw [← hW3]
  clear hW3
  have SH := l2Shell_any a aa a.kids.length ca W3
  unfold tv at SH
  refine SH.mono ?_
  clear SH
  rintro e w4 ⟨rfl, hb4⟩
  have hb34 : Below (w.heap.size + 3) W3 w4 := hb4.mono (by rw [HS3.out]; exact Nat.le_refl _)
  clear hb4
  obtain ⟨⟨⟨⟨a0, a1, a2, a3, a4, a5⟩, _⟩, ⟨⟨b0, b1, b2, b3, b4, b5⟩, _⟩, _⟩, hBw, hsw⟩ := HC3.out _ hb34
  have hs0 : w.heap.size < w4.heap.size := by omega
  have hs1 : w.heap.size + 1 < w4.heap.size := by omega
  have HS2 : Hid (w.heap.size + 1 + 1 < w4.heap.size) := hsw
  cases hm : a.must with
  | true =>
    rw [hm] at a3
    by_cases hl : a.most < b.most
    · have hl' : decide (a.most < b.most) = true := by simpa using hl
      obtain ⟨W5, hW5⟩ : ∃ W, W = w4.alloc (.cells #[.int .i64 a.kind, .string a.name, .int .i64 a.no, .bool b.must, .int .i64 b.most, .slice none 0 0] 75) := ⟨_, rfl⟩
      have hb45 : Below w4.heap.size w4 W5 := by rw [hW5]; exact (Below.refl _ w4).alloc (Nat.le_refl _) _
      have HS5 : Hid (W5.heap.size = w4.heap.size + 1) := by show _ = _; rw [hW5]; simp
      have SX5 : Hid (Six W5 w4.heap.size (.int .i64 a.kind) (.string a.name) (.int .i64 a.no) (.bool b.must) (.int .i64 b.most) (.slice none 0 0)) := by
        show Six _ _ _ _ _ _ _ _
        rw [hW5]
        exact ⟨⟨by go_simp, by go_simp, by go_simp, by go_simp, by go_simp, by go_simp⟩, by go_simp, by go_simp, by go_simp, by go_simp, by go_simp, by go_simp⟩
      have HJ : Hid (∀ ks, jn a b ks = .mk a.kind a.name a.no b.must b.most ks) := fun ks => by rw [HJN.out]; congr 1 <;> first | rfl | (rw [hm]; rfl) | (rw [if_pos hl]) | (rw [if_neg hl])
      clear hl
      go_upto_region 7 with fail
      rw [← hW5]
      clear hW5
      have HW4 : Hid (∀ W : World, Below w4.heap.size w4 W → Below (w.heap.size + 3) W3 W) := fun W hW => hb34.trans (hW.mono (by have h := hb34.size; have h2 := HS3.out; omega))
      have hb35 := HW4.out _ hb45
      clear a0 a1 a2 a3 a4 a5 b0 b1 b2 b3 b4 b5 hBw hsw hb34
      obtain ⟨⟨⟨⟨a0, a1, a2, a3, a4, a5⟩, _⟩, _, _⟩, _, _⟩ := HC3.out _ hb35
      have HINI : Hid (JInv D a b b.must b.most S w4 w4.heap.size 0 W5) := by
        refine ⟨none, 0, ?_, ?_, hb45, by rw [HS5.out]; omega⟩
        · simp only [List.take_zero, joinL, List.filterMap_nil, List.length_nil]
          exact SX5.out
        · simp only [List.take_zero, joinL, List.filterMap_nil, List.length_nil]
          exact nil_kids
      clear SX5 hb45 hb35
      go_wp2_with fail
      clear a0 a1 a2 a3 a4 a5
      go_loopw [61] (fun vi wr => ∃ i : Nat, i ≤ a.kids.length ∧ vi = .int .i64 (i : Int) ∧ Hid (JInv D a b b.must b.most S w4 w4.heap.size i wr))
        (fun vi _ => a.kids.length - (intOf vi).toNat)
      case atStart => exact ⟨0, by omega, rfl, HINI.out⟩
      case round =>
        clear HINI
        obtain ⟨i, hil, rfl, hinv⟩ := hrel
        obtain ⟨ar, cr, SX, hkr, hbw, hob⟩ := hinv.out
        have hbwr := HW4.out _ hbw
        obtain ⟨⟨⟨⟨a0, a1, a2, a3, a4, a5⟩, _⟩, ⟨⟨b0, b1, b2, b3, b4, b5⟩, _⟩, ⟨⟨y0, y1, y2, y3, y4, y5⟩, ⟨z0, z1, z2, z3, z4, z5⟩⟩⟩, hBw, hsw⟩ := HC3.out _ hbwr
        have hsr0 : w.heap.size < wr.heap.size := by omega
        have hsr1 : w.heap.size + 1 < wr.heap.size := by omega
        by_cases hlt : i < a.kids.length
        · have hlt' : (i : Int) < (a.kids.length : Int) := by omega
          obtain ⟨x, hx⟩ : ∃ x, a.kids[i]? = some x := ⟨_, List.getElem?_eq_getElem hlt⟩
          obtain ⟨g, o, c', hao, hSg, hnd, hkx⟩ := HROW.out i x hx
          subst hao
          have hg := HS.out g hSg
          have hgr : g < wr.heap.size := by omega
          obtain ⟨c0, c1, c2, c3, c4, c5⟩ := hnd.kept (hBw.block g hg)
          obtain ⟨ac, cc, rfl, _⟩ := hkx.form
          have hxm : x ∈ a.kids := List.mem_of_getElem? hx
          have HSN : Hid (joinL D (a.kids.take (i + 1)) b.kids = joinL D (a.kids.take i) b.kids ++ ((byNo b.kids x.no).bind (joinT D x)).toList) := joinL_snoc D a.kids b.kids i x hx
          have HLE : Hid (∀ y ∈ joinL D (a.kids.take i) b.kids, y.no < x.no) := joinL_less D a.kids b.kids HRI.out i x hx
          have HLN : Hid ((joinL D (a.kids.take i) b.kids).length ≤ 1000) := Nat.le_trans (joinL_le D a.kids b.kids i) (by omega)
          obtain ⟨WX, hWX⟩ : ∃ W, W = wr.alloc (.cells #[.int .i64 x.kind, .string x.name, .int .i64 x.no, .bool x.must, .int .i64 x.most, .slice ac x.kids.length cc] 75) := ⟨_, rfl⟩
          have hBX : Below wr.heap.size wr WX := by rw [hWX]; exact (Below.refl _ wr).alloc (Nat.le_refl _) _
          have HSX : Hid (WX.heap.size = wr.heap.size + 1) := by show _ = _; rw [hWX]; simp
          have SXX : Hid (Six WX wr.heap.size (.int .i64 x.kind) (.string x.name) (.int .i64 x.no) (.bool x.must) (.int .i64 x.most) (.slice ac x.kids.length cc)) := by
            show Six _ _ _ _ _ _ _ _
            rw [hWX]
            exact ⟨⟨by go_simp, by go_simp, by go_simp, by go_simp, by go_simp, by go_simp⟩, by go_simp, by go_simp, by go_simp, by go_simp, by go_simp, by go_simp⟩
          have hBwX : Below w.heap.size w WX := hBw.trans (hBX.mono (by omega))
          have HBY := l2By_any D b.kind b.name b.no b.must b.most b.kids ab cb x.no S WX (HKB.out.kept (fun g hg => hBwX.block g (HS.out g hg)) (fun _ h => h)) (fun g hg => by have h1 := HS.out g hg; have h2 := hBwX.size; omega)
          have HBY' : Hid (Calls Try.prog 64 #[.agg #[.int .i64 b.kind, .string b.name, .int .i64 b.no, .bool b.must, .int .i64 b.most, .slice ab b.kids.length cb], .int .i64 x.no] WX fun e w' => ByR D w' S b.kids x.no e ∧ Below WX.heap.size WX w') := HBY
          clear HBY hnd
          go_wp2_with fail
          rw [← hWX]
          clear hWX
          refine HBY'.out.mono ?_
          rintro e w5 ⟨hby, hb5⟩
          have hBX5 : Below wr.heap.size wr w5 := hBX.trans (hb5.mono hBX.size)
          have hs5 : wr.heap.size < w5.heap.size := by have h1 := hb5.size; have h2 := HSX.out; omega
          have SXX5 : Six w5 wr.heap.size (.int .i64 x.kind) (.string x.name) (.int .i64 x.no) (.bool x.must) (.int .i64 x.most) (.slice ac x.kids.length cc) := SXX.out.kept (hb5.block _ (by have h2 := HSX.out; omega))
          have SO5 := SX.kept (hBX5.block _ hob)
          have hbw5 : Below w4.heap.size w4 w5 := hbw.trans (hBX5.mono hbw.size)
          have hBw5 : Below w.heap.size w w5 := hBw.trans (hBX5.mono hBw.size)
          clear HBY' hb5 hBX HSX SXX hBwX a0 a1 a2 a3 a4 a5 b0 b1 b2 b3 b4 b5 y0 y1 y2 y3 y4 y5 z0 z1 z2 z3 z4 z5 c0 c1 c2 c3 c4 c5 hbwr
          have HKR : Hid (∀ W : World, Below wr.heap.size wr W → (joinL D (a.kids.take (i + 1)) b.kids = joinL D (a.kids.take i) b.kids) → JInv D a b b.must b.most S w4 w4.heap.size (i + 1) W) := fun W hW he => by
            refine ⟨ar, cr, ?_, ?_, hbw.trans (hW.mono hbw.size), by have := hW.size; omega⟩
            · rw [he]; exact SX.kept (hW.block _ hob)
            · rw [he]
              refine hkr.kept (fun g hg => hW.block g ?_) (fun g hg => ?_)
              · rcases hg with hg | hg
                · have := HS.out g hg; omega
                · exact hg.2
              · rcases hg with hg | hg
                · exact .inl hg
                · exact .inr ⟨hg.1, by have := hW.size; omega⟩
          obtain ⟨⟨k0, k1, k2, k3, k4, k5⟩, _⟩ := SXX5
          rcases hby with ⟨y, ay, ly, cy, hfy, rfl, hky⟩ | ⟨hfy, rfl⟩
          · have hym := byNo_mem b.kids x.no y hfy
            obtain ⟨WY, hWY⟩ : ∃ W, W = w5.alloc (.cells #[.int .i64 y.kind, .string y.name, .int .i64 y.no, .bool y.must, .int .i64 y.most, .slice ay ly cy] 75) := ⟨_, rfl⟩
            have hBY : Below w5.heap.size w5 WY := by rw [hWY]; exact (Below.refl _ w5).alloc (Nat.le_refl _) _
            have hBwY : Below w.heap.size w WY := hBw5.trans (hBY.mono hBw5.size)
            have HIC : Hid (Calls Try.prog 50 #[.agg #[.int .i64 x.kind, .string x.name, .int .i64 x.no, .bool x.must, .int .i64 x.most, .slice ac x.kids.length cc], .agg #[.int .i64 y.kind, .string y.name, .int .i64 y.no, .bool y.must, .int .i64 y.most, .slice ay ly cy]] WY fun e w' => JoR D x y S WY w' e ∧ Below WY.heap.size WY w') := IH.out x y ac ay x.kids.length cc ly cy S WY hxm hym (hkx.kept (fun g hg => hBwY.block g (HS.out g hg)) (fun _ h => h)) (hky.kept (fun g hg => hBY.block g (by have h1 := HS.out g hg; have h2 := hBw5.size; omega)) (fun _ h => h)) (fun g hg => by have h1 := HS.out g hg; have h2 := hBwY.size; omega)
            have hBXY : Below wr.heap.size wr WY := hBX5.trans (hBY.mono hBX5.size)
            clear hky
            go_wp2_with fail
            rw [← hWY]
            clear hWY
            refine HIC.out.mono ?_
            rintro e w6 ⟨hjo, hb6⟩
            have hBX6 : Below wr.heap.size wr w6 := hBXY.trans (hb6.mono hBXY.size)
            have hs6 : wr.heap.size < w6.heap.size := by have h1 := hb6.size; have h2 := hBY.size; omega
            have hob6 : w4.heap.size < w6.heap.size := by omega
            have SO6 := SX.kept (hBX6.block _ hob)
            have hY6 : wr.heap.size ≤ WY.heap.size := hBXY.size
            clear HIC hBY hBwY SO5 hBXY hbw5 hBw5 k0 k1 k2 k3 k4 k5
            rcases hjo with ⟨z, az, lz, cz, hjz, rfl, hkz⟩ | ⟨hjz, z, az, lz, cz, rfl⟩
            · have hzn : Hid (z.no = x.no) := joinT_no hjz
              have HSN2 : Hid (joinL D (a.kids.take (i + 1)) b.kids = putL (joinL D (a.kids.take i) b.kids) z) := by
                show _ = _
                rw [HSN.out, hfy, putL_last _ _ (fun y hy => by rw [hzn.out]; exact HLE.out y hy)]
                show _ ++ (joinT D x y).toList = _
                rw [hjz]
                rfl
              obtain ⟨WZ, hWZ⟩ : ∃ W, W = w6.alloc (.cells #[.int .i64 z.kind, .string z.name, .int .i64 z.no, .bool z.must, .int .i64 z.most, .slice az lz cz] 75) := ⟨_, rfl⟩
              have hBZ : Below w6.heap.size w6 WZ := by rw [hWZ]; exact (Below.refl _ w6).alloc (Nat.le_refl _) _
              have hBXZ : Below wr.heap.size wr WZ := hBX6.trans (hBZ.mono hBX6.size)
              have hPUT := l2PutKid_any D (.mk a.kind a.name a.no b.must b.most (joinL D (a.kids.take i) b.kids)) z ar az cr lz cz (fun g => S g ∨ (w4.heap.size < g ∧ g < w6.heap.size)) WZ (hkr.kept (fun g hg => hBXZ.block g (by rcases hg with hg | hg; (have := HS.out g hg; omega); exact hg.2)) (fun g hg => by rcases hg with hg | hg; exact .inl hg; exact .inr ⟨hg.1, by omega⟩)) (hkz.kept (fun g hg => hBZ.block g hg.2) (fun g hg => by rcases hg.1 with h | h; exact .inl h; exact .inr ⟨by omega, hg.2⟩)) (fun g hg => by have h2 := hBZ.size; rcases hg with hg | hg; (have := HS.out g hg; omega); omega) HLN.out
              unfold tv at hPUT
              have HPUT : Hid (Calls Try.prog 93 #[.agg #[.int .i64 a.kind, .string a.name, .int .i64 a.no, .bool b.must, .int .i64 b.most, .slice ar (joinL D (a.kids.take i) b.kids).length cr], .agg #[.int .i64 z.kind, .string z.name, .int .i64 z.no, .bool z.must, .int .i64 z.most, .slice az lz cz]] WZ fun e w' => ∃ ar' cr', e = .returned (.agg #[.int .i64 a.kind, .string a.name, .int .i64 a.no, .bool b.must, .int .i64 b.most, .slice ar' ((joinL D (a.kids.take i) b.kids).length + 1) cr']) ∧ KidsIn (D + 1) w' (fun g => ((S g ∨ (w4.heap.size < g ∧ g < w6.heap.size)) ∨ WZ.heap.size ≤ g) ∧ g < w'.heap.size) (.slice ar' ((joinL D (a.kids.take i) b.kids).length + 1) cr') (putL (joinL D (a.kids.take i) b.kids) z) ∧ Below WZ.heap.size WZ w') := hPUT
              clear hPUT hkz hkr
              obtain ⟨⟨q0, q1, q2, q3, q4, q5⟩, _⟩ := SO6
              go_wp2_with fail
              rw [← hWZ]
              clear hWZ
              refine HPUT.out.mono ?_
              rintro e w7 ⟨ar', cr', rfl, hk7, hb7⟩
              have hBX7 : Below wr.heap.size wr w7 := hBXZ.trans (hb7.mono hBXZ.size)
              have hob7 : w4.heap.size < w7.heap.size := by have := hBX7.size; omega
              have hWZs := hBZ.size
              have SO7 := SX.kept (hBX7.block _ hob)
              have HNEW : Hid (JInv D a b b.must b.most S w4 w4.heap.size (i + 1) (six6 w7 w4.heap.size (.int .i64 a.kind) (.string a.name) (.int .i64 a.no) (.bool b.must) (.int .i64 b.most) (.slice ar' ((joinL D (a.kids.take i) b.kids).length + 1) cr'))) := by
                have hl9 : (joinL D (a.kids.take (i + 1)) b.kids).length = (joinL D (a.kids.take i) b.kids).length + 1 := by rw [HSN2.out, putL_len]
                refine ⟨ar', cr', ?_, ?_, ?_, by rw [six6_size]; exact hob7⟩
                · rw [hl9]
                  exact six6_six SO7 _ _ _ _ _ _
                · rw [hl9, HSN2.out]
                  refine hk7.kept (fun g hg => six6_block _ _ _ _ _ _ _ _ g ?_) (fun g hg => ?_)
                  · rcases hg.1 with (h | h) | h
                    · have := HS.out g h; omega
                    · omega
                    · omega
                  · rw [six6_size]
                    rcases hg.1 with (h | h) | h
                    · exact .inl h
                    · exact .inr ⟨h.1, hg.2⟩
                    · exact .inr ⟨by omega, hg.2⟩
                · unfold six6
                  have h0 := hbw.trans (hBX7.mono hbw.size)
                  exact (((((h0.setCell (p := ⟨w4.heap.size, 0, none⟩) (Nat.le_refl _) _).setCell (p := ⟨w4.heap.size, 1, none⟩) (Nat.le_refl _) _).setCell (p := ⟨w4.heap.size, 2, none⟩) (Nat.le_refl _) _).setCell (p := ⟨w4.heap.size, 3, none⟩) (Nat.le_refl _) _).setCell (p := ⟨w4.heap.size, 4, none⟩) (Nat.le_refl _) _).setCell (p := ⟨w4.heap.size, 5, none⟩) (Nat.le_refl _) _
              clear hk7 hb7 HPUT q0 q1 q2 q3 q4 q5
              unfold six6 at HNEW
              obtain ⟨⟨q0, q1, q2, q3, q4, q5⟩, ⟨p0, p1, p2, p3, p4, p5⟩⟩ := SO7
              go_wp2
              go_roundw
              case rel => exact ⟨i + 1, by omega, by go_num, HNEW⟩
              case measure => simp [intOf]; omega
            · have HSAME : Hid (joinL D (a.kids.take (i + 1)) b.kids = joinL D (a.kids.take i) b.kids) := by
                show _ = _
                rw [HSN.out, hfy]
                show _ ++ (joinT D x y).toList = _
                rw [hjz]
                exact List.append_nil _
              have HNEW : Hid (JInv D a b b.must b.most S w4 w4.heap.size (i + 1) (w6.alloc (.cells #[.int .i64 z.kind, .string z.name, .int .i64 z.no, .bool z.must, .int .i64 z.most, .slice az lz cz] 75))) := HKR.out _ (hBX6.alloc hBX6.size _) HSAME.out
              go_wp2
              go_roundw
              case rel => exact ⟨i + 1, by omega, by go_num, HNEW⟩
              case measure => simp [intOf]; omega
          · have HSAME : Hid (joinL D (a.kids.take (i + 1)) b.kids = joinL D (a.kids.take i) b.kids) := by
              show _ = _
              rw [HSN.out, hfy]
              exact List.append_nil _
            have HNEW : Hid (JInv D a b b.must b.most S w4 w4.heap.size (i + 1) (w5.alloc (.cells #[.int .i64 0, .string ⟨#[]⟩, .int .i64 0, .bool false, .int .i64 0, .slice none 0 0] 75))) := HKR.out _ (hBX5.alloc hBX5.size _) HSAME.out
            go_wp2
            go_roundw
            case rel => exact ⟨i + 1, by omega, by go_num, HNEW⟩
            case measure => simp [intOf]; omega
        · have hke : i = a.kids.length := by omega
          subst hke
          have hge : ¬ ((a.kids.length : Int) < (a.kids.length : Int)) := by omega
          obtain ⟨⟨q0, q1, q2, q3, q4, q5⟩, _⟩ := SX
          rw [List.take_length] at hkr q5
          have hle : w.heap.size ≤ w.heap.size + 1 + 1 := by omega
          have hob2 : w.heap.size + 1 + 1 < w4.heap.size := HS2.out
          have HK : Hid (∀ w' : World, w'.heap.size = wr.heap.size → (∀ g, g ≠ w.heap.size + 1 + 1 → w'.heap[g]? = wr.heap[g]?) → KidsIn (D + 1) w' (fun g => (S g ∨ w.heap.size ≤ g) ∧ g < w'.heap.size) (.slice ar (joinL D a.kids b.kids).length cr) (joinL D a.kids b.kids)) := fun w' hs' hblk => by
            refine hkr.kept (fun g hg => hblk g ?_) (fun g hg => ?_)
            · rcases hg with hg | hg
              · have := HS.out g hg; omega
              · omega
            · rcases hg with hg | hg
              · exact ⟨.inl hg, by have := HS.out g hg; omega⟩
              · exact ⟨.inr (by omega), by omega⟩
          clear hkr hinv HROW HKB IH hbw
          go_wp2
          (try simp only [Exit.inBlock, Exit.then])
          have hBs := (((((hBw.setCell (p := ⟨w.heap.size + 1 + 1, 0, none⟩) hle (.int .i64 a.kind)).setCell (p := ⟨w.heap.size + 1 + 1, 1, none⟩) hle (.string a.name)).setCell (p := ⟨w.heap.size + 1 + 1, 2, none⟩) hle (.int .i64 a.no)).setCell (p := ⟨w.heap.size + 1 + 1, 3, none⟩) hle (.bool b.must)).setCell (p := ⟨w.heap.size + 1 + 1, 4, none⟩) hle (.int .i64 b.most)).setCell (p := ⟨w.heap.size + 1 + 1, 5, none⟩) hle (.slice ar (joinL D a.kids b.kids).length cr)
          refine bodyPost_ret (v := .tuple #[.agg #[.int .i64 a.kind, .string a.name, .int .i64 a.no, .bool b.must, .int .i64 b.most, .slice ar (joinL D a.kids b.kids).length cr], .bool true]) ?_ rfl ⟨ar, (joinL D a.kids b.kids).length, cr, ?_, ?_, ?_⟩
          · rw [results_cell_tmp rfl]
            go_simp
          · rw [HJ.out]; rfl
          · refine HK.out _ (by simp) (fun g hg => ?_)
            repeat rw [Below.heap_setCell _ _ _ _ (by show g ≠ w.heap.size + 1 + 1; omega)]
          · exact hBs
    · have hl' : decide (a.most < b.most) = false := by simpa using hl
      obtain ⟨W5, hW5⟩ : ∃ W, W = w4.alloc (.cells #[.int .i64 a.kind, .string a.name, .int .i64 a.no, .bool b.must, .int .i64 a.most, .slice none 0 0] 75) := ⟨_, rfl⟩
      have hb45 : Below w4.heap.size w4 W5 := by rw [hW5]; exact (Below.refl _ w4).alloc (Nat.le_refl _) _
      have HS5 : Hid (W5.heap.size = w4.heap.size + 1) := by show _ = _; rw [hW5]; simp
      have SX5 : Hid (Six W5 w4.heap.size (.int .i64 a.kind) (.string a.name) (.int .i64 a.no) (.bool b.must) (.int .i64 a.most) (.slice none 0 0)) := by
        show Six _ _ _ _ _ _ _ _
        rw [hW5]
        exact ⟨⟨by go_simp, by go_simp, by go_simp, by go_simp, by go_simp, by go_simp⟩, by go_simp, by go_simp, by go_simp, by go_simp, by go_simp, by go_simp⟩
      have HJ : Hid (∀ ks, jn a b ks = .mk a.kind a.name a.no b.must a.most ks) := fun ks => by rw [HJN.out]; congr 1 <;> first | rfl | (rw [hm]; rfl) | (rw [if_pos hl]) | (rw [if_neg hl])
      clear hl
      go_upto_region 7 with fail
      rw [← hW5]
      clear hW5
      have HW4 : Hid (∀ W : World, Below w4.heap.size w4 W → Below (w.heap.size + 3) W3 W) := fun W hW => hb34.trans (hW.mono (by have h := hb34.size; have h2 := HS3.out; omega))
      have hb35 := HW4.out _ hb45
      clear a0 a1 a2 a3 a4 a5 b0 b1 b2 b3 b4 b5 hBw hsw hb34
      obtain ⟨⟨⟨⟨a0, a1, a2, a3, a4, a5⟩, _⟩, _, _⟩, _, _⟩ := HC3.out _ hb35
      have HINI : Hid (JInv D a b b.must a.most S w4 w4.heap.size 0 W5) := by
        refine ⟨none, 0, ?_, ?_, hb45, by rw [HS5.out]; omega⟩
        · simp only [List.take_zero, joinL, List.filterMap_nil, List.length_nil]
          exact SX5.out
        · simp only [List.take_zero, joinL, List.filterMap_nil, List.length_nil]
          exact nil_kids
      clear SX5 hb45 hb35
      go_wp2_with fail
      clear a0 a1 a2 a3 a4 a5
      go_loopw [61] (fun vi wr => ∃ i : Nat, i ≤ a.kids.length ∧ vi = .int .i64 (i : Int) ∧ Hid (JInv D a b b.must a.most S w4 w4.heap.size i wr))
        (fun vi _ => a.kids.length - (intOf vi).toNat)
      case atStart => exact ⟨0, by omega, rfl, HINI.out⟩
      case round =>
        clear HINI
        obtain ⟨i, hil, rfl, hinv⟩ := hrel
        obtain ⟨ar, cr, SX, hkr, hbw, hob⟩ := hinv.out
        have hbwr := HW4.out _ hbw
        obtain ⟨⟨⟨⟨a0, a1, a2, a3, a4, a5⟩, _⟩, ⟨⟨b0, b1, b2, b3, b4, b5⟩, _⟩, ⟨⟨y0, y1, y2, y3, y4, y5⟩, ⟨z0, z1, z2, z3, z4, z5⟩⟩⟩, hBw, hsw⟩ := HC3.out _ hbwr
        have hsr0 : w.heap.size < wr.heap.size := by omega
        have hsr1 : w.heap.size + 1 < wr.heap.size := by omega
        by_cases hlt : i < a.kids.length
        · have hlt' : (i : Int) < (a.kids.length : Int) := by omega
          obtain ⟨x, hx⟩ : ∃ x, a.kids[i]? = some x := ⟨_, List.getElem?_eq_getElem hlt⟩
          obtain ⟨g, o, c', hao, hSg, hnd, hkx⟩ := HROW.out i x hx
          subst hao
          have hg := HS.out g hSg
          have hgr : g < wr.heap.size := by omega
          obtain ⟨c0, c1, c2, c3, c4, c5⟩ := hnd.kept (hBw.block g hg)
          obtain ⟨ac, cc, rfl, _⟩ := hkx.form
          have hxm : x ∈ a.kids := List.mem_of_getElem? hx
          have HSN : Hid (joinL D (a.kids.take (i + 1)) b.kids = joinL D (a.kids.take i) b.kids ++ ((byNo b.kids x.no).bind (joinT D x)).toList) := joinL_snoc D a.kids b.kids i x hx
          have HLE : Hid (∀ y ∈ joinL D (a.kids.take i) b.kids, y.no < x.no) := joinL_less D a.kids b.kids HRI.out i x hx
          have HLN : Hid ((joinL D (a.kids.take i) b.kids).length ≤ 1000) := Nat.le_trans (joinL_le D a.kids b.kids i) (by omega)
          obtain ⟨WX, hWX⟩ : ∃ W, W = wr.alloc (.cells #[.int .i64 x.kind, .string x.name, .int .i64 x.no, .bool x.must, .int .i64 x.most, .slice ac x.kids.length cc] 75) := ⟨_, rfl⟩
          have hBX : Below wr.heap.size wr WX := by rw [hWX]; exact (Below.refl _ wr).alloc (Nat.le_refl _) _
          have HSX : Hid (WX.heap.size = wr.heap.size + 1) := by show _ = _; rw [hWX]; simp
          have SXX : Hid (Six WX wr.heap.size (.int .i64 x.kind) (.string x.name) (.int .i64 x.no) (.bool x.must) (.int .i64 x.most) (.slice ac x.kids.length cc)) := by
            show Six _ _ _ _ _ _ _ _
            rw [hWX]
            exact ⟨⟨by go_simp, by go_simp, by go_simp, by go_simp, by go_simp, by go_simp⟩, by go_simp, by go_simp, by go_simp, by go_simp, by go_simp, by go_simp⟩
          have hBwX : Below w.heap.size w WX := hBw.trans (hBX.mono (by omega))
          have HBY := l2By_any D b.kind b.name b.no b.must b.most b.kids ab cb x.no S WX (HKB.out.kept (fun g hg => hBwX.block g (HS.out g hg)) (fun _ h => h)) (fun g hg => by have h1 := HS.out g hg; have h2 := hBwX.size; omega)
          have HBY' : Hid (Calls Try.prog 64 #[.agg #[.int .i64 b.kind, .string b.name, .int .i64 b.no, .bool b.must, .int .i64 b.most, .slice ab b.kids.length cb], .int .i64 x.no] WX fun e w' => ByR D w' S b.kids x.no e ∧ Below WX.heap.size WX w') := HBY
          clear HBY hnd
          go_wp2_with fail
          rw [← hWX]
          clear hWX
          refine HBY'.out.mono ?_
          rintro e w5 ⟨hby, hb5⟩
          have hBX5 : Below wr.heap.size wr w5 := hBX.trans (hb5.mono hBX.size)
          have hs5 : wr.heap.size < w5.heap.size := by have h1 := hb5.size; have h2 := HSX.out; omega
          have SXX5 : Six w5 wr.heap.size (.int .i64 x.kind) (.string x.name) (.int .i64 x.no) (.bool x.must) (.int .i64 x.most) (.slice ac x.kids.length cc) := SXX.out.kept (hb5.block _ (by have h2 := HSX.out; omega))
          have SO5 := SX.kept (hBX5.block _ hob)
          have hbw5 : Below w4.heap.size w4 w5 := hbw.trans (hBX5.mono hbw.size)
          have hBw5 : Below w.heap.size w w5 := hBw.trans (hBX5.mono hBw.size)
          clear HBY' hb5 hBX HSX SXX hBwX a0 a1 a2 a3 a4 a5 b0 b1 b2 b3 b4 b5 y0 y1 y2 y3 y4 y5 z0 z1 z2 z3 z4 z5 c0 c1 c2 c3 c4 c5 hbwr
          have HKR : Hid (∀ W : World, Below wr.heap.size wr W → (joinL D (a.kids.take (i + 1)) b.kids = joinL D (a.kids.take i) b.kids) → JInv D a b b.must a.most S w4 w4.heap.size (i + 1) W) := fun W hW he => by
            refine ⟨ar, cr, ?_, ?_, hbw.trans (hW.mono hbw.size), by have := hW.size; omega⟩
            · rw [he]; exact SX.kept (hW.block _ hob)
            · rw [he]
              refine hkr.kept (fun g hg => hW.block g ?_) (fun g hg => ?_)
              · rcases hg with hg | hg
                · have := HS.out g hg; omega
                · exact hg.2
              · rcases hg with hg | hg
                · exact .inl hg
                · exact .inr ⟨hg.1, by have := hW.size; omega⟩
          obtain ⟨⟨k0, k1, k2, k3, k4, k5⟩, _⟩ := SXX5
          rcases hby with ⟨y, ay, ly, cy, hfy, rfl, hky⟩ | ⟨hfy, rfl⟩
          · have hym := byNo_mem b.kids x.no y hfy
            obtain ⟨WY, hWY⟩ : ∃ W, W = w5.alloc (.cells #[.int .i64 y.kind, .string y.name, .int .i64 y.no, .bool y.must, .int .i64 y.most, .slice ay ly cy] 75) := ⟨_, rfl⟩
            have hBY : Below w5.heap.size w5 WY := by rw [hWY]; exact (Below.refl _ w5).alloc (Nat.le_refl _) _
            have hBwY : Below w.heap.size w WY := hBw5.trans (hBY.mono hBw5.size)
            have HIC : Hid (Calls Try.prog 50 #[.agg #[.int .i64 x.kind, .string x.name, .int .i64 x.no, .bool x.must, .int .i64 x.most, .slice ac x.kids.length cc], .agg #[.int .i64 y.kind, .string y.name, .int .i64 y.no, .bool y.must, .int .i64 y.most, .slice ay ly cy]] WY fun e w' => JoR D x y S WY w' e ∧ Below WY.heap.size WY w') := IH.out x y ac ay x.kids.length cc ly cy S WY hxm hym (hkx.kept (fun g hg => hBwY.block g (HS.out g hg)) (fun _ h => h)) (hky.kept (fun g hg => hBY.block g (by have h1 := HS.out g hg; have h2 := hBw5.size; omega)) (fun _ h => h)) (fun g hg => by have h1 := HS.out g hg; have h2 := hBwY.size; omega)
            have hBXY : Below wr.heap.size wr WY := hBX5.trans (hBY.mono hBX5.size)
            clear hky
            go_wp2_with fail
            rw [← hWY]
            clear hWY
            refine HIC.out.mono ?_
            rintro e w6 ⟨hjo, hb6⟩
            have hBX6 : Below wr.heap.size wr w6 := hBXY.trans (hb6.mono hBXY.size)
            have hs6 : wr.heap.size < w6.heap.size := by have h1 := hb6.size; have h2 := hBY.size; omega
            have hob6 : w4.heap.size < w6.heap.size := by omega
            have SO6 := SX.kept (hBX6.block _ hob)
            have hY6 : wr.heap.size ≤ WY.heap.size := hBXY.size
            clear HIC hBY hBwY SO5 hBXY hbw5 hBw5 k0 k1 k2 k3 k4 k5
            rcases hjo with ⟨z, az, lz, cz, hjz, rfl, hkz⟩ | ⟨hjz, z, az, lz, cz, rfl⟩
            · have hzn : Hid (z.no = x.no) := joinT_no hjz
              have HSN2 : Hid (joinL D (a.kids.take (i + 1)) b.kids = putL (joinL D (a.kids.take i) b.kids) z) := by
                show _ = _
                rw [HSN.out, hfy, putL_last _ _ (fun y hy => by rw [hzn.out]; exact HLE.out y hy)]
                show _ ++ (joinT D x y).toList = _
                rw [hjz]
                rfl
              obtain ⟨WZ, hWZ⟩ : ∃ W, W = w6.alloc (.cells #[.int .i64 z.kind, .string z.name, .int .i64 z.no, .bool z.must, .int .i64 z.most, .slice az lz cz] 75) := ⟨_, rfl⟩
              have hBZ : Below w6.heap.size w6 WZ := by rw [hWZ]; exact (Below.refl _ w6).alloc (Nat.le_refl _) _
              have hBXZ : Below wr.heap.size wr WZ := hBX6.trans (hBZ.mono hBX6.size)
              have hPUT := l2PutKid_any D (.mk a.kind a.name a.no b.must a.most (joinL D (a.kids.take i) b.kids)) z ar az cr lz cz (fun g => S g ∨ (w4.heap.size < g ∧ g < w6.heap.size)) WZ (hkr.kept (fun g hg => hBXZ.block g (by rcases hg with hg | hg; (have := HS.out g hg; omega); exact hg.2)) (fun g hg => by rcases hg with hg | hg; exact .inl hg; exact .inr ⟨hg.1, by omega⟩)) (hkz.kept (fun g hg => hBZ.block g hg.2) (fun g hg => by rcases hg.1 with h | h; exact .inl h; exact .inr ⟨by omega, hg.2⟩)) (fun g hg => by have h2 := hBZ.size; rcases hg with hg | hg; (have := HS.out g hg; omega); omega) HLN.out
              unfold tv at hPUT
              have HPUT : Hid (Calls Try.prog 93 #[.agg #[.int .i64 a.kind, .string a.name, .int .i64 a.no, .bool b.must, .int .i64 a.most, .slice ar (joinL D (a.kids.take i) b.kids).length cr], .agg #[.int .i64 z.kind, .string z.name, .int .i64 z.no, .bool z.must, .int .i64 z.most, .slice az lz cz]] WZ fun e w' => ∃ ar' cr', e = .returned (.agg #[.int .i64 a.kind, .string a.name, .int .i64 a.no, .bool b.must, .int .i64 a.most, .slice ar' ((joinL D (a.kids.take i) b.kids).length + 1) cr']) ∧ KidsIn (D + 1) w' (fun g => ((S g ∨ (w4.heap.size < g ∧ g < w6.heap.size)) ∨ WZ.heap.size ≤ g) ∧ g < w'.heap.size) (.slice ar' ((joinL D (a.kids.take i) b.kids).length + 1) cr') (putL (joinL D (a.kids.take i) b.kids) z) ∧ Below WZ.heap.size WZ w') := hPUT
              clear hPUT hkz hkr
              obtain ⟨⟨q0, q1, q2, q3, q4, q5⟩, _⟩ := SO6
              go_wp2_with fail
              rw [← hWZ]
              clear hWZ
              refine HPUT.out.mono ?_
              rintro e w7 ⟨ar', cr', rfl, hk7, hb7⟩
              have hBX7 : Below wr.heap.size wr w7 := hBXZ.trans (hb7.mono hBXZ.size)
              have hob7 : w4.heap.size < w7.heap.size := by have := hBX7.size; omega
              have hWZs := hBZ.size
              have SO7 := SX.kept (hBX7.block _ hob)
              have HNEW : Hid (JInv D a b b.must a.most S w4 w4.heap.size (i + 1) (six6 w7 w4.heap.size (.int .i64 a.kind) (.string a.name) (.int .i64 a.no) (.bool b.must) (.int .i64 a.most) (.slice ar' ((joinL D (a.kids.take i) b.kids).length + 1) cr'))) := by
                have hl9 : (joinL D (a.kids.take (i + 1)) b.kids).length = (joinL D (a.kids.take i) b.kids).length + 1 := by rw [HSN2.out, putL_len]
                refine ⟨ar', cr', ?_, ?_, ?_, by rw [six6_size]; exact hob7⟩
                · rw [hl9]
                  exact six6_six SO7 _ _ _ _ _ _
                · rw [hl9, HSN2.out]
                  refine hk7.kept (fun g hg => six6_block _ _ _ _ _ _ _ _ g ?_) (fun g hg => ?_)
                  · rcases hg.1 with (h | h) | h
                    · have := HS.out g h; omega
                    · omega
                    · omega
                  · rw [six6_size]
                    rcases hg.1 with (h | h) | h
                    · exact .inl h
                    · exact .inr ⟨h.1, hg.2⟩
                    · exact .inr ⟨by omega, hg.2⟩
                · unfold six6
                  have h0 := hbw.trans (hBX7.mono hbw.size)
                  exact (((((h0.setCell (p := ⟨w4.heap.size, 0, none⟩) (Nat.le_refl _) _).setCell (p := ⟨w4.heap.size, 1, none⟩) (Nat.le_refl _) _).setCell (p := ⟨w4.heap.size, 2, none⟩) (Nat.le_refl _) _).setCell (p := ⟨w4.heap.size, 3, none⟩) (Nat.le_refl _) _).setCell (p := ⟨w4.heap.size, 4, none⟩) (Nat.le_refl _) _).setCell (p := ⟨w4.heap.size, 5, none⟩) (Nat.le_refl _) _
              clear hk7 hb7 HPUT q0 q1 q2 q3 q4 q5
              unfold six6 at HNEW
              obtain ⟨⟨q0, q1, q2, q3, q4, q5⟩, ⟨p0, p1, p2, p3, p4, p5⟩⟩ := SO7
              go_wp2
              go_roundw
              case rel => exact ⟨i + 1, by omega, by go_num, HNEW⟩
              case measure => simp [intOf]; omega
            · have HSAME : Hid (joinL D (a.kids.take (i + 1)) b.kids = joinL D (a.kids.take i) b.kids) := by
                show _ = _
                rw [HSN.out, hfy]
                show _ ++ (joinT D x y).toList = _
                rw [hjz]
                exact List.append_nil _
              have HNEW : Hid (JInv D a b b.must a.most S w4 w4.heap.size (i + 1) (w6.alloc (.cells #[.int .i64 z.kind, .string z.name, .int .i64 z.no, .bool z.must, .int .i64 z.most, .slice az lz cz] 75))) := HKR.out _ (hBX6.alloc hBX6.size _) HSAME.out
              go_wp2
              go_roundw
              case rel => exact ⟨i + 1, by omega, by go_num, HNEW⟩
              case measure => simp [intOf]; omega
          · have HSAME : Hid (joinL D (a.kids.take (i + 1)) b.kids = joinL D (a.kids.take i) b.kids) := by
              show _ = _
              rw [HSN.out, hfy]
              exact List.append_nil _
            have HNEW : Hid (JInv D a b b.must a.most S w4 w4.heap.size (i + 1) (w5.alloc (.cells #[.int .i64 0, .string ⟨#[]⟩, .int .i64 0, .bool false, .int .i64 0, .slice none 0 0] 75))) := HKR.out _ (hBX5.alloc hBX5.size _) HSAME.out
            go_wp2
            go_roundw
            case rel => exact ⟨i + 1, by omega, by go_num, HNEW⟩
            case measure => simp [intOf]; omega
        · have hke : i = a.kids.length := by omega
          subst hke
          have hge : ¬ ((a.kids.length : Int) < (a.kids.length : Int)) := by omega
          obtain ⟨⟨q0, q1, q2, q3, q4, q5⟩, _⟩ := SX
          rw [List.take_length] at hkr q5
          have hle : w.heap.size ≤ w.heap.size + 1 + 1 := by omega
          have hob2 : w.heap.size + 1 + 1 < w4.heap.size := HS2.out
          have HK : Hid (∀ w' : World, w'.heap.size = wr.heap.size → (∀ g, g ≠ w.heap.size + 1 + 1 → w'.heap[g]? = wr.heap[g]?) → KidsIn (D + 1) w' (fun g => (S g ∨ w.heap.size ≤ g) ∧ g < w'.heap.size) (.slice ar (joinL D a.kids b.kids).length cr) (joinL D a.kids b.kids)) := fun w' hs' hblk => by
            refine hkr.kept (fun g hg => hblk g ?_) (fun g hg => ?_)
            · rcases hg with hg | hg
              · have := HS.out g hg; omega
              · omega
            · rcases hg with hg | hg
              · exact ⟨.inl hg, by have := HS.out g hg; omega⟩
              · exact ⟨.inr (by omega), by omega⟩
          clear hkr hinv HROW HKB IH hbw
          go_wp2
          (try simp only [Exit.inBlock, Exit.then])
          have hBs := (((((hBw.setCell (p := ⟨w.heap.size + 1 + 1, 0, none⟩) hle (.int .i64 a.kind)).setCell (p := ⟨w.heap.size + 1 + 1, 1, none⟩) hle (.string a.name)).setCell (p := ⟨w.heap.size + 1 + 1, 2, none⟩) hle (.int .i64 a.no)).setCell (p := ⟨w.heap.size + 1 + 1, 3, none⟩) hle (.bool b.must)).setCell (p := ⟨w.heap.size + 1 + 1, 4, none⟩) hle (.int .i64 a.most)).setCell (p := ⟨w.heap.size + 1 + 1, 5, none⟩) hle (.slice ar (joinL D a.kids b.kids).length cr)
          refine bodyPost_ret (v := .tuple #[.agg #[.int .i64 a.kind, .string a.name, .int .i64 a.no, .bool b.must, .int .i64 a.most, .slice ar (joinL D a.kids b.kids).length cr], .bool true]) ?_ rfl ⟨ar, (joinL D a.kids b.kids).length, cr, ?_, ?_, ?_⟩
          · rw [results_cell_tmp rfl]
            go_simp
          · rw [HJ.out]; rfl
          · refine HK.out _ (by simp) (fun g hg => ?_)
            repeat rw [Below.heap_setCell _ _ _ _ (by show g ≠ w.heap.size + 1 + 1; omega)]
          · exact hBs
  | false =>
    rw [hm] at a3
    by_cases hl : a.most < b.most
    · have hl' : decide (a.most < b.most) = true := by simpa using hl
      obtain ⟨W5, hW5⟩ : ∃ W, W = w4.alloc (.cells #[.int .i64 a.kind, .string a.name, .int .i64 a.no, .bool false, .int .i64 b.most, .slice none 0 0] 75) := ⟨_, rfl⟩
      have hb45 : Below w4.heap.size w4 W5 := by rw [hW5]; exact (Below.refl _ w4).alloc (Nat.le_refl _) _
      have HS5 : Hid (W5.heap.size = w4.heap.size + 1) := by show _ = _; rw [hW5]; simp
      have SX5 : Hid (Six W5 w4.heap.size (.int .i64 a.kind) (.string a.name) (.int .i64 a.no) (.bool false) (.int .i64 b.most) (.slice none 0 0)) := by
        show Six _ _ _ _ _ _ _ _
        rw [hW5]
        exact ⟨⟨by go_simp, by go_simp, by go_simp, by go_simp, by go_simp, by go_simp⟩, by go_simp, by go_simp, by go_simp, by go_simp, by go_simp, by go_simp⟩
      have HJ : Hid (∀ ks, jn a b ks = .mk a.kind a.name a.no false b.most ks) := fun ks => by rw [HJN.out]; congr 1 <;> first | rfl | (rw [hm]; rfl) | (rw [if_pos hl]) | (rw [if_neg hl])
      clear hl
      go_upto_region 7 with fail
      rw [← hW5]
      clear hW5
      have HW4 : Hid (∀ W : World, Below w4.heap.size w4 W → Below (w.heap.size + 3) W3 W) := fun W hW => hb34.trans (hW.mono (by have h := hb34.size; have h2 := HS3.out; omega))
      have hb35 := HW4.out _ hb45
      clear a0 a1 a2 a3 a4 a5 b0 b1 b2 b3 b4 b5 hBw hsw hb34
      obtain ⟨⟨⟨⟨a0, a1, a2, a3, a4, a5⟩, _⟩, _, _⟩, _, _⟩ := HC3.out _ hb35
      have HINI : Hid (JInv D a b false b.most S w4 w4.heap.size 0 W5) := by
        refine ⟨none, 0, ?_, ?_, hb45, by rw [HS5.out]; omega⟩
        · simp only [List.take_zero, joinL, List.filterMap_nil, List.length_nil]
          exact SX5.out
        · simp only [List.take_zero, joinL, List.filterMap_nil, List.length_nil]
          exact nil_kids
      clear SX5 hb45 hb35
      go_wp2_with fail
      clear a0 a1 a2 a3 a4 a5
      go_loopw [61] (fun vi wr => ∃ i : Nat, i ≤ a.kids.length ∧ vi = .int .i64 (i : Int) ∧ Hid (JInv D a b false b.most S w4 w4.heap.size i wr))
        (fun vi _ => a.kids.length - (intOf vi).toNat)
      case atStart => exact ⟨0, by omega, rfl, HINI.out⟩
      case round =>
        clear HINI
        obtain ⟨i, hil, rfl, hinv⟩ := hrel
        obtain ⟨ar, cr, SX, hkr, hbw, hob⟩ := hinv.out
        have hbwr := HW4.out _ hbw
        obtain ⟨⟨⟨⟨a0, a1, a2, a3, a4, a5⟩, _⟩, ⟨⟨b0, b1, b2, b3, b4, b5⟩, _⟩, ⟨⟨y0, y1, y2, y3, y4, y5⟩, ⟨z0, z1, z2, z3, z4, z5⟩⟩⟩, hBw, hsw⟩ := HC3.out _ hbwr
        have hsr0 : w.heap.size < wr.heap.size := by omega
        have hsr1 : w.heap.size + 1 < wr.heap.size := by omega
        by_cases hlt : i < a.kids.length
        · have hlt' : (i : Int) < (a.kids.length : Int) := by omega
          obtain ⟨x, hx⟩ : ∃ x, a.kids[i]? = some x := ⟨_, List.getElem?_eq_getElem hlt⟩
          obtain ⟨g, o, c', hao, hSg, hnd, hkx⟩ := HROW.out i x hx
          subst hao
          have hg := HS.out g hSg
          have hgr : g < wr.heap.size := by omega
          obtain ⟨c0, c1, c2, c3, c4, c5⟩ := hnd.kept (hBw.block g hg)
          obtain ⟨ac, cc, rfl, _⟩ := hkx.form
          have hxm : x ∈ a.kids := List.mem_of_getElem? hx
          have HSN : Hid (joinL D (a.kids.take (i + 1)) b.kids = joinL D (a.kids.take i) b.kids ++ ((byNo b.kids x.no).bind (joinT D x)).toList) := joinL_snoc D a.kids b.kids i x hx
          have HLE : Hid (∀ y ∈ joinL D (a.kids.take i) b.kids, y.no < x.no) := joinL_less D a.kids b.kids HRI.out i x hx
          have HLN : Hid ((joinL D (a.kids.take i) b.kids).length ≤ 1000) := Nat.le_trans (joinL_le D a.kids b.kids i) (by omega)
          obtain ⟨WX, hWX⟩ : ∃ W, W = wr.alloc (.cells #[.int .i64 x.kind, .string x.name, .int .i64 x.no, .bool x.must, .int .i64 x.most, .slice ac x.kids.length cc] 75) := ⟨_, rfl⟩
          have hBX : Below wr.heap.size wr WX := by rw [hWX]; exact (Below.refl _ wr).alloc (Nat.le_refl _) _
          have HSX : Hid (WX.heap.size = wr.heap.size + 1) := by show _ = _; rw [hWX]; simp
          have SXX : Hid (Six WX wr.heap.size (.int .i64 x.kind) (.string x.name) (.int .i64 x.no) (.bool x.must) (.int .i64 x.most) (.slice ac x.kids.length cc)) := by
            show Six _ _ _ _ _ _ _ _
            rw [hWX]
            exact ⟨⟨by go_simp, by go_simp, by go_simp, by go_simp, by go_simp, by go_simp⟩, by go_simp, by go_simp, by go_simp, by go_simp, by go_simp, by go_simp⟩
          have hBwX : Below w.heap.size w WX := hBw.trans (hBX.mono (by omega))
          have HBY := l2By_any D b.kind b.name b.no b.must b.most b.kids ab cb x.no S WX (HKB.out.kept (fun g hg => hBwX.block g (HS.out g hg)) (fun _ h => h)) (fun g hg => by have h1 := HS.out g hg; have h2 := hBwX.size; omega)
          have HBY' : Hid (Calls Try.prog 64 #[.agg #[.int .i64 b.kind, .string b.name, .int .i64 b.no, .bool b.must, .int .i64 b.most, .slice ab b.kids.length cb], .int .i64 x.no] WX fun e w' => ByR D w' S b.kids x.no e ∧ Below WX.heap.size WX w') := HBY
          clear HBY hnd
          go_wp2_with fail
          rw [← hWX]
          clear hWX
          refine HBY'.out.mono ?_
          rintro e w5 ⟨hby, hb5⟩
          have hBX5 : Below wr.heap.size wr w5 := hBX.trans (hb5.mono hBX.size)
          have hs5 : wr.heap.size < w5.heap.size := by have h1 := hb5.size; have h2 := HSX.out; omega
          have SXX5 : Six w5 wr.heap.size (.int .i64 x.kind) (.string x.name) (.int .i64 x.no) (.bool x.must) (.int .i64 x.most) (.slice ac x.kids.length cc) := SXX.out.kept (hb5.block _ (by have h2 := HSX.out; omega))
          have SO5 := SX.kept (hBX5.block _ hob)
          have hbw5 : Below w4.heap.size w4 w5 := hbw.trans (hBX5.mono hbw.size)
          have hBw5 : Below w.heap.size w w5 := hBw.trans (hBX5.mono hBw.size)
          clear HBY' hb5 hBX HSX SXX hBwX a0 a1 a2 a3 a4 a5 b0 b1 b2 b3 b4 b5 y0 y1 y2 y3 y4 y5 z0 z1 z2 z3 z4 z5 c0 c1 c2 c3 c4 c5 hbwr
          have HKR : Hid (∀ W : World, Below wr.heap.size wr W → (joinL D (a.kids.take (i + 1)) b.kids = joinL D (a.kids.take i) b.kids) → JInv D a b false b.most S w4 w4.heap.size (i + 1) W) := fun W hW he => by
            refine ⟨ar, cr, ?_, ?_, hbw.trans (hW.mono hbw.size), by have := hW.size; omega⟩
            · rw [he]; exact SX.kept (hW.block _ hob)
            · rw [he]
              refine hkr.kept (fun g hg => hW.block g ?_) (fun g hg => ?_)
              · rcases hg with hg | hg
                · have := HS.out g hg; omega
                · exact hg.2
              · rcases hg with hg | hg
                · exact .inl hg
                · exact .inr ⟨hg.1, by have := hW.size; omega⟩
          obtain ⟨⟨k0, k1, k2, k3, k4, k5⟩, _⟩ := SXX5
          rcases hby with ⟨y, ay, ly, cy, hfy, rfl, hky⟩ | ⟨hfy, rfl⟩
          · have hym := byNo_mem b.kids x.no y hfy
            obtain ⟨WY, hWY⟩ : ∃ W, W = w5.alloc (.cells #[.int .i64 y.kind, .string y.name, .int .i64 y.no, .bool y.must, .int .i64 y.most, .slice ay ly cy] 75) := ⟨_, rfl⟩
            have hBY : Below w5.heap.size w5 WY := by rw [hWY]; exact (Below.refl _ w5).alloc (Nat.le_refl _) _
            have hBwY : Below w.heap.size w WY := hBw5.trans (hBY.mono hBw5.size)
            have HIC : Hid (Calls Try.prog 50 #[.agg #[.int .i64 x.kind, .string x.name, .int .i64 x.no, .bool x.must, .int .i64 x.most, .slice ac x.kids.length cc], .agg #[.int .i64 y.kind, .string y.name, .int .i64 y.no, .bool y.must, .int .i64 y.most, .slice ay ly cy]] WY fun e w' => JoR D x y S WY w' e ∧ Below WY.heap.size WY w') := IH.out x y ac ay x.kids.length cc ly cy S WY hxm hym (hkx.kept (fun g hg => hBwY.block g (HS.out g hg)) (fun _ h => h)) (hky.kept (fun g hg => hBY.block g (by have h1 := HS.out g hg; have h2 := hBw5.size; omega)) (fun _ h => h)) (fun g hg => by have h1 := HS.out g hg; have h2 := hBwY.size; omega)
            have hBXY : Below wr.heap.size wr WY := hBX5.trans (hBY.mono hBX5.size)
            clear hky
            go_wp2_with fail
            rw [← hWY]
            clear hWY
            refine HIC.out.mono ?_
            rintro e w6 ⟨hjo, hb6⟩
            have hBX6 : Below wr.heap.size wr w6 := hBXY.trans (hb6.mono hBXY.size)
            have hs6 : wr.heap.size < w6.heap.size := by have h1 := hb6.size; have h2 := hBY.size; omega
            have hob6 : w4.heap.size < w6.heap.size := by omega
            have SO6 := SX.kept (hBX6.block _ hob)
            have hY6 : wr.heap.size ≤ WY.heap.size := hBXY.size
            clear HIC hBY hBwY SO5 hBXY hbw5 hBw5 k0 k1 k2 k3 k4 k5
            rcases hjo with ⟨z, az, lz, cz, hjz, rfl, hkz⟩ | ⟨hjz, z, az, lz, cz, rfl⟩
            · have hzn : Hid (z.no = x.no) := joinT_no hjz
              have HSN2 : Hid (joinL D (a.kids.take (i + 1)) b.kids = putL (joinL D (a.kids.take i) b.kids) z) := by
                show _ = _
                rw [HSN.out, hfy, putL_last _ _ (fun y hy => by rw [hzn.out]; exact HLE.out y hy)]
                show _ ++ (joinT D x y).toList = _
                rw [hjz]
                rfl
              obtain ⟨WZ, hWZ⟩ : ∃ W, W = w6.alloc (.cells #[.int .i64 z.kind, .string z.name, .int .i64 z.no, .bool z.must, .int .i64 z.most, .slice az lz cz] 75) := ⟨_, rfl⟩
              have hBZ : Below w6.heap.size w6 WZ := by rw [hWZ]; exact (Below.refl _ w6).alloc (Nat.le_refl _) _
              have hBXZ : Below wr.heap.size wr WZ := hBX6.trans (hBZ.mono hBX6.size)
              have hPUT := l2PutKid_any D (.mk a.kind a.name a.no false b.most (joinL D (a.kids.take i) b.kids)) z ar az cr lz cz (fun g => S g ∨ (w4.heap.size < g ∧ g < w6.heap.size)) WZ (hkr.kept (fun g hg => hBXZ.block g (by rcases hg with hg | hg; (have := HS.out g hg; omega); exact hg.2)) (fun g hg => by rcases hg with hg | hg; exact .inl hg; exact .inr ⟨hg.1, by omega⟩)) (hkz.kept (fun g hg => hBZ.block g hg.2) (fun g hg => by rcases hg.1 with h | h; exact .inl h; exact .inr ⟨by omega, hg.2⟩)) (fun g hg => by have h2 := hBZ.size; rcases hg with hg | hg; (have := HS.out g hg; omega); omega) HLN.out
              unfold tv at hPUT
              have HPUT : Hid (Calls Try.prog 93 #[.agg #[.int .i64 a.kind, .string a.name, .int .i64 a.no, .bool false, .int .i64 b.most, .slice ar (joinL D (a.kids.take i) b.kids).length cr], .agg #[.int .i64 z.kind, .string z.name, .int .i64 z.no, .bool z.must, .int .i64 z.most, .slice az lz cz]] WZ fun e w' => ∃ ar' cr', e = .returned (.agg #[.int .i64 a.kind, .string a.name, .int .i64 a.no, .bool false, .int .i64 b.most, .slice ar' ((joinL D (a.kids.take i) b.kids).length + 1) cr']) ∧ KidsIn (D + 1) w' (fun g => ((S g ∨ (w4.heap.size < g ∧ g < w6.heap.size)) ∨ WZ.heap.size ≤ g) ∧ g < w'.heap.size) (.slice ar' ((joinL D (a.kids.take i) b.kids).length + 1) cr') (putL (joinL D (a.kids.take i) b.kids) z) ∧ Below WZ.heap.size WZ w') := hPUT
              clear hPUT hkz hkr
              obtain ⟨⟨q0, q1, q2, q3, q4, q5⟩, _⟩ := SO6
              go_wp2_with fail
              rw [← hWZ]
              clear hWZ
              refine HPUT.out.mono ?_
              rintro e w7 ⟨ar', cr', rfl, hk7, hb7⟩
              have hBX7 : Below wr.heap.size wr w7 := hBXZ.trans (hb7.mono hBXZ.size)
              have hob7 : w4.heap.size < w7.heap.size := by have := hBX7.size; omega
              have hWZs := hBZ.size
              have SO7 := SX.kept (hBX7.block _ hob)
              have HNEW : Hid (JInv D a b false b.most S w4 w4.heap.size (i + 1) (six6 w7 w4.heap.size (.int .i64 a.kind) (.string a.name) (.int .i64 a.no) (.bool false) (.int .i64 b.most) (.slice ar' ((joinL D (a.kids.take i) b.kids).length + 1) cr'))) := by
                have hl9 : (joinL D (a.kids.take (i + 1)) b.kids).length = (joinL D (a.kids.take i) b.kids).length + 1 := by rw [HSN2.out, putL_len]
                refine ⟨ar', cr', ?_, ?_, ?_, by rw [six6_size]; exact hob7⟩
                · rw [hl9]
                  exact six6_six SO7 _ _ _ _ _ _
                · rw [hl9, HSN2.out]
                  refine hk7.kept (fun g hg => six6_block _ _ _ _ _ _ _ _ g ?_) (fun g hg => ?_)
                  · rcases hg.1 with (h | h) | h
                    · have := HS.out g h; omega
                    · omega
                    · omega
                  · rw [six6_size]
                    rcases hg.1 with (h | h) | h
                    · exact .inl h
                    · exact .inr ⟨h.1, hg.2⟩
                    · exact .inr ⟨by omega, hg.2⟩
                · unfold six6
                  have h0 := hbw.trans (hBX7.mono hbw.size)
                  exact (((((h0.setCell (p := ⟨w4.heap.size, 0, none⟩) (Nat.le_refl _) _).setCell (p := ⟨w4.heap.size, 1, none⟩) (Nat.le_refl _) _).setCell (p := ⟨w4.heap.size, 2, none⟩) (Nat.le_refl _) _).setCell (p := ⟨w4.heap.size, 3, none⟩) (Nat.le_refl _) _).setCell (p := ⟨w4.heap.size, 4, none⟩) (Nat.le_refl _) _).setCell (p := ⟨w4.heap.size, 5, none⟩) (Nat.le_refl _) _
              clear hk7 hb7 HPUT q0 q1 q2 q3 q4 q5
              unfold six6 at HNEW
              obtain ⟨⟨q0, q1, q2, q3, q4, q5⟩, ⟨p0, p1, p2, p3, p4, p5⟩⟩ := SO7
              go_wp2
              go_roundw
              case rel => exact ⟨i + 1, by omega, by go_num, HNEW⟩
              case measure => simp [intOf]; omega
            · have HSAME : Hid (joinL D (a.kids.take (i + 1)) b.kids = joinL D (a.kids.take i) b.kids) := by
                show _ = _
                rw [HSN.out, hfy]
                show _ ++ (joinT D x y).toList = _
                rw [hjz]
                exact List.append_nil _
              have HNEW : Hid (JInv D a b false b.most S w4 w4.heap.size (i + 1) (w6.alloc (.cells #[.int .i64 z.kind, .string z.name, .int .i64 z.no, .bool z.must, .int .i64 z.most, .slice az lz cz] 75))) := HKR.out _ (hBX6.alloc hBX6.size _) HSAME.out
              go_wp2
              go_roundw
              case rel => exact ⟨i + 1, by omega, by go_num, HNEW⟩
              case measure => simp [intOf]; omega
          · have HSAME : Hid (joinL D (a.kids.take (i + 1)) b.kids = joinL D (a.kids.take i) b.kids) := by
              show _ = _
              rw [HSN.out, hfy]
              exact List.append_nil _
            have HNEW : Hid (JInv D a b false b.most S w4 w4.heap.size (i + 1) (w5.alloc (.cells #[.int .i64 0, .string ⟨#[]⟩, .int .i64 0, .bool false, .int .i64 0, .slice none 0 0] 75))) := HKR.out _ (hBX5.alloc hBX5.size _) HSAME.out
            go_wp2
            go_roundw
            case rel => exact ⟨i + 1, by omega, by go_num, HNEW⟩
            case measure => simp [intOf]; omega
        · have hke : i = a.kids.length := by omega
          subst hke
          have hge : ¬ ((a.kids.length : Int) < (a.kids.length : Int)) := by omega
          obtain ⟨⟨q0, q1, q2, q3, q4, q5⟩, _⟩ := SX
          rw [List.take_length] at hkr q5
          have hle : w.heap.size ≤ w.heap.size + 1 + 1 := by omega
          have hob2 : w.heap.size + 1 + 1 < w4.heap.size := HS2.out
          have HK : Hid (∀ w' : World, w'.heap.size = wr.heap.size → (∀ g, g ≠ w.heap.size + 1 + 1 → w'.heap[g]? = wr.heap[g]?) → KidsIn (D + 1) w' (fun g => (S g ∨ w.heap.size ≤ g) ∧ g < w'.heap.size) (.slice ar (joinL D a.kids b.kids).length cr) (joinL D a.kids b.kids)) := fun w' hs' hblk => by
            refine hkr.kept (fun g hg => hblk g ?_) (fun g hg => ?_)
            · rcases hg with hg | hg
              · have := HS.out g hg; omega
              · omega
            · rcases hg with hg | hg
              · exact ⟨.inl hg, by have := HS.out g hg; omega⟩
              · exact ⟨.inr (by omega), by omega⟩
          clear hkr hinv HROW HKB IH hbw
          go_wp2
          (try simp only [Exit.inBlock, Exit.then])
          have hBs := (((((hBw.setCell (p := ⟨w.heap.size + 1 + 1, 0, none⟩) hle (.int .i64 a.kind)).setCell (p := ⟨w.heap.size + 1 + 1, 1, none⟩) hle (.string a.name)).setCell (p := ⟨w.heap.size + 1 + 1, 2, none⟩) hle (.int .i64 a.no)).setCell (p := ⟨w.heap.size + 1 + 1, 3, none⟩) hle (.bool false)).setCell (p := ⟨w.heap.size + 1 + 1, 4, none⟩) hle (.int .i64 b.most)).setCell (p := ⟨w.heap.size + 1 + 1, 5, none⟩) hle (.slice ar (joinL D a.kids b.kids).length cr)
          refine bodyPost_ret (v := .tuple #[.agg #[.int .i64 a.kind, .string a.name, .int .i64 a.no, .bool false, .int .i64 b.most, .slice ar (joinL D a.kids b.kids).length cr], .bool true]) ?_ rfl ⟨ar, (joinL D a.kids b.kids).length, cr, ?_, ?_, ?_⟩
          · rw [results_cell_tmp rfl]
            go_simp
          · rw [HJ.out]; rfl
          · refine HK.out _ (by simp) (fun g hg => ?_)
            repeat rw [Below.heap_setCell _ _ _ _ (by show g ≠ w.heap.size + 1 + 1; omega)]
          · exact hBs
    · have hl' : decide (a.most < b.most) = false := by simpa using hl
      obtain ⟨W5, hW5⟩ : ∃ W, W = w4.alloc (.cells #[.int .i64 a.kind, .string a.name, .int .i64 a.no, .bool false, .int .i64 a.most, .slice none 0 0] 75) := ⟨_, rfl⟩
      have hb45 : Below w4.heap.size w4 W5 := by rw [hW5]; exact (Below.refl _ w4).alloc (Nat.le_refl _) _
      have HS5 : Hid (W5.heap.size = w4.heap.size + 1) := by show _ = _; rw [hW5]; simp
      have SX5 : Hid (Six W5 w4.heap.size (.int .i64 a.kind) (.string a.name) (.int .i64 a.no) (.bool false) (.int .i64 a.most) (.slice none 0 0)) := by
        show Six _ _ _ _ _ _ _ _
        rw [hW5]
        exact ⟨⟨by go_simp, by go_simp, by go_simp, by go_simp, by go_simp, by go_simp⟩, by go_simp, by go_simp, by go_simp, by go_simp, by go_simp, by go_simp⟩
      have HJ : Hid (∀ ks, jn a b ks = .mk a.kind a.name a.no false a.most ks) := fun ks => by rw [HJN.out]; congr 1 <;> first | rfl | (rw [hm]; rfl) | (rw [if_pos hl]) | (rw [if_neg hl])
      clear hl
      go_upto_region 7 with fail
      rw [← hW5]
      clear hW5
      have HW4 : Hid (∀ W : World, Below w4.heap.size w4 W → Below (w.heap.size + 3) W3 W) := fun W hW => hb34.trans (hW.mono (by have h := hb34.size; have h2 := HS3.out; omega))
      have hb35 := HW4.out _ hb45
      clear a0 a1 a2 a3 a4 a5 b0 b1 b2 b3 b4 b5 hBw hsw hb34
      obtain ⟨⟨⟨⟨a0, a1, a2, a3, a4, a5⟩, _⟩, _, _⟩, _, _⟩ := HC3.out _ hb35
      have HINI : Hid (JInv D a b false a.most S w4 w4.heap.size 0 W5) := by
        refine ⟨none, 0, ?_, ?_, hb45, by rw [HS5.out]; omega⟩
        · simp only [List.take_zero, joinL, List.filterMap_nil, List.length_nil]
          exact SX5.out
        · simp only [List.take_zero, joinL, List.filterMap_nil, List.length_nil]
          exact nil_kids
      clear SX5 hb45 hb35
      go_wp2_with fail
      clear a0 a1 a2 a3 a4 a5
      go_loopw [61] (fun vi wr => ∃ i : Nat, i ≤ a.kids.length ∧ vi = .int .i64 (i : Int) ∧ Hid (JInv D a b false a.most S w4 w4.heap.size i wr))
        (fun vi _ => a.kids.length - (intOf vi).toNat)
      case atStart => exact ⟨0, by omega, rfl, HINI.out⟩
      case round =>
        clear HINI
        obtain ⟨i, hil, rfl, hinv⟩ := hrel
        obtain ⟨ar, cr, SX, hkr, hbw, hob⟩ := hinv.out
        have hbwr := HW4.out _ hbw
        obtain ⟨⟨⟨⟨a0, a1, a2, a3, a4, a5⟩, _⟩, ⟨⟨b0, b1, b2, b3, b4, b5⟩, _⟩, ⟨⟨y0, y1, y2, y3, y4, y5⟩, ⟨z0, z1, z2, z3, z4, z5⟩⟩⟩, hBw, hsw⟩ := HC3.out _ hbwr
        have hsr0 : w.heap.size < wr.heap.size := by omega
        have hsr1 : w.heap.size + 1 < wr.heap.size := by omega
        by_cases hlt : i < a.kids.length
        · have hlt' : (i : Int) < (a.kids.length : Int) := by omega
          obtain ⟨x, hx⟩ : ∃ x, a.kids[i]? = some x := ⟨_, List.getElem?_eq_getElem hlt⟩
          obtain ⟨g, o, c', hao, hSg, hnd, hkx⟩ := HROW.out i x hx
          subst hao
          have hg := HS.out g hSg
          have hgr : g < wr.heap.size := by omega
          obtain ⟨c0, c1, c2, c3, c4, c5⟩ := hnd.kept (hBw.block g hg)
          obtain ⟨ac, cc, rfl, _⟩ := hkx.form
          have hxm : x ∈ a.kids := List.mem_of_getElem? hx
          have HSN : Hid (joinL D (a.kids.take (i + 1)) b.kids = joinL D (a.kids.take i) b.kids ++ ((byNo b.kids x.no).bind (joinT D x)).toList) := joinL_snoc D a.kids b.kids i x hx
          have HLE : Hid (∀ y ∈ joinL D (a.kids.take i) b.kids, y.no < x.no) := joinL_less D a.kids b.kids HRI.out i x hx
          have HLN : Hid ((joinL D (a.kids.take i) b.kids).length ≤ 1000) := Nat.le_trans (joinL_le D a.kids b.kids i) (by omega)
          obtain ⟨WX, hWX⟩ : ∃ W, W = wr.alloc (.cells #[.int .i64 x.kind, .string x.name, .int .i64 x.no, .bool x.must, .int .i64 x.most, .slice ac x.kids.length cc] 75) := ⟨_, rfl⟩
          have hBX : Below wr.heap.size wr WX := by rw [hWX]; exact (Below.refl _ wr).alloc (Nat.le_refl _) _
          have HSX : Hid (WX.heap.size = wr.heap.size + 1) := by show _ = _; rw [hWX]; simp
          have SXX : Hid (Six WX wr.heap.size (.int .i64 x.kind) (.string x.name) (.int .i64 x.no) (.bool x.must) (.int .i64 x.most) (.slice ac x.kids.length cc)) := by
            show Six _ _ _ _ _ _ _ _
            rw [hWX]
            exact ⟨⟨by go_simp, by go_simp, by go_simp, by go_simp, by go_simp, by go_simp⟩, by go_simp, by go_simp, by go_simp, by go_simp, by go_simp, by go_simp⟩
          have hBwX : Below w.heap.size w WX := hBw.trans (hBX.mono (by omega))
          have HBY := l2By_any D b.kind b.name b.no b.must b.most b.kids ab cb x.no S WX (HKB.out.kept (fun g hg => hBwX.block g (HS.out g hg)) (fun _ h => h)) (fun g hg => by have h1 := HS.out g hg; have h2 := hBwX.size; omega)
          have HBY' : Hid (Calls Try.prog 64 #[.agg #[.int .i64 b.kind, .string b.name, .int .i64 b.no, .bool b.must, .int .i64 b.most, .slice ab b.kids.length cb], .int .i64 x.no] WX fun e w' => ByR D w' S b.kids x.no e ∧ Below WX.heap.size WX w') := HBY
          clear HBY hnd
          go_wp2_with fail
          rw [← hWX]
          clear hWX
          refine HBY'.out.mono ?_
          rintro e w5 ⟨hby, hb5⟩
          have hBX5 : Below wr.heap.size wr w5 := hBX.trans (hb5.mono hBX.size)
          have hs5 : wr.heap.size < w5.heap.size := by have h1 := hb5.size; have h2 := HSX.out; omega
          have SXX5 : Six w5 wr.heap.size (.int .i64 x.kind) (.string x.name) (.int .i64 x.no) (.bool x.must) (.int .i64 x.most) (.slice ac x.kids.length cc) := SXX.out.kept (hb5.block _ (by have h2 := HSX.out; omega))
          have SO5 := SX.kept (hBX5.block _ hob)
          have hbw5 : Below w4.heap.size w4 w5 := hbw.trans (hBX5.mono hbw.size)
          have hBw5 : Below w.heap.size w w5 := hBw.trans (hBX5.mono hBw.size)
          clear HBY' hb5 hBX HSX SXX hBwX a0 a1 a2 a3 a4 a5 b0 b1 b2 b3 b4 b5 y0 y1 y2 y3 y4 y5 z0 z1 z2 z3 z4 z5 c0 c1 c2 c3 c4 c5 hbwr
          have HKR : Hid (∀ W : World, Below wr.heap.size wr W → (joinL D (a.kids.take (i + 1)) b.kids = joinL D (a.kids.take i) b.kids) → JInv D a b false a.most S w4 w4.heap.size (i + 1) W) := fun W hW he => by
            refine ⟨ar, cr, ?_, ?_, hbw.trans (hW.mono hbw.size), by have := hW.size; omega⟩
            · rw [he]; exact SX.kept (hW.block _ hob)
            · rw [he]
              refine hkr.kept (fun g hg => hW.block g ?_) (fun g hg => ?_)
              · rcases hg with hg | hg
                · have := HS.out g hg; omega
                · exact hg.2
              · rcases hg with hg | hg
                · exact .inl hg
                · exact .inr ⟨hg.1, by have := hW.size; omega⟩
          obtain ⟨⟨k0, k1, k2, k3, k4, k5⟩, _⟩ := SXX5
          rcases hby with ⟨y, ay, ly, cy, hfy, rfl, hky⟩ | ⟨hfy, rfl⟩
          · have hym := byNo_mem b.kids x.no y hfy
            obtain ⟨WY, hWY⟩ : ∃ W, W = w5.alloc (.cells #[.int .i64 y.kind, .string y.name, .int .i64 y.no, .bool y.must, .int .i64 y.most, .slice ay ly cy] 75) := ⟨_, rfl⟩
            have hBY : Below w5.heap.size w5 WY := by rw [hWY]; exact (Below.refl _ w5).alloc (Nat.le_refl _) _
            have hBwY : Below w.heap.size w WY := hBw5.trans (hBY.mono hBw5.size)
            have HIC : Hid (Calls Try.prog 50 #[.agg #[.int .i64 x.kind, .string x.name, .int .i64 x.no, .bool x.must, .int .i64 x.most, .slice ac x.kids.length cc], .agg #[.int .i64 y.kind, .string y.name, .int .i64 y.no, .bool y.must, .int .i64 y.most, .slice ay ly cy]] WY fun e w' => JoR D x y S WY w' e ∧ Below WY.heap.size WY w') := IH.out x y ac ay x.kids.length cc ly cy S WY hxm hym (hkx.kept (fun g hg => hBwY.block g (HS.out g hg)) (fun _ h => h)) (hky.kept (fun g hg => hBY.block g (by have h1 := HS.out g hg; have h2 := hBw5.size; omega)) (fun _ h => h)) (fun g hg => by have h1 := HS.out g hg; have h2 := hBwY.size; omega)
            have hBXY : Below wr.heap.size wr WY := hBX5.trans (hBY.mono hBX5.size)
            clear hky
            go_wp2_with fail
            rw [← hWY]
            clear hWY
            refine HIC.out.mono ?_
            rintro e w6 ⟨hjo, hb6⟩
            have hBX6 : Below wr.heap.size wr w6 := hBXY.trans (hb6.mono hBXY.size)
            have hs6 : wr.heap.size < w6.heap.size := by have h1 := hb6.size; have h2 := hBY.size; omega
            have hob6 : w4.heap.size < w6.heap.size := by omega
            have SO6 := SX.kept (hBX6.block _ hob)
            have hY6 : wr.heap.size ≤ WY.heap.size := hBXY.size
            clear HIC hBY hBwY SO5 hBXY hbw5 hBw5 k0 k1 k2 k3 k4 k5
            rcases hjo with ⟨z, az, lz, cz, hjz, rfl, hkz⟩ | ⟨hjz, z, az, lz, cz, rfl⟩
            · have hzn : Hid (z.no = x.no) := joinT_no hjz
              have HSN2 : Hid (joinL D (a.kids.take (i + 1)) b.kids = putL (joinL D (a.kids.take i) b.kids) z) := by
                show _ = _
                rw [HSN.out, hfy, putL_last _ _ (fun y hy => by rw [hzn.out]; exact HLE.out y hy)]
                show _ ++ (joinT D x y).toList = _
                rw [hjz]
                rfl
              obtain ⟨WZ, hWZ⟩ : ∃ W, W = w6.alloc (.cells #[.int .i64 z.kind, .string z.name, .int .i64 z.no, .bool z.must, .int .i64 z.most, .slice az lz cz] 75) := ⟨_, rfl⟩
              have hBZ : Below w6.heap.size w6 WZ := by rw [hWZ]; exact (Below.refl _ w6).alloc (Nat.le_refl _) _
              have hBXZ : Below wr.heap.size wr WZ := hBX6.trans (hBZ.mono hBX6.size)
              have hPUT := l2PutKid_any D (.mk a.kind a.name a.no false a.most (joinL D (a.kids.take i) b.kids)) z ar az cr lz cz (fun g => S g ∨ (w4.heap.size < g ∧ g < w6.heap.size)) WZ (hkr.kept (fun g hg => hBXZ.block g (by rcases hg with hg | hg; (have := HS.out g hg; omega); exact hg.2)) (fun g hg => by rcases hg with hg | hg; exact .inl hg; exact .inr ⟨hg.1, by omega⟩)) (hkz.kept (fun g hg => hBZ.block g hg.2) (fun g hg => by rcases hg.1 with h | h; exact .inl h; exact .inr ⟨by omega, hg.2⟩)) (fun g hg => by have h2 := hBZ.size; rcases hg with hg | hg; (have := HS.out g hg; omega); omega) HLN.out
              unfold tv at hPUT
              have HPUT : Hid (Calls Try.prog 93 #[.agg #[.int .i64 a.kind, .string a.name, .int .i64 a.no, .bool false, .int .i64 a.most, .slice ar (joinL D (a.kids.take i) b.kids).length cr], .agg #[.int .i64 z.kind, .string z.name, .int .i64 z.no, .bool z.must, .int .i64 z.most, .slice az lz cz]] WZ fun e w' => ∃ ar' cr', e = .returned (.agg #[.int .i64 a.kind, .string a.name, .int .i64 a.no, .bool false, .int .i64 a.most, .slice ar' ((joinL D (a.kids.take i) b.kids).length + 1) cr']) ∧ KidsIn (D + 1) w' (fun g => ((S g ∨ (w4.heap.size < g ∧ g < w6.heap.size)) ∨ WZ.heap.size ≤ g) ∧ g < w'.heap.size) (.slice ar' ((joinL D (a.kids.take i) b.kids).length + 1) cr') (putL (joinL D (a.kids.take i) b.kids) z) ∧ Below WZ.heap.size WZ w') := hPUT
              clear hPUT hkz hkr
              obtain ⟨⟨q0, q1, q2, q3, q4, q5⟩, _⟩ := SO6
              go_wp2_with fail
              rw [← hWZ]
              clear hWZ
              refine HPUT.out.mono ?_
              rintro e w7 ⟨ar', cr', rfl, hk7, hb7⟩
              have hBX7 : Below wr.heap.size wr w7 := hBXZ.trans (hb7.mono hBXZ.size)
              have hob7 : w4.heap.size < w7.heap.size := by have := hBX7.size; omega
              have hWZs := hBZ.size
              have SO7 := SX.kept (hBX7.block _ hob)
              have HNEW : Hid (JInv D a b false a.most S w4 w4.heap.size (i + 1) (six6 w7 w4.heap.size (.int .i64 a.kind) (.string a.name) (.int .i64 a.no) (.bool false) (.int .i64 a.most) (.slice ar' ((joinL D (a.kids.take i) b.kids).length + 1) cr'))) := by
                have hl9 : (joinL D (a.kids.take (i + 1)) b.kids).length = (joinL D (a.kids.take i) b.kids).length + 1 := by rw [HSN2.out, putL_len]
                refine ⟨ar', cr', ?_, ?_, ?_, by rw [six6_size]; exact hob7⟩
                · rw [hl9]
                  exact six6_six SO7 _ _ _ _ _ _
                · rw [hl9, HSN2.out]
                  refine hk7.kept (fun g hg => six6_block _ _ _ _ _ _ _ _ g ?_) (fun g hg => ?_)
                  · rcases hg.1 with (h | h) | h
                    · have := HS.out g h; omega
                    · omega
                    · omega
                  · rw [six6_size]
                    rcases hg.1 with (h | h) | h
                    · exact .inl h
                    · exact .inr ⟨h.1, hg.2⟩
                    · exact .inr ⟨by omega, hg.2⟩
                · unfold six6
                  have h0 := hbw.trans (hBX7.mono hbw.size)
                  exact (((((h0.setCell (p := ⟨w4.heap.size, 0, none⟩) (Nat.le_refl _) _).setCell (p := ⟨w4.heap.size, 1, none⟩) (Nat.le_refl _) _).setCell (p := ⟨w4.heap.size, 2, none⟩) (Nat.le_refl _) _).setCell (p := ⟨w4.heap.size, 3, none⟩) (Nat.le_refl _) _).setCell (p := ⟨w4.heap.size, 4, none⟩) (Nat.le_refl _) _).setCell (p := ⟨w4.heap.size, 5, none⟩) (Nat.le_refl _) _
              clear hk7 hb7 HPUT q0 q1 q2 q3 q4 q5
              unfold six6 at HNEW
              obtain ⟨⟨q0, q1, q2, q3, q4, q5⟩, ⟨p0, p1, p2, p3, p4, p5⟩⟩ := SO7
              go_wp2
              go_roundw
              case rel => exact ⟨i + 1, by omega, by go_num, HNEW⟩
              case measure => simp [intOf]; omega
            · have HSAME : Hid (joinL D (a.kids.take (i + 1)) b.kids = joinL D (a.kids.take i) b.kids) := by
                show _ = _
                rw [HSN.out, hfy]
                show _ ++ (joinT D x y).toList = _
                rw [hjz]
                exact List.append_nil _
              have HNEW : Hid (JInv D a b false a.most S w4 w4.heap.size (i + 1) (w6.alloc (.cells #[.int .i64 z.kind, .string z.name, .int .i64 z.no, .bool z.must, .int .i64 z.most, .slice az lz cz] 75))) := HKR.out _ (hBX6.alloc hBX6.size _) HSAME.out
              go_wp2
              go_roundw
              case rel => exact ⟨i + 1, by omega, by go_num, HNEW⟩
              case measure => simp [intOf]; omega
          · have HSAME : Hid (joinL D (a.kids.take (i + 1)) b.kids = joinL D (a.kids.take i) b.kids) := by
              show _ = _
              rw [HSN.out, hfy]
              exact List.append_nil _
            have HNEW : Hid (JInv D a b false a.most S w4 w4.heap.size (i + 1) (w5.alloc (.cells #[.int .i64 0, .string ⟨#[]⟩, .int .i64 0, .bool false, .int .i64 0, .slice none 0 0] 75))) := HKR.out _ (hBX5.alloc hBX5.size _) HSAME.out
            go_wp2
            go_roundw
            case rel => exact ⟨i + 1, by omega, by go_num, HNEW⟩
            case measure => simp [intOf]; omega
        · have hke : i = a.kids.length := by omega
          subst hke
          have hge : ¬ ((a.kids.length : Int) < (a.kids.length : Int)) := by omega
          obtain ⟨⟨q0, q1, q2, q3, q4, q5⟩, _⟩ := SX
          rw [List.take_length] at hkr q5
          have hle : w.heap.size ≤ w.heap.size + 1 + 1 := by omega
          have hob2 : w.heap.size + 1 + 1 < w4.heap.size := HS2.out
          have HK : Hid (∀ w' : World, w'.heap.size = wr.heap.size → (∀ g, g ≠ w.heap.size + 1 + 1 → w'.heap[g]? = wr.heap[g]?) → KidsIn (D + 1) w' (fun g => (S g ∨ w.heap.size ≤ g) ∧ g < w'.heap.size) (.slice ar (joinL D a.kids b.kids).length cr) (joinL D a.kids b.kids)) := fun w' hs' hblk => by
            refine hkr.kept (fun g hg => hblk g ?_) (fun g hg => ?_)
            · rcases hg with hg | hg
              · have := HS.out g hg; omega
              · omega
            · rcases hg with hg | hg
              · exact ⟨.inl hg, by have := HS.out g hg; omega⟩
              · exact ⟨.inr (by omega), by omega⟩
          clear hkr hinv HROW HKB IH hbw
          go_wp2
          (try simp only [Exit.inBlock, Exit.then])
          have hBs := (((((hBw.setCell (p := ⟨w.heap.size + 1 + 1, 0, none⟩) hle (.int .i64 a.kind)).setCell (p := ⟨w.heap.size + 1 + 1, 1, none⟩) hle (.string a.name)).setCell (p := ⟨w.heap.size + 1 + 1, 2, none⟩) hle (.int .i64 a.no)).setCell (p := ⟨w.heap.size + 1 + 1, 3, none⟩) hle (.bool false)).setCell (p := ⟨w.heap.size + 1 + 1, 4, none⟩) hle (.int .i64 a.most)).setCell (p := ⟨w.heap.size + 1 + 1, 5, none⟩) hle (.slice ar (joinL D a.kids b.kids).length cr)
          refine bodyPost_ret (v := .tuple #[.agg #[.int .i64 a.kind, .string a.name, .int .i64 a.no, .bool false, .int .i64 a.most, .slice ar (joinL D a.kids b.kids).length cr], .bool true]) ?_ rfl ⟨ar, (joinL D a.kids b.kids).length, cr, ?_, ?_, ?_⟩
          · rw [results_cell_tmp rfl]
            go_simp
          · rw [HJ.out]; rfl
          · refine HK.out _ (by simp) (fun g hg => ?_)
            repeat rw [Below.heap_setCell _ _ _ _ (by show g ≠ w.heap.size + 1 + 1; omega)]
          · exact hBs

end Go.Proofs.Ytbkdpcfghaiimaa
