/- DefaultOf: the model's and the program's. -/
import Derived.Test.YtpajdmhakdbkjaaDfB
import Derived.Test.YtpajdmhakdbkjaaDfD
import Derived.Test.YtpajdmhakdbkjaaNdF
import Derived.Test.YtpajdmhakdbkjaaGl
import Derived.Test.YtpajdmhakdbkjaaGj
import Derived.Test.YtpajdmhakdbkjaaSchL
import Derived.Test.YtpajdmhakdbkjaaGe
import Derived.Test.YtpajdmhakdbkjaaGi
namespace Go.Proofs.Ytpajdmhakdbkjaa
open Go.RowKit Plain Sch

def dfo (T : List Ty) : List Ty × Bool := if gs T = true then (flat (dflt (tree T 41 0)) (-1) 0, true) else ([], false)

def OValue (w w' : World) (e : Ending) (R : List Ty × Bool) : Prop := ∃ rv, e = .returned (.tuple #[.agg #[rv], .bool R.2]) ∧ NdRow w' w.heap.size rv R.1 ∧ Below w.heap.size w w'

theorem NdRow.lower {w : World} {B B' : Nat} {v : Value} {L : List Ty} (h : NdRow w B v L) (hB : B' ≤ B) : NdRow w B' v L := by
  refine ⟨h.1, ?_⟩
  rcases h.2 with hn | ⟨g, cap, cur, hv, hg, rest⟩
  · exact .inl hn
  · exact .inr ⟨g, cap, cur, hv, by omega, rest⟩

theorem NdRow.setCell {w : World} {B : Nat} {v : Value} {L : List Ty} (h : NdRow w B v L) {a : Addr} (ha : a.block < B) (u : Value) : NdRow (w.setCell a u) B v L := ownsRow_setCell_below h ha u

set_option maxRecDepth 100000 in
set_option maxHeartbeats 4000000 in
theorem l4Of_any (d : Nat) (t : Tr) (ac : Option Addr) (lc cc : Nat) (S : Nat → Prop) (w : World) (hk : VKids d w S (.slice ac lc cc) t.kids) (hS : ∀ g, S g → g < w.heap.size) (hz : t.size ≤ 1000000) :
    Calls Try.prog 43 #[vv t ac lc cc] w fun e w' => ∃ rv, e = .returned (.agg #[rv]) ∧ NdRow w' w.heap.size rv (flat t (-1) 0) ∧ Below w.heap.size w w' := by
  obtain ⟨W2, hW2⟩ : ∃ W, W = (w.alloc (.cells #[.int .i64 t.most, .string t.name, .int .i64 t.no, .bool t.must, .slice ac lc cc] 78)).alloc (.cells #[.slice none 0 0] 29) := ⟨_, rfl⟩
  have hB2 : Below w.heap.size w W2 := by rw [hW2]; exact ((Below.refl _ w).alloc (Nat.le_refl _) _).alloc (by simp) _
  have hs2 : W2.heap.size = w.heap.size + 2 := by rw [hW2]; simp
  have r2 : W2.cell? ⟨w.heap.size + 1, 0, none⟩ = some (.slice none 0 0) := by rw [hW2]; go_simp
  have z2 : W2.frozen? ⟨w.heap.size + 1, 0, none⟩ = false := by rw [hW2]; go_simp
  have FC := l4Flat_any d t ac lc cc (-1) (.slice none 0 0) [] S W2.heap.size W2 (hk.kept (fun g hg => hB2.block g (hS g hg)) (fun _ h => h)) (fun g hg => by have := hS g hg; omega) (fun g hg => by simp [Value.ownBlock] at hg) (World.ownsRow_nil _ _ _ _) (Nat.le_refl _) (by simpa using hz)
  unfold vv at FC ⊢
  have FC' : Hid (Calls Try.prog 82 #[.agg #[.int .i64 t.most, .string t.name, .int .i64 t.no, .bool t.must, .slice ac lc cc], .int .i64 (-1), .slice none 0 0] W2 fun e w' => ∃ rv', e = .returned rv' ∧ NdRow w' W2.heap.size rv' (flat t (-1) 0) ∧ Grow W2 w' (.slice none 0 0) rv') := by unfold Hid; simpa using FC
  clear FC hk hS
  generalize flat t (-1) 0 = F at *
  go_enter Try.func43, Try.ntmps43
  go_wp2_with fail
  rw [← hW2]
  clear hW2
  refine FC'.out.mono ?_
  rintro e w3 ⟨rv, rfl, hrow, hg⟩
  have hb3 := hg.toBelow
  have r3 := (hb3.cell (p := ⟨w.heap.size + 1, 0, none⟩) (by show w.heap.size + 1 < _; omega)).trans r2
  have z3 := (hb3.frozen (p := ⟨w.heap.size + 1, 0, none⟩) (by show w.heap.size + 1 < _; omega)).trans z2
  have hs3 : w.heap.size + 1 < w3.heap.size := by have := hb3.size; omega
  obtain ⟨ar, capr, rfl, _⟩ := ownSlice hrow
  have HROW : Hid (NdRow (w3.setCell ⟨w.heap.size + 1, 0, none⟩ (.slice ar F.length capr)) w.heap.size (.slice ar F.length capr) F) := (NdRow.setCell hrow (a := ⟨w.heap.size + 1, 0, none⟩) (by show w.heap.size + 1 < _; omega) _).lower (by omega)
  have hB3 : Below w.heap.size w w3 := hB2.trans (hb3.mono (by omega))
  have hle : w.heap.size ≤ w.heap.size + 1 := by omega
  clear hrow hg hb3 FC' hs2
  go_wp2
  (try simp only [Exit.inBlock, Exit.then])
  refine bodyPost_ret (v := .agg #[.slice ar F.length capr]) ?_ rfl ⟨.slice ar F.length capr, rfl, HROW.out, ?_⟩
  · rw [results_cell1 rfl]
    go_simp
  · exact hB3.setCell (p := ⟨w.heap.size + 1, 0, none⟩) hle _

set_option maxRecDepth 100000 in
set_option maxHeartbeats 4000000 in
theorem wholePart_any (T : List Ty) (v : Value) (w : World) (hT : TysAt w w.heap.size v T) (hG : gs T = true) :
    Calls Try.prog 41 #[.agg #[v]] w fun e w' => ∃ u : TypeId × Value, e = .returned (.agg #[.string ⟨#[]⟩, .int .i64 0, .bool false, .iface u.1 u.2]) ∧ ShIn 41 w' (fun g => w.heap.size ≤ g ∧ g < w'.heap.size) (.iface u.1 u.2) (tree T 41 0) ∧ Below w.heap.size w w' := by
  obtain ⟨W2, hW2⟩ : ∃ W, W = (w.alloc (.cells #[v] 25)).alloc (.cells #[.string ⟨#[]⟩, .int .i64 0, .bool false, .nilIface] 73) := ⟨_, rfl⟩
  have hB2 : Below w.heap.size w W2 := by rw [hW2]; exact ((Below.refl _ w).alloc (Nat.le_refl _) _).alloc (by simp) _
  have hs2 : W2.heap.size = w.heap.size + 2 := by rw [hW2]; simp
  have h1 := gs_types T hG
  have SC : Hid (Calls Try.prog 77 #[v, .int .i64 0] W2 (ShapeAtR T 41 0 W2)) := shapeAt_any T v hG 41 0 W2 (hT.below hB2) (by omega) (by omega)
  unfold ShapeAtR at SC
  obtain ⟨av, capv, rfl, _⟩ := hT
  have r0 : W2.cell? ⟨w.heap.size + 1, 0, none⟩ = some (.string ⟨#[]⟩) := by rw [hW2]; go_simp
  have r1 : W2.cell? ⟨w.heap.size + 1, 1, none⟩ = some (.int .i64 0) := by rw [hW2]; go_simp
  have r2 : W2.cell? ⟨w.heap.size + 1, 2, none⟩ = some (.bool false) := by rw [hW2]; go_simp
  have r3 : W2.cell? ⟨w.heap.size + 1, 3, none⟩ = some .nilIface := by rw [hW2]; go_simp
  have zz : ∀ j, W2.frozen? ⟨w.heap.size + 1, j, none⟩ = false := by intro j; rw [hW2]; go_simp
  go_enter Try.func41, Try.ntmps41
  go_wp2_with fail
  rw [← hW2]
  clear hW2
  refine SC.out.mono ?_
  rintro e w3 ⟨⟨ua, uv⟩, rfl, hsh, hb3⟩
  have c0 := (hb3.cell (p := ⟨w.heap.size + 1, 0, none⟩) (by show w.heap.size + 1 < _; omega)).trans r0
  have c1 := (hb3.cell (p := ⟨w.heap.size + 1, 1, none⟩) (by show w.heap.size + 1 < _; omega)).trans r1
  have c2 := (hb3.cell (p := ⟨w.heap.size + 1, 2, none⟩) (by show w.heap.size + 1 < _; omega)).trans r2
  have c3 := (hb3.cell (p := ⟨w.heap.size + 1, 3, none⟩) (by show w.heap.size + 1 < _; omega)).trans r3
  have z0 := (hb3.frozen (p := ⟨w.heap.size + 1, 0, none⟩) (by show w.heap.size + 1 < _; omega)).trans (zz 0)
  have z1 := (hb3.frozen (p := ⟨w.heap.size + 1, 1, none⟩) (by show w.heap.size + 1 < _; omega)).trans (zz 1)
  have z2 := (hb3.frozen (p := ⟨w.heap.size + 1, 2, none⟩) (by show w.heap.size + 1 < _; omega)).trans (zz 2)
  have z3 := (hb3.frozen (p := ⟨w.heap.size + 1, 3, none⟩) (by show w.heap.size + 1 < _; omega)).trans (zz 3)
  have hs3 : w.heap.size + 1 < w3.heap.size := by have := hb3.size; omega
  have hB3 : Below w.heap.size w w3 := hB2.trans (hb3.mono (by omega))
  have hle : w.heap.size ≤ w.heap.size + 1 := by omega
  have HSH : Hid (ShIn 41 w3 (fun g => W2.heap.size ≤ g ∧ g < w3.heap.size) (.iface ua uv) (tree T 41 0)) := hsh
  clear hsh hb3 r0 r1 r2 r3 zz SC
  go_wp2
  (try simp only [Exit.inBlock, Exit.then])
  refine bodyPost_ret (v := .agg #[.string ⟨#[]⟩, .int .i64 0, .bool false, .iface ua uv]) ?_ rfl ⟨(ua, uv), rfl, ?_, ?_⟩
  · rw [results_cell1 rfl]
    go_simp
    try exact ⟨rfl, rfl, rfl, rfl⟩
  · refine HSH.out.kept (fun g hg => ?_) (fun g hg => ⟨by omega, by simp; omega⟩)
    repeat (rw [Below.heap_setCell _ _ _ _ (by show g ≠ w.heap.size + 1; omega)])
  · repeat' (first | with_reducible exact hB3 | refine Below.setCell ?_ hle _)

theorem ld_root (t : Tr) (k1 : t.kind = 5) (hz : t.size ≤ 1000) (ac : Option Addr) (lc cc : Nat) (S : Nat → Prop) (W : World) (h2 : KidsIn 41 W S (.slice ac lc cc) t.kids) (h3 : ∀ g, S g → g < W.heap.size) :
    Calls Try.prog 44 #[.agg #[.int .i64 t.kind, .string t.name, .int .i64 t.no, .bool t.must, .int .i64 t.most, .slice ac lc cc]] W fun e w' => ∃ ar lr cr, e = .returned (.agg #[.int .i64 0, .string ⟨#[]⟩, .int .i64 0, .bool true, .slice ar lr cr]) ∧ VKids 41 w' (fun g => W.heap.size ≤ g ∧ g < w'.heap.size) (.slice ar lr cr) (dflt t).kids ∧ Below W.heap.size W w' := by
  have h := l4Default_any 41 t hz ac lc cc S W h2 h3 (by have h4 := len_sizeL t.kids; have h5 := t.size_eq; omega)
  have hh : holds t.kind = true := by rw [k1]; rfl
  rw [hh] at h
  exact h

theorem lo_root (t : Tr) (k1 : t.kind = 5) (o1 : t.no = 0) (hz : (dflt t).size ≤ 1000000) (ac : Option Addr) (lc cc : Nat) (S : Nat → Prop) (W : World) (h2 : VKids 41 W S (.slice ac lc cc) (dflt t).kids) (h3 : ∀ g, S g → g < W.heap.size) :
    Calls Try.prog 43 #[.agg #[.int .i64 0, .string ⟨#[]⟩, .int .i64 0, .bool true, .slice ac lc cc]] W fun e w' => ∃ rv, e = .returned (.agg #[rv]) ∧ NdRow w' W.heap.size rv (flat (dflt t) (-1) 0) ∧ Below W.heap.size W w' := by
  have h := l4Of_any 41 (dflt t) ac lc cc S W h2 h3 hz
  unfold vv at h
  obtain ⟨f1, f2, f3⟩ := dflt_flds t
  have hh : holds t.kind = true := by rw [k1]; rfl
  rw [f1, f2, f3, dflt_holds, o1, hh] at h
  exact h

theorem lt_root (T : List Ty) (v : Value) (W : World) (hT : TysAt W W.heap.size v T) (h1 : 1 ≤ T.length) (h30 : T.length ≤ 30) (t : Tr) (ht : t = tree T 41 0) :
    Calls Try.prog 45 #[.agg #[v], .int .i64 0] W fun e w' => ∃ ac lc cc, e = .returned (.agg #[.int .i64 t.kind, .string t.name, .int .i64 t.no, .bool t.must, .int .i64 t.most, .slice ac lc cc]) ∧ KidsIn 41 w' (fun g => W.heap.size ≤ g ∧ g < w'.heap.size) (.slice ac lc cc) t.kids ∧ Below W.heap.size W w' := by
  refine (l2Tree_any T v (by omega) 41 0 W hT (by omega) (by omega)).mono ?_
  rw [← ht]
  rintro e w' ⟨c, rfl, hk, hb⟩
  obtain ⟨ac, cp, rfl, _⟩ := hk.form
  exact ⟨ac, _, cp, rfl, hk, hb⟩

set_option maxRecDepth 100000 in
set_option maxHeartbeats 4000000 in
theorem implDefault (T : List Ty) (v : Value) (w : World) (hT : TysAt w w.heap.size v T) :
    Calls Try.prog 10 #[.agg #[v]] w fun e w' => OValue w w' e (dfo T) := by
  have HT : Hid (TysAt w w.heap.size v T) := hT
  obtain ⟨R, hR⟩ : ∃ R, R = dfo T := ⟨_, rfl⟩
  rw [← hR]
  have HR : Hid (R = dfo T) := hR
  clear hR
  obtain ⟨aa, capa, rfl, _⟩ := hT
  obtain ⟨W2, hW2⟩ : ∃ W, W = (w.alloc (.cells #[.slice aa T.length capa] 25)).alloc (.cells #[.slice none 0 0] 29) := ⟨_, rfl⟩
  have hB2 : Below w.heap.size w W2 := by rw [hW2]; exact ((Below.refl _ w).alloc (Nat.le_refl _) _).alloc (by simp) _
  have HS2 : Hid (W2.heap.size = w.heap.size + 2) := by show _ = _; rw [hW2]; simp
  have HC2 : Hid (∀ W : World, Below W2.heap.size W2 W → (W.cell? ⟨w.heap.size, 0, none⟩ = some (.slice aa T.length capa) ∧ W.cell? ⟨w.heap.size + 1, 0, none⟩ = some (.slice none 0 0) ∧ W.frozen? ⟨w.heap.size + 1, 0, none⟩ = false ∧ w.heap.size + 1 < W.heap.size) ∧ Below w.heap.size w W) := fun W hW => by
    have hs := HS2.out
    have h2 := hW.size
    refine ⟨⟨(hW.cell (p := ⟨w.heap.size, 0, none⟩) (by show w.heap.size < _; omega)).trans ?_, (hW.cell (p := ⟨w.heap.size + 1, 0, none⟩) (by show w.heap.size + 1 < _; omega)).trans ?_, (hW.frozen (p := ⟨w.heap.size + 1, 0, none⟩) (by show w.heap.size + 1 < _; omega)).trans ?_, by omega⟩, hB2.trans (hW.mono hB2.size)⟩
    · rw [hW2]; go_simp
    · rw [hW2]; go_simp
    · rw [hW2]; go_simp
  have hle : w.heap.size ≤ w.heap.size + 1 := by omega
  unfold OValue
  go_enter Try.func10, Try.ntmps10
  go_wp2_with fail
  rw [← hW2]
  clear hW2
  refine (implGoodT T _ _ (HT.out.below hB2)).mono ?_
  rintro e w3 ⟨rfl, hb3⟩
  obtain ⟨⟨q3, x3, z3, hz3⟩, hB3⟩ := HC2.out _ hb3
  by_cases hg : gs T = true
  · rw [hg]
    have hn : Hid (R = (flat (dflt (tree T 41 0)) (-1) 0, true)) := HR.out.trans (by unfold dfo; rw [if_pos hg])
    have h1 := gs_types T hg
    have hts := tree_size T hg 41 0 (by omega) (by omega)
    obtain ⟨k1, n1, o1, m1⟩ := tree_top T hg 41
    have HDS : Hid ((dflt (tree T 41 0)).size ≤ 1000000) := by have := dflt_size (tree T 41 0); show _ ≤ _; omega
    have WP : Hid (Calls Try.prog 41 #[.agg #[.slice aa T.length capa]] w3 fun e w' => ∃ u : TypeId × Value, e = .returned (.agg #[.string ⟨#[]⟩, .int .i64 0, .bool false, .iface u.1 u.2]) ∧ ShIn 41 w' (fun g => w3.heap.size ≤ g ∧ g < w'.heap.size) (.iface u.1 u.2) (tree T 41 0) ∧ Below w3.heap.size w3 w') := wholePart_any T _ w3 (HT.out.below hB3) hg
    have AD : Hid (∀ (ua : TypeId) (uv : Value) (S : Nat → Prop) (W : World), ShIn 41 W S (.iface ua uv) (tree T 41 0) → (∀ g, S g → g < W.heap.size) → Calls Try.prog 40 #[.slice none 0 0, .agg #[.string ⟨#[]⟩, .int .i64 0, .bool false, .iface ua uv], .int .i64 (-1)] W fun e w' => ∃ rv', e = .returned rv' ∧ NdRow w' W.heap.size rv' (flat (dflt (tree T 41 0)) (-1) 0) ∧ Grow W w' (.slice none 0 0) rv') := fun ua uv S W h1 h2 => by
      have := appendDefault_any 41 (tree T 41 0) ua uv (-1) (.slice none 0 0) [] S W.heap.size W h1 h2 (fun g hg => by simp [Value.ownBlock] at hg) (World.ownsRow_nil _ _ _ _) (Nat.le_refl _) (by simp; omega)
      rw [n1, o1, m1] at this
      simpa using this
    clear n1 o1 m1 k1 hts h1 HDS
    generalize flat (dflt (tree T 41 0)) (-1) 0 = F at *
    generalize tree T 41 0 = TT at *
    clear hg HR
    go_wp2_with fail
    refine WP.out.mono ?_
    rintro e w4 ⟨⟨ua, uv⟩, rfl, hsh, hb4⟩
    have hb2x : Below W2.heap.size W2 w4 := hb3.trans (hb4.mono hb3.size)
    obtain ⟨⟨q4, x4, z4, hz4⟩, hB4⟩ := HC2.out _ hb2x
    have AC : Hid (Calls Try.prog 40 #[.slice none 0 0, .agg #[.string ⟨#[]⟩, .int .i64 0, .bool false, .iface ua uv], .int .i64 (-1)] w4 fun e w' => ∃ rv', e = .returned rv' ∧ NdRow w' w4.heap.size rv' F ∧ Grow w4 w' (.slice none 0 0) rv') := AD.out ua uv _ w4 hsh (fun g hg => hg.2)
    clear AD WP hsh q3 x3 z3 hz3
    go_wp2_with fail
    refine AC.out.mono ?_
    rintro e w9 ⟨rv, rfl, hrow, hgr⟩
    have hb29 : Below W2.heap.size W2 w9 := hb2x.trans (hgr.toBelow.mono hb2x.size)
    clear AC hgr q4 x4 z4 hz4
    obtain ⟨⟨q9, x9, z9, hz9⟩, hB9⟩ := HC2.out _ hb29
    obtain ⟨ar, capr, rfl, _⟩ := ownSlice hrow
    have HROW : Hid (NdRow (w9.setCell ⟨w.heap.size + 1, 0, none⟩ (.slice ar F.length capr)) w.heap.size (.slice ar F.length capr) F) := (NdRow.setCell hrow (a := ⟨w.heap.size + 1, 0, none⟩) (by have := HS2.out; have := hb2x.size; show w.heap.size + 1 < _; omega) _).lower (by have := HS2.out; have := hb2x.size; omega)
    clear hrow q9
    go_wp2
    (try simp only [Exit.inBlock, Exit.then])
    refine bodyPost_ret (v := .tuple #[.agg #[.slice ar F.length capr], .bool true]) ?_ rfl ⟨.slice ar F.length capr, by rw [hn.out], ?_, ?_⟩
    · rw [results_cell_tmp rfl]
      go_simp
    · rw [hn.out]
      exact HROW.out
    · exact hB9.setCell (p := ⟨w.heap.size + 1, 0, none⟩) hle _
  · have hg' : gs T = false := by simpa using hg
    have hn : Hid (R = ([], false)) := HR.out.trans (by unfold dfo; rw [if_neg hg])
    rw [hg']
    clear hg' hg
    go_wp2
    (try simp only [Exit.inBlock, Exit.then])
    refine bodyPost_ret (v := .tuple #[.agg #[.slice none 0 0], .bool false]) ?_ rfl ⟨.slice none 0 0, by rw [hn.out], ?_, ?_⟩
    · rw [results_cell_tmp rfl]
      go_simp
    · rw [hn.out]
      exact World.ownsRow_nil _ _ _ _
    · exact hB3.setCell (p := ⟨w.heap.size + 1, 0, none⟩) hle _

set_option maxRecDepth 100000 in
set_option maxHeartbeats 4000000 in
theorem specDefault (T : List Ty) (v : Value) (w : World) (hT : TysAt w w.heap.size v T) :
    Calls Try.prog 11 #[.agg #[v]] w fun e w' => OValue w w' e (dfo T) := by
  have HT : Hid (TysAt w w.heap.size v T) := hT
  obtain ⟨R, hR⟩ : ∃ R, R = dfo T := ⟨_, rfl⟩
  rw [← hR]
  have HR : Hid (R = dfo T) := hR
  clear hR
  obtain ⟨aa, capa, rfl, _⟩ := hT
  obtain ⟨W2, hW2⟩ : ∃ W, W = (w.alloc (.cells #[.slice aa T.length capa] 25)).alloc (.cells #[.slice none 0 0] 29) := ⟨_, rfl⟩
  have hB2 : Below w.heap.size w W2 := by rw [hW2]; exact ((Below.refl _ w).alloc (Nat.le_refl _) _).alloc (by simp) _
  have HS2 : Hid (W2.heap.size = w.heap.size + 2) := by show _ = _; rw [hW2]; simp
  have HC2 : Hid (∀ W : World, Below W2.heap.size W2 W → (W.cell? ⟨w.heap.size, 0, none⟩ = some (.slice aa T.length capa) ∧ W.cell? ⟨w.heap.size + 1, 0, none⟩ = some (.slice none 0 0) ∧ W.frozen? ⟨w.heap.size + 1, 0, none⟩ = false ∧ w.heap.size + 1 < W.heap.size) ∧ Below w.heap.size w W) := fun W hW => by
    have hs := HS2.out
    have h2 := hW.size
    refine ⟨⟨(hW.cell (p := ⟨w.heap.size, 0, none⟩) (by show w.heap.size < _; omega)).trans ?_, (hW.cell (p := ⟨w.heap.size + 1, 0, none⟩) (by show w.heap.size + 1 < _; omega)).trans ?_, (hW.frozen (p := ⟨w.heap.size + 1, 0, none⟩) (by show w.heap.size + 1 < _; omega)).trans ?_, by omega⟩, hB2.trans (hW.mono hB2.size)⟩
    · rw [hW2]; go_simp
    · rw [hW2]; go_simp
    · rw [hW2]; go_simp
  have hle : w.heap.size ≤ w.heap.size + 1 := by omega
  unfold OValue
  go_enter Try.func11, Try.ntmps11
  go_wp2_with fail
  rw [← hW2]
  clear hW2
  refine (specGood_any T _ _ (HT.out.below hB2)).mono ?_
  rintro e w3 ⟨rfl, hb3⟩
  obtain ⟨⟨q3, x3, z3, hz3⟩, hB3⟩ := HC2.out _ hb3
  by_cases hg : gs T = true
  · rw [hg]
    have hn : Hid (R = (flat (dflt (tree T 41 0)) (-1) 0, true)) := HR.out.trans (by unfold dfo; rw [if_pos hg])
    have h1 := gs_types T hg
    have hts := tree_size T hg 41 0 (by omega) (by omega)
    obtain ⟨k1, n1, o1, m1⟩ := tree_top T hg 41
    have HDS : Hid ((dflt (tree T 41 0)).size ≤ 1000000) := by have := dflt_size (tree T 41 0); show _ ≤ _; omega
    obtain ⟨TT, hTT⟩ : ∃ t, t = tree T 41 0 := ⟨_, rfl⟩
    rw [← hTT] at hn hts k1 n1 o1 m1 HDS
    have LT : Hid (Calls Try.prog 45 #[.agg #[.slice aa T.length capa], .int .i64 0] w3 fun e w' => ∃ ac lc cc, e = .returned (.agg #[.int .i64 TT.kind, .string TT.name, .int .i64 TT.no, .bool TT.must, .int .i64 TT.most, .slice ac lc cc]) ∧ KidsIn 41 w' (fun g => w3.heap.size ≤ g ∧ g < w'.heap.size) (.slice ac lc cc) TT.kids ∧ Below w3.heap.size w3 w') := lt_root T _ w3 (HT.out.below hB3) h1.1 h1.2.1 TT hTT
    have LD : Hid (∀ (ac : Option Addr) (lc cc : Nat) (S : Nat → Prop) (W : World), KidsIn 41 W S (.slice ac lc cc) TT.kids → (∀ g, S g → g < W.heap.size) → Calls Try.prog 44 #[.agg #[.int .i64 TT.kind, .string TT.name, .int .i64 TT.no, .bool TT.must, .int .i64 TT.most, .slice ac lc cc]] W fun e w' => ∃ ar lr cr, e = .returned (.agg #[.int .i64 0, .string ⟨#[]⟩, .int .i64 0, .bool true, .slice ar lr cr]) ∧ VKids 41 w' (fun g => W.heap.size ≤ g ∧ g < w'.heap.size) (.slice ar lr cr) (dflt TT).kids ∧ Below W.heap.size W w') := ld_root TT k1 (by omega)
    have LO : Hid (∀ (ac : Option Addr) (lc cc : Nat) (S : Nat → Prop) (W : World), VKids 41 W S (.slice ac lc cc) (dflt TT).kids → (∀ g, S g → g < W.heap.size) → Calls Try.prog 43 #[.agg #[.int .i64 0, .string ⟨#[]⟩, .int .i64 0, .bool true, .slice ac lc cc]] W fun e w' => ∃ rv, e = .returned (.agg #[rv]) ∧ NdRow w' W.heap.size rv (flat (dflt TT) (-1) 0) ∧ Below W.heap.size W w') := lo_root TT k1 o1 HDS.out
    clear hTT
    clear n1 o1 m1 k1 hts h1 HDS
    generalize flat (dflt TT) (-1) 0 = F at *
    generalize (dflt TT).kids = DK at *
    clear hg HR
    go_wp2_with fail
    refine LT.out.mono ?_
    rintro e w4 ⟨ac, lc, cc, rfl, hkid, hb4⟩
    have hb24 : Below W2.heap.size W2 w4 := hb3.trans (hb4.mono hb3.size)
    have LDC := LD.out ac lc cc _ w4 hkid (fun g hg => hg.2)
    have LDC' : Hid (Calls Try.prog 44 #[.agg #[.int .i64 TT.kind, .string TT.name, .int .i64 TT.no, .bool TT.must, .int .i64 TT.most, .slice ac lc cc]] w4 fun e w' => ∃ ar lr cr, e = .returned (.agg #[.int .i64 0, .string ⟨#[]⟩, .int .i64 0, .bool true, .slice ar lr cr]) ∧ VKids 41 w' (fun g => w4.heap.size ≤ g ∧ g < w'.heap.size) (.slice ar lr cr) DK ∧ Below w4.heap.size w4 w') := LDC
    clear LD LT LDC hkid q3 x3 z3 hz3
    go_wp2_with fail
    refine LDC'.out.mono ?_
    rintro e w5 ⟨a5, l5, c5, rfl, hv5, hb5⟩
    have hb2x : Below W2.heap.size W2 w5 := hb24.trans (hb5.mono hb24.size)
    have LOC : Hid (Calls Try.prog 43 #[.agg #[.int .i64 0, .string ⟨#[]⟩, .int .i64 0, .bool true, .slice a5 l5 c5]] w5 fun e w' => ∃ rv, e = .returned (.agg #[rv]) ∧ NdRow w' w5.heap.size rv F ∧ Below w5.heap.size w5 w') := LO.out a5 l5 c5 _ w5 hv5 (fun g hg => hg.2)
    clear LO LDC' hv5
    go_wp2_with fail
    refine LOC.out.mono ?_
    rintro e w9 ⟨rv, rfl, hrow, hb9⟩
    have hb29 : Below W2.heap.size W2 w9 := hb2x.trans (hb9.mono hb2x.size)
    clear LOC hb9
    obtain ⟨⟨q9, x9, z9, hz9⟩, hB9⟩ := HC2.out _ hb29
    obtain ⟨ar, capr, rfl, _⟩ := ownSlice hrow
    have HROW : Hid (NdRow (w9.setCell ⟨w.heap.size + 1, 0, none⟩ (.slice ar F.length capr)) w.heap.size (.slice ar F.length capr) F) := (NdRow.setCell hrow (a := ⟨w.heap.size + 1, 0, none⟩) (by have := HS2.out; have := hb2x.size; show w.heap.size + 1 < _; omega) _).lower (by have := HS2.out; have := hb2x.size; omega)
    clear hrow q9
    go_wp2
    (try simp only [Exit.inBlock, Exit.then])
    refine bodyPost_ret (v := .tuple #[.agg #[.slice ar F.length capr], .bool true]) ?_ rfl ⟨.slice ar F.length capr, by rw [hn.out], ?_, ?_⟩
    · rw [results_cell_tmp rfl]
      go_simp
    · rw [hn.out]
      exact HROW.out
    · exact hB9.setCell (p := ⟨w.heap.size + 1, 0, none⟩) hle _
  · have hg' : gs T = false := by simpa using hg
    have hn : Hid (R = ([], false)) := HR.out.trans (by unfold dfo; rw [if_neg hg])
    rw [hg']
    clear hg' hg
    go_wp2
    (try simp only [Exit.inBlock, Exit.then])
    refine bodyPost_ret (v := .tuple #[.agg #[.slice none 0 0], .bool false]) ?_ rfl ⟨.slice none 0 0, by rw [hn.out], ?_, ?_⟩
    · rw [results_cell_tmp rfl]
      go_simp
    · rw [hn.out]
      exact World.ownsRow_nil _ _ _ _
    · exact hB3.setCell (p := ⟨w.heap.size + 1, 0, none⟩) hle _

end Go.Proofs.Ytpajdmhakdbkjaa
