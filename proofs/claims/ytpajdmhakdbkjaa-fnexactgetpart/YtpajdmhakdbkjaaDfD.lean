/- The model's l4Default: the least value of a tree. -/
import Derived.Test.YtpajdmhakdbkjaaNdK
import Derived.Test.YtpajdmhakdbkjaaDfA
import Derived.Test.YtpajdmhakdbkjaaGd
import Derived.Deep.DeepCutAuto
import Derived.Deep.AppendLies
import Derived.Lib.BufferWrite
namespace Go.Proofs.Ytpajdmhakdbkjaa
open Go.RowKit Plain Sch

def LdOK (d : Nat) (t : Tr) : Prop := ∀ (ac : Option Addr) (lc cc : Nat) (S : Nat → Prop) (w : World),
  KidsIn d w S (.slice ac lc cc) t.kids → (∀ g, S g → g < w.heap.size) → t.kids.length ≤ 1000 →
  Calls Try.prog 44 #[tv t ac lc cc] w fun e w' => ∃ ar lr cr, e = .returned (.agg #[.int .i64 0, .string ⟨#[]⟩, .int .i64 0, .bool (holds t.kind), .slice ar lr cr]) ∧ VKids d w' (fun g => w.heap.size ≤ g ∧ g < w'.heap.size) (.slice ar lr cr) (dflt t).kids ∧ Below w.heap.size w w'

theorem dflt_kids5 (t : Tr) (h : t.kind = 5) : (dflt t).kids = dfltL t.kids := by rw [dflt_eq, if_pos h]; rfl
theorem dflt_kids (t : Tr) (h : t.kind ≠ 5) : (dflt t).kids = [] := by rw [dflt_eq, if_neg h]; rfl
theorem dflt_holds (t : Tr) : (dflt t).must = holds t.kind := by
  rw [dflt_eq]; show (t.kind == 4 || t.kind == 5) = _; unfold holds; congr 1

theorem dflt_flds (t : Tr) : (dflt t).most = 0 ∧ (dflt t).name = ⟨#[]⟩ ∧ (dflt t).no = t.no := by rw [dflt_eq]; exact ⟨rfl, rfl, rfl⟩

theorem dfltL_len : ∀ (l : List Tr), (dfltL l).length ≤ l.length
  | [] => by rw [dfltL]; exact Nat.le_refl _
  | x :: l => by
    have := dfltL_len l
    rw [dfltL]
    split <;> simp <;> omega

theorem dfltL_must (ks : List Tr) (i : Nat) (x : Tr) (h : ks[i]? = some x) (hm : x.must = true) : dfltL (ks.take (i + 1)) = dfltL (ks.take i) ++ [dflt x] := by
  rw [List.take_add_one, h, dfltL_append]; simp [dfltL, hm]

theorem dfltL_skip (ks : List Tr) (i : Nat) (x : Tr) (h : ks[i]? = some x) (hm : x.must = false) : dfltL (ks.take (i + 1)) = dfltL (ks.take i) := by
  rw [List.take_add_one, h, dfltL_append]; simp [dfltL, hm]

/-- what the loop keeps -/
def LInv (b d : Nat) (W3 : World) (ks : List Tr) (n : Nat) (wr : World) : Prop :=
  ∃ kv, VInv (b + 3) (b + 3) d (dfltL (ks.take n)) kv wr ∧ Five wr (b + 1 + 1) (.int .i64 0) (.string ⟨#[]⟩) (.int .i64 0) (.bool true) kv ∧ Below (b + 2) W3 wr ∧ b + 3 ≤ wr.heap.size

set_option maxRecDepth 100000 in
set_option maxHeartbeats 4000000 in
theorem l4Default_step (d : Nat) (t : Tr) (ih0 : ∀ x ∈ t.kids, LdOK d x ∧ x.kids.length ≤ 1000) : LdOK (d + 1) t := by
  intro ac lc cc S w hk hS hlim
  have ih : Hid (∀ x ∈ t.kids, LdOK d x ∧ x.kids.length ≤ 1000) := ih0
  clear ih0
  obtain ⟨i0, hi, hz0, hz1, hz2⟩ := info_parts Try.infoV
  obtain ⟨ac', cc', hcc, hlc, hcm, hrow⟩ := hk
  simp only [Value.slice.injEq] at hcc
  obtain ⟨rfl, hnp, rfl⟩ := hcc
  have hcm' : cc ≤ 9223372036854775807 := by unfold maxLen at hcm; omega
  have HROW : Hid (∀ i x, t.kids[i]? = some x → ∃ g o c', ac = some ⟨g, o, none⟩ ∧ S g ∧ NdIn w g (o + i * 6) x c' ∧ KidsIn d w S c' x.kids) := hrow
  have HS : Hid (∀ g, S g → g < w.heap.size) := hS
  obtain ⟨DK, hDK⟩ : ∃ l, l = (dflt t).kids := ⟨_, rfl⟩
  rw [← hDK]
  have H5 : Hid (t.kind = 5 → DK = dfltL t.kids) := fun h => hDK.trans (dflt_kids5 t h)
  have H4 : Hid (t.kind ≠ 5 → DK = []) := fun h => hDK.trans (dflt_kids t h)
  clear hrow hS hDK
  unfold tv
  generalize t.kind = tk at *
  generalize t.name = tn at *
  generalize t.no = tno at *
  generalize t.must = tmu at *
  generalize t.most = tmo at *
  generalize t.kids = ks at *
  have HNP : Hid (lc = ks.length) := hnp
  have hlc' : lc ≤ cc := by omega
  clear hnp hlc
  obtain ⟨W3, hW3⟩ : ∃ W, W = ((w.alloc (.cells #[.int .i64 tk, .string tn, .int .i64 tno, .bool tmu, .int .i64 tmo, .slice ac lc cc] 82)).alloc (.cells #[.int .i64 0, .string ⟨#[]⟩, .int .i64 0, .bool false, .slice none 0 0] 78)).alloc (.cells #[.int .i64 0, .string ⟨#[]⟩, .int .i64 0, .bool (holds tk), .slice none 0 0] 78) := ⟨_, rfl⟩
  have hB3 : Below w.heap.size w W3 := by rw [hW3]; exact (((Below.refl _ w).alloc (Nat.le_refl _) _).alloc (by simp) _).alloc (by simp; omega) _
  have HS3 : Hid (W3.heap.size = w.heap.size + 3) := by show _ = _; rw [hW3]; simp
  have k0 : W3.cell? ⟨w.heap.size, 0, none⟩ = some (.int .i64 tk) := by rw [hW3]; go_simp
  have k5 : W3.cell? ⟨w.heap.size, 5, none⟩ = some (.slice ac lc cc) := by rw [hW3]; go_simp
  have hR3 : Five W3 (w.heap.size + 1) (.int .i64 0) (.string ⟨#[]⟩) (.int .i64 0) (.bool false) (.slice none 0 0) := by
    rw [hW3]; exact ⟨⟨by go_simp, by go_simp, by go_simp, by go_simp, by go_simp⟩, by go_simp, by go_simp, by go_simp, by go_simp, by go_simp⟩
  have hO3 : Five W3 (w.heap.size + 1 + 1) (.int .i64 0) (.string ⟨#[]⟩) (.int .i64 0) (.bool (holds tk)) (.slice none 0 0) := by
    rw [hW3]; exact ⟨⟨by go_simp, by go_simp, by go_simp, by go_simp, by go_simp⟩, by go_simp, by go_simp, by go_simp, by go_simp, by go_simp⟩
  have hz13 : w.heap.size + 1 + 1 < W3.heap.size := by have := HS3.out; omega
  have hz12 : w.heap.size + 1 < W3.heap.size := by omega
  have hz11 : w.heap.size < W3.heap.size := by omega
  go_enter Try.func44, Try.ntmps44
  go_wp2_with fail
  refine (l2Holds_any tk _).mono ?_
  rintro e w1 ⟨rfl, rfl⟩
  go_upto_region 2 with fail
  rw [← hW3]
  clear hW3
  by_cases h5 : tk = 5
  · have HDK : Hid (DK = dfltL ks) := H5.out h5
    subst h5
    rw [show holds 5 = true from rfl] at hO3
    rw [show holds 5 = true from rfl]
    have HI0 : Hid (LInv w.heap.size d W3 ks 0 W3) := ⟨.slice none 0 0, by rw [List.take_zero, dfltL]; exact VInv.start, hO3, Below.refl _ _, by have := HS3.out; omega⟩
    clear hO3
    go_wp2
    go_loopw [17] (fun vi wr => ∃ n : Nat, n ≤ ks.length ∧ vi = .int .i64 (n : Int) ∧ Hid (LInv w.heap.size d W3 ks n wr))
      (fun vi _ => ks.length - (intOf vi).toNat)
    case atStart => exact ⟨0, by omega, rfl, HI0⟩
    case round =>
      obtain ⟨n, hn, rfl, hinv⟩ := hrel
      obtain ⟨kv, hki, hO, hbw, hsr⟩ := hinv.out
      have HKI : Hid (VInv (w.heap.size + 3) (w.heap.size + 3) d (dfltL (ks.take n)) kv wr) := hki
      have hBr : Below w.heap.size w wr := hB3.trans (hbw.mono (by omega))
      have HBW : Hid (Below (w.heap.size + 2) W3 wr) := hbw
      by_cases hlt : n < ks.length
      · have hlt' : (n : Int) < (lc : Int) := by have := HNP.out; omega
        obtain ⟨x, hx⟩ : ∃ x, ks[n]? = some x := ⟨_, List.getElem?_eq_getElem hlt⟩
        obtain ⟨g, o, c', hao, hSg, hnd, hkk⟩ := HROW.out n x hx
        subst hao
        have hg := HS.out g hSg
        have hnd' := hnd.kept (hBr.block g hg)
        obtain ⟨ax, cx, rfl, _⟩ := hkk.form
        obtain ⟨e0, e1, e2, e3, e4, e5⟩ := hnd'
        have hgz : g < wr.heap.size := by have := hBr.size; omega
        have hihx := ih.out x (List.mem_of_getElem? hx)
        have HMU : Hid (x.must = true → dfltL (ks.take (n + 1)) = dfltL (ks.take n) ++ [dflt x]) := dfltL_must ks n x hx
        have HSK : Hid (x.must = false → dfltL (ks.take (n + 1)) = dfltL (ks.take n)) := dfltL_skip ks n x hx
        obtain ⟨Wy, hWy⟩ : ∃ W, W = wr.alloc (.cells #[.int .i64 x.kind, .string x.name, .int .i64 x.no, .bool x.must, .int .i64 x.most, .slice ax x.kids.length cx] 82) := ⟨_, rfl⟩
        have hBy : Below wr.heap.size wr Wy := by rw [hWy]; exact (Below.refl _ wr).alloc (Nat.le_refl _) _
        have HSY : Hid (Wy.heap.size = wr.heap.size + 1) := by show _ = _; rw [hWy]; simp
        have y0 : Wy.cell? ⟨wr.heap.size, 0, none⟩ = some (.int .i64 x.kind) := by rw [hWy]; go_simp
        have y1 : Wy.cell? ⟨wr.heap.size, 1, none⟩ = some (.string x.name) := by rw [hWy]; go_simp
        have y2 : Wy.cell? ⟨wr.heap.size, 2, none⟩ = some (.int .i64 x.no) := by rw [hWy]; go_simp
        have y3 : Wy.cell? ⟨wr.heap.size, 3, none⟩ = some (.bool x.must) := by rw [hWy]; go_simp
        have y4 : Wy.cell? ⟨wr.heap.size, 4, none⟩ = some (.int .i64 x.most) := by rw [hWy]; go_simp
        have y5 : Wy.cell? ⟨wr.heap.size, 5, none⟩ = some (.slice ax x.kids.length cx) := by rw [hWy]; go_simp
        have LC : Hid (Calls Try.prog 44 #[.agg #[.int .i64 x.kind, .string x.name, .int .i64 x.no, .bool x.must, .int .i64 x.most, .slice ax x.kids.length cx]] Wy fun e w' => ∃ ar lr cr, e = .returned (.agg #[.int .i64 0, .string ⟨#[]⟩, .int .i64 0, .bool (holds x.kind), .slice ar lr cr]) ∧ VKids d w' (fun g => Wy.heap.size ≤ g ∧ g < w'.heap.size) (.slice ar lr cr) (dflt x).kids ∧ Below Wy.heap.size Wy w') :=
          hihx.1 ax x.kids.length cx S Wy (hkk.kept (fun g hg => by rw [hBy.block g (by have h1 := HS.out g hg; have h2 := hBr.size; omega)]; exact hBr.block g (HS.out g hg)) (fun _ h => h)) (fun g hg => by have h1 := HS.out g hg; have h2 := hBr.size; have h3 := hBy.size; omega) hihx.2
        have HKY : Hid (VInv (w.heap.size + 3) (w.heap.size + 3) d (dfltL (ks.take n)) kv Wy) := hki.kept (Nat.le_refl _) hBy.size (fun g _ h2 => hBy.block g h2)
        have hOy := hO.kept (hBy.block (w.heap.size + 1 + 1) (by omega))
        clear hnd hkk hki hihx hO hinv HI0
        go_upto_region 6 with fail
        rw [← hWy]
        clear hWy e0 e1 e2 e3 e4 e5
        rcases hm : x.must with _ | _
        · rw [hm] at y3
          have hnext : Hid (LInv w.heap.size d W3 ks (n + 1) Wy) := ⟨kv, by rw [HSK.out hm]; exact HKY.out, hOy, HBW.out.trans (hBy.mono (by omega)), by have := hBy.size; omega⟩
          go_wp2
          go_roundw
          case rel => exact ⟨n + 1, by omega, by go_num, hnext⟩
          case measure => simp [intOf]; omega
        · rw [hm] at y3 LC
          go_wp2_with fail
          refine LC.out.mono ?_
          rintro e w2 ⟨ar, lr, cr, rfl, hvk, hb2⟩
          have hsb2 := hb2.size
          have hsy := HSY.out
          have y2' := (hb2.cell (p := ⟨wr.heap.size, 2, none⟩) (by show wr.heap.size < _; omega)).trans y2
          have hO2 := hOy.kept (hb2.block (w.heap.size + 1 + 1) (by omega))
          have HK2 : Hid (VInv (w.heap.size + 3) (w.heap.size + 3) d (dfltL (ks.take n)) kv w2) := HKY.out.kept (Nat.le_refl _) hb2.size (fun g _ h2 => hb2.block g h2)
          have HKV : Hid (∀ g, kv.ownBlock = some g → w.heap.size + 3 ≤ g ∧ g < Wy.heap.size) := fun g hg => by
            obtain ⟨xs1, hown1⟩ := HKY.out.own
            exact hown1.lt g hg
          have hzw : wr.heap.size < w2.heap.size := by omega
          have hBW2 : Below (w.heap.size + 2) W3 w2 := HBW.out.trans ((hBy.mono (by omega)).trans (hb2.mono (by omega)))
          clear y0 y1 y2 y3 y4 y5 hOy
          go_upto_region 9 with fail
          obtain ⟨W8, hW8⟩ : ∃ W, W = (w2.alloc (.cells #[.int .i64 0, .string ⟨#[]⟩, .int .i64 x.no, .bool (holds x.kind), .slice ar lr cr] 78)) := ⟨_, rfl⟩
          rw [← hW8]
          have hB8 : Below w2.heap.size w2 W8 := by rw [hW8]; exact (Below.refl _ w2).alloc (Nat.le_refl _) _
          have HS8 : Hid (W8.heap.size = w2.heap.size + 1) := by show _ = _; rw [hW8]; simp
          have x0 : W8.cell? ⟨w2.heap.size, 0, none⟩ = some (.int .i64 0) := by rw [hW8]; go_simp
          have x1 : W8.cell? ⟨w2.heap.size, 1, none⟩ = some (.string ⟨#[]⟩) := by rw [hW8]; go_simp
          have x2 : W8.cell? ⟨w2.heap.size, 2, none⟩ = some (.int .i64 x.no) := by rw [hW8]; go_simp
          have x3 : W8.cell? ⟨w2.heap.size, 3, none⟩ = some (.bool (holds x.kind)) := by rw [hW8]; go_simp
          have x4 : W8.cell? ⟨w2.heap.size, 4, none⟩ = some (.slice ar lr cr) := by rw [hW8]; go_simp
          have hO8 := hO2.kept (hB8.block (w.heap.size + 1 + 1) (by omega))
          have HKI8 : Hid (VInv (w.heap.size + 3) (w.heap.size + 3) d (dfltL (ks.take n)) kv W8) := HK2.out.kept (Nat.le_refl _) hB8.size (fun g _ h2 => hB8.block g h2)
          have HV8 : Hid (VKids d W8 (fun g => Wy.heap.size ≤ g ∧ g < w2.heap.size) (.slice ar lr cr) (dflt x).kids) := hvk.kept (fun g hg => hB8.block g hg.2) (fun _ h => h)
          have HBW8 : Hid (Below (w.heap.size + 2) W3 W8) := hBW2.trans (hB8.mono (by omega))
          obtain ⟨xs8, hown8⟩ := HKI8.out.own
          have HLE : Hid (dfltL (ks.take (n + 1)) = dfltL (ks.take n) ++ [dflt x]) := HMU.out hm
          have HCS : Hid ([Value.int .i64 0, .string ⟨#[]⟩, .int .i64 x.no, .bool (holds x.kind), .slice ar lr cr] = vCells (dflt x) (.slice ar lr cr)) := by
            show _ = _
            obtain ⟨f1, f2, f3⟩ := dflt_flds x
            unfold vCells
            rw [f1, f2, f3, dflt_holds]
          have hl5 : (dfltL (ks.take n)).length ≤ 1000 := by have h1 := dfltL_len (ks.take n); have h2 := List.length_take_le n ks; omega
          have hz28 : w2.heap.size < W8.heap.size := by have := HS8.out; omega
          have hz18 : w.heap.size + 1 + 1 < W8.heap.size := by omega
          obtain ⟨⟨_, _, _, _, yk⟩, _⟩ := id hO8
          have hs8' : w.heap.size + 3 ≤ W8.heap.size := by omega
          clear hW8 hvk HKY HK2 hO2 y2' HMU HSK LC hm hBW2
          generalize dfltL (ks.take n) = l at *
          generalize hKX : dflt x = dx at *
          clear hKX
          generalize holds x.kind = hx5 at *
          go_wp2_with (at_builtin; refine wpList_append_lies _ rfl _ _ 76 rfl (w.heap.size + 3) 78 i0 (.agg #[.int .i64 0, .string ⟨#[]⟩, .int .i64 0, .bool false, .slice none 0 0]) 5 64 Try.underlying76 hi hz0 hz1 hz2 rfl (by decide) _ l.length _ rfl (hown8.alloc _) ⟨W8.heap.size, 0, none⟩ 1 1 [.int .i64 0, .string ⟨#[]⟩, .int .i64 x.no, .bool hx5, .slice ar lr cr] rfl rfl ?c1 one5V ?c2 ?c3 ?c4 ?c5 (W8.heap.size + 1) ?c6 ?_)
          case c1 => exact World.news_of_block (heap_alloc_new W8 _)
          case c2 => omega
          case c3 => unfold maxLen; omega
          case c4 => omega
          case c5 => simp; omega
          case c6 => simp
          intro g9 cap9 w9 hown9 hgrow9 hat9 hlt9
          have hB8a : Below W8.heap.size W8 (W8.alloc (.cells #[.int .i64 0, .string ⟨#[]⟩, .int .i64 x.no, .bool hx5, .slice ar lr cr] 78)) := (Below.refl _ W8).alloc (Nat.le_refl _) _
          have hs9 : W8.heap.size + 1 ≤ w9.heap.size := by have := hgrow9.size; simpa using this
          have bk9 : ∀ g, g < w.heap.size + 3 → g < W8.heap.size → w9.heap[g]? = W8.heap[g]? := fun g h1 h2 => (hgrow9.block g (by simp; omega) (fun e => by have := (HKV.out g e.symm).1; omega)).trans (hB8a.block g h2)
          have hO9 := hO8.kept (bk9 _ (by omega) (by omega))
          have hk9 : VInv (w.heap.size + 3) (w.heap.size + 3) d (l ++ [dx]) (.slice (some ⟨g9, 0, none⟩) (l.length + 1) cap9) w9 :=
            (HKI8.out.kept (Nat.le_refl _) hB8a.size (fun g _ h2 => hB8a.block g h2)).step (t := dx) (c := .slice ar lr cr) (S2 := fun g => Wy.heap.size ≤ g ∧ g < w2.heap.size) (HV8.out.kept (fun g hg => hB8a.block g (by have := HS8.out; omega)) (fun _ h => h)) (fun g hg => ⟨by omega, by have := HS8.out; simp; omega, fun e => by
              have h1 := HKV.out g e
              omega⟩) (hown8.alloc _) HCS.out hown9 hgrow9 (by rcases hat9 with h | h; exact .inl h; exact .inr (by simp; omega))
          have hB9 : Below (w.heap.size + 2) W3 w9 := by
            have h8 := HBW8.out
            refine ⟨hgrow9.os.trans (hB8a.os.trans h8.os), hgrow9.tape.trans (hB8a.tape.trans h8.tape), hgrow9.output.trans (hB8a.output.trans h8.output), by have := h8.size; omega, fun j hj => ?_⟩
            exact (bk9 j (by omega) (by omega)).trans (h8.block j hj)
          obtain ⟨⟨_, _, _, _, yk9⟩, _, _, _, _, yz9⟩ := id hO9
          have hz19 : w.heap.size + 1 + 1 < w9.heap.size := by omega
          have hnext : Hid (LInv w.heap.size d W3 ks (n + 1) (w9.setCell ⟨w.heap.size + 1 + 1, 4, none⟩ (.slice (some ⟨g9, 0, none⟩) (l.length + 1) cap9))) := by
            refine ⟨.slice (some ⟨g9, 0, none⟩) (l.length + 1) cap9, ?_, hO9.set4 _, hB9.setCell (p := ⟨w.heap.size + 1 + 1, 4, none⟩) (by show w.heap.size + 2 ≤ w.heap.size + 1 + 1; omega) _, by simp; omega⟩
            rw [HLE.out]
            exact hk9.kept (Nat.le_refl _) (by simp) (fun g h1 _ => Below.heap_setCell _ _ _ _ (by show g ≠ w.heap.size + 1 + 1; omega))
          clear hown9 hgrow9 hat9 hk9 hB9 hO9 bk9 hB8a hown8 x0 x1 x2 x3 x4 yk hO8
          go_wp2
          go_roundw
          case rel => exact ⟨n + 1, by omega, by go_num, hnext⟩
          case measure => simp [intOf]; omega
      · have hke : n = ks.length := by omega
        have hge : ¬ ((n : Int) < (lc : Int)) := by have := HNP.out; omega
        have HK9 : Hid (VKids (d + 1) wr (fun g => w.heap.size + 3 ≤ g ∧ g < wr.heap.size) kv DK) := by
          show VKids _ _ _ _ _
          rw [HDK.out]
          have h := hki.kids (Nat.le_refl _)
          rwa [hke, List.take_length] at h
        obtain ⟨ak, capk, rfl, _⟩ := HK9.out.form
        obtain ⟨⟨q0, q1, q2, q3, q4⟩, _⟩ := hO
        obtain ⟨⟨y0, y1, y2, y3, y4⟩, z0, z1, z2, z3, z4⟩ := hR3.kept (hbw.block (w.heap.size + 1) (by omega))
        have hzr : w.heap.size + 1 < wr.heap.size := by omega
        have hle : w.heap.size ≤ w.heap.size + 1 := by omega
        clear hki HKI hinv hke HI0
        generalize DK.length = nk at *
        go_wp2
        (try simp only [Exit.inBlock, Exit.then])
        refine bodyPost_ret (v := .agg #[.int .i64 0, .string ⟨#[]⟩, .int .i64 0, .bool true, .slice ak nk capk]) ?_ rfl ⟨ak, nk, capk, rfl, ?_, ?_⟩
        · rw [results_cell1 rfl]
          go_simp
          try exact ⟨rfl, rfl, rfl, rfl, rfl⟩
        · refine HK9.out.kept (fun g hg => ?_) (fun g hg => ⟨by omega, by simp; omega⟩)
          repeat (rw [Below.heap_setCell _ _ _ _ (by show g ≠ w.heap.size + 1; omega)])
        · repeat' (first | with_reducible exact hBr | refine Below.setCell ?_ hle _)
  · have HDK : Hid (DK = []) := H4.out h5
    have hO3 := hO3
    obtain ⟨⟨q0, q1, q2, q3, q4⟩, _⟩ := hO3
    obtain ⟨⟨y0, y1, y2, y3, y4⟩, z0, z1, z2, z3, z4⟩ := hR3
    have h5' : (tk == 5) = false := by simpa using h5
    have hle : w.heap.size ≤ w.heap.size + 1 := by omega
    go_wp2
    (try simp only [Exit.inBlock, Exit.then])
    refine bodyPost_ret (v := .agg #[.int .i64 0, .string ⟨#[]⟩, .int .i64 0, .bool (holds tk), .slice none 0 0]) ?_ rfl ⟨none, 0, 0, rfl, ?_, ?_⟩
    · rw [results_cell1 rfl]
      go_simp
      try exact ⟨rfl, rfl, rfl, rfl, rfl⟩
    · rw [HDK.out]
      exact ⟨none, 0, rfl, by simp, by unfold maxLen; omega, fun i x hx => by simp at hx⟩
    · repeat' (first | with_reducible exact hB3 | refine Below.setCell ?_ hle _)

theorem len_sizeL : ∀ (l : List Tr), l.length ≤ sizeL l
  | [] => by simp
  | x :: l => by have h1 := len_sizeL l; have h2 := x.size_pos; rw [List.length_cons, sizeL]; omega

theorem l4Default_any : ∀ (d : Nat) (t : Tr), t.size ≤ 1000 → LdOK d t := by
  intro d
  induction d with
  | zero =>
    intro t hz ac lc cc S w hk hS hl
    obtain ⟨ao, cap, h1, h2, h3⟩ := hk
    simp only [Value.slice.injEq] at h1
    obtain ⟨rfl, rfl, rfl⟩ := h1
    refine (l4Default_step 0 t (fun x hx => by rw [h3] at hx; simp at hx) ac 0 cc S w ?_ hS hl).mono ?_
    · rw [h3]
      exact ⟨ac, cc, rfl, by simp, h2, fun i x hx => by simp at hx⟩
    · rintro e w' ⟨ar, lr, cr, he, hv, hb⟩
      refine ⟨ar, lr, cr, he, ?_, hb⟩
      have hn : (dflt t).kids = [] := by
        by_cases h5 : t.kind = 5
        · rw [dflt_kids5 t h5, h3, dfltL]
        · exact dflt_kids t h5
      rw [hn] at hv ⊢
      obtain ⟨ao, cap, e1, _, e2, _⟩ := hv
      exact ⟨ao, cap, by simpa using e1, e2, rfl⟩
  | succ d ih =>
    intro t hz
    refine l4Default_step d t (fun x hx => ?_)
    have h1 := sizeL_mem t.kids x hx
    have h2 := t.size_eq
    have h3 := x.size_eq
    have h4 := len_sizeL x.kids
    exact ⟨ih x (by omega), by omega⟩

end Go.Proofs.Ytpajdmhakdbkjaa
