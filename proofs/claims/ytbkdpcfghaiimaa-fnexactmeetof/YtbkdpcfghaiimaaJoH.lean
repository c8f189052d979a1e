/- The model's l2PutKid. -/
import Derived.Test.YtbkdpcfghaiimaaGp
namespace Go.Proofs.Ytbkdpcfghaiimaa
open Go.RowKit Plain Sch

/-- a part put to its place by its number -/
def putL (l : List Tr) (x : Tr) : List Tr := l.takeWhile (fun y => decide (y.no < x.no)) ++ x :: l.dropWhile (fun y => decide (y.no < x.no))

theorem putL_at : ∀ (l : List Tr) (x : Tr) (k : Nat), k ≤ l.length → (∀ j y, j < k → l[j]? = some y → y.no < x.no) → (k = l.length ∨ ∃ y, l[k]? = some y ∧ ¬ y.no < x.no) → putL l x = l.take k ++ x :: l.drop k
  | [], x, k, hk, _, _ => by
    have : k = 0 := by simpa using hk
    subst this; rfl
  | a :: l, x, 0, _, _, hend => by
    rcases hend with h | ⟨y, hy, hn⟩
    · simp at h
    · simp at hy; subst hy
      simp [putL, hn]
  | a :: l, x, k + 1, hk, hall, hend => by
    have ha := hall 0 a (by omega) rfl
    have := putL_at l x k (by simpa using hk) (fun j y hj hy => hall (j + 1) y (by omega) (by simpa using hy)) (by
      rcases hend with h | ⟨y, hy, hn⟩
      · exact .inl (by simpa using h)
      · exact .inr ⟨y, by simpa using hy, hn⟩)
    unfold putL at this ⊢
    simp [ha, this]

theorem putL_last (l : List Tr) (x : Tr) (h : ∀ y ∈ l, y.no < x.no) : putL l x = l ++ [x] := by
  rw [putL_at l x l.length (Nat.le_refl _) (fun j y _ hy => h y (List.mem_of_getElem? hy)) (.inl rfl)]
  simp

theorem putL_len (l : List Tr) (x : Tr) : (putL l x).length = l.length + 1 := by
  unfold putL
  rw [List.length_append, List.length_cons]
  have := congrArg List.length (List.takeWhile_append_dropWhile (p := fun y : Tr => decide (y.no < x.no)) (l := l))
  rw [List.length_append] at this
  omega

theorem kids_rowsE {w : World} {S : Nat → Prop} {d : Nat} {ao : Option Addr} (l : List Tr) (h : ∀ i t, l[i]? = some t → ∃ g o c', ao = some ⟨g, o, none⟩ ∧ S g ∧ NdIn w g (o + i * 6) t c' ∧ KidsIn d w S c' t.kids) :
    ∃ rows : List (Tr × Value), rows.map Prod.fst = l ∧ (∀ x ∈ rows, KidsIn d w S x.2 x.1.kids) ∧ ∀ i (x : Tr × Value), rows[i]? = some x → ∃ g o, ao = some ⟨g, o, none⟩ ∧ S g ∧ NdIn w g (o + i * 6) x.1 x.2 := by
  cases l with
  | nil => exact ⟨[], rfl, fun x hx => by simp at hx, fun i x hx => by simp at hx⟩
  | cons a l =>
    obtain ⟨g, o, c, rfl, hS, _, _⟩ := h 0 a rfl
    obtain ⟨rows, h1, h2, h3⟩ := kids_rows (w := w) (S := S) (d := d) (g := g) (o := o) (a :: l) 0 (fun i t ht => by
      obtain ⟨g', o', c', he, _, hn, hk⟩ := h i t ht
      simp only [Option.some.injEq, Addr.mk.injEq, and_true] at he
      obtain ⟨rfl, rfl⟩ := he
      exact ⟨c', by rwa [Nat.zero_add], hk⟩)
    exact ⟨rows, h1, h2, fun i x hx => ⟨g, o, rfl, hS, by have := h3 i x hx; rwa [Nat.zero_add] at this⟩⟩

theorem rows_cellE {w : World} {ao : Option Addr} (rows : List (Tr × Value)) (s : Nat) (h : ∀ i (x : Tr × Value), rows[i]? = some x → ∃ g o, ao = some ⟨g, o, none⟩ ∧ NdIn w g (o + (s + i) * 6) x.1 x.2) :
    ∀ j u, (rows.flatMap fun x => trCells x.1 x.2)[j]? = some u → ∃ g o, ao = some ⟨g, o, none⟩ ∧ w.cell? ⟨g, o + s * 6 + j, none⟩ = some u := by
  intro j u hu
  cases rows with
  | nil => simp at hu
  | cons x rows =>
    obtain ⟨g, o, rfl, _⟩ := h 0 x rfl
    exact ⟨g, o, rfl, rows_cell (x :: rows) s (fun i y hy => by
      obtain ⟨g', o', he, hn⟩ := h i y hy
      simp only [Option.some.injEq, Addr.mk.injEq, and_true] at he
      obtain ⟨rfl, rfl⟩ := he
      exact hn) j u hu⟩

theorem add_addr (g o j : Nat) : (⟨g, o, none⟩ : Addr).add j = ⟨g, o + j, none⟩ := by unfold Addr.add; split <;> simp_all

set_option maxRecDepth 100000 in
set_option maxHeartbeats 4000000 in
theorem l2PutKid_any (d : Nat) (t x : Tr) (ao ax : Option Addr) (cap lx cx : Nat) (S : Nat → Prop) (w : World) (hk : KidsIn (d + 1) w S (.slice ao t.kids.length cap) t.kids) (hx : KidsIn d w S (.slice ax lx cx) x.kids) (hS : ∀ g, S g → g < w.heap.size) (hl : t.kids.length ≤ 1000) :
    Calls Try.prog 93 #[tv t ao t.kids.length cap, tv x ax lx cx] w fun e w' => ∃ ar cr, e = .returned (tv t ar (t.kids.length + 1) cr) ∧ KidsIn (d + 1) w' (fun g => (S g ∨ w.heap.size ≤ g) ∧ g < w'.heap.size) (.slice ar (t.kids.length + 1) cr) (putL t.kids x) ∧ Below w.heap.size w w' := by
  obtain ⟨i0, hi, hz0, hz1, hz2⟩ := info_parts Try.infoTr
  obtain ⟨ao', cap', hcc, hlc, hcm, hrow⟩ := hk
  simp only [Value.slice.injEq, true_and] at hcc
  obtain ⟨rfl, rfl⟩ := hcc
  obtain ⟨rows, hr1, hr2, hr3⟩ := kids_rowsE t.kids hrow
  have hrl : rows.length = t.kids.length := by rw [← hr1]; simp
  have HROW : Hid (∀ i y, t.kids[i]? = some y → ∃ g o c', ao = some ⟨g, o, none⟩ ∧ S g ∧ NdIn w g (o + i * 6) y c' ∧ KidsIn d w S c' y.kids) := hrow
  have HS : Hid (∀ g, S g → g < w.heap.size) := hS
  have HX : Hid (KidsIn d w S (.slice ax lx cx) x.kids) := hx
  have HR1 : Hid (rows.map Prod.fst = t.kids) := hr1
  have HR2 : Hid (∀ x ∈ rows, KidsIn d w S x.2 x.1.kids) := hr2
  have HR3 : Hid (∀ i (x : Tr × Value), rows[i]? = some x → ∃ g o, ao = some ⟨g, o, none⟩ ∧ S g ∧ NdIn w g (o + i * 6) x.1 x.2) := hr3
  have hcm' : cap ≤ 9223372036854775807 := by unfold maxLen at hcm; omega
  have HONE : Hid (∀ x ∈ rows, x.2.oneCell' = true) := fun x hx => by obtain ⟨a, c, he, _⟩ := (hr2 x hx).form; rw [he]; rfl
  clear hrow hS hx hr1 hr2 hr3
  have HP : Hid (∀ k, k ≤ t.kids.length → (∀ j y, j < k → t.kids[j]? = some y → y.no < x.no) → (k = t.kids.length ∨ ∃ y, t.kids[k]? = some y ∧ ¬ y.no < x.no) → putL t.kids x = t.kids.take k ++ x :: t.kids.drop k) := fun k => putL_at t.kids x k
  obtain ⟨PL, hPL⟩ : ∃ p, p = putL t.kids x := ⟨_, rfl⟩
  rw [← hPL]
  rw [← hPL] at HP
  clear hPL
  unfold tv
  obtain ⟨W3, hW3⟩ : ∃ W, W = ((w.alloc (.cells #[.int .i64 t.kind, .string t.name, .int .i64 t.no, .bool t.must, .int .i64 t.most, .slice ao t.kids.length cap] 75)).alloc (.cells #[.int .i64 x.kind, .string x.name, .int .i64 x.no, .bool x.must, .int .i64 x.most, .slice ax lx cx] 75)).alloc (.cells #[.int .i64 0, .string ⟨#[]⟩, .int .i64 0, .bool false, .int .i64 0, .slice none 0 0] 75) := ⟨_, rfl⟩
  have hB3 : Below w.heap.size w W3 := by rw [hW3]; exact (((Below.refl _ w).alloc (Nat.le_refl _) _).alloc (by simp) _).alloc (by simp; omega) _
  have HS3 : Hid (W3.heap.size = w.heap.size + 3) := by show _ = _; rw [hW3]; simp
  have HC3 : Hid (∀ W : World, Below (w.heap.size + 3) W3 W → (Six W w.heap.size (.int .i64 t.kind) (.string t.name) (.int .i64 t.no) (.bool t.must) (.int .i64 t.most) (.slice ao t.kids.length cap) ∧ Six W (w.heap.size + 1) (.int .i64 x.kind) (.string x.name) (.int .i64 x.no) (.bool x.must) (.int .i64 x.most) (.slice ax lx cx) ∧ Six W (w.heap.size + 1 + 1) (.int .i64 0) (.string ⟨#[]⟩) (.int .i64 0) (.bool false) (.int .i64 0) (.slice none 0 0)) ∧ Below w.heap.size w W ∧ w.heap.size + 1 + 1 < W.heap.size) := fun W hW => by
    have hs := HS3.out
    have h2 := hW.size
    have h0 : Six W3 w.heap.size (.int .i64 t.kind) (.string t.name) (.int .i64 t.no) (.bool t.must) (.int .i64 t.most) (.slice ao t.kids.length cap) := by
      rw [hW3]; exact ⟨⟨by go_simp, by go_simp, by go_simp, by go_simp, by go_simp, by go_simp⟩, by go_simp, by go_simp, by go_simp, by go_simp, by go_simp, by go_simp⟩
    have h1 : Six W3 (w.heap.size + 1) (.int .i64 x.kind) (.string x.name) (.int .i64 x.no) (.bool x.must) (.int .i64 x.most) (.slice ax lx cx) := by
      rw [hW3]; exact ⟨⟨by go_simp, by go_simp, by go_simp, by go_simp, by go_simp, by go_simp⟩, by go_simp, by go_simp, by go_simp, by go_simp, by go_simp, by go_simp⟩
    have h3 : Six W3 (w.heap.size + 1 + 1) (.int .i64 0) (.string ⟨#[]⟩) (.int .i64 0) (.bool false) (.int .i64 0) (.slice none 0 0) := by
      rw [hW3]; exact ⟨⟨by go_simp, by go_simp, by go_simp, by go_simp, by go_simp, by go_simp⟩, by go_simp, by go_simp, by go_simp, by go_simp, by go_simp, by go_simp⟩
    exact ⟨⟨h0.kept (hW.block _ (by omega)), h1.kept (hW.block _ (by omega)), h3.kept (hW.block _ (by omega))⟩, hB3.trans (hW.mono (by omega)), by omega⟩
  go_enter Try.func93, Try.ntmps93
  go_wp2_with fail
  rw [← hW3]
  clear hW3
  go_loopw [5] (fun vi wr => ∃ k : Nat, k ≤ t.kids.length ∧ vi = .int .i64 (k : Int) ∧ Hid (∀ j y, j < k → t.kids[j]? = some y → y.no < x.no) ∧ Below (w.heap.size + 3) W3 wr)
    (fun vi _ => t.kids.length - (intOf vi).toNat)
  case atStart => exact ⟨0, by omega, rfl, fun j y hj => by omega, Below.refl _ _⟩
  case round =>
    obtain ⟨k, hkl, rfl, hall, hbw⟩ := hrel
    obtain ⟨⟨⟨⟨t0, t1, t2, t3, t4, t5⟩, _⟩, ⟨⟨x0, x1, x2, x3, x4, x5⟩, _⟩, _⟩, hBw, hsw⟩ := HC3.out _ hbw
    have hk0 : (0 : Int) ≤ (k : Int) := by omega
    by_cases hgo : ∃ y, t.kids[k]? = some y ∧ y.no < x.no
    · obtain ⟨y, hy, hlt⟩ := hgo
      obtain ⟨g, o, c', hao, hSg, hnd, _⟩ := HROW.out k y hy
      have hg := HS.out g hSg
      have hk1 : k < t.kids.length := (List.getElem?_eq_some_iff.1 hy).1
      have hk1' : (k : Int) < (t.kids.length : Int) := by omega
      have hall2 : Hid (∀ j z, j < k + 1 → t.kids[j]? = some z → z.no < x.no) := fun j z hj hz => by
        by_cases hjk : j = k
        · subst hjk; rw [hy] at hz; cases hz; exact hlt
        · exact hall.out j z (by omega) hz
      have hd : decide (y.no < x.no) = true := by simpa using hlt
      have c2 := (hnd.kept (hBw.block g hg)).2.2.1
      rw [hao] at t5
      clear hnd hlt hall hy
      generalize y.no = yno at c2 hd
      go_upto_region 2 with fail
      go_quiet (fail)
      go_wp2
      go_roundw
      case rel => exact ⟨k + 1, by omega, by go_num, hall2, below_drewN hbw⟩
      case measure => simp [intOf]; omega
    · have HPk : Hid (PL = t.kids.take k ++ x :: t.kids.drop k) := HP.out k hkl hall.out (by
        by_cases hke : k = t.kids.length
        · exact .inl hke
        · have hkk : k < t.kids.length := by omega
          refine .inr ⟨t.kids[k], List.getElem?_eq_getElem hkk, ?_⟩
          by_cases h : t.kids[k].no < x.no
          · exact absurd ⟨_, List.getElem?_eq_getElem hkk, h⟩ hgo
          · omega)
      obtain ⟨a2, ha2⟩ : ∃ a2, a2 = if cap = k then ao else ao.map (·.add (k * 6)) := ⟨_, rfl⟩
      have HA2 : Hid (∀ g o, ao = some ⟨g, o, none⟩ → k < t.kids.length → a2 = some ⟨g, o + k * 6, none⟩) := fun g o h1 h2 => by
        rw [ha2, if_neg (by omega), h1]
        show some ((⟨g, o, none⟩ : Addr).add (k * 6)) = _
        rw [add_addr]
      have hsl1 : ∀ W : World, (Instr.slice 73 (.slice ao t.kids.length cap) none (some (.int .i64 (k : Int))) none).run Try.prog W = .ok (.slice ao k cap) W := fun W => by
        rw [run_slice_h (P := Try.prog) (w := W) 73 ao t.kids.length cap Try.underlying73 .i64 (k : Int) (by omega) (by omega)]
        have e : (sizeOf (Try.prog.elem 73)).run Try.prog W = .ok 6 W := by kernel_rfl
        rw [e]
        show Result.ok (sliced ao 0 (k : Int).toNat cap 6) W = _
        unfold sliced
        rw [Int.toNat_natCast, Nat.zero_mul, Nat.sub_zero, Nat.sub_zero]
        congr 2
        cases ao with
        | none => split <;> rfl
        | some a => obtain ⟨ab, ao', ae⟩ := a; split <;> simp [Addr.add] <;> cases ae <;> rfl
      have hsl2 : ∀ W : World, (Instr.slice 73 (.slice ao t.kids.length cap) (some (.int .i64 (k : Int))) none none).run Try.prog W = .ok (.slice a2 (t.kids.length - k) (cap - k)) W := fun W => by
        rw [run_slice_l (P := Try.prog) (w := W) 73 ao t.kids.length cap Try.underlying73 .i64 (k : Int) (by omega) (by omega)]
        have e : (sizeOf (Try.prog.elem 73)).run Try.prog W = .ok 6 W := by kernel_rfl
        rw [e]
        show Result.ok (sliced ao (k : Int).toNat t.kids.length cap 6) W = _
        unfold sliced
        rw [Int.toNat_natCast, ha2]
      clear ha2
      have hsplit : (∃ y g o, t.kids[k]? = some y ∧ ao = some ⟨g, o, none⟩ ∧ k < t.kids.length ∧ decide (y.no < x.no) = false ∧ wr.cell? ⟨g, o + k * 6 + 2, none⟩ = some (.int .i64 y.no)) ∨ k = t.kids.length := by
        by_cases hke : k = t.kids.length
        · exact .inr hke
        · obtain ⟨y, hy⟩ : ∃ y, t.kids[k]? = some y := ⟨_, List.getElem?_eq_getElem (by omega)⟩
          obtain ⟨g, o, c', hao, hSg, hnd, _⟩ := HROW.out k y hy
          exact .inl ⟨y, g, o, hy, hao, by omega, by
            by_cases h : y.no < x.no
            · exact absurd ⟨y, hy, h⟩ hgo
            · simpa using h, (hnd.kept (hBw.block g (HS.out g hSg))).2.2.1⟩
      have HSRC : Hid (∀ (W : World) (s m : Nat), Below w.heap.size w W → ∀ j u, (((rows.drop s).take m).flatMap fun x => trCells x.1 x.2)[j]? = some u → ∃ g o, ao = some ⟨g, o, none⟩ ∧ W.cell? ⟨g, o + s * 6 + j, none⟩ = some u) := fun W s m hW => rows_cellE ((rows.drop s).take m) s (fun i y hy => by
        have hy' : rows[s + i]? = some y := by
          rw [List.getElem?_take] at hy
          split at hy
          · rwa [List.getElem?_drop] at hy
          · cases hy
        obtain ⟨g, o, h1, h2, h3⟩ := HR3.out (s + i) y hy'
        exact ⟨g, o, h1, h3.kept (hW.block g (HS.out g h2))⟩)
      have HT : Hid (((rows.drop 0).take k).flatMap (fun x => trCells x.1 x.2) = (rows.take k).flatMap fun x => trCells x.1 x.2) := by show _ = _; rw [List.drop_zero]
      have HD : Hid (((rows.drop k).take (t.kids.length - k)).flatMap (fun x => trCells x.1 x.2) = (rows.drop k).flatMap fun x => trCells x.1 x.2) := by
        show _ = _
        rw [List.take_of_length_le (by rw [List.length_drop, hrl]; exact Nat.le_refl _)]
      have HL1 : Hid (((rows.take k).flatMap fun x => trCells x.1 x.2).length = k * 6) := by show _ = _; rw [rows_len, List.length_take, hrl, Nat.min_eq_left hkl]
      have HL2 : Hid (((rows.drop k).flatMap fun x => trCells x.1 x.2).length = (t.kids.length - k) * 6) := by show _ = _; rw [rows_len, List.length_drop, hrl]
      have HO1 : Hid (∀ u ∈ ((rows.take k).flatMap fun x => trCells x.1 x.2), u.oneCell' = true) := onesT (fun x hx => HONE.out x (List.mem_of_mem_take hx))
      have HO2 : Hid (∀ u ∈ ((rows.drop k).flatMap fun x => trCells x.1 x.2), u.oneCell' = true) := onesT (fun x hx => HONE.out x (List.mem_of_mem_drop hx))
      have HM : Hid (rows.take k ++ (x, Value.slice ax lx cx) :: rows.drop k |>.map Prod.fst |> (PL = ·)) := by
        show PL = _
        rw [HPk.out, List.map_append, List.map_cons, List.map_take, List.map_drop, HR1.out]
      rcases hsplit with ⟨y, g, o, hy, hao, hk1, hd, c2⟩ | hke
      · have hk1' : (k : Int) < (t.kids.length : Int) := by omega
        have t5r := t5
        rw [hao] at t5r
        clear t5
        clear hgo hall hy hao
        generalize y.no = yno at c2 hd
        go_upto_region 2 with fail
        go_quiet (fail)
        have hb3q : Below (w.heap.size + 3) W3 (wr.drewN nq) := below_drewN hbw
        have hBq : Hid (Below w.heap.size w (wr.drewN nq)) := below_drewN hBw
        have hs3 := HS3.out
        have hszw := hbw.size
        clear t0 t1 t2 t3 t4 t5r x0 x1 x2 x3 x4 x5
        obtain ⟨⟨⟨⟨t0, t1, t2, t3, t4, t5⟩, _⟩, _, _⟩, _, _⟩ := HC3.out _ hb3q
        go_wp2_with (at_builtin; refine wpList_append_may _ rfl _ _ 73 rfl (w.heap.size + 3) 75 i0 (.agg #[.int .i64 0, .string ⟨#[]⟩, .int .i64 0, .bool false, .int .i64 0, .slice none 0 0]) 6 72 Try.underlying73 hi hz0 hz1 hz2 rfl (by decide) _ 0 [] rfl (World.ownsRow_nil _ _ _ _) _ k _ ((rows.take k).flatMap fun x => trCells x.1 x.2) rfl HL1.out ?n1 HO1.out (by unfold maxLen; omega) (by omega) (by show w.heap.size + 3 ≤ wr.heap.size; omega) ?_)
        case n1 =>
          intro j u hu
          rw [← HT.out] at hu
          obtain ⟨g', o', h1, h2⟩ := HSRC.out _ 0 k hBq.out j u hu
          refine ⟨_, h1, ?_⟩
          rw [add_addr]
          simpa using h2
        intro ar1 cap1 w4 hown4 hgrow4 _
        have hb4 : Below (w.heap.size + 3) W3 w4 := hb3q.grown hgrow4 (by show w.heap.size + 3 ≤ wr.heap.size; omega) (fun k hk => by simp [Value.ownBlock] at hk)
        have hsz4 := hb4.size
        clear hgrow4 hb3q hbw hszw t0 t1 t2 t3 t4 t5 hBw hsw
        obtain ⟨⟨⟨⟨t0, t1, t2, t3, t4, t5⟩, _⟩, ⟨⟨x0, x1, x2, x3, x4, x5⟩, _⟩, _⟩, hBw, hsw⟩ := HC3.out _ hb4
        go_wp2_with (at_builtin; refine wpList_append_may _ rfl _ _ 73 rfl (w.heap.size + 3) 75 i0 (.agg #[.int .i64 0, .string ⟨#[]⟩, .int .i64 0, .bool false, .int .i64 0, .slice none 0 0]) 6 72 Try.underlying73 hi hz0 hz1 hz2 rfl (by decide) _ k _ rfl (hown4.alloc _) (some ⟨w4.heap.size, 0, none⟩) 1 1 [Value.int .i64 x.kind, .string x.name, .int .i64 x.no, .bool x.must, .int .i64 x.most, .slice ax lx cx] rfl rfl (fun j u hu => ⟨_, rfl, World.news_of_block (heap_alloc_new w4 _) j u hu⟩) one6 (by unfold maxLen; omega) (by omega) (by simp; omega) ?_)
        intro ar2 cap2 w5 hown5 hgrow5 _
        have hlt4 := hown4.lt
        have hb5 : Below (w.heap.size + 3) W3 w5 := (hb4.alloc (by omega) _).grown hgrow5 (by simp; omega) (fun k hk => (hlt4 k hk).1)
        have hsz5 := hb5.size
        clear hgrow5 hb4 hsz4 t0 t1 t2 t3 t4 t5 x0 x1 x2 x3 x4 x5 hBw hsw hown4 hlt4
        obtain ⟨⟨⟨⟨t0, t1, t2, t3, t4, t5⟩, ⟨_, _, _, _, _, tz⟩⟩, _, _⟩, hBw, hsw⟩ := HC3.out _ hb5
        have hB5 : Hid (Below w.heap.size w w5) := hBw
        go_wp2_with (at_builtin; refine wpList_append_may _ rfl _ _ 73 rfl (w.heap.size + 3) 75 i0 (.agg #[.int .i64 0, .string ⟨#[]⟩, .int .i64 0, .bool false, .int .i64 0, .slice none 0 0]) 6 72 Try.underlying73 hi hz0 hz1 hz2 rfl (by decide) _ (k + 1) _ rfl hown5 _ (t.kids.length - k) _ ((rows.drop k).flatMap fun x => trCells x.1 x.2) rfl HL2.out ?n3 HO2.out (by unfold maxLen; omega) (by omega) (by omega) ?_)
        case n3 =>
          intro j u hu
          have hu' := hu
          rw [← HD.out] at hu
          obtain ⟨g', o', h1, h2⟩ := HSRC.out _ k (t.kids.length - k) hB5.out j u hu
          have hkl' : k < t.kids.length := by
            have h3 := (List.getElem?_eq_some_iff.1 hu').1
            rw [HL2.out] at h3
            omega
          refine ⟨_, HA2.out g' o' h1 hkl', ?_⟩
          rw [add_addr]
          exact h2
        intro ar3 cap3 w6 hown6 hgrow6 _
        rw [show k + 1 + (t.kids.length - k) = t.kids.length + 1 by omega] at hown6 ⊢
        have hlt5 := hown5.lt
        have hb6 : Below (w.heap.size + 3) W3 w6 := hb5.grown hgrow6 (by omega) (fun k hk => (hlt5 k hk).1)
        have hsz6 := hb6.size
        clear hgrow6 hb5 hsz5 t0 t1 t2 t3 t4 t5 tz hBw hsw hown5 hlt5
        obtain ⟨⟨⟨⟨t0, t1, t2, t3, t4, t5⟩, ⟨_, _, _, _, _, tz⟩⟩, _, ⟨⟨y0, y1, y2, y3, y4, y5⟩, ⟨z0, z1, z2, z3, z4, z5⟩⟩⟩, hBw, hsw⟩ := HC3.out _ hb6
        have HK : Hid (∀ w' : World, Below w.heap.size w w' → w6.heap.size ≤ w'.heap.size → (∀ g, w.heap.size + 3 ≤ g → w'.heap[g]? = w6.heap[g]?) → KidsIn (d + 1) w' (fun g => (S g ∨ w.heap.size ≤ g) ∧ g < w'.heap.size) (.slice ar3 (t.kids.length + 1) cap3) PL) := fun w' hb' hs' hblk => by
          rw [HM.out]
          have hlt6 := hown6.lt
          refine kids_of_rows (S := fun g => S g) (B := w.heap.size + 3) (n := t.kids.length + 1) (own_keptB (xs := ((rows.take k ++ (x, Value.slice ax lx cx) :: rows.drop k).flatMap fun x => trCells x.1 x.2)) ?_ (fun g hg => hblk g (hlt6 g hg).1)) ?_ (fun z hz => ?_) (fun g hg => ⟨.inl hg, by have h1 := HS.out g hg; have h2 := hb'.size; omega⟩) (fun g hg => by have h1 := hlt6 g hg; exact ⟨.inr (by omega), by omega⟩)
          · rw [List.flatMap_append, List.flatMap_cons]
            exact hown6
          · rw [List.length_append, List.length_cons, List.length_take, List.length_drop, hrl]
            omega
          · rcases List.mem_append.1 hz with hz | hz
            · exact (HR2.out z (List.mem_of_mem_take hz)).kept (fun g hg => hb'.block g (HS.out g hg)) (fun _ h => h)
            · rcases List.mem_cons.1 hz with rfl | hz
              · exact HX.out.kept (fun g hg => hb'.block g (HS.out g hg)) (fun _ h => h)
              · exact (HR2.out z (List.mem_of_mem_drop hz)).kept (fun g hg => hb'.block g (HS.out g hg)) (fun _ h => h)
        clear hown6 HT HD HL1 HL2 HO1 HO2 HM HSRC HA2 hsl1 hsl2 hB5 hBq hb6 HX HR1 HR2 HR3 HONE HP HPk HROW HC3
        have hle : w.heap.size ≤ w.heap.size + 1 + 1 := by omega
        go_wp2
        (try simp only [Exit.inBlock, Exit.then])
        have hBs := ((((((hBw.setCell (p := ⟨w.heap.size, 5, none⟩) (Nat.le_refl _) (.slice ar3 (t.kids.length + 1) cap3)).setCell (p := ⟨w.heap.size + 1 + 1, 0, none⟩) hle (.int .i64 t.kind)).setCell (p := ⟨w.heap.size + 1 + 1, 1, none⟩) hle (.string t.name)).setCell (p := ⟨w.heap.size + 1 + 1, 2, none⟩) hle (.int .i64 t.no)).setCell (p := ⟨w.heap.size + 1 + 1, 3, none⟩) hle (.bool t.must)).setCell (p := ⟨w.heap.size + 1 + 1, 4, none⟩) hle (.int .i64 t.most)).setCell (p := ⟨w.heap.size + 1 + 1, 5, none⟩) hle (.slice ar3 (t.kids.length + 1) cap3)
        refine bodyPost_ret (v := .agg #[.int .i64 t.kind, .string t.name, .int .i64 t.no, .bool t.must, .int .i64 t.most, .slice ar3 (t.kids.length + 1) cap3]) ?_ rfl ⟨ar3, cap3, rfl, ?_, ?_⟩
        · rw [results_cell1 rfl]
          go_simp
        · refine HK.out _ hBs (by simp) (fun g hg => ?_)
          rw [Below.heap_setCell _ _ _ _ (by show g ≠ w.heap.size + 1 + 1; omega), Below.heap_setCell _ _ _ _ (by show g ≠ w.heap.size + 1 + 1; omega), Below.heap_setCell _ _ _ _ (by show g ≠ w.heap.size + 1 + 1; omega), Below.heap_setCell _ _ _ _ (by show g ≠ w.heap.size + 1 + 1; omega), Below.heap_setCell _ _ _ _ (by show g ≠ w.heap.size + 1 + 1; omega), Below.heap_setCell _ _ _ _ (by show g ≠ w.heap.size + 1 + 1; omega), Below.heap_setCell _ _ _ _ (by show g ≠ w.heap.size; omega)]
        · exact hBs
      · have hk1' : ¬ (k : Int) < (t.kids.length : Int) := by omega
        have hk2' : decide ((k : Int) < (t.kids.length : Int)) = false := by simp; omega
        have t5r := t5
        clear hgo hall t5 hke
        go_upto_region 2 with fail
        go_quiet (fail)
        have hb3q : Below (w.heap.size + 3) W3 (wr.drewN nq) := below_drewN hbw
        have hBq : Hid (Below w.heap.size w (wr.drewN nq)) := below_drewN hBw
        have hs3 := HS3.out
        have hszw := hbw.size
        clear t0 t1 t2 t3 t4 t5r x0 x1 x2 x3 x4 x5
        obtain ⟨⟨⟨⟨t0, t1, t2, t3, t4, t5⟩, _⟩, _, _⟩, _, _⟩ := HC3.out _ hb3q
        go_wp2_with (at_builtin; refine wpList_append_may _ rfl _ _ 73 rfl (w.heap.size + 3) 75 i0 (.agg #[.int .i64 0, .string ⟨#[]⟩, .int .i64 0, .bool false, .int .i64 0, .slice none 0 0]) 6 72 Try.underlying73 hi hz0 hz1 hz2 rfl (by decide) _ 0 [] rfl (World.ownsRow_nil _ _ _ _) _ k _ ((rows.take k).flatMap fun x => trCells x.1 x.2) rfl HL1.out ?n1 HO1.out (by unfold maxLen; omega) (by omega) (by show w.heap.size + 3 ≤ wr.heap.size; omega) ?_)
        case n1 =>
          intro j u hu
          rw [← HT.out] at hu
          obtain ⟨g', o', h1, h2⟩ := HSRC.out _ 0 k hBq.out j u hu
          refine ⟨_, h1, ?_⟩
          rw [add_addr]
          simpa using h2
        intro ar1 cap1 w4 hown4 hgrow4 _
        have hb4 : Below (w.heap.size + 3) W3 w4 := hb3q.grown hgrow4 (by show w.heap.size + 3 ≤ wr.heap.size; omega) (fun k hk => by simp [Value.ownBlock] at hk)
        have hsz4 := hb4.size
        clear hgrow4 hb3q hbw hszw t0 t1 t2 t3 t4 t5 hBw hsw
        obtain ⟨⟨⟨⟨t0, t1, t2, t3, t4, t5⟩, _⟩, ⟨⟨x0, x1, x2, x3, x4, x5⟩, _⟩, _⟩, hBw, hsw⟩ := HC3.out _ hb4
        go_wp2_with (at_builtin; refine wpList_append_may _ rfl _ _ 73 rfl (w.heap.size + 3) 75 i0 (.agg #[.int .i64 0, .string ⟨#[]⟩, .int .i64 0, .bool false, .int .i64 0, .slice none 0 0]) 6 72 Try.underlying73 hi hz0 hz1 hz2 rfl (by decide) _ k _ rfl (hown4.alloc _) (some ⟨w4.heap.size, 0, none⟩) 1 1 [Value.int .i64 x.kind, .string x.name, .int .i64 x.no, .bool x.must, .int .i64 x.most, .slice ax lx cx] rfl rfl (fun j u hu => ⟨_, rfl, World.news_of_block (heap_alloc_new w4 _) j u hu⟩) one6 (by unfold maxLen; omega) (by omega) (by simp; omega) ?_)
        intro ar2 cap2 w5 hown5 hgrow5 _
        have hlt4 := hown4.lt
        have hb5 : Below (w.heap.size + 3) W3 w5 := (hb4.alloc (by omega) _).grown hgrow5 (by simp; omega) (fun k hk => (hlt4 k hk).1)
        have hsz5 := hb5.size
        clear hgrow5 hb4 hsz4 t0 t1 t2 t3 t4 t5 x0 x1 x2 x3 x4 x5 hBw hsw hown4 hlt4
        obtain ⟨⟨⟨⟨t0, t1, t2, t3, t4, t5⟩, ⟨_, _, _, _, _, tz⟩⟩, _, _⟩, hBw, hsw⟩ := HC3.out _ hb5
        have hB5 : Hid (Below w.heap.size w w5) := hBw
        go_wp2_with (at_builtin; refine wpList_append_may _ rfl _ _ 73 rfl (w.heap.size + 3) 75 i0 (.agg #[.int .i64 0, .string ⟨#[]⟩, .int .i64 0, .bool false, .int .i64 0, .slice none 0 0]) 6 72 Try.underlying73 hi hz0 hz1 hz2 rfl (by decide) _ (k + 1) _ rfl hown5 _ (t.kids.length - k) _ ((rows.drop k).flatMap fun x => trCells x.1 x.2) rfl HL2.out ?n3 HO2.out (by unfold maxLen; omega) (by omega) (by omega) ?_)
        case n3 =>
          intro j u hu
          have hu' := hu
          rw [← HD.out] at hu
          obtain ⟨g', o', h1, h2⟩ := HSRC.out _ k (t.kids.length - k) hB5.out j u hu
          have hkl' : k < t.kids.length := by
            have h3 := (List.getElem?_eq_some_iff.1 hu').1
            rw [HL2.out] at h3
            omega
          refine ⟨_, HA2.out g' o' h1 hkl', ?_⟩
          rw [add_addr]
          exact h2
        intro ar3 cap3 w6 hown6 hgrow6 _
        rw [show k + 1 + (t.kids.length - k) = t.kids.length + 1 by omega] at hown6 ⊢
        have hlt5 := hown5.lt
        have hb6 : Below (w.heap.size + 3) W3 w6 := hb5.grown hgrow6 (by omega) (fun k hk => (hlt5 k hk).1)
        have hsz6 := hb6.size
        clear hgrow6 hb5 hsz5 t0 t1 t2 t3 t4 t5 tz hBw hsw hown5 hlt5
        obtain ⟨⟨⟨⟨t0, t1, t2, t3, t4, t5⟩, ⟨_, _, _, _, _, tz⟩⟩, _, ⟨⟨y0, y1, y2, y3, y4, y5⟩, ⟨z0, z1, z2, z3, z4, z5⟩⟩⟩, hBw, hsw⟩ := HC3.out _ hb6
        have HK : Hid (∀ w' : World, Below w.heap.size w w' → w6.heap.size ≤ w'.heap.size → (∀ g, w.heap.size + 3 ≤ g → w'.heap[g]? = w6.heap[g]?) → KidsIn (d + 1) w' (fun g => (S g ∨ w.heap.size ≤ g) ∧ g < w'.heap.size) (.slice ar3 (t.kids.length + 1) cap3) PL) := fun w' hb' hs' hblk => by
          rw [HM.out]
          have hlt6 := hown6.lt
          refine kids_of_rows (S := fun g => S g) (B := w.heap.size + 3) (n := t.kids.length + 1) (own_keptB (xs := ((rows.take k ++ (x, Value.slice ax lx cx) :: rows.drop k).flatMap fun x => trCells x.1 x.2)) ?_ (fun g hg => hblk g (hlt6 g hg).1)) ?_ (fun z hz => ?_) (fun g hg => ⟨.inl hg, by have h1 := HS.out g hg; have h2 := hb'.size; omega⟩) (fun g hg => by have h1 := hlt6 g hg; exact ⟨.inr (by omega), by omega⟩)
          · rw [List.flatMap_append, List.flatMap_cons]
            exact hown6
          · rw [List.length_append, List.length_cons, List.length_take, List.length_drop, hrl]
            omega
          · rcases List.mem_append.1 hz with hz | hz
            · exact (HR2.out z (List.mem_of_mem_take hz)).kept (fun g hg => hb'.block g (HS.out g hg)) (fun _ h => h)
            · rcases List.mem_cons.1 hz with rfl | hz
              · exact HX.out.kept (fun g hg => hb'.block g (HS.out g hg)) (fun _ h => h)
              · exact (HR2.out z (List.mem_of_mem_drop hz)).kept (fun g hg => hb'.block g (HS.out g hg)) (fun _ h => h)
        clear hown6 HT HD HL1 HL2 HO1 HO2 HM HSRC HA2 hsl1 hsl2 hB5 hBq hb6 HX HR1 HR2 HR3 HONE HP HPk HROW HC3
        have hle : w.heap.size ≤ w.heap.size + 1 + 1 := by omega
        go_wp2
        (try simp only [Exit.inBlock, Exit.then])
        have hBs := ((((((hBw.setCell (p := ⟨w.heap.size, 5, none⟩) (Nat.le_refl _) (.slice ar3 (t.kids.length + 1) cap3)).setCell (p := ⟨w.heap.size + 1 + 1, 0, none⟩) hle (.int .i64 t.kind)).setCell (p := ⟨w.heap.size + 1 + 1, 1, none⟩) hle (.string t.name)).setCell (p := ⟨w.heap.size + 1 + 1, 2, none⟩) hle (.int .i64 t.no)).setCell (p := ⟨w.heap.size + 1 + 1, 3, none⟩) hle (.bool t.must)).setCell (p := ⟨w.heap.size + 1 + 1, 4, none⟩) hle (.int .i64 t.most)).setCell (p := ⟨w.heap.size + 1 + 1, 5, none⟩) hle (.slice ar3 (t.kids.length + 1) cap3)
        refine bodyPost_ret (v := .agg #[.int .i64 t.kind, .string t.name, .int .i64 t.no, .bool t.must, .int .i64 t.most, .slice ar3 (t.kids.length + 1) cap3]) ?_ rfl ⟨ar3, cap3, rfl, ?_, ?_⟩
        · rw [results_cell1 rfl]
          go_simp
        · refine HK.out _ hBs (by simp) (fun g hg => ?_)
          rw [Below.heap_setCell _ _ _ _ (by show g ≠ w.heap.size + 1 + 1; omega), Below.heap_setCell _ _ _ _ (by show g ≠ w.heap.size + 1 + 1; omega), Below.heap_setCell _ _ _ _ (by show g ≠ w.heap.size + 1 + 1; omega), Below.heap_setCell _ _ _ _ (by show g ≠ w.heap.size + 1 + 1; omega), Below.heap_setCell _ _ _ _ (by show g ≠ w.heap.size + 1 + 1; omega), Below.heap_setCell _ _ _ _ (by show g ≠ w.heap.size + 1 + 1; omega), Below.heap_setCell _ _ _ _ (by show g ≠ w.heap.size; omega)]
        · exact hBs

end Go.Proofs.Ytbkdpcfghaiimaa
