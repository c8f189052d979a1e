/- The law's own looks at schemas: how great they are, whether two are alike. The law's own copies of schemas. -/
import Derived.Test.YtpopjapcgcnnfaaGb
import Derived.Deep.RegionWith
import Derived.Laws.MakeOwn
import Derived.Laws.ResultCell
namespace Go.Proofs.Ytpopjapcgcnnfaa
open Go.RowKit Plain Sch

set_option maxRecDepth 100000 in
set_option maxHeartbeats 1000000 in
theorem szType_any (kind : Int) (name : ByteArray) (no : Int) (must : Bool) (up most left : Int) (w : World) (hn : name.size ≤ maxLen) (h0 : 0 ≤ left) (h1 : left ≤ 1048576) :
    Calls Try.prog 105 #[.agg #[.int .i64 kind, .string name, .int .i64 no, .bool must, .int .i64 up, .int .i64 most], .int .i64 left] w fun e w' => (∃ r : Int, e = .returned (.int .i64 r) ∧ -1 ≤ r ∧ r ≤ left ∧ (0 ≤ r → (name.size : Int) ≤ left)) ∧ Below w.heap.size w w' := by
  unfold maxLen at hn
  by_cases hlt : left - (name.size : Int) < 0
  · go_enter Try.func105, Try.ntmps105
    go_wp2
    go_ret
    exact ⟨⟨-1, rfl, by omega, by omega, fun h => by omega⟩, (Below.refl _ w).alloc (Nat.le_refl _) _⟩
  · go_enter Try.func105, Try.ntmps105
    go_wp2
    go_ret
    exact ⟨⟨left - (name.size : Int), rfl, by omega, by omega, fun h => by omega⟩, (Below.refl _ w).alloc (Nat.le_refl _) _⟩

set_option maxRecDepth 100000 in
set_option maxHeartbeats 4000000 in
theorem szTypeS_left (T : List Ty) (v : Value) (L : Int) (w : World) (hT : TysAt w w.heap.size v T) (hL0 : 0 ≤ L) (hL1 : L ≤ 1048576) :
    Calls Try.prog 70 #[v, .int .i64 L] w fun e w' => (∃ r : Int, e = .returned (.int .i64 r) ∧ -1 ≤ r ∧ r ≤ 1048576 ∧ (0 ≤ r → T.length ≤ 1048576 ∧ ∀ i, i < T.length → (ty T i).name.size ≤ 1048576)) ∧ Below w.heap.size w w' := by
  by_cases hbig : L < (T.length : Int)
  · obtain ⟨ao, cap, rfl, hlc, hcm, _⟩ := hT
    unfold maxLen at hcm
    have hlt : L - (T.length : Int) < 0 := by omega
    have hge : (-9223372036854775808 : Int) ≤ L - (T.length : Int) := by omega
    go_enter Try.func70, Try.ntmps70
    go_wp2
    go_ret
    exact ⟨⟨-1, rfl, by omega, by omega, fun h => by omega⟩, Below.refl _ _⟩
  · have hlen : T.length ≤ 1048576 := by omega
    have hlen' : (T.length : Int) ≤ 1048576 := by omega
    have hge : ¬ (L - (T.length : Int) < 0) := by omega
    have HT : Hid (TysAt w w.heap.size v T) := hT
    obtain ⟨ao, cap, rfl, hlc, hcm, hrow, hnm⟩ := hT
    have HNM : Hid (∀ i, i < T.length → (ty T i).name.size ≤ maxLen) := hnm
    have HROW : Hid (∀ i, i < T.length → ∃ g o, ao = some ⟨g, o, none⟩ ∧ g < w.heap.size ∧ TyIn w g (o + i * 6) (ty T i)) := hrow
    clear hrow hnm hbig
    go_enter Try.func70, Try.ntmps70
    go_wp2
    go_loopw [1, 5] (fun vl vi wr => ∃ (i : Nat) (left : Int), i ≤ T.length ∧ vi = .int .i64 (i : Int) ∧ vl = .int .i64 left ∧ 0 ≤ left ∧ left ≤ 1048576 ∧ Hid (∀ j, j < i → (ty T j).name.size ≤ 1048576) ∧ Below w.heap.size w wr)
      (fun _ vi _ => T.length - (intOf vi).toNat)
    case atStart => exact ⟨0, L - (T.length : Int), by omega, rfl, rfl, by omega, by omega, fun j hj => by omega, Below.refl _ _⟩
    case round =>
      obtain ⟨i, left, hi, rfl, rfl, hl0, hl1, hall, hbw⟩ := hrel
      by_cases hlt : i < T.length
      · have hlt' : (i : Int) < (T.length : Int) := by omega
        obtain ⟨g, o, rfl, hg, hty⟩ := HROW.out i hlt
        have hci := hty.below hbw hg
        have hni := HNM.out i hlt
        obtain ⟨ti, hti⟩ : ∃ t, ty T i = t := ⟨_, rfl⟩
        have HTI : Hid (ty T i = ti) := hti
        rw [hti] at hci hni
        clear hti hty
        obtain ⟨kind, name, no, must, up, most⟩ := ti
        obtain ⟨c0, c1, c2, c3, c4, c5⟩ := hci
        dsimp only at c0 c1 c2 c3 c4 c5 hni
        go_wp2_with fail
        refine (szType_any kind name no must up most left _ hni hl0 hl1).mono ?_
        rintro e w2 ⟨⟨r, rfl, hr0, hr1, hr2⟩, hb2⟩
        have hbw2 : Below w.heap.size w w2 := hbw.trans (hb2.mono hbw.size)
        by_cases hneg : r < 0
        · clear hr2
          go_wp2
          go_ret
          exact ⟨⟨-1, rfl, by omega, by omega, fun h => by omega⟩, hbw2⟩
        · have hnn : (name.size : Int) ≤ left := hr2 (by omega)
          have hall2 : Hid (∀ j, j < i + 1 → (ty T j).name.size ≤ 1048576) := fun j hj => by
            by_cases hji : j = i
            · rw [hji, HTI.out]; show name.size ≤ _; omega
            · exact hall.out j (by omega)
          clear hr2
          go_wp2
          go_roundw
          case rel => exact ⟨i + 1, r, by omega, by go_num, rfl, by omega, by omega, hall2, hbw2⟩
          case measure => simp [intOf]; omega
      · have hke : i = T.length := by omega
        subst hke
        have hge2 : ¬ ((T.length : Int) < (T.length : Int)) := by omega
        go_wp2
        go_ret
        exact ⟨⟨left, rfl, by omega, by omega, fun _ => by first | exact ⟨hlen, hall.out⟩ | exact hall.out⟩, hbw⟩

set_option maxRecDepth 100000 in
set_option maxHeartbeats 1000000 in
theorem szSchema_left (T : List Ty) (v : Value) (L : Int) (w : World) (hT : TysAt w w.heap.size v T) (hL0 : 0 ≤ L) (hL1 : L ≤ 1048576) :
    Calls Try.prog 32 #[.agg #[v], .int .i64 L] w fun e w' => (∃ r : Int, e = .returned (.int .i64 r) ∧ -1 ≤ r ∧ r ≤ 1048576 ∧ (0 ≤ r → T.length ≤ 1048576 ∧ ∀ i, i < T.length → (ty T i).name.size ≤ 1048576)) ∧ Below w.heap.size w w' := by
  have hB1 : ∀ o, Below w.heap.size w (w.alloc o) := fun o => (Below.refl _ w).alloc (Nat.le_refl _) o
  have HT : Hid (TysAt w w.heap.size v T) := hT
  obtain ⟨ao, cap, rfl, _⟩ := hT
  go_enter Try.func32, Try.ntmps32
  go_wp2_with fail
  refine (szTypeS_left T _ L _ (HT.out.below (hB1 _)) hL0 hL1).mono ?_
  rintro e w2 ⟨⟨r, rfl, hr0, hr1, hr2⟩, hb2⟩
  have hB2 : Below w.heap.size w w2 := (hB1 _).trans (hb2.mono (by simp))
  by_cases hneg : r < 0
  · clear hr2
    go_wp2
    go_ret
    exact ⟨⟨-1, rfl, by omega, by omega, fun h => by omega⟩, hB2⟩
  · have HR2 : Hid (0 ≤ r → T.length ≤ 1048576 ∧ ∀ i, i < T.length → (ty T i).name.size ≤ 1048576) := hr2
    clear hr2
    go_wp2
    go_ret
    exact ⟨⟨r, rfl, by omega, by omega, HR2.out⟩, hB2⟩

theorem szSchema_any (T : List Ty) (v : Value) (w : World) (hT : TysAt w w.heap.size v T) :
    Calls Try.prog 32 #[.agg #[v], .int .i64 1048576] w fun e w' => (∃ r : Int, e = .returned (.int .i64 r) ∧ -1 ≤ r ∧ r ≤ 1048576 ∧ (0 ≤ r → T.length ≤ 1048576 ∧ ∀ i, i < T.length → (ty T i).name.size ≤ 1048576)) ∧ Below w.heap.size w w' :=
  szSchema_left T v 1048576 w hT (by omega) (by omega)

set_option maxRecDepth 100000 in
set_option maxHeartbeats 1000000 in
theorem eqType_same (kind : Int) (name : ByteArray) (no : Int) (must : Bool) (up most : Int) (w : World) :
    Calls Try.prog 123 #[.agg #[.int .i64 kind, .string name, .int .i64 no, .bool must, .int .i64 up, .int .i64 most], .agg #[.int .i64 kind, .string name, .int .i64 no, .bool must, .int .i64 up, .int .i64 most]] w fun e w' => e = .returned (.bool true) ∧ Below w.heap.size w w' := by
  go_enter Try.func123, Try.ntmps123
  go_wp2
  go_ret
  exact ⟨rfl, by repeat' (first | exact Below.refl _ _ | refine Below.alloc ?_ (by simp) _)⟩

set_option maxRecDepth 100000 in
set_option maxHeartbeats 4000000 in
theorem eqTypeS_same (T : List Ty) (v1 v2 : Value) (w : World) (h1 : TysAt w w.heap.size v1 T) (h2 : TysAt w w.heap.size v2 T) (hl : T.length ≤ 2097152) :
    Calls Try.prog 80 #[v1, v2] w fun e w' => e = .returned (.bool true) ∧ Below w.heap.size w w' := by
  obtain ⟨ao, cap, rfl, _, hmax, hrow, _⟩ := h1
  obtain ⟨ao2, cap2, rfl, _, _, hrow2, _⟩ := h2
  have HROW : Hid (∀ i, i < T.length → ∃ g o, ao = some ⟨g, o, none⟩ ∧ g < w.heap.size ∧ TyIn w g (o + i * 6) (ty T i)) := hrow
  have HROW2 : Hid (∀ i, i < T.length → ∃ g o, ao2 = some ⟨g, o, none⟩ ∧ g < w.heap.size ∧ TyIn w g (o + i * 6) (ty T i)) := hrow2
  clear hrow hrow2
  go_enter Try.func80, Try.ntmps80
  go_wp2
  go_loopw [5] (fun vi wr => ∃ k : Nat, k ≤ T.length ∧ vi = .int .i64 (k : Int) ∧ Below w.heap.size w wr)
    (fun vi _ => T.length - (intOf vi).toNat)
  case atStart => exact ⟨0, by omega, rfl, Below.refl _ _⟩
  case round =>
    obtain ⟨k, hk, rfl, hbw⟩ := hrel
    by_cases hlt : k < T.length
    · obtain ⟨g, o, rfl, hgB, hy1⟩ := HROW.out k hlt
      obtain ⟨g2, o2, rfl, hgB2, hy2⟩ := HROW2.out k hlt
      have e1 := hy1.below hbw hgB
      have e2 := hy2.below hbw hgB2
      clear hy1 hy2
      obtain ⟨ti, hti⟩ : ∃ t, ty T k = t := ⟨_, rfl⟩
      rw [hti] at e1 e2
      clear hti
      obtain ⟨kind, name, no, must, up, most⟩ := ti
      obtain ⟨c0, c1, c2, c3, c4, c5⟩ := e1
      obtain ⟨x0, x1, x2, x3, x4, x5⟩ := e2
      dsimp only at c0 c1 c2 c3 c4 c5 x0 x1 x2 x3 x4 x5
      have hlt' : (k : Int) < (T.length : Int) := by omega
      have C2 : Hid (∀ w : World, Calls Try.prog 123 #[.agg #[.int .i64 kind, .string name, .int .i64 no, .bool must, .int .i64 up, .int .i64 most], .agg #[.int .i64 kind, .string name, .int .i64 no, .bool must, .int .i64 up, .int .i64 most]] w fun e w' => e = .returned (.bool true) ∧ Below w.heap.size w w') := fun w => eqType_same kind name no must up most w
      go_wp2_with fail
      go_region_with (go_at_call 123; refine (C2.out _).mono ?_; rintro e w2 ⟨rfl, hb2⟩; have hbw2 : Below w.heap.size w w2 := hbw.drew.trans (hb2.mono hbw.size))
      all_goals
        go_wp2
        go_roundw
        case rel => exact ⟨k + 1, by omega, by go_num, hbw2⟩
        case measure => simp [intOf]; omega
    · have hke : k = T.length := by omega
      subst hke
      have hge : ¬ ((T.length : Int) < (T.length : Int)) := by omega
      go_wp2
      go_ret
      exact ⟨rfl, hbw⟩

set_option maxRecDepth 100000 in
set_option maxHeartbeats 1000000 in
theorem eqSchema_same (T : List Ty) (v1 v2 : Value) (w : World) (h1 : TysAt w w.heap.size v1 T) (h2 : TysAt w w.heap.size v2 T) (hl : T.length ≤ 2097152) :
    Calls Try.prog 36 #[.agg #[v1], .agg #[v2]] w fun e w' => e = .returned (.bool true) ∧ Below w.heap.size w w' := by
  have H1 : Hid (TysAt w w.heap.size v1 T) := h1
  have H2 : Hid (TysAt w w.heap.size v2 T) := h2
  obtain ⟨ao, cap, rfl, _⟩ := h1
  obtain ⟨ao2, cap2, rfl, _⟩ := h2
  have hB1 : ∀ o1 o2, Below w.heap.size w ((w.alloc o1).alloc o2) := fun o1 o2 => ((Below.refl _ w).alloc (Nat.le_refl _) o1).alloc (by simp) o2
  go_enter Try.func36, Try.ntmps36
  go_wp2_with fail
  refine (eqTypeS_same T _ _ _ (H1.out.below (hB1 _ _)) (H2.out.below (hB1 _ _)) hl).mono ?_
  rintro e w2 ⟨rfl, hb2⟩
  go_wp2
  go_ret
  exact ⟨rfl, (hB1 _ _).trans (hb2.mono (by simp; omega))⟩

end Go.Proofs.Ytpopjapcgcnnfaa

namespace Go.Proofs.Ytpopjapcgcnnfaa
open Go.RowKit Plain Sch

theorem Try.infoTy : (Try.prog.info? 157).map (fun i => (i.zero, i.size, i.bytes)) = some (some (.agg #[.int .i64 0, .string ⟨#[]⟩, .int .i64 0, .bool false, .int .i64 0, .int .i64 0]), 6, 56) := by kernel_rfl

theorem flat6T (l : List Ty) (i j : Nat) (h : i < l.length) (hj : j < 6) : (l.flatMap Ty.cells)[i * 6 + j]? = (ty l i).cells[j]? := by
  induction l generalizing i with
  | nil => simp at h
  | cons a l ih =>
    rw [List.flatMap_cons]
    have ha : a.cells.length = 6 := rfl
    cases i with
    | zero =>
      rw [Nat.zero_mul, Nat.zero_add, List.getElem?_append_left (by omega)]
      rfl
    | succ i =>
      rw [List.getElem?_append_right (by omega)]
      have := ih i (by simpa using h)
      have e : ty (a :: l) (i + 1) = ty l i := by simp [ty]
      rw [e, ← this]
      congr 1
      omega

theorem flat6T_len (l : List Ty) : (l.flatMap Ty.cells).length = l.length * 6 := by
  induction l with
  | nil => rfl
  | cons a l ih => rw [List.flatMap_cons, List.length_append, ih, List.length_cons]; have : a.cells.length = 6 := rfl; omega

theorem ys_eq (l : List Ty) (ys : List Value) (hl : ys.length = l.length * 6) (h : ∀ i, i < l.length → ∀ j, j < 6 → ys[i * 6 + j]? = (ty l i).cells[j]?) : ys = l.flatMap Ty.cells := by
  apply List.ext_getElem?
  intro k
  by_cases hk : k < l.length * 6
  · have e : k = k / 6 * 6 + k % 6 := by omega
    rw [e, h (k / 6) (by omega) (k % 6) (by omega), flat6T l (k / 6) (k % 6) (by omega) (by omega)]
  · rw [List.getElem?_eq_none (by omega), List.getElem?_eq_none (by rw [flat6T_len]; omega)]

theorem TysAt.own {w : World} {B : Nat} {v : Value} {T : List Ty} (h : w.ownsRow B 157 6 v T.length (T.flatMap Ty.cells)) (hn : ∀ i, i < T.length → (ty T i).name.size ≤ maxLen) : TysAt w w.heap.size v T := by
  have h0 := h
  obtain ⟨_, ⟨rfl, hn0⟩ | ⟨g, cap, cur, rfl, hB, hb, hnc, hcm, _⟩⟩ := h
  · exact ⟨none, 0, by rw [hn0], by omega, by unfold maxLen; omega, fun i hi => by omega, hn⟩
  · refine ⟨some ⟨g, 0, none⟩, cap, rfl, hnc, hcm, fun i hi => ⟨g, 0, rfl, (h0.lt g rfl).2, ?_⟩, hn⟩
    have c : ∀ j, j < 6 → w.cell? ⟨g, 0 + i * 6 + j, none⟩ = (ty T i).cells[j]? := fun j hj => by
      rw [Nat.zero_add, h0.cellAt (i * 6 + j) (by omega)]
      exact flat6T T i j hi hj
    exact ⟨c 0 (by omega), c 1 (by omega), c 2 (by omega), c 3 (by omega), c 4 (by omega), c 5 (by omega)⟩

theorem own_belowT {w w' : World} {B e size n : Nat} {v : Value} {xs : List Value} (h : w.ownsRow B e size v n xs) (hb : Below w.heap.size w w') : w'.ownsRow B e size v n xs := by
  refine ⟨h.1, ?_⟩
  rcases h.2 with hn | ⟨g, cap, cur, hv, hg, hgg, rest⟩
  · exact .inl hn
  · exact .inr ⟨g, cap, cur, hv, hg, (hb.block g (Array.getElem?_eq_some_iff.1 hgg).1).trans hgg, rest⟩

set_option maxRecDepth 100000 in
set_option maxHeartbeats 1000000 in
theorem toType_any (kind : Int) (name : ByteArray) (no : Int) (must : Bool) (up most : Int) (w : World) :
    Calls Try.prog 109 #[.agg #[.int .i64 kind, .string name, .int .i64 no, .bool must, .int .i64 up, .int .i64 most]] w fun e w' => e = .returned (.agg #[.int .i64 kind, .string name, .int .i64 no, .bool must, .int .i64 up, .int .i64 most]) ∧ Below w.heap.size w w' := by
  go_enter Try.func109, Try.ntmps109
  go_wp2
  (try simp only [Exit.inBlock, Exit.then])
  refine bodyPost_ret (v := .agg #[.int .i64 kind, .string name, .int .i64 no, .bool must, .int .i64 up, .int .i64 most]) ?_ rfl ⟨rfl, ?_⟩
  · have rc : ∀ (tmps : Array Value) (P : Program) (w : World), (results Try.f109 tmps).run P w = ((asAddr (tmps.getD 2 undef)).run P w).andThen fun a w₁ => (loadVar 157 a).run P w₁ := fun tmps P w => by
      have h : Try.f109.results = #[.cell 2 157] := rfl
      simp only [results, h]
      simp [Sem.run_bind, Result.andThen]
    rw [rc]
    go_simp
  · repeat' (first | exact Below.refl _ _ | refine Below.alloc ?_ (by simp <;> omega) _ | refine Below.setCell ?_ (by simp <;> omega) _)

theorem set6_eq (ys : List Value) (T : List Ty) (i : Nat) (t : Ty) (hl : ys.length = T.length * 6) (hi : i < T.length) (ht : ty T i = t) (hm : ∀ m, m < i → ∀ j, j < 6 → ys[m * 6 + j]? = (ty T m).cells[j]?) : ∀ m, m < i + 1 → ∀ j, j < 6 →
    ((((((ys.set (i * 6) (.int .i64 t.kind)).set (i * 6 + 1) (.string t.name)).set (i * 6 + 2) (.int .i64 t.no)).set (i * 6 + 3) (.bool t.must)).set (i * 6 + 4) (.int .i64 t.up)).set (i * 6 + 5) (.int .i64 t.most))[m * 6 + j]? = (ty T m).cells[j]? := by
  intro m hmi j hj
  simp only [List.getElem?_set, List.length_set]
  by_cases hme : m = i
  · subst hme
    rw [ht]
    match j, hj with
    | 0, _ => simp [Ty.cells]; omega
    | 1, _ => simp [Ty.cells]; omega
    | 2, _ => simp [Ty.cells]; omega
    | 3, _ => simp [Ty.cells]; omega
    | 4, _ => simp [Ty.cells]; omega
    | 5, _ => simp [Ty.cells]; omega
  · rw [if_neg (by omega), if_neg (by omega), if_neg (by omega), if_neg (by omega), if_neg (by omega), if_neg (by omega)]
    exact hm m (by omega) j hj

set_option maxRecDepth 100000 in
set_option maxHeartbeats 4000000 in
theorem toTypeS_any (T : List Ty) (v : Value) (w : World) (hT : TysAt w w.heap.size v T) (hl : T.length ≤ 1048576) :
    Calls Try.prog 75 #[v] w fun e w' => ∃ r, e = .returned r ∧ w'.ownsRow w.heap.size 157 6 r T.length (T.flatMap Ty.cells) ∧ Below w.heap.size w w' := by
  obtain ⟨i0, hi, hz0, hz1, hz2⟩ := info_parts Try.infoTy
  obtain ⟨ao, cap, rfl, _, hmax, hrow, _⟩ := hT
  have HROW : Hid (∀ i, i < T.length → ∃ g o, ao = some ⟨g, o, none⟩ ∧ g < w.heap.size ∧ TyIn w g (o + i * 6) (ty T i)) := hrow
  clear hrow
  obtain ⟨M, hM⟩ : ∃ M, M = madeCells (Value.agg #[.int .i64 0, .string ⟨#[]⟩, .int .i64 0, .bool false, .int .i64 0, .int .i64 0]).cells (((T.length : Nat) : Int).toNat * i0.size) := ⟨_, rfl⟩
  have hMs : M.size = T.length * 6 := by rw [hM, size_madeCells, hz1]; simp
  have hmk : ∀ W : World, (Instr.makeSlice 57 (.int .i64 (T.length : Int)) (.int .i64 (T.length : Int))).run Try.prog W = .ok (.slice (some ⟨W.heap.size, 0, none⟩) T.length T.length) (W.alloc (.cells M 157)) := fun W => by
    have h := run_make (P := Try.prog) W 57 157 i0 (.agg #[.int .i64 0, .string ⟨#[]⟩, .int .i64 0, .bool false, .int .i64 0, .int .i64 0]) Try.underlying57 hi hz0 .i64 .i64 (T.length : Int) (T.length : Int) (by omega) (by omega) (by rw [hz2]; omega) (by omega)
    rw [← hM] at h
    simpa using h
  have hown0 : (w.alloc (.cells M 157)).ownsRow w.heap.size 157 6 (.slice (some ⟨w.heap.size, 0, none⟩) T.length T.length) T.length M.toList :=
    ⟨by simp [hMs], .inr ⟨w.heap.size, T.length, M, rfl, Nat.le_refl _, heap_alloc_new w _, Nat.le_refl _, by unfold maxLen; omega, hMs, by rw [List.take_of_length_le (by simp [hMs])]⟩⟩
  clear hM
  go_enter Try.func75, Try.ntmps75
  go_wp2
  go_loopw [4] (fun vi wr => ∃ (i : Nat) (ys : List Value), i ≤ T.length ∧ vi = .int .i64 (i : Int) ∧ wr.ownsRow w.heap.size 157 6 (.slice (some ⟨w.heap.size, 0, none⟩) T.length T.length) T.length ys ∧ Hid (∀ m, m < i → ∀ j, j < 6 → ys[m * 6 + j]? = (ty T m).cells[j]?) ∧ Below w.heap.size w wr)
    (fun vi _ => T.length - (intOf vi).toNat)
  case atStart => exact ⟨0, M.toList, by omega, rfl, hown0, fun m hm => by omega, (Below.refl _ w).alloc (Nat.le_refl _) _⟩
  case round =>
    obtain ⟨i, ys, hil, rfl, hown, hys, hbw⟩ := hrel
    clear hown0 hmk
    have hyl : ys.length = T.length * 6 := hown.1
    by_cases hlt : i < T.length
    · have hlt' : (i : Int) < (T.length : Int) := by omega
      obtain ⟨g, o, rfl, hg, hty⟩ := HROW.out i hlt
      have hci := hty.below hbw hg
      have hsz : w.heap.size < wr.heap.size := (hown.lt w.heap.size rfl).2
      obtain ⟨ti, hti⟩ : ∃ t, ty T i = t := ⟨_, rfl⟩
      have HTI : Hid (ty T i = ti) := hti
      rw [hti] at hci
      clear hti hty
      obtain ⟨kind, name, no, must, up, most⟩ := ti
      obtain ⟨c0, c1, c2, c3, c4, c5⟩ := hci
      dsimp only at c0 c1 c2 c3 c4 c5
      go_wp2_with fail
      refine (toType_any kind name no must up most _).mono ?_
      rintro e w2 ⟨rfl, hb2⟩
      have how2 := own_belowT hown hb2
      have hbw2 : Below w.heap.size w w2 := hbw.trans (hb2.mono hbw.size)
      have how8 := ((((((how2.stored (i * 6) (.int .i64 kind)).1.stored (i * 6 + 1) (.string name)).1.stored (i * 6 + 2) (.int .i64 no)).1.stored (i * 6 + 3) (.bool must)).1.stored (i * 6 + 4) (.int .i64 up)).1.stored (i * 6 + 5) (.int .i64 most)).1
      have HS : Hid (∀ m, m < i + 1 → ∀ j, j < 6 → ((((((ys.set (i * 6) (.int .i64 kind)).set (i * 6 + 1) (.string name)).set (i * 6 + 2) (.int .i64 no)).set (i * 6 + 3) (.bool must)).set (i * 6 + 4) (.int .i64 up)).set (i * 6 + 5) (.int .i64 most))[m * 6 + j]? = (ty T m).cells[j]?) := set6_eq ys T i ⟨kind, name, no, must, up, most⟩ hyl hlt HTI.out hys.out
      have q : ∀ j, j < 6 → ∃ u, w2.cell? ⟨w.heap.size, i * 6 + j, none⟩ = some u := fun j hj => by
        have := how2.cellAt (i * 6 + j) (by omega)
        rw [List.getElem?_eq_getElem (by omega)] at this
        exact ⟨_, this⟩
      obtain ⟨u0, q0⟩ := q 0 (by omega)
      obtain ⟨u1, q1⟩ := q 1 (by omega)
      obtain ⟨u2, q2⟩ := q 2 (by omega)
      obtain ⟨u3, q3⟩ := q 3 (by omega)
      obtain ⟨u4, q4⟩ := q 4 (by omega)
      obtain ⟨u5, q5⟩ := q 5 (by omega)
      rw [Nat.add_zero] at q0
      have z0 := how2.frozenAt (i * 6)
      have z1 := how2.frozenAt (i * 6 + 1)
      have z2 := how2.frozenAt (i * 6 + 2)
      have z3 := how2.frozenAt (i * 6 + 3)
      have z4 := how2.frozenAt (i * 6 + 4)
      have z5 := how2.frozenAt (i * 6 + 5)
      generalize (((((ys.set (i * 6) (Value.int .i64 kind)).set (i * 6 + 1) (.string name)).set (i * 6 + 2) (.int .i64 no)).set (i * 6 + 3) (.bool must)).set (i * 6 + 4) (.int .i64 up)).set (i * 6 + 5) (.int .i64 most) = zs at how8 HS
      clear how2 hown hb2 hbw q hys c0 c1 c2 c3 c4 c5
      go_wp2
      go_roundw
      case rel => exact ⟨i + 1, zs, by omega, by go_num, how8, HS, (((((hbw2.setCell (Nat.le_refl _) _).setCell (Nat.le_refl _) _).setCell (Nat.le_refl _) _).setCell (Nat.le_refl _) _).setCell (Nat.le_refl _) _).setCell (Nat.le_refl _) _⟩
      case measure => simp [intOf]; omega
    · have hke : i = T.length := by omega
      subst hke
      have hge : ¬ ((T.length : Int) < (T.length : Int)) := by omega
      have hE : Hid (ys = T.flatMap Ty.cells) := ys_eq T ys hyl hys.out
      clear hys
      go_wp2
      go_ret
      exact ⟨_, rfl, by rw [← hE.out]; exact hown, hbw⟩

set_option maxRecDepth 100000 in
set_option maxHeartbeats 1000000 in
theorem toSchema_any (T : List Ty) (v : Value) (w : World) (hT : TysAt w w.heap.size v T) (hl : T.length ≤ 1048576) :
    Calls Try.prog 34 #[.agg #[v]] w fun e w' => ∃ r, e = .returned (.agg #[r]) ∧ w'.ownsRow w.heap.size 157 6 r T.length (T.flatMap Ty.cells) ∧ Below w.heap.size w w' := by
  have HT : Hid (TysAt w w.heap.size v T) := hT
  obtain ⟨ao, cap, rfl, _⟩ := hT
  obtain ⟨W3, hW3⟩ : ∃ W, W = ((w.alloc (.cells #[.slice ao T.length cap] 53)).alloc (.cells #[.slice none 0 0] 59)).alloc (.cells #[.slice none 0 0] 59) := ⟨_, rfl⟩
  have hB3 : Below w.heap.size w W3 := by rw [hW3]; exact (((Below.refl _ w).alloc (Nat.le_refl _) _).alloc (by simp) _).alloc (by simp; omega) _
  have hs3 : W3.heap.size = w.heap.size + 3 := by rw [hW3]; simp
  have x1 : W3.cell? ⟨w.heap.size + 1, 0, none⟩ = some (.slice none 0 0) := by rw [hW3]; go_simp
  have x2 : W3.cell? ⟨w.heap.size + 1 + 1, 0, none⟩ = some (.slice none 0 0) := by rw [hW3]; go_simp
  have f1 : W3.frozen? ⟨w.heap.size + 1, 0, none⟩ = false := by rw [hW3]; go_simp
  have f2 : W3.frozen? ⟨w.heap.size + 1 + 1, 0, none⟩ = false := by rw [hW3]; go_simp
  go_enter Try.func34, Try.ntmps34
  go_wp2_with fail
  rw [← hW3]
  clear hW3
  refine (toTypeS_any T _ W3 (HT.out.below hB3) hl).mono ?_
  rintro e w4 ⟨r, rfl, hr, hb4⟩
  have hs4 := hb4.size
  have hB4 : Below w.heap.size w w4 := hB3.trans (hb4.mono hB3.size)
  have x1 := (hb4.cell (p := ⟨w.heap.size + 1, 0, none⟩) (by show w.heap.size + 1 < _; omega)).trans x1
  have x2 := (hb4.cell (p := ⟨w.heap.size + 1 + 1, 0, none⟩) (by show w.heap.size + 1 + 1 < _; omega)).trans x2
  have f1 := (hb4.frozen (p := ⟨w.heap.size + 1, 0, none⟩) (by show w.heap.size + 1 < _; omega)).trans f1
  have f2 := (hb4.frozen (p := ⟨w.heap.size + 1 + 1, 0, none⟩) (by show w.heap.size + 1 + 1 < _; omega)).trans f2
  have HO : Hid (w4.ownsRow W3.heap.size 157 6 r T.length (T.flatMap Ty.cells)) := hr
  obtain ⟨ar, capr, hrv⟩ : ∃ ao cap, r = Value.slice ao T.length cap := by
    rcases hr.2 with ⟨rfl, h0⟩ | ⟨g, cap, _, rfl, _⟩
    · exact ⟨none, 0, by rw [h0]⟩
    · exact ⟨_, _, rfl⟩
  subst hrv
  clear hr hb4
  go_wp2
  (try simp only [Exit.inBlock, Exit.then])
  refine bodyPost_ret (v := .agg #[.slice ar T.length capr]) ?_ rfl ⟨_, rfl, ?_, ?_⟩
  · have rc : ∀ (tmps : Array Value) (P : Program) (w : World), (results Try.f34 tmps).run P w = ((asAddr (tmps.getD 2 undef)).run P w).andThen fun a w₁ => (loadVar 59 a).run P w₁ := fun tmps P w => by
      have h : Try.f34.results = #[.cell 2 59] := rfl
      simp only [results, h]
      simp [Sem.run_bind, Result.andThen]
    rw [rc]
    go_simp
  · have h1 := ownsRow_setCell_below (ownsRow_setCell_below HO.out (a := ⟨w.heap.size + 1 + 1, 0, none⟩) (by show w.heap.size + 1 + 1 < _; omega) (.slice ar T.length capr)) (a := ⟨w.heap.size + 1, 0, none⟩) (by show w.heap.size + 1 < _; omega) (.slice ar T.length capr)
    refine ⟨h1.1, ?_⟩
    rcases h1.2 with h | ⟨g', cap', cur, h1, h2, h3⟩
    · exact .inl h
    · exact .inr ⟨g', cap', cur, h1, by omega, h3⟩
  · repeat' (first | exact hB4 | refine Below.setCell ?_ (by simp <;> omega) _)

end Go.Proofs.Ytpopjapcgcnnfaa
