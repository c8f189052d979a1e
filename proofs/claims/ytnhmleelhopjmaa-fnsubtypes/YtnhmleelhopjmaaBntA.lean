/- The schemas that the model draws: bent. -/
import Derived.Test.YtnhmleelhopjmaaGu
import Derived.BigRegion
namespace Go.Proofs.Ytnhmleelhopjmaa
open Go.RowKit Plain Sch
attribute [local go_sem ↓] Go.wp_at_zero Go.wp_at_succ

/-- every type but the first hangs on an earlier one -/
def UpOk (L : List Ty) : Prop := ∀ i, 0 < i → i < L.length → ∃ u : Nat, (ty L i).up = (u : Int) ∧ u < i

theorem UpOk.of {L : List Ty} (h : Ups L) : UpOk L := fun i h0 hi => by
  have := h.2 i h0 hi
  exact ⟨(ty L i).up.toNat, by omega, by omega⟩

theorem ty_set (L : List Ty) (k i : Nat) (t : Ty) (hk : k < L.length) : ty (L.set k t) i = if i = k then t else ty L i := by
  unfold ty
  rw [List.getD, List.getD, List.getElem?_set]
  by_cases h : k = i
  · subst h; simp [hk]
  · rw [if_neg h, if_neg (fun e => h e.symm)]

theorem UpOk.set {L : List Ty} (h : UpOk L) (k : Nat) (t : Ty) (hk : k < L.length) (ht : t.up = (ty L k).up) : UpOk (L.set k t) := fun i h0 hi => by
  rw [List.length_set] at hi
  rw [ty_set L k i t hk]
  by_cases he : i = k
  · subst he
    rw [if_pos rfl, ht]
    exact h i h0 hi
  · rw [if_neg he]
    exact h i h0 hi

theorem ty_take (L : List Ty) (k i : Nat) (hi : i < k) : ty (L.take k) i = ty L i := by
  unfold ty
  rw [List.getD, List.getD, List.getElem?_take, if_pos hi]

theorem UpOk.take {L : List Ty} (h : UpOk L) (k : Nat) : UpOk (L.take k) := fun i h0 hi => by
  rw [List.length_take] at hi
  rw [ty_take L k i (by omega)]
  exact h i h0 (by omega)

theorem take6 : ∀ (L : List Ty) (k : Nat), (L.flatMap Ty.cells).take (k * 6) = (L.take k).flatMap Ty.cells
  | [], k => by simp
  | x :: L, 0 => by simp
  | x :: L, k + 1 => by
    rw [List.flatMap_cons, List.take_succ_cons, List.flatMap_cons, ← take6 L k, Nat.succ_mul, Nat.add_comm, List.take_append, List.take_of_length_le (by show 6 ≤ _; omega)]
    congr 2
    show 6 + k * 6 - 6 = _
    omega

theorem TyRow.short {w : World} {B g cap : Nat} {L : List Ty} (h : TyRow w B (.slice (some ⟨g, 0, none⟩) L.length cap) L) (k : Nat) (hk : k ≤ L.length) : TyRow w B (.slice (some ⟨g, 0, none⟩) k cap) (L.take k) := by
  have hl : (L.take k).length = k := by rw [List.length_take]; omega
  rcases h.2 with ⟨h', _⟩ | ⟨g', cap', cur, h', hb, hg, hnc, hcm, hcs, htake⟩
  · simp at h'
  · simp only [Value.slice.injEq, Option.some.injEq, Addr.mk.injEq, and_true, true_and] at h'
    obtain ⟨rfl, rfl⟩ := h'
    refine ⟨flat6T_len _, .inr ⟨g, cap, cur, by rw [hl], hb, hg, by rw [hl]; omega, hcm, hcs, ?_⟩⟩
    rw [hl, ← take6 L k, ← htake, List.take_take]
    congr 1
    omega

theorem ones {L : List Ty} : ∀ u ∈ L.flatMap Ty.cells, u.oneCell' = true := by
  intro u hu
  obtain ⟨x, _, hx⟩ := List.mem_flatMap.1 hu
  exact one6T u hx

/-- what the loop of bent keeps: o is where the new schema lies -/
structure BAt (b n o : Nat) (w : World) (g cap : Nat) (L : List Ty) (wr : World) : Prop where
  row : TyRow wr (w.heap.size + 2) (.slice (some ⟨g, 0, none⟩) L.length cap) L
  l1 : 1 ≤ L.length
  l30 : L.length ≤ 30
  nm : ∀ x ∈ L, x.name.size ≤ 10
  up : UpOk L
  go : g ≠ o
  gb : w.heap.size + 2 ≤ g ∧ w.heap.size + 2 ≤ o ∧ b < w.heap.size
  gl : g < wr.heap.size ∧ o < wr.heap.size
  q : wr.cell? ⟨o, 0, none⟩ = some (.slice (some ⟨g, 0, none⟩) L.length cap)
  qz : wr.frozen? ⟨o, 0, none⟩ = false
  y : wr.cell? ⟨w.heap.size + 1, 0, none⟩ = some (.slice none 0 0)
  z : wr.frozen? ⟨w.heap.size + 1, 0, none⟩ = false
  cur : Cur wr b n
  grown : w.grownBy wr (some b)

def BInv (b m o : Nat) (w : World) (i : Nat) (wr : World) : Prop := ∃ (g cap : Nat) (L : List Ty), BAt b (m + 14 - 6 * i) o w g cap L wr

theorem BAt.le {b n n' o : Nat} {w wr : World} {g cap : Nat} {L : List Ty} (h : BAt b n o w g cap L wr) (hn : n ≤ n') : BAt b n' o w g cap L wr := { h with cur := h.cur.le hn }

theorem BAt.pick {b n n' o : Nat} {w wr w' : World} {g cap : Nat} {L : List Ty} (h : BAt b n o w g cap L wr) (hc : Cur w' b n') (hg : wr.grownBy w' (some b)) : BAt b n' o w g cap L w' := by
  have hb := h.gb
  have hl := h.gl
  have bk : ∀ j, j ≠ b → j < wr.heap.size → w'.heap[j]? = wr.heap[j]? := fun j h1 h2 => hg.block j h2 (by simp; omega)
  have hs := hg.size
  exact ⟨row_lt h.row (fun j hj => bk j (by simp [Value.ownBlock] at hj; omega) (by simp [Value.ownBlock] at hj; omega)), h.l1, h.l30, h.nm, h.up, h.go, h.gb, ⟨by omega, by omega⟩,
    (World.cell?_of_block (w := wr) (bk o (by omega) (by omega))).trans h.q, (World.frozen?_of_block (w := wr) (bk o (by omega) (by omega))).trans h.qz,
    (World.cell?_of_block (w := wr) (bk (w.heap.size + 1) (by omega) (by omega))).trans h.y, (World.frozen?_of_block (w := wr) (bk (w.heap.size + 1) (by omega) (by omega))).trans h.z, hc, Lib.grownBy_trans h.grown hg⟩

theorem BAt.drewN {b n o : Nat} {w wr : World} {g cap : Nat} {L : List Ty} (h : BAt b n o w g cap L wr) (k : Nat) : BAt b n o w g cap L (wr.drewN k) :=
  h.pick (h.cur.below ⟨rfl, rfl, rfl, Nat.le_refl _, fun _ _ => rfl⟩) ⟨rfl, rfl, rfl, Nat.le_refl _, fun _ _ _ => rfl⟩

theorem BAt.drew {b n o : Nat} {w wr : World} {g cap : Nat} {L : List Ty} (h : BAt b n o w g cap L wr) : BAt b n o w g cap L wr.drew :=
  h.pick h.cur.drew ⟨rfl, rfl, rfl, Nat.le_refl _, fun _ _ _ => rfl⟩

theorem BAt.cell {b n o : Nat} {w wr : World} {g cap : Nat} {L : List Ty} (h : BAt b n o w g cap L wr) {k j : Nat} (hk : k < L.length) (hj : j < 6) : wr.cell? ⟨g, k * 6 + j, none⟩ = (ty L k).cells[j]? ∧ wr.frozen? ⟨g, k * 6 + j, none⟩ = false := by
  refine ⟨?_, World.ownsRow.frozenAt h.row _⟩
  rw [World.ownsRow.cellAt h.row (k * 6 + j) (by omega)]
  exact flat6T L k j hk hj

theorem BAt.store {b n o : Nat} {w wr : World} {g cap : Nat} {L : List Ty} (h : BAt b n o w g cap L wr) (k j : Nat) (u : Value) (t : Ty) (hk : k < L.length) (hj : j < 6) (hc : (ty L k).cells.set j u = t.cells) (ht : t.name.size ≤ 10) (hu : t.up = (ty L k).up) :
    BAt b n o w g cap (L.set k t) (wr.setCell ⟨g, k * 6 + j, none⟩ u) := by
  have hb := h.gb
  have hl := h.gl
  have hgo := h.go
  have bk : ∀ i, i ≠ g → (wr.setCell ⟨g, k * 6 + j, none⟩ u).heap[i]? = wr.heap[i]? := fun i hi => Below.heap_setCell _ _ _ _ (by show i ≠ g; exact hi)
  have hr := h.row.stored k j u t hk hj hc
  refine ⟨by rw [List.length_set]; exact hr, by rw [List.length_set]; exact h.l1, by rw [List.length_set]; exact h.l30, set_names h.nm ht, h.up.set k t hk hu, h.go, h.gb, by simpa using h.gl, ?_, ?_, ?_, ?_, ?_, ?_⟩
  · rw [List.length_set]; exact (World.cell?_of_block (w := wr) (bk o (by omega))).trans h.q
  · exact (World.frozen?_of_block (w := wr) (bk o (by omega))).trans h.qz
  · exact (World.cell?_of_block (w := wr) (bk (w.heap.size + 1) (by omega))).trans h.y
  · exact (World.frozen?_of_block (w := wr) (bk (w.heap.size + 1) (by omega))).trans h.z
  · exact h.cur.below ((Below.refl _ wr).setCell (p := ⟨g, k * 6 + j, none⟩) (by show b + 1 ≤ g; omega) _)
  · exact grown_set h.grown (a := ⟨g, k * 6 + j, none⟩) (by show w.heap.size ≤ g; omega) _

theorem BAt.short {b n o : Nat} {w wr : World} {g cap : Nat} {L : List Ty} (h : BAt b n o w g cap L wr) (k : Nat) (hk : k ≤ L.length) (hk1 : 1 ≤ k) :
    BAt b n o w g cap (L.take k) (wr.setCell ⟨o, 0, none⟩ (.slice (some ⟨g, 0, none⟩) k cap)) := by
  have hb := h.gb
  have hl := h.gl
  have hgo := h.go
  have hlen : (L.take k).length = k := by rw [List.length_take]; omega
  have bk : ∀ i, i ≠ o → (wr.setCell ⟨o, 0, none⟩ (.slice (some ⟨g, 0, none⟩) k cap)).heap[i]? = wr.heap[i]? := fun i hi => Below.heap_setCell _ _ _ _ (by show i ≠ o; exact hi)
  refine ⟨?_, by omega, by have := h.l30; omega, fun x hx => h.nm x (List.mem_of_mem_take hx), h.up.take k, h.go, h.gb, by simpa using h.gl, ?_, ?_, ?_, ?_, ?_, ?_⟩
  · rw [hlen]; exact row_lt (h.row.short k hk) (fun j hj => bk j (by simp [Value.ownBlock] at hj; omega))
  · rw [hlen]
    have hq := h.q
    have hqz := h.qz
    go_simp
  · rw [World.frozen?_setCell]; exact h.qz
  · exact (World.cell?_of_block (w := wr) (bk (w.heap.size + 1) (by omega))).trans h.y
  · exact (World.frozen?_of_block (w := wr) (bk (w.heap.size + 1) (by omega))).trans h.z
  · exact h.cur.below ((Below.refl _ wr).setCell (p := ⟨o, 0, none⟩) (by show b + 1 ≤ o; omega) _)
  · exact grown_set h.grown (a := ⟨o, 0, none⟩) (by show w.heap.size ≤ o; omega) _

set_option maxRecDepth 100000 in
set_option maxHeartbeats 4000000 in
theorem bent_any (b m g0 cap0 : Nat) (L0 : List Ty) (w : World) (hc : Cur w b m) (hm : m ≤ 800000000) (hrow : TyRow w 0 (.slice (some ⟨g0, 0, none⟩) L0.length cap0) L0) (hl1 : 1 ≤ L0.length) (hl30 : L0.length ≤ 30) (hnm : ∀ x ∈ L0, x.name.size ≤ 10) (hup : UpOk L0) :
    Calls Try.prog 20 #[.pointer (some ⟨b, 0, none⟩), .agg #[.slice (some ⟨g0, 0, none⟩) L0.length cap0]] w (SchR b (m + 20) false w) := by
  have hbw := hc.lt
  have hg0 : g0 < w.heap.size := (hrow.lt g0 rfl).2
  obtain ⟨i0, hi, hz0, hz1, hz2'⟩ := info_parts Try.infoTy
  obtain ⟨W2, hW2⟩ : ∃ W, W = (w.alloc (.cells #[.slice (some ⟨g0, 0, none⟩) L0.length cap0] 25)).alloc (.cells #[.slice none 0 0] 25) := ⟨_, rfl⟩
  have hB2 : Below w.heap.size w W2 := by rw [hW2]; exact ((Below.refl _ w).alloc (Nat.le_refl _) _).alloc (by simp) _
  have hc2 : Cur W2 b m := by rw [hW2]; exact (hc.alloc _).alloc _
  have HS2 : Hid (W2.heap.size = w.heap.size + 2) := by show _ = _; rw [hW2]; simp
  have hg2 : w.grownBy W2 (some b) := by rw [hW2]; exact grown_alloc (grown_alloc (World.grownBy.refl _ _) _) _
  have x2 : W2.cell? ⟨w.heap.size, 0, none⟩ = some (.slice (some ⟨g0, 0, none⟩) L0.length cap0) := by rw [hW2]; go_simp
  have y2 : W2.cell? ⟨w.heap.size + 1, 0, none⟩ = some (.slice none 0 0) := by rw [hW2]; go_simp
  have z2 : W2.frozen? ⟨w.heap.size + 1, 0, none⟩ = false := by rw [hW2]; go_simp
  have HROW2 : Hid (TyRow W2 0 (.slice (some ⟨g0, 0, none⟩) L0.length cap0) L0) := hrow.below hB2
  have HNM : Hid (∀ x ∈ L0, x.name.size ≤ 10) := hnm
  have HUP : Hid (UpOk L0) := hup
  clear hnm hup hrow hc
  unfold SchR
  go_enter Try.func20, Try.ntmps20
  go_upto_region 1 with fail
  rw [← hW2]
  clear hW2
  have hz2 : w.heap.size < W2.heap.size := by have := HS2.out; omega
  go_wp2_with (at_builtin; refine wpList_append_lies _ rfl _ _ 23 rfl (w.heap.size + 2) 59 i0 (.agg #[.int .i64 0, .string ⟨#[]⟩, .int .i64 0, .bool false, .int .i64 0, .int .i64 0]) 6 56 Try.underlying23 hi hz0 hz1 hz2' rfl (by decide) _ 0 [] rfl ?c0 ⟨g0, 0, none⟩ L0.length cap0 (L0.flatMap Ty.cells) rfl (flat6T_len L0) ?c1 ones ?c2 ?c3 ?c4 ?c5 (W2.heap.size + 1) ?c6 ?_)
  case c0 => exact World.ownsRow_made W2 #[] 0 (by have := HS2.out; omega) (by unfold maxLen; omega) rfl
  case c1 => exact (World.ownsRow.alloc HROW2.out _).cells (g := g0) rfl
  case c2 => omega
  case c3 => unfold maxLen; omega
  case c4 => omega
  case c5 => have := HS2.out; simp; omega
  case c6 => simp
  intro g9 cap9 w9 hown9 hgrow9 hat9 hlt9
  (try simp only [Nat.zero_add, List.nil_append] at hown9)
  (try simp only [Nat.zero_add])
  have hs2 := HS2.out
  have hg9 : W2.heap.size ≤ g9 := by
    rcases hat9 with h | h
    · simp [Value.ownBlock] at h; omega
    · omega
  have hs9 : W2.heap.size + 1 ≤ w9.heap.size := by have := hgrow9.size; simpa using this
  have bk9 : ∀ j, j < W2.heap.size → w9.heap[j]? = W2.heap[j]? := fun j hj => (hgrow9.block j (by simp; omega) (by simp [Value.ownBlock]; omega)).trans (Below.heap_alloc _ _ _ hj)
  have hc9 : Cur w9 b m := (hc2.alloc _).grown hgrow9 (fun k hk => by simp [Value.ownBlock] at hk; omega)
  have hgw9 : w.grownBy w9 (some b) := grown_row (grown_alloc hg2 _) hgrow9 (fun k hk => by simp [Value.ownBlock] at hk; omega)
  obtain ⟨W10, hW10⟩ : ∃ W, W = w9.alloc (.cells #[.slice (some ⟨g9, 0, none⟩) L0.length cap9] 25) := ⟨_, rfl⟩
  have hB10 : Below w9.heap.size w9 W10 := by rw [hW10]; exact (Below.refl _ w9).alloc (Nat.le_refl _) _
  have HS10 : Hid (W10.heap.size = w9.heap.size + 1) := by show _ = _; rw [hW10]; simp
  have hc10 : Cur W10 b m := by rw [hW10]; exact hc9.alloc _
  have o10 : W10.cell? ⟨w9.heap.size, 0, none⟩ = some (.slice (some ⟨g9, 0, none⟩) L0.length cap9) := by rw [hW10]; go_simp
  have oz10 : W10.frozen? ⟨w9.heap.size, 0, none⟩ = false := by rw [hW10]; go_simp
  have HROW10 : Hid (TyRow W10 (w.heap.size + 2) (.slice (some ⟨g9, 0, none⟩) L0.length cap9) L0) := TyRow.below (show TyRow w9 _ _ _ from hown9) hB10
  have hgw10 : w.grownBy W10 (some b) := grown_below hgw9 hB10
  have y10 : W10.cell? ⟨w.heap.size + 1, 0, none⟩ = some (.slice none 0 0) := (hB10.cell (p := ⟨w.heap.size + 1, 0, none⟩) (by show w.heap.size + 1 < _; omega)).trans ((World.cell?_of_block (w := W2) (bk9 (w.heap.size + 1) (by omega))).trans y2)
  have z10 : W10.frozen? ⟨w.heap.size + 1, 0, none⟩ = false := (hB10.frozen (p := ⟨w.heap.size + 1, 0, none⟩) (by show w.heap.size + 1 < _; omega)).trans ((World.frozen?_of_block (w := W2) (bk9 (w.heap.size + 1) (by omega))).trans z2)
  have ho : w.heap.size + 2 ≤ w9.heap.size := by omega
  have hg9o : g9 ≠ w9.heap.size := by omega
  clear hown9 hgrow9 hat9 bk9 hc9 hgw9 x2 y2 z2 HROW2 hc2 hg2 hB2
  go_wp2_with fail
  rw [← hW10]
  clear hW10
  refine (pick_any b m 3 _ hc10 (by omega)).mono ?_
  rintro e w11 ⟨n, rfl, hn, hc11, hg11⟩
  have hn2 : n ≤ 2 := by omega
  obtain ⟨o, hoo⟩ : ∃ o, o = w9.heap.size := ⟨_, rfl⟩
  have hst : Hid (BInv b m o w n w11) := by
    have hs10 := HS10.out
    have bk11 : ∀ j, j ≠ b → j < W10.heap.size → w11.heap[j]? = W10.heap[j]? := fun j h1 h2 => hg11.block j h2 (by simp; omega)
    have hs11 := hg11.size
    refine ⟨g9, cap9, L0, row_lt HROW10.out (fun j hj => ?_), hl1, hl30, HNM.out, HUP.out, by omega, by omega, by omega, ?_, ?_, ?_, ?_, hc11.le (by omega), Lib.grownBy_trans hgw10 hg11⟩
    · simp [Value.ownBlock] at hj
      exact bk11 j (by omega) (by omega)
    · rw [hoo]; exact (World.cell?_of_block (w := W10) (bk11 w9.heap.size (by omega) (by omega))).trans o10
    · rw [hoo]; exact (World.frozen?_of_block (w := W10) (bk11 w9.heap.size (by omega) (by omega))).trans oz10
    · exact (World.cell?_of_block (w := W10) (bk11 (w.heap.size + 1) (by omega) (by omega))).trans y10
    · exact (World.frozen?_of_block (w := W10) (bk11 (w.heap.size + 1) (by omega) (by omega))).trans z10
  rw [← hoo] at ho ⊢
  clear hoo hg11 hc11 o10 oz10 HROW10 hgw10 y10 z10 hc10 hg9o HNM HUP hB10 HS10 hs9 hg9 hlt9 hn HS2 hs2 hi hz0 hz1 hz2' hl1 hl30
  go_wp2
  go_loopw [6] (fun vi wr => ∃ i : Nat, i ≤ 2 ∧ vi = .int .i64 (i : Int) ∧ Hid (BInv b m o w i wr)) (fun vi _ => (intOf vi).toNat)
  case atStart => exact ⟨n, hn2, rfl, hst⟩
  case round =>
    obtain ⟨i, hi2, rfl, hinv⟩ := hrel
    obtain ⟨g, cap, L, hat⟩ := hinv.out
    clear hinv hst hn2
    have HAT : Hid (BAt b (m + 14 - 6 * i) o w g cap L wr) := hat
    have q := hat.q
    have hob := hat.gb
    have hol := hat.gl
    have hgo := hat.go
    have hl1 := hat.l1
    have hl30 : (L.length : Int) ≤ 30 := by have := hat.l30; omega
    have hcr := hat.cur
    clear hat
    by_cases hlt : 0 < i
    · have hlt' : (0 : Int) < (i : Int) := by omega
      go_wp2_with fail
      refine (pick_any b (m + 14 - 6 * i) (L.length : Int) wr hcr (by omega)).mono ?_
      rintro e w1 ⟨k, rfl, hk, hc1, hg1⟩
      have hk : k < L.length := by omega
      have HA1 : Hid (BAt b (m + 14 - 6 * i + 2) o w g cap L w1) := HAT.out.pick hc1 hg1
      clear HAT hcr q hc1 hg1
      by_cases hk0 : k = 0
      · subst hk0
        have hnext : Hid (BInv b m o w (i - 1) w1) := ⟨g, cap, L, HA1.out.le (by omega)⟩
        go_wp2
        go_roundw
        case rel => exact ⟨i - 1, by omega, by go_num, hnext⟩
        case measure => simp [intOf]; omega
      have hk0' : ((k : Int) == 0) = false := by simp; omega
      have hkn : ¬ ((k : Int) = 0) := by omega
      have hc1 := HA1.out.cur
      go_wp2_with fail
      refine (pick_any b (m + 14 - 6 * i + 2) 3 w1 hc1 (by omega)).mono ?_
      rintro e w2 ⟨c, rfl, hc, hc2, hg2⟩
      have HA2 : Hid (BAt b (m + 14 - 6 * i + 4) o w g cap L w2) := (HA1.out.pick hc2 hg2).le (by omega)
      have hc3 : c < 3 := by omega
      clear HA1 hc1 hc2 hg2 hc
      have hnx : ∀ W, BAt b (m + 14 - 6 * i + 6) o w g cap L W → Hid (BInv b m o w (i - 1) W) := fun W h => ⟨g, cap, L, h.le (by omega)⟩
      have HNX : Hid (∀ (L' : List Ty) (W : World), BAt b (m + 14 - 6 * i + 6) o w g cap L' W → BInv b m o w (i - 1) W) := fun L' W h => ⟨g, cap, L', h.le (by omega)⟩
      clear hnx
      have q := HA2.out.q
      have qz := HA2.out.qz
      obtain ⟨u, hu, huk⟩ := HA2.out.up k (by omega) hk
      have hul : (u : Int) < (L.length : Int) := by omega
      have hkl : (k : Int) < (L.length : Int) := by omega
      have cu : w2.cell? ⟨g, k * 6 + 4, none⟩ = some (.int .i64 (u : Int)) := by rw [(HA2.out.cell hk (j := 4) (by omega)).1, ← hu]; rfl
      obtain ⟨kd, hkd⟩ : ∃ kd, kd = (ty L u).kind := ⟨_, rfl⟩
      have ck : w2.cell? ⟨g, u * 6, none⟩ = some (.int .i64 kd) := by rw [hkd]; exact (HA2.out.cell (k := u) (by omega) (j := 0) (by omega)).1
      clear hkd
      have hcs : c = 0 ∨ c = 1 ∨ c = 2 := by omega
      clear hc3
      rcases hcs with rfl | rfl | rfl
      · by_cases h5 : kd = 5
        · subst h5
          have cm : w2.cell? ⟨g, k * 6 + 3, none⟩ = some (.bool (ty L k).must) := (HA2.out.cell hk (j := 3) (by omega)).1
          have cz : w2.frozen? ⟨g, k * 6 + 3, none⟩ = false := (HA2.out.cell hk (j := 3) (by omega)).2
          go_wp2
          go_quiet (fail)
          go_wp2
          go_region
          go_wp2
          go_roundw
          case rel =>
            refine ⟨i - 1, by omega, by go_num, HNX.out (L.set k { ty L k with must := !(ty L k).must }) _ ?_⟩
            have hA := fun n => ((HA2.out.drewN n).store k 3 (.bool (!(ty L k).must)) { ty L k with must := !(ty L k).must } hk (by omega) rfl (ty_name HA2.out.nm hk) rfl).le (Nat.le_add_right _ 2)
            exact hA _
          case measure => simp [intOf]; omega
        · have h5' : (kd == 5) = false := by simp; exact h5
          go_wp2
          go_quiet (fail)
          go_wp2
          go_roundw
          case rel => exact ⟨i - 1, by omega, by go_num, HNX.out L _ ((HA2.out.drewN _).le (by omega))⟩
          case measure => simp [intOf]; omega
      · clear cu ck hul hu huk
        obtain ⟨ki, hki⟩ : ∃ ki, ki = (ty L k).kind := ⟨_, rfl⟩
        have ci : w2.cell? ⟨g, k * 6, none⟩ = some (.int .i64 ki) := by rw [hki]; exact (HA2.out.cell hk (j := 0) (by omega)).1
        by_cases h3 : ki = 3
        · subst h3
          have hAd := HA2.out.drew
          have hcd := hAd.cur
          have qd := hAd.q
          have HAD : Hid (BAt b (m + 14 - 6 * i + 4) o w g cap L w2.drew) := hAd
          clear hAd
          go_upto_region 15 with fail
          go_region_held3 (fun w' => w'.cell? ⟨o, 0, none⟩ = some (.slice (some ⟨g, 0, none⟩) L.length cap))
            (first | exact (World.cell?_setCell_other _ _ _ _ (fun e => by have := congrArg Addr.block e; simp at this; omega)).trans q7 | exact q7 | exact qd | exact q)
            (first
              | (go_at_call 37; refine (pick_any b (m + 14 - 6 * i + 4) 5 _ hcd (by omega)).mono ?_; rintro e w7 ⟨x7, rfl, hx7, hc7, hg7⟩; have hA7 := HAD.out.pick hc7 hg7; have HA7 : Hid (BAt b (m + 14 - 6 * i + 4 + 2) o w g cap L w7) := hA7; have q7 := hA7.q; have cc7 : w7.cell? ⟨g, k * 6 + 5, none⟩ = some (Value.int .i64 (ty L k).most) := (hA7.cell hk (j := 5) (by omega)).1; have cf7 : w7.frozen? ⟨g, k * 6 + 5, none⟩ = false := (hA7.cell hk (j := 5) (by omega)).2; clear hA7 hc7 hg7))
          go_wp2
          go_roundw
          case rel =>
            refine ⟨i - 1, by omega, by go_num, HNX.out (L.set k { ty L k with most := (x7 : Int) }) _ ?_⟩
            exact (HA7.out.store k 5 (.int .i64 (x7 : Int)) { ty L k with most := (x7 : Int) } hk (by omega) rfl (ty_name HA2.out.nm hk) rfl).le (by omega)
          case measure => simp [intOf]; omega
        · have h3' : (ki == 3) = false := by simp; exact h3
          go_wp2
          go_roundw
          case rel => exact ⟨i - 1, by omega, by go_num, HNX.out L _ (HA2.out.le (by omega))⟩
          case measure => simp [intOf]; omega
      · by_cases hlast : k = L.length - 1
        · have hd : ((k : Int) == (L.length : Int) - 1) = true := by simp; omega
          have hdw : ((k : Int) == IntKind.i64.wrap ((L.length : Int) - 1)) = true := by rw [IntKind.wrap_i64]; simp; omega
          clear hlast
          have hkc : (k : Int) ≤ (cap : Int) := by
            rcases HA2.out.row.2 with ⟨h', _⟩ | ⟨g', cap', cur, h', _, _, hnc, _⟩
            · simp at h'
            · simp only [Value.slice.injEq, Option.some.injEq, Addr.mk.injEq, and_true, true_and] at h'
              omega
          by_cases h5 : kd = 5
          · subst h5
            go_wp2
            go_quiet (fail)
            go_wp2
            go_roundw
            case rel => exact ⟨i - 1, by omega, by go_num, HNX.out (L.take k) _ (((HA2.out.drewN _).short k (by omega) (by omega)).le (by omega))⟩
            case measure => simp [intOf]; omega
          · have h5' : (kd == 5) = false := by simp; exact h5
            go_wp2
            go_quiet (fail)
            go_wp2
            go_roundw
            case rel => exact ⟨i - 1, by omega, by go_num, HNX.out L _ ((HA2.out.drewN _).le (by omega))⟩
            case measure => simp [intOf]; omega
        · have hd : ((k : Int) == (L.length : Int) - 1) = false := by simp; omega
          have hd' : ¬ ((k : Int) = (L.length : Int) - 1) := by omega
          go_wp2
          go_quiet (fail)
          go_wp2
          go_roundw
          case rel => exact ⟨i - 1, by omega, by go_num, HNX.out L _ ((HA2.out.drewN _).le (by omega))⟩
          case measure => simp [intOf]; omega
    · have hi0 : i = 0 := by omega
      subst hi0
      have y := HAT.out.y
      have z := HAT.out.z
      have hl1' : w.heap.size + 1 < wr.heap.size := by omega
      go_wp2
      (try simp only [Exit.inBlock, Exit.then])
      refine bodyPost_ret (v := .agg #[.slice (some ⟨g, 0, none⟩) L.length cap]) ?_ rfl ⟨.slice (some ⟨g, 0, none⟩) L.length cap, L, rfl, ?_, hl1, by omega, HAT.out.nm, fun h => absurd h (by decide), ?_, ?_⟩
      · rw [results_cell1 rfl]
        go_simp
      · exact (HAT.out.row.setCell (a := ⟨w.heap.size + 1, 0, none⟩) (by show w.heap.size + 1 < _; omega) _).lower (by omega)
      · exact (HAT.out.cur.le (by omega)).below ((Below.refl _ wr).setCell (p := ⟨w.heap.size + 1, 0, none⟩) (by show b + 1 ≤ w.heap.size + 1; omega) _)
      · exact grown_set HAT.out.grown (a := ⟨w.heap.size + 1, 0, none⟩) (by show w.heap.size ≤ w.heap.size + 1; omega) _

end Go.Proofs.Ytnhmleelhopjmaa
