/- The model reads a term: a name with its terms. -/
import Derived.Test.YtlmhjkcollohnaaDoorTmF
import Derived.Deep.Cut
namespace Go.Proofs.YtlmhjkcollohnaaDoor
open Go.RowKit Plain Sch Trm

theorem rdT_fn (f : Nat) (name : ByteArray) (many : Int) (l : List Ce) : rdT (f + 1) (⟨0, name, many⟩ :: l) = if okFn ⟨0, name, many⟩ then (rdN (rdT f) many.toNat l).map fun p => (.mk 0 name p.1, p.2) else none := by
  rw [rdT]
  unfold okCe
  rw [if_pos (show (⟨0, name, many⟩ : Ce).var = 0 from rfl)]

/-- what is left to read when k terms have been read -/
def Left6 (f : Nat) (l r : List Ce) (n k : Nat) (xs : List TT) : Prop := rdN (rdT f) n l = (rdN (rdT f) (n - k) r).map fun p => (xs ++ p.1, p.2)

theorem left6_step {f n k : Nat} {l r s : List Ce} {xs : List TT} {x : TT} (h : Left6 f l r n k xs) (hk : k < n) (hx : rdT f r = some (x, s)) : Left6 f l s n (k + 1) (xs ++ [x]) := by
  unfold Left6 at h ⊢
  have e : n - k = (n - (k + 1)) + 1 := by omega
  rw [h, e, rdN_step _ hx, Option.map_map]
  congr 1
  funext p
  simp

theorem left6_none {f n k : Nat} {l r : List Ce} {xs : List TT} (h : Left6 f l r n k xs) (hk : k < n) (hx : rdT f r = none) : rdN (rdT f) n l = none := by
  unfold Left6 at h
  have e : n - k = (n - (k + 1)) + 1 := by omega
  rw [h, e, rdN_none _ hx]
  rfl

theorem left6_end {f n : Nat} {l r : List Ce} {xs : List TT} (h : Left6 f l r n n xs) : rdN (rdT f) n l = some (xs, r) := by
  unfold Left6 at h
  rw [h, Nat.sub_self]
  simp [rdN]

set_option maxRecDepth 100000 in
set_option maxHeartbeats 4000000 in
theorem l6Read_any (T : List Ce) (v : Value) (hl : T.length ≤ 2097152) : ∀ (f a : Nat) (w : World), CesAt w w.heap.size v T → a ≤ T.length → T.length < f + a →
    Calls Tryd.prog 75 #[v, .int .i64 a] w (RdOut f T a w) := by
  intro f
  induction f with
  | zero => intro a w hT ha hf; omega
  | succ f ih0 =>
    intro a w hT ha hf
    have ih : Hid (∀ (a : Nat) (w : World), CesAt w w.heap.size v T → a ≤ T.length → T.length < f + a → Calls Tryd.prog 75 #[v, .int .i64 a] w (RdOut f T a w)) := ih0
    clear ih0
    by_cases hat : a = T.length
    · subst hat
      obtain ⟨ao, cap, rfl, hlc, hcm, _⟩ := hT
      have HR : Hid (rdT (f + 1) (T.drop T.length) = none) := by show _ = _; rw [List.drop_length]; rfl
      clear ih
      unfold maxLen at hcm
      go_enter Tryd.func75, Tryd.ntmps75
      go_wp2
      (try simp only [Exit.inBlock, Exit.then])
      refine bodyPost_ret (v := .tuple #[.agg #[.int .i64 0, .string ⟨#[]⟩, .slice none 0 0], .int .i64 0]) ?_ rfl ⟨.inr ⟨HR.out, rfl⟩, ?_⟩
      · rw [results_cell_tmp rfl]
        go_simp
      · repeat' (first | exact Below.refl _ _ | refine Below.alloc ?_ (by simp <;> omega) _ | refine Below.setCell ?_ (by simp <;> omega) _)
    · have halt : a < T.length := by omega
      have HT : Hid (CesAt w w.heap.size v T) := hT
      obtain ⟨g, o, cap, rfl, hlc, hcm, hg, hrow, hnm⟩ := hT.open (by omega)
      clear hT hat
      have hcm' : cap ≤ 9223372036854775807 := by unfold maxLen at hcm; omega
      have hci := hrow a halt
      have hni := hnm a halt
      have hdr := drop_ceF T a halt
      obtain ⟨c, hc⟩ : ∃ c, c = ce T a := ⟨_, rfl⟩
      rw [← hc] at hci hni hdr
      clear hc hrow hnm
      by_cases hv : c.var = 0
      · obtain ⟨var, name, many⟩ := c
        dsimp only at hv hni
        subst hv
        obtain ⟨c0, c1, c2⟩ := hci
        dsimp only at c0 c1 c2
        have HR : Hid (rdT (f + 1) (T.drop a) = if okFn ⟨0, name, many⟩ then (rdN (rdT f) many.toNat (T.drop (a + 1))).map fun p => (.mk 0 name p.1, p.2) else none) := by
          show _ = _
          rw [hdr, rdT_fn]
        clear hdr
        have ha' : ¬ ((T.length : Int) ≤ (a : Int)) := by omega
        have ha1 : (a : Int) < (T.length : Int) := by omega
        by_cases hnok : okName name = true
        · by_cases hmok : 0 ≤ many ∧ many ≤ 5
          · have hmd : decide (0 ≤ many ∧ many ≤ 5) = true := by simpa using hmok
            obtain ⟨m, rfl⟩ := Int.eq_ofNat_of_zero_le hmok.1
            have hm5 : m ≤ 5 := by omega
            have HR2 : Hid (rdT (f + 1) (T.drop a) = (rdN (rdT f) m (T.drop (a + 1))).map fun p => (.mk 0 name p.1, p.2)) := by
              show _ = _
              have hok : okFn ⟨0, name, (m : Int)⟩ = true := by unfold okFn; dsimp only; rw [hnok]; simp; omega
              rw [HR.out, if_pos hok]
              rfl
            clear HR hmok
            obtain ⟨i0, hi, hz0, hz1, hz2⟩ := info_parts Tryd.infoTT
            obtain ⟨W3, hW3⟩ : ∃ W, W = ((w.alloc (.cells #[.int .i64 0, .string ⟨#[]⟩, .slice none 0 0] 66)).alloc (.cells #[.int .i64 0, .string name, .int .i64 (m : Int)] 97)).alloc (.cells #[.int .i64 0, .string name, .slice none 0 0] 66) := ⟨_, rfl⟩
            have hB3 : Below w.heap.size w W3 := by rw [hW3]; exact (((Below.refl _ w).alloc (Nat.le_refl _) _).alloc (by simp) _).alloc (by simp; omega) _
            have HS3 : Hid (W3.heap.size = w.heap.size + 3) := by show _ = _; rw [hW3]; simp
            have y0 : W3.cell? ⟨w.heap.size, 0, none⟩ = some (.int .i64 0) := by rw [hW3]; go_simp
            have y1 : W3.cell? ⟨w.heap.size, 1, none⟩ = some (.string ⟨#[]⟩) := by rw [hW3]; go_simp
            have y2 : W3.cell? ⟨w.heap.size, 2, none⟩ = some (.slice none 0 0) := by rw [hW3]; go_simp
            have yz : ∀ j, W3.frozen? ⟨w.heap.size, j, none⟩ = false := by intro j; rw [hW3]; go_simp
            have x2 : W3.cell? ⟨w.heap.size + 1, 2, none⟩ = some (.int .i64 (m : Int)) := by rw [hW3]; go_simp
            have hN : TdIn W3 (w.heap.size + 1 + 1) 0 0 name (.slice none 0 0) := by rw [hW3]; exact ⟨by go_simp, by go_simp, by go_simp⟩
            have hz5 : W3.frozen? ⟨w.heap.size + 1 + 1, 2, none⟩ = false := by rw [hW3]; go_simp
            go_enter Tryd.func75, Tryd.ntmps75
            go_wp2_with fail
            refine (l6Name_any name _ hni).mono ?_
            rintro e w1 ⟨rfl, rfl⟩
            rw [hnok]
            go_wp2_with fail
            refine (l1In_any (m : Int) 0 5 _).mono ?_
            rintro e w1 ⟨rfl, rfl⟩
            rw [hmd]
            go_wp2
            rw [← hW3]
            clear hW3 c0 c1 c2
            go_loopw [8, 1] (fun vk va wr => ∃ (k b : Nat) (kv : Value) (rows : List (TT × Value)), k ≤ m ∧ b ≤ T.length ∧ a < b ∧ vk = .int .i64 (k : Int) ∧ va = .int .i64 (b : Int) ∧ Hid (rows.length = k) ∧ Hid (Left6 f (T.drop (a + 1)) (T.drop b) m k (rows.map Prod.fst)) ∧ Hid (TInv6 f (w.heap.size + 1 + 1) W3 0 name rows kv wr))
              (fun vk _ _ => m - (intOf vk).toNat)
            case atStart =>
              refine ⟨0, a + 1, .slice none 0 0, [], by omega, by omega, by omega, rfl, by go_num, rfl, ?_, TInv6.start hN hz5⟩
              show Left6 _ _ _ _ _ _
              unfold Left6
              simp
            case round =>
              obtain ⟨k, b, kv, rows, hk, hbl, hab, rfl, rfl, hrl, hleft, hinv⟩ := hrel
              obtain ⟨⟨n0, n1, n2⟩, hzr, hown, hbw⟩ := hinv.out.node
              rw [Nat.zero_add] at n1 n2
              have hBr : Below w.heap.size w wr := hB3.trans (hbw.mono (by omega))
              have hsr : Hid (w.heap.size + 3 ≤ wr.heap.size) := by show _ ≤ _; have := hbw.size; rw [HS3.out] at this; exact this
              have x2 := (hbw.cell (p := ⟨w.heap.size + 1, 2, none⟩) (by show w.heap.size + 1 < _; omega)).trans x2
              have hrb : rows.length ≤ 5 := by rw [hrl.out]; omega
              by_cases hlt : k < m
              · have hlt' : (k : Int) < (m : Int) := by omega
                have hTr : CesAt wr wr.heap.size (.slice (some ⟨g, o, none⟩) T.length cap) T := HT.out.below hBr
                have hrec := ih.out b wr hTr hbl (by omega)
                have HREC : Hid (Calls Tryd.prog 75 #[.slice (some ⟨g, o, none⟩) T.length cap, .int .i64 (b : Int)] wr (RdOut f T b wr)) := hrec
                clear hrec hTr
                go_wp2_with fail
                refine HREC.out.mono ?_
                rintro e w2 ⟨hcase, hb2⟩
                clear HREC
                have hs2 := hb2.size
                have hsr2 : Hid (w.heap.size + 3 ≤ w2.heap.size) := by show _ ≤ _; have := hsr.out; omega
                rcases hcase with ⟨x, r, ac, lc, cc, hrd, rfl, hkid⟩ | ⟨hrd, rfl⟩
                · obtain ⟨kk, hk0, hkl, hr⟩ := (rd_rest f).1 _ _ _ hrd
                  rw [List.length_drop] at hkl
                  have hrlen : T.length - r.length = b + kk := by rw [hr, List.drop_drop, List.length_drop]; omega
                  have hr2 : r = T.drop (b + kk) := by rw [hr, List.drop_drop]
                  have hleft2 : Hid (Left6 f (T.drop (a + 1)) (T.drop (b + kk)) m (k + 1) (rows.map Prod.fst ++ [x])) := by
                    have := left6_step hleft.out hlt hrd
                    rw [hr2] at this
                    exact this
                  rw [hrlen]
                  clear hrlen hr2 hr hrd hleft
                  have hne : (((b + kk : Nat) : Int) == 0) = false := by simp; omega
                  obtain ⟨W4, hW4⟩ : ∃ W, W = w2.alloc (.cells #[.int .i64 x.v, .string x.name, .slice ac lc cc] 66) := ⟨_, rfl⟩
                  have hb4 : Below wr.heap.size wr W4 := by rw [hW4]; exact hb2.alloc hb2.size _
                  have hkid4 : Hid (TKids f W4 (fun g => wr.heap.size ≤ g ∧ g < W4.heap.size) (.slice ac lc cc) x.kids) := by
                    rw [hW4]
                    refine hkid.kept (fun g hg => ?_) (fun g hg => ?_)
                    · rw [Below.heap_alloc _ _ _ hg.2]
                    · simp; omega
                  have HW4 : Hid (W4.heap.size = w2.heap.size + 1) := by show _ = _; rw [hW4]; simp
                  have q0 : W4.cell? ⟨w2.heap.size, 0, none⟩ = some (.int .i64 x.v) := by rw [hW4]; go_simp
                  have q1 : W4.cell? ⟨w2.heap.size, 1, none⟩ = some (.string x.name) := by rw [hW4]; go_simp
                  have q2 : W4.cell? ⟨w2.heap.size, 2, none⟩ = some (.slice ac lc cc) := by rw [hW4]; go_simp
                  have hinv4 : Hid (TInv6 f (w.heap.size + 1 + 1) W3 0 name rows kv W4) := hinv.out.below hb4 (by have := hsr.out; omega)
                  have hown4 : W4.ownsRow (w.heap.size + 1 + 1 + 1) 66 3 kv rows.length (rows.flatMap fun x => tdCells x.1 x.2) := own_below hown hb4
                  have m2 : W4.cell? ⟨w.heap.size + 1 + 1, 2, none⟩ = some kv := (hb4.cell (p := ⟨w.heap.size + 1 + 1, 2, none⟩) (by show w.heap.size + 1 + 1 < _; have := hsr.out; omega)).trans n2
                  have mz : W4.frozen? ⟨w.heap.size + 1 + 1, 2, none⟩ = false := (hb4.frozen (p := ⟨w.heap.size + 1 + 1, 2, none⟩) (by show w.heap.size + 1 + 1 < _; have := hsr.out; omega)).trans hzr
                  clear hown n0 n1 n2 hzr hkid
                  have hsW4 : Hid (w.heap.size + 4 ≤ W4.heap.size) := by show _ ≤ _; rw [HW4.out]; have := hsr2.out; omega
                  go_upto_region 18 with fail
                  rw [← hW4]
                  clear hW4
                  go_wp2_with (at_builtin; refine wpList_append_lies _ rfl _ _ 64 rfl (w.heap.size + 1 + 1 + 1) 66 i0 (.agg #[.int .i64 0, .string ⟨#[]⟩, .slice none 0 0]) 3 48 Tryd.underlying64 hi hz0 hz1 hz2 rfl (by decide) kv rows.length _ rfl (hown4.alloc _) ⟨W4.heap.size, 0, none⟩ 1 1 [Value.int .i64 x.v, .string x.name, .slice ac lc cc] rfl rfl (World.news_of_block (heap_alloc_new W4 _)) one3T (by omega) (by unfold maxLen; omega) (by omega) (by have := hsW4.out; simp; omega) (W4.heap.size + 1) (by simp) ?_)
                  intro g9 cap9 w9 hown9 hgrow9 hat9 hlt9
                  have hne9 : some (w.heap.size + 1 + 1) ≠ kv.ownBlock := fun e => by have := (hown4.lt _ e.symm).1; omega
                  have hb44 : Below W4.heap.size W4 (W4.alloc (.cells #[.int .i64 x.v, .string x.name, .slice ac lc cc] 66)) := (Below.refl _ W4).alloc (Nat.le_refl _) _
                  have hs44 : w.heap.size + 1 + 1 < W4.heap.size := by have := hsW4.out; omega
                  have m9 := (hgrow9.cell_far ⟨w.heap.size + 1 + 1, 2, none⟩ (by simp; omega) hne9).trans ((hb44.cell (p := ⟨w.heap.size + 1 + 1, 2, none⟩) hs44).trans m2)
                  have mz9 := (hgrow9.frozen_far ⟨w.heap.size + 1 + 1, 2, none⟩ (by simp; omega) hne9).trans ((hb44.frozen (p := ⟨w.heap.size + 1 + 1, 2, none⟩) hs44).trans mz)
                  have hstep : Hid (TInv6 f (w.heap.size + 1 + 1) W3 0 name (rows ++ [(x, .slice ac lc cc)]) (.slice (some ⟨g9, 0, none⟩) (rows.length + 1) cap9) (w9.setCell ⟨w.heap.size + 1 + 1, 2, none⟩ (.slice (some ⟨g9, 0, none⟩) (rows.length + 1) cap9))) :=
                    hinv.out.step (by have := hsr.out; omega) hkid4.out hb4 hown9 hgrow9 hat9
                  have hleft3 : Hid (Left6 f (T.drop (a + 1)) (T.drop (b + kk)) m (k + 1) ((rows ++ [(x, (.slice ac lc cc : Value))]).map Prod.fst)) := by
                    have := hleft2.out
                    show Left6 _ _ _ _ _ _
                    simpa using this
                  clear hown4 hgrow9 hat9 hown9 hinv hinv4 hkid4 m2 mz hb44 hs44 q0 q1 q2 hleft2
                  go_wp2
                  go_roundw
                  case rel => exact ⟨k + 1, b + kk, .slice (some ⟨g9, 0, none⟩) (rows.length + 1) cap9, rows ++ [(x, .slice ac lc cc)], by omega, by omega, by omega, by go_num, by go_num, by show _ = _; simp [hrl.out], hleft3, hstep⟩
                  case measure => simp [intOf]; omega
                · have HR3 : Hid (rdT (f + 1) (T.drop a) = none) := by show _ = _; rw [HR2.out, left6_none hleft.out hlt hrd]; rfl
                  have hB2 : Below w.heap.size w w2 := hBr.trans (hb2.mono hBr.size)
                  have hsw : w.heap.size < wr.heap.size := by have := hsr.out; omega
                  have hlt0 : w.heap.size < w.heap.size + 1 + 1 := by omega
                  have y0 := (hb2.cell (p := ⟨w.heap.size, 0, none⟩) hsw).trans ((hbw.cell (p := ⟨w.heap.size, 0, none⟩) hlt0).trans y0)
                  have y1 := (hb2.cell (p := ⟨w.heap.size, 1, none⟩) hsw).trans ((hbw.cell (p := ⟨w.heap.size, 1, none⟩) hlt0).trans y1)
                  have y2 := (hb2.cell (p := ⟨w.heap.size, 2, none⟩) hsw).trans ((hbw.cell (p := ⟨w.heap.size, 2, none⟩) hlt0).trans y2)
                  have z0 := (hb2.frozen (p := ⟨w.heap.size, 0, none⟩) hsw).trans ((hbw.frozen (p := ⟨w.heap.size, 0, none⟩) hlt0).trans (yz 0))
                  have z1 := (hb2.frozen (p := ⟨w.heap.size, 1, none⟩) hsw).trans ((hbw.frozen (p := ⟨w.heap.size, 1, none⟩) hlt0).trans (yz 1))
                  have z2 := (hb2.frozen (p := ⟨w.heap.size, 2, none⟩) hsw).trans ((hbw.frozen (p := ⟨w.heap.size, 2, none⟩) hlt0).trans (yz 2))
                  obtain ⟨W4, hW4⟩ : ∃ W, W = w2.alloc (.cells #[.int .i64 0, .string ⟨#[]⟩, .slice none 0 0] 66) := ⟨_, rfl⟩
                  have hB4 : Below w.heap.size w W4 := by rw [hW4]; exact hB2.alloc hB2.size _
                  have hb4 : Below w2.heap.size w2 W4 := by rw [hW4]; exact (Below.refl _ w2).alloc (Nat.le_refl _) _
                  have hsw2 : w.heap.size < w2.heap.size := by omega
                  have y0 := (hb4.cell (p := ⟨w.heap.size, 0, none⟩) hsw2).trans y0
                  have y1 := (hb4.cell (p := ⟨w.heap.size, 1, none⟩) hsw2).trans y1
                  have y2 := (hb4.cell (p := ⟨w.heap.size, 2, none⟩) hsw2).trans y2
                  have z0 := (hb4.frozen (p := ⟨w.heap.size, 0, none⟩) hsw2).trans z0
                  have z1 := (hb4.frozen (p := ⟨w.heap.size, 1, none⟩) hsw2).trans z1
                  have z2 := (hb4.frozen (p := ⟨w.heap.size, 2, none⟩) hsw2).trans z2
                  clear hinv hleft hown n0 n1 n2 hzr hrd hb2 hb4
                  go_upto_region 17 with fail
                  rw [← hW4]
                  clear hW4
                  go_wp2
                  (try simp only [Exit.inBlock, Exit.then])
                  refine bodyPost_ret (v := .tuple #[.agg #[.int .i64 0, .string ⟨#[]⟩, .slice none 0 0], .int .i64 0]) ?_ rfl ⟨.inr ⟨HR3.out, rfl⟩, ?_⟩
                  · rw [results_cell_tmp rfl]
                    go_simp
                  · exact ((hB4.setCell (Nat.le_refl _) _).setCell (Nat.le_refl _) _).setCell (Nat.le_refl _) _
              · have hke : k = m := by omega
                subst hke
                have hge : ¬ ((rows.length : Int) < (rows.length : Int)) := by omega
                have hge2 : ¬ ((k : Int) < (k : Int)) := by omega
                have HR3 : Hid (rdT (f + 1) (T.drop a) = some (.mk 0 name (rows.map Prod.fst), T.drop b)) := by show _ = _; rw [HR2.out, left6_end hleft.out]; rfl
                have hlt0 : w.heap.size < w.heap.size + 1 + 1 := by omega
                have y0 := (hbw.cell (p := ⟨w.heap.size, 0, none⟩) hlt0).trans y0
                have y1 := (hbw.cell (p := ⟨w.heap.size, 1, none⟩) hlt0).trans y1
                have y2 := (hbw.cell (p := ⟨w.heap.size, 2, none⟩) hlt0).trans y2
                have z0 := (hbw.frozen (p := ⟨w.heap.size, 0, none⟩) hlt0).trans (yz 0)
                have z1 := (hbw.frozen (p := ⟨w.heap.size, 1, none⟩) hlt0).trans (yz 1)
                have z2 := (hbw.frozen (p := ⟨w.heap.size, 2, none⟩) hlt0).trans (yz 2)
                obtain ⟨ak, capk, hkv⟩ : ∃ ao cap, kv = Value.slice ao rows.length cap := by
                  rcases hown.2 with ⟨rfl, h0⟩ | ⟨g, cap, _, rfl, _⟩
                  · exact ⟨none, 0, by rw [h0]⟩
                  · exact ⟨_, _, rfl⟩
                subst hkv
                have hDone := hinv.out.done
                have HDone : Hid (∀ (w' : World) (B : Nat), B ≤ w.heap.size + 1 + 1 + 1 → (∀ g, w.heap.size + 1 + 1 + 1 ≤ g → w'.heap[g]? = wr.heap[g]?) → w'.heap.size = wr.heap.size → TKids (f + 1) w' (fun g => B ≤ g ∧ g < w'.heap.size) (.slice ak rows.length capk) (rows.map Prod.fst)) := fun w' B h1 h2 h3 => hDone w' B h1 h2 h3
                clear hinv hleft hown hDone
                go_wp2
                (try simp only [Exit.inBlock, Exit.then])
                refine bodyPost_ret (v := .tuple #[.agg #[.int .i64 0, .string name, .slice ak rows.length capk], .int .i64 (b : Int)]) ?_ rfl ⟨.inl ⟨_, _, ak, rows.length, capk, HR3.out, ?_, ?_⟩, ?_⟩
                · rw [results_cell_tmp rfl]
                  go_simp
                · have e1 : ((T.length - (T.drop b).length : Nat) : Int) = (b : Int) := by rw [List.length_drop]; omega
                  rw [e1]
                  rfl
                · refine HDone.out _ _ (by omega) (fun g hg => ?_) (by simp)
                  repeat rw [Below.heap_setCell _ _ _ _ (by show g ≠ w.heap.size; omega)]
                · exact ((hBr.setCell (Nat.le_refl _) _).setCell (Nat.le_refl _) _).setCell (Nat.le_refl _) _
          · have hmd : decide (0 ≤ many ∧ many ≤ 5) = false := by simpa using hmok
            have HR2 : Hid (rdT (f + 1) (T.drop a) = none) := by
              show _ = _
              have hok : okFn ⟨0, name, many⟩ = false := by
                unfold okFn
                dsimp only
                rw [hnok]
                by_cases h0 : 0 ≤ many
                · have : ¬ many ≤ 5 := fun h => hmok ⟨h0, h⟩
                  simp [this]
                · simp [h0]
              rw [HR.out, hok]
              rfl
            clear HR hmok ih
            go_enter Tryd.func75, Tryd.ntmps75
            go_wp2_with fail
            refine (l6Name_any name _ hni).mono ?_
            rintro e w1 ⟨rfl, rfl⟩
            rw [hnok]
            go_wp2_with fail
            refine (l1In_any many 0 5 _).mono ?_
            rintro e w1 ⟨rfl, rfl⟩
            rw [hmd]
            go_wp2
            (try simp only [Exit.inBlock, Exit.then])
            refine bodyPost_ret (v := .tuple #[.agg #[.int .i64 0, .string ⟨#[]⟩, .slice none 0 0], .int .i64 0]) ?_ rfl ⟨.inr ⟨HR2.out, rfl⟩, ?_⟩
            · rw [results_cell_tmp rfl]
              go_simp
            · repeat' (first | exact Below.refl _ _ | refine Below.alloc ?_ (by simp <;> omega) _ | refine Below.setCell ?_ (by simp <;> omega) _)
        · have hnok' : okName name = false := by simpa using hnok
          have HR2 : Hid (rdT (f + 1) (T.drop a) = none) := by
            show _ = _
            have hok : okFn ⟨0, name, many⟩ = false := by unfold okFn; dsimp only; rw [hnok']; rfl
            rw [HR.out, hok]
            rfl
          clear HR hnok ih
          go_enter Tryd.func75, Tryd.ntmps75
          go_wp2_with fail
          refine (l6Name_any name _ hni).mono ?_
          rintro e w1 ⟨rfl, rfl⟩
          rw [hnok']
          go_wp2
          (try simp only [Exit.inBlock, Exit.then])
          refine bodyPost_ret (v := .tuple #[.agg #[.int .i64 0, .string ⟨#[]⟩, .slice none 0 0], .int .i64 0]) ?_ rfl ⟨.inr ⟨HR2.out, rfl⟩, ?_⟩
          · rw [results_cell_tmp rfl]
            go_simp
          · repeat' (first | exact Below.refl _ _ | refine Below.alloc ?_ (by simp <;> omega) _ | refine Below.setCell ?_ (by simp <;> omega) _)
      · exact l6Read_var f T g o cap a w hlc hcm' halt c hdr hci hg hv

end Go.Proofs.YtlmhjkcollohnaaDoor
