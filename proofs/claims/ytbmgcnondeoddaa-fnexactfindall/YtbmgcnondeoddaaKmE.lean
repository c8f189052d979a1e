/- The program's haveBytes, bordersOf, BordersOf, PeriodOf. -/
import Derived.Test.YtbmgcnondeoddaaKmD
import Derived.Laws.ResultCell
namespace Go.Proofs.Ytbmgcnondeoddaa
open Go.RowKit Plain Tpc Kmp

/-- each text has as many bytes as said -/
def hv (lo hi : Int) (L : List ByteArray) : Bool := L.all fun s => decide (lo ≤ (s.size : Int)) && decide ((s.size : Int) ≤ hi)

theorem hv_no {lo hi : Int} {L : List ByteArray} {i : Nat} (h : i < L.length) (hx : ¬ (lo ≤ ((lq L i).size : Int) ∧ ((lq L i).size : Int) ≤ hi)) : hv lo hi L = false := by
  rw [Bool.eq_false_iff]
  intro hT
  unfold hv at hT
  rw [List.all_eq_true] at hT
  have := hT (lq L i) (lq_mem h)
  simp at this
  exact hx this

theorem hv_yes {lo hi : Int} {L : List ByteArray} (h : ∀ i, i < L.length → lo ≤ ((lq L i).size : Int) ∧ ((lq L i).size : Int) ≤ hi) : hv lo hi L = true := by
  unfold hv
  rw [List.all_eq_true]
  intro x hx
  obtain ⟨i, hi, rfl⟩ := List.mem_iff_getElem.1 hx
  have := h i hi
  rw [show lq L i = L[i] by unfold lq; simp [List.getD, List.getElem?_eq_getElem hi]] at this
  simpa using this

set_option maxRecDepth 100000 in
set_option maxHeartbeats 4000000 in
theorem haveBytes_any (lo hi : Int) (L : List ByteArray) (v : Value) (w : World) (hA : StAt w w.heap.size v L) (hS : ∀ i, i < L.length → (lq L i).size ≤ 9223372036854775807) (hL : L.length ≤ 9223372036854775807) :
    Calls Try.prog 49 #[.int .i64 lo, .int .i64 hi, v] w fun e w' => e = .returned (.bool (hv lo hi L)) ∧ w' = w := by
  obtain ⟨ao, cap, rfl, hlc, hcm, hro⟩ := hA
  have hcm' : cap ≤ 9223372036854775807 := by unfold maxLen at hcm; omega
  have HROW : Hid (∀ i, i < L.length → ∃ g o, ao = some ⟨g, o, none⟩ ∧ g < w.heap.size ∧ w.cell? ⟨g, o + i, none⟩ = some (.string (lq L i))) := hro
  have HS : Hid (∀ i, i < L.length → (lq L i).size ≤ 9223372036854775807) := hS
  obtain ⟨R, hR⟩ : ∃ R, R = hv lo hi L := ⟨_, rfl⟩
  rw [← hR]
  have HR : Hid (R = hv lo hi L) := hR
  clear hR hro hS
  go_enter Try.func49, Try.ntmps49
  go_wp2
  go_loopw [11] (fun vi wr => ∃ (k : Nat), k ≤ L.length ∧ vi = .int .i64 (k : Int) ∧ Hid (∀ j, j < k → lo ≤ ((lq L j).size : Int) ∧ ((lq L j).size : Int) ≤ hi) ∧ wr = w)
    (fun vi _ => L.length - (intOf vi).toNat)
  case atStart => exact ⟨0, by omega, rfl, fun j hj => by omega, rfl⟩
  case round =>
    obtain ⟨k, hk, rfl, hall, rfl⟩ := hrel
    by_cases hlt : k < L.length
    · have hltI : (k : Int) < (L.length : Int) := by omega
      obtain ⟨g, o, rfl, hg, c⟩ := HROW.out k hlt
      have HS9 := HS.out k hlt
      have HNO : Hid (¬ (lo ≤ ((lq L k).size : Int) ∧ ((lq L k).size : Int) ≤ hi) → R = false) := fun hx => HR.out.trans (hv_no hlt hx)
      have HYES : Hid (lo ≤ ((lq L k).size : Int) ∧ ((lq L k).size : Int) ≤ hi → ∀ j, j < k + 1 → lo ≤ ((lq L j).size : Int) ∧ ((lq L j).size : Int) ≤ hi) := fun hx j hj => by
        by_cases hjk : j = k
        · rw [hjk]; exact hx
        · exact hall.out j (by omega)
      obtain ⟨x, hx⟩ : ∃ x, lq L k = x := ⟨_, rfl⟩
      rw [hx] at c HS9 HNO HYES
      clear hx hall
      by_cases h1 : lo ≤ (x.size : Int)
      · have d1 : decide ((x.size : Int) < lo) = false := by simp; omega
        by_cases h2 : (x.size : Int) ≤ hi
        · have d2 : decide (hi < (x.size : Int)) = false := by simp; omega
          have hall2 := HYES.out ⟨h1, h2⟩
          have HALL2 : Hid (∀ j, j < k + 1 → lo ≤ ((lq L j).size : Int) ∧ ((lq L j).size : Int) ≤ hi) := hall2
          clear hall2 HYES HNO h1 h2
          go_wp2
          go_roundw
          case rel => exact ⟨k + 1, by omega, by go_num, HALL2, trivial⟩
          case measure => simp [intOf]; omega
        · have d2 : decide (hi < (x.size : Int)) = true := by simp; omega
          have hF : Hid (R = false) := HNO.out (fun h => h2 h.2)
          clear HYES HNO h1 h2
          go_wp2
          go_ret
          exact ⟨by rw [hF.out]; rfl, rfl⟩
      · have d1 : decide ((x.size : Int) < lo) = true := by simp; omega
        have hF : Hid (R = false) := HNO.out (fun h => h1 h.1)
        clear HYES HNO h1
        go_wp2
        go_ret
        exact ⟨by rw [hF.out]; rfl, rfl⟩
    · have hke : k = L.length := by omega
      have hge : ¬ ((k : Int) < (L.length : Int)) := by omega
      have hT : Hid (R = true) := HR.out.trans (hv_yes fun i hi => hall.out i (by omega))
      clear hke hall
      go_wp2
      go_ret
      exact ⟨by rw [hT.out]; rfl, rfl⟩

/-- a list of one text, as a call makes it -/
theorem one_text (s : ByteArray) (w : World) : StAt (w.alloc (.cells #[.string s] 9)) (w.alloc (.cells #[.string s] 9)).heap.size (.slice (some ⟨w.heap.size, 0, none⟩) 1 1) [s] := by
  refine ⟨some ⟨w.heap.size, 0, none⟩, 1, rfl, by simp, by unfold maxLen; omega, fun i hi => ⟨w.heap.size, 0, rfl, by simp, ?_⟩⟩
  obtain rfl : i = 0 := by simpa using hi
  simp [lq]

theorem hv_one (lo hi : Int) (s : ByteArray) : hv lo hi [s] = (decide (lo ≤ (s.size : Int)) && decide ((s.size : Int) ≤ hi)) := by simp [hv]

set_option maxRecDepth 100000 in
set_option maxHeartbeats 4000000 in
theorem bordersOf_any (p : ByteArray) (w : World) (hp1 : 0 < p.size) (hp : p.size ≤ 1048576) :
    Calls Try.prog 50 #[.string p] w fun e w' => ∃ v, e = .returned v ∧ NRow w' w.heap.size v (bors p p.size) ∧ Below w.heap.size w w' := by
  obtain ⟨i0, hi, hz0, hz1, hz2⟩ := info_parts Try.infoInt
  obtain ⟨W0, hW0⟩ : ∃ W, W = (w.alloc (.cells #[.int .i64 0] 3)).alloc (.cells #[.string p, .slice (some ⟨w.heap.size, 0, none⟩) 1 1, .int .i64 0, .int .i64 0] 74) := ⟨_, rfl⟩
  have hB0 : Below w.heap.size w W0 := by rw [hW0]; exact ((Below.refl _ w).alloc (Nat.le_refl _) _).alloc (by simp) _
  have hH0 : Hol W0 (w.heap.size + 1) p (.slice (some ⟨w.heap.size, 0, none⟩) 1 1) 0 0 := by
    rw [hW0]
    refine ⟨by simp, ?_, ?_, ?_, ?_, ?_, ?_, ?_⟩ <;> first | go_simp | simp
  have hR0 : NRow W0 w.heap.size (.slice (some ⟨w.heap.size, 0, none⟩) 1 1) [0] := by
    rw [hW0]
    have h1 : NRow (w.alloc (.cells #[.int .i64 0] 3)) w.heap.size (.slice (some ⟨w.heap.size, 0, none⟩) 1 1) [0] :=
      ⟨by simp [ints], .inr ⟨w.heap.size, 1, #[.int .i64 0], rfl, Nat.le_refl _, heap_alloc_new w _, Nat.le_refl _, by unfold maxLen; omega, rfl, rfl⟩⟩
    exact World.ownsRow.alloc h1 _
  have HW0 : Hid (W0 = (w.alloc (.cells #[.int .i64 0] 3)).alloc (.cells #[.string p, .slice (some ⟨w.heap.size, 0, none⟩) 1 1, .int .i64 0, .int .i64 0] 74)) := hW0
  clear hW0
  go_enter Try.func50, Try.ntmps50
  go_upto_region 2 with fail
  rw [← HW0.out]
  clear HW0
  go_wp2
  go_loopw [4] (fun vi wr => ∃ (n l : Nat) (vb : Value), 0 < n ∧ n ≤ p.size ∧ vi = .int .i64 (n : Int) ∧ Hol wr (w.heap.size + 1) p vb ((bors p n).getD (n - 1) 0) l ∧ NRow wr w.heap.size vb (bors p n) ∧ (∀ g, vb.ownBlock = some g → g ≠ w.heap.size + 1) ∧ l + (bors p n).getD (n - 1) 0 ≤ 2 * n ∧ Below w.heap.size w wr)
    (fun vi _ => p.size - (intOf vi).toNat)
  case atStart => exact ⟨1, 0, _, by omega, by omega, rfl, hH0, hR0, fun g hg => by simp [Value.ownBlock] at hg; omega, by simp [bors], hB0⟩
  case round =>
    obtain ⟨n, l, vb, hn, hnp, rfl, H1, hR1, hne1, hl1, hb1⟩ := hrel
    have HH1 : Hid (Hol wr (w.heap.size + 1) p vb ((bors p n).getD (n - 1) 0) l) := H1
    have HR1 : Hid (NRow wr w.heap.size vb (bors p n)) := hR1
    have HNE1 : Hid (∀ g, vb.ownBlock = some g → g ≠ w.heap.size + 1) := hne1
    have HL1 : Hid (l + (bors p n).getD (n - 1) 0 ≤ 2 * n) := hl1
    have hs1 := hb1.size
    clear H1 hR1 hne1 hl1 hH0 hR0 hB0
    by_cases hlt : n < p.size
    · have hltI : (n : Int) < (p.size : Int) := by omega
      have hb := bt_get p n hlt
      have hsh := bors_sh p n
      have hbl := bors_len p n
      obtain ⟨m, hm⟩ : ∃ m, n = m + 1 := ⟨n - 1, by omega⟩
      have hk9 := hsh (n - 1)
      have hnx := nx_le (p := p) hsh (bt p n) ((bors p n).getD (n - 1) 0)
      have hlk := lk_nx (p := p) hsh (bt p n) ((bors p n).getD (n - 1) 0)
      have HNX : Hid (bors p (n + 1) = bors p n ++ [nx p (bors p n) (bt p n) ((bors p n).getD (n - 1) 0)]) := by show _ = _; rw [hm, bors]; rfl
      have HGD : Hid ((bors p (n + 1)).getD n 0 = nx p (bors p n) (bt p n) ((bors p n).getD (n - 1) 0)) := by show _ = _; rw [HNX.out, getD_app, if_pos hbl.symm]
      have HTK : Hid (tkK p (bors p n) (bt p n) ((bors p n).getD (n - 1) 0) = nx p (bors p n) (bt p n) ((bors p n).getD (n - 1) 0)) := by show _ = _; unfold tkK; rw [if_neg (by omega)]
      have CT := take_any (w.heap.size + 1) _ l (bt p n) w.heap.size p vb (bors p n) wr HH1.out HR1.out HNE1.out hsh (by omega) (by omega) (fun h => by omega) hp (by have := HL1.out; omega)
      have CT' : Hid (Calls Try.prog 51 #[.pointer (some ⟨w.heap.size + 1, 0, none⟩), .int .u8 ((bt p n : Nat) : Int)] wr fun e w' => (∃ b, e = .returned (.bool b)) ∧ Hol w' (w.heap.size + 1) p vb (nx p (bors p n) (bt p n) ((bors p n).getD (n - 1) 0)) (l + lk p (bors p n) (bt p n) ((bors p n).getD (n - 1) 0)) ∧ wr.grownBy w' (some (w.heap.size + 1))) := by
        rw [HTK.out] at CT
        exact CT.mono fun e w' h => ⟨⟨_, h.1⟩, h.2⟩
      have HLL : Hid (l + lk p (bors p n) (bt p n) ((bors p n).getD (n - 1) 0) + nx p (bors p n) (bt p n) ((bors p n).getD (n - 1) 0) ≤ 2 * (n + 1)) := by
        show _ ≤ _
        have := HL1.out
        omega
      have HBL : Hid ((bors p n).length = n) := hbl
      clear CT hk9 hnx hlk hsh hm HH1 HL1 HTK hbl
      generalize nx p (bors p n) (bt p n) ((bors p n).getD (n - 1) 0) = q at CT' HNX HGD HLL
      generalize lk p (bors p n) (bt p n) ((bors p n).getD (n - 1) 0) = lq9 at CT' HLL
      generalize bors p n = BB at CT' HNX HR1 HBL
      have hqb : q ≤ 4194304 := by have := HLL.out; omega
      go_wp2_with fail
      refine CT'.out.mono ?_
      rintro e w2 ⟨⟨bb, rfl⟩, H2, hg2⟩
      have hR2 : NRow w2 w.heap.size vb BB := HR1.out.grown hg2 (fun g hg e => HNE1.out g hg (by simpa using e))
      have hb2 : Below w.heap.size w w2 := hb1.grown hg2 hs1 (fun k hk => by simp at hk; omega)
      have HH2 : Hid (Hol w2 (w.heap.size + 1) p vb q (l + lq9)) := H2
      obtain ⟨h0, c0, c1, c2, c3, f1, f2, f3⟩ := H2
      have hs2 := hb2.size
      have hown' : w2.ownsRow w.heap.size 3 1 vb BB.length (ints BB) := hR2
      have hLk : BB.length + 1 ≤ 2097152 := by have := HBL.out; omega
      clear hg2 CT' HR1 hb1 hs1 hR2
      go_wp2_with (at_builtin; refine wpList_append_lies _ rfl _ _ 22 rfl w.heap.size 3 i0 (.int .i64 0) 1 8 Try.underlying22 hi hz0 hz1 hz2 rfl (by decide) _ BB.length _ rfl (World.ownsRow.alloc hown' _) ⟨w2.heap.size, 0, none⟩ 1 1 [Value.int .i64 (q : Int)] rfl rfl (World.news_of_block (heap_alloc_new w2 _)) ?c2 (by omega) (by unfold maxLen; omega) (by omega) (by simp; omega) (w2.heap.size + 1) (by simp) ?_)
      case c2 => intro u hu; simp at hu; subst hu; rfl
      intro g9 cap9 w4 hown4 hgrow hat hlt4
      have hne2 : some (w.heap.size + 1) ≠ vb.ownBlock := fun e => HNE1.out _ e.symm rfl
      have H4 : Hol w4 (w.heap.size + 1) p vb q (l + lq9) := (HH2.out.below ((Below.refl _ w2).alloc (Nat.le_refl _) _)).grown hgrow hne2
      have HH4 : Hid (Hol w4 (w.heap.size + 1) p vb q (l + lq9)) := H4
      have hb4 : Below w.heap.size w w4 := (hb2.alloc hs2 _).grown hgrow (by simp; omega) (fun k hk => (World.ownsRow.lt hown' k hk).1)
      have hR4 : NRow w4 w.heap.size (.slice (some ⟨g9, 0, none⟩) (BB.length + 1) cap9) (BB ++ [q]) := NRow.snoc hown4 rfl rfl
      have hg9 : g9 ≠ w.heap.size + 1 := by
        rcases hat with h | h
        · exact HNE1.out g9 h
        · omega
      clear c0 c1 c2 c3 f1 f2 f3 h0 hown4 hgrow hat hown' hb2
      obtain ⟨h0, c0, c1, c2, c3, f1, f2, f3⟩ := H4
      go_wp2
      go_roundw
      case rel =>
        refine ⟨n + 1, l + lq9, .slice (some ⟨g9, 0, none⟩) (BB.length + 1) cap9, by omega, by omega, by go_num, ?_, ?_, fun g hg => by simp [Value.ownBlock] at hg; omega, ?_, hb4.setCell (by show w.heap.size ≤ w.heap.size + 1; omega) _⟩
        · rw [Nat.add_sub_cancel, HGD.out]
          refine ⟨by simpa using h0, ?_, World.cell?_setCell_same _ _ _ c1, ?_, ?_, by rw [World.frozen?_setCell]; exact f1, by rw [World.frozen?_setCell]; exact f2, by rw [World.frozen?_setCell]; exact f3⟩
          · rw [World.cell?_setCell_other _ _ _ _ (by simp)]; exact c0
          · rw [World.cell?_setCell_other _ _ _ _ (by simp)]; exact c2
          · rw [World.cell?_setCell_other _ _ _ _ (by simp)]; exact c3
        · rw [HNX.out]
          exact hR4.grown (Lib.grownBy_setCell w4 (w.heap.size + 1) 1 _) (fun g hg e => by simp [Value.ownBlock] at hg e; omega)
        · rw [Nat.add_sub_cancel, HGD.out]; exact HLL.out
      case measure => simp [intOf]; omega
    · have hke : n = p.size := by omega
      have hge : ¬ ((n : Int) < (p.size : Int)) := by omega
      have hRE : Hid (NRow wr w.heap.size vb (bors p p.size)) := by show NRow _ _ _ _; rw [← hke]; exact HR1.out
      obtain ⟨h0, c0, c1, c2, c3, f1, f2, f3⟩ := HH1.out
      clear hke HR1 HL1
      go_wp2
      go_ret
      exact ⟨_, rfl, hRE.out, hb1⟩

end Go.Proofs.Ytbmgcnondeoddaa
