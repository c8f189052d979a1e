/- The program's fitsPart at every shape, and FitsSchema. -/
import Derived.Test.YtpajdmhakdbkjaaPfF
import Derived.Test.YtpajdmhakdbkjaaDfE
namespace Go.Proofs.Ytpajdmhakdbkjaa
open Go.RowKit Plain Sch

theorem one_nil {α : Type} {h : α} {M : List α} : (h :: M).length = 1 ↔ M = [] := by simp

theorem fitsLeaf (d : Nat) (s : Nat) (h : Ty) (M : List Ty) (t : Tr) (ua : TypeId) (uv : Value) (nm : ByteArray) (mu : Bool) (up : Int) (g o cap : Nat) (w : World) (hlf : Leaf (.iface ua uv) t) (hin : PcIn w g o (s, h :: M)) (hg : g < w.heap.size) (hc : cap ≤ maxLen) (hnm : ∀ i, i < (h :: M).length → (ty (h :: M) i).name.size ≤ maxLen) :
    Calls Try.prog 46 #[.agg #[.int .i64 (s : Int), .slice (some ⟨g, o + s * 5, none⟩) (h :: M).length cap], .agg #[.string nm, .int .i64 t.no, .bool mu, .iface ua uv], .int .i64 up] w fun e w' => ∃ b, e = .returned (.bool b) ∧ (b = true ↔ Fp d up (s, h :: M) t) ∧ Below w.heap.size w w' := by
  have h0 : NoIn w g (o + s * 5) h := by have := hin 0 (by simp); exact this
  have hn0 : h.name.size ≤ maxLen := hnm 0 (by simp)
  obtain ⟨_, ⟨hk, hv⟩ | ⟨hk, hv⟩ | ⟨hk, hv⟩⟩ := hlf
  · simp only [Value.iface.injEq] at hv
    obtain ⟨rfl, rfl⟩ := hv
    refine (fitsNum (.agg #[]) h s g (o + s * 5) (h :: M).length cap nm t.no mu up w h0 hg (by simp) hc).mono ?_
    rintro e w' ⟨b, rfl, hb, hB⟩
    refine ⟨b, rfl, ?_, hB⟩
    rw [hb, fp_num d up s h M t hk, one_nil]
  · simp only [Value.iface.injEq] at hv
    obtain ⟨rfl, rfl⟩ := hv
    refine (fitsTxt h s g (o + s * 5) (h :: M).length cap nm t.no mu up w h0 hg (by simp) hc hn0).mono ?_
    rintro e w' ⟨b, rfl, hb, hB⟩
    refine ⟨b, rfl, ?_, hB⟩
    rw [hb, fp_text d up s h M t hk, one_nil]
  · simp only [Value.iface.injEq] at hv
    obtain ⟨rfl, rfl⟩ := hv
    refine (fitsEnu t.most h s g (o + s * 5) (h :: M).length cap nm t.no mu up w h0 hg (by simp) hc).mono ?_
    rintro e w' ⟨b, rfl, hb, hB⟩
    refine ⟨b, rfl, ?_, hB⟩
    rw [hb, fp_enum d up s h M t hk, one_nil]

theorem fits_any : ∀ d, FitOK d := by
  intro d
  induction d with
  | zero =>
    rintro ⟨s, L⟩ t ua uv nm mu up g o cap S w hsh hS hG hin hg h0 hl hnc hc hnm
    cases L with
    | nil => simp at h0
    | cons h M => exact fitsLeaf 0 s h M t ua uv nm mu up g o cap w hsh hin hg hc hnm
  | succ d ih =>
    rintro ⟨s, L⟩ t ua uv nm mu up g o cap S w hsh hS hG hin hg h0 hl hnc hc hnm
    cases L with
    | nil => simp at h0
    | cons h M =>
      dsimp only at hin hl hnc hnm ⊢
      have hn0 : NoIn w g (o + s * 5) h := by have := hin 0 (by simp); exact this
      obtain ⟨_, ⟨_, hK4, hK5⟩, hGk⟩ := (GT_iff t).1 hG
      rcases hsh with hlf | ⟨hk, x, l, u, hkids, hv, hx⟩ | ⟨hk, ao, cp, hv, h1, h2, hrow⟩
      · exact fitsLeaf (d + 1) s h M t ua uv nm mu up g o cap w hlf hin hg hc hnm
      · simp only [Value.iface.injEq] at hv
        obtain ⟨rfl, rfl⟩ := hv
        obtain ⟨x', hx1, _, hx3, _⟩ := hK4 hk
        rw [hkids] at hx1
        simp only [List.cons.injEq] at hx1
        obtain ⟨rfl, rfl⟩ := hx1
        refine (fitsLst u.1 u.2 (∀ q ∈ own s (s + 1) M, Fp d s q x) h s g (o + s * 5) (h :: M).length cap nm t.no mu up w hn0 hg (by simp) hc (fun W hW => ?_)).mono ?_
        · exact fitItems_of d ih s h M x u.1 u.2 g o cap S W (hx.kept (fun g hg => hW.block g (hS g hg)) (fun _ h => h)) (fun g hg => by have := hS g hg; have := hW.size; omega) (hGk x (by rw [hkids]; simp)) hx3 (hin.below hW hg) (by have := hW.size; omega) hl hnc hc hnm
        · rintro e w' ⟨b, rfl, hb, hB⟩
          refine ⟨b, rfl, ?_, hB⟩
          rw [hb, fp_list d up s h M t x [] hk hkids hx3]
      · simp only [Value.iface.injEq] at hv
        obtain ⟨rfl, rfl⟩ := hv
        refine (fitsMsg ao t.kids.length cp (GoP (Fp d s) t.kids (own s (s + 1) M)) h s g (o + s * 5) (h :: M).length cap nm t.no mu up w hn0 hg (by simp) hc (fun W hW => ?_)).mono ?_
        · refine fitParts_of d ih s h M t.kids ao cp g o cap S W ?_ (fun g hg => by have := hS g hg; have := hW.size; omega) hGk (hin.below hW hg) (by have := hW.size; omega) hl hnc hc hnm
          have hp : PartsIn d w S (.slice ao t.kids.length cp) t.kids := ⟨ao, cp, rfl, h1, h2, hrow⟩
          exact hp.kept (fun g hg => hW.block g (hS g hg)) (fun _ h => h)
        · rintro e w' ⟨b, rfl, hb, hB⟩
          refine ⟨b, rfl, ?_, hB⟩
          rw [hb, fp_msg d up s h M t hk ((hK5 hk).2.imp (fun h => h.1))]

/-- what FitsSchema tells -/
def fof4 (V T : List Ty) : Bool := gs T && (nds V && vfitS 41 (tree V 41 0) (tree T 41 0))

theorem fof4_yes (V T : List Ty) (hg : gs T = true) (h1 : 1 ≤ V.length) (h40 : V.length ≤ 40) : fof4 V T = true ↔ Fp 41 (-1) (0, V) (tree T 41 0) := by
  unfold fof4
  rw [hg, Bool.true_and]
  have ht := gs_types T hg
  have hG := tree_good T hg 41 0 (by omega) (by omega)
  obtain ⟨_, _, o1, _⟩ := tree_top T hg 41
  exact fits_eq V (tree T 41 0) 41 41 h1 h40 (by omega) (gt_kt _ hG) o1

theorem fof4_short (V T : List Ty) (h : ¬ (1 ≤ V.length ∧ V.length ≤ 40)) : fof4 V T = false := by
  have : nds V = false := by
    unfold nds
    by_cases h1 : 1 ≤ V.length <;> by_cases h2 : V.length ≤ 40 <;> simp [h1, h2] <;> omega
  unfold fof4
  rw [this]
  simp

set_option maxRecDepth 100000 in
set_option maxHeartbeats 4000000 in
theorem implFits (V T : List Ty) (vv' v : Value) (w : World) (hV : NdsAt w w.heap.size vv' V) (hT : TysAt w w.heap.size v T) :
    Calls Try.prog 13 #[.agg #[vv'], .agg #[v]] w fun e w' => e = .returned (.bool (fof4 V T)) ∧ Below w.heap.size w w' := by
  have HV : Hid (NdsAt w w.heap.size vv' V) := hV
  have HT : Hid (TysAt w w.heap.size v T) := hT
  obtain ⟨R, hR⟩ : ∃ R, R = fof4 V T := ⟨_, rfl⟩
  rw [← hR]
  have HR : Hid (R = fof4 V T) := hR
  clear hR
  obtain ⟨av, capv, rfl, hlv, hcv, _⟩ := hV
  obtain ⟨aa, capa, rfl, _⟩ := hT
  have hcv' : capv ≤ 9223372036854775807 := by unfold maxLen at hcv; omega
  obtain ⟨W2, hW2⟩ : ∃ W, W = (w.alloc (.cells #[.slice av V.length capv] 29)).alloc (.cells #[.slice aa T.length capa] 25) := ⟨_, rfl⟩
  have hB2 : Below w.heap.size w W2 := by rw [hW2]; exact ((Below.refl _ w).alloc (Nat.le_refl _) _).alloc (by simp) _
  have HS2 : Hid (W2.heap.size = w.heap.size + 2) := by show _ = _; rw [hW2]; simp
  have k0 : W2.cell? ⟨w.heap.size, 0, none⟩ = some (.slice av V.length capv) := by rw [hW2]; go_simp
  have k1 : W2.cell? ⟨w.heap.size + 1, 0, none⟩ = some (.slice aa T.length capa) := by rw [hW2]; go_simp
  have HC2 : Hid (∀ W : World, Below W2.heap.size W2 W → (W.cell? ⟨w.heap.size, 0, none⟩ = some (.slice av V.length capv) ∧ W.cell? ⟨w.heap.size + 1, 0, none⟩ = some (.slice aa T.length capa) ∧ w.heap.size + 1 < W.heap.size) ∧ Below w.heap.size w W) := fun W hW => by
    have hs := HS2.out
    have h2 := hW.size
    exact ⟨⟨(hW.cell (p := ⟨w.heap.size, 0, none⟩) (by show w.heap.size < _; omega)).trans k0, (hW.cell (p := ⟨w.heap.size + 1, 0, none⟩) (by show w.heap.size + 1 < _; omega)).trans k1, by omega⟩, hB2.trans (hW.mono hB2.size)⟩
  go_enter Try.func13, Try.ntmps13
  go_wp2_with fail
  rw [← hW2]
  clear hW2 k0 k1
  refine (implGoodT T _ _ (HT.out.below hB2)).mono ?_
  rintro e w3 ⟨rfl, hb3⟩
  obtain ⟨⟨q0, q1, hz3⟩, hB3⟩ := HC2.out _ hb3
  rcases hg : gs T with _ | _
  · have hn : Hid (R = false) := HR.out.trans (by unfold fof4; rw [hg]; rfl)
    clear hg HR
    go_wp2
    go_ret
    exact ⟨by rw [hn.out]; rfl, hB3⟩
  · by_cases h1 : V.length < 1
    · have hn : Hid (R = false) := HR.out.trans (fof4_short V T (by omega))
      have h1' : decide ((V.length : Int) < 1) = true := by simp; omega
      have h1n : V.length = 0 := by omega
      clear hg HR h1
      go_wp2
      go_ret
      exact ⟨by rw [hn.out]; rfl, hB3⟩
    · by_cases h40 : 40 < V.length
      · have hn : Hid (R = false) := HR.out.trans (fof4_short V T (by omega))
        have h1' : decide ((V.length : Int) < 1) = false := by simp; omega
        have h40' : decide ((V.length : Int) > 40) = true := by simp; omega
        have h1n : ¬ V.length = 0 := by omega
        have h40i : (40 : Int) < (V.length : Int) := by omega
        clear hg HR h1
        go_wp2
        go_ret
        exact ⟨by rw [hn.out]; rfl, hB3⟩
      · have HY : Hid (R = true ↔ Fp 41 (-1) (0, V) (tree T 41 0)) := by
          show _ ↔ _
          rw [HR.out]
          exact fof4_yes V T hg (by omega) (by omega)
        obtain ⟨gv, ov, cv, hvv, _, _, hgv, hrow, hnm⟩ := HV.out.open (by omega)
        simp only [Value.slice.injEq, true_and] at hvv
        obtain ⟨rfl, rfl⟩ := hvv
        have ht1 := gs_types T hg
        obtain ⟨_, n1, o1, m1⟩ := tree_top T hg 41
        have HGT : Hid (GT (tree T 41 0)) := tree_good T hg 41 0 (by omega) (by omega)
        have HIN : Hid (PcIn w gv ov (0, V)) := fun i hi => by rw [Nat.zero_add]; exact hrow i hi
        have HNM : Hid (∀ i, i < V.length → (ty V i).name.size ≤ maxLen) := hnm
        have hVl : V.length ≤ 40 := by omega
        have WP : Hid (∀ W : World, Below W2.heap.size W2 W → Calls Try.prog 41 #[.agg #[.slice aa T.length capa]] W fun e w' => ∃ u : TypeId × Value, e = .returned (.agg #[.string ⟨#[]⟩, .int .i64 0, .bool false, .iface u.1 u.2]) ∧ ShIn 41 w' (fun g => W.heap.size ≤ g ∧ g < w'.heap.size) (.iface u.1 u.2) (tree T 41 0) ∧ Below W.heap.size W w') := fun W hW => wholePart_any T _ W (HT.out.below (HC2.out W hW).2) hg
        have FP : Hid (∀ (ua : TypeId) (uv : Value) (S : Nat → Prop) (W : World), Below W2.heap.size W2 W → ShIn 41 W S (.iface ua uv) (tree T 41 0) → (∀ g, S g → g < W.heap.size) → Calls Try.prog 46 #[.agg #[.int .i64 0, .slice (some ⟨gv, ov, none⟩) V.length capv], .agg #[.string ⟨#[]⟩, .int .i64 0, .bool false, .iface ua uv], .int .i64 (-1)] W fun e w' => e = .returned (.bool R) ∧ Below W.heap.size W w') := fun ua uv S W hW hsh hS => by
          have hB := (HC2.out W hW).2
          have hsz := hB.size
          have := fits_any 41 (0, V) (tree T 41 0) ua uv ⟨#[]⟩ false (-1) gv ov capv S W hsh hS HGT.out (HIN.out.below hB hgv) (by omega) (by dsimp only; omega) (by dsimp only; omega) hlv hcv HNM.out
          dsimp only at this
          rw [o1, Nat.zero_mul, Nat.add_zero] at this
          refine this.mono ?_
          rintro e w' ⟨b, rfl, hb, hbw⟩
          refine ⟨?_, hbw⟩
          have : b = R := by rw [Bool.eq_iff_iff, hb, HY.out]
          rw [this]
        have h1' : decide ((V.length : Int) < 1) = false := by simp; omega
        have h40' : decide ((V.length : Int) > 40) = false := by simp; omega
        have h1n : ¬ V.length = 0 := by omega
        have h40i : ¬ (40 : Int) < (V.length : Int) := by omega
        have hd3 : Hid (Below W2.heap.size W2 w3.drew) := hb3.drew
        clear hg HR h1 h40 hrow hnm HIN HNM HGT HV HT n1 o1 m1 HY
        generalize tree T 41 0 = TT at *
        go_upto_region 3 with fail
        go_region_with (first
          | (go_at_call 46; refine (FP.out ua uv _ w4 hb4w hsh (fun g hg => hg.2)).mono ?_; rintro e w5 ⟨rfl, hb5⟩; have hB5 : Below w.heap.size w w5 := hB4.trans (hb5.mono hB4.size))
          | (go_at_call 41; refine (WP.out _ hd3.out).mono ?_; rintro e w4 ⟨⟨ua, uv⟩, rfl, hsh, hb4⟩; have hb4w : Below W2.heap.size W2 w4 := hd3.out.trans (hb4.mono hd3.out.size); have hB4 := (HC2.out _ hb4w).2; have q04 := (HC2.out _ hb4w).1.1; have hz4 := (HC2.out _ hb4w).1.2.2))
        all_goals
          go_wp2
          go_ret
          exact ⟨rfl, hB5⟩

end Go.Proofs.Ytpajdmhakdbkjaa
