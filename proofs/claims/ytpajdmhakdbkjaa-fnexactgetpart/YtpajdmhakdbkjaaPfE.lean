/- The program's fitItems, fitParts and fitsPart at every shape. -/
import Derived.Test.YtpajdmhakdbkjaaPfC
import Derived.Test.YtpajdmhakdbkjaaPfD
import Derived.Deep.RegionWith
namespace Go.Proofs.Ytpajdmhakdbkjaa
open Go.RowKit Plain Sch

/-- what fitsPart is to answer at shapes d steps deep -/
def FitOK (d : Nat) : Prop := ∀ (q : Nat × List Ty) (t : Tr) (ua : TypeId) (uv : Value) (nm : ByteArray) (mu : Bool) (up : Int) (g o cap : Nat) (S : Nat → Prop) (w : World),
  ShIn d w S (.iface ua uv) t → (∀ g, S g → g < w.heap.size) → GT t → PcIn w g o q → g < w.heap.size → 0 < q.2.length → q.1 + q.2.length ≤ 2097152 → q.2.length ≤ cap → cap ≤ maxLen → (∀ i, i < q.2.length → (ty q.2 i).name.size ≤ maxLen) →
  Calls Try.prog 46 #[.agg #[.int .i64 (q.1 : Int), .slice (some ⟨g, o + q.1 * 5, none⟩) q.2.length cap], .agg #[.string nm, .int .i64 t.no, .bool mu, .iface ua uv], .int .i64 up] w fun e w' => ∃ b, e = .returned (.bool b) ∧ (b = true ↔ Fp d up q t) ∧ Below w.heap.size w w'

/-- what is known of the pieces that a piece is cut into -/
structure Cuts (w : World) (g o lim : Nat) (P : List (Nat × List Ty)) : Prop where
  inn : ∀ q ∈ P, PcIn w g o q
  pos : ∀ q ∈ P, 0 < q.2.length
  lim : ∀ q ∈ P, q.1 + q.2.length ≤ lim
  nam : ∀ q ∈ P, ∀ i, i < q.2.length → (ty q.2 i).name.size ≤ maxLen

theorem run_cuts {w : World} {g o lim : Nat} : ∀ (P : List (Nat × List Ty)) (s : Nat), Run s P → PcIn w g o (s, P.flatMap Prod.snd) → s + (P.flatMap Prod.snd).length ≤ lim → (∀ i, i < (P.flatMap Prod.snd).length → (ty (P.flatMap Prod.snd) i).name.size ≤ maxLen) → Cuts w g o lim P
  | [], _, _, _, _, _ => ⟨fun q hq => by simp at hq, fun q hq => by simp at hq, fun q hq => by simp at hq, fun q hq => by simp at hq⟩
  | (s', L) :: P, s, h, hin, hl, hn => by
    obtain ⟨h1, h2, h3⟩ := h
    dsimp only at h1 h2 h3
    subst h1
    rw [List.flatMap_cons] at hin hl hn
    dsimp only at hin hl hn
    rw [List.length_append] at hl hn
    have hty1 : ∀ i, i < L.length → ty (L ++ P.flatMap Prod.snd) i = ty L i := fun i hi => ty_append_left hi
    have hty2 : ∀ i, ty (L ++ P.flatMap Prod.snd) (L.length + i) = ty (P.flatMap Prod.snd) i := fun i => by
      unfold ty
      rw [List.getD_eq_getElem?_getD, List.getD_eq_getElem?_getD, List.getElem?_append_right (by omega), show L.length + i - L.length = i by omega]
    have ih := run_cuts (lim := lim) P (s' + L.length) h3 (fun i hi => by
      dsimp only at hi
      have := hin (L.length + i) (by dsimp only; rw [List.length_append]; omega)
      dsimp only at this
      rwa [hty2 i, show s' + (L.length + i) = s' + L.length + i by omega] at this) (by omega) (fun i hi => by
      have := hn (L.length + i) (by omega)
      rwa [hty2 i] at this)
    have hpos : 0 < L.length := by
      cases L with
      | nil => exact absurd rfl h2
      | cons x l => simp
    refine ⟨fun q hq => ?_, fun q hq => ?_, fun q hq => ?_, fun q hq => ?_⟩
    · rcases List.mem_cons.1 hq with rfl | hq
      · intro i hi
        have := hin i (by dsimp only at hi ⊢; rw [List.length_append]; omega)
        dsimp only at this hi ⊢
        rwa [hty1 i hi] at this
      · exact ih.inn q hq
    · rcases List.mem_cons.1 hq with rfl | hq
      · exact hpos
      · exact ih.pos q hq
    · rcases List.mem_cons.1 hq with rfl | hq
      · dsimp only; omega
      · exact ih.lim q hq
    · rcases List.mem_cons.1 hq with rfl | hq
      · intro i hi
        dsimp only at hi ⊢
        have := hn i (by omega)
        rwa [hty1 i hi] at this
      · exact ih.nam q hq

theorem own_cuts {w : World} {g o lim s : Nat} {h : Ty} {M : List Ty} (hin : PcIn w g o (s, h :: M)) (hl : s + (h :: M).length ≤ lim) (hn : ∀ i, i < (h :: M).length → (ty (h :: M) i).name.size ≤ maxLen) : Cuts w g o lim (own s (s + 1) M) := by
  refine run_cuts _ (s + 1) (own_run s (s + 1) M) ?_ ?_ ?_
  · rw [own_join]
    intro i hi
    have := hin (i + 1) (by dsimp only at hi ⊢; simp; omega)
    dsimp only at this ⊢
    rwa [show ty (h :: M) (i + 1) = ty M i by simp [ty], show s + (i + 1) = s + 1 + i by omega] at this
  · rw [own_join]; simp at hl; omega
  · rw [own_join]
    intro i hi
    have := hn (i + 1) (by simp; omega)
    rwa [show ty (h :: M) (i + 1) = ty M i by simp [ty]] at this

theorem pcs_cells {w : World} {B g o : Nat} {r : Value} {P : List (Nat × List Ty)} (h : w.ownsRow B 88 2 r P.length (P.flatMap (pcs g o))) : ∃ ar cap, r = .slice ar P.length cap ∧ P.length ≤ cap ∧ cap ≤ maxLen ∧ ∀ i q, P[i]? = some q → ∃ gr : Nat, ar = some ⟨gr, 0, none⟩ ∧ B ≤ gr ∧ gr < w.heap.size ∧ w.cell? ⟨gr, i * 2, none⟩ = some (.int .i64 (q.1 : Int)) ∧ w.cell? ⟨gr, i * 2 + 1, none⟩ = some (.slice (some ⟨g, o + q.1 * 5, none⟩) q.2.length q.2.length) := by
  have h0 := h
  have hflat : ∀ (P : List (Nat × List Ty)) (i j : Nat) (q : Nat × List Ty), P[i]? = some q → j < 2 → (P.flatMap (pcs g o))[i * 2 + j]? = (pcs g o q)[j]? := by
    intro P
    induction P with
    | nil => intro i j q h; simp at h
    | cons a l ih =>
      intro i j q h hj
      rw [List.flatMap_cons]
      cases i with
      | zero =>
        simp at h; subst h
        rw [Nat.zero_mul, Nat.zero_add, List.getElem?_append_left (by show j < 2; exact hj)]
      | succ i =>
        simp at h
        rw [List.getElem?_append_right (by show 2 ≤ _; omega), ← ih i j q h hj]
        congr 1
        show (i + 1) * 2 + j - 2 = _
        omega
  rcases h.2 with ⟨rfl, hn0⟩ | ⟨gr, cap, cur, rfl, hB, hb, hnc, hcm, _⟩
  · refine ⟨none, 0, by rw [hn0], by omega, by unfold maxLen; omega, fun i q hi => ?_⟩
    have : i < P.length := (List.getElem?_eq_some_iff.1 hi).1
    omega
  · refine ⟨some ⟨gr, 0, none⟩, cap, rfl, hnc, hcm, fun i q hi => ?_⟩
    have hil : i < P.length := (List.getElem?_eq_some_iff.1 hi).1
    have c : ∀ j, j < 2 → w.cell? ⟨gr, i * 2 + j, none⟩ = (pcs g o q)[j]? := fun j hj => by
      rw [h0.cellAt (i * 2 + j) (by omega)]
      exact hflat P i j q hi hj
    exact ⟨gr, rfl, hB, (h0.lt gr rfl).2, c 0 (by omega), c 1 (by omega)⟩

set_option maxRecDepth 100000 in
set_option maxHeartbeats 4000000 in
theorem fitItems_of (d : Nat) (ih0 : FitOK d) (s : Nat) (h : Ty) (M : List Ty) (it : Tr) (xa : TypeId) (xv : Value) (g o cap : Nat) (S : Nat → Prop) (w : World) (hsh : ShIn d w S (.iface xa xv) it) (hS : ∀ g, S g → g < w.heap.size) (hG : GT it) (hit : it.no = 0) (hin : PcIn w g o (s, h :: M)) (hg : g < w.heap.size) (hl : s + (h :: M).length ≤ 2097152) (hnc : (h :: M).length ≤ cap) (hc : cap ≤ maxLen) (hnm : ∀ i, i < (h :: M).length → (ty (h :: M) i).name.size ≤ maxLen) :
    Calls Try.prog 85 #[.agg #[.int .i64 (s : Int), .slice (some ⟨g, o + s * 5, none⟩) (h :: M).length cap], .iface xa xv] w fun e w' => ∃ b, e = .returned (.bool b) ∧ (b = true ↔ ∀ q ∈ own s (s + 1) M, Fp d s q it) ∧ Below w.heap.size w w' := by
  have ih : Hid (FitOK d) := ih0
  clear ih0
  have HCU : Hid (Cuts w g o 2097152 (own s (s + 1) M)) := own_cuts hin hl hnm
  have hown := fun W (hW : Below w.heap.size w W) => own_any (h :: M) s g o cap W (hin.below hW hg) (by have := hW.size; omega) (by simp) hl hnc hc
  have HOWN : Hid (∀ W, Below w.heap.size w W → Calls Try.prog 51 #[.agg #[.int .i64 (s : Int), .slice (some ⟨g, o + s * 5, none⟩) (h :: M).length cap]] W fun e w' => ∃ r, e = .returned r ∧ w'.ownsRow W.heap.size 88 2 r (own s (s + 1) M).length ((own s (s + 1) M).flatMap (pcs g o)) ∧ Below W.heap.size W w') := hown
  have HSH : Hid (ShIn d w S (.iface xa xv) it) := hsh
  have HSS : Hid (∀ g, S g → g < w.heap.size) := hS
  have HGT : Hid (GT it) := hG
  have HIT : Hid (it.no = 0) := hit
  have hc' : cap ≤ 9223372036854775807 := by unfold maxLen at hc; omega
  have hPl : (own s (s + 1) M).length ≤ 2097152 := by
    have : ∀ (P : List (Nat × List Ty)) (s : Nat), Run s P → P.length ≤ (P.flatMap Prod.snd).length := by
      intro P
      induction P with
      | nil => intro s _; simp
      | cons q P ihP =>
        intro s hr
        have := ihP _ hr.2.2
        have h2 := hr.2.1
        rw [List.flatMap_cons, List.length_append, List.length_cons]
        have : 0 < q.2.length := by
          cases hq : q.2 with
          | nil => exact absurd hq h2
          | cons x l => simp
        omega
    have := this _ _ (own_run s (s + 1) M)
    rw [own_join] at this
    simp at hl
    omega
  obtain ⟨P, hP⟩ : ∃ P, P = own s (s + 1) M := ⟨_, rfl⟩
  rw [← hP] at HCU HOWN hPl ⊢
  clear hP hown hsh hS hG hit hin hnm
  obtain ⟨ln, hln⟩ : ∃ n, n = (h :: M).length := ⟨_, rfl⟩
  rw [← hln] at HOWN hnc hl ⊢
  clear hln
  obtain ⟨R, hR⟩ : ∃ R : Prop, R = (∀ q ∈ P, Fp d s q it) := ⟨_, rfl⟩
  rw [← hR]
  have HR : Hid (R = (∀ q ∈ P, Fp d s q it)) := hR
  clear hR
  obtain ⟨ob, hob⟩ : ∃ ob, ob = o + s * 5 := ⟨_, rfl⟩
  rw [← hob] at HOWN ⊢
  clear hob
  obtain ⟨W1, hW1⟩ : ∃ W, W = w.alloc (.cells #[.int .i64 (s : Int), .slice (some ⟨g, ob, none⟩) ln cap] 88) := ⟨_, rfl⟩
  have hB1 : Below w.heap.size w W1 := by rw [hW1]; exact (Below.refl _ w).alloc (Nat.le_refl _) _
  have HS1 : Hid (W1.heap.size = w.heap.size + 1) := by show _ = _; rw [hW1]; simp
  have k0 : W1.cell? ⟨w.heap.size, 0, none⟩ = some (.int .i64 (s : Int)) := by rw [hW1]; go_simp
  have k1 : W1.cell? ⟨w.heap.size, 1, none⟩ = some (.slice (some ⟨g, ob, none⟩) ln cap) := by rw [hW1]; go_simp
  go_enter Try.func85, Try.ntmps85
  go_upto_region 1 with fail
  rw [← hW1]
  clear hW1
  go_wp2_with fail
  refine (HOWN.out W1 hB1).mono ?_
  rintro e w2 ⟨r, rfl, hrow, hb2⟩
  obtain ⟨ar, cr, rfl, hlr, hcr, hcells⟩ := pcs_cells hrow
  have hcr' : cr ≤ 9223372036854775807 := by unfold maxLen at hcr; omega
  have HCE : Hid (∀ i q, P[i]? = some q → ∃ gr : Nat, ar = some ⟨gr, 0, none⟩ ∧ W1.heap.size ≤ gr ∧ gr < w2.heap.size ∧ w2.cell? ⟨gr, i * 2, none⟩ = some (.int .i64 (q.1 : Int)) ∧ w2.cell? ⟨gr, i * 2 + 1, none⟩ = some (.slice (some ⟨g, o + q.1 * 5, none⟩) q.2.length q.2.length)) := hcells
  clear hcells hrow
  have hs1 := HS1.out
  have hs2 := hb2.size
  have q0 := (hb2.cell (p := ⟨w.heap.size, 0, none⟩) (by show w.heap.size < _; omega)).trans k0
  have hB2 : Below w.heap.size w w2 := hB1.trans (hb2.mono hB1.size)
  have hz2 : w.heap.size < w2.heap.size := by omega
  clear k0 k1 HOWN hb2
  go_wp2
  go_loopw [10] (fun vi wr => ∃ i : Nat, i ≤ P.length ∧ vi = .int .i64 (i : Int) ∧ Hid (∀ j q, j < i → P[j]? = some q → Fp d s q it) ∧ Below w2.heap.size w2 wr)
    (fun vi _ => P.length - (intOf vi).toNat)
  case atStart => exact ⟨0, by omega, rfl, fun j q hj => by omega, Below.refl _ _⟩
  case round =>
    obtain ⟨i, hil, rfl, hall, hbw⟩ := hrel
    have hB0 : Below w.heap.size w wr := hB2.trans (hbw.mono hB2.size)
    have hsr := hbw.size
    by_cases hlt : i < P.length
    · have hltI : (i : Int) < (P.length : Int) := by omega
      obtain ⟨q, hq⟩ : ∃ q, P[i]? = some q := ⟨_, List.getElem?_eq_getElem hlt⟩
      obtain ⟨gr, har, hgr1, hgr2, e0, e1⟩ := HCE.out i q hq
      subst har
      have hqm := List.mem_of_getElem? hq
      have e0 := (hbw.cell (p := ⟨gr, i * 2, none⟩) hgr2).trans e0
      have e1 := (hbw.cell (p := ⟨gr, i * 2 + 1, none⟩) hgr2).trans e1
      have q0r := (hbw.cell (p := ⟨w.heap.size, 0, none⟩) hz2).trans q0
      have hzr : w.heap.size < wr.heap.size := by omega
      have hgrr : gr < wr.heap.size := by omega
      have hBa : Below w.heap.size w (wr.alloc (.cells #[.int .i64 (q.1 : Int), .slice (some ⟨g, o + q.1 * 5, none⟩) q.2.length q.2.length] 88)) := hB0.alloc hB0.size _
      have IC := ih.out q it xa xv ⟨#[]⟩ false s g o q.2.length S (wr.alloc (.cells #[.int .i64 (q.1 : Int), .slice (some ⟨g, o + q.1 * 5, none⟩) q.2.length q.2.length] 88)) (HSH.out.kept (fun g hg => hBa.block g (HSS.out g hg)) (fun _ h => h)) (fun g hg => by have h1 := HSS.out g hg; have h2 := hBa.size; omega) HGT.out ((HCU.out.inn q hqm).below hBa hg) (by have h2 := hBa.size; omega) (HCU.out.pos q hqm) (HCU.out.lim q hqm) (Nat.le_refl _) (by have := HCU.out.lim q hqm; unfold maxLen; omega) (HCU.out.nam q hqm)
      rw [HIT.out] at IC
      have IC' : Hid (Calls Try.prog 46 #[.agg #[.int .i64 (q.1 : Int), .slice (some ⟨g, o + q.1 * 5, none⟩) q.2.length q.2.length], .agg #[.string ⟨#[]⟩, .int .i64 0, .bool false, .iface xa xv], .int .i64 (s : Int)] (wr.alloc (.cells #[.int .i64 (q.1 : Int), .slice (some ⟨g, o + q.1 * 5, none⟩) q.2.length q.2.length] 88)) fun e w' => ∃ b, e = .returned (.bool b) ∧ (b = true ↔ Fp d s q it) ∧ Below (wr.alloc (.cells #[.int .i64 (q.1 : Int), .slice (some ⟨g, o + q.1 * 5, none⟩) q.2.length q.2.length] 88)).heap.size (wr.alloc (.cells #[.int .i64 (q.1 : Int), .slice (some ⟨g, o + q.1 * 5, none⟩) q.2.length q.2.length] 88)) w') := IC
      clear IC
      go_wp2_with fail
      refine IC'.out.mono ?_
      rintro e w5 ⟨fb, rfl, hfb, hb5⟩
      have HFB : Hid (fb = true ↔ Fp d s q it) := hfb
      have hbw5 : Below w2.heap.size w2 w5 := (hbw.alloc hbw.size _).trans (hb5.mono (by simp; omega))
      have hB5 : Below w.heap.size w w5 := hBa.trans (hb5.mono hBa.size)
      clear hb5 IC' hfb e0 e1
      cases fb
      · have hn : Hid (¬ R) := by
          show ¬ R
          rw [HR.out]
          intro hh
          have := HFB.out.2 (hh q hqm)
          cases this
        go_wp2
        go_ret
        exact ⟨false, rfl, ⟨fun hh => (by cases hh), fun hh => absurd hh hn.out⟩, hB5⟩
      · have hall2 : Hid (∀ j z, j < i + 1 → P[j]? = some z → Fp d s z it) := fun j z hj hz => by
          by_cases hji : j = i
          · subst hji; rw [hq] at hz; cases hz; exact HFB.out.1 rfl
          · exact hall.out j z (by omega) hz
        clear hall
        go_wp2
        go_roundw
        case rel => exact ⟨i + 1, by omega, by go_num, hall2, hbw5⟩
        case measure => simp [intOf]; omega
    · have hke : i = P.length := by omega
      have hge : ¬ ((i : Int) < (P.length : Int)) := by omega
      have hn : Hid R := by
        show R
        rw [HR.out]
        intro q hq
        obtain ⟨j, hj, rfl⟩ := List.getElem_of_mem hq
        exact hall.out j _ (by omega) (List.getElem?_eq_getElem hj)
      clear hall hke
      go_wp2
      go_ret
      exact .inr ⟨rfl, hn.out, hB0⟩

end Go.Proofs.Ytpajdmhakdbkjaa
