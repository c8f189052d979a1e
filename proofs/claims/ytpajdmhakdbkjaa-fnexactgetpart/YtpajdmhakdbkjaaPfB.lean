/- The program's fitsPart at a shape of each kind. -/
import Derived.Test.YtpajdmhakdbkjaaPfA
import Derived.Deep.RegionHeld3
namespace Go.Proofs.Ytpajdmhakdbkjaa
open Go.RowKit Plain Sch

theorem toList_nil (b : ByteArray) : b.toList = [] ↔ b = ⟨#[]⟩ := by
  rw [ByteArray.toList_eq]
  constructor
  · intro h
    cases b with
    | mk d =>
      have h' : d = #[] := Array.toList_eq_nil_iff.1 h
      rw [h']
  · rintro rfl; rfl

set_option maxRecDepth 100000 in
set_option maxHeartbeats 4000000 in
theorem fitsNum (u : Value) (h : Ty) (s : Nat) (g ob n cap : Nat) (nm : ByteArray) (no : Int) (mu : Bool) (up : Int) (w : World) (hn : NoIn w g ob h) (hg : g < w.heap.size) (h0 : 0 < n) (hc : cap ≤ maxLen) :
    Calls Try.prog 46 #[.agg #[.int .i64 (s : Int), .slice (some ⟨g, ob, none⟩) n cap], .agg #[.string nm, .int .i64 no, .bool mu, .iface 136 u], .int .i64 up] w fun e w' => ∃ b, e = .returned (.bool b) ∧ (b = true ↔ n = 1 ∧ numOk h.most = true ∧ h.name = ⟨#[]⟩ ∧ h.no = no ∧ h.up = up ∧ h.must = false) ∧ Below w.heap.size w w' := by
  have hc' : cap ≤ 9223372036854775807 := by unfold maxLen at hc; omega
  obtain ⟨FX, hFX⟩ : ∃ X : Prop, X = (n = 1 ∧ numOk h.most = true ∧ h.name = ⟨#[]⟩ ∧ h.no = no ∧ h.up = up ∧ h.must = false) := ⟨_, rfl⟩
  rw [← hFX]
  have HFX : Hid (FX = (n = 1 ∧ numOk h.most = true ∧ h.name = ⟨#[]⟩ ∧ h.no = no ∧ h.up = up ∧ h.must = false)) := hFX
  clear hFX
  obtain ⟨V, hV⟩ : ∃ x : TypeId × Value, x = (136, u) := ⟨_, rfl⟩
  have e0 : (.iface 136 u : Value) = .iface V.1 V.2 := by rw [hV]
  rw [e0]
  obtain ⟨V1, V2⟩ := V
  dsimp only at e0 ⊢
  have HV : Hid (.iface 136 u = Value.iface V1 V2) := e0
  clear e0 hV
  obtain ⟨W2, hW2⟩ : ∃ W, W = (w.alloc (.cells #[.int .i64 (s : Int), .slice (some ⟨g, ob, none⟩) n cap] 88)).alloc (.cells #[.string nm, .int .i64 no, .bool mu, .iface V1 V2] 73) := ⟨_, rfl⟩
  have hB2 : Below w.heap.size w W2 := by rw [hW2]; exact ((Below.refl _ w).alloc (Nat.le_refl _) _).alloc (by simp) _
  have HS2 : Hid (W2.heap.size = w.heap.size + 2) := by show _ = _; rw [hW2]; simp
  have k0 : W2.cell? ⟨w.heap.size, 0, none⟩ = some (.int .i64 (s : Int)) := by rw [hW2]; go_simp
  have k1 : W2.cell? ⟨w.heap.size, 1, none⟩ = some (.slice (some ⟨g, ob, none⟩) n cap) := by rw [hW2]; go_simp
  have p1 : W2.cell? ⟨w.heap.size + 1, 1, none⟩ = some (.int .i64 no) := by rw [hW2]; go_simp
  have p3 : W2.cell? ⟨w.heap.size + 1, 3, none⟩ = some (.iface V1 V2) := by rw [hW2]; go_simp
  have HC : Hid (∀ W : World, Below W2.heap.size W2 W → Calls Try.prog 52 #[.agg #[.int .i64 (s : Int), .slice (some ⟨g, ob, none⟩) n cap]] W fun e w' => e = .returned (.agg #[.int .i64 h.most, .string h.name, .int .i64 h.no, .int .i64 h.up, .bool h.must]) ∧ Below W.heap.size W w') := fun W hW => by
    have hB : Below w.heap.size w W := hB2.trans (hW.mono hB2.size)
    exact head_any (s : Int) g ob n cap h W (hn.below hB hg) (by have := hB.size; omega) h0 hc
  have hw2 : w.heap.size + 1 < W2.heap.size := by have := HS2.out; omega
  have hd0 : Hid (Below W2.heap.size W2 W2.drew) := (Below.refl _ _).drew
  have HB1 : Hid (Below W2.heap.size W2 (W2.alloc ndz).drew) := ((Below.refl _ _).alloc (Nat.le_refl _) ndz).drew
  have HB2 : Hid (Below W2.heap.size W2 ((W2.alloc ndz).alloc ndz).drew) := (((Below.refl _ _).alloc (Nat.le_refl _) ndz).alloc (by simp) ndz).drew
  have HF : Hid (∀ W : World, Below W2.heap.size W2 W → W.cell? ⟨w.heap.size, 0, none⟩ = some (.int .i64 (s : Int)) ∧ W.cell? ⟨w.heap.size, 1, none⟩ = some (.slice (some ⟨g, ob, none⟩) n cap) ∧ W.cell? ⟨w.heap.size + 1, 1, none⟩ = some (.int .i64 no)) := fun W hW => ⟨(hW.cell (p := ⟨w.heap.size, 0, none⟩) (by show w.heap.size < _; omega)).trans k0, (hW.cell (p := ⟨w.heap.size, 1, none⟩) (by show w.heap.size < _; omega)).trans k1, (hW.cell (p := ⟨w.heap.size + 1, 1, none⟩) hw2).trans p1⟩
  have s0 := HF.out _ (Below.refl _ W2)
  have s0d := HF.out _ hd0.out


  go_enter Try.func46, Try.ntmps46
  go_upto_region 1 with fail
  rw [← hW2]
  clear hW2
  go_cut [7, 8] from 14 to 19 (fun s7 s8 wx => HCut W2 h no up s7 s8 wx)
  case first =>
    clear HFX HV p3
    go_region_held3 (fun w' => w'.cell? ⟨w.heap.size, 0, none⟩ = some (.int .i64 (s : Int)) ∧ w'.cell? ⟨w.heap.size, 1, none⟩ = some (.slice (some ⟨g, ob, none⟩) n cap) ∧ w'.cell? ⟨w.heap.size + 1, 1, none⟩ = some (.int .i64 no))
      (first
        | with_reducible exact s0
        | with_reducible exact s0d
        | with_reducible exact HF.out _ HB1.out
        | with_reducible exact HF.out _ HB2.out
        | with_reducible exact s3
        | with_reducible exact HF.out _ (bla h3)
        | with_reducible exact HF.out _ (blaa h3)
        | with_reducible exact HF.out _ (bl5 h3 (Nat.le_refl _))
        | with_reducible exact HF.out _ (bl5a h3 (Nat.le_refl _))
        | with_reducible exact HF.out _ (bl5 h3 (Nat.le_succ _))
        | with_reducible exact HF.out _ (bl5 (bl5 h3 (Nat.le_refl _)) (Nat.le_succ _))
        | with_reducible exact HF.out _ (bl5 (bl5 h3 (Nat.le_succ _)) (Nat.le_refl _)))
      (first
        | (go_at_call 52; refine (HC.out _ HB2.out).mono ?_; rintro e w3 ⟨rfl, hb3⟩; have h3 : Below W2.heap.size W2 w3 := HB2.out.trans (hb3.mono HB2.out.size); have s3 := HF.out _ h3; have F7 := five_new1 hb3; have F8 := five_new2 hb3; have H7 : Hid (Five w3 W2.heap.size (.int .i64 0) (.string ⟨#[]⟩) (.int .i64 0) (.int .i64 0) (.bool false)) := F7; have H8 : Hid (Five w3 (W2.heap.size + 1) (.int .i64 0) (.string ⟨#[]⟩) (.int .i64 0) (.int .i64 0) (.bool false)) := F8; have e3 : W2.heap.size + 1 < w3.heap.size := five_sz2 hb3; have e4 : W2.heap.size < w3.heap.size := Nat.lt_of_succ_lt e3; obtain ⟨⟨q0, q1, q2, q3, q4⟩, z0, z1, z2, z3, z4⟩ := F7; obtain ⟨⟨r0, r1, r2, r3, r4⟩, y0, y1, y2, y3, y4⟩ := F8)
        | (go_at_call 52; refine (HC.out _ HB1.out).mono ?_; rintro e w3 ⟨rfl, hb3⟩; have h3 : Below W2.heap.size W2 w3 := HB1.out.trans (hb3.mono HB1.out.size); have s3 := HF.out _ h3; have F7 := five_new hb3; have H7 : Hid (Five w3 W2.heap.size (.int .i64 0) (.string ⟨#[]⟩) (.int .i64 0) (.int .i64 0) (.bool false)) := F7; have e3 : W2.heap.size < w3.heap.size := five_sz1 hb3; obtain ⟨⟨q0, q1, q2, q3, q4⟩, z0, z1, z2, z3, z4⟩ := F7)
        | (go_at_call 52; refine (HC.out _ hd0.out).mono ?_; rintro e w3 ⟨rfl, hb3⟩; have h3 : Below W2.heap.size W2 w3 := hd0.out.trans (hb3.mono hd0.out.size); have s3 := HF.out _ h3))
    all_goals
      go_wp2_with fail
      go_meet
      first
        | with_reducible exact hcutC h3
        | with_reducible exact hcutD h3
        | with_reducible exact hcutB h3 H7.out e3
        | with_reducible exact hcutE h3 H7.out e3
        | with_reducible exact hcutA h3 H7.out H8.out (by omega) (Nat.le_refl _) (by omega) e4 e3
        | with_reducible exact hcutA h3 H8.out H7.out (by omega) (by omega) (Nat.le_refl _) e3 e4
  case rest =>
    obtain ⟨b7, b8, rfl, rfl, hne, hb7, hb8, hl7, hl8, F7, F8, hbc⟩ := hcut
    clear HC hd0 HB1 HB2 s0 s0d hn
    have p3c := (hbc.cell (p := ⟨w.heap.size + 1, 3, none⟩) hw2).trans p3
    obtain ⟨_, k1c, _⟩ := HF.out _ hbc
    have k0c := (HF.out _ hbc).1
    have hwc : w.heap.size + 1 < wc.heap.size := Nat.lt_of_lt_of_le hw2 hbc.size
    have hBc : Below w.heap.size w wc := hB2.trans (hbc.mono hB2.size)
    have HF7 : Hid (Five wc b7 (.int .i64 h.most) (.string h.name) (.int .i64 h.no) (.int .i64 h.up) (.bool h.must)) := F7
    have HF8 : Hid (Five wc b8 (.int .i64 0) (.string ⟨#[]⟩) (.int .i64 no) (.int .i64 up) (.bool false)) := F8
    obtain ⟨⟨q0, q1, q2, q3, q4⟩, z0, z1, z2, z3, z4⟩ := F7
    obtain ⟨⟨r0, r1, r2, r3, r4⟩, y0, y1, y2, y3, y4⟩ := F8
    have hVV := HV.out
    simp only [Value.iface.injEq] at hVV
    obtain ⟨rfl, rfl⟩ := hVV
    clear HV k0 k1 p1 p3
    have ta0 := taNumNum
    have ta1 := taNumEnu
    have HX : Hid (FX ↔ (n = 1 ∧ numOk h.most = true) ∧ (h.name.toList = []) ∧ h.no = no ∧ h.up = up ∧ h.must = false) := by
      show FX ↔ (n = 1 ∧ numOk h.most = true) ∧ (h.name.toList = []) ∧ h.no = no ∧ h.up = up ∧ h.must = false
      rw [HFX.out]
      have e : (h.name.toList = []) ↔ h.name = ⟨#[]⟩ := toList_nil h.name
      rw [e]
      constructor
      · intro hh; exact ⟨⟨hh.1, hh.2.1⟩, hh.2.2⟩
      · intro hh; exact ⟨hh.1.1, hh.1.2, hh.2⟩
    have hneb : ¬ b7 = b8 := hne
    have hneb' : ¬ b8 = b7 := fun e => hne e.symm
    clear HFX
    have F8X := HF8.out.set0 (.int .i64 h.most)
    have F7X : Five (wc.setCell ⟨b8, 0, none⟩ (.int .i64 h.most)) b7 _ _ _ _ _ := HF7.out.kept (Below.heap_setCell _ _ _ _ (by show b7 ≠ b8; exact hne))
    have hBX : Below w.heap.size w (wc.setCell ⟨b8, 0, none⟩ (.int .i64 h.most)) := hBc.setCell (p := ⟨b8, 0, none⟩) (by have := hB2.size; show _ ≤ b8; omega) _
    have eX : (wc.setCell ⟨b8, 0, none⟩ (.int .i64 h.most)).heap.size = wc.heap.size := by simp
    by_cases h1 : n = 1
    · have h1' : ((n : Int) == 1) = true := by simp; omega
      go_wp2_with fail
      refine (numberFits_num h.most u _).mono ?_
      generalize wc.setCell ⟨b8, 0, none⟩ (.int .i64 h.most) = X at *
      rintro e w5 ⟨rfl, hb5⟩
      have hB5 : Below w.heap.size w w5 := hBX.trans (hb5.mono hBX.size)
      obtain ⟨⟨q0, q1, q2, q3, q4⟩, z0, z1, z2, z3, z4⟩ := F7X.kept (hb5.block b7 (by omega))
      obtain ⟨⟨r0, r1, r2, r3, r4⟩, y0, y1, y2, y3, y4⟩ := F8X.kept (hb5.block b8 (by omega))
      have hl75 : b7 < w5.heap.size := by have := hb5.size; omega
      have hl85 : b8 < w5.heap.size := by have := hb5.size; omega
      clear F7X F8X HF7 HF8 hb5
      rcases hnum : numOk h.most with _ | _
      · have HFIT : Hid (¬ (n = 1 ∧ numOk h.most = true)) := fun hh => by have := hh.2; simp_all
        clear hnum
        go_wp2
        go_ret
        refine ⟨_, rfl, ?_, hB5⟩
        rw [HX.out]
        exact ⟨fun hh => (by cases hh), fun hh => absurd hh.1 HFIT.out⟩
      · have HFIT : Hid (n = 1 ∧ numOk h.most = true) := ⟨h1, by simpa using hnum⟩
        clear hnum
        go_wp2
        all_goals
          go_ret
          refine ⟨_, rfl, ?_, hB5⟩
          rw [HX.out]
          first
            | exact ⟨fun _ => ⟨HFIT.out, by assumption, by assumption, by assumption, by simpa using ‹¬ h.must = true›⟩, fun _ => rfl⟩
            | exact ⟨fun hh => (by cases hh), fun hh => absurd hh.2.1 (by assumption)⟩
            | exact ⟨fun hh => (by cases hh), fun hh => absurd hh.2.2.1 (by assumption)⟩
            | exact ⟨fun hh => (by cases hh), fun hh => absurd hh.2.2.2.1 (by assumption)⟩
            | exact ⟨fun hh => (by cases hh), fun hh => absurd hh.2.2.2.2 (by rw [‹h.must = true›]; decide)⟩
    · have h1' : ((n : Int) == 1) = false := by simp; omega
      have HFIT : Hid (¬ (n = 1 ∧ numOk h.most = true)) := fun hh => h1 hh.1
      clear h1
      go_wp2
      go_ret
      refine ⟨_, rfl, ?_, hBX⟩
      rw [HX.out]
      exact ⟨fun hh => (by cases hh), fun hh => absurd hh.1 HFIT.out⟩

set_option maxRecDepth 100000 in
set_option maxHeartbeats 4000000 in
theorem fitsEnu (m : Int) (h : Ty) (s : Nat) (g ob n cap : Nat) (nm : ByteArray) (no : Int) (mu : Bool) (up : Int) (w : World) (hn : NoIn w g ob h) (hg : g < w.heap.size) (h0 : 0 < n) (hc : cap ≤ maxLen) :
    Calls Try.prog 46 #[.agg #[.int .i64 (s : Int), .slice (some ⟨g, ob, none⟩) n cap], .agg #[.string nm, .int .i64 no, .bool mu, .iface 138 (.agg #[.int .i64 m])], .int .i64 up] w fun e w' => ∃ b, e = .returned (.bool b) ∧ (b = true ↔ n = 1 ∧ (0 ≤ h.most ∧ h.most ≤ m) ∧ h.name = ⟨#[]⟩ ∧ h.no = no ∧ h.up = up ∧ h.must = false) ∧ Below w.heap.size w w' := by
  have hc' : cap ≤ 9223372036854775807 := by unfold maxLen at hc; omega
  obtain ⟨FX, hFX⟩ : ∃ X : Prop, X = (n = 1 ∧ (0 ≤ h.most ∧ h.most ≤ m) ∧ h.name = ⟨#[]⟩ ∧ h.no = no ∧ h.up = up ∧ h.must = false) := ⟨_, rfl⟩
  rw [← hFX]
  have HFX : Hid (FX = (n = 1 ∧ (0 ≤ h.most ∧ h.most ≤ m) ∧ h.name = ⟨#[]⟩ ∧ h.no = no ∧ h.up = up ∧ h.must = false)) := hFX
  clear hFX
  obtain ⟨V, hV⟩ : ∃ x : TypeId × Value, x = (138, (.agg #[.int .i64 m])) := ⟨_, rfl⟩
  have e0 : (.iface 138 (.agg #[.int .i64 m]) : Value) = .iface V.1 V.2 := by rw [hV]
  rw [e0]
  obtain ⟨V1, V2⟩ := V
  dsimp only at e0 ⊢
  have HV : Hid (.iface 138 (.agg #[.int .i64 m]) = Value.iface V1 V2) := e0
  clear e0 hV
  obtain ⟨W2, hW2⟩ : ∃ W, W = (w.alloc (.cells #[.int .i64 (s : Int), .slice (some ⟨g, ob, none⟩) n cap] 88)).alloc (.cells #[.string nm, .int .i64 no, .bool mu, .iface V1 V2] 73) := ⟨_, rfl⟩
  have hB2 : Below w.heap.size w W2 := by rw [hW2]; exact ((Below.refl _ w).alloc (Nat.le_refl _) _).alloc (by simp) _
  have HS2 : Hid (W2.heap.size = w.heap.size + 2) := by show _ = _; rw [hW2]; simp
  have k0 : W2.cell? ⟨w.heap.size, 0, none⟩ = some (.int .i64 (s : Int)) := by rw [hW2]; go_simp
  have k1 : W2.cell? ⟨w.heap.size, 1, none⟩ = some (.slice (some ⟨g, ob, none⟩) n cap) := by rw [hW2]; go_simp
  have p1 : W2.cell? ⟨w.heap.size + 1, 1, none⟩ = some (.int .i64 no) := by rw [hW2]; go_simp
  have p3 : W2.cell? ⟨w.heap.size + 1, 3, none⟩ = some (.iface V1 V2) := by rw [hW2]; go_simp
  have HC : Hid (∀ W : World, Below W2.heap.size W2 W → Calls Try.prog 52 #[.agg #[.int .i64 (s : Int), .slice (some ⟨g, ob, none⟩) n cap]] W fun e w' => e = .returned (.agg #[.int .i64 h.most, .string h.name, .int .i64 h.no, .int .i64 h.up, .bool h.must]) ∧ Below W.heap.size W w') := fun W hW => by
    have hB : Below w.heap.size w W := hB2.trans (hW.mono hB2.size)
    exact head_any (s : Int) g ob n cap h W (hn.below hB hg) (by have := hB.size; omega) h0 hc
  have hw2 : w.heap.size + 1 < W2.heap.size := by have := HS2.out; omega
  have hd0 : Hid (Below W2.heap.size W2 W2.drew) := (Below.refl _ _).drew
  have HB1 : Hid (Below W2.heap.size W2 (W2.alloc ndz).drew) := ((Below.refl _ _).alloc (Nat.le_refl _) ndz).drew
  have HB2 : Hid (Below W2.heap.size W2 ((W2.alloc ndz).alloc ndz).drew) := (((Below.refl _ _).alloc (Nat.le_refl _) ndz).alloc (by simp) ndz).drew
  have HF : Hid (∀ W : World, Below W2.heap.size W2 W → W.cell? ⟨w.heap.size, 0, none⟩ = some (.int .i64 (s : Int)) ∧ W.cell? ⟨w.heap.size, 1, none⟩ = some (.slice (some ⟨g, ob, none⟩) n cap) ∧ W.cell? ⟨w.heap.size + 1, 1, none⟩ = some (.int .i64 no)) := fun W hW => ⟨(hW.cell (p := ⟨w.heap.size, 0, none⟩) (by show w.heap.size < _; omega)).trans k0, (hW.cell (p := ⟨w.heap.size, 1, none⟩) (by show w.heap.size < _; omega)).trans k1, (hW.cell (p := ⟨w.heap.size + 1, 1, none⟩) hw2).trans p1⟩
  have s0 := HF.out _ (Below.refl _ W2)
  have s0d := HF.out _ hd0.out


  go_enter Try.func46, Try.ntmps46
  go_upto_region 1 with fail
  rw [← hW2]
  clear hW2
  go_cut [7, 8] from 14 to 19 (fun s7 s8 wx => HCut W2 h no up s7 s8 wx)
  case first =>
    clear HFX HV p3
    go_region_held3 (fun w' => w'.cell? ⟨w.heap.size, 0, none⟩ = some (.int .i64 (s : Int)) ∧ w'.cell? ⟨w.heap.size, 1, none⟩ = some (.slice (some ⟨g, ob, none⟩) n cap) ∧ w'.cell? ⟨w.heap.size + 1, 1, none⟩ = some (.int .i64 no))
      (first
        | with_reducible exact s0
        | with_reducible exact s0d
        | with_reducible exact HF.out _ HB1.out
        | with_reducible exact HF.out _ HB2.out
        | with_reducible exact s3
        | with_reducible exact HF.out _ (bla h3)
        | with_reducible exact HF.out _ (blaa h3)
        | with_reducible exact HF.out _ (bl5 h3 (Nat.le_refl _))
        | with_reducible exact HF.out _ (bl5a h3 (Nat.le_refl _))
        | with_reducible exact HF.out _ (bl5 h3 (Nat.le_succ _))
        | with_reducible exact HF.out _ (bl5 (bl5 h3 (Nat.le_refl _)) (Nat.le_succ _))
        | with_reducible exact HF.out _ (bl5 (bl5 h3 (Nat.le_succ _)) (Nat.le_refl _)))
      (first
        | (go_at_call 52; refine (HC.out _ HB2.out).mono ?_; rintro e w3 ⟨rfl, hb3⟩; have h3 : Below W2.heap.size W2 w3 := HB2.out.trans (hb3.mono HB2.out.size); have s3 := HF.out _ h3; have F7 := five_new1 hb3; have F8 := five_new2 hb3; have H7 : Hid (Five w3 W2.heap.size (.int .i64 0) (.string ⟨#[]⟩) (.int .i64 0) (.int .i64 0) (.bool false)) := F7; have H8 : Hid (Five w3 (W2.heap.size + 1) (.int .i64 0) (.string ⟨#[]⟩) (.int .i64 0) (.int .i64 0) (.bool false)) := F8; have e3 : W2.heap.size + 1 < w3.heap.size := five_sz2 hb3; have e4 : W2.heap.size < w3.heap.size := Nat.lt_of_succ_lt e3; obtain ⟨⟨q0, q1, q2, q3, q4⟩, z0, z1, z2, z3, z4⟩ := F7; obtain ⟨⟨r0, r1, r2, r3, r4⟩, y0, y1, y2, y3, y4⟩ := F8)
        | (go_at_call 52; refine (HC.out _ HB1.out).mono ?_; rintro e w3 ⟨rfl, hb3⟩; have h3 : Below W2.heap.size W2 w3 := HB1.out.trans (hb3.mono HB1.out.size); have s3 := HF.out _ h3; have F7 := five_new hb3; have H7 : Hid (Five w3 W2.heap.size (.int .i64 0) (.string ⟨#[]⟩) (.int .i64 0) (.int .i64 0) (.bool false)) := F7; have e3 : W2.heap.size < w3.heap.size := five_sz1 hb3; obtain ⟨⟨q0, q1, q2, q3, q4⟩, z0, z1, z2, z3, z4⟩ := F7)
        | (go_at_call 52; refine (HC.out _ hd0.out).mono ?_; rintro e w3 ⟨rfl, hb3⟩; have h3 : Below W2.heap.size W2 w3 := hd0.out.trans (hb3.mono hd0.out.size); have s3 := HF.out _ h3))
    all_goals
      go_wp2_with fail
      go_meet
      first
        | with_reducible exact hcutC h3
        | with_reducible exact hcutD h3
        | with_reducible exact hcutB h3 H7.out e3
        | with_reducible exact hcutE h3 H7.out e3
        | with_reducible exact hcutA h3 H7.out H8.out (by omega) (Nat.le_refl _) (by omega) e4 e3
        | with_reducible exact hcutA h3 H8.out H7.out (by omega) (by omega) (Nat.le_refl _) e3 e4
  case rest =>
    obtain ⟨b7, b8, rfl, rfl, hne, hb7, hb8, hl7, hl8, F7, F8, hbc⟩ := hcut
    clear HC hd0 HB1 HB2 s0 s0d hn
    have p3c := (hbc.cell (p := ⟨w.heap.size + 1, 3, none⟩) hw2).trans p3
    obtain ⟨_, k1c, _⟩ := HF.out _ hbc
    have k0c := (HF.out _ hbc).1
    have hwc : w.heap.size + 1 < wc.heap.size := Nat.lt_of_lt_of_le hw2 hbc.size
    have hBc : Below w.heap.size w wc := hB2.trans (hbc.mono hB2.size)
    have HF7 : Hid (Five wc b7 (.int .i64 h.most) (.string h.name) (.int .i64 h.no) (.int .i64 h.up) (.bool h.must)) := F7
    have HF8 : Hid (Five wc b8 (.int .i64 0) (.string ⟨#[]⟩) (.int .i64 no) (.int .i64 up) (.bool false)) := F8
    obtain ⟨⟨q0, q1, q2, q3, q4⟩, z0, z1, z2, z3, z4⟩ := F7
    obtain ⟨⟨r0, r1, r2, r3, r4⟩, y0, y1, y2, y3, y4⟩ := F8
    have hVV := HV.out
    simp only [Value.iface.injEq] at hVV
    obtain ⟨rfl, rfl⟩ := hVV
    clear HV k0 k1 p1 p3
    have ta0 := taEnuNum
    have ta1 := taEnuEnu
    have HX : Hid (FX ↔ (n = 1 ∧ (0 ≤ h.most ∧ h.most ≤ m)) ∧ (h.name.toList = []) ∧ h.no = no ∧ h.up = up ∧ h.must = false) := by
      show FX ↔ (n = 1 ∧ (0 ≤ h.most ∧ h.most ≤ m)) ∧ (h.name.toList = []) ∧ h.no = no ∧ h.up = up ∧ h.must = false
      rw [HFX.out]
      have e : (h.name.toList = []) ↔ h.name = ⟨#[]⟩ := toList_nil h.name
      rw [e]
      constructor
      · intro hh; exact ⟨⟨hh.1, hh.2.1⟩, hh.2.2⟩
      · intro hh; exact ⟨hh.1.1, hh.1.2, hh.2⟩
    have hneb : ¬ b7 = b8 := hne
    have hneb' : ¬ b8 = b7 := fun e => hne e.symm
    clear HFX
    have F8X := HF8.out.set0 (.int .i64 h.most)
    have F7X : Five (wc.setCell ⟨b8, 0, none⟩ (.int .i64 h.most)) b7 _ _ _ _ _ := HF7.out.kept (Below.heap_setCell _ _ _ _ (by show b7 ≠ b8; exact hne))
    have hBX : Below w.heap.size w (wc.setCell ⟨b8, 0, none⟩ (.int .i64 h.most)) := hBc.setCell (p := ⟨b8, 0, none⟩) (by have := hB2.size; show _ ≤ b8; omega) _
    have eX : (wc.setCell ⟨b8, 0, none⟩ (.int .i64 h.most)).heap.size = wc.heap.size := by simp
    by_cases h1 : n = 1
    · have h1' : ((n : Int) == 1) = true := by simp; omega
      go_wp2_with fail
      refine (numberFits_enum h.most m _).mono ?_
      generalize wc.setCell ⟨b8, 0, none⟩ (.int .i64 h.most) = X at *
      rintro e w5 ⟨rfl, hb5⟩
      have hB5 : Below w.heap.size w w5 := hBX.trans (hb5.mono hBX.size)
      obtain ⟨⟨q0, q1, q2, q3, q4⟩, z0, z1, z2, z3, z4⟩ := F7X.kept (hb5.block b7 (by omega))
      obtain ⟨⟨r0, r1, r2, r3, r4⟩, y0, y1, y2, y3, y4⟩ := F8X.kept (hb5.block b8 (by omega))
      have hl75 : b7 < w5.heap.size := by have := hb5.size; omega
      have hl85 : b8 < w5.heap.size := by have := hb5.size; omega
      clear F7X F8X HF7 HF8 hb5
      rcases hnum : decide (0 ≤ h.most ∧ h.most ≤ m) with _ | _
      · have HFIT : Hid (¬ (n = 1 ∧ (0 ≤ h.most ∧ h.most ≤ m))) := fun hh => by have := hh.2; simp_all
        clear hnum
        go_wp2
        go_ret
        refine ⟨_, rfl, ?_, hB5⟩
        rw [HX.out]
        exact ⟨fun hh => (by cases hh), fun hh => absurd hh.1 HFIT.out⟩
      · have HFIT : Hid (n = 1 ∧ (0 ≤ h.most ∧ h.most ≤ m)) := ⟨h1, by simpa using hnum⟩
        clear hnum
        go_wp2
        all_goals
          go_ret
          refine ⟨_, rfl, ?_, hB5⟩
          rw [HX.out]
          first
            | exact ⟨fun _ => ⟨HFIT.out, by assumption, by assumption, by assumption, by simpa using ‹¬ h.must = true›⟩, fun _ => rfl⟩
            | exact ⟨fun hh => (by cases hh), fun hh => absurd hh.2.1 (by assumption)⟩
            | exact ⟨fun hh => (by cases hh), fun hh => absurd hh.2.2.1 (by assumption)⟩
            | exact ⟨fun hh => (by cases hh), fun hh => absurd hh.2.2.2.1 (by assumption)⟩
            | exact ⟨fun hh => (by cases hh), fun hh => absurd hh.2.2.2.2 (by rw [‹h.must = true›]; decide)⟩
    · have h1' : ((n : Int) == 1) = false := by simp; omega
      have HFIT : Hid (¬ (n = 1 ∧ (0 ≤ h.most ∧ h.most ≤ m))) := fun hh => h1 hh.1
      clear h1
      go_wp2
      go_ret
      refine ⟨_, rfl, ?_, hBX⟩
      rw [HX.out]
      exact ⟨fun hh => (by cases hh), fun hh => absurd hh.1 HFIT.out⟩

end Go.Proofs.Ytpajdmhakdbkjaa
