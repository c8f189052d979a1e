/- The program's appendPart at every shape. A message of a schema as a schema of its own: the program's and the model's SubSchema. A message of a schema as a schema of its own: the program's and the model's SubSchema at every argument. -/
import Derived.Test.YtpajdmhakdbkjaaGk
import Derived.Test.YtpajdmhakdbkjaaGj
import Derived.Test.YtpajdmhakdbkjaaGg
import Derived.Test.YtpajdmhakdbkjaaGe
namespace Go.Proofs.Ytpajdmhakdbkjaa
open Go.RowKit Plain Sch
attribute [local go_sem ↓] Go.wp_at_zero Go.wp_at_succ

mutual
/-- what a shape says of its tree: only enums have a Most, the part of a list is bare -/
def FG : Tr → Prop
  | .mk k _ _ _ mo ks => (k ≠ 3 → mo = 0) ∧ (k = 4 → ∃ x, ks = [x] ∧ x.name = ⟨#[]⟩ ∧ x.no = 0 ∧ x.must = false) ∧ FGL ks
def FGL : List Tr → Prop
  | [] => True
  | x :: l => FG x ∧ FGL l
end

theorem FGL_iff : ∀ (l : List Tr), FGL l ↔ ∀ x ∈ l, FG x
  | [] => by simp [FGL]
  | x :: l => by rw [FGL, FGL_iff l]; simp

theorem FG_iff (t : Tr) : FG t ↔ (t.kind ≠ 3 → t.most = 0) ∧ (t.kind = 4 → ∃ x, t.kids = [x] ∧ x.name = ⟨#[]⟩ ∧ x.no = 0 ∧ x.must = false) ∧ ∀ x ∈ t.kids, FG x := by
  cases t with
  | mk k n no mu mo ks => rw [FG, FGL_iff]; rfl

mutual
theorem gt_fg (t : Tr) (h : GT t) : FG t := by
  cases t with
  | mk k n no mu mo ks =>
    rw [GT] at h
    rw [FG]
    refine ⟨fun h3 => ?_, h.2.1.2.1, gtl_fg ks h.2.2⟩
    have := h.1
    unfold okKind at this
    simp only [Bool.and_eq_true] at this
    rw [if_neg h3] at this
    simpa using this.2
theorem gtl_fg (l : List Tr) (h : GTL l) : FGL l := by
  cases l with
  | nil => rw [FGL]; trivial
  | cons y l => rw [GTL] at h; rw [FGL]; exact ⟨gt_fg y h.1, gtl_fg l h.2⟩
end

set_option maxRecDepth 100000 in
set_option maxHeartbeats 4000000 in
theorem appendPartLst (xa : TypeId) (xv : Value) (rv : Value) (nm : ByteArray) (no : Int) (mu : Bool) (up : Int) (L : List Ty) (B : Nat) (w : World) (hown : TyRow w B rv L) (hBw : B ≤ w.heap.size) (hlim : L.length + 1 ≤ 1000000) (hnm : nm.size ≤ 10) (x : Tr)
    (hrec0 : ∀ (rv1 : Value) (w1 : World), Grow w w1 rv rv1 → TyRow w1 B rv1 (L ++ [(⟨4, nm, no, mu, up, 0⟩ : Ty)]) → Calls Try.prog 94 #[rv1, .agg #[.string ⟨#[]⟩, .int .i64 0, .bool false, .iface xa xv], .int .i64 (L.length : Int)] w1 fun e w' => ∃ rv', e = .returned rv' ∧ TyRow w' B rv' (L ++ [(⟨4, nm, no, mu, up, 0⟩ : Ty)] ++ flat x L.length (L.length + 1)) ∧ Grow w1 w' rv1 rv') :
    Calls Try.prog 94 #[rv, .agg #[.string nm, .int .i64 no, .bool mu, .iface 125 (.agg #[.iface xa xv])], .int .i64 up] w fun e w' => ∃ rv', e = .returned rv' ∧ TyRow w' B rv' (L ++ [(⟨4, nm, no, mu, up, 0⟩ : Ty)] ++ flat x L.length (L.length + 1)) ∧ Grow w w' rv rv' := by
  have hrec : Hid (∀ (rv1 : Value) (w1 : World), Grow w w1 rv rv1 → TyRow w1 B rv1 (L ++ [(⟨4, nm, no, mu, up, 0⟩ : Ty)]) → Calls Try.prog 94 #[rv1, .agg #[.string ⟨#[]⟩, .int .i64 0, .bool false, .iface xa xv], .int .i64 (L.length : Int)] w1 fun e w' => ∃ rv', e = .returned rv' ∧ TyRow w' B rv' (L ++ [(⟨4, nm, no, mu, up, 0⟩ : Ty)] ++ flat x L.length (L.length + 1)) ∧ Grow w1 w' rv1 rv') := hrec0
  clear hrec0
  obtain ⟨i0, hi, hz0, hz1, hz2⟩ := info_parts Try.infoTy
  have hlt0 := hown.lt
  obtain ⟨ar, capr, rfl, hnr, hcmr⟩ := ownSlice hown
  have hcmr' : capr ≤ 9223372036854775807 := by unfold maxLen at hcmr; omega
  obtain ⟨W1, hW1⟩ : ∃ W, W = w.alloc (.cells #[.string nm, .int .i64 no, .bool mu, .iface 125 (.agg #[.iface xa xv])] 73) := ⟨_, rfl⟩
  have HS1 : Hid (W1.heap.size = w.heap.size + 1) := by show _ = _; rw [hW1]; simp
  have hB1 : Below w.heap.size w W1 := by rw [hW1]; exact (Below.refl _ w).alloc (Nat.le_refl _) _
  have b0 : W1.cell? ⟨w.heap.size, 0, none⟩ = some (.string nm) := by rw [hW1]; go_simp
  have b1 : W1.cell? ⟨w.heap.size, 1, none⟩ = some (.int .i64 no) := by rw [hW1]; go_simp
  have b2 : W1.cell? ⟨w.heap.size, 2, none⟩ = some (.bool mu) := by rw [hW1]; go_simp
  have b3 : W1.cell? ⟨w.heap.size, 3, none⟩ = some (.iface 125 (.agg #[.iface xa xv])) := by rw [hW1]; go_simp
  have s1 : W1.cell? ⟨w.heap.size, 0, none⟩ = some (.string nm) ∧ W1.cell? ⟨w.heap.size, 1, none⟩ = some (.int .i64 no) ∧ W1.cell? ⟨w.heap.size, 2, none⟩ = some (.bool mu) ∧ W1.cell? ⟨w.heap.size, 3, none⟩ = some (.iface 125 (.agg #[.iface xa xv])) := ⟨b0, b1, b2, b3⟩
  have hown1 : Hid (W1.ownsRow B 38 6 (.slice ar L.length capr) L.length (L.flatMap Ty.cells)) := own_below hown hB1
  have HOW : Hid (TyRow w B (.slice ar L.length capr) L) := hown
  clear b0 b1 b2 b3 hown
  have hne0 : some w.heap.size ≠ (Value.slice ar L.length capr).ownBlock := fun e => by have := (hlt0 _ e.symm).2; omega
  have ta0 := taLstEnu
  have ta1 := taLstLst
  go_enter Try.func94, Try.ntmps94
  go_upto_region 2 with fail
  rw [← hW1]
  clear hW1
  have hbw1d : Below (w.heap.size + 1) W1 W1.drew := (Below.refl _ _).drew
  have s1d := s4_below s1 hbw1d (by omega)
  go_region_held3 (fun w' => w'.cell? ⟨w.heap.size, 0, none⟩ = some (.string nm) ∧ w'.cell? ⟨w.heap.size, 1, none⟩ = some (.int .i64 no) ∧ w'.cell? ⟨w.heap.size, 2, none⟩ = some (.bool mu) ∧ w'.cell? ⟨w.heap.size, 3, none⟩ = some (.iface 125 (.agg #[.iface xa xv])))
    (first | exact s9 | exact s3a | exact s3 | exact s2 | exact s1d | exact s1)
    (first
      | (go_at_call 143; refine (kindLst xa xv _).mono ?_; rintro e w2 ⟨rfl, hb2⟩; have hbw2 : Below (w.heap.size + 1) W1 w2 := hbw1d.trans (hb2.mono (by have := HS1.out; show _ ≤ W1.heap.size; omega)); have s2 := s4_below s1 hbw2 (by omega))
      | (go_at_call 92; refine (clone_any nm _ (by omega)).mono ?_; rintro e w3 ⟨rfl, hb3⟩; have hbw3 : Below (w.heap.size + 1) W1 w3 := hbw2.trans (hb3.mono (by have h1 := hbw2.size; have := HS1.out; omega)); have s3 := s4_below s1 hbw3 (by omega); have hown3 := own_below hown1.out (show Below W1.heap.size W1 w3 from by rw [HS1.out]; exact hbw3); have hz3 : w.heap.size < w3.heap.size := (by have h1 := hbw3.size; have := HS1.out; omega); have s3a := s4_below s3 ((Below.refl _ w3).alloc (Nat.le_refl _) (.cells #[.int .i64 4, .string nm, .int .i64 no, .bool mu, .int .i64 up, .int .i64 0] 38)) hz3)
      | (refine step_append_lies _ (by rfl) _ _ _ (by rfl) B 38 i0 (.agg #[.int .i64 0, .string ⟨#[]⟩, .int .i64 0, .bool false, .int .i64 0, .int .i64 0]) 6 56 Try.underlying23 hi hz0 hz1 hz2 rfl (by decide) _ L.length _ (by rfl) (hown3.alloc _) ⟨w3.heap.size, 0, none⟩ 1 1 [.int .i64 4, .string nm, .int .i64 no, .bool mu, .int .i64 up, .int .i64 0] (by rfl) rfl (World.news_of_block (heap_alloc_new w3 _)) one6P (by omega) (by unfold maxLen; omega) (by omega) (by simp; omega) (w3.heap.size + 1) (by simp) ?_; intro g9 cap9 w9 hown9 hgrow9 hat9 hlt9; have s9 := s4_grow s3a hgrow9 (by simp; omega) hne0))
  have hG9 : Grow w w9 (.slice ar L.length capr) (.slice (some ⟨g9, 0, none⟩) (L.length + 1) cap9) := head_grow hB1 HS1.out hbw3 hgrow9 hat9
  have hown9' : TyRow w9 B (.slice (some ⟨g9, 0, none⟩) (L.length + 1) cap9) (L ++ [⟨4, nm, no, mu, up, 0⟩]) := by
    unfold TyRow
    rw [List.length_append, List.length_singleton, List.flatMap_append]
    simpa [Ty.cells] using hown9
  obtain ⟨_, _, _, b39⟩ := s9
  have hz9 : w.heap.size < w9.heap.size := by have := hgrow9.size; simp at this; omega
  clear hown9 hgrow9 hat9 s3a s3 s2 s1d s1 hbw1d hbw2 hbw3 hb2 hb3 hown3 hz3 hown1
  have hb10 : Below w9.heap.size w9 (w9.alloc (.cells #[.iface xa xv] 125)) := (Below.refl _ w9).alloc (Nat.le_refl _) _
  have IC := hrec.out _ _ (hG9.trans (Grow.below hb10)) (own_below hown9' hb10)
  have HG10 : Hid (Grow w (w9.alloc (.cells #[.iface xa xv] 125)) (.slice ar L.length capr) (.slice (some ⟨g9, 0, none⟩) (L.length + 1) cap9)) := hG9.trans (Grow.below hb10)
  have IC' : Hid (Calls Try.prog 94 #[.slice (some ⟨g9, 0, none⟩) (L.length + 1) cap9, .agg #[.string ⟨#[]⟩, .int .i64 0, .bool false, .iface xa xv], .int .i64 (L.length : Int)] (w9.alloc (.cells #[.iface xa xv] 125)) fun e w' => ∃ rv', e = .returned rv' ∧ TyRow w' B rv' (L ++ [(⟨4, nm, no, mu, up, 0⟩ : Ty)] ++ flat x L.length (L.length + 1)) ∧ Grow (w9.alloc (.cells #[.iface xa xv] 125)) w' (.slice (some ⟨g9, 0, none⟩) (L.length + 1) cap9) rv') := IC
  clear IC hown9' hG9 hb10 hrec
  go_wp2_with fail
  refine IC'.out.mono ?_
  rintro e w5 ⟨rv5, rfl, hrow5, hg5⟩
  have hG5 := HG10.out.trans hg5
  clear hg5 IC'
  go_wp2
  go_ret
  exact ⟨_, rfl, hrow5, hG5⟩

def PartOK (d : Nat) (t : Tr) : Prop := ∀ (ua : TypeId) (uv : Value) (up : Int) (rv : Value) (L : List Ty) (S : Nat → Prop) (B : Nat) (w : World),
  ShIn d w S (.iface ua uv) t → (∀ g, S g → g < w.heap.size) → (∀ g, rv.ownBlock = some g → ¬ S g) → TyRow w B rv L → B ≤ w.heap.size → L.length + t.size ≤ 1000000 → NmT t → FG t →
  Calls Try.prog 94 #[rv, .agg #[.string t.name, .int .i64 t.no, .bool t.must, .iface ua uv], .int .i64 up] w fun e w' => ∃ rv', e = .returned rv' ∧ TyRow w' B rv' (L ++ flat t up L.length) ∧ Grow w w' rv rv'

set_option maxRecDepth 100000 in
set_option maxHeartbeats 4000000 in
theorem appendPartMsg (d : Nat) (ks : List Tr) (ap : Option Addr) (cp : Nat) (rv : Value) (nm : ByteArray) (no : Int) (mu : Bool) (up : Int) (L : List Ty) (S : Nat → Prop) (B : Nat) (w : World) (hk : PartsIn d w S (.slice ap ks.length cp) ks) (hS : ∀ g, S g → g < w.heap.size) (hap : ∀ g, rv.ownBlock = some g → ¬ S g)
    (hown : TyRow w B rv L) (hBw : B ≤ w.heap.size) (hlimk : L.length + 1 + sizeL ks ≤ 1000000) (hnm : nm.size ≤ 10) (ih0 : ∀ x ∈ ks, PartOK d x ∧ NmT x ∧ FG x) :
    Calls Try.prog 94 #[rv, .agg #[.string nm, .int .i64 no, .bool mu, .iface 127 (.agg #[.slice ap ks.length cp])], .int .i64 up] w fun e w' => ∃ rv', e = .returned rv' ∧ TyRow w' B rv' (L ++ flat (.mk 5 nm no mu 0 ks) up L.length) ∧ Grow w w' rv rv' := by
  have ih : Hid (∀ x ∈ ks, PartOK d x ∧ NmT x ∧ FG x) := ih0
  clear ih0
  obtain ⟨ap', cp', hcc, hlc, hcm, hrow⟩ := hk
  simp only [Value.slice.injEq, true_and] at hcc
  obtain ⟨rfl, rfl⟩ := hcc
  have hcm' : cp ≤ 9223372036854775807 := by unfold maxLen at hcm; omega
  have HROW : Hid (∀ i x, ks[i]? = some x → ∃ (g o : Nat) (u : TypeId × Value), ap = some ⟨g, o, none⟩ ∧ S g ∧ PtIn w g (o + i * 4) x (.iface u.1 u.2) ∧ ShIn d w S (.iface u.1 u.2) x) := hrow
  have HS : Hid (∀ g, S g → g < w.heap.size) := hS
  have HAP : Hid (∀ g, rv.ownBlock = some g → ¬ S g) := hap
  have HEND : Hid (laid L (.mk 5 nm no mu 0 ks) up ks.length = L ++ flat (.mk 5 nm no mu 0 ks) up L.length) := laid_end L (.mk 5 nm no mu 0 ks) up
  have HST : Hid (∀ i x, ks[i]? = some x → laid L (.mk 5 nm no mu 0 ks) up (i + 1) = laid L (.mk 5 nm no mu 0 ks) up i ++ flat x L.length (laid L (.mk 5 nm no mu 0 ks) up i).length ∧ (laid L (.mk 5 nm no mu 0 ks) up i).length + x.size ≤ 1000000) := fun i x hx => ⟨laid_step L (.mk 5 nm no mu 0 ks) up i x hx, by have h1 := sizeL_step ks i x hx; rw [laid_len]; show L.length + 1 + sizeL (ks.take i) + x.size ≤ _; omega⟩
  have HL0 : Hid (laid L (.mk 5 nm no mu 0 ks) up 0 = L ++ [(⟨5, nm, no, mu, up, 0⟩ : Ty)]) := laid_start L (.mk 5 nm no mu 0 ks) up
  have hlim : L.length + 1 ≤ 1000000 := by omega
  clear hrow hS hap hlimk
  obtain ⟨np, hnp⟩ : ∃ np, np = ks.length := ⟨_, rfl⟩
  rw [← hnp] at hlc ⊢
  have HNP : Hid (np = ks.length) := hnp
  clear hnp
  obtain ⟨i0, hi, hz0, hz1, hz2⟩ := info_parts Try.infoTy
  have hlt0 := hown.lt
  obtain ⟨ar, capr, rfl, hnr, hcmr⟩ := ownSlice hown
  have hcmr' : capr ≤ 9223372036854775807 := by unfold maxLen at hcmr; omega
  obtain ⟨W1, hW1⟩ : ∃ W, W = w.alloc (.cells #[.string nm, .int .i64 no, .bool mu, .iface 127 (.agg #[.slice ap np cp])] 73) := ⟨_, rfl⟩
  have HS1 : Hid (W1.heap.size = w.heap.size + 1) := by show _ = _; rw [hW1]; simp
  have hB1 : Below w.heap.size w W1 := by rw [hW1]; exact (Below.refl _ w).alloc (Nat.le_refl _) _
  have b0 : W1.cell? ⟨w.heap.size, 0, none⟩ = some (.string nm) := by rw [hW1]; go_simp
  have b1 : W1.cell? ⟨w.heap.size, 1, none⟩ = some (.int .i64 no) := by rw [hW1]; go_simp
  have b2 : W1.cell? ⟨w.heap.size, 2, none⟩ = some (.bool mu) := by rw [hW1]; go_simp
  have b3 : W1.cell? ⟨w.heap.size, 3, none⟩ = some (.iface 127 (.agg #[.slice ap np cp])) := by rw [hW1]; go_simp
  have s1 : W1.cell? ⟨w.heap.size, 0, none⟩ = some (.string nm) ∧ W1.cell? ⟨w.heap.size, 1, none⟩ = some (.int .i64 no) ∧ W1.cell? ⟨w.heap.size, 2, none⟩ = some (.bool mu) ∧ W1.cell? ⟨w.heap.size, 3, none⟩ = some (.iface 127 (.agg #[.slice ap np cp])) := ⟨b0, b1, b2, b3⟩
  have hown1 : Hid (W1.ownsRow B 38 6 (.slice ar L.length capr) L.length (L.flatMap Ty.cells)) := own_below hown hB1
  have HOW : Hid (TyRow w B (.slice ar L.length capr) L) := hown
  clear b0 b1 b2 b3 hown
  have hne0 : some w.heap.size ≠ (Value.slice ar L.length capr).ownBlock := fun e => by have := (hlt0 _ e.symm).2; omega
  have ta0 := taMsgEnu
  have ta1 := taMsgLst
  have ta2 := taMsgMsg
  go_enter Try.func94, Try.ntmps94
  go_upto_region 2 with fail
  rw [← hW1]
  clear hW1
  have hbw1d : Below (w.heap.size + 1) W1 W1.drew := (Below.refl _ _).drew
  have s1d := s4_below s1 hbw1d (by omega)
  go_region_held3 (fun w' => w'.cell? ⟨w.heap.size, 0, none⟩ = some (.string nm) ∧ w'.cell? ⟨w.heap.size, 1, none⟩ = some (.int .i64 no) ∧ w'.cell? ⟨w.heap.size, 2, none⟩ = some (.bool mu) ∧ w'.cell? ⟨w.heap.size, 3, none⟩ = some (.iface 127 (.agg #[.slice ap np cp])))
    (first | exact s9 | exact s3a | exact s3 | exact s2 | exact s1d | exact s1)
    (first
      | (go_at_call 144; refine (kindMsg ap np cp _).mono ?_; rintro e w2 ⟨rfl, hb2⟩; have hbw2 : Below (w.heap.size + 1) W1 w2 := hbw1d.trans (hb2.mono (by have := HS1.out; show _ ≤ W1.heap.size; omega)); have s2 := s4_below s1 hbw2 (by omega))
      | (go_at_call 92; refine (clone_any nm _ (by omega)).mono ?_; rintro e w3 ⟨rfl, hb3⟩; have hbw3 : Below (w.heap.size + 1) W1 w3 := hbw2.trans (hb3.mono (by have h1 := hbw2.size; have := HS1.out; omega)); have s3 := s4_below s1 hbw3 (by omega); have hown3 := own_below hown1.out (show Below W1.heap.size W1 w3 from by rw [HS1.out]; exact hbw3); have hz3 : w.heap.size < w3.heap.size := (by have h1 := hbw3.size; have := HS1.out; omega); have s3a := s4_below s3 ((Below.refl _ w3).alloc (Nat.le_refl _) (.cells #[.int .i64 5, .string nm, .int .i64 no, .bool mu, .int .i64 up, .int .i64 0] 38)) hz3)
      | (refine step_append_lies _ (by rfl) _ _ _ (by rfl) B 38 i0 (.agg #[.int .i64 0, .string ⟨#[]⟩, .int .i64 0, .bool false, .int .i64 0, .int .i64 0]) 6 56 Try.underlying23 hi hz0 hz1 hz2 rfl (by decide) _ L.length _ (by rfl) (hown3.alloc _) ⟨w3.heap.size, 0, none⟩ 1 1 [.int .i64 5, .string nm, .int .i64 no, .bool mu, .int .i64 up, .int .i64 0] (by rfl) rfl (World.news_of_block (heap_alloc_new w3 _)) one6P (by omega) (by unfold maxLen; omega) (by omega) (by simp; omega) (w3.heap.size + 1) (by simp) ?_; intro g9 cap9 w9 hown9 hgrow9 hat9 hlt9; have s9 := s4_grow s3a hgrow9 (by simp; omega) hne0))
  have hG9 : Grow w w9 (.slice ar L.length capr) (.slice (some ⟨g9, 0, none⟩) (L.length + 1) cap9) := head_grow hB1 HS1.out hbw3 hgrow9 hat9
  have hown9' : TyRow w9 B (.slice (some ⟨g9, 0, none⟩) (L.length + 1) cap9) (L ++ [⟨5, nm, no, mu, up, 0⟩]) := by
    unfold TyRow
    rw [List.length_append, List.length_singleton, List.flatMap_append]
    simpa [Ty.cells] using hown9
  obtain ⟨_, _, _, b39⟩ := s9
  have hz9 : w.heap.size < w9.heap.size := by have := hgrow9.size; simp at this; omega
  clear hown9 hgrow9 hat9 s3a s3 s2 s1d s1 hbw1d hbw2 hbw3 hb2 hb3 hown3 hz3 hown1
  have HG9 : Hid (Grow w w9 (.slice ar L.length capr) (.slice (some ⟨g9, 0, none⟩) (L.length + 1) cap9)) := hG9
  have HO9 : Hid (TyRow w9 B (.slice (some ⟨g9, 0, none⟩) (L.length + 1) cap9) (laid L (.mk 5 nm no mu 0 ks) up 0)) := by rw [HL0.out]; exact hown9'
  have hb10 : Below w9.heap.size w9 (w9.alloc (.cells #[.slice ap np cp] 127)) := (Below.refl _ w9).alloc (Nat.le_refl _) _
  have HG10 : Hid (Grow w (w9.alloc (.cells #[.slice ap np cp] 127)) (.slice ar L.length capr) (.slice (some ⟨g9, 0, none⟩) (L.length + 1) cap9)) := hG9.trans (Grow.below hb10)
  have HO10 : Hid (TyRow (w9.alloc (.cells #[.slice ap np cp] 127)) B (.slice (some ⟨g9, 0, none⟩) (L.length + 1) cap9) (laid L (.mk 5 nm no mu 0 ks) up 0)) := own_below HO9.out hb10
  clear hG9 hown9' hb10 HG9 HO9
  go_wp2
  go_loopw [0, 56] (fun vl vi wr => ∃ i : Nat, i ≤ ks.length ∧ vi = .int .i64 (i : Int) ∧ Hid (TyRow wr B vl (laid L (.mk 5 nm no mu 0 ks) up i)) ∧ Hid (Grow w wr (.slice ar L.length capr) vl))
    (fun _ vi _ => ks.length - (intOf vi).toNat)
  case atStart => exact ⟨0, by omega, rfl, HO10, HG10⟩
  case round =>
    obtain ⟨i, hil, rfl, hrowi, hgi⟩ := hrel
    have hsr := hgi.out.size
    by_cases hlt : i < ks.length
    · have hlt' : (i : Int) < (np : Int) := by have := HNP.out; omega
      obtain ⟨x, hx⟩ : ∃ x, ks[i]? = some x := ⟨_, List.getElem?_eq_getElem hlt⟩
      obtain ⟨g, o, u, hao, hSg, hnd, hkk⟩ := HROW.out i x hx
      subst hao
      have hg := HS.out g hSg
      have hnd' := hnd.kept (hgi.out.block hg (fun e => HAP.out g e hSg))
      obtain ⟨xa, xv⟩ := u
      obtain ⟨e0, e1, e2, e3⟩ := hnd'
      dsimp only at e3 hkk
      have hst := HST.out i x hx
      have hgz : g < wr.heap.size := by omega
      have hihx := ih.out x (List.mem_of_getElem? hx)
      have hBx : Below wr.heap.size wr (wr.alloc (.cells #[.string x.name, .int .i64 x.no, .bool x.must, .iface xa xv] 73)) := (Below.refl _ wr).alloc (Nat.le_refl _) _
      have IC := hihx.1 xa xv (L.length : Int) _ (laid L (.mk 5 nm no mu 0 ks) up i) S B (wr.alloc (.cells #[.string x.name, .int .i64 x.no, .bool x.must, .iface xa xv] 73))
        (hkk.kept (fun g hg => by rw [hBx.block g (by have := HS.out g hg; omega)]; exact hgi.out.block (HS.out g hg) (fun e => HAP.out g e hg)) (fun _ h => h)) (fun g hg => by have h1 := HS.out g hg; have h2 := hBx.size; omega) (hgi.out.apart HS.out HAP.out) (own_below hrowi.out hBx) (by simp; omega) hst.2 hihx.2.1 hihx.2.2
      have IC' : Hid (Calls Try.prog 94 #[_, .agg #[.string x.name, .int .i64 x.no, .bool x.must, .iface xa xv], .int .i64 (L.length : Int)] (wr.alloc (.cells #[.string x.name, .int .i64 x.no, .bool x.must, .iface xa xv] 73)) fun e w' => ∃ rv', e = .returned rv' ∧ TyRow w' B rv' (laid L (.mk 5 nm no mu 0 ks) up i ++ flat x L.length (laid L (.mk 5 nm no mu 0 ks) up i).length) ∧ Grow (wr.alloc (.cells #[.string x.name, .int .i64 x.no, .bool x.must, .iface xa xv] 73)) w' _ rv') := IC
      have HE : Hid (laid L (.mk 5 nm no mu 0 ks) up (i + 1) = laid L (.mk 5 nm no mu 0 ks) up i ++ flat x L.length (laid L (.mk 5 nm no mu 0 ks) up i).length) := hst.1
      rw [← HE.out] at IC'
      have HBX : Hid (Below wr.heap.size wr (wr.alloc (.cells #[.string x.name, .int .i64 x.no, .bool x.must, .iface xa xv] 73))) := hBx
      clear IC hst hnd hkk hx hBx HE hihx
      go_wp2_with fail
      refine IC'.out.mono ?_
      rintro e w5 ⟨rv5, rfl, hrow5, hg5⟩
      have hG5 := (hgi.out.trans (Grow.below HBX.out)).trans hg5
      clear hg5 IC' hgi hrowi HBX
      go_wp2
      go_roundw
      case rel => exact ⟨i + 1, by omega, by go_num, hrow5, hG5⟩
      case measure => simp [intOf]; omega
    · have hke : i = ks.length := by omega
      have hge : ¬ ((i : Int) < (np : Int)) := by have := HNP.out; omega
      rw [show laid L (.mk 5 nm no mu 0 ks) up i = L ++ flat (.mk 5 nm no mu 0 ks) up L.length from by rw [hke]; exact HEND.out] at hrowi
      clear hke
      go_wp2
      go_ret
      exact ⟨_, rfl, hrowi.out, hgi.out⟩

theorem mk_eta (t : Tr) : t = .mk t.kind t.name t.no t.must t.most t.kids := by cases t; rfl

theorem part_leaf {t : Tr} {ua : TypeId} {uv : Value} (hl : Leaf (.iface ua uv) t) (up : Int) (rv : Value) (L : List Ty) (B : Nat) (w : World) (hown : TyRow w B rv L) (hBw : B ≤ w.heap.size) (hlim : L.length + t.size ≤ 1000000) (hnm : NmT t) (hfg : FG t) :
    Calls Try.prog 94 #[rv, .agg #[.string t.name, .int .i64 t.no, .bool t.must, .iface ua uv], .int .i64 up] w fun e w' => ∃ rv', e = .returned rv' ∧ TyRow w' B rv' (L ++ flat t up L.length) ∧ Grow w w' rv rv' := by
  obtain ⟨hks, hl⟩ := hl
  have hn := ((NmT_iff t).1 hnm).1
  have hz := t.size_pos
  have hf : flat t up L.length = [⟨t.kind, t.name, t.no, t.must, up, t.most⟩] := by rw [flat_eq, hks]; rfl
  rw [hf]
  have hmo := ((FG_iff t).1 hfg).1
  rcases hl with ⟨hk, he⟩ | ⟨hk, he⟩ | ⟨hk, he⟩
  · cases he
    rw [hk, hmo (by omega)]
    exact appendPartNum rv t.name t.no t.must up L B w hown hBw (by omega) hn
  · cases he
    rw [hk, hmo (by omega)]
    exact appendPartTxt rv t.name t.no t.must up L B w hown hBw (by omega) hn
  · cases he
    rw [hk]
    exact appendPartEnu t.most rv t.name t.no t.must up L B w hown hBw (by omega) hn

theorem appendPart_any : ∀ (d : Nat) (t : Tr), PartOK d t := by
  intro d
  induction d with
  | zero =>
    intro t ua uv up rv L S B w hsh hS hap hown hBw hlim hnm hfg
    exact part_leaf hsh up rv L B w hown hBw hlim hnm hfg
  | succ d ih =>
    intro t ua uv up rv L S B w hsh hS hap hown hBw hlim hnm hfg
    have hz := t.size_eq
    have hn := (NmT_iff t).1 hnm
    have hf := (FG_iff t).1 hfg
    rcases hsh with hl | ⟨hk, x, l, u, hkids, he, hx⟩ | ⟨hk, ao, cap, he, hp⟩
    · exact part_leaf hl up rv L B w hown hBw hlim hnm hfg
    · obtain ⟨xa, xv⟩ := u
      cases he
      obtain ⟨y, hy, y1, y2, y3⟩ := hf.2.1 hk
      rw [hy] at hkids
      cases hkids
      have hmo := hf.1 (by omega)
      have hfl : L ++ flat t up L.length = L ++ [(⟨4, t.name, t.no, t.must, up, 0⟩ : Ty)] ++ flat x L.length (L.length + 1) := by
        rw [flat_eq, hy, hk, hmo]
        simp [flatL]
      rw [hfl]
      have hzx : x.size ≤ sizeL t.kids := sizeL_mem t.kids x (by rw [hy]; simp)
      refine appendPartLst xa xv rv t.name t.no t.must up L B w hown hBw (by omega) hn.1 x ?_
      intro rv1 w1 hg1 hr1
      have := ih x xa xv (L.length : Int) rv1 (L ++ [(⟨4, t.name, t.no, t.must, up, 0⟩ : Ty)]) S B w1 (hx.kept (fun g hg => hg1.block (hS g hg) (fun e => hap g e hg)) (fun _ h => h)) (fun g hg => by have h1 := hS g hg; have h2 := hg1.size; omega) (hg1.apart hS hap) hr1 (by have := hg1.size; omega) (by rw [List.length_append, List.length_singleton]; omega) (hn.2 x (by rw [hy]; simp)) (hf.2.2 x (by rw [hy]; simp))
      rw [y1, y2, y3, List.length_append, List.length_singleton] at this
      exact this
    · cases he
      have hmo := hf.1 (by omega)
      have hft : flat t up L.length = flat (.mk 5 t.name t.no t.must 0 t.kids) up L.length := by
        conv => lhs; rw [mk_eta t, hk, hmo]
      rw [hft]
      exact appendPartMsg d t.kids ao cap rv t.name t.no t.must up L S B w ⟨ao, cap, rfl, hp⟩ hS hap hown hBw (by omega) hn.1 (fun x hx => ⟨ih x, hn.2 x hx, hf.2.2 x hx⟩)

end Go.Proofs.Ytpajdmhakdbkjaa

namespace Go.Proofs.Ytpajdmhakdbkjaa
open Go.RowKit Plain Sch

set_option maxRecDepth 100000 in
set_option maxHeartbeats 4000000 in
theorem wholeSchema_any (d : Nat) (l : List Tr) (c : Value) (S : Nat → Prop) (w : World) (hk : PartsIn d w S c l) (hS : ∀ g, S g → g < w.heap.size) (hz : sizeL l + 1 ≤ 1000000) (hl : ∀ x ∈ l, NmT x ∧ FG x) :
    Calls Try.prog 56 #[c] w fun e w' => ∃ rv, e = .returned (.agg #[rv]) ∧ TyRow w' w.heap.size rv (flat (.mk 5 ⟨#[]⟩ 0 false 0 l) (-1) 0) ∧ Below w.heap.size w w' := by
  have HK : Hid (PartsIn d w S c l) := hk
  obtain ⟨ao, cap, rfl, _⟩ := hk
  obtain ⟨W2, hW2⟩ : ∃ W, W = (w.alloc (.cells #[.slice none 0 0] 25)).alloc (.cells #[.string ⟨#[]⟩, .int .i64 0, .bool false, .iface 127 (.agg #[.slice ao l.length cap])] 73) := ⟨_, rfl⟩
  have hB2 : Below w.heap.size w W2 := by rw [hW2]; exact ((Below.refl _ w).alloc (Nat.le_refl _) _).alloc (by simp) _
  have HS2 : Hid (W2.heap.size = w.heap.size + 2) := by show _ = _; rw [hW2]; simp
  have x0 : W2.cell? ⟨w.heap.size, 0, none⟩ = some (.slice none 0 0) := by rw [hW2]; go_simp
  have z0 : W2.frozen? ⟨w.heap.size, 0, none⟩ = false := by rw [hW2]; go_simp
  have hk2 : PartsIn d W2 S (.slice ao l.length cap) l := HK.out.kept (fun g hg => hB2.block g (hS g hg)) (fun _ h => h)
  have FC := appendPartMsg d l ao cap (.slice none 0 0) ⟨#[]⟩ 0 false (-1) [] S W2.heap.size W2 hk2 (fun g hg => by have h1 := hS g hg; have h2 := hB2.size; omega) (fun g hg => by simp [Value.ownBlock] at hg) (World.ownsRow_nil _ _ _ _) (Nat.le_refl _) (by simp; omega) (by simp [ByteArray.size]) (fun x hx => ⟨appendPart_any d x, (hl x hx).1, (hl x hx).2⟩)
  simp only [List.nil_append, List.length_nil] at FC
  have FC' : Hid (Calls Try.prog 94 #[.slice none 0 0, .agg #[.string ⟨#[]⟩, .int .i64 0, .bool false, .iface 127 (.agg #[.slice ao l.length cap])], .int .i64 (-1)] W2 fun e w' => ∃ rv', e = .returned rv' ∧ TyRow w' W2.heap.size rv' (flat (.mk 5 ⟨#[]⟩ 0 false 0 l) (-1) 0) ∧ Grow W2 w' (.slice none 0 0) rv') := FC
  clear FC hS hl hz HK hk2
  generalize flat (.mk 5 ⟨#[]⟩ 0 false 0 l) (-1) 0 = F at *
  generalize l.length = nl at *
  go_enter Try.func56, Try.ntmps56
  go_wp2_with fail
  rw [← hW2]
  clear hW2
  refine FC'.out.mono ?_
  rintro e w5 ⟨rv, rfl, hrow, hg5⟩
  have hb5 := hg5.toBelow
  have hs2 := HS2.out
  have hs5 := hb5.size
  have hB5 : Below w.heap.size w w5 := hB2.trans (hb5.mono hB2.size)
  have x5 := (hb5.cell (p := ⟨w.heap.size, 0, none⟩) (by show w.heap.size < _; omega)).trans x0
  have z5 := (hb5.frozen (p := ⟨w.heap.size, 0, none⟩) (by show w.heap.size < _; omega)).trans z0
  have hz5 : w.heap.size < w5.heap.size := by omega
  have HROW : Hid (TyRow (w5.setCell ⟨w.heap.size, 0, none⟩ rv) w.heap.size rv F) := (hrow.setCell (a := ⟨w.heap.size, 0, none⟩) (by show w.heap.size < _; omega) rv).lower hB2.size
  obtain ⟨ar, capr, rfl, _⟩ := ownSlice hrow
  clear hrow hg5 hb5 FC' x0 z0 hs2 hs5
  go_wp2
  (try simp only [Exit.inBlock, Exit.then])
  refine bodyPost_ret (v := .agg #[.slice ar F.length capr]) ?_ rfl ⟨.slice ar F.length capr, rfl, HROW.out, ?_⟩
  · rw [results_cell1 rfl]
    go_simp
  · exact hB5.setCell (p := ⟨w.heap.size, 0, none⟩) (Nat.le_refl _) _

/-- what SubSchema answers -/
def ssof (T : List Ty) (k : Int) : List Ty × Bool := if gs T = true ∧ 0 ≤ k ∧ k < T.length ∧ (ty T k.toNat).kind = 5 then (flat (bareT (tree T 41 k.toNat)) (-1) 0, true) else ([], false)

theorem ssof_no (T : List Ty) (k : Int) (h : ¬ (gs T = true ∧ 0 ≤ k ∧ k < T.length ∧ (ty T k.toNat).kind = 5)) : ssof T k = ([], false) := by unfold ssof; rw [if_neg h]
theorem ssof_yes (T : List Ty) (k : Nat) (h : gs T = true) (h2 : k < T.length) (h5 : (ty T k).kind = 5) : ssof T (k : Int) = (flat (bareT (tree T 41 k)) (-1) 0, true) := by
  unfold ssof; rw [if_pos ⟨h, by omega, by omega, by rw [Int.toNat_natCast]; exact h5⟩, Int.toNat_natCast]

theorem tree_most (T : List Ty) (h : gs T = true) (f k : Nat) (hk : k < T.length) (h5 : (ty T k).kind = 5) : (tree T f k).most = 0 := by
  have := (gs_parts T h).2.2.1 k hk
  unfold typeOk okKind at this
  simp only [Bool.and_eq_true] at this
  have h1 := this.1.2
  rw [if_neg (by omega)] at h1
  have h2 : (ty T k).most = 0 := by simpa using h1
  cases f <;> exact h2

theorem bare_message (T : List Ty) (h : gs T = true) (k : Nat) (hk : k < T.length) (h5 : (ty T k).kind = 5) : bareT (tree T 41 k) = .mk 5 ⟨#[]⟩ 0 false 0 ((kids T k).map (tree T 40)) := by
  unfold bareT
  rw [tree_most T h 41 k hk h5]
  show Tr.mk (ty T k).kind _ _ _ _ _ = _
  rw [h5]
  rfl

def OSchema (w w' : World) (e : Ending) (R : List Ty × Bool) : Prop := ∃ rv, e = .returned (.tuple #[.agg #[rv], .bool R.2]) ∧ TyRow w' w.heap.size rv R.1 ∧ Below w.heap.size w w'

end Go.Proofs.Ytpajdmhakdbkjaa

namespace Go.Proofs.Ytpajdmhakdbkjaa
open Go.RowKit Plain Sch

set_option maxRecDepth 100000 in
set_option maxHeartbeats 4000000 in
theorem implSubS (T : List Ty) (v : Value) (k : Int) (w : World) (hT : TysAt w w.heap.size v T) :
    Calls Try.prog 17 #[.agg #[v], .int .i64 k] w fun e w' => OSchema w w' e (ssof T k) := by
  have HT : Hid (TysAt w w.heap.size v T) := hT
  obtain ⟨R, hR⟩ : ∃ R, R = ssof T k := ⟨_, rfl⟩
  rw [← hR]
  have HR : Hid (R = ssof T k) := hR
  clear hR
  obtain ⟨ao, cap, rfl, hlc, hcm, hrow, _⟩ := hT
  have HROW : Hid (∀ i, i < T.length → ∃ g o, ao = some ⟨g, o, none⟩ ∧ g < w.heap.size ∧ TyIn w g (o + i * 6) (ty T i)) := hrow
  clear hrow
  have hcm' : (cap : Int) ≤ 9223372036854775807 := by unfold maxLen at hcm; omega
  have hlm : (T.length : Int) ≤ 9223372036854775807 := by omega
  obtain ⟨W2, hW2⟩ : ∃ W, W = (w.alloc (.cells #[.slice ao T.length cap] 25)).alloc (.cells #[.slice none 0 0] 25) := ⟨_, rfl⟩
  have hB1 : Below w.heap.size w W2 := by rw [hW2]; exact ((Below.refl _ w).alloc (Nat.le_refl _) _).alloc (by simp) _
  have HS2 : Hid (W2.heap.size = w.heap.size + 2) := by show _ = _; rw [hW2]; simp
  have q0 : W2.cell? ⟨w.heap.size, 0, none⟩ = some (.slice ao T.length cap) := by rw [hW2]; go_simp
  have x0 : W2.cell? ⟨w.heap.size + 1, 0, none⟩ = some (.slice none 0 0) := by rw [hW2]; go_simp
  have z0 : W2.frozen? ⟨w.heap.size + 1, 0, none⟩ = false := by rw [hW2]; go_simp
  unfold OSchema
  go_enter Try.func17, Try.ntmps17
  go_wp2_with fail
  rw [← hW2]
  clear hW2
  refine (implGoodT T _ _ (HT.out.below hB1)).mono ?_
  rintro e w2 ⟨rfl, hb2⟩
  have hB2 : Below w.heap.size w w2 := hB1.trans (hb2.mono hB1.size)
  have hz2 : w.heap.size + 1 < w2.heap.size := by have := hb2.size; have := HS2.out; omega
  have q2 := (hb2.cell (p := ⟨w.heap.size, 0, none⟩) (by have := HS2.out; show w.heap.size < _; omega)).trans q0
  have x2 := (hb2.cell (p := ⟨w.heap.size + 1, 0, none⟩) (by have := HS2.out; show w.heap.size + 1 < _; omega)).trans x0
  have z2 := (hb2.frozen (p := ⟨w.heap.size + 1, 0, none⟩) (by have := HS2.out; show w.heap.size + 1 < _; omega)).trans z0
  have hle : w.heap.size ≤ w.heap.size + 1 := by omega
  clear hb2 q0 x0 z0
  by_cases hg : gs T = true
  · rw [hg]
    by_cases h0 : k < 0
    · have hn : Hid (R = ([], false)) := HR.out.trans (ssof_no T k (fun h => by omega))
      clear hg
      go_wp2
      (try simp only [Exit.inBlock, Exit.then])
      refine bodyPost_ret (v := .tuple #[.agg #[.slice none 0 0], .bool false]) ?_ rfl ⟨.slice none 0 0, by rw [hn.out], ?_, ?_⟩
      · rw [results_cell_tmp rfl]
        go_simp
      · rw [hn.out]
        exact World.ownsRow_nil _ _ _ _
      · exact hB2.setCell (p := ⟨w.heap.size + 1, 0, none⟩) hle _
    · by_cases h1 : (T.length : Int) ≤ k
      · have hn : Hid (R = ([], false)) := HR.out.trans (ssof_no T k (fun h => by omega))
        have h0' : decide (k < 0) = false := by simpa using h0
        clear hg h0
        go_wp2
        (try simp only [Exit.inBlock, Exit.then])
        refine bodyPost_ret (v := .tuple #[.agg #[.slice none 0 0], .bool false]) ?_ rfl ⟨.slice none 0 0, by rw [hn.out], ?_, ?_⟩
        · rw [results_cell_tmp rfl]
          go_simp
        · rw [hn.out]
          exact World.ownsRow_nil _ _ _ _
        · exact hB2.setCell (p := ⟨w.heap.size + 1, 0, none⟩) hle _
      · obtain ⟨n, rfl⟩ := Int.eq_ofNat_of_zero_le (show 0 ≤ k by omega)
        have HG : Hid (gs T = true) := hg
        have h30 := (gs_types T hg).2.1
        obtain ⟨g, o, rfl, hgb, hty⟩ := HROW.out n (by omega)
        have c0 := (hty.below hB2 hgb).1
        have h1' : decide ((T.length : Int) ≤ (n : Int)) = false := by simpa using h1
        have hn' : (n : Int) < (T.length : Int) := by omega
        have hn0' : (0 : Int) ≤ (n : Int) := by omega
        have HT2 : Hid (TysAt w2 w2.heap.size (.slice (some ⟨g, o, none⟩) T.length cap) T) := HT.out.below hB2
        clear hg h0 hty
        by_cases h5 : (ty T n).kind = 5
        · have hn : Hid (R = (flat (bareT (tree T 41 n)) (-1) 0, true)) := HR.out.trans (ssof_yes T n HG.out (by omega) h5)
          have HH5 : Hid ((ty T n).kind = 5) := h5
          have HTELL : Hid (tell (bareT (tree T 41 n)) = (flat (bareT (tree T 41 n)) (-1) 0, true)) := tell_yes _ (sub_good T HG.out 41 n (by omega) (by omega) h5)
          have HNMB : Hid (NmT (bareT (tree T 41 n))) := gt_names _ (by show ByteArray.size ⟨#[]⟩ ≤ 10; simp [ByteArray.size]) (bare_good _ (tree_good T HG.out 41 n (by omega) (by omega)))
          rw [h5] at c0
          clear h5
          have OP : Hid (Calls Try.prog 50 #[.slice (some ⟨g, o, none⟩) T.length cap, .int .i64 n] w2 (OwnPartsR T 40 n w2)) := ownParts_any T _ HG.out 40 n w2 HT2.out (by omega) (by omega)
          unfold OwnPartsR at OP
          have HBM : Hid (bareT (tree T 41 n) = .mk 5 ⟨#[]⟩ 0 false 0 ((kids T n).map (tree T 40))) := bare_message T HG.out n (by omega) HH5.out
          rw [HBM.out] at hn HNMB
          have HFG : Hid (FG (.mk 5 ⟨#[]⟩ 0 false 0 ((kids T n).map (tree T 40)))) := by
            rw [← HBM.out]
            exact gt_fg _ (bare_good _ (tree_good T HG.out 41 n (by omega) (by omega)))
          have HSZ : Hid (sizeL ((kids T n).map (tree T 40)) + 1 ≤ 30) := by
            have h1 := tree_size T HG.out 41 n (by omega) (by omega)
            rw [← bare_size, HBM.out] at h1
            show _ ≤ _
            rw [Tr.size] at h1
            omega
          generalize (kids T n).map (tree T 40) = ks at *
          have HKS : Hid (∀ x ∈ ks, NmT x ∧ FG x) := fun x hx => ⟨((NmT_iff _).1 HNMB.out).2 x hx, ((FG_iff _).1 HFG.out).2.2 x hx⟩
          go_wp2_with fail
          refine OP.out.mono ?_
          rintro e w5 ⟨c, rfl, hpk, hb5⟩
          have hB5 : Below w.heap.size w w5 := hB2.trans (hb5.mono hB2.size)
          have hz5 : w.heap.size + 1 < w5.heap.size := by have := hb5.size; omega
          have x5 := (hb5.cell (p := ⟨w.heap.size + 1, 0, none⟩) hz2).trans x2
          have z5 := (hb5.frozen (p := ⟨w.heap.size + 1, 0, none⟩) hz2).trans z2
          have WH : Hid (Calls Try.prog 56 #[c] w5 fun e w' => ∃ rv, e = .returned (.agg #[rv]) ∧ TyRow w' w5.heap.size rv (flat (.mk 5 ⟨#[]⟩ 0 false 0 ks) (-1) 0) ∧ Below w5.heap.size w5 w') := wholeSchema_any 40 ks c _ w5 hpk (fun g hg => hg.2) (by have := HSZ.out; omega) HKS.out
          clear hpk hb5 OP
          generalize flat (.mk 5 ⟨#[]⟩ 0 false 0 ks) (-1) 0 = F at *
          go_wp2_with fail
          refine WH.out.mono ?_
          rintro e w6 ⟨rv, rfl, hrow, hb6⟩
          have hB6 : Below w.heap.size w w6 := hB5.trans (hb6.mono hB5.size)
          have x6 := (hb6.cell (p := ⟨w.heap.size + 1, 0, none⟩) hz5).trans x5
          have z6 := (hb6.frozen (p := ⟨w.heap.size + 1, 0, none⟩) hz5).trans z5
          have hz6 : w.heap.size + 1 < w6.heap.size := by have := hb6.size; omega
          have HROW : Hid (TyRow (w6.setCell ⟨w.heap.size + 1, 0, none⟩ rv) w.heap.size rv F) := (hrow.setCell (a := ⟨w.heap.size + 1, 0, none⟩) hz5 rv).lower hB5.size
          obtain ⟨ar, capr, rfl, _⟩ := ownSlice hrow
          clear hrow hb6 WH x5 z5
          go_wp2
          (try simp only [Exit.inBlock, Exit.then])
          refine bodyPost_ret (v := .tuple #[.agg #[.slice ar F.length capr], .bool true]) ?_ rfl ⟨.slice ar F.length capr, by rw [hn.out], ?_, ?_⟩
          · rw [results_cell_tmp rfl]
            go_simp
          · rw [hn.out]
            exact HROW.out
          · exact hB6.setCell (p := ⟨w.heap.size + 1, 0, none⟩) hle _
        · have hn : Hid (R = ([], false)) := HR.out.trans (ssof_no T n (fun h => h5 (by have := h.2.2.2; rwa [Int.toNat_natCast] at this)))
          have h5' : ((ty T n).kind != 5) = true := by simpa using h5
          have h5'' : ((ty T n).kind == 5) = false := by simpa using h5
          clear h5
          go_wp2
          (try simp only [Exit.inBlock, Exit.then])
          refine bodyPost_ret (v := .tuple #[.agg #[.slice none 0 0], .bool false]) ?_ rfl ⟨.slice none 0 0, by rw [hn.out], ?_, ?_⟩
          · rw [results_cell_tmp rfl]
            go_simp
          · rw [hn.out]
            exact World.ownsRow_nil _ _ _ _
          · exact hB2.setCell (p := ⟨w.heap.size + 1, 0, none⟩) hle _
  · have hg' : gs T = false := by simpa using hg
    have hn : Hid (R = ([], false)) := HR.out.trans (ssof_no T k (fun h => hg h.1))
    rw [hg']
    clear hg hg'
    go_wp2
    (try simp only [Exit.inBlock, Exit.then])
    refine bodyPost_ret (v := .tuple #[.agg #[.slice none 0 0], .bool false]) ?_ rfl ⟨.slice none 0 0, by rw [hn.out], ?_, ?_⟩
    · rw [results_cell_tmp rfl]
      go_simp
    · rw [hn.out]
      exact World.ownsRow_nil _ _ _ _
    · exact hB2.setCell (p := ⟨w.heap.size + 1, 0, none⟩) hle _


end Go.Proofs.Ytpajdmhakdbkjaa
