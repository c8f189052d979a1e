/- FitsSchema: the model's. -/
import Derived.Test.YtpajdmhakdbkjaaNdO
import Derived.Test.YtpajdmhakdbkjaaNdP
import Derived.Test.YtpajdmhakdbkjaaNdQ
import Derived.Test.YtpajdmhakdbkjaaNdN
import Derived.Test.YtpajdmhakdbkjaaNdU
import Derived.Test.YtpajdmhakdbkjaaPfG
namespace Go.Proofs.Ytpajdmhakdbkjaa
open Go.RowKit Plain Sch

theorem vkids_one {w : World} {S : Nat → Prop} {c : Value} {l : List Tr} (h : VKids 0 w S c l) : VKids 1 w S c l ∧ l = [] := by
  obtain ⟨ao, cap, hc, hcm, rfl⟩ := h
  exact ⟨⟨ao, cap, by simpa using hc, by simp, hcm, fun i t hi => by simp at hi⟩, rfl⟩

theorem kidsIn_one {w : World} {S : Nat → Prop} {c : Value} {l : List Tr} (h : KidsIn 0 w S c l) : KidsIn 1 w S c l ∧ l = [] := by
  obtain ⟨ao, cap, hc, hcm, rfl⟩ := h
  exact ⟨⟨ao, cap, by simpa using hc, by simp, hcm, fun i t hi => by simp at hi⟩, rfl⟩

theorem fitR_zero (v t : Tr) (hv : v.kids = []) (ht : t.kids = []) (h4 : t.kind ≠ 4) : fitR (fun _ _ => false) v t = vfitS 0 v t := by
  unfold fitR
  rw [vfitS, if_neg h4, hv, ht]
  rfl

theorem fitR_succ (d : Nat) (v t : Tr) : fitR (vfitS d) v t = vfitS (d + 1) v t := by
  unfold fitR
  rw [vfitS]
  rfl

theorem kind_casesT {t : Tr} (h : GT t) : t.kind = 1 ∨ t.kind = 2 ∨ t.kind = 3 ∨ t.kind = 4 ∨ t.kind = 5 := by
  have := ((GT_iff t).1 h).1
  unfold okKind at this
  simp only [Bool.and_eq_true, decide_eq_true_eq] at this
  have := this.1
  omega

theorem l4Fits_any : ∀ (d : Nat) (v t : Tr) (av ta : Option Addr) (lv cv lt ct : Nat) (Sv St : Nat → Prop) (w : World), VKids d w Sv (.slice av lv cv) v.kids → KidsIn d w St (.slice ta lt ct) t.kids → (∀ g, Sv g → g < w.heap.size) → (∀ g, St g → g < w.heap.size) → LG d t → GT t →
    Calls Try.prog 60 #[vv v av lv cv, tv t ta lt ct] w fun e w' => e = .returned (.bool (vfitS d v t)) ∧ Below w.heap.size w w' := by
  intro d
  induction d with
  | zero =>
    intro v t av ta lv cv lt ct Sv St w hv ht hSv hSt hL hG
    obtain ⟨hv1, hvk⟩ := vkids_one hv
    obtain ⟨ht1, htk⟩ := kidsIn_one ht
    have h4 : t.kind ≠ 4 := hL
    rw [← fitR_zero v t hvk htk h4]
    have ih : ∀ (x y : Tr) (ax ay : Option Addr) (lx cx ly cy : Nat) (W : World), x ∈ v.kids → y ∈ t.kids → VKids 0 W Sv (.slice ax lx cx) x.kids → KidsIn 0 W St (.slice ay ly cy) y.kids → (∀ g, Sv g → g < W.heap.size) → (∀ g, St g → g < W.heap.size) → Calls Try.prog 60 #[vv x ax lx cx, tv y ay ly cy] W fun e w' => e = .returned (.bool ((fun _ _ => false : Tr → Tr → Bool) x y)) ∧ Below W.heap.size W w' := fun x y _ _ _ _ _ _ _ hx => by rw [hvk] at hx; simp at hx
    rcases kind_casesT hG with h | h | h | h | h
    · exact l4Fits_leaf 0 _ v t av lv cv ta lt ct Sv St w hv1 ht1 hSv hSt (fun h => absurd h h4) (.inl h) ih
    · exact l4Fits_leaf 0 _ v t av lv cv ta lt ct Sv St w hv1 ht1 hSv hSt (fun h => absurd h h4) (.inr (.inl h)) ih
    · exact l4Fits_leaf 0 _ v t av lv cv ta lt ct Sv St w hv1 ht1 hSv hSt (fun h => absurd h h4) (.inr (.inr h)) ih
    · exact absurd h h4
    · exact l4Fits_msg 0 _ v t av lv cv ta lt ct Sv St w hv1 ht1 hSv hSt (fun h => absurd h h4) h ih
  | succ d ih0 =>
    intro v t av ta lv cv lt ct Sv St w hv ht hSv hSt hL hG
    rw [← fitR_succ d v t]
    have hGk := ((GT_iff t).1 hG).2.2
    have ih : ∀ (x y : Tr) (ax ay : Option Addr) (lx cx ly cy : Nat) (W : World), x ∈ v.kids → y ∈ t.kids → VKids d W Sv (.slice ax lx cx) x.kids → KidsIn d W St (.slice ay ly cy) y.kids → (∀ g, Sv g → g < W.heap.size) → (∀ g, St g → g < W.heap.size) → Calls Try.prog 60 #[vv x ax lx cx, tv y ay ly cy] W fun e w' => e = .returned (.bool (vfitS d x y)) ∧ Below W.heap.size W w' := fun x y ax ay lx cx ly cy W _ hy h1 h2 h3 h4 => ih0 x y ax ay lx cx ly cy Sv St W h1 h2 h3 h4 (hL.2 y hy) (hGk y hy)
    rcases kind_casesT hG with h | h | h | h | h
    · exact l4Fits_leaf d _ v t av lv cv ta lt ct Sv St w hv ht hSv hSt hL.1 (.inl h) ih
    · exact l4Fits_leaf d _ v t av lv cv ta lt ct Sv St w hv ht hSv hSt hL.1 (.inr (.inl h)) ih
    · exact l4Fits_leaf d _ v t av lv cv ta lt ct Sv St w hv ht hSv hSt hL.1 (.inr (.inr h)) ih
    · exact l4Fits_list d _ v t av lv cv ta lt ct Sv St w hv ht hSv hSt hL.1 h ih
    · exact l4Fits_msg d _ v t av lv cv ta lt ct Sv St w hv ht hSv hSt hL.1 h ih

/-- at the roots, for trees told by letters -/
theorem vt_root (V : List Ty) (v : Value) (W : World) (hV : NdsAt W W.heap.size v V) (h1 : 1 ≤ V.length) (h40 : V.length ≤ 40) (t : Tr) (ht : t = tree V 41 0) :
    Calls Try.prog 55 #[.agg #[v], .int .i64 0] W fun e w' => ∃ ac lc cc, e = .returned (.agg #[.int .i64 t.most, .string t.name, .int .i64 t.no, .bool t.must, .slice ac lc cc]) ∧ VKids 41 w' (fun g => W.heap.size ≤ g ∧ g < w'.heap.size) (.slice ac lc cc) t.kids ∧ Below W.heap.size W w' := by
  refine (l4Tree_any V v (by omega) 41 0 W hV (by omega) (by omega)).mono ?_
  rw [← ht]
  rintro e w' ⟨c, rfl, hk, hb⟩
  obtain ⟨ac, cp, rfl, _⟩ := hk.form
  exact ⟨ac, _, cp, rfl, hk, hb⟩

set_option maxRecDepth 100000 in
set_option maxHeartbeats 4000000 in
theorem specFits (V T : List Ty) (vv' v : Value) (w : World) (hV : NdsAt w w.heap.size vv' V) (hT : TysAt w w.heap.size v T) (hl : V.length ≤ 2097152) :
    Calls Try.prog 20 #[.agg #[vv'], .agg #[v]] w fun e w' => e = .returned (.bool (fof4 V T)) ∧ Below w.heap.size w w' := by
  have HV : Hid (NdsAt w w.heap.size vv' V) := hV
  have HT : Hid (TysAt w w.heap.size v T) := hT
  obtain ⟨R, hR⟩ : ∃ R, R = fof4 V T := ⟨_, rfl⟩
  rw [← hR]
  have HR : Hid (R = (gs T && (nds V && vfitS 41 (tree V 41 0) (tree T 41 0)))) := hR
  clear hR
  obtain ⟨av, capv, rfl, _⟩ := hV
  obtain ⟨aa, capa, rfl, _⟩ := hT
  obtain ⟨W2, hW2⟩ : ∃ W, W = (w.alloc (.cells #[.slice av V.length capv] 29)).alloc (.cells #[.slice aa T.length capa] 25) := ⟨_, rfl⟩
  have hB2 : Below w.heap.size w W2 := by rw [hW2]; exact ((Below.refl _ w).alloc (Nat.le_refl _) _).alloc (by simp) _
  have HS2 : Hid (W2.heap.size = w.heap.size + 2) := by show _ = _; rw [hW2]; simp
  have k0 : W2.cell? ⟨w.heap.size, 0, none⟩ = some (.slice av V.length capv) := by rw [hW2]; go_simp
  have k1 : W2.cell? ⟨w.heap.size + 1, 0, none⟩ = some (.slice aa T.length capa) := by rw [hW2]; go_simp
  have HC2 : Hid (∀ W : World, Below W2.heap.size W2 W → W.cell? ⟨w.heap.size, 0, none⟩ = some (.slice av V.length capv) ∧ W.cell? ⟨w.heap.size + 1, 0, none⟩ = some (.slice aa T.length capa)) := fun W hW => by
    have hs := HS2.out
    exact ⟨(hW.cell (p := ⟨w.heap.size, 0, none⟩) (by show w.heap.size < _; omega)).trans k0, (hW.cell (p := ⟨w.heap.size + 1, 0, none⟩) (by show w.heap.size + 1 < _; omega)).trans k1⟩
  have DN : Hid (∀ W : World, Below W2.heap.size W2 W → Below w.heap.size w W) := fun W hW => hB2.trans (hW.mono hB2.size)
  have CG : Hid (∀ W : World, Below W2.heap.size W2 W → Calls Try.prog 42 #[.agg #[.slice aa T.length capa]] W fun e w' => e = .returned (.bool (gs T)) ∧ Below W.heap.size W w') := fun W hW => specGood_any T _ W (HT.out.below (DN.out W hW))
  have CN : Hid (∀ W : World, Below W2.heap.size W2 W → Calls Try.prog 59 #[.agg #[.slice av V.length capv]] W fun e w' => e = .returned (.bool (nds V)) ∧ Below W.heap.size W w') := fun W hW => l4Nodes_any V _ W (HV.out.below (DN.out W hW)) hl
  have hd0 : Hid (Below W2.heap.size W2 W2.drew) := (Below.refl _ _).drew
  have s0 := HC2.out _ (Below.refl _ W2)
  have s0d := HC2.out _ hd0.out
  go_enter Try.func20, Try.ntmps20
  go_upto_region 1 with fail
  rw [← hW2]
  clear hW2 k0 k1
  rcases hg : gs T with _ | _
  · have hn : Hid (R = false) := HR.out.trans (by rw [hg]; rfl)
    rw [hg] at CG
    clear hg HR CN
    refine wp_region_held_drew (S := fun w' => w'.cell? ⟨w.heap.size, 0, none⟩ = some (.slice av V.length capv) ∧ w'.cell? ⟨w.heap.size + 1, 0, none⟩ = some (.slice aa T.length capa)) (by kernel_rfl) ?_ (fun hHeld => ?_)
    · exact s0d
    refine wpAnyH_take (i := 0) (oi := { dst := some 5, op := Op.load 25 (Operand.tmp 3), type := 25, pos := "l4_codec.go:110", after := #[], guard := none }) (v := ?vq1) rfl (by kernel_rfl) (by kernel_rfl) (by kernel_rfl) (fun _ _ _ h => h) (Or.inl ⟨by rfl, ?hy1⟩) (by assumption) ?rest1
    case hy1 =>
      first
        | (intro w hSw; (try dsimp only at hSw); go_simp; done)
        | (intro w hSw; (try dsimp only at hSw); go_simp; with_reducible rfl)
    try simp only [Act.put, List.setIfInBounds_toArray, List.set_cons_zero, List.set_cons_succ]
    refine wpAnyH_ready (rs := [1]) (by kernel_rfl) (by simp) ?_
    refine AllReadyH.cons (o := { dst := some 6, op := Op.call { callee := Callee.value (Operand.func 42), args := #[Operand.tmp 5], argTypes := #[25] }, type := 4, pos := "l4_codec.go:110", after := #[{ on := 0, ground := Ground.data }], guard := none }) rfl (fun K hK => ?_) AllReadyH.nil
    go_simp
    refine (CG.out _ hd0.out).mono ?_
    rintro e w3 ⟨rfl, hb3⟩
    have h3 : Below W2.heap.size W2 w3 := hd0.out.trans (hb3.mono hd0.out.size)
    have s3 := HC2.out _ h3
    have hB3 := DN.out _ h3
    go_wp2_with fail
    refine hK.out _ _ ?_ (fun hHeld => ?_)
    · exact s3
    clear hK K
    try simp only [Act.put, List.setIfInBounds_toArray, List.set_cons_zero, List.set_cons_succ]
    refine wpAnyH_take (i := 2) (oi := { dst := some 7, op := Op.move (Operand.tmp 6), type := 4, pos := "l4_codec.go:110", after := #[{ on := 1, ground := Ground.data }, { on := 1, ground := Ground.chain }], guard := none }) (v := ?vq2) rfl (by kernel_rfl) (by kernel_rfl) (by kernel_rfl) (fun _ _ _ h => h) (Or.inl ⟨by rfl, ?hy2⟩) (by assumption) ?rest2
    case hy2 =>
      first
        | (intro w hSw; (try dsimp only at hSw); go_simp; done)
        | (intro w hSw; (try dsimp only at hSw); go_simp; with_reducible rfl)
    try simp only [Act.put, List.setIfInBounds_toArray, List.set_cons_zero, List.set_cons_succ]
    refine wpAnyH_take (i := 3) (oi := { dst := some 8, op := Op.load 29 (Operand.tmp 2), type := 29, pos := "l4_codec.go:110", after := #[{ on := 2, ground := Ground.guard }], guard := some (2, true) }) (v := undef) rfl (by kernel_rfl) (by kernel_rfl) (by kernel_rfl) (fun _ _ _ h => h) (Or.inr ⟨by rfl, rfl⟩) (by assumption) ?_
    try simp only [Act.put, List.setIfInBounds_toArray, List.set_cons_zero, List.set_cons_succ]
    refine wpAnyH_take (i := 4) (oi := { dst := some 9, op := Op.call { callee := Callee.value (Operand.func 59), args := #[Operand.tmp 8], argTypes := #[29] }, type := 4, pos := "l4_codec.go:110", after := #[{ on := 3, ground := Ground.data }, { on := 2, ground := Ground.chain }, { on := 2, ground := Ground.guard }], guard := some (2, true) }) (v := undef) rfl (by kernel_rfl) (by kernel_rfl) (by kernel_rfl) (fun _ _ _ h => h) (Or.inr ⟨by rfl, rfl⟩) (by assumption) ?_
    try simp only [Act.put, List.setIfInBounds_toArray, List.set_cons_zero, List.set_cons_succ]
    refine wpAnyH_take (i := 5) (oi := { dst := some 10, op := Op.pick (Operand.tmp 7) (Operand.tmp 9) (Operand.const (Value.bool false)), type := 4, pos := "l4_codec.go:110", after := #[{ on := 2, ground := Ground.data }, { on := 4, ground := Ground.data }], guard := none }) (v := ?vq3) rfl (by kernel_rfl) (by kernel_rfl) (by kernel_rfl) (fun _ _ _ h => h) (Or.inl ⟨by rfl, ?hy3⟩) (by assumption) ?rest3
    case hy3 =>
      first
        | (intro w hSw; (try dsimp only at hSw); go_simp; done)
        | (intro w hSw; (try dsimp only at hSw); go_simp; with_reducible rfl)
    try simp only [Act.put, List.setIfInBounds_toArray, List.set_cons_zero, List.set_cons_succ]
    refine wpAnyH_take (i := 6) (oi := { dst := some 11, op := Op.move (Operand.tmp 10), type := 4, pos := "l4_codec.go:110", after := #[{ on := 5, ground := Ground.data }, { on := 4, ground := Ground.chain }], guard := none }) (v := ?vq4) rfl (by kernel_rfl) (by kernel_rfl) (by kernel_rfl) (fun _ _ _ h => h) (Or.inl ⟨by rfl, ?hy4⟩) (by assumption) ?rest4
    case hy4 =>
      first
        | (intro w hSw; (try dsimp only at hSw); go_simp; done)
        | (intro w hSw; (try dsimp only at hSw); go_simp; with_reducible rfl)
    try simp only [Act.put, List.setIfInBounds_toArray, List.set_cons_zero, List.set_cons_succ]
    refine wpAnyH_take (i := 7) (oi := { dst := some 12, op := Op.load 29 (Operand.tmp 2), type := 29, pos := "l4_codec.go:110", after := #[{ on := 6, ground := Ground.guard }], guard := some (6, true) }) (v := undef) rfl (by kernel_rfl) (by kernel_rfl) (by kernel_rfl) (fun _ _ _ h => h) (Or.inr ⟨by rfl, rfl⟩) (by assumption) ?_
    try simp only [Act.put, List.setIfInBounds_toArray, List.set_cons_zero, List.set_cons_succ]
    refine wpAnyH_take (i := 8) (oi := { dst := some 13, op := Op.call { callee := Callee.value (Operand.func 55), args := #[Operand.tmp 12, Operand.const (Value.int IntKind.i64 0)], argTypes := #[29, 3] }, type := 78, pos := "l4_codec.go:110", after := #[{ on := 7, ground := Ground.data }, { on := 6, ground := Ground.chain }, { on := 6, ground := Ground.guard }], guard := some (6, true) }) (v := undef) rfl (by kernel_rfl) (by kernel_rfl) (by kernel_rfl) (fun _ _ _ h => h) (Or.inr ⟨by rfl, rfl⟩) (by assumption) ?_
    try simp only [Act.put, List.setIfInBounds_toArray, List.set_cons_zero, List.set_cons_succ]
    refine wpAnyH_take (i := 9) (oi := { dst := some 14, op := Op.load 25 (Operand.tmp 3), type := 25, pos := "l4_codec.go:110", after := #[{ on := 6, ground := Ground.guard }], guard := some (6, true) }) (v := undef) rfl (by kernel_rfl) (by kernel_rfl) (by kernel_rfl) (fun _ _ _ h => h) (Or.inr ⟨by rfl, rfl⟩) (by assumption) ?_
    try simp only [Act.put, List.setIfInBounds_toArray, List.set_cons_zero, List.set_cons_succ]
    refine wpAnyH_take (i := 10) (oi := { dst := some 15, op := Op.call { callee := Callee.value (Operand.func 45), args := #[Operand.tmp 14, Operand.const (Value.int IntKind.i64 0)], argTypes := #[25, 3] }, type := 82, pos := "l4_codec.go:110", after := #[{ on := 9, ground := Ground.data }, { on := 8, ground := Ground.chain }, { on := 6, ground := Ground.guard }], guard := some (6, true) }) (v := undef) rfl (by kernel_rfl) (by kernel_rfl) (by kernel_rfl) (fun _ _ _ h => h) (Or.inr ⟨by rfl, rfl⟩) (by assumption) ?_
    try simp only [Act.put, List.setIfInBounds_toArray, List.set_cons_zero, List.set_cons_succ]
    refine wpAnyH_take (i := 11) (oi := { dst := some 16, op := Op.call { callee := Callee.value (Operand.func 60), args := #[Operand.tmp 13, Operand.tmp 15], argTypes := #[78, 82] }, type := 4, pos := "l4_codec.go:110", after := #[{ on := 8, ground := Ground.data }, { on := 10, ground := Ground.data }, { on := 10, ground := Ground.chain }, { on := 6, ground := Ground.guard }], guard := some (6, true) }) (v := undef) rfl (by kernel_rfl) (by kernel_rfl) (by kernel_rfl) (fun _ _ _ h => h) (Or.inr ⟨by rfl, rfl⟩) (by assumption) ?_
    try simp only [Act.put, List.setIfInBounds_toArray, List.set_cons_zero, List.set_cons_succ]
    refine wpAnyH_take (i := 12) (oi := { dst := some 17, op := Op.pick (Operand.tmp 11) (Operand.tmp 16) (Operand.const (Value.bool false)), type := 4, pos := "l4_codec.go:110", after := #[{ on := 6, ground := Ground.data }, { on := 11, ground := Ground.data }], guard := none }) (v := ?vq5) rfl (by kernel_rfl) (by kernel_rfl) (by kernel_rfl) (fun _ _ _ h => h) (Or.inl ⟨by rfl, ?hy5⟩) (by assumption) ?rest5
    case hy5 =>
      first
        | (intro w hSw; (try dsimp only at hSw); go_simp; done)
        | (intro w hSw; (try dsimp only at hSw); go_simp; with_reducible rfl)
    try simp only [Act.put, List.setIfInBounds_toArray, List.set_cons_zero, List.set_cons_succ]
    refine wpAnyH_take (i := 13) (oi := { dst := some 4, op := Op.assign (Operand.tmp 17), type := 4, pos := "l4_codec.go:110", after := #[{ on := 12, ground := Ground.data }, { on := 11, ground := Ground.chain }, { on := 0, ground := Ground.phase }, { on := 1, ground := Ground.phase }, { on := 2, ground := Ground.phase }, { on := 3, ground := Ground.phase }, { on := 4, ground := Ground.phase }, { on := 5, ground := Ground.phase }, { on := 6, ground := Ground.phase }, { on := 7, ground := Ground.phase }, { on := 8, ground := Ground.phase }, { on := 9, ground := Ground.phase }, { on := 10, ground := Ground.phase }, { on := 11, ground := Ground.phase }, { on := 12, ground := Ground.phase }], guard := none }) (v := ?vq6) rfl (by kernel_rfl) (by kernel_rfl) (by kernel_rfl) (fun _ _ _ h => h) (Or.inl ⟨by rfl, ?hy6⟩) (by assumption) ?rest6
    case hy6 =>
      first
        | (intro w hSw; (try dsimp only at hSw); go_simp; done)
        | (intro w hSw; (try dsimp only at hSw); go_simp; with_reducible rfl)
    try simp only [Act.put, List.setIfInBounds_toArray, List.set_cons_zero, List.set_cons_succ]
    refine wpAnyH_done (by kernel_rfl) ?_ _
    go_wp2
    go_ret
    exact ⟨by rw [hn.out]; rfl, hB3⟩
  · rcases hnd : nds V with _ | _
    · have hn : Hid (R = false) := HR.out.trans (by rw [hg, hnd]; rfl)
      rw [hg] at CG
      rw [hnd] at CN
      clear hg hnd HR
      refine wp_region_held_drew (S := fun w' => w'.cell? ⟨w.heap.size, 0, none⟩ = some (.slice av V.length capv) ∧ w'.cell? ⟨w.heap.size + 1, 0, none⟩ = some (.slice aa T.length capa)) (by kernel_rfl) ?_ (fun hHeld => ?_)
      · exact s0d
      refine wpAnyH_take (i := 0) (oi := { dst := some 5, op := Op.load 25 (Operand.tmp 3), type := 25, pos := "l4_codec.go:110", after := #[], guard := none }) (v := ?vq7) rfl (by kernel_rfl) (by kernel_rfl) (by kernel_rfl) (fun _ _ _ h => h) (Or.inl ⟨by rfl, ?hy7⟩) (by assumption) ?rest7
      case hy7 =>
        first
          | (intro w hSw; (try dsimp only at hSw); go_simp; done)
          | (intro w hSw; (try dsimp only at hSw); go_simp; with_reducible rfl)
      try simp only [Act.put, List.setIfInBounds_toArray, List.set_cons_zero, List.set_cons_succ]
      refine wpAnyH_ready (rs := [1]) (by kernel_rfl) (by simp) ?_
      refine AllReadyH.cons (o := { dst := some 6, op := Op.call { callee := Callee.value (Operand.func 42), args := #[Operand.tmp 5], argTypes := #[25] }, type := 4, pos := "l4_codec.go:110", after := #[{ on := 0, ground := Ground.data }], guard := none }) rfl (fun K hK => ?_) AllReadyH.nil
      go_simp
      refine (CG.out _ hd0.out).mono ?_
      rintro e w3 ⟨rfl, hb3⟩
      have h3 : Below W2.heap.size W2 w3 := hd0.out.trans (hb3.mono hd0.out.size)
      have s3 := HC2.out _ h3
      have hB3 := DN.out _ h3
      go_wp2_with fail
      refine hK.out _ _ ?_ (fun hHeld => ?_)
      · exact s3
      clear hK K
      try simp only [Act.put, List.setIfInBounds_toArray, List.set_cons_zero, List.set_cons_succ]
      refine wpAnyH_take (i := 2) (oi := { dst := some 7, op := Op.move (Operand.tmp 6), type := 4, pos := "l4_codec.go:110", after := #[{ on := 1, ground := Ground.data }, { on := 1, ground := Ground.chain }], guard := none }) (v := ?vq8) rfl (by kernel_rfl) (by kernel_rfl) (by kernel_rfl) (fun _ _ _ h => h) (Or.inl ⟨by rfl, ?hy8⟩) (by assumption) ?rest8
      case hy8 =>
        first
          | (intro w hSw; (try dsimp only at hSw); go_simp; done)
          | (intro w hSw; (try dsimp only at hSw); go_simp; with_reducible rfl)
      try simp only [Act.put, List.setIfInBounds_toArray, List.set_cons_zero, List.set_cons_succ]
      refine wpAnyH_take (i := 3) (oi := { dst := some 8, op := Op.load 29 (Operand.tmp 2), type := 29, pos := "l4_codec.go:110", after := #[{ on := 2, ground := Ground.guard }], guard := some (2, true) }) (v := ?vq9) rfl (by kernel_rfl) (by kernel_rfl) (by kernel_rfl) (fun _ _ _ h => h) (Or.inl ⟨by rfl, ?hy9⟩) (by assumption) ?rest9
      case hy9 =>
        first
          | (intro w hSw; (try dsimp only at hSw); go_simp; done)
          | (intro w hSw; (try dsimp only at hSw); go_simp; with_reducible rfl)
      try simp only [Act.put, List.setIfInBounds_toArray, List.set_cons_zero, List.set_cons_succ]
      refine wpAnyH_ready (rs := [4]) (by kernel_rfl) (by simp) ?_
      refine AllReadyH.cons (o := { dst := some 9, op := Op.call { callee := Callee.value (Operand.func 59), args := #[Operand.tmp 8], argTypes := #[29] }, type := 4, pos := "l4_codec.go:110", after := #[{ on := 3, ground := Ground.data }, { on := 2, ground := Ground.chain }, { on := 2, ground := Ground.guard }], guard := some (2, true) }) rfl (fun K hK => ?_) AllReadyH.nil
      go_simp
      refine (CN.out _ h3).mono ?_
      rintro e w4 ⟨rfl, hb4⟩
      have h4 : Below W2.heap.size W2 w4 := h3.trans (hb4.mono h3.size)
      have s4 := HC2.out _ h4
      have hB4 := DN.out _ h4
      go_wp2_with fail
      refine hK.out _ _ ?_ (fun hHeld => ?_)
      · exact s4
      clear hK K
      try simp only [Act.put, List.setIfInBounds_toArray, List.set_cons_zero, List.set_cons_succ]
      refine wpAnyH_take (i := 5) (oi := { dst := some 10, op := Op.pick (Operand.tmp 7) (Operand.tmp 9) (Operand.const (Value.bool false)), type := 4, pos := "l4_codec.go:110", after := #[{ on := 2, ground := Ground.data }, { on := 4, ground := Ground.data }], guard := none }) (v := ?vq10) rfl (by kernel_rfl) (by kernel_rfl) (by kernel_rfl) (fun _ _ _ h => h) (Or.inl ⟨by rfl, ?hy10⟩) (by assumption) ?rest10
      case hy10 =>
        first
          | (intro w hSw; (try dsimp only at hSw); go_simp; done)
          | (intro w hSw; (try dsimp only at hSw); go_simp; with_reducible rfl)
      try simp only [Act.put, List.setIfInBounds_toArray, List.set_cons_zero, List.set_cons_succ]
      refine wpAnyH_take (i := 6) (oi := { dst := some 11, op := Op.move (Operand.tmp 10), type := 4, pos := "l4_codec.go:110", after := #[{ on := 5, ground := Ground.data }, { on := 4, ground := Ground.chain }], guard := none }) (v := ?vq11) rfl (by kernel_rfl) (by kernel_rfl) (by kernel_rfl) (fun _ _ _ h => h) (Or.inl ⟨by rfl, ?hy11⟩) (by assumption) ?rest11
      case hy11 =>
        first
          | (intro w hSw; (try dsimp only at hSw); go_simp; done)
          | (intro w hSw; (try dsimp only at hSw); go_simp; with_reducible rfl)
      try simp only [Act.put, List.setIfInBounds_toArray, List.set_cons_zero, List.set_cons_succ]
      refine wpAnyH_take (i := 7) (oi := { dst := some 12, op := Op.load 29 (Operand.tmp 2), type := 29, pos := "l4_codec.go:110", after := #[{ on := 6, ground := Ground.guard }], guard := some (6, true) }) (v := undef) rfl (by kernel_rfl) (by kernel_rfl) (by kernel_rfl) (fun _ _ _ h => h) (Or.inr ⟨by rfl, rfl⟩) (by assumption) ?_
      try simp only [Act.put, List.setIfInBounds_toArray, List.set_cons_zero, List.set_cons_succ]
      refine wpAnyH_take (i := 8) (oi := { dst := some 13, op := Op.call { callee := Callee.value (Operand.func 55), args := #[Operand.tmp 12, Operand.const (Value.int IntKind.i64 0)], argTypes := #[29, 3] }, type := 78, pos := "l4_codec.go:110", after := #[{ on := 7, ground := Ground.data }, { on := 6, ground := Ground.chain }, { on := 6, ground := Ground.guard }], guard := some (6, true) }) (v := undef) rfl (by kernel_rfl) (by kernel_rfl) (by kernel_rfl) (fun _ _ _ h => h) (Or.inr ⟨by rfl, rfl⟩) (by assumption) ?_
      try simp only [Act.put, List.setIfInBounds_toArray, List.set_cons_zero, List.set_cons_succ]
      refine wpAnyH_take (i := 9) (oi := { dst := some 14, op := Op.load 25 (Operand.tmp 3), type := 25, pos := "l4_codec.go:110", after := #[{ on := 6, ground := Ground.guard }], guard := some (6, true) }) (v := undef) rfl (by kernel_rfl) (by kernel_rfl) (by kernel_rfl) (fun _ _ _ h => h) (Or.inr ⟨by rfl, rfl⟩) (by assumption) ?_
      try simp only [Act.put, List.setIfInBounds_toArray, List.set_cons_zero, List.set_cons_succ]
      refine wpAnyH_take (i := 10) (oi := { dst := some 15, op := Op.call { callee := Callee.value (Operand.func 45), args := #[Operand.tmp 14, Operand.const (Value.int IntKind.i64 0)], argTypes := #[25, 3] }, type := 82, pos := "l4_codec.go:110", after := #[{ on := 9, ground := Ground.data }, { on := 8, ground := Ground.chain }, { on := 6, ground := Ground.guard }], guard := some (6, true) }) (v := undef) rfl (by kernel_rfl) (by kernel_rfl) (by kernel_rfl) (fun _ _ _ h => h) (Or.inr ⟨by rfl, rfl⟩) (by assumption) ?_
      try simp only [Act.put, List.setIfInBounds_toArray, List.set_cons_zero, List.set_cons_succ]
      refine wpAnyH_take (i := 11) (oi := { dst := some 16, op := Op.call { callee := Callee.value (Operand.func 60), args := #[Operand.tmp 13, Operand.tmp 15], argTypes := #[78, 82] }, type := 4, pos := "l4_codec.go:110", after := #[{ on := 8, ground := Ground.data }, { on := 10, ground := Ground.data }, { on := 10, ground := Ground.chain }, { on := 6, ground := Ground.guard }], guard := some (6, true) }) (v := undef) rfl (by kernel_rfl) (by kernel_rfl) (by kernel_rfl) (fun _ _ _ h => h) (Or.inr ⟨by rfl, rfl⟩) (by assumption) ?_
      try simp only [Act.put, List.setIfInBounds_toArray, List.set_cons_zero, List.set_cons_succ]
      refine wpAnyH_take (i := 12) (oi := { dst := some 17, op := Op.pick (Operand.tmp 11) (Operand.tmp 16) (Operand.const (Value.bool false)), type := 4, pos := "l4_codec.go:110", after := #[{ on := 6, ground := Ground.data }, { on := 11, ground := Ground.data }], guard := none }) (v := ?vq12) rfl (by kernel_rfl) (by kernel_rfl) (by kernel_rfl) (fun _ _ _ h => h) (Or.inl ⟨by rfl, ?hy12⟩) (by assumption) ?rest12
      case hy12 =>
        first
          | (intro w hSw; (try dsimp only at hSw); go_simp; done)
          | (intro w hSw; (try dsimp only at hSw); go_simp; with_reducible rfl)
      try simp only [Act.put, List.setIfInBounds_toArray, List.set_cons_zero, List.set_cons_succ]
      refine wpAnyH_take (i := 13) (oi := { dst := some 4, op := Op.assign (Operand.tmp 17), type := 4, pos := "l4_codec.go:110", after := #[{ on := 12, ground := Ground.data }, { on := 11, ground := Ground.chain }, { on := 0, ground := Ground.phase }, { on := 1, ground := Ground.phase }, { on := 2, ground := Ground.phase }, { on := 3, ground := Ground.phase }, { on := 4, ground := Ground.phase }, { on := 5, ground := Ground.phase }, { on := 6, ground := Ground.phase }, { on := 7, ground := Ground.phase }, { on := 8, ground := Ground.phase }, { on := 9, ground := Ground.phase }, { on := 10, ground := Ground.phase }, { on := 11, ground := Ground.phase }, { on := 12, ground := Ground.phase }], guard := none }) (v := ?vq13) rfl (by kernel_rfl) (by kernel_rfl) (by kernel_rfl) (fun _ _ _ h => h) (Or.inl ⟨by rfl, ?hy13⟩) (by assumption) ?rest13
      case hy13 =>
        first
          | (intro w hSw; (try dsimp only at hSw); go_simp; done)
          | (intro w hSw; (try dsimp only at hSw); go_simp; with_reducible rfl)
      try simp only [Act.put, List.setIfInBounds_toArray, List.set_cons_zero, List.set_cons_succ]
      refine wpAnyH_done (by kernel_rfl) ?_ _
      go_wp2
      go_ret
      exact ⟨by rw [hn.out]; rfl, hB4⟩
    · obtain ⟨v1, v40, _⟩ := nds_parts V hnd
      have ht1 := gs_types T hg
      have hG := tree_good T hg 41 0 (by omega) (by omega)
      have hL := tree_lg hg 41 0 (by omega) (by omega)
      obtain ⟨X, hX⟩ : ∃ X, X = tree V 41 0 := ⟨_, rfl⟩
      obtain ⟨Y, hY⟩ : ∃ Y, Y = tree T 41 0 := ⟨_, rfl⟩
      have HR2 : Hid (R = vfitS 41 X Y) := HR.out.trans (by rw [hg, hnd, hX, hY]; rfl)
      rw [← hY] at hG hL
      have CV : Hid (∀ W : World, Below W2.heap.size W2 W → Calls Try.prog 55 #[.agg #[.slice av V.length capv], .int .i64 0] W fun e w' => ∃ ac lc cc, e = .returned (.agg #[.int .i64 X.most, .string X.name, .int .i64 X.no, .bool X.must, .slice ac lc cc]) ∧ VKids 41 w' (fun g => W.heap.size ≤ g ∧ g < w'.heap.size) (.slice ac lc cc) X.kids ∧ Below W.heap.size W w') := fun W hW => vt_root V _ W (HV.out.below (DN.out W hW)) v1 v40 X hX
      have CT : Hid (∀ W : World, Below W2.heap.size W2 W → Calls Try.prog 45 #[.agg #[.slice aa T.length capa], .int .i64 0] W fun e w' => ∃ ac lc cc, e = .returned (.agg #[.int .i64 Y.kind, .string Y.name, .int .i64 Y.no, .bool Y.must, .int .i64 Y.most, .slice ac lc cc]) ∧ KidsIn 41 w' (fun g => W.heap.size ≤ g ∧ g < w'.heap.size) (.slice ac lc cc) Y.kids ∧ Below W.heap.size W w') := fun W hW => lt_root T _ W (HT.out.below (DN.out W hW)) ht1.1 ht1.2.1 Y hY
      have CF : Hid (∀ (av ta : Option Addr) (lv cv lt ct : Nat) (Sv St : Nat → Prop) (W : World), VKids 41 W Sv (.slice av lv cv) X.kids → KidsIn 41 W St (.slice ta lt ct) Y.kids → (∀ g, Sv g → g < W.heap.size) → (∀ g, St g → g < W.heap.size) → Calls Try.prog 60 #[.agg #[.int .i64 X.most, .string X.name, .int .i64 X.no, .bool X.must, .slice av lv cv], .agg #[.int .i64 Y.kind, .string Y.name, .int .i64 Y.no, .bool Y.must, .int .i64 Y.most, .slice ta lt ct]] W fun e w' => e = .returned (.bool R) ∧ Below W.heap.size W w') := fun av ta lv cv lt ct Sv St W h1 h2 h3 h4 => by
        have := l4Fits_any 41 X Y av ta lv cv lt ct Sv St W h1 h2 h3 h4 hL hG
        unfold vv tv at this
        rw [HR2.out]
        exact this
      rw [hg] at CG
      rw [hnd] at CN
      clear hg hnd HR hX hY hG hL HR2 HV HT
      go_region_held3 (fun w' => w'.cell? ⟨w.heap.size, 0, none⟩ = some (.slice av V.length capv) ∧ w'.cell? ⟨w.heap.size + 1, 0, none⟩ = some (.slice aa T.length capa))
        (first | with_reducible exact s7 | with_reducible exact s6 | with_reducible exact s5 | with_reducible exact s4 | with_reducible exact s3 | with_reducible exact s0d | with_reducible exact s0)
        (first
          | (go_at_call 60; refine (CF.out _ _ _ _ _ _ _ _ w6 hv6 ht6 (fun g hg => Nat.lt_of_lt_of_le hg.2 hb6.size) (fun g hg => hg.2)).mono ?_; rintro e w7 ⟨rfl, hb7⟩; have h7 : Below W2.heap.size W2 w7 := h6.trans (hb7.mono h6.size); have s7 := HC2.out _ h7; have hB7 := DN.out _ h7)
          | (go_at_call 45; refine (CT.out _ h5).mono ?_; rintro e w6 ⟨at6, lt6, ct6, rfl, ht6, hb6⟩; have h6 : Below W2.heap.size W2 w6 := h5.trans (hb6.mono h5.size); have s6 := HC2.out _ h6; have hv6 := hv5.kept (fun g hg => hb6.block g hg.2) (fun _ h => h))
          | (go_at_call 55; refine (CV.out _ h4).mono ?_; rintro e w5 ⟨av5, lv5, cv5, rfl, hv5, hb5⟩; have h5 : Below W2.heap.size W2 w5 := h4.trans (hb5.mono h4.size); have s5 := HC2.out _ h5)
          | (go_at_call 59; refine (CN.out _ h3).mono ?_; rintro e w4 ⟨rfl, hb4⟩; have h4 : Below W2.heap.size W2 w4 := h3.trans (hb4.mono h3.size); have s4 := HC2.out _ h4)
          | (go_at_call 42; refine (CG.out _ hd0.out).mono ?_; rintro e w3 ⟨rfl, hb3⟩; have h3 : Below W2.heap.size W2 w3 := hd0.out.trans (hb3.mono hd0.out.size); have s3 := HC2.out _ h3))
      go_wp2
      go_ret
      exact ⟨rfl, hB7⟩

end Go.Proofs.Ytpajdmhakdbkjaa
