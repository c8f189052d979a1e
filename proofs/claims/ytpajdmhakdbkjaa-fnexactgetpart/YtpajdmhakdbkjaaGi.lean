/- The program's isSubshape and areSubparts at every shape. Whether a schema takes in another: the program's and the model's IsSubtype. -/
import Derived.Test.YtpajdmhakdbkjaaSpE
import Derived.Test.YtpajdmhakdbkjaaGg
import Derived.Test.YtpajdmhakdbkjaaGe
namespace Go.Proofs.Ytpajdmhakdbkjaa
open Go.RowKit Plain Sch

theorem subT_flat (d : Nat) (a b : Tr) (h4 : ¬ (a.kind = 4 ∧ b.kind = 4)) (h5 : ¬ (a.kind = 5 ∧ b.kind = 5)) (hl : holds b.kind = false → b.kids = []) : subT d a b = likeK a.kind b.kind a.most b.most := by
  have hu : (!unlike a b) = likeK a.kind b.kind a.most b.most := by
    unfold unlike likeK
    by_cases hk : a.kind = b.kind
    · by_cases h3 : a.kind = 3
      · by_cases hm : a.most ≤ b.most
        · have : ¬ b.most < a.most := by omega
          simp [hk, this, hm]
        · have : b.most < a.most := by omega
          have h3' : b.kind = 3 := by omega
          simp [hk, h3', this, hm]
      · have h3' : ¬ b.kind = 3 := by omega
        simp [hk, h3']
    · simp [hk]
  cases d with
  | zero => rw [subT]; exact hu
  | succ d =>
    rw [← hu, subT]
    by_cases hun : unlike a b = true
    · rw [if_pos hun, hun]; rfl
    · rw [if_neg hun]
      have hun' : unlike a b = false := by simpa using hun
      have hk := (like_cases hun').1
      rw [if_neg (by omega), hun']
      have : b.kids = [] := hl (by unfold holds; simp; omega)
      rw [this]; rfl

theorem ShIn.leafKids {d : Nat} {w : World} {S : Nat → Prop} {v : Value} {t : Tr} (h : ShIn d w S v t) : holds t.kind = false → t.kids = [] := by
  intro hh
  unfold holds at hh
  simp at hh
  cases d with
  | zero => exact h.1
  | succ d =>
    rcases h with h | ⟨hk, _⟩ | ⟨hk, _⟩
    · exact h.1
    · omega
    · omega

/-- whether the parts of one message take in those of another -/
def subP (d : Nat) (la lb : List Tr) : Bool := lb.all fun y => match byNo la y.no with | none => false | some x => !(y.must && !x.must) && subT d x y

theorem subT_message (d : Nat) (a b : Tr) (ha : a.kind = 5) (hb : b.kind = 5) : subT (d + 1) a b = subP d a.kids b.kids := by
  rw [subT, if_neg (by rw [like_of (by omega) (by omega)]; simp), if_neg (by omega)]
  rfl

theorem subT_list (d : Nat) (a b x y : Tr) (l m : List Tr) (ha : a.kind = 4) (hb : b.kind = 4) (hx : a.kids = x :: l) (hy : b.kids = y :: m) : subT (d + 1) a b = subT d x y := by
  rw [subT, if_neg (by rw [like_of (by omega) (by omega)]; simp), if_pos ha, hx, hy]

def SubShape (d : Nat) : Prop := ∀ (a b : Tr) (va vb : Value) (Sa Sb : Nat → Prop) (w : World), ShIn d w Sa va a → ShIn d w Sb vb b → (∀ g, Sa g → g < w.heap.size) → (∀ g, Sb g → g < w.heap.size) →
  Calls Try.prog 122 #[va, vb] w fun e w' => e = .returned (.bool (subT d a b)) ∧ Below w.heap.size w w'

set_option maxRecDepth 100000 in
set_option maxHeartbeats 4000000 in
theorem areSubparts_of (d : Nat) (ih0 : SubShape d) (la lb : List Tr) (ca cb : Value) (Sa Sb : Nat → Prop) (w : World) (hA : PartsIn d w Sa ca la) (hB : PartsIn d w Sb cb lb) (hSa : ∀ g, Sa g → g < w.heap.size) (hSb : ∀ g, Sb g → g < w.heap.size) :
    Calls Try.prog 106 #[ca, cb] w fun e w' => e = .returned (.bool (subP d la lb)) ∧ Below w.heap.size w w' := by
  have ih : Hid (SubShape d) := ih0
  have HKA : Hid (PartsIn d w Sa ca la) := hA
  obtain ⟨aa, capa, rfl, _, _, _⟩ := hA
  obtain ⟨ab, capb, rfl, hlc, hcm, hrow⟩ := hB
  have hcm' : capb ≤ 9223372036854775807 := by unfold maxLen at hcm; omega
  have HRB : Hid (∀ i x, lb[i]? = some x → ∃ (g o : Nat) (u : TypeId × Value), ab = some ⟨g, o, none⟩ ∧ Sb g ∧ PtIn w g (o + i * 4) x (.iface u.1 u.2) ∧ ShIn d w Sb (.iface u.1 u.2) x) := hrow
  have HSa : Hid (∀ g, Sa g → g < w.heap.size) := hSa
  have HSb : Hid (∀ g, Sb g → g < w.heap.size) := hSb
  clear hrow hSa hSb ih0
  obtain ⟨R, hR⟩ : ∃ R, R = subP d la lb := ⟨_, rfl⟩
  rw [← hR]
  have HR : Hid (R = subP d la lb) := hR
  clear hR
  obtain ⟨P, hP⟩ : ∃ P : Tr → Bool, P = fun y => match byNo la y.no with | none => false | some x => !(y.must && !x.must) && subT d x y := ⟨_, rfl⟩
  have HR2 : Hid (R = lb.all P) := by show _ = _; rw [HR.out, hP]; rfl
  have HP0 : Hid (∀ y, byNo la y.no = none → P y = false) := fun y h => by rw [hP]; dsimp only; rw [h]
  have HP1 : Hid (∀ y x, byNo la y.no = some x → P y = (!(y.must && !x.must) && subT d x y)) := fun y x h => by rw [hP]; dsimp only; rw [h]
  clear hP HR
  have HF : Hid (∀ y ∈ lb, P y = false → R = false) := fun y hy h => by
    rw [HR2.out, List.all_eq_false]
    exact ⟨y, hy, by rw [h]; simp⟩
  go_enter Try.func106, Try.ntmps106
  go_wp2
  go_loopw [11] (fun vi wr => ∃ i : Nat, i ≤ lb.length ∧ vi = .int .i64 (i : Int) ∧ Hid (∀ j y, j < i → lb[j]? = some y → P y = true) ∧ Below w.heap.size w wr)
    (fun vi _ => lb.length - (intOf vi).toNat)
  case atStart => exact ⟨0, by omega, rfl, fun j y hj => by omega, Below.refl _ _⟩
  case round =>
    obtain ⟨i, hil, rfl, hall, hB0⟩ := hrel
    have hs0 := hB0.size
    by_cases hlt : i < lb.length
    · have hlt' : (i : Int) < (lb.length : Int) := by omega
      obtain ⟨y, hy⟩ : ∃ y, lb[i]? = some y := ⟨_, List.getElem?_eq_getElem hlt⟩
      obtain ⟨g, o, u, hao, hSg, hnd, hkk⟩ := HRB.out i y hy
      subst hao
      have hg := HSb.out g hSg
      have hnd' := hnd.kept (hB0.block g hg)
      obtain ⟨ua, uy⟩ := u
      obtain ⟨c0, c1, c2, c3⟩ := hnd'
      dsimp only at c3 hkk
      have hyb : y ∈ lb := List.mem_of_getElem? hy
      have HKY : Hid (∀ W : World, Below w.heap.size w W → ShIn d W Sb (.iface ua uy) y) := fun W hW => hkk.kept (fun g hg => hW.block g (HSb.out g hg)) (fun _ h => h)
      have hBy : Below w.heap.size w (wr.alloc (.cells #[.string y.name, .int .i64 y.no, .bool y.must, .iface ua uy] 73)) := hB0.alloc hB0.size _
      clear hnd hkk
      go_wp2_with fail
      refine (partByNo_any d la _ y.no Sa _ (HKA.out.kept (fun g hg => hBy.block g (HSa.out g hg)) (fun _ h => h)) (fun g hg => by have h1 := HSa.out g hg; have h2 := hBy.size; omega)).mono ?_
      rintro e w3 ⟨hby, hb3⟩
      have hB3 : Below w.heap.size w w3 := hBy.trans (hb3.mono hBy.size)
      have hs3 : wr.heap.size < w3.heap.size := by have := hb3.size; simp at this; omega
      have k0 : w3.cell? ⟨wr.heap.size, 0, none⟩ = some (.string y.name) := (hb3.cell (p := ⟨wr.heap.size, 0, none⟩) (by simp)).trans (by simp)
      have k1 : w3.cell? ⟨wr.heap.size, 1, none⟩ = some (.int .i64 y.no) := (hb3.cell (p := ⟨wr.heap.size, 1, none⟩) (by simp)).trans (by simp)
      have k2 : w3.cell? ⟨wr.heap.size, 2, none⟩ = some (.bool y.must) := (hb3.cell (p := ⟨wr.heap.size, 2, none⟩) (by simp)).trans (by simp)
      have k3 : w3.cell? ⟨wr.heap.size, 3, none⟩ = some (.iface ua uy) := (hb3.cell (p := ⟨wr.heap.size, 3, none⟩) (by simp)).trans (by simp)
      clear hb3 hB0 c0 c1 c2 c3
      rcases hby with ⟨x, xa, xv, hfx, rfl, hkx⟩ | ⟨hfx, rfl⟩
      · have hPy := HP1.out y x hfx
        by_cases hmm : y.must = true ∧ x.must = false
        · have hn : Hid (R = false) := HF.out y hyb (by rw [hPy, hmm.1, hmm.2]; rfl)
          obtain ⟨hm1, hm2⟩ := hmm
          rw [hm1] at k2
          rw [hm2]
          clear hPy hfx hm1 hm2 hkx hall hy
          go_wp2
          go_ret
          exact ⟨by rw [hn.out]; rfl, hB3.alloc hB3.size _⟩
        · have hPy2 : Hid (P y = subT d x y) := by
            show _ = _
            rw [hPy]
            cases hmy : y.must
            · simp
            · cases hmx : x.must
              · exact absurd ⟨hmy, hmx⟩ hmm
              · simp
          have hBx : Below w.heap.size w (w3.alloc (.cells #[.string x.name, .int .i64 x.no, .bool x.must, .iface xa xv] 73)) := hB3.alloc hB3.size _
          have hB3x : Below w3.heap.size w3 (w3.alloc (.cells #[.string x.name, .int .i64 x.no, .bool x.must, .iface xa xv] 73)) := (Below.refl _ w3).alloc (Nat.le_refl _) _
          have IC : Hid (Calls Try.prog 122 #[.iface xa xv, .iface ua uy] (w3.alloc (.cells #[.string x.name, .int .i64 x.no, .bool x.must, .iface xa xv] 73)) fun e w' => e = .returned (.bool (subT d x y)) ∧ Below (w3.alloc (.cells #[.string x.name, .int .i64 x.no, .bool x.must, .iface xa xv] 73)).heap.size (w3.alloc (.cells #[.string x.name, .int .i64 x.no, .bool x.must, .iface xa xv] 73)) w') :=
            ih.out x y (.iface xa xv) (.iface ua uy) Sa Sb _ (hkx.kept (fun g hg => hB3x.block g (by have h1 := HSa.out g hg; have h2 := hB3.size; omega)) (fun _ h => h)) (HKY.out _ hBx) (fun g hg => by have h1 := HSa.out g hg; have h2 := hBx.size; omega) (fun g hg => by have h1 := HSb.out g hg; have h2 := hBx.size; omega)
          clear hPy hkx hB3x
          have hmm' : (y.must && !x.must) = false := by
            cases hmy : y.must
            · simp
            · cases hmx : x.must
              · exact absurd ⟨hmy, hmx⟩ hmm
              · simp
          clear hmm
          generalize y.must = my at k2 hmm'
          generalize x.must = mx at hmm' IC hBx ⊢
          cases my
          · clear hmm'
            go_wp2_with fail
            refine IC.out.mono ?_
            rintro e w5 ⟨rfl, hb5⟩
            have hB5 : Below w.heap.size w w5 := hBx.trans (hb5.mono hBx.size)
            clear hb5 IC
            by_cases hsub : subT d x y = true
            · have hall2 : Hid (∀ j z, j < i + 1 → lb[j]? = some z → P z = true) := fun j z hj hz => by
                by_cases hji : j = i
                · subst hji; rw [hy] at hz; cases hz; rw [hPy2.out]; exact hsub
                · exact hall.out j z (by omega) hz
              rw [hsub]
              clear hsub hall hy hPy2
              go_wp2
              go_roundw
              case rel => exact ⟨i + 1, by omega, by go_num, hall2, hB5⟩
              case measure => simp [intOf]; omega
            · have hsub' : subT d x y = false := by simpa using hsub
              have hn : Hid (R = false) := HF.out y hyb (by rw [hPy2.out]; exact hsub')
              rw [hsub']
              clear hsub hsub' hall hy hPy2
              go_wp2
              go_ret
              exact ⟨by rw [hn.out]; rfl, hB5⟩
          · cases mx
            · simp at hmm'
            · clear hmm'
              go_wp2_with fail
              refine IC.out.mono ?_
              rintro e w5 ⟨rfl, hb5⟩
              have hB5 : Below w.heap.size w w5 := hBx.trans (hb5.mono hBx.size)
              clear hb5 IC
              by_cases hsub : subT d x y = true
              · have hall2 : Hid (∀ j z, j < i + 1 → lb[j]? = some z → P z = true) := fun j z hj hz => by
                  by_cases hji : j = i
                  · subst hji; rw [hy] at hz; cases hz; rw [hPy2.out]; exact hsub
                  · exact hall.out j z (by omega) hz
                rw [hsub]
                clear hsub hall hy hPy2
                go_wp2
                go_roundw
                case rel => exact ⟨i + 1, by omega, by go_num, hall2, hB5⟩
                case measure => simp [intOf]; omega
              · have hsub' : subT d x y = false := by simpa using hsub
                have hn : Hid (R = false) := HF.out y hyb (by rw [hPy2.out]; exact hsub')
                rw [hsub']
                clear hsub hsub' hall hy hPy2
                go_wp2
                go_ret
                exact ⟨by rw [hn.out]; rfl, hB5⟩
      · have hn : Hid (R = false) := HF.out y hyb (HP0.out y hfx)
        clear hfx hall hy
        go_wp2
        go_ret
        exact ⟨by rw [hn.out]; rfl, hB3.alloc hB3.size _⟩
    · have hke : i = lb.length := by omega
      have hn : Hid (R = true) := by
        show R = _
        rw [HR2.out, List.all_eq_true]
        intro y hy
        obtain ⟨j, hj, rfl⟩ := List.getElem_of_mem hy
        exact hall.out j _ (by omega) (List.getElem?_eq_getElem hj)
      subst hke
      have hge : ¬ ((lb.length : Int) < (lb.length : Int)) := by omega
      clear hall
      go_wp2
      go_ret
      exact ⟨by rw [hn.out]; rfl, hB0⟩

theorem isSub_flat {d : Nat} {a b : Tr} {va vb : Value} {Sa Sb : Nat → Prop} {w : World} (ha : ShIn d w Sa va a) (hb : ShIn d w Sb vb b) (h4 : ¬ (a.kind = 4 ∧ b.kind = 4)) (h5 : ¬ (a.kind = 5 ∧ b.kind = 5)) :
    Calls Try.prog 122 #[va, vb] w fun e w' => e = .returned (.bool (subT d a b)) ∧ Below w.heap.size w w' := by
  rw [subT_flat d a b h4 h5 hb.leafKids]
  have sa := ha.sf
  have sb := hb.sf
  have hk : a.kind = 1 ∨ a.kind = 2 ∨ a.kind = 3 ∨ a.kind = 4 ∨ a.kind = 5 := by
    rcases sa with h | h | h | h | h <;> omega
  generalize a.kind = ka at *
  rcases hk with rfl | rfl | rfl | rfl | rfl
  · exact isSubNum _ _ _ _ _ w sa sb
  · exact isSubTxt _ _ _ _ _ w sa sb
  · exact isSubEnu _ _ _ _ _ w sa sb
  · exact isSubLst _ _ _ _ _ w sa sb (fun h => h4 ⟨rfl, h⟩)
  · exact isSubMsg _ _ _ _ _ w sa sb (fun h => h5 ⟨rfl, h⟩)

set_option maxRecDepth 100000 in
set_option maxHeartbeats 4000000 in
theorem isSub_any : ∀ d, SubShape d := by
  intro d
  induction d with
  | zero =>
    intro a b va vb Sa Sb w ha hb hSa hSb
    have h1 : ¬ a.kind = 4 := by rcases ha.2 with h | h | h <;> omega
    have h2 : ¬ a.kind = 5 := by rcases ha.2 with h | h | h <;> omega
    exact isSub_flat ha hb (fun h => h1 h.1) (fun h => h2 h.1)
  | succ d ih =>
    intro a b va vb Sa Sb w ha hb hSa hSb
    by_cases h4 : a.kind = 4 ∧ b.kind = 4
    · rcases ha with ha | ⟨_, x, l, u, hxa, rfl, hx⟩ | ⟨h, _⟩
      · rcases ha.2 with h | h | h <;> omega
      · rcases hb with hb | ⟨_, y, m, u', hyb, rfl, hy⟩ | ⟨h, _⟩
        · rcases hb.2 with h | h | h <;> omega
        · rw [subT_list d a b x y l m h4.1 h4.2 hxa hyb]
          obtain ⟨xa, xv⟩ := u
          obtain ⟨ya, yv⟩ := u'
          dsimp only at *
          have hB2 : Below w.heap.size w ((w.alloc (.cells #[.iface xa xv] 125)).alloc (.cells #[.iface ya yv] 125)) := ((Below.refl _ w).alloc (Nat.le_refl _) _).alloc (by simp) _
          have IC : Hid (Calls Try.prog 122 #[.iface xa xv, .iface ya yv] ((w.alloc (.cells #[.iface xa xv] 125)).alloc (.cells #[.iface ya yv] 125)) fun e w' => e = .returned (.bool (subT d x y)) ∧ Below ((w.alloc (.cells #[.iface xa xv] 125)).alloc (.cells #[.iface ya yv] 125)).heap.size ((w.alloc (.cells #[.iface xa xv] 125)).alloc (.cells #[.iface ya yv] 125)) w') :=
            ih x y _ _ Sa Sb _ (hx.kept (fun g hg => hB2.block g (hSa g hg)) (fun _ h => h)) (hy.kept (fun g hg => hB2.block g (hSb g hg)) (fun _ h => h)) (fun g hg => by have h1 := hSa g hg; have h2 := hB2.size; omega) (fun g hg => by have h1 := hSb g hg; have h2 := hB2.size; omega)
          generalize subT d x y = r at IC
          clear hx hy hSa hSb ih hxa hyb h4
          have t1 := taLstEnu
          have t2 := taLstLst
          go_enter Try.func122, Try.ntmps122
          go_wp2_with fail
          refine IC.out.mono ?_
          rintro e w3 ⟨rfl, hb3⟩
          go_wp2
          go_ret
          exact ⟨rfl, hB2.trans (hb3.mono (by simp; omega))⟩
        · omega
      · omega
    · by_cases h5 : a.kind = 5 ∧ b.kind = 5
      · rcases ha with ha | ⟨h, _⟩ | ⟨_, aa, capa, rfl, ha⟩
        · rcases ha.2 with h | h | h <;> omega
        · omega
        · rcases hb with hb | ⟨h, _⟩ | ⟨_, ab, capb, rfl, hb⟩
          · rcases hb.2 with h | h | h <;> omega
          · omega
          · rw [subT_message d a b h5.1 h5.2]
            have pa : PartsIn d w Sa (.slice aa a.kids.length capa) a.kids := ⟨aa, capa, rfl, ha⟩
            have pb : PartsIn d w Sb (.slice ab b.kids.length capb) b.kids := ⟨ab, capb, rfl, hb⟩
            have hB2 : Below w.heap.size w ((w.alloc (.cells #[.slice aa a.kids.length capa] 127)).alloc (.cells #[.slice ab b.kids.length capb] 127)) := ((Below.refl _ w).alloc (Nat.le_refl _) _).alloc (by simp) _
            have IC : Hid (Calls Try.prog 106 #[.slice aa a.kids.length capa, .slice ab b.kids.length capb] ((w.alloc (.cells #[.slice aa a.kids.length capa] 127)).alloc (.cells #[.slice ab b.kids.length capb] 127)) fun e w' => e = .returned (.bool (subP d a.kids b.kids)) ∧ Below ((w.alloc (.cells #[.slice aa a.kids.length capa] 127)).alloc (.cells #[.slice ab b.kids.length capb] 127)).heap.size ((w.alloc (.cells #[.slice aa a.kids.length capa] 127)).alloc (.cells #[.slice ab b.kids.length capb] 127)) w') :=
              areSubparts_of d ih a.kids b.kids _ _ Sa Sb _ (pa.kept (fun g hg => hB2.block g (hSa g hg)) (fun _ h => h)) (pb.kept (fun g hg => hB2.block g (hSb g hg)) (fun _ h => h)) (fun g hg => by have h1 := hSa g hg; have h2 := hB2.size; omega) (fun g hg => by have h1 := hSb g hg; have h2 := hB2.size; omega)
            clear pa pb ha hb hSa hSb ih h4 h5
            generalize subP d a.kids b.kids = r at IC
            generalize a.kids.length = na at *
            generalize b.kids.length = nb at *
            have t1 := taMsgEnu
            have t2 := taMsgLst
            have t3 := taMsgMsg
            go_enter Try.func122, Try.ntmps122
            go_wp2_with fail
            refine IC.out.mono ?_
            rintro e w3 ⟨rfl, hb3⟩
            go_wp2
            go_ret
            exact ⟨rfl, hB2.trans (hb3.mono (by simp; omega))⟩
      · exact isSub_flat ha hb h4 h5

/-- the parts of two messages -/
theorem areSubparts_any (d : Nat) (la lb : List Tr) (ca cb : Value) (Sa Sb : Nat → Prop) (w : World) (hA : PartsIn d w Sa ca la) (hB : PartsIn d w Sb cb lb) (hSa : ∀ g, Sa g → g < w.heap.size) (hSb : ∀ g, Sb g → g < w.heap.size) :
    Calls Try.prog 106 #[ca, cb] w fun e w' => e = .returned (.bool (subP d la lb)) ∧ Below w.heap.size w w' := areSubparts_of d (isSub_any d) la lb ca cb Sa Sb w hA hB hSa hSb

end Go.Proofs.Ytpajdmhakdbkjaa

namespace Go.Proofs.Ytpajdmhakdbkjaa
open Go.RowKit Plain Sch

/-- the model's wish: lists have a part -/
theorem tree_lg {T : List Ty} (hG : gs T = true) : ∀ (f k : Nat), k < T.length → T.length ≤ f + k → LG f (tree T f k)
  | 0, k, hk, hf => by omega
  | f + 1, k, hk, hf => by
    refine ⟨fun h4 => ?_, fun x hx => ?_⟩
    · have h4' : (ty T k).kind = 4 := h4
      show (kids T k).map (tree T f) ≠ []
      rw [(list_kid hG hk h4').1]
      simp
    · have hx' : x ∈ (kids T k).map (tree T f) := hx
      obtain ⟨c, hc, rfl⟩ := List.mem_map.1 hx'
      have m := (mem_kids T k c).1 hc
      exact tree_lg hG f c m.1 (by omega)

theorem tree_kind5 {T : List Ty} (hG : gs T = true) (f : Nat) : (tree T f 0).kind = 5 := (tree_top T hG f).1

/-- what IsSubtype answers: 40 steps suffice for all depths -/
def sof (A B : List Ty) : Bool × Bool := if gs A = true ∧ gs B = true then (subP 40 (tree A 41 0).kids (tree B 41 0).kids, true) else (false, false)

theorem sof_no (A B : List Ty) (h : ¬ (gs A = true ∧ gs B = true)) : sof A B = (false, false) := by unfold sof; rw [if_neg h]
theorem sof_yes (A B : List Ty) (ha : gs A = true) (hb : gs B = true) : sof A B = (subP 40 (tree A 41 0).kids (tree B 41 0).kids, true) := by unfold sof; rw [if_pos ⟨ha, hb⟩]

theorem sof_sub (A B : List Ty) (ha : gs A = true) (hb : gs B = true) : sof A B = (subT 41 (tree A 41 0) (tree B 41 0), true) := by
  rw [sof_yes A B ha hb, subT_message 40 _ _ (tree_kind5 ha 41) (tree_kind5 hb 41)]

set_option maxRecDepth 100000 in
set_option maxHeartbeats 4000000 in
theorem specSub (A B : List Ty) (v1 v2 : Value) (w : World) (hA : TysAt w w.heap.size v1 A) (hB : TysAt w w.heap.size v2 B) :
    Calls Try.prog 72 #[.agg #[v1], .agg #[v2]] w fun e w' => e = .returned (.tuple #[.bool (sof A B).1, .bool (sof A B).2]) ∧ Below w.heap.size w w' := by
  have HA : Hid (TysAt w w.heap.size v1 A) := hA
  have HB : Hid (TysAt w w.heap.size v2 B) := hB
  obtain ⟨R, hR⟩ : ∃ R, R = sof A B := ⟨_, rfl⟩
  rw [← hR]
  have HR : Hid (R = sof A B) := hR
  clear hR
  obtain ⟨aa, capa, rfl, _⟩ := hA
  obtain ⟨ab, capb, rfl, _⟩ := hB
  obtain ⟨W2, hW2⟩ : ∃ W, W = (w.alloc (.cells #[.slice aa A.length capa] 25)).alloc (.cells #[.slice ab B.length capb] 25) := ⟨_, rfl⟩
  have hB1 : Below w.heap.size w W2 := by rw [hW2]; exact ((Below.refl _ w).alloc (Nat.le_refl _) _).alloc (by simp) _
  have hs2 : W2.heap.size = w.heap.size + 2 := by rw [hW2]; simp
  have x0 : W2.cell? ⟨w.heap.size, 0, none⟩ = some (.slice aa A.length capa) := by rw [hW2]; go_simp
  have x1 : W2.cell? ⟨w.heap.size + 1, 0, none⟩ = some (.slice ab B.length capb) := by rw [hW2]; go_simp
  go_enter Try.func72, Try.ntmps72
  go_wp2_with fail
  rw [← hW2]
  clear hW2
  refine (specGood_any A _ _ (HA.out.below hB1)).mono ?_
  rintro e w3 ⟨rfl, hb3⟩
  have hB3 : Below w.heap.size w w3 := hB1.trans (hb3.mono hB1.size)
  have hs3 : w.heap.size + 2 ≤ w3.heap.size := by have := hb3.size; omega
  have x0 := (hb3.cell (p := ⟨w.heap.size, 0, none⟩) (by show w.heap.size < _; omega)).trans x0
  have x1 := (hb3.cell (p := ⟨w.heap.size + 1, 0, none⟩) (by show w.heap.size + 1 < _; omega)).trans x1
  clear hb3
  by_cases ha : gs A = true
  · rw [ha]
    go_wp2_with fail
    refine (specGood_any B _ _ (HB.out.below hB3)).mono ?_
    rintro e w4 ⟨rfl, hb4⟩
    have hB4 : Below w.heap.size w w4 := hB3.trans (hb4.mono hB3.size)
    have hs4 : w.heap.size + 2 ≤ w4.heap.size := by have := hb4.size; omega
    have x0 := (hb4.cell (p := ⟨w.heap.size, 0, none⟩) (by show w.heap.size < _; omega)).trans x0
    have x1 := (hb4.cell (p := ⟨w.heap.size + 1, 0, none⟩) (by show w.heap.size + 1 < _; omega)).trans x1
    clear hb4
    by_cases hb : gs B = true
    · rw [hb]
      have hn : Hid (R = (subT 41 (tree A 41 0) (tree B 41 0), true)) := HR.out.trans (sof_sub A B ha hb)
      have pa := gs_types A ha
      have pb := gs_types B hb
      have la : Hid (LG 41 (tree A 41 0)) := tree_lg ha 41 0 (by omega) (by omega)
      have lb : Hid (LG 41 (tree B 41 0)) := tree_lg hb 41 0 (by omega) (by omega)
      have CA : Hid (∀ W : World, Below w.heap.size w W → Calls Try.prog 45 #[.agg #[.slice aa A.length capa], .int .i64 0] W fun e w' => ∃ ac lc cc, e = .returned (tv (tree A 41 0) ac lc cc) ∧ KidsIn 41 w' (fun g => g < w'.heap.size) (.slice ac lc cc) (tree A 41 0).kids ∧ Below W.heap.size W w') := fun W hW => by
        refine (l2Tree_any A _ (by omega) 41 0 W (HA.out.below hW) (by omega) (by omega)).mono ?_
        rintro e w' ⟨c, rfl, hk, hb⟩
        obtain ⟨ac, cc, rfl, _⟩ := hk.form
        exact ⟨ac, _, cc, rfl, hk.kept (fun _ _ => rfl) (fun g hg => hg.2), hb⟩
      have CB : Hid (∀ W : World, Below w.heap.size w W → Calls Try.prog 45 #[.agg #[.slice ab B.length capb], .int .i64 0] W fun e w' => ∃ ac lc cc, e = .returned (tv (tree B 41 0) ac lc cc) ∧ KidsIn 41 w' (fun g => g < w'.heap.size) (.slice ac lc cc) (tree B 41 0).kids ∧ Below W.heap.size W w') := fun W hW => by
        refine (l2Tree_any B _ (by omega) 41 0 W (HB.out.below hW) (by omega) (by omega)).mono ?_
        rintro e w' ⟨c, rfl, hk, hb⟩
        obtain ⟨ac, cc, rfl, _⟩ := hk.form
        exact ⟨ac, _, cc, rfl, hk.kept (fun _ _ => rfl) (fun g hg => hg.2), hb⟩
      clear pa pb ha hb
      generalize tree A 41 0 = TA at *
      generalize tree B 41 0 = TB at *
      have hB4d : Hid (Below w.heap.size w w4.drew) := hB4.drew
      go_wp2_with fail
      go_region_with (first
        | (go_at_call 105; refine (l2Sub_any 41 TA TB ac bc lc cc ld cd _ _ w6 hka6 hkb (fun g h => h) (fun g h => h) la.out lb.out).mono ?_; rintro e w7 ⟨rfl, hb7⟩; have hB7 : Below w.heap.size w w7 := hB6.trans (hb7.mono hB6.size))
        | (go_at_call 45; refine (CB.out _ hB5).mono ?_; rintro e w6 ⟨bc, ld, cd, rfl, hkb, hb6⟩; have hB6 : Below w.heap.size w w6 := hB5.trans (hb6.mono hB5.size); have hka6 := hka.kept (w' := w6) (S' := fun g => g < w6.heap.size) (fun g hg => hb6.block g hg) (fun g hg => by have := hb6.size; omega))
        | (go_at_call 45; refine (CA.out _ hB4d.out).mono ?_; rintro e w5 ⟨ac, lc, cc, rfl, hka, hb5⟩; have hB5 : Below w.heap.size w w5 := hB4.drew.trans (hb5.mono hB4.size); have x15 := (hb5.cell (p := ⟨w.heap.size + 1, 0, none⟩) (by show w.heap.size + 1 < w4.heap.size; omega)).trans x1))
      all_goals
        clear hka hkb hka6 la lb CA CB hb5 hb6 hb7
        generalize subT 41 TA TB = r at hn ⊢
        go_wp2
        go_ret2
        exact ⟨by rw [hn.out]; rfl, hB7⟩
    · have hb' : gs B = false := by simpa using hb
      have hn : Hid (R = (false, false)) := HR.out.trans (sof_no A B (fun h => hb h.2))
      rw [hb']
      clear hb hb' ha
      go_wp2
      go_ret2
      exact ⟨by rw [hn.out]; rfl, hB4⟩
  · have ha' : gs A = false := by simpa using ha
    have hn : Hid (R = (false, false)) := HR.out.trans (sof_no A B (fun h => ha h.1))
    rw [ha']
    clear ha ha'
    go_wp2
    go_ret2
    exact ⟨by rw [hn.out]; rfl, hB3⟩

set_option maxRecDepth 100000 in
set_option maxHeartbeats 4000000 in
theorem implSub (A B : List Ty) (v1 v2 : Value) (w : World) (hA : TysAt w w.heap.size v1 A) (hB : TysAt w w.heap.size v2 B) :
    Calls Try.prog 73 #[.agg #[v1], .agg #[v2]] w fun e w' => e = .returned (.tuple #[.bool (sof A B).1, .bool (sof A B).2]) ∧ Below w.heap.size w w' := by
  have HA : Hid (TysAt w w.heap.size v1 A) := hA
  have HB : Hid (TysAt w w.heap.size v2 B) := hB
  obtain ⟨R, hR⟩ : ∃ R, R = sof A B := ⟨_, rfl⟩
  rw [← hR]
  have HR : Hid (R = sof A B) := hR
  clear hR
  obtain ⟨aa, capa, rfl, _⟩ := hA
  obtain ⟨ab, capb, rfl, _⟩ := hB
  obtain ⟨W2, hW2⟩ : ∃ W, W = (w.alloc (.cells #[.slice aa A.length capa] 25)).alloc (.cells #[.slice ab B.length capb] 25) := ⟨_, rfl⟩
  have hB1 : Below w.heap.size w W2 := by rw [hW2]; exact ((Below.refl _ w).alloc (Nat.le_refl _) _).alloc (by simp) _
  have hs2 : W2.heap.size = w.heap.size + 2 := by rw [hW2]; simp
  have x0 : W2.cell? ⟨w.heap.size, 0, none⟩ = some (.slice aa A.length capa) := by rw [hW2]; go_simp
  have x1 : W2.cell? ⟨w.heap.size + 1, 0, none⟩ = some (.slice ab B.length capb) := by rw [hW2]; go_simp
  go_enter Try.func73, Try.ntmps73
  go_wp2_with fail
  rw [← hW2]
  clear hW2
  refine (implGoodT A _ _ (HA.out.below hB1)).mono ?_
  rintro e w3 ⟨rfl, hb3⟩
  have hB3 : Below w.heap.size w w3 := hB1.trans (hb3.mono hB1.size)
  have hs3 : w.heap.size + 2 ≤ w3.heap.size := by have := hb3.size; omega
  have x0 := (hb3.cell (p := ⟨w.heap.size, 0, none⟩) (by show w.heap.size < _; omega)).trans x0
  have x1 := (hb3.cell (p := ⟨w.heap.size + 1, 0, none⟩) (by show w.heap.size + 1 < _; omega)).trans x1
  clear hb3
  by_cases ha : gs A = true
  · rw [ha]
    go_wp2_with fail
    refine (implGoodT B _ _ (HB.out.below hB3)).mono ?_
    rintro e w4 ⟨rfl, hb4⟩
    have hB4 : Below w.heap.size w w4 := hB3.trans (hb4.mono hB3.size)
    have hs4 : w.heap.size + 2 ≤ w4.heap.size := by have := hb4.size; omega
    have x0 := (hb4.cell (p := ⟨w.heap.size, 0, none⟩) (by show w.heap.size < _; omega)).trans x0
    have x1 := (hb4.cell (p := ⟨w.heap.size + 1, 0, none⟩) (by show w.heap.size + 1 < _; omega)).trans x1
    clear hb4
    by_cases hb : gs B = true
    · rw [hb]
      have hn : Hid (R = (subP 40 (tree A 41 0).kids (tree B 41 0).kids, true)) := HR.out.trans (sof_yes A B ha hb)
      have pa := gs_types A ha
      have pb := gs_types B hb
      have CA : Hid (∀ W : World, Below w.heap.size w W → Calls Try.prog 50 #[.slice aa A.length capa, .int .i64 0] W fun e w' => ∃ c, e = .returned c ∧ PartsIn 40 w' (fun g => g < w'.heap.size) c (tree A 41 0).kids ∧ Below W.heap.size W w') := fun W hW => by
        refine (ownParts_any A _ ha 40 0 W (HA.out.below hW) (by omega) (by omega)).mono ?_
        rintro e w' ⟨c, rfl, hk, hb⟩
        exact ⟨c, rfl, hk.kept (fun _ _ => rfl) (fun g hg => hg.2), hb⟩
      have CB : Hid (∀ W : World, Below w.heap.size w W → Calls Try.prog 50 #[.slice ab B.length capb, .int .i64 0] W fun e w' => ∃ c, e = .returned c ∧ PartsIn 40 w' (fun g => g < w'.heap.size) c (tree B 41 0).kids ∧ Below W.heap.size W w') := fun W hW => by
        refine (ownParts_any B _ hb 40 0 W (HB.out.below hW) (by omega) (by omega)).mono ?_
        rintro e w' ⟨c, rfl, hk, hb⟩
        exact ⟨c, rfl, hk.kept (fun _ _ => rfl) (fun g hg => hg.2), hb⟩
      clear pa pb ha hb
      generalize (tree A 41 0).kids = TA at *
      generalize (tree B 41 0).kids = TB at *
      have hB4d : Hid (Below w.heap.size w w4.drew) := hB4.drew
      go_wp2_with fail
      go_region_with (first
        | (go_at_call 106; refine (areSubparts_any 40 TA TB ca cb _ _ w6 hka6 hkb (fun g h => h) (fun g h => h)).mono ?_; rintro e w7 ⟨rfl, hb7⟩; have hB7 : Below w.heap.size w w7 := hB6.trans (hb7.mono hB6.size))
        | (go_at_call 50; refine (CB.out _ hB5).mono ?_; rintro e w6 ⟨cb, rfl, hkb, hb6⟩; have hB6 : Below w.heap.size w w6 := hB5.trans (hb6.mono hB5.size); have hka6 := hka.kept (w' := w6) (S' := fun g => g < w6.heap.size) (fun g hg => hb6.block g hg) (fun g hg => by have := hb6.size; omega))
        | (go_at_call 50; refine (CA.out _ hB4d.out).mono ?_; rintro e w5 ⟨ca, rfl, hka, hb5⟩; have hB5 : Below w.heap.size w w5 := hB4.drew.trans (hb5.mono hB4.size); have x15 := (hb5.cell (p := ⟨w.heap.size + 1, 0, none⟩) (by show w.heap.size + 1 < w4.heap.size; omega)).trans x1))
      all_goals
        clear hka hkb hka6 CA CB hb5 hb6 hb7
        generalize subP 40 TA TB = r at hn ⊢
        go_wp2
        go_ret2
        exact ⟨by rw [hn.out]; rfl, hB7⟩
    · have hb' : gs B = false := by simpa using hb
      have hn : Hid (R = (false, false)) := HR.out.trans (sof_no A B (fun h => hb h.2))
      rw [hb']
      clear hb hb' ha
      go_wp2
      go_ret2
      exact ⟨by rw [hn.out]; rfl, hB4⟩
  · have ha' : gs A = false := by simpa using ha
    have hn : Hid (R = (false, false)) := HR.out.trans (sof_no A B (fun h => ha h.1))
    rw [ha']
    clear ha ha'
    go_wp2
    go_ret2
    exact ⟨by rw [hn.out]; rfl, hB3⟩

end Go.Proofs.Ytpajdmhakdbkjaa
