/- The model's l2Meet, whole. -/
import Derived.Test.YtbkdpcfghaiimaaMeI
import Derived.Test.YtbkdpcfghaiimaaMeL
namespace Go.Proofs.Ytbkdpcfghaiimaa
open Go.RowKit Plain Sch

theorem meR_one {d : Nat} {a b : Tr} {S : Nat → Prop} {w w' : World} {e : Ending} (h : MeR d a b S w w' e) : ∃ t ar lr cr ok, e = .returned (.tuple #[.agg #[.int .i64 (Tr.kind t), .string t.name, .int .i64 t.no, .bool t.must, .int .i64 t.most, .slice ar lr cr], .bool ok]) ∧ ((ok = true ∧ meetT d a b = some t ∧ KidsIn d w' (fun g => (S g ∨ w.heap.size ≤ g) ∧ g < w'.heap.size) (.slice ar lr cr) t.kids) ∨ (ok = false ∧ meetT d a b = none)) := by
  rcases h with ⟨t, ar, lr, cr, h1, h2, h3⟩ | ⟨h1, t, ar, lr, cr, h2⟩
  · exact ⟨t, ar, lr, cr, true, h2, .inl ⟨rfl, h1, h3⟩⟩
  · exact ⟨t, ar, lr, cr, false, h2, .inr ⟨rfl, h1⟩⟩

theorem inno_of {a : Tr} (h : GT a) (h4 : a.kind ≠ 4) : InNo a.kids := fun y hy => by
  have hk := ((GT_iff a).1 h).2.1
  have hh := hk.1 (fun e => by rw [e] at hy; simp at hy)
  have h5 : a.kind = 5 := by unfold holds at hh; simp at hh; omega
  exact ((hk.2.2 h5).1 y hy).2

theorem l2Meet_any : ∀ (d : Nat) (a b : Tr) (aa ab : Option Addr) (la ca lb cb : Nat) (S : Nat → Prop) (w : World), KidsIn d w S (.slice aa la ca) a.kids → KidsIn d w S (.slice ab lb cb) b.kids → (∀ g, S g → g < w.heap.size) → GT a → GT b → LG d a → LG d b → a.size ≤ 400 → b.size ≤ 400 →
    Calls Try.prog 46 #[.agg #[.int .i64 a.kind, .string a.name, .int .i64 a.no, .bool a.must, .int .i64 a.most, .slice aa la ca], .agg #[.int .i64 b.kind, .string b.name, .int .i64 b.no, .bool b.must, .int .i64 b.most, .slice ab lb cb]] w fun e w' => MeR d a b S w w' e ∧ Below w.heap.size w w' := by
  intro d
  induction d with
  | zero =>
    intro a b aa ab la ca lb cb S w hkA hkB hS hG hGb hLa hLb hz hzb
    obtain ⟨_, _, e1, _, ha0⟩ := id hkA
    obtain ⟨_, _, e2, _, hb0⟩ := id hkB
    simp only [Value.slice.injEq] at e1 e2
    by_cases hk : a.kind = b.kind
    · have h := l2Meet_parts 0 a b aa ab ca cb S w (by rw [ha0]; rw [ha0] at hkA; obtain ⟨_, rfl, _⟩ := e1; exact hkA.up) (by rw [hb0]; rw [hb0] at hkB; obtain ⟨_, rfl, _⟩ := e2; exact hkB.up) hS hk hLa (Nat.le_trans (kids_size a) hz) (Nat.le_trans (kids_size b) hzb) (fun x y _ _ _ _ _ _ _ _ hx => by rw [ha0] at hx; simp at hx)
      unfold tv at h
      rw [ha0, hb0] at h
      obtain ⟨_, rfl, _⟩ := e1
      obtain ⟨_, rfl, _⟩ := e2
      refine h.mono ?_
      rintro e w' ⟨h | ⟨h, _⟩, hb⟩
      · obtain ⟨L, hL, ar, lr, cr, rfl, hk'⟩ := h
        cases hL
        refine ⟨.inl ⟨mn a b [], ar, lr, cr, ?_, rfl, ?_⟩, hb⟩
        · rw [meetT, if_neg (by simpa using hk)]
        · exact kids_zero hk'
      · cases h
    · refine (l2Meet_no a b aa ab la ca lb cb w hk).mono ?_
      rintro e w' ⟨⟨t, ar, lr, cr, rfl⟩, hb⟩
      refine ⟨.inr ⟨?_, t, ar, lr, cr, rfl⟩, hb⟩
      rw [meetT, if_pos hk]
  | succ d ih =>
    intro a b aa ab la ca lb cb S w hkA hkB hS hG hGb hLa hLb hz hzb
    obtain ⟨_, _, e1, _⟩ := hkA.form
    obtain ⟨_, _, e2, _⟩ := hkB.form
    simp only [Value.slice.injEq] at e1 e2
    obtain ⟨_, rfl, _⟩ := e1
    obtain ⟨_, rfl, _⟩ := e2
    have hga := (GT_iff a).1 hG
    have hgb := (GT_iff b).1 hGb
    by_cases hk : a.kind = b.kind
    · by_cases h4 : a.kind = 4
      · cases hca : a.kids with
        | nil => exact absurd hca (hLa.1 h4)
        | cons x l =>
          cases hcb : b.kids with
          | nil => exact absurd hcb (hLb.1 (hk ▸ h4))
          | cons y l' =>
            have hxm : x ∈ a.kids := by rw [hca]; simp
            have hym : y ∈ b.kids := by rw [hcb]; simp
            have hxz : x.size ≤ 400 := by have h1 := sizeL_mem a.kids x hxm; have h2 := a.size_eq; omega
            have hyz : y.size ≤ 400 := by have h1 := sizeL_mem b.kids y hym; have h2 := b.size_eq; omega
            have h := l2Meet_list d a b x y l l' aa ab ca cb S w hca hcb hkA hkB hS h4 (hk ▸ h4) (fun ax ay lx cx ly cy S w h1 h2 h3 => by
              refine (ih x y ax ay lx cx ly cy S w h1 h2 h3 (hga.2.2 x hxm) (hgb.2.2 y hym) (hLa.2 x hxm) (hLb.2 y hym) hxz hyz).mono ?_
              rintro e w' ⟨h, hb⟩
              exact ⟨meR_one h, hb⟩)
            unfold tv at h
            rw [hca, hcb] at h
            refine h.mono ?_
            rintro e w' ⟨h | ⟨h1, t, ar, lr, cr, rfl⟩, hb⟩
            · obtain ⟨z, ar, lr, cr, h1, rfl, h2⟩ := h
              refine ⟨.inl ⟨mn a b [z], ar, lr, cr, ?_, rfl, h2⟩, hb⟩
              rw [meetT, if_neg (by simpa using hk), if_pos h4, hca, hcb]
              show (meetT d x y).map _ = _
              rw [h1]
              rfl
            · refine ⟨.inr ⟨?_, t, ar, lr, cr, rfl⟩, hb⟩
              rw [meetT, if_neg (by simpa using hk), if_pos h4, hca, hcb]
              show (meetT d x y).map _ = _
              rw [h1]
              rfl
      · have h4b : b.kind ≠ 4 := fun h => h4 (hk.trans h)
        have hboth := meet_both (F := meetT d) (fun x y z h => (meetT_form h).2.1) (rise_of hG h4) (rise_of hGb h4b) (inno_of hG h4) (inno_of hGb h4b)
        have h := l2Meet_parts d a b aa ab ca cb S w hkA hkB hS hk h4 (Nat.le_trans (kids_size a) hz) (Nat.le_trans (kids_size b) hzb) (fun x y ax ay lx cx ly cy S w hxm hym h1 h2 h3 => ih x y ax ay lx cx ly cy S w h1 h2 h3 (hga.2.2 x hxm) (hgb.2.2 y hym) (hLa.2 x hxm) (hLb.2 y hym) (by have h1 := sizeL_mem a.kids x hxm; have h2 := a.size_eq; omega) (by have h1 := sizeL_mem b.kids y hym; have h2 := b.size_eq; omega))
        unfold tv at h
        refine h.mono ?_
        rintro e w' ⟨h | ⟨h1, t, ar, lr, cr, rfl⟩, hb⟩
        · obtain ⟨L, hL, ar, lr, cr, rfl, hk'⟩ := h
          refine ⟨.inl ⟨mn a b (spB a.kids b.kids L b.kids.length), ar, lr, cr, ?_, rfl, hk'⟩, hb⟩
          rw [meetT, if_neg (by simpa using hk), if_neg h4, hboth, hL]
          rfl
        · refine ⟨.inr ⟨?_, t, ar, lr, cr, rfl⟩, hb⟩
          rw [meetT, if_neg (by simpa using hk), if_neg h4, hboth, h1]
          rfl
    · refine (l2Meet_no a b aa ab _ ca _ cb w hk).mono ?_
      rintro e w' ⟨⟨t, ar, lr, cr, rfl⟩, hb⟩
      refine ⟨.inr ⟨?_, t, ar, lr, cr, rfl⟩, hb⟩
      rw [meetT, if_pos hk]

end Go.Proofs.Ytbkdpcfghaiimaa
