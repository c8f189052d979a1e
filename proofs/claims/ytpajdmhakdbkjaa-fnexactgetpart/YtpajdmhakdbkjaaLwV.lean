/- What a law's variable of a value holds behind a call, whichever way its block was made. -/
import Derived.Test.YtpajdmhakdbkjaaGq
import Derived.Test.YtpajdmhakdbkjaaGs
import Derived.Test.YtpajdmhakdbkjaaGpS
import Derived.Test.YtpajdmhakdbkjaaNdE
namespace Go.Proofs.Ytpajdmhakdbkjaa
open Go.RowKit Plain Sch

abbrev zeV : Obj := .cells #[.slice none 0 0] 29

theorem oneV_made (W : World) : One (W.alloc zeV) W.heap.size := ⟨by go_simp, by go_simp⟩

theorem oneV_lt {W w6 : World} (hb : Below (W.alloc zeV).heap.size (W.alloc zeV) w6) : W.heap.size < w6.heap.size := by
  have h := hb.size
  simp at h
  omega

theorem oneV_new {W w6 : World} (hb : Below (W.alloc zeV).heap.size (W.alloc zeV) w6) : One w6 W.heap.size := (oneV_made W).kept (hb.block _ (by simp))

theorem oneV_below {W w6 : World} (hb : Below (W.alloc zeV).heap.size (W.alloc zeV) w6) : Below W.heap.size W w6 :=
  ((Below.refl _ W).alloc (Nat.le_refl _) zeV).trans (hb.mono (by simp))

theorem oneV_drew {W w6 : World} (hb : Below (W.alloc zeV).drew.heap.size (W.alloc zeV).drew w6) : Below (W.alloc zeV).heap.size (W.alloc zeV) w6 :=
  (Below.refl _ (W.alloc zeV)).drew.trans (hb.mono (Nat.le_refl _))

theorem NdRow.at30 {w : World} {B : Nat} {v : Value} {L : List Ty} (h : NdRow w B v L) (hn : ∀ x ∈ L, x.name.size ≤ 30) : NdsAt w w.heap.size v L := by
  refine NdsAt.own h (fun i hi => ?_)
  have := hn _ (ty_mem hi)
  unfold maxLen
  omega

theorem awl_mem {s : Nat} {L : List Ty} {y : Ty} (h : y ∈ awl s L) : ∃ z ∈ L, y.name = z.name := by
  cases L with
  | nil => simp [awl] at h
  | cons a M =>
    unfold awl at h
    rw [List.map_cons] at h
    dsimp only at h
    rcases List.mem_cons.1 h with rfl | h
    · exact ⟨a, by simp, rfl⟩
    · obtain ⟨z, hz, rfl⟩ := List.mem_map.1 h
      exact ⟨z, by simp [hz], rfl⟩

theorem flatL_sub : ∀ (l : List Tr) (p s : Nat) (x : Tr), x ∈ l → ∃ s', ∀ y ∈ flat x (p : Int) s', y ∈ flatL l p s
  | [], _, _, x, h => by simp at h
  | a :: l, p, s, x, h => by
    rcases List.mem_cons.1 h with rfl | h
    · exact ⟨s, fun y hy => by rw [flatL]; exact List.mem_append_left _ hy⟩
    · obtain ⟨s', hs⟩ := flatL_sub l p (s + a.size) x h
      exact ⟨s', fun y hy => by rw [flatL]; exact List.mem_append_right _ (hs y hy)⟩

theorem gpo_ok (V T : List Ty) (no : Int) : (gpo V T no).1.length ≤ 1000 ∧ ∀ x ∈ (gpo V T no).1, x.name.size ≤ 30 := by
  have hnil : (([] : List Ty), false).1.length ≤ 1000 ∧ ∀ x ∈ (([] : List Ty), false).1, x.name.size ≤ 30 := ⟨by simp, fun x hx => by simp at hx⟩
  rcases hf : fof4 V T with _ | _
  · rw [gpo_fit hf]; exact hnil
  rcases hy : byNo (tree T 41 0).kids no with _ | y
  · rw [gpo_none hy]; exact hnil
  by_cases hk : y.kind = 5
  · rcases hx : byNo (tree V 41 0).kids no with _ | x
    · rw [gpo_miss hx]; exact hnil
    · rw [gpo_yes hf hy hk hx]
      obtain ⟨_, _, _, e, hsz⟩ := fit_flat hf
      have hxm := byNo_mem _ _ _ hx
      have hall := fit_all hf
      obtain ⟨i, hi⟩ := List.getElem?_of_mem hxm
      have hst := sizeL_step _ i x hi
      rw [Tr.size_eq] at hsz
      constructor
      · show (flat _ _ _).length ≤ 1000
        rw [flat_len, noZ_size]
        omega
      · intro z hz
        have hz : z ∈ flat (noZ x) (-1) 0 := hz
        obtain ⟨s', hs⟩ := flatL_sub (tree V 41 0).kids 0 (0 + 1) x hxm
        rw [← awl_flat x ((0 : Nat) : Int) s'] at hz
        obtain ⟨u, hu, en⟩ := awl_mem hz
        rw [en]
        refine (hall u ?_).1
        rw [e, flat_eq]
        exact List.mem_cons_of_mem _ (hs u hu)
  · rw [gpo_kind hy hk]; exact hnil

/-- the variable's block is zb; it holds F -/
def KCutV (F : List Ty) (U : World) (s : Value) (wx : World) : Prop :=
  ∃ (zb : Nat) (aw : Option Addr) (cw : Nat), s = .pointer (some ⟨zb, 0, none⟩) ∧ wx.cell? ⟨zb, 0, none⟩ = some (.slice aw F.length cw) ∧ NdsAt wx wx.heap.size (.slice aw F.length cw) F ∧ zb < wx.heap.size ∧ Below U.heap.size U wx

theorem kcutV_A {F : List Ty} {U wC : World} {zb B : Nat} {aC : Option Addr} {cC : Nat} (h : Below U.heap.size U wC) (hge : U.heap.size ≤ zb) (hlt : zb < B) (hB : B ≤ wC.heap.size) (ho : NdRow wC B (.slice aC F.length cC) F) (hN : ∀ x ∈ F, x.name.size ≤ 30) (hc : One wC zb) :
    KCutV F U (.pointer (some ⟨zb, 0, none⟩)) (wC.setCell ⟨zb, 0, none⟩ (.slice aC F.length cC)) :=
  ⟨zb, aC, cC, rfl, World.cell?_setCell_same _ _ _ hc.1, (NdRow.setCell ho (a := ⟨zb, 0, none⟩) hlt _).at30 hN, by simp; omega, h.setCell (p := ⟨zb, 0, none⟩) hge _⟩

theorem kcutV_B {F : List Ty} {U wC : World} {B : Nat} {aC : Option Addr} {cC : Nat} (h : Below U.heap.size U wC) (ho : NdRow wC B (.slice aC F.length cC) F) (hN : ∀ x ∈ F, x.name.size ≤ 30) :
    KCutV F U (.pointer (some ⟨wC.heap.size, 0, none⟩)) (wC.alloc (.cells #[.slice aC F.length cC] 29)) :=
  ⟨wC.heap.size, aC, cC, rfl, by go_simp, (ho.at30 hN).below ((Below.refl _ wC).alloc (Nat.le_refl _) _), by simp, h.alloc h.size _⟩

end Go.Proofs.Ytpajdmhakdbkjaa
