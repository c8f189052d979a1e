/- The model's l4Musts: all that must be is there. -/
import Derived.Test.YtpajdmhakdbkjaaNdK
import Derived.Test.YtpajdmhakdbkjaaGv
import Derived.Deep.DeepCutAuto
namespace Go.Proofs.Ytpajdmhakdbkjaa
open Go.RowKit Plain Sch

theorem musts_none (vk : List Tr) : musts vk [] = true := rfl

def foundTo (vk : List Tr) (y : Tr) (j : Nat) : Bool := !y.must || (vk.take j).any fun x => decide (x.no = y.no)

theorem found_step (vk : List Tr) (y x : Tr) (j : Nat) (h : vk[j]? = some x) : foundTo vk y (j + 1) = (foundTo vk y j || decide (x.no = y.no)) := by
  unfold foundTo
  rw [List.take_add_one, h, List.any_append]
  simp [Bool.or_assoc]

theorem musts_step (vk tk : List Tr) (y : Tr) (i : Nat) (h : tk[i]? = some y) : musts vk (tk.take (i + 1)) = (musts vk (tk.take i) && foundTo vk y vk.length) := by
  unfold musts foundTo
  rw [List.take_add_one, h, List.all_append, List.take_length]
  simp

theorem musts_false (vk tk : List Tr) (y : Tr) (i : Nat) (h : tk[i]? = some y) (hf : foundTo vk y vk.length = false) : musts vk tk = false := by
  unfold musts
  rw [List.all_eq_false]
  refine ⟨y, List.mem_of_getElem? h, ?_⟩
  unfold foundTo at hf
  rw [List.take_length] at hf
  simpa using hf

set_option maxRecDepth 100000 in
set_option maxHeartbeats 4000000 in
theorem l4Musts_any (d f : Nat) (v t : Tr) (av : Option Addr) (lv cv : Nat) (ta : Option Addr) (lt ct : Nat) (Sv St : Nat → Prop) (w : World) (hv : VKids (d + 1) w Sv (.slice av lv cv) v.kids) (ht : KidsIn (f + 1) w St (.slice ta lt ct) t.kids) (hSv : ∀ g, Sv g → g < w.heap.size) (hSt : ∀ g, St g → g < w.heap.size) :
    Calls Try.prog 98 #[vv v av lv cv, tv t ta lt ct] w fun e w' => e = .returned (.bool (musts v.kids t.kids)) ∧ Below w.heap.size w w' := by
  obtain ⟨av', cv', hcc, hlv, hcmv, hrv⟩ := hv
  simp only [Value.slice.injEq] at hcc
  obtain ⟨rfl, hnv, rfl⟩ := hcc
  obtain ⟨ta', ct', hcc, hlt, hcmt, hrt⟩ := ht
  simp only [Value.slice.injEq] at hcc
  obtain ⟨rfl, hnt, rfl⟩ := hcc
  have HV : Hid (∀ i x, v.kids[i]? = some x → ∃ g o c', av = some ⟨g, o, none⟩ ∧ Sv g ∧ VdIn w g (o + i * 5) x c' ∧ VKids d w Sv c' x.kids) := hrv
  have HT : Hid (∀ i x, t.kids[i]? = some x → ∃ g o c', ta = some ⟨g, o, none⟩ ∧ St g ∧ NdIn w g (o + i * 6) x c' ∧ KidsIn f w St c' x.kids) := hrt
  have HSV : Hid (∀ g, Sv g → g < w.heap.size) := hSv
  have HST : Hid (∀ g, St g → g < w.heap.size) := hSt
  have HNV : Hid (lv = v.kids.length) := hnv
  have HNT : Hid (lt = t.kids.length) := hnt
  have hcv : cv ≤ 9223372036854775807 := by unfold maxLen at hcmv; omega
  have hct : ct ≤ 9223372036854775807 := by unfold maxLen at hcmt; omega
  have hlv' : lv ≤ cv := by omega
  have hlt' : lt ≤ ct := by omega
  clear hrv hrt hSv hSt hnv hnt hlv hlt
  obtain ⟨R, hR⟩ : ∃ R, R = musts v.kids t.kids := ⟨_, rfl⟩
  rw [← hR]
  have HR : Hid (R = musts v.kids t.kids) := hR
  clear hR
  unfold vv tv
  obtain ⟨W2, hW2⟩ : ∃ W, W = (w.alloc (.cells #[.int .i64 v.most, .string v.name, .int .i64 v.no, .bool v.must, .slice av lv cv] 78)).alloc (.cells #[.int .i64 t.kind, .string t.name, .int .i64 t.no, .bool t.must, .int .i64 t.most, .slice ta lt ct] 82) := ⟨_, rfl⟩
  have hB2 : Below w.heap.size w W2 := by rw [hW2]; exact ((Below.refl _ w).alloc (Nat.le_refl _) _).alloc (by simp) _
  have HS2 : Hid (W2.heap.size = w.heap.size + 2) := by show _ = _; rw [hW2]; simp
  have k4 : W2.cell? ⟨w.heap.size, 4, none⟩ = some (.slice av lv cv) := by rw [hW2]; go_simp
  have k5 : W2.cell? ⟨w.heap.size + 1, 5, none⟩ = some (.slice ta lt ct) := by rw [hW2]; go_simp
  have HK4 : Hid (∀ W : World, Below W2.heap.size W2 W → W.cell? ⟨w.heap.size, 4, none⟩ = some (.slice av lv cv)) := fun W hW => (hW.cell (p := ⟨w.heap.size, 4, none⟩) (by have := HS2.out; show w.heap.size < _; omega)).trans k4
  generalize v.kids = vk at *
  generalize t.kids = tk at *
  go_enter Try.func98, Try.ntmps98
  go_upto_region 1 with fail
  rw [← hW2]
  clear hW2
  go_wp2
  go_loopw [13] (fun vi wr => ∃ i : Nat, i ≤ tk.length ∧ vi = .int .i64 (i : Int) ∧ Hid (musts vk (tk.take i) = true) ∧ Below W2.heap.size W2 wr)
    (fun vi _ => tk.length - (intOf vi).toNat)
  case atStart => exact ⟨0, by omega, rfl, rfl, Below.refl _ _⟩
  case round =>
    obtain ⟨wo, rfl⟩ : ∃ W, W = wr := ⟨_, rfl⟩
    obtain ⟨i, hil, rfl, hmi, hbw⟩ := hrel
    have hBr : Below w.heap.size w wo := hB2.trans (hbw.mono hB2.size)
    have hs2 := HS2.out
    have hsr := hbw.size
    by_cases hlt : i < tk.length
    · have hltI : (i : Int) < (lt : Int) := by have := HNT.out; omega
      obtain ⟨y, hy⟩ : ∃ y, tk[i]? = some y := ⟨_, List.getElem?_eq_getElem hlt⟩
      obtain ⟨g, o, c', hao, hSg, hnd, hkk⟩ := HT.out i y hy
      subst hao
      have hg := HST.out g hSg
      obtain ⟨ax, cx, rfl, _⟩ := hkk.form
      obtain ⟨e0, e1, e2, e3, e4, e5⟩ := hnd.kept (hBr.block g hg)
      have hgz : g < wo.heap.size := by omega
      have HMS : Hid (musts vk (tk.take (i + 1)) = (musts vk (tk.take i) && foundTo vk y vk.length)) := musts_step vk tk y i hy
      have HMF : Hid (foundTo vk y vk.length = false → musts vk tk = false) := musts_false vk tk y i hy
      obtain ⟨Wy, hWy⟩ : ∃ W, W = wo.alloc (.cells #[.int .i64 y.kind, .string y.name, .int .i64 y.no, .bool y.must, .int .i64 y.most, .slice ax y.kids.length cx] 82) := ⟨_, rfl⟩
      have hBy : Below wo.heap.size wo Wy := by rw [hWy]; exact (Below.refl _ wo).alloc (Nat.le_refl _) _
      have HSY : Hid (Wy.heap.size = wo.heap.size + 1) := by show _ = _; rw [hWy]; simp
      have y2 : Wy.cell? ⟨wo.heap.size, 2, none⟩ = some (.int .i64 y.no) := by rw [hWy]; go_simp
      have y3 : Wy.cell? ⟨wo.heap.size, 3, none⟩ = some (.bool y.must) := by rw [hWy]; go_simp
      have HB2y : Hid (Below W2.heap.size W2 Wy) := hbw.trans (hBy.mono hsr)
      have k4y := HK4.out _ HB2y.out
      have hzy : w.heap.size < Wy.heap.size := by have := HSY.out; omega
      have HF0 : Hid (foundTo vk y 0 = !y.must) := by show _ = _; unfold foundTo; simp
      clear hnd hkk
      go_upto_region 4 with fail
      rw [← hWy]
      clear hWy e0 e1 e2 e3 e4 e5
      go_wp2
      go_loopw [7, 23] (fun vf vj wr => ∃ j : Nat, j ≤ vk.length ∧ vj = .int .i64 (j : Int) ∧ vf = .bool (foundTo vk y j) ∧ Below Wy.heap.size Wy wr)
        (fun _ vj _ => vk.length - (intOf vj).toNat)
      case atStart => exact ⟨0, by omega, rfl, by rw [HF0.out], Below.refl _ _⟩
      case round =>
        obtain ⟨j, hjl, rfl, rfl, hbs⟩ := hrel
        have hss := hbs.size
        have hsy := HSY.out
        by_cases hjt : j < vk.length
        · have hjtI : (j : Int) < (lv : Int) := by have := HNV.out; omega
          obtain ⟨x, hx⟩ : ∃ x, vk[j]? = some x := ⟨_, List.getElem?_eq_getElem hjt⟩
          obtain ⟨g2, o2, c2, hao2, hSg2, hnd2, hkk2⟩ := HV.out j x hx
          subst hao2
          have hg2 := HSV.out g2 hSg2
          obtain ⟨ax2, cx2, rfl, _⟩ := hkk2.form
          have hBs : Below w.heap.size w wr := hBr.trans ((hBy.trans (hbs.mono (by omega))).mono (by omega))
          obtain ⟨f0, f1, f2, f3, f4⟩ := hnd2.kept (hBs.block g2 hg2)
          have hgz2 : g2 < wr.heap.size := by omega
          have y2s := (hbs.cell (p := ⟨wo.heap.size, 2, none⟩) (by show wo.heap.size < _; omega)).trans y2
          have hzws : wo.heap.size < wr.heap.size := by omega
          have HFS : Hid (foundTo vk y (j + 1) = (foundTo vk y j || decide (x.no = y.no))) := found_step vk y x j hx
          have hbs' : Below Wy.heap.size Wy (wr.alloc (.cells #[.int .i64 x.most, .string x.name, .int .i64 x.no, .bool x.must, .slice ax2 x.kids.length cx2] 78)) := hbs.alloc hss _
          clear hnd2 hkk2
          rcases hfj : foundTo vk y j with _ | _
          · by_cases hno : x.no = y.no
            · have hno' : (x.no == y.no) = true := by simpa using hno
              have HE : Hid (foundTo vk y (j + 1) = true) := by show _ = _; rw [HFS.out, hno]; simp
              clear hno
              go_wp2
              go_roundw
              case rel => exact ⟨j + 1, by omega, by go_num, by rw [HE.out], hbs'⟩
              case measure => simp [intOf]; omega
            · have hno' : (x.no == y.no) = false := by simpa using hno
              have HE : Hid (foundTo vk y (j + 1) = false) := by show _ = _; rw [HFS.out, hfj]; simpa using hno
              clear hno
              go_wp2
              go_roundw
              case rel => exact ⟨j + 1, by omega, by go_num, by rw [HE.out], hbs'⟩
              case measure => simp [intOf]; omega
          · have HE : Hid (foundTo vk y (j + 1) = true) := by show _ = _; rw [HFS.out, hfj]; simp
            go_wp2
            go_roundw
            case rel => exact ⟨j + 1, by omega, by go_num, by rw [HE.out], hbs'⟩
            case measure => simp [intOf]; omega
        · have hke : j = vk.length := by omega
          have hge : ¬ ((j : Int) < (lv : Int)) := by have := HNV.out; omega
          have hB2s : Below W2.heap.size W2 wr := HB2y.out.trans (hbs.mono HB2y.out.size)
          have hBs : Below w.heap.size w wr := hBr.trans ((hBy.trans (hbs.mono (by omega))).mono (by omega))
          rw [hke]
          clear hke
          rcases hfj : foundTo vk y vk.length with _ | _
          · have hn : Hid (R = false) := HR.out.trans (HMF.out hfj)
            go_wp2
            go_ret
            exact ⟨by rw [hn.out]; rfl, hBs⟩
          · have HE : Hid (musts vk (tk.take (i + 1)) = true) := by show _ = _; rw [HMS.out, hmi.out, hfj]; rfl
            go_wp2
            go_roundw
            case rel => exact ⟨i + 1, by omega, by go_num, HE, hB2s⟩
            case measure => simp [intOf]; omega
    · have hke : i = tk.length := by omega
      have hge : ¬ ((i : Int) < (lt : Int)) := by have := HNT.out; omega
      have hn : Hid (R = true) := by
        show _ = _
        rw [HR.out]
        have h := hmi.out
        rwa [hke, List.take_length] at h
      clear hke
      go_wp2
      go_ret
      exact ⟨by rw [hn.out]; rfl, hBr⟩

end Go.Proofs.Ytpajdmhakdbkjaa
