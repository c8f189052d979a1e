/- The program's proof of what a way passes. -/
import Derived.Test.YtlglngmlaknmlaaLgV
namespace Go.Proofs.Ytlglngmlaknmlaa
open Go.RowKit Plain Lgs Tpc

/-- a proof in the making: the sums, the way, the answer's variable -/
structure PSt (w wr : World) (rb B : Nat) (v u : Value) (x y : Nat) (L : List As) (S : List Int) : Prop where
  lv : Lv wr w.heap.size B u S
  rt : Rt wr rb B v x y L
  res : wr.cell? ⟨w.heap.size + 1, 0, none⟩ = some (.slice none 0 0)
  rfz : wr.frozen? ⟨w.heap.size + 1, 0, none⟩ = false
  far : ∀ g, u.ownBlock = some g → g ≠ rb ∧ v.ownBlock ≠ some g ∧ g ≠ w.heap.size + 1
  vlo : ∀ g, v.ownBlock = some g → g < w.heap.size
  rlo : rb < w.heap.size
  size : w.heap.size + 2 ≤ wr.heap.size
  low : B ≤ w.heap.size
  bel : Below B w wr

theorem PSt.below {w wr w' : World} {rb B : Nat} {v u : Value} {x y : Nat} {L : List As} {S : List Int} (h : PSt w wr rb B v u x y L S) (hb : Below wr.heap.size wr w') : PSt w w' rb B v u x y L S := by
  have hs := h.size
  have hs' := hb.size
  have hl := h.low
  exact ⟨h.lv.below hb, h.rt.below hb, (hb.cell (p := ⟨w.heap.size + 1, 0, none⟩) (by show w.heap.size + 1 < _; omega)).trans h.res, (hb.frozen (p := ⟨w.heap.size + 1, 0, none⟩) (by show w.heap.size + 1 < _; omega)).trans h.rfz, h.far, h.vlo, h.rlo, by omega, h.low, h.bel.trans (hb.mono (by omega))⟩

theorem PSt.next {w wr w' : World} {rb B : Nat} {v u u' : Value} {x y : Nat} {L : List As} {S S' : List Int} (h : PSt w wr rb B v u x y L S) (hL : Lv w' w.heap.size B u' S') (hP : Pl wr w' w.heap.size u u') : PSt w w' rb B v u' x y L S' := by
  obtain ⟨lv, rt, res, rfz, far, vlo, rlo, size, low, bel⟩ := h
  have hlt := World.ownsRow.lt lv.own
  have hps := hP.size
  have hrb : w'.heap[rb]? = wr.heap[rb]? := hP.block rb (by omega) (by omega) (fun e => (far rb e.symm).1 rfl)
  have hre : w'.heap[w.heap.size + 1]? = wr.heap[w.heap.size + 1]? := hP.block _ (by omega) (by omega) (fun e => (far _ e.symm).2.2 rfl)
  refine ⟨hL, ⟨by omega, (World.cell?_of_block (w := wr) hrb).trans rt.fr, (World.cell?_of_block (w := wr) hrb).trans rt.tt, (World.cell?_of_block (w := wr) hrb).trans rt.row, (World.frozen?_of_block (w := wr) hrb).trans rt.frz, ?_, rt.apt⟩, (World.cell?_of_block (w := wr) hre).trans res, (World.frozen?_of_block (w := wr) hre).trans rfz, ?_, vlo, rlo, by omega, low, ?_⟩
  · have hown := rt.own
    have hrl := World.ownsRow.lt hown
    refine ⟨hown.1, ?_⟩
    rcases hown.2 with hn | ⟨g, cap, cur, hv, hgB, hgg, rest⟩
    · exact .inl hn
    · have hvo : v.ownBlock = some g := by rw [hv]; rfl
      refine .inr ⟨g, cap, cur, hv, hgB, (hP.block g (hrl g hvo).2 (by have := vlo g hvo; omega) (fun e => (far g e.symm).2.1 hvo)).trans hgg, rest⟩
  · intro g hg
    rcases hP.new g hg with h | h
    · exact far g h
    · refine ⟨by omega, fun e => ?_, by omega⟩
      have := vlo g e
      omega
  · exact bel.trans (hP.below (by omega) low (fun g hg => (hlt g hg).1))

theorem map_take_succ {α β : Type} (f : α → β) (L : List α) (d : α) {i : Nat} (h : i < L.length) : (L.take (i + 1)).map f = (L.take i).map f ++ [f (L.getD i d)] := by
  rw [List.take_add_one, List.map_append, List.getElem?_eq_getElem h, List.getD, List.getElem?_eq_getElem h]
  rfl

theorem zl_snoc (S : List Nat) (x : Nat) : zl (S ++ [x]) = zl S ++ [(x : Int)] := by unfold zl; rw [List.map_append]; rfl

set_option maxRecDepth 100000 in
set_option maxHeartbeats 4000000 in
theorem proofOf_any (l : List ByteArray) (L : List As) (S0 : List Nat) (rb B x y : Nat) (v vs vl : Value) (w : World) (hR : Rt w rb B v x y L) (hl : StAt w B vl l) (hin : ∀ a ∈ L, a.fr < a.tt ∧ a.tt ≤ l.length)
    (h40 : l.length ≤ 40) (h20 : ∀ i, i < l.length → (lq l i).size ≤ 20) (hS : ZRow w B vs (zl S0)) (hBw : B ≤ w.heap.size) (hfar : ∀ g, vs.ownBlock = some g → g ≠ rb ∧ v.ownBlock ≠ some g) (hL : L.length ≤ 40) (hS0 : S0.length ≤ 40) :
    Calls Try.prog 60 #[.pointer (some ⟨rb, 0, none⟩), vl, .agg #[vs]] w fun e w' => ∃ v', e = .returned (.agg #[v']) ∧ ZRow w' B v' (zl (S0 ++ L.map (rootS l))) ∧ Below B w w' := by
  have rc := fun (tmps : Array Value) (P : Program) (w : World) => results_cellL (fn := Try.f60) (p := 6) (ty := 37) rfl tmps P w
  obtain ⟨sa, cs, rfl⟩ := hS.slice
  obtain ⟨W0, hW0⟩ : ∃ W, W = (w.alloc (.cells #[.slice sa (zl S0).length cs] 79)).alloc (.cells #[.slice none 0 0] 37) := ⟨_, rfl⟩
  have hB0 : Below w.heap.size w W0 := by rw [hW0]; exact ((Below.refl _ w).alloc (Nat.le_refl _) _).alloc (by simp) _
  have hs0 : W0.heap.size = w.heap.size + 2 := by rw [hW0]; simp
  have hP0 : PSt w W0 rb B v (.slice sa (zl S0).length cs) x y L (zl (S0 ++ (L.take 0).map (rootS l))) := by
    have hlt := World.ownsRow.lt hS
    refine ⟨⟨by omega, by rw [hW0]; go_simp, by rw [hW0]; go_simp, ?_, fun g hg => by have := (hlt g hg).2; omega⟩, hR.below hB0, by rw [hW0]; go_simp, by rw [hW0]; go_simp, fun g hg => ⟨(hfar g hg).1, (hfar g hg).2, by have := (hlt g hg).2; omega⟩, fun g hg => (World.ownsRow.lt hR.own g hg).2, hR.low, by omega, hBw, hB0.mono hBw⟩
    rw [List.take_zero, List.map_nil, List.append_nil]
    exact hS.below hB0
  have HIN : Hid (∀ a ∈ L, a.fr < a.tt ∧ a.tt ≤ l.length) := hin
  have HSt : Hid (∀ W, Below B w W → StAt W W.heap.size vl l) := fun W hW => by
    obtain ⟨ao, cap, hv, hm, hc, hr⟩ := hl
    refine ⟨ao, cap, hv, hm, hc, fun i hi => ?_⟩
    obtain ⟨g, o, ha, hg, c⟩ := hr i hi
    have := hW.size
    exact ⟨g, o, ha, by omega, (hW.cell (p := ⟨g, o + i, none⟩) hg).trans c⟩
  have H20 : Hid (∀ i, i < l.length → (lq l i).size ≤ 20) := h20
  obtain ⟨ar, cr, hvv, hlc, hcm⟩ := hR.own.slice
  subst hvv
  unfold maxLen at hcm
  have hrow0 := hP0.rt.row
  have hlr0 := hP0.rt.low
  clear hin h20 hl hS hR hfar
  go_enter Try.func60, Try.ntmps60
  go_upto_region 1 with fail
  rw [← hW0]
  clear hW0
  go_wp2_with fail
  go_loopw [15] (fun vi wr => ∃ (i : Nat) (u : Value), i ≤ L.length ∧ vi = .int .i64 (i : Int) ∧ PSt w wr rb B (.slice ar L.length cr) u x y L (zl (S0 ++ (L.take i).map (rootS l))))
    (fun vi _ => L.length - (intOf vi).toNat)
  case atStart => exact ⟨0, _, by omega, rfl, hP0⟩
  case round =>
    obtain ⟨i, u, hi, rfl, hP⟩ := hrel
    clear hP0 hrow0 hlr0
    by_cases hlt : i < L.length
    · have hlt' : (i : Int) < (L.length : Int) := by omega
      have hown := hP.rt.own
      obtain ⟨g, cap, hg⟩ := Joins.ownsRow_form hown (by omega)
      simp only [Value.slice.injEq] at hg
      obtain ⟨rfl, _, rfl⟩ := hg
      have c0 := World.ownsRow.cellAt hown (i * 3) (by omega)
      have c1 := World.ownsRow.cellAt hown (i * 3 + 1) (by omega)
      have c2 := World.ownsRow.cellAt hown (i * 3 + 2) (by omega)
      have f0 := flat3A L i 0 hlt (by omega)
      have f1 := flat3A L i 1 hlt (by omega)
      have f2 := flat3A L i 2 hlt (by omega)
      rw [Nat.add_zero] at f0
      rw [f0] at c0
      rw [f1] at c1
      rw [f2] at c2
      have hmem : L.getD i a0 ∈ L := by rw [List.getD, List.getElem?_eq_getElem hlt]; exact List.getElem_mem hlt
      have hai := HIN.out _ hmem
      have HNX : Hid (zl (S0 ++ (L.take (i + 1)).map (rootS l)) = zl (S0 ++ (L.take i).map (rootS l)) ++ [((root (sub l (L.getD i a0).fr (L.getD i a0).tt) : Nat) : Int)]) := by
        show _ = _
        rw [map_take_succ (rootS l) L a0 hlt, ← List.append_assoc, zl_snoc]
        rfl
      have HLEN : Hid ((zl (S0 ++ (L.take i).map (rootS l))).length ≤ 100) := by
        show _ ≤ _
        rw [zl_len, List.length_append, List.length_map, List.length_take]
        omega
      generalize zl (S0 ++ (L.take i).map (rootS l)) = S at hP HNX HLEN
      obtain ⟨S', hS'⟩ : ∃ S', zl (S0 ++ (L.take (i + 1)).map (rootS l)) = S' := ⟨_, rfl⟩
      rw [hS'] at HNX
      have HS' : Hid (zl (S0 ++ (L.take (i + 1)).map (rootS l)) = S') := hS'
      clear hS'
      obtain ⟨⟨fr, tt, ah⟩, hs⟩ : ∃ s, L.getD i a0 = s := ⟨_, rfl⟩
      rw [hs] at c0 c1 c2 hai HNX
      clear hs hmem f0 f1 f2 hown
      dsimp only [As.cells] at c0 c1 c2 hai HNX
      have c0' : wr.cell? ⟨g, i * 3, none⟩ = some (.int .i64 (fr : Int)) := c0
      have c1' : wr.cell? ⟨g, i * 3 + 1, none⟩ = some (.int .i64 (tt : Int)) := c1
      have c2' : wr.cell? ⟨g, i * 3 + 2, none⟩ = some (.bool ah) := c2
      clear c0 c1 c2
      obtain ⟨Wa, hWa⟩ : ∃ W, W = wr.alloc (.cells #[.int .i64 (fr : Int), .int .i64 (tt : Int), .bool ah] 88) := ⟨_, rfl⟩
      have hBa : Below wr.heap.size wr Wa := by rw [hWa]; exact (Below.refl _ wr).alloc (Nat.le_refl _) _
      have a0' : Wa.cell? ⟨wr.heap.size, 0, none⟩ = some (.int .i64 (fr : Int)) := by rw [hWa]; go_simp
      have a1' : Wa.cell? ⟨wr.heap.size, 1, none⟩ = some (.int .i64 (tt : Int)) := by rw [hWa]; go_simp
      have hPa := hP.below hBa
      have CR : Hid (Calls Try.prog 77 #[.agg #[.int .i64 (fr : Int), .int .i64 (tt : Int)], vl] Wa fun e w' => e = .returned (.int .i64 ((root (sub l fr tt) : Nat) : Int)) ∧ Below Wa.heap.size Wa w') := rootIn_any l fr tt vl Wa hai.1 hai.2 h40 H20.out (HSt.out _ hPa.bel)
      generalize root (sub l fr tt) = N at CR HNX
      have HPA : Hid (PSt w Wa rb B (.slice (some ⟨g, 0, none⟩) L.length cr) u x y L S) := hPa
      clear hP hPa
      go_upto_region 4 with fail
      rw [← hWa]
      clear hWa
      go_wp2_with fail
      go_at_call 77
      refine CR.out.mono ?_
      rintro e w2 ⟨rfl, hb2⟩
      have HP2 : Hid (PSt w w2 rb B (.slice (some ⟨g, 0, none⟩) L.length cr) u x y L S) := HPA.out.below hb2
      have hlow2 : B ≤ w2.heap.size := by have h1 := HP2.out.size; have h2 := HP2.out.low; omega
      clear hb2 HPA CR a0' a1' c0' c1' c2'
      go_wp2_with fail
      go_at_call 76
      refine (addZ_any (N : Int) w.heap.size B u S w2 HP2.out.lv hlow2 (by have := HLEN.out; omega)).mono ?_
      rintro e w3 ⟨rfl, u3, hL3, hP3⟩
      have hP3 : PSt w w3 rb B (.slice (some ⟨g, 0, none⟩) L.length cr) u3 x y L S' := by
        rw [HNX.out]
        exact HP2.out.next hL3 hP3
      have HP3 : Hid (PSt w w3 rb B (.slice (some ⟨g, 0, none⟩) L.length cr) u3 x y L S') := hP3
      clear hL3 hP3 HP2
      go_wp2_with fail
      go_roundw
      case rel => exact ⟨i + 1, u3, by omega, by go_num, by rw [HS'.out]; exact HP3.out⟩
      case measure => simp [intOf]; omega
    · have hke : i = L.length := by omega
      have hge : ¬ ((i : Int) < (L.length : Int)) := by omega
      subst hke
      rw [List.take_of_length_le (Nat.le_refl _)] at hP
      have hsz := hP.size
      have hb := hP.bel
      have hlow := hP.low
      have q0 := hP.lv.row
      have r0 := hP.res
      have rf := hP.rfz
      have hfar := hP.far
      have hz := hP.lv.own
      obtain ⟨S, hSS⟩ : ∃ S, zl (S0 ++ L.map (rootS l)) = S := ⟨_, rfl⟩
      rw [hSS] at hz
      have HSS : Hid (zl (S0 ++ L.map (rootS l)) = S) := hSS
      clear hSS
      obtain ⟨au, cu, rfl⟩ := hz.slice
      have HZ : Hid (ZRow (wr.setCell ⟨w.heap.size + 1, 0, none⟩ (.slice au S.length cu)) B (.slice au S.length cu) S) := hz.aside (Lib.grownBy_setCell _ (w.heap.size + 1) 0 _) (fun g hg h => (hfar g hg).2.2 (by simpa using h))
      have HB : Hid (Below B w (wr.setCell ⟨w.heap.size + 1, 0, none⟩ (.slice au S.length cu))) := hb.setCell (p := ⟨w.heap.size + 1, 0, none⟩) (by show B ≤ w.heap.size + 1; omega) _
      clear hP hz hb hfar
      go_wp2
      (try simp only [Exit.inBlock, Exit.then])
      refine bodyPost_ret (v := .agg #[.slice au S.length cu]) ?_ rfl ⟨_, rfl, by rw [HSS.out]; exact HZ.out, HB.out⟩
      rw [rc]
      go_simp

end Go.Proofs.Ytlglngmlaknmlaa
