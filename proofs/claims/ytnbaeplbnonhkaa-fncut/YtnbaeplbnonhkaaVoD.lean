/- The program's VolumeOf. -/
import Derived.Test.YtnbaeplbnonhkaaVoC
namespace Go.Proofs.Ytnbaeplbnonhkaa
open Go.RowKit Plain Sch Bxs

/-- the points of the first i boxes, each once -/
def vsum (X : List Bx) (i : Nat) : Int := ((List.range i).map fun j => sumP (lft (xb X j) (X.take j))).sum
/-- what VolumeOf tells -/
def volM (M : List (List Sd)) : Int := if gl M then vsum (M.map bx) M.length else 0

theorem vsum_0 (X : List Bx) : vsum X 0 = 0 := rfl
theorem vsum_step (X : List Bx) (i : Nat) : vsum X (i + 1) = vsum X i + sumP (lft (xb X i) (X.take i)) := by
  unfold vsum
  rw [List.range_succ, List.map_append, List.sum_append]
  simp

theorem lft_bound {X : List Bx} (hX : ∀ q ∈ X, okB q = true) {i : Nat} (hi : i < X.length) : 0 ≤ sumP (lft (xb X i) (X.take i)) ∧ sumP (lft (xb X i) (X.take i)) ≤ 8012006001 := by
  have hx := hX _ (xb_mem hi)
  have h := lft_ok hx (O := X.take i) (fun q hq => hX q (List.mem_of_mem_take hq)) (X.take i).length (Nat.le_refl _)
  rw [List.take_length] at h
  have h1 := len_sum h.1
  have h2 := pts_le hx
  omega

theorem vsum_bound {X : List Bx} (hX : ∀ q ∈ X, okB q = true) : ∀ i, i ≤ X.length → 0 ≤ vsum X i ∧ vsum X i ≤ 8012006001 * i := by
  intro i
  induction i with
  | zero => intro _; rw [vsum_0]; omega
  | succ i ih =>
    intro hi
    have h1 := ih (by omega)
    have h2 := lft_bound hX (i := i) (by omega)
    rw [vsum_step]
    omega

theorem AsAt.take9 {w : World} {B i : Nat} {ao : Option Addr} {cap : Nat} {X : List Bx} (h : AsAt w B (.slice ao X.length cap) X) (hi : i ≤ X.length) : AsAt w B (.slice ao i cap) (X.take i) := by
  obtain ⟨a, c, hv, hc, hm, hr⟩ := h
  simp only [Value.slice.injEq, true_and] at hv
  obtain ⟨rfl, rfl⟩ := hv
  have hl : (X.take i).length = i := by rw [List.length_take]; omega
  refine ⟨ao, cap, by rw [hl], by omega, hm, fun j hj => ?_⟩
  rw [hl] at hj
  obtain ⟨g, o, h1, h2, h3⟩ := hr j (by omega)
  have e : xb (X.take i) j = xb X j := by
    unfold xb
    rw [List.getD, List.getD, List.getElem?_take, if_pos hj]
  exact ⟨g, o, h1, h2, by rw [e]; exact h3⟩

theorem sal_ok {M : List (List Sd)} (h : gl M = true) : (∀ q ∈ M.map bx, okB q = true) := by
  intro q hq
  obtain ⟨T, hT, rfl⟩ := List.mem_map.1 hq
  obtain ⟨i, hi, he⟩ := List.getElem_of_mem hT
  have := (gl_get h).2 i hi
  unfold mx at this
  rw [List.getD, List.getElem?_eq_getElem hi, Option.getD_some, he] at this
  exact (gb_good this).2

set_option maxRecDepth 100000 in
set_option maxHeartbeats 8000000 in
theorem implVol (M : List (List Sd)) (v : Value) (w : World) (hT : BxsAt w w.heap.size v M) :
    Calls Try.prog 26 #[v] w fun e w' => e = .returned (.tuple #[.int .i64 (volM M), .bool (gl M)]) ∧ Below w.heap.size w w' := by
  have HT : Hid (BxsAt w w.heap.size v M) := hT
  obtain ⟨ao, cap, rfl, _⟩ := hT
  obtain ⟨R, hR⟩ : ∃ R, R = volM M := ⟨_, rfl⟩
  obtain ⟨G, hG⟩ : ∃ G, G = gl M := ⟨_, rfl⟩
  obtain ⟨X, hX⟩ : ∃ X, X = sal M := ⟨_, rfl⟩
  rw [← hR, ← hG]
  have HNo : Hid (G = false → R = 0) := fun h => by rw [hR]; unfold volM; rw [← hG, h]; rfl
  have HYes : Hid (G = true → R = vsum X X.length ∧ X.length ≤ 20 ∧ ∀ q ∈ X, okB q = true) := fun h => by
    rw [hG] at h
    have e : sal M = M.map bx := by unfold sal; rw [h]; rfl
    rw [hR, hX, e]
    unfold volM
    rw [h, List.length_map]
    exact ⟨rfl, (gl_get h).1, sal_ok h⟩
  have S1 : Hid (∀ W v, BxsAt W W.heap.size v M → Calls Try.prog 44 #[v] W fun e w' => (∃ r, e = .returned (.tuple #[r, .bool G]) ∧ ARow w' W.heap.size r X) ∧ Below W.heap.size W w') := fun W v h => by rw [hX, hG]; exact sidesOfAll_any M v W h
  clear hR hX hG
  go_enter Try.func26, Try.ntmps26
  go_wp2_with fail
  refine (S1.out _ _ HT.out).mono ?_
  rintro e w2 ⟨⟨r2, rfl, hr2⟩, hb2⟩
  obtain ⟨ar, cr, hvr⟩ := hr2.slice
  subst hvr
  have HA2 : Hid (AsAt w2 w2.heap.size (.slice ar X.length cr) X) := hr2.at
  clear hr2 S1 HT
  cases G with
  | false =>
    have hF : Hid (R = 0) := HNo.out rfl
    clear HNo HYes
    go_wp2
    go_ret2
    exact ⟨by rw [hF.out]; rfl, hb2⟩
  | true =>
    obtain ⟨hRv, h20, hok⟩ := HYes.out rfl
    have HRV : Hid (R = vsum X X.length) := hRv
    have HOK : Hid (∀ q ∈ X, okB q = true) := hok
    clear HNo HYes hRv hok
    obtain ⟨_, _, hv2, hlc2, hcm2, hrow2⟩ := HA2.out
    simp only [Value.slice.injEq, true_and] at hv2
    obtain ⟨rfl, rfl⟩ := hv2
    unfold maxLen at hcm2
    have HROW : Hid (∀ i, i < X.length → ∃ g o, ar = some ⟨g, o, none⟩ ∧ g < w2.heap.size ∧ ArrIn w2 g (o + i * 6) (xb X i)) := hrow2
    clear hrow2
    go_wp2
    go_loopw [6, 18] (fun vm vi wr => ∃ i : Nat, i ≤ X.length ∧ vi = .int .i64 (i : Int) ∧ vm = .int .i64 (vsum X i) ∧ Hid (Below w2.heap.size w2 wr))
      (fun _ vi _ => X.length - (intOf vi).toNat)
    case atStart => exact ⟨0, by omega, rfl, rfl, Below.refl _ _⟩
    case round =>
      obtain ⟨i, hi, rfl, rfl, hBi⟩ := hrel
      by_cases hlt : i < X.length
      · have hlt' : (i : Int) < (X.length : Int) := by omega
        have hic : (i : Int) ≤ (cr : Int) := by omega
        have hicn : i ≤ cr := by omega
        obtain ⟨g, o, rfl, hg, hc⟩ := HROW.out i hlt
        have hci := hc.below hBi.out hg
        have hxok : okB (xb X i) = true := HOK.out _ (xb_mem hlt)
        have HST : Hid (vsum X (i + 1) = vsum X i + sumP (lft (xb X i) (X.take i))) := vsum_step X i
        have hb1 := vsum_bound HOK.out i hi
        have hb2' := lft_bound HOK.out hlt
        have hb3 : (8012006001 : Int) * i ≤ 8012006001 * 20 := by omega
        obtain ⟨V, hV⟩ : ∃ V, V = vsum X i := ⟨_, rfl⟩
        obtain ⟨Q, hQ⟩ : ∃ Q, Q = sumP (lft (xb X i) (X.take i)) := ⟨_, rfl⟩
        have hsm : V + Q ≤ 9000000000000 := by rw [hV, hQ]; omega
        have hsn : 0 ≤ V + Q := by rw [hV, hQ]; omega
        obtain ⟨x, hx⟩ : ∃ x, x = xb X i := ⟨_, rfl⟩
        have HAT : Hid (∀ W, Below w2.heap.size w2 W → AsAt W W.heap.size (.slice (some ⟨g, o, none⟩) i cr) (X.take i)) := fun W h => (HA2.out.take9 (Nat.le_of_lt hlt)).below h
        have CP : Hid (∀ W, Below w2.heap.size w2 W → Calls Try.prog 51 #[x.val, .slice (some ⟨g, o, none⟩) i cr] W fun e w' => e = .returned (.int .i64 Q) ∧ Below W.heap.size W w') := fun W h => by
          rw [hQ, ← hx]
          exact pointsLeft_any x (X.take i) _ W (HAT.out W h) (by rw [hx]; exact hxok) (fun q hq => HOK.out q (List.mem_of_mem_take hq)) (by rw [List.length_take]; omega)
        rw [← hx] at hci
        rw [← hV, ← hQ] at HST
        rw [← hV]
        clear hV hQ hx hxok hb1 hb2' hb3 hc
        obtain ⟨W3, hW3⟩ : ∃ W, W = wr.alloc x.obj := ⟨_, rfl⟩
        have hA8 : Hid (ArrAt W3 wr.heap.size x) := by rw [hW3]; exact ArrAt.made wr x
        have hB3 : Below wr.heap.size wr W3 := by rw [hW3]; exact (Below.refl _ wr).alloc (Nat.le_refl _) _
        have HB3 : Hid (Below w2.heap.size w2 W3) := hBi.out.trans (hB3.mono hBi.out.size)
        have HB3d : Hid (Below w2.heap.size w2 W3.drew) := HB3.out.drew
        have hs3 : wr.heap.size < W3.heap.size := hA8.out.1
        have HBn : Hid (∀ W, Below W3.drew.heap.size W3.drew W → Below w2.heap.size w2 W) := fun W h => HB3d.out.trans (h.mono HB3.out.size)
        obtain ⟨_, ⟨f0, f1, f2, f3, f4, f5⟩, _⟩ := hA8.out
        obtain ⟨⟨p0, p1⟩, ⟨p2, p3⟩, ⟨p4, p5⟩⟩ := x
        obtain ⟨e0, e1, e2, e3, e4, e5⟩ := hci
        unfold Bx.val at CP
        dsimp only [Bx.obj] at hW3
        dsimp only [Nat.zero_add] at e0 e1 e2 e3 e4 e5 f0 f1 f2 f3 f4 f5 CP
        go_upto_region 8 with fail
        rw [← hW3]
        clear hW3 e0 e1 e2 e3 e4 e5 hB3 hBi hA8 HAT
        go_region_with (go_at_call 51; refine (CP.out _ HB3d.out).mono ?_; rintro e w6 ⟨rfl, hb6⟩; have HB6 : Hid (Below w2.heap.size w2 w6) := HBn.out _ hb6)
        all_goals
          go_wp2
          go_roundw
          case rel => exact ⟨i + 1, by omega, by go_num, by rw [HST.out], HB6⟩
          case measure => simp [intOf]; omega
      · have hke : i = X.length := by omega
        subst hke
        have hge : ¬ ((X.length : Int) < (X.length : Int)) := by omega
        have HE : Hid (R = vsum X X.length) := HRV
        have HBE : Hid (Below w.heap.size w wr) := hb2.trans (hBi.out.mono hb2.size)
        go_wp2
        go_ret2
        exact ⟨by rw [HE.out]; rfl, HBE.out⟩

end Go.Proofs.Ytnbaeplbnonhkaa
