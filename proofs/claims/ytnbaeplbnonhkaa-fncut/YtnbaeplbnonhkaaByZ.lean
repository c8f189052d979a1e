/- The model's VolumeOf. -/
import Derived.Test.YtnbaeplbnonhkaaVoD
import Derived.Test.YtnbaeplbnonhkaaByE
import Derived.Test.YtnbaeplbnonhkaaByV
namespace Go.Proofs.Ytnbaeplbnonhkaa
open Go.RowKit Plain Sch Bxs

theorem mx_app {M N : List (List Sd)} {i : Nat} : mx (M ++ N) i = if i < M.length then mx M i else mx N (i - M.length) := by
  unfold mx
  rw [List.getD, List.getD, List.getD]
  by_cases h : i < M.length
  · rw [if_pos h, List.getElem?_append_left h]
  · rw [if_neg h, List.getElem?_append_right (by omega)]

theorem BOwn.many {w w2 w9 : World} {B : Nat} {v v' r : Value} {M N : List (List Sd)} {us ns : List Value} (h : BOwn w B v M us) (hb : Below w.heap.size w w2) (hr : BOwn w2 w.heap.size r N ns)
    (hown : w9.ownsRow B 25 1 v' (M.length + N.length) (us ++ ns)) (hgrow : w2.grownBy w9 v.ownBlock) (hat : ∀ g, v'.ownBlock = some g → v.ownBlock = some g ∨ g = w2.heap.size) (hBw : B ≤ w.heap.size) :
    BOwn w9 B v' (M ++ N) (us ++ ns) := by
  have hul : us.length = M.length := by have := h.1.1; omega
  have hnl : ns.length = N.length := by have := hr.1.1; omega
  have hvl := World.ownsRow.lt h.1
  have hs := hb.size
  have qo : ∀ i, i < M.length → ∃ u', us[i]? = some u' ∧ QRow w9 B u' (mx M i) ∧ (∀ g, u'.ownBlock = some g → g < w.heap.size ∧ v.ownBlock ≠ some g) := fun i hi => by
    obtain ⟨u', h1, h2, h3⟩ := h.2.1 i hi
    have hlt := h2.lt
    refine ⟨u', h1, ?_, fun g e => ⟨(hlt g e).2, h3 g e⟩⟩
    obtain ⟨ty, h2⟩ := h2
    exact ⟨ty, own_beside9 (own_below2 h2 hb) hgrow (fun g' e e2 => h3 g' e e2.symm)⟩
  have qn : ∀ i, i < N.length → ∃ u', ns[i]? = some u' ∧ QRow w9 B u' (mx N i) ∧ (∀ g, u'.ownBlock = some g → w.heap.size ≤ g ∧ g < w2.heap.size ∧ v.ownBlock ≠ some g) := fun i hi => by
    obtain ⟨u', h1, h2, _⟩ := hr.2.1 i hi
    have hlt := h2.lt
    have hne : ∀ g, u'.ownBlock = some g → v.ownBlock ≠ some g := fun g e e2 => by
      have a1 := (hlt g e).1
      have a2 := (hvl g e2).2
      omega
    refine ⟨u', h1, ?_, fun g e => ⟨(hlt g e).1, (hlt g e).2, hne g e⟩⟩
    obtain ⟨ty, h2⟩ := h2
    exact ⟨ty, own_lower (own_beside9 h2 hgrow (fun g' e e2 => hne g' e e2.symm)) hBw⟩
  refine ⟨by rw [List.length_append]; exact hown, fun i hi => ?_, fun i j ui uj hij e1 e2 g' f1 f2 => ?_⟩
  · rw [List.length_append] at hi
    rw [mx_app]
    by_cases hl : i < M.length
    · obtain ⟨u', h1, h2, h3⟩ := qo i hl
      refine ⟨u', by rw [List.getElem?_append_left (by omega)]; exact h1, by rw [if_pos hl]; exact h2, fun g' e e2 => ?_⟩
      rcases hat g' e2 with h4 | h4
      · exact (h3 g' e).2 h4
      · have := (h3 g' e).1; omega
    · obtain ⟨u', h1, h2, h3⟩ := qn (i - M.length) (by omega)
      refine ⟨u', by rw [List.getElem?_append_right (by omega), hul]; exact h1, by rw [if_neg hl]; exact h2, fun g' e e2 => ?_⟩
      rcases hat g' e2 with h4 | h4
      · exact (h3 g' e).2.2 h4
      · have := (h3 g' e).2.1; omega
  · have hj : j < M.length + N.length := by
      have := (List.getElem?_eq_some_iff.1 e2).1
      rw [List.length_append] at this
      omega
    by_cases hl : j < M.length
    · rw [List.getElem?_append_left (by omega)] at e1 e2
      exact h.2.2 i j ui uj hij e1 e2 g' f1 f2
    · rw [List.getElem?_append_right (by omega), hul] at e2
      by_cases hli : i < M.length
      · rw [List.getElem?_append_left (by omega)] at e1
        obtain ⟨u1, a1, _, a3⟩ := qo i hli
        obtain ⟨u2, b1, _, b3⟩ := qn (j - M.length) (by omega)
        rw [a1] at e1
        rw [b1] at e2
        simp at e1 e2
        subst e1 e2
        have c1 := (a3 g' f1).1
        have c2 := (b3 g' f2).1
        omega
      · rw [List.getElem?_append_right (by omega), hul] at e1
        exact hr.2.2 (i - M.length) (j - M.length) ui uj (by omega) e1 e2 g' f1 f2

theorem bown_news {w : World} {B : Nat} {ao : Option Addr} {c : Nat} {M : List (List Sd)} {us : List Value} (h : BOwn w B (.slice ao M.length c) M us) : ∀ j u, us[j]? = some u → ∃ ad, ao = some ad ∧ w.cell? (ad.add j) = some u := by
  intro j u hj
  have hjl : j < M.length := by
    have h1 := (List.getElem?_eq_some_iff.1 hj).1
    have h2 := h.1.1
    omega
  rcases h.1.2 with ⟨hv, hn⟩ | ⟨g, cap, cur, hv, _⟩
  · omega
  · simp only [Value.slice.injEq, true_and] at hv
    obtain ⟨rfl, rfl⟩ := hv
    refine ⟨_, rfl, ?_⟩
    have hc := World.ownsRow.cellAt h.1 j (by omega)
    have e : Addr.add ⟨g, 0, none⟩ j = ⟨g, j, none⟩ := by
      unfold Addr.add
      by_cases h0 : j = 0
      · simp [h0]
      · simp [h0]
    rw [e, hc]
    exact hj

theorem bown_one {w : World} {B : Nat} {v : Value} {M : List (List Sd)} {us : List Value} (h : BOwn w B v M us) : ∀ u ∈ us, u.oneCell' = true := by
  intro u hu
  obtain ⟨i, hi, he⟩ := List.getElem_of_mem hu
  have hil : i < M.length := by have := h.1.1; omega
  obtain ⟨u', hu', hq, _⟩ := h.2.1 i hil
  rw [List.getElem?_eq_getElem hi, he] at hu'
  simp at hu'
  subst hu'
  obtain ⟨ty, hq⟩ := hq
  obtain ⟨a, c, rfl⟩ := SRow.slice hq
  rfl

theorem mx_map {P : List Bx} {j : Nat} (h : j < P.length) : mx (P.map Bx.list) j = (xb P j).list := by
  unfold mx xb
  rw [List.getD, List.getD, List.getElem?_map, List.getElem?_eq_getElem h]
  rfl

/-- a list of good boxes, as it lies -/
def PAt (w : World) (v : Value) (P : List Bx) : Prop :=
  ∃ ao cap, v = .slice ao P.length cap ∧ P.length ≤ cap ∧ cap ≤ maxLen ∧ ∀ i, i < P.length → ∃ g o su cu, ao = some ⟨g, o, none⟩ ∧ g < w.heap.size ∧ w.cell? ⟨g, o + i, none⟩ = some (.slice su 3 cu) ∧ SdsAt w w.heap.size (.slice su 3 cu) (xb P i).list

theorem BxsAt.pat {w : World} {v : Value} {P : List Bx} (h : BxsAt w w.heap.size v (P.map Bx.list)) : PAt w v P := by
  obtain ⟨ao, cap, hv, hc, hm, hr⟩ := h
  rw [List.length_map] at hv hc hr
  refine ⟨ao, cap, hv, hc, hm, fun i hi => ?_⟩
  obtain ⟨g, o, u, h1, h2, h3, h4⟩ := hr i hi
  rw [mx_map hi] at h4
  obtain ⟨su, cu, hu, _⟩ := id h4
  subst hu
  exact ⟨g, o, su, cu, h1, h2, h3, h4⟩

theorem PAt.below {w w' : World} {v : Value} {P : List Bx} (h : PAt w v P) (hb : Below w.heap.size w w') : PAt w' v P := by
  obtain ⟨ao, cap, hv, hc, hm, hr⟩ := h
  refine ⟨ao, cap, hv, hc, hm, fun i hi => ?_⟩
  obtain ⟨g, o, su, cu, h1, h2, h3, h4⟩ := hr i hi
  exact ⟨g, o, su, cu, h1, Nat.lt_of_lt_of_le h2 hb.size, (hb.cell (p := ⟨g, o + i, none⟩) h2).trans h3, h4.below hb⟩

/-- the product of the first j sides -/
def ppx (x : Bx) (j : Nat) : Int := if j = 0 then 1 else if j = 1 then len1 x.a else if j = 2 then len1 x.a * len1 x.b else pts x

theorem ppx_step (x : Bx) {j : Nat} (h : j < 3) : ppx x (j + 1) = ppx x j * ((sd x.list j).hi - (sd x.list j).lo + 1) := by
  match j, h with
  | 0, _ => show len1 x.a = 1 * len1 x.a; omega
  | 1, _ => rfl
  | 2, _ => rfl

theorem ppx_bound {x : Bx} (hx : okB x = true) {j : Nat} (h : j ≤ 3) : 1 ≤ ppx x j ∧ ppx x j ≤ 8012006001 := by
  have ho := (okB_iff x).1 hx
  have ha := len1_pos ho.1
  have hb := len1_pos ho.2.1
  have e1 : 1 ≤ len1 x.a * len1 x.b := mul_pos1 ha.1 hb.1
  have e2 : len1 x.a * len1 x.b ≤ 2001 * 2001 := Int.mul_le_mul ha.2 hb.2 (by omega) (by omega)
  match j, h with
  | 0, _ => show 1 ≤ (1 : Int) ∧ (1 : Int) ≤ 8012006001; omega
  | 1, _ => show 1 ≤ len1 x.a ∧ len1 x.a ≤ 8012006001; omega
  | 2, _ => show 1 ≤ len1 x.a * len1 x.b ∧ len1 x.a * len1 x.b ≤ 8012006001; omega
  | 3, _ => exact ⟨pts_pos hx, pts_le hx⟩

theorem side_bound {x : Bx} (hx : okB x = true) {j : Nat} (h : j < 3) : -1000 ≤ (sd x.list j).lo ∧ (sd x.list j).lo ≤ (sd x.list j).hi ∧ (sd x.list j).hi ≤ 1000 := by
  have ho := (okB_iff x).1 hx
  match j, h with
  | 0, _ => exact (okS_iff _).1 ho.1
  | 1, _ => exact (okS_iff _).1 ho.2.1
  | 2, _ => exact (okS_iff _).1 ho.2.2

end Go.Proofs.Ytnbaeplbnonhkaa
