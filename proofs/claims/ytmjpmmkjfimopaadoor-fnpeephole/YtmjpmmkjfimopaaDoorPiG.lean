/- slices.Delete at instructions. -/
import Derived.Test.YtmjpmmkjfimopaaDoorHn
import Derived.Deep.RegionLaw
namespace Go.Proofs.YtmjpmmkjfimopaaDoor
open Go.RowKit Plain Sch Wan Prg

theorem wpList_clear_row (w : World) {ops : Array Oper} {rest : List Oper} {o : Oper} {a : Act} {Q : Exit → Act → World → Prop} (hgd : o.guard = none) (s : Operand)
    (ho : o.op = .call { callee := .builtin .clear, args := #[s], argTypes := #[28] })
    (B g n cap m c : Nat) (xs : List Value) (hs : a.eval s = .slice (some ⟨g, n * 6, none⟩) m c) (hown : w.ownsRow B 59 6 (.slice (some ⟨g, 0, none⟩) n cap) n xs) (hm : 0 < m) (hroom : n + m ≤ cap)
    (h : ∀ w', w'.ownsRow B 59 6 (.slice (some ⟨g, 0, none⟩) n cap) n xs → w.grownBy w' (some g) → wpList Tryd.prog ops Q rest (a.put o.dst (.tuple #[])) w') : wpList Tryd.prog ops Q (o :: rest) a w :=
  wpList_plain hgd fun _ hK => by
    obtain ⟨w', hr, h2, h3⟩ := run_clear_row w B g n cap m c xs o.type hown hm hroom
    unfold Oper.wp execOp
    simp only [ho, resolve, invoke, builtin, Sem.run_bind, Sem.run_pure, Result.andThen_ok, List.map_toArray, List.map_cons, List.map_nil, hs, hr]
    exact hK _ _ (h w' h2 h3)

theorem own_prefix {w : World} {B g cap : Nat} {L : List Ins} (h : IRow w B (.slice (some ⟨g, 0, none⟩) L.length cap) L) {f : Nat} (hf : f ≤ L.length) : w.ownsRow B 59 6 (.slice (some ⟨g, 0, none⟩) f cap) f ((L.take f).flatMap Ins.cells) := by
  obtain ⟨hxl, h⟩ := h
  rcases h with ⟨h, _⟩ | ⟨g', cap', cur, h, hbg, hg, hnc, hcm, hcs, htake⟩
  · simp at h
  · simp only [Value.slice.injEq, Option.some.injEq, Addr.mk.injEq, and_true, true_and] at h
    obtain ⟨rfl, rfl⟩ := h
    refine ⟨by rw [flat6Ins_len, List.length_take, Nat.min_eq_left hf], .inr ⟨g, cap, cur, rfl, hbg, hg, by omega, hcm, hcs, ?_⟩⟩
    have e : cur.toList.take (f * 6) = (cur.toList.take (L.length * 6)).take (f * 6) := by rw [List.take_take, Nat.min_eq_left (by omega)]
    rw [e, htake]
    have e2 : L.flatMap Ins.cells = (L.take f).flatMap Ins.cells ++ (L.drop f).flatMap Ins.cells := by rw [← List.flatMap_append, List.take_append_drop]
    have hl : ((L.take f).flatMap Ins.cells).length = f * 6 := by rw [flat6Ins_len, List.length_take, Nat.min_eq_left hf]
    rw [e2, ← hl, List.take_left]

theorem news_drop {w : World} {B g cap : Nat} {L : List Ins} (h : IRow w B (.slice (some ⟨g, 0, none⟩) L.length cap) L) (q : Nat) : ∀ j u, ((L.drop q).flatMap Ins.cells)[j]? = some u → w.cell? ((⟨g, q * 6, none⟩ : Addr).add j) = some u := by
  intro j u hju
  have hjl : j < (L.length - q) * 6 := by have := (List.getElem?_eq_some_iff.1 hju).1; rw [flat6Ins_len, List.length_drop] at this; exact this
  have ha : ((⟨g, q * 6, none⟩ : Addr).add j) = ⟨g, q * 6 + j, none⟩ := by unfold Addr.add; split <;> simp_all
  rw [ha]
  unfold IRow at h
  rw [h.cellAt (q * 6 + j) (by omega)]
  have e2 : L.flatMap Ins.cells = (L.take q).flatMap Ins.cells ++ (L.drop q).flatMap Ins.cells := by rw [← List.flatMap_append, List.take_append_drop]
  have hl : ((L.take q).flatMap Ins.cells).length = q * 6 := by rw [flat6Ins_len, List.length_take, Nat.min_eq_left (by omega)]
  rw [e2, List.getElem?_append_right (by omega), hl, Nat.add_sub_cancel_left]
  exact hju

theorem onesD (T : List Ins) (q : Nat) : ∀ u ∈ (T.drop q).flatMap Ins.cells, u.oneCell' = true := by
  intro u hu
  rw [List.mem_flatMap] at hu
  obtain ⟨x, _, hx⟩ := hu
  exact one6I x.code x.kind x.no x.num x.text x.dst u hx

set_option maxRecDepth 100000 in
set_option maxHeartbeats 4000000 in
theorem delete_any (L : List Ins) (B g cap f m q : Nat) (w : World) (hq : q = f + m) (hR : IRow w B (.slice (some ⟨g, 0, none⟩) L.length cap) L) (hfm : f + m < L.length) (hm : 1 ≤ m) (h60 : L.length ≤ 60) :
    Calls Tryd.prog 107 #[.slice (some ⟨g, 0, none⟩) L.length cap, .int .i64 f, .int .i64 (q : Int)] w fun e w' => e = .returned (.slice (some ⟨g, 0, none⟩) (L.length - m) cap) ∧ IRow w' B (.slice (some ⟨g, 0, none⟩) (L.length - m) cap) (L.take f ++ L.drop q) ∧ w.grownBy w' (some g) := by
  obtain ⟨i0, hi, hz0, hz1, hz2⟩ := info_parts Tryd.infoIns
  have hcap : L.length ≤ cap ∧ cap ≤ 9223372036854775807 := by
    rcases hR.2 with ⟨h, _⟩ | ⟨g', cap', _, hv, _, _, h1, h2, _⟩
    · simp at h
    · simp at hv; unfold maxLen at h2; omega
  obtain ⟨hcl, hcm⟩ := hcap
  have HP : Hid (w.ownsRow B 59 6 (.slice (some ⟨g, 0, none⟩) f cap) f ((L.take f).flatMap Ins.cells)) := own_prefix hR (by omega)
  have HN : Hid (∀ j u, ((L.drop q).flatMap Ins.cells)[j]? = some u → w.cell? ((⟨g, q * 6, none⟩ : Addr).add j) = some u) := news_drop hR q
  have hnl : ((L.drop q).flatMap Ins.cells).length = (L.length - q) * 6 := by rw [flat6Ins_len, List.length_drop]
  have hEND : Hid (∀ w', w'.ownsRow B 59 6 (.slice (some ⟨g, 0, none⟩) (L.length - m) cap) (L.length - m) ((L.take f).flatMap Ins.cells ++ (L.drop q).flatMap Ins.cells) → IRow w' B (.slice (some ⟨g, 0, none⟩) (L.length - m) cap) (L.take f ++ L.drop q)) := fun w' h => by
    unfold IRow
    have e : (L.take f ++ L.drop q).length = L.length - m := by simp; omega
    rw [e, List.flatMap_append]
    exact h
  have hlen : f + (L.length - q) = L.length - m := by omega
  have hfI : (q : Int) < (L.length : Int) := by omega
  have hne : ((f : Int) == (q : Int)) = false := by simp; omega
  have hq2 : q < L.length := by omega
  have hq1 : q ≤ L.length := by omega
  have hq3 : ¬ cap = q := by omega
  have hq4 : f ≤ q := by omega
  have hq5 : (f : Int) ≤ (q : Int) := by omega
  have hq6 : ¬ f = q := by omega
  have hq7 : q ≤ cap := by omega
  have h63 : (L.length : Int) ≤ 60 := by omega
  have hclI : (L.length : Int) ≤ (cap : Int) := by omega
  obtain ⟨N, hN⟩ : ∃ N, N = L.length - m := ⟨_, rfl⟩
  rw [← hN] at hEND hlen ⊢
  have hNm : N + m = L.length := by omega
  have hfc : f ≤ cap := by omega
  have hfL : f ≤ L.length := by omega
  have hNc : N ≤ cap := by omega
  have hNL : N ≤ L.length := by omega
  have HNM : Hid (L.length - N = m) := by show _ = _; omega
  clear hR hN hq
  go_enter Tryd.func107, Tryd.ntmps107
  go_upto_region 5 with fail
  go_region_law
    (first
      | (refine step_append_fits rfl _ _ _ rfl B 59 i0 6 Tryd.underlying28 hi hz1 g f cap _ rfl (HP.out.drew) ⟨g, q * 6, none⟩ (L.length - q) (cap - q) ((L.drop q).flatMap Ins.cells) rfl hnl HN.out (onesD L q) (by omega) ?_; intro w9 hown9 hgrow9; rw [hlen] at hown9 ⊢))
  all_goals
    have HO9 : Hid (w9.ownsRow B 59 6 (.slice (some ⟨g, 0, none⟩) N cap) N ((L.take f).flatMap Ins.cells ++ (L.drop q).flatMap Ins.cells)) := hown9
    have HG9 : Hid (w.drew.grownBy w9 (some g)) := hgrow9
    clear hown9 hgrow9
    have hNLI : (N : Int) ≤ (L.length : Int) := by omega
    obtain ⟨w10, hr10, hown10, hgrow10⟩ := run_clear_row w9 B g N cap (L.length - N) (cap - N) _ 0 HO9.out (by omega) (by omega)
    have hE := hEND.out w10 hown10
    have hG : w.grownBy w10 (some g) := ⟨hgrow10.os.trans HG9.out.os, hgrow10.tape.trans HG9.out.tape, hgrow10.output.trans HG9.out.output, Nat.le_trans HG9.out.size hgrow10.size, fun k hk hne => (hgrow10.block k (Nat.lt_of_lt_of_le hk HG9.out.size) hne).trans (HG9.out.block k hk hne)⟩
    clear hown10 hgrow10
    go_wp2
    go_ret
    exact ⟨rfl, hE, hG⟩

end Go.Proofs.YtmjpmmkjfimopaaDoor
