/- slices.Delete of one packet, of one ack. -/
import Derived.Test.YtnlppeieccbhgaaSnAt
import Derived.Test.YtnlppeieccbhgaaSnE
import Derived.Deep.Upon
import Derived.Deep.RegionLaw
import Derived.Laws.CopyRow
import Derived.Laws.Tables
namespace Go.Proofs.Ytnlppeieccbhgaa
open Go.RowKit Plain Tpc Ssn

theorem stp_append_fits {P : Program} {ops : Array Oper} {o : Oper} {a : Act} {w : World} {K : Act → World → Prop} {Q : Exit → Act → World → Prop} {E : Prop} (hgd : o.guard = none) (s x : Operand) (t : TypeId)
    (ho : o.op = .call { callee := .builtin .append, args := #[s, x], argTypes := #[t, t] })
    (base : Nat) (e : TypeId) (i : TypeInfo) (size : Nat) (ht : P.underlying t = some (.slice e)) (hi : P.info? e = some i) (hsize : i.size = size)
    (g n cap : Nat) (xs : List Value) (hs : a.eval s = .slice (some ⟨g, 0, none⟩) n cap) (hown : w.ownsRow base e size (.slice (some ⟨g, 0, none⟩) n cap) n xs)
    (ad : Addr) (m c : Nat) (news : List Value) (hx : a.eval x = .slice (some ad) m c) (hl : news.length = m * size) (hnews : ∀ j u, news[j]? = some u → w.cell? (ad.add j) = some u) (h1 : ∀ u ∈ news, u.oneCell' = true)
    (hroom : n + m ≤ cap)
    (h : ∀ w', w'.ownsRow base e size (.slice (some ⟨g, 0, none⟩) (n + m) cap) (n + m) (xs ++ news) → w.grownBy w' (some g) → K (a.put o.dst (.slice (some ⟨g, 0, none⟩) (n + m) cap)) w') :
    if Region.wanted o (yielded ops a.tmps) = true then Oper.wp P o a w K Q else E := by
  have hw : Region.wanted o (yielded ops a.tmps) = true := by simp [Region.wanted, hgd]
  rw [if_pos hw]
  obtain ⟨w', hr, h2, h3⟩ := run_append_fits (P := P) w base t o.type e i size ht hi hsize g n cap xs hown ad m c news hl hnews h1 hroom
  unfold Oper.wp execOp
  simp only [ho, resolve, invoke, builtin, Sem.run_bind, Sem.run_pure, Result.andThen_ok, List.map_toArray, List.map_cons, List.map_nil, hs, hx, hr]
  exact h w' h2 h3

/-- nothing is appended -/
theorem stp_append_none {P : Program} {ops : Array Oper} {o : Oper} {a : Act} {w : World} {K : Act → World → Prop} {Q : Exit → Act → World → Prop} {E : Prop} (hgd : o.guard = none) (s x : Operand) (t : TypeId)
    (ho : o.op = .call { callee := .builtin .append, args := #[s, x], argTypes := #[t, t] })
    (e : TypeId) (i : TypeInfo) (ht : P.underlying t = some (.slice e)) (hi : P.info? e = some i)
    (ar : Option Addr) (n cap : Nat) (hs : a.eval s = .slice ar n cap) (hnc : n ≤ cap)
    (ao : Option Addr) (m c : Nat) (hx : a.eval x = .slice ao m c) (hm : m = 0)
    (h : K (a.put o.dst (.slice ar n cap)) w) :
    if Region.wanted o (yielded ops a.tmps) = true then Oper.wp P o a w K Q else E := by
  have hw : Region.wanted o (yielded ops a.tmps) = true := by simp [Region.wanted, hgd]
  rw [if_pos hw]
  subst hm
  have hsrc : Src P i.size t (.slice ao 0 c) 0 [] w := ⟨.inl ⟨_, ht⟩, fun _ => by simp [Builtin.lenOf], by cases ao <;> simp [Builtin.firstCells, loadCells, loadCellsFrom], by cases ao <;> simp [Builtin.firstCells, loadCells, loadCellsFrom], by simp, fun u hu => by simp at hu⟩
  have hr := run_append_nothing w t t o.type e i ht hi ar n cap hnc _ hsrc
  unfold Oper.wp execOp
  simp only [ho, resolve, invoke, builtin, Sem.run_bind, Sem.run_pure, Result.andThen_ok, List.map_toArray, List.map_cons, List.map_nil, hs, hx, hr]
  exact h

theorem zcl {z : Array Value} (n : Nat) : (Builtin.zeroCells z n).toList.length = n * z.size := by simp [Builtin.zeroCells]

theorem zcPk_one (n : Nat) : ∀ u ∈ (Builtin.zeroCells #[Value.int .i64 0, .int .i64 0, .string ⟨#[]⟩] n).toList, u.oneCell' = true := by
  intro u hu
  simp only [Builtin.zeroCells, Array.toList_map, List.mem_map] at hu
  obtain ⟨i, _, rfl⟩ := hu
  have hz : (#[Value.int .i64 0, .int .i64 0, .string ⟨#[]⟩] : Array Value).size = 3 := rfl
  rw [hz]
  have h6 : i % 3 < 3 := Nat.mod_lt _ (by omega)
  generalize i % 3 = r at h6 ⊢
  match r, h6 with
  | 0, _ | 1, _ | 2, _ => rfl
  | n + 3, h => exact absurd h (by omega)

theorem clearPk_row (w : World) (B g n cap m c : Nat) (xs : List Value) (ty : TypeId) (hown : w.ownsRow B 84 3 (.slice (some ⟨g, 0, none⟩) n cap) n xs) (hm : 0 < m) (hroom : n + m ≤ cap) :
    ∃ w', (Builtin.clear_ #[23] ty #[.slice (some ⟨g, n * 3, none⟩) m c]).run Try.prog w = .ok (.tuple #[]) w' ∧ w'.ownsRow B 84 3 (.slice (some ⟨g, 0, none⟩) n cap) n xs ∧ w.grownBy w' (some g) := by
  obtain ⟨hxl, h⟩ := hown
  rcases h with ⟨h, _⟩ | ⟨g', cap', cur, h, hbg, hg, hnc, hcm, hcs, htake⟩
  · simp at h
  · simp only [Value.slice.injEq, Option.some.injEq, Addr.mk.injEq, and_true, true_and] at h
    obtain ⟨rfl, rfl⟩ := h
    obtain ⟨zs, hzs⟩ : ∃ zs, zs = (Builtin.zeroCells #[Value.int .i64 0, .int .i64 0, .string ⟨#[]⟩] m).toList := ⟨_, rfl⟩
    have hl : zs.length = m * 3 := by rw [hzs, zcl]; rfl
    have h1 : ∀ u ∈ zs, u.oneCell' = true := by rw [hzs]; exact zcPk_one m
    have hst := run_storeCells_at (P := Try.prog) g (n * 3) 84 zs 0 cur w hg (by rw [hl]; simp; omega) h1
    simp only [Nat.add_zero] at hst
    obtain ⟨m', rfl⟩ : ∃ m', m = m' + 1 := ⟨m - 1, by omega⟩
    refine ⟨w.setRow g (cur.toList.take (n * 3) ++ zs ++ cur.toList.drop (n * 3 + zs.length)).toArray, ?_, ⟨hxl, .inr ⟨g, cap, _, rfl, hbg, setRow_heap w g cur _ 84 _ hg, hnc, hcm, ?_, ?_⟩⟩, ⟨rfl, rfl, rfl, by simp, fun k _ hk => setRow_other w g k _ (fun e => hk (by simp [e]))⟩⟩
    · simp [Builtin.clear_, run_underlying Try.underlying23, Try.zeroValue84, Value.cells, ← hzs, hst]
    · simp only [List.size_toArray, List.length_append, List.length_take, List.length_drop, Array.length_toList, hl]
      omega
    · rw [← htake]
      show List.take (n * 3) (cur.toList.take (n * 3) ++ zs ++ cur.toList.drop (n * 3 + zs.length)) = _
      rw [List.append_assoc, List.take_append_of_le_length (by simp; omega), List.take_take, Nat.min_self]

theorem prefixPk {w : World} {B g cap : Nat} {L : List Pk} (h : PkRow w B (.slice (some ⟨g, 0, none⟩) L.length cap) L) {f : Nat} (hf : f ≤ L.length) : w.ownsRow B 84 3 (.slice (some ⟨g, 0, none⟩) f cap) f ((L.take f).flatMap Pk.cells) := by
  obtain ⟨hxl, h⟩ := h
  rcases h with ⟨h, _⟩ | ⟨g', cap', cur, h, hbg, hg, hnc, hcm, hcs, htake⟩
  · simp at h
  · simp only [Value.slice.injEq, Option.some.injEq, Addr.mk.injEq, and_true, true_and] at h
    obtain ⟨rfl, rfl⟩ := h
    refine ⟨by rw [flatPk_len, List.length_take, Nat.min_eq_left hf], .inr ⟨g, cap, cur, rfl, hbg, hg, by omega, hcm, hcs, ?_⟩⟩
    have e : cur.toList.take (f * 3) = (cur.toList.take (L.length * 3)).take (f * 3) := by rw [List.take_take, Nat.min_eq_left (by omega)]
    rw [e, htake]
    have e2 : L.flatMap Pk.cells = (L.take f).flatMap Pk.cells ++ (L.drop f).flatMap Pk.cells := by rw [← List.flatMap_append, List.take_append_drop]
    have hl : ((L.take f).flatMap Pk.cells).length = f * 3 := by rw [flatPk_len, List.length_take, Nat.min_eq_left hf]
    rw [e2, ← hl, List.take_left]

theorem newsdropPk {w : World} {B g cap : Nat} {L : List Pk} (h : PkRow w B (.slice (some ⟨g, 0, none⟩) L.length cap) L) (q : Nat) : ∀ j u, ((L.drop q).flatMap Pk.cells)[j]? = some u → w.cell? ((⟨g, q * 3, none⟩ : Addr).add j) = some u := by
  intro j u hju
  have hjl : j < (L.length - q) * 3 := by have := (List.getElem?_eq_some_iff.1 hju).1; rw [flatPk_len, List.length_drop] at this; exact this
  have ha : ((⟨g, q * 3, none⟩ : Addr).add j) = ⟨g, q * 3 + j, none⟩ := by unfold Addr.add; split <;> simp_all
  rw [ha]
  unfold PkRow at h
  rw [h.cellAt (q * 3 + j) (by omega)]
  have e2 : L.flatMap Pk.cells = (L.take q).flatMap Pk.cells ++ (L.drop q).flatMap Pk.cells := by rw [← List.flatMap_append, List.take_append_drop]
  have hl : ((L.take q).flatMap Pk.cells).length = q * 3 := by rw [flatPk_len, List.length_take, Nat.min_eq_left (by omega)]
  rw [e2, List.getElem?_append_right (by omega), hl, Nat.add_sub_cancel_left]
  exact hju

set_option maxRecDepth 100000 in
set_option maxHeartbeats 4000000 in
theorem deletePk_any (L : List Pk) (B g cap f q : Nat) (w : World) (hq : q = f + 1) (hR : PkRow w B (.slice (some ⟨g, 0, none⟩) L.length cap) L) (hfm : f < L.length) (h60 : L.length ≤ 60) :
    Calls Try.prog 114 #[.slice (some ⟨g, 0, none⟩) L.length cap, .int .i64 f, .int .i64 (q : Int)] w fun e w' => e = .returned (.slice (some ⟨g, 0, none⟩) (L.length - 1) cap) ∧ PkRow w' B (.slice (some ⟨g, 0, none⟩) (L.length - 1) cap) (L.take f ++ L.drop q) ∧ w.grownBy w' (some g) := by
  obtain ⟨i0, hi, hz0, hz1, hz2⟩ := info_parts Try.infoPk
  have hcap : L.length ≤ cap ∧ cap ≤ 9223372036854775807 := by
    rcases hR.2 with ⟨h, _⟩ | ⟨g', cap', _, hv, _, _, h1, h2, _⟩
    · simp at h
    · simp at hv; unfold maxLen at h2; omega
  obtain ⟨hcl, hcm⟩ := hcap
  have HP : Hid (w.ownsRow B 84 3 (.slice (some ⟨g, 0, none⟩) f cap) f ((L.take f).flatMap Pk.cells)) := prefixPk hR (by omega)
  have HN : Hid (∀ j u, ((L.drop q).flatMap Pk.cells)[j]? = some u → w.cell? ((⟨g, q * 3, none⟩ : Addr).add j) = some u) := newsdropPk hR q
  have hnl : ((L.drop q).flatMap Pk.cells).length = (L.length - q) * 3 := by rw [flatPk_len, List.length_drop]
  have hEND : Hid (∀ w', w'.ownsRow B 84 3 (.slice (some ⟨g, 0, none⟩) (L.length - 1) cap) (L.length - 1) ((L.take f).flatMap Pk.cells ++ (L.drop q).flatMap Pk.cells) → PkRow w' B (.slice (some ⟨g, 0, none⟩) (L.length - 1) cap) (L.take f ++ L.drop q)) := fun w' h => by
    unfold PkRow
    have e : (L.take f ++ L.drop q).length = L.length - 1 := by simp; omega
    rw [e, List.flatMap_append]
    exact h
  have hlen : f + (L.length - q) = L.length - 1 := by omega
  have hfI : (q : Int) ≤ (L.length : Int) := by omega
  have hne : ((f : Int) == (q : Int)) = false := by simp; omega
  have hq1 : q ≤ L.length := by omega
  have hq4 : f ≤ q := by omega
  have hq5 : (f : Int) ≤ (q : Int) := by omega
  have hq6 : ¬ f = q := by omega
  have hq7 : q ≤ cap := by omega
  have h63 : (L.length : Int) ≤ 60 := by omega
  have hclI : (L.length : Int) ≤ (cap : Int) := by omega
  obtain ⟨N, hN⟩ : ∃ N, N = L.length - 1 := ⟨_, rfl⟩
  rw [← hN] at hEND hlen ⊢
  have HNm : Hid (N + 1 = L.length) := by show _ = _; omega
  have hfc : f ≤ cap := by omega
  have hfL : f ≤ L.length := by omega
  have hNc : N ≤ cap := by omega
  have hNL : N ≤ L.length := by omega
  by_cases hq2 : q < L.length
  · have hq3 : ¬ cap = q := by omega
    clear hR hN hq
    go_enter Try.func114, Try.ntmps114
    go_upto_region 5 with fail
    refine wpE_begin (fun _ => True) 7 (by kernel_rfl) ?_
    have hSS : (fun _ : World => True) w.drew := trivial
    refine wpE_take 0 (oi := { dst := some 20, op := Op.move (Operand.tmp 0), type := 23, pos := "slices.go:232", after := #[], guard := none }) ?vqn0 rfl (by kernel_rfl) (by kernel_rfl) (by kernel_rfl) (by kernel_rfl) (fun _ _ _ h => h) (Or.inl ⟨by rfl, ?hyn0⟩) trivial ?restn0
    case hyn0 =>
      first
        | (intro w hSw; go_simp; done)
        | (intro w hSw; go_simp; with_reducible rfl)
    try simp only [Act.put, List.setIfInBounds_toArray, List.set_cons_zero, List.set_cons_succ]
    refine wpE_take 3 (oi := { dst := some 23, op := Op.move (Operand.tmp 0), type := 23, pos := "slices.go:232", after := #[], guard := none }) ?vqn1 rfl (by kernel_rfl) (by kernel_rfl) (by kernel_rfl) (by kernel_rfl) (fun _ _ _ h => h) (Or.inl ⟨by rfl, ?hyn1⟩) trivial ?restn1
    case hyn1 =>
      first
        | (intro w hSw; go_simp; done)
        | (intro w hSw; go_simp; with_reducible rfl)
    try simp only [Act.put, List.setIfInBounds_toArray, List.set_cons_zero, List.set_cons_succ]
    refine wpE_take 1 (oi := { dst := some 21, op := Op.move (Operand.tmp 1), type := 3, pos := "slices.go:232", after := #[], guard := none }) ?vqn2 rfl (by kernel_rfl) (by kernel_rfl) (by kernel_rfl) (by kernel_rfl) (fun _ _ _ h => h) (Or.inl ⟨by rfl, ?hyn2⟩) trivial ?restn2
    case hyn2 =>
      first
        | (intro w hSw; go_simp; done)
        | (intro w hSw; go_simp; with_reducible rfl)
    try simp only [Act.put, List.setIfInBounds_toArray, List.set_cons_zero, List.set_cons_succ]
    refine wpE_take 4 (oi := { dst := some 24, op := Op.move (Operand.tmp 2), type := 3, pos := "slices.go:232", after := #[], guard := none }) ?vqn3 rfl (by kernel_rfl) (by kernel_rfl) (by kernel_rfl) (by kernel_rfl) (fun _ _ _ h => h) (Or.inl ⟨by rfl, ?hyn3⟩) trivial ?restn3
    case hyn3 =>
      first
        | (intro w hSw; go_simp; done)
        | (intro w hSw; go_simp; with_reducible rfl)
    try simp only [Act.put, List.setIfInBounds_toArray, List.set_cons_zero, List.set_cons_succ]
    refine wpE_take 2 (oi := { dst := some 22, op := Op.slice 23 (Operand.tmp 20) none (some (Operand.tmp 21)) none, type := 23, pos := "slices.go:232", after := #[{ on := 0, ground := Ground.data }, { on := 1, ground := Ground.data }], guard := none }) ?vqn4 rfl (by kernel_rfl) (by kernel_rfl) (by kernel_rfl) (by kernel_rfl) (fun _ _ _ h => h) (Or.inl ⟨by rfl, ?hyn4⟩) trivial ?restn4
    case hyn4 =>
      first
        | (intro w hSw; go_simp; done)
        | (intro w hSw; go_simp; with_reducible rfl)
    try simp only [Act.put, List.setIfInBounds_toArray, List.set_cons_zero, List.set_cons_succ]
    refine wpE_take 5 (oi := { dst := some 25, op := Op.slice 23 (Operand.tmp 23) (some (Operand.tmp 24)) none none, type := 23, pos := "slices.go:232", after := #[{ on := 3, ground := Ground.data }, { on := 4, ground := Ground.data }], guard := none }) ?vqn5 rfl (by kernel_rfl) (by kernel_rfl) (by kernel_rfl) (by kernel_rfl) (fun _ _ _ h => h) (Or.inl ⟨by rfl, ?hyn5⟩) trivial ?restn5
    case hyn5 =>
      first
        | (intro w hSw; go_simp; done)
        | (intro w hSw; go_simp; with_reducible rfl)
    try simp only [Act.put, List.setIfInBounds_toArray, List.set_cons_zero, List.set_cons_succ]
    refine wpE_one 6 (o := { dst := some 26, op := Op.call { callee := Callee.builtin Builtin.append, args := #[Operand.tmp 22, Operand.tmp 25], argTypes := #[23, 23] }, type := 23, pos := "slices.go:232", after := #[{ on := 2, ground := Ground.data }, { on := 5, ground := Ground.data }], guard := none }) (by kernel_rfl) rfl (fun K hK => ?_)
    refine stp_append_fits rfl _ _ _ rfl B 84 i0 3 Try.underlying23 hi hz1 g f cap _ rfl (HP.out.drew) ⟨g, q * 3, none⟩ (L.length - q) (cap - q) ((L.drop q).flatMap Pk.cells) rfl hnl HN.out (onesPk (L.drop q)) (by omega) ?_
    intro w9 hown9 hgrow9
    rw [hlen] at hown9 ⊢
    refine hK.out _ _ (fun h => trivial) ?_
    clear hK K
    try simp only [Act.put, List.setIfInBounds_toArray, List.set_cons_zero, List.set_cons_succ]
    refine wpE_one 7 (o := { dst := some 0, op := Op.assign (Operand.tmp 26), type := 23, pos := "slices.go:232", after := #[{ on := 6, ground := Ground.data }, { on := 6, ground := Ground.chain }, { on := 0, ground := Ground.phase }, { on := 1, ground := Ground.phase }, { on := 2, ground := Ground.phase }, { on := 3, ground := Ground.phase }, { on := 4, ground := Ground.phase }, { on := 5, ground := Ground.phase }, { on := 6, ground := Ground.phase }], guard := none }) (by kernel_rfl) rfl (fun K hK => ?_)
    go_simp
    refine hK.out _ _ (fun h => trivial) ?_
    clear hK K hSS
    try simp only [Act.put, List.setIfInBounds_toArray, List.set_cons_zero, List.set_cons_succ]
    refine wpE_done (by kernel_rfl) ?_ _
    have HO9 : Hid (w9.ownsRow B 84 3 (.slice (some ⟨g, 0, none⟩) N cap) N ((L.take f).flatMap Pk.cells ++ (L.drop q).flatMap Pk.cells)) := hown9
    have HG9 : Hid (w.drew.grownBy w9 (some g)) := hgrow9
    clear hown9 hgrow9
    have hNLI : (N : Int) ≤ (L.length : Int) := by omega
    obtain ⟨w10, hr10, hown10, hgrow10⟩ := clearPk_row w9 B g N cap (L.length - N) (cap - N) _ 0 HO9.out (by have := HNm.out; omega) (by have := HNm.out; omega)
    have hE := hEND.out w10 hown10
    have hG : w.grownBy w10 (some g) := ⟨hgrow10.os.trans HG9.out.os, hgrow10.tape.trans HG9.out.tape, hgrow10.output.trans HG9.out.output, Nat.le_trans HG9.out.size hgrow10.size, fun k hk hne => (hgrow10.block k (Nat.lt_of_lt_of_le hk HG9.out.size) hne).trans (HG9.out.block k hk hne)⟩
    clear hown10 hgrow10
    go_wp2
    go_ret
    exact ⟨rfl, hE, hG⟩
  · have HLAST : Hid (f = N) := by show _ = _; have := HNm.out; omega
    by_cases hq3 : cap = q
    · have hq9 := hq3.symm
      clear hR hN hq hq3
      subst hq9
      go_enter Try.func114, Try.ntmps114
      go_upto_region 5 with fail
      refine wpE_begin (fun _ => True) 7 (by kernel_rfl) ?_
      have hSS : (fun _ : World => True) w.drew := trivial
      refine wpE_take 0 (oi := { dst := some 20, op := Op.move (Operand.tmp 0), type := 23, pos := "slices.go:232", after := #[], guard := none }) ?vqp0 rfl (by kernel_rfl) (by kernel_rfl) (by kernel_rfl) (by kernel_rfl) (fun _ _ _ h => h) (Or.inl ⟨by rfl, ?hyp0⟩) trivial ?restp0
      case hyp0 =>
        first
          | (intro w hSw; go_simp; done)
          | (intro w hSw; go_simp; with_reducible rfl)
      try simp only [Act.put, List.setIfInBounds_toArray, List.set_cons_zero, List.set_cons_succ]
      refine wpE_take 3 (oi := { dst := some 23, op := Op.move (Operand.tmp 0), type := 23, pos := "slices.go:232", after := #[], guard := none }) ?vqp1 rfl (by kernel_rfl) (by kernel_rfl) (by kernel_rfl) (by kernel_rfl) (fun _ _ _ h => h) (Or.inl ⟨by rfl, ?hyp1⟩) trivial ?restp1
      case hyp1 =>
        first
          | (intro w hSw; go_simp; done)
          | (intro w hSw; go_simp; with_reducible rfl)
      try simp only [Act.put, List.setIfInBounds_toArray, List.set_cons_zero, List.set_cons_succ]
      refine wpE_take 1 (oi := { dst := some 21, op := Op.move (Operand.tmp 1), type := 3, pos := "slices.go:232", after := #[], guard := none }) ?vqp2 rfl (by kernel_rfl) (by kernel_rfl) (by kernel_rfl) (by kernel_rfl) (fun _ _ _ h => h) (Or.inl ⟨by rfl, ?hyp2⟩) trivial ?restp2
      case hyp2 =>
        first
          | (intro w hSw; go_simp; done)
          | (intro w hSw; go_simp; with_reducible rfl)
      try simp only [Act.put, List.setIfInBounds_toArray, List.set_cons_zero, List.set_cons_succ]
      refine wpE_take 4 (oi := { dst := some 24, op := Op.move (Operand.tmp 2), type := 3, pos := "slices.go:232", after := #[], guard := none }) ?vqp3 rfl (by kernel_rfl) (by kernel_rfl) (by kernel_rfl) (by kernel_rfl) (fun _ _ _ h => h) (Or.inl ⟨by rfl, ?hyp3⟩) trivial ?restp3
      case hyp3 =>
        first
          | (intro w hSw; go_simp; done)
          | (intro w hSw; go_simp; with_reducible rfl)
      try simp only [Act.put, List.setIfInBounds_toArray, List.set_cons_zero, List.set_cons_succ]
      refine wpE_take 2 (oi := { dst := some 22, op := Op.slice 23 (Operand.tmp 20) none (some (Operand.tmp 21)) none, type := 23, pos := "slices.go:232", after := #[{ on := 0, ground := Ground.data }, { on := 1, ground := Ground.data }], guard := none }) ?vqp4 rfl (by kernel_rfl) (by kernel_rfl) (by kernel_rfl) (by kernel_rfl) (fun _ _ _ h => h) (Or.inl ⟨by rfl, ?hyp4⟩) trivial ?restp4
      case hyp4 =>
        first
          | (intro w hSw; go_simp; done)
          | (intro w hSw; go_simp; with_reducible rfl)
      try simp only [Act.put, List.setIfInBounds_toArray, List.set_cons_zero, List.set_cons_succ]
      refine wpE_take 5 (oi := { dst := some 25, op := Op.slice 23 (Operand.tmp 23) (some (Operand.tmp 24)) none none, type := 23, pos := "slices.go:232", after := #[{ on := 3, ground := Ground.data }, { on := 4, ground := Ground.data }], guard := none }) ?vqp5 rfl (by kernel_rfl) (by kernel_rfl) (by kernel_rfl) (by kernel_rfl) (fun _ _ _ h => h) (Or.inl ⟨by rfl, ?hyp5⟩) trivial ?restp5
      case hyp5 =>
        first
          | (intro w hSw; go_simp; done)
          | (intro w hSw; go_simp; with_reducible rfl)
      try simp only [Act.put, List.setIfInBounds_toArray, List.set_cons_zero, List.set_cons_succ]
      refine wpE_one 6 (o := { dst := some 26, op := Op.call { callee := Callee.builtin Builtin.append, args := #[Operand.tmp 22, Operand.tmp 25], argTypes := #[23, 23] }, type := 23, pos := "slices.go:232", after := #[{ on := 2, ground := Ground.data }, { on := 5, ground := Ground.data }], guard := none }) (by kernel_rfl) rfl (fun K hK => ?_)
      refine stp_append_none rfl _ _ _ rfl 84 i0 Try.underlying23 hi _ f q rfl (by omega) _ _ _ rfl (by omega) ?_
      have hlast : f = N := HLAST.out
      refine hK.out _ _ (fun h => trivial) ?_
      clear hK K
      try simp only [Act.put, List.setIfInBounds_toArray, List.set_cons_zero, List.set_cons_succ]
      refine wpE_one 7 (o := { dst := some 0, op := Op.assign (Operand.tmp 26), type := 23, pos := "slices.go:232", after := #[{ on := 6, ground := Ground.data }, { on := 6, ground := Ground.chain }, { on := 0, ground := Ground.phase }, { on := 1, ground := Ground.phase }, { on := 2, ground := Ground.phase }, { on := 3, ground := Ground.phase }, { on := 4, ground := Ground.phase }, { on := 5, ground := Ground.phase }, { on := 6, ground := Ground.phase }], guard := none }) (by kernel_rfl) rfl (fun K hK => ?_)
      go_simp
      refine hK.out _ _ (fun h => trivial) ?_
      clear hK K hSS
      try simp only [Act.put, List.setIfInBounds_toArray, List.set_cons_zero, List.set_cons_succ]
      refine wpE_done (by kernel_rfl) ?_ _
      (try rw [hlast])
      obtain ⟨w9, hw9⟩ : ∃ W, W = w.drew := ⟨_, rfl⟩
      rw [← hw9]
      have HO9 : Hid (w9.ownsRow B 84 3 (.slice (some ⟨g, 0, none⟩) N q) N ((L.take f).flatMap Pk.cells ++ (L.drop q).flatMap Pk.cells)) := by
        have h := HP.out.drew
        rw [hlast, ← hw9] at h
        rw [List.drop_eq_nil_of_le (by omega), List.flatMap_nil, List.append_nil, ← hlast]
        rw [← hlast] at h
        exact h
      have HG9 : Hid (w.drew.grownBy w9 (some g)) := by rw [hw9]; exact World.grownBy.refl _ _
      clear hw9 hlast
      have hNLI : (N : Int) ≤ (L.length : Int) := by omega
      obtain ⟨w10, hr10, hown10, hgrow10⟩ := clearPk_row w9 B g N q (L.length - N) (q - N) _ 0 HO9.out (by have := HNm.out; omega) (by have := HNm.out; omega)
      have hE := hEND.out w10 hown10
      have hG : w.grownBy w10 (some g) := ⟨hgrow10.os.trans HG9.out.os, hgrow10.tape.trans HG9.out.tape, hgrow10.output.trans HG9.out.output, Nat.le_trans HG9.out.size hgrow10.size, fun k hk hne => (hgrow10.block k (Nat.lt_of_lt_of_le hk HG9.out.size) hne).trans (HG9.out.block k hk hne)⟩
      clear hown10 hgrow10
      go_wp2
      go_ret
      exact ⟨rfl, hE, hG⟩
    · clear hR hN hq
      go_enter Try.func114, Try.ntmps114
      go_upto_region 5 with fail
      refine wpE_begin (fun _ => True) 7 (by kernel_rfl) ?_
      have hSS : (fun _ : World => True) w.drew := trivial
      refine wpE_take 0 (oi := { dst := some 20, op := Op.move (Operand.tmp 0), type := 23, pos := "slices.go:232", after := #[], guard := none }) ?vqr0 rfl (by kernel_rfl) (by kernel_rfl) (by kernel_rfl) (by kernel_rfl) (fun _ _ _ h => h) (Or.inl ⟨by rfl, ?hyr0⟩) trivial ?restr0
      case hyr0 =>
        first
          | (intro w hSw; go_simp; done)
          | (intro w hSw; go_simp; with_reducible rfl)
      try simp only [Act.put, List.setIfInBounds_toArray, List.set_cons_zero, List.set_cons_succ]
      refine wpE_take 3 (oi := { dst := some 23, op := Op.move (Operand.tmp 0), type := 23, pos := "slices.go:232", after := #[], guard := none }) ?vqr1 rfl (by kernel_rfl) (by kernel_rfl) (by kernel_rfl) (by kernel_rfl) (fun _ _ _ h => h) (Or.inl ⟨by rfl, ?hyr1⟩) trivial ?restr1
      case hyr1 =>
        first
          | (intro w hSw; go_simp; done)
          | (intro w hSw; go_simp; with_reducible rfl)
      try simp only [Act.put, List.setIfInBounds_toArray, List.set_cons_zero, List.set_cons_succ]
      refine wpE_take 1 (oi := { dst := some 21, op := Op.move (Operand.tmp 1), type := 3, pos := "slices.go:232", after := #[], guard := none }) ?vqr2 rfl (by kernel_rfl) (by kernel_rfl) (by kernel_rfl) (by kernel_rfl) (fun _ _ _ h => h) (Or.inl ⟨by rfl, ?hyr2⟩) trivial ?restr2
      case hyr2 =>
        first
          | (intro w hSw; go_simp; done)
          | (intro w hSw; go_simp; with_reducible rfl)
      try simp only [Act.put, List.setIfInBounds_toArray, List.set_cons_zero, List.set_cons_succ]
      refine wpE_take 4 (oi := { dst := some 24, op := Op.move (Operand.tmp 2), type := 3, pos := "slices.go:232", after := #[], guard := none }) ?vqr3 rfl (by kernel_rfl) (by kernel_rfl) (by kernel_rfl) (by kernel_rfl) (fun _ _ _ h => h) (Or.inl ⟨by rfl, ?hyr3⟩) trivial ?restr3
      case hyr3 =>
        first
          | (intro w hSw; go_simp; done)
          | (intro w hSw; go_simp; with_reducible rfl)
      try simp only [Act.put, List.setIfInBounds_toArray, List.set_cons_zero, List.set_cons_succ]
      refine wpE_take 2 (oi := { dst := some 22, op := Op.slice 23 (Operand.tmp 20) none (some (Operand.tmp 21)) none, type := 23, pos := "slices.go:232", after := #[{ on := 0, ground := Ground.data }, { on := 1, ground := Ground.data }], guard := none }) ?vqr4 rfl (by kernel_rfl) (by kernel_rfl) (by kernel_rfl) (by kernel_rfl) (fun _ _ _ h => h) (Or.inl ⟨by rfl, ?hyr4⟩) trivial ?restr4
      case hyr4 =>
        first
          | (intro w hSw; go_simp; done)
          | (intro w hSw; go_simp; with_reducible rfl)
      try simp only [Act.put, List.setIfInBounds_toArray, List.set_cons_zero, List.set_cons_succ]
      refine wpE_take 5 (oi := { dst := some 25, op := Op.slice 23 (Operand.tmp 23) (some (Operand.tmp 24)) none none, type := 23, pos := "slices.go:232", after := #[{ on := 3, ground := Ground.data }, { on := 4, ground := Ground.data }], guard := none }) ?vqr5 rfl (by kernel_rfl) (by kernel_rfl) (by kernel_rfl) (by kernel_rfl) (fun _ _ _ h => h) (Or.inl ⟨by rfl, ?hyr5⟩) trivial ?restr5
      case hyr5 =>
        first
          | (intro w hSw; go_simp; done)
          | (intro w hSw; go_simp; with_reducible rfl)
      try simp only [Act.put, List.setIfInBounds_toArray, List.set_cons_zero, List.set_cons_succ]
      refine wpE_one 6 (o := { dst := some 26, op := Op.call { callee := Callee.builtin Builtin.append, args := #[Operand.tmp 22, Operand.tmp 25], argTypes := #[23, 23] }, type := 23, pos := "slices.go:232", after := #[{ on := 2, ground := Ground.data }, { on := 5, ground := Ground.data }], guard := none }) (by kernel_rfl) rfl (fun K hK => ?_)
      refine stp_append_none rfl _ _ _ rfl 84 i0 Try.underlying23 hi _ f cap rfl (by omega) _ _ _ rfl (by omega) ?_
      have hlast : f = N := HLAST.out
      refine hK.out _ _ (fun h => trivial) ?_
      clear hK K
      try simp only [Act.put, List.setIfInBounds_toArray, List.set_cons_zero, List.set_cons_succ]
      refine wpE_one 7 (o := { dst := some 0, op := Op.assign (Operand.tmp 26), type := 23, pos := "slices.go:232", after := #[{ on := 6, ground := Ground.data }, { on := 6, ground := Ground.chain }, { on := 0, ground := Ground.phase }, { on := 1, ground := Ground.phase }, { on := 2, ground := Ground.phase }, { on := 3, ground := Ground.phase }, { on := 4, ground := Ground.phase }, { on := 5, ground := Ground.phase }, { on := 6, ground := Ground.phase }], guard := none }) (by kernel_rfl) rfl (fun K hK => ?_)
      go_simp
      refine hK.out _ _ (fun h => trivial) ?_
      clear hK K hSS
      try simp only [Act.put, List.setIfInBounds_toArray, List.set_cons_zero, List.set_cons_succ]
      refine wpE_done (by kernel_rfl) ?_ _
      (try rw [hlast])
      obtain ⟨w9, hw9⟩ : ∃ W, W = w.drew := ⟨_, rfl⟩
      rw [← hw9]
      have HO9 : Hid (w9.ownsRow B 84 3 (.slice (some ⟨g, 0, none⟩) N cap) N ((L.take f).flatMap Pk.cells ++ (L.drop q).flatMap Pk.cells)) := by
        have h := HP.out.drew
        rw [hlast, ← hw9] at h
        rw [List.drop_eq_nil_of_le (by omega), List.flatMap_nil, List.append_nil, ← hlast]
        rw [← hlast] at h
        exact h
      have HG9 : Hid (w.drew.grownBy w9 (some g)) := by rw [hw9]; exact World.grownBy.refl _ _
      clear hw9 hlast
      have hNLI : (N : Int) ≤ (L.length : Int) := by omega
      obtain ⟨w10, hr10, hown10, hgrow10⟩ := clearPk_row w9 B g N cap (L.length - N) (cap - N) _ 0 HO9.out (by have := HNm.out; omega) (by have := HNm.out; omega)
      have hE := hEND.out w10 hown10
      have hG : w.grownBy w10 (some g) := ⟨hgrow10.os.trans HG9.out.os, hgrow10.tape.trans HG9.out.tape, hgrow10.output.trans HG9.out.output, Nat.le_trans HG9.out.size hgrow10.size, fun k hk hne => (hgrow10.block k (Nat.lt_of_lt_of_le hk HG9.out.size) hne).trans (HG9.out.block k hk hne)⟩
      clear hown10 hgrow10
      go_wp2
      go_ret
      exact ⟨rfl, hE, hG⟩

theorem zcAk_one (n : Nat) : ∀ u ∈ (Builtin.zeroCells #[Value.int .i64 0, .int .i64 0] n).toList, u.oneCell' = true := by
  intro u hu
  simp only [Builtin.zeroCells, Array.toList_map, List.mem_map] at hu
  obtain ⟨i, _, rfl⟩ := hu
  have hz : (#[Value.int .i64 0, .int .i64 0] : Array Value).size = 2 := rfl
  rw [hz]
  have h6 : i % 2 < 2 := Nat.mod_lt _ (by omega)
  generalize i % 2 = r at h6 ⊢
  match r, h6 with
  | 0, _ | 1, _ => rfl
  | n + 2, h => exact absurd h (by omega)

theorem clearAk_row (w : World) (B g n cap m c : Nat) (xs : List Value) (ty : TypeId) (hown : w.ownsRow B 86 2 (.slice (some ⟨g, 0, none⟩) n cap) n xs) (hm : 0 < m) (hroom : n + m ≤ cap) :
    ∃ w', (Builtin.clear_ #[24] ty #[.slice (some ⟨g, n * 2, none⟩) m c]).run Try.prog w = .ok (.tuple #[]) w' ∧ w'.ownsRow B 86 2 (.slice (some ⟨g, 0, none⟩) n cap) n xs ∧ w.grownBy w' (some g) := by
  obtain ⟨hxl, h⟩ := hown
  rcases h with ⟨h, _⟩ | ⟨g', cap', cur, h, hbg, hg, hnc, hcm, hcs, htake⟩
  · simp at h
  · simp only [Value.slice.injEq, Option.some.injEq, Addr.mk.injEq, and_true, true_and] at h
    obtain ⟨rfl, rfl⟩ := h
    obtain ⟨zs, hzs⟩ : ∃ zs, zs = (Builtin.zeroCells #[Value.int .i64 0, .int .i64 0] m).toList := ⟨_, rfl⟩
    have hl : zs.length = m * 2 := by rw [hzs, zcl]; rfl
    have h1 : ∀ u ∈ zs, u.oneCell' = true := by rw [hzs]; exact zcAk_one m
    have hst := run_storeCells_at (P := Try.prog) g (n * 2) 86 zs 0 cur w hg (by rw [hl]; simp; omega) h1
    simp only [Nat.add_zero] at hst
    obtain ⟨m', rfl⟩ : ∃ m', m = m' + 1 := ⟨m - 1, by omega⟩
    refine ⟨w.setRow g (cur.toList.take (n * 2) ++ zs ++ cur.toList.drop (n * 2 + zs.length)).toArray, ?_, ⟨hxl, .inr ⟨g, cap, _, rfl, hbg, setRow_heap w g cur _ 86 _ hg, hnc, hcm, ?_, ?_⟩⟩, ⟨rfl, rfl, rfl, by simp, fun k _ hk => setRow_other w g k _ (fun e => hk (by simp [e]))⟩⟩
    · simp [Builtin.clear_, run_underlying Try.underlying24, Try.zeroValue86, Value.cells, ← hzs, hst]
    · simp only [List.size_toArray, List.length_append, List.length_take, List.length_drop, Array.length_toList, hl]
      omega
    · rw [← htake]
      show List.take (n * 2) (cur.toList.take (n * 2) ++ zs ++ cur.toList.drop (n * 2 + zs.length)) = _
      rw [List.append_assoc, List.take_append_of_le_length (by simp; omega), List.take_take, Nat.min_self]

theorem prefixAk {w : World} {B g cap : Nat} {L : List Ak} (h : AkRow w B (.slice (some ⟨g, 0, none⟩) L.length cap) L) {f : Nat} (hf : f ≤ L.length) : w.ownsRow B 86 2 (.slice (some ⟨g, 0, none⟩) f cap) f ((L.take f).flatMap Ak.cells) := by
  obtain ⟨hxl, h⟩ := h
  rcases h with ⟨h, _⟩ | ⟨g', cap', cur, h, hbg, hg, hnc, hcm, hcs, htake⟩
  · simp at h
  · simp only [Value.slice.injEq, Option.some.injEq, Addr.mk.injEq, and_true, true_and] at h
    obtain ⟨rfl, rfl⟩ := h
    refine ⟨by rw [flatAk_len, List.length_take, Nat.min_eq_left hf], .inr ⟨g, cap, cur, rfl, hbg, hg, by omega, hcm, hcs, ?_⟩⟩
    have e : cur.toList.take (f * 2) = (cur.toList.take (L.length * 2)).take (f * 2) := by rw [List.take_take, Nat.min_eq_left (by omega)]
    rw [e, htake]
    have e2 : L.flatMap Ak.cells = (L.take f).flatMap Ak.cells ++ (L.drop f).flatMap Ak.cells := by rw [← List.flatMap_append, List.take_append_drop]
    have hl : ((L.take f).flatMap Ak.cells).length = f * 2 := by rw [flatAk_len, List.length_take, Nat.min_eq_left hf]
    rw [e2, ← hl, List.take_left]

theorem newsdropAk {w : World} {B g cap : Nat} {L : List Ak} (h : AkRow w B (.slice (some ⟨g, 0, none⟩) L.length cap) L) (q : Nat) : ∀ j u, ((L.drop q).flatMap Ak.cells)[j]? = some u → w.cell? ((⟨g, q * 2, none⟩ : Addr).add j) = some u := by
  intro j u hju
  have hjl : j < (L.length - q) * 2 := by have := (List.getElem?_eq_some_iff.1 hju).1; rw [flatAk_len, List.length_drop] at this; exact this
  have ha : ((⟨g, q * 2, none⟩ : Addr).add j) = ⟨g, q * 2 + j, none⟩ := by unfold Addr.add; split <;> simp_all
  rw [ha]
  unfold AkRow at h
  rw [h.cellAt (q * 2 + j) (by omega)]
  have e2 : L.flatMap Ak.cells = (L.take q).flatMap Ak.cells ++ (L.drop q).flatMap Ak.cells := by rw [← List.flatMap_append, List.take_append_drop]
  have hl : ((L.take q).flatMap Ak.cells).length = q * 2 := by rw [flatAk_len, List.length_take, Nat.min_eq_left (by omega)]
  rw [e2, List.getElem?_append_right (by omega), hl, Nat.add_sub_cancel_left]
  exact hju

set_option maxRecDepth 100000 in
set_option maxHeartbeats 4000000 in
theorem deleteAk_any (L : List Ak) (B g cap f q : Nat) (w : World) (hq : q = f + 1) (hR : AkRow w B (.slice (some ⟨g, 0, none⟩) L.length cap) L) (hfm : f < L.length) (h60 : L.length ≤ 60) :
    Calls Try.prog 120 #[.slice (some ⟨g, 0, none⟩) L.length cap, .int .i64 f, .int .i64 (q : Int)] w fun e w' => e = .returned (.slice (some ⟨g, 0, none⟩) (L.length - 1) cap) ∧ AkRow w' B (.slice (some ⟨g, 0, none⟩) (L.length - 1) cap) (L.take f ++ L.drop q) ∧ w.grownBy w' (some g) := by
  obtain ⟨i0, hi, hz0, hz1, hz2⟩ := info_parts Try.infoAk
  have hcap : L.length ≤ cap ∧ cap ≤ 9223372036854775807 := by
    rcases hR.2 with ⟨h, _⟩ | ⟨g', cap', _, hv, _, _, h1, h2, _⟩
    · simp at h
    · simp at hv; unfold maxLen at h2; omega
  obtain ⟨hcl, hcm⟩ := hcap
  have HP : Hid (w.ownsRow B 86 2 (.slice (some ⟨g, 0, none⟩) f cap) f ((L.take f).flatMap Ak.cells)) := prefixAk hR (by omega)
  have HN : Hid (∀ j u, ((L.drop q).flatMap Ak.cells)[j]? = some u → w.cell? ((⟨g, q * 2, none⟩ : Addr).add j) = some u) := newsdropAk hR q
  have hnl : ((L.drop q).flatMap Ak.cells).length = (L.length - q) * 2 := by rw [flatAk_len, List.length_drop]
  have hEND : Hid (∀ w', w'.ownsRow B 86 2 (.slice (some ⟨g, 0, none⟩) (L.length - 1) cap) (L.length - 1) ((L.take f).flatMap Ak.cells ++ (L.drop q).flatMap Ak.cells) → AkRow w' B (.slice (some ⟨g, 0, none⟩) (L.length - 1) cap) (L.take f ++ L.drop q)) := fun w' h => by
    unfold AkRow
    have e : (L.take f ++ L.drop q).length = L.length - 1 := by simp; omega
    rw [e, List.flatMap_append]
    exact h
  have hlen : f + (L.length - q) = L.length - 1 := by omega
  have hfI : (q : Int) ≤ (L.length : Int) := by omega
  have hne : ((f : Int) == (q : Int)) = false := by simp; omega
  have hq1 : q ≤ L.length := by omega
  have hq4 : f ≤ q := by omega
  have hq5 : (f : Int) ≤ (q : Int) := by omega
  have hq6 : ¬ f = q := by omega
  have hq7 : q ≤ cap := by omega
  have h63 : (L.length : Int) ≤ 60 := by omega
  have hclI : (L.length : Int) ≤ (cap : Int) := by omega
  obtain ⟨N, hN⟩ : ∃ N, N = L.length - 1 := ⟨_, rfl⟩
  rw [← hN] at hEND hlen ⊢
  have HNm : Hid (N + 1 = L.length) := by show _ = _; omega
  have hfc : f ≤ cap := by omega
  have hfL : f ≤ L.length := by omega
  have hNc : N ≤ cap := by omega
  have hNL : N ≤ L.length := by omega
  by_cases hq2 : q < L.length
  · have hq3 : ¬ cap = q := by omega
    clear hR hN hq
    go_enter Try.func120, Try.ntmps120
    go_upto_region 5 with fail
    refine wpE_begin (fun _ => True) 7 (by kernel_rfl) ?_
    have hSS : (fun _ : World => True) w.drew := trivial
    refine wpE_take 0 (oi := { dst := some 20, op := Op.move (Operand.tmp 0), type := 24, pos := "slices.go:232", after := #[], guard := none }) ?vqn0 rfl (by kernel_rfl) (by kernel_rfl) (by kernel_rfl) (by kernel_rfl) (fun _ _ _ h => h) (Or.inl ⟨by rfl, ?hyn0⟩) trivial ?restn0
    case hyn0 =>
      first
        | (intro w hSw; go_simp; done)
        | (intro w hSw; go_simp; with_reducible rfl)
    try simp only [Act.put, List.setIfInBounds_toArray, List.set_cons_zero, List.set_cons_succ]
    refine wpE_take 3 (oi := { dst := some 23, op := Op.move (Operand.tmp 0), type := 24, pos := "slices.go:232", after := #[], guard := none }) ?vqn1 rfl (by kernel_rfl) (by kernel_rfl) (by kernel_rfl) (by kernel_rfl) (fun _ _ _ h => h) (Or.inl ⟨by rfl, ?hyn1⟩) trivial ?restn1
    case hyn1 =>
      first
        | (intro w hSw; go_simp; done)
        | (intro w hSw; go_simp; with_reducible rfl)
    try simp only [Act.put, List.setIfInBounds_toArray, List.set_cons_zero, List.set_cons_succ]
    refine wpE_take 1 (oi := { dst := some 21, op := Op.move (Operand.tmp 1), type := 3, pos := "slices.go:232", after := #[], guard := none }) ?vqn2 rfl (by kernel_rfl) (by kernel_rfl) (by kernel_rfl) (by kernel_rfl) (fun _ _ _ h => h) (Or.inl ⟨by rfl, ?hyn2⟩) trivial ?restn2
    case hyn2 =>
      first
        | (intro w hSw; go_simp; done)
        | (intro w hSw; go_simp; with_reducible rfl)
    try simp only [Act.put, List.setIfInBounds_toArray, List.set_cons_zero, List.set_cons_succ]
    refine wpE_take 4 (oi := { dst := some 24, op := Op.move (Operand.tmp 2), type := 3, pos := "slices.go:232", after := #[], guard := none }) ?vqn3 rfl (by kernel_rfl) (by kernel_rfl) (by kernel_rfl) (by kernel_rfl) (fun _ _ _ h => h) (Or.inl ⟨by rfl, ?hyn3⟩) trivial ?restn3
    case hyn3 =>
      first
        | (intro w hSw; go_simp; done)
        | (intro w hSw; go_simp; with_reducible rfl)
    try simp only [Act.put, List.setIfInBounds_toArray, List.set_cons_zero, List.set_cons_succ]
    refine wpE_take 2 (oi := { dst := some 22, op := Op.slice 24 (Operand.tmp 20) none (some (Operand.tmp 21)) none, type := 24, pos := "slices.go:232", after := #[{ on := 0, ground := Ground.data }, { on := 1, ground := Ground.data }], guard := none }) ?vqn4 rfl (by kernel_rfl) (by kernel_rfl) (by kernel_rfl) (by kernel_rfl) (fun _ _ _ h => h) (Or.inl ⟨by rfl, ?hyn4⟩) trivial ?restn4
    case hyn4 =>
      first
        | (intro w hSw; go_simp; done)
        | (intro w hSw; go_simp; with_reducible rfl)
    try simp only [Act.put, List.setIfInBounds_toArray, List.set_cons_zero, List.set_cons_succ]
    refine wpE_take 5 (oi := { dst := some 25, op := Op.slice 24 (Operand.tmp 23) (some (Operand.tmp 24)) none none, type := 24, pos := "slices.go:232", after := #[{ on := 3, ground := Ground.data }, { on := 4, ground := Ground.data }], guard := none }) ?vqn5 rfl (by kernel_rfl) (by kernel_rfl) (by kernel_rfl) (by kernel_rfl) (fun _ _ _ h => h) (Or.inl ⟨by rfl, ?hyn5⟩) trivial ?restn5
    case hyn5 =>
      first
        | (intro w hSw; go_simp; done)
        | (intro w hSw; go_simp; with_reducible rfl)
    try simp only [Act.put, List.setIfInBounds_toArray, List.set_cons_zero, List.set_cons_succ]
    refine wpE_one 6 (o := { dst := some 26, op := Op.call { callee := Callee.builtin Builtin.append, args := #[Operand.tmp 22, Operand.tmp 25], argTypes := #[24, 24] }, type := 24, pos := "slices.go:232", after := #[{ on := 2, ground := Ground.data }, { on := 5, ground := Ground.data }], guard := none }) (by kernel_rfl) rfl (fun K hK => ?_)
    refine stp_append_fits rfl _ _ _ rfl B 86 i0 2 Try.underlying24 hi hz1 g f cap _ rfl (HP.out.drew) ⟨g, q * 2, none⟩ (L.length - q) (cap - q) ((L.drop q).flatMap Ak.cells) rfl hnl HN.out (onesAk (L.drop q)) (by omega) ?_
    intro w9 hown9 hgrow9
    rw [hlen] at hown9 ⊢
    refine hK.out _ _ (fun h => trivial) ?_
    clear hK K
    try simp only [Act.put, List.setIfInBounds_toArray, List.set_cons_zero, List.set_cons_succ]
    refine wpE_one 7 (o := { dst := some 0, op := Op.assign (Operand.tmp 26), type := 24, pos := "slices.go:232", after := #[{ on := 6, ground := Ground.data }, { on := 6, ground := Ground.chain }, { on := 0, ground := Ground.phase }, { on := 1, ground := Ground.phase }, { on := 2, ground := Ground.phase }, { on := 3, ground := Ground.phase }, { on := 4, ground := Ground.phase }, { on := 5, ground := Ground.phase }, { on := 6, ground := Ground.phase }], guard := none }) (by kernel_rfl) rfl (fun K hK => ?_)
    go_simp
    refine hK.out _ _ (fun h => trivial) ?_
    clear hK K hSS
    try simp only [Act.put, List.setIfInBounds_toArray, List.set_cons_zero, List.set_cons_succ]
    refine wpE_done (by kernel_rfl) ?_ _
    have HO9 : Hid (w9.ownsRow B 86 2 (.slice (some ⟨g, 0, none⟩) N cap) N ((L.take f).flatMap Ak.cells ++ (L.drop q).flatMap Ak.cells)) := hown9
    have HG9 : Hid (w.drew.grownBy w9 (some g)) := hgrow9
    clear hown9 hgrow9
    have hNLI : (N : Int) ≤ (L.length : Int) := by omega
    obtain ⟨w10, hr10, hown10, hgrow10⟩ := clearAk_row w9 B g N cap (L.length - N) (cap - N) _ 0 HO9.out (by have := HNm.out; omega) (by have := HNm.out; omega)
    have hE := hEND.out w10 hown10
    have hG : w.grownBy w10 (some g) := ⟨hgrow10.os.trans HG9.out.os, hgrow10.tape.trans HG9.out.tape, hgrow10.output.trans HG9.out.output, Nat.le_trans HG9.out.size hgrow10.size, fun k hk hne => (hgrow10.block k (Nat.lt_of_lt_of_le hk HG9.out.size) hne).trans (HG9.out.block k hk hne)⟩
    clear hown10 hgrow10
    go_wp2
    go_ret
    exact ⟨rfl, hE, hG⟩
  · have HLAST : Hid (f = N) := by show _ = _; have := HNm.out; omega
    by_cases hq3 : cap = q
    · have hq9 := hq3.symm
      clear hR hN hq hq3
      subst hq9
      go_enter Try.func120, Try.ntmps120
      go_upto_region 5 with fail
      refine wpE_begin (fun _ => True) 7 (by kernel_rfl) ?_
      have hSS : (fun _ : World => True) w.drew := trivial
      refine wpE_take 0 (oi := { dst := some 20, op := Op.move (Operand.tmp 0), type := 24, pos := "slices.go:232", after := #[], guard := none }) ?vqp0 rfl (by kernel_rfl) (by kernel_rfl) (by kernel_rfl) (by kernel_rfl) (fun _ _ _ h => h) (Or.inl ⟨by rfl, ?hyp0⟩) trivial ?restp0
      case hyp0 =>
        first
          | (intro w hSw; go_simp; done)
          | (intro w hSw; go_simp; with_reducible rfl)
      try simp only [Act.put, List.setIfInBounds_toArray, List.set_cons_zero, List.set_cons_succ]
      refine wpE_take 3 (oi := { dst := some 23, op := Op.move (Operand.tmp 0), type := 24, pos := "slices.go:232", after := #[], guard := none }) ?vqp1 rfl (by kernel_rfl) (by kernel_rfl) (by kernel_rfl) (by kernel_rfl) (fun _ _ _ h => h) (Or.inl ⟨by rfl, ?hyp1⟩) trivial ?restp1
      case hyp1 =>
        first
          | (intro w hSw; go_simp; done)
          | (intro w hSw; go_simp; with_reducible rfl)
      try simp only [Act.put, List.setIfInBounds_toArray, List.set_cons_zero, List.set_cons_succ]
      refine wpE_take 1 (oi := { dst := some 21, op := Op.move (Operand.tmp 1), type := 3, pos := "slices.go:232", after := #[], guard := none }) ?vqp2 rfl (by kernel_rfl) (by kernel_rfl) (by kernel_rfl) (by kernel_rfl) (fun _ _ _ h => h) (Or.inl ⟨by rfl, ?hyp2⟩) trivial ?restp2
      case hyp2 =>
        first
          | (intro w hSw; go_simp; done)
          | (intro w hSw; go_simp; with_reducible rfl)
      try simp only [Act.put, List.setIfInBounds_toArray, List.set_cons_zero, List.set_cons_succ]
      refine wpE_take 4 (oi := { dst := some 24, op := Op.move (Operand.tmp 2), type := 3, pos := "slices.go:232", after := #[], guard := none }) ?vqp3 rfl (by kernel_rfl) (by kernel_rfl) (by kernel_rfl) (by kernel_rfl) (fun _ _ _ h => h) (Or.inl ⟨by rfl, ?hyp3⟩) trivial ?restp3
      case hyp3 =>
        first
          | (intro w hSw; go_simp; done)
          | (intro w hSw; go_simp; with_reducible rfl)
      try simp only [Act.put, List.setIfInBounds_toArray, List.set_cons_zero, List.set_cons_succ]
      refine wpE_take 2 (oi := { dst := some 22, op := Op.slice 24 (Operand.tmp 20) none (some (Operand.tmp 21)) none, type := 24, pos := "slices.go:232", after := #[{ on := 0, ground := Ground.data }, { on := 1, ground := Ground.data }], guard := none }) ?vqp4 rfl (by kernel_rfl) (by kernel_rfl) (by kernel_rfl) (by kernel_rfl) (fun _ _ _ h => h) (Or.inl ⟨by rfl, ?hyp4⟩) trivial ?restp4
      case hyp4 =>
        first
          | (intro w hSw; go_simp; done)
          | (intro w hSw; go_simp; with_reducible rfl)
      try simp only [Act.put, List.setIfInBounds_toArray, List.set_cons_zero, List.set_cons_succ]
      refine wpE_take 5 (oi := { dst := some 25, op := Op.slice 24 (Operand.tmp 23) (some (Operand.tmp 24)) none none, type := 24, pos := "slices.go:232", after := #[{ on := 3, ground := Ground.data }, { on := 4, ground := Ground.data }], guard := none }) ?vqp5 rfl (by kernel_rfl) (by kernel_rfl) (by kernel_rfl) (by kernel_rfl) (fun _ _ _ h => h) (Or.inl ⟨by rfl, ?hyp5⟩) trivial ?restp5
      case hyp5 =>
        first
          | (intro w hSw; go_simp; done)
          | (intro w hSw; go_simp; with_reducible rfl)
      try simp only [Act.put, List.setIfInBounds_toArray, List.set_cons_zero, List.set_cons_succ]
      refine wpE_one 6 (o := { dst := some 26, op := Op.call { callee := Callee.builtin Builtin.append, args := #[Operand.tmp 22, Operand.tmp 25], argTypes := #[24, 24] }, type := 24, pos := "slices.go:232", after := #[{ on := 2, ground := Ground.data }, { on := 5, ground := Ground.data }], guard := none }) (by kernel_rfl) rfl (fun K hK => ?_)
      refine stp_append_none rfl _ _ _ rfl 86 i0 Try.underlying24 hi _ f q rfl (by omega) _ _ _ rfl (by omega) ?_
      have hlast : f = N := HLAST.out
      refine hK.out _ _ (fun h => trivial) ?_
      clear hK K
      try simp only [Act.put, List.setIfInBounds_toArray, List.set_cons_zero, List.set_cons_succ]
      refine wpE_one 7 (o := { dst := some 0, op := Op.assign (Operand.tmp 26), type := 24, pos := "slices.go:232", after := #[{ on := 6, ground := Ground.data }, { on := 6, ground := Ground.chain }, { on := 0, ground := Ground.phase }, { on := 1, ground := Ground.phase }, { on := 2, ground := Ground.phase }, { on := 3, ground := Ground.phase }, { on := 4, ground := Ground.phase }, { on := 5, ground := Ground.phase }, { on := 6, ground := Ground.phase }], guard := none }) (by kernel_rfl) rfl (fun K hK => ?_)
      go_simp
      refine hK.out _ _ (fun h => trivial) ?_
      clear hK K hSS
      try simp only [Act.put, List.setIfInBounds_toArray, List.set_cons_zero, List.set_cons_succ]
      refine wpE_done (by kernel_rfl) ?_ _
      (try rw [hlast])
      obtain ⟨w9, hw9⟩ : ∃ W, W = w.drew := ⟨_, rfl⟩
      rw [← hw9]
      have HO9 : Hid (w9.ownsRow B 86 2 (.slice (some ⟨g, 0, none⟩) N q) N ((L.take f).flatMap Ak.cells ++ (L.drop q).flatMap Ak.cells)) := by
        have h := HP.out.drew
        rw [hlast, ← hw9] at h
        rw [List.drop_eq_nil_of_le (by omega), List.flatMap_nil, List.append_nil, ← hlast]
        rw [← hlast] at h
        exact h
      have HG9 : Hid (w.drew.grownBy w9 (some g)) := by rw [hw9]; exact World.grownBy.refl _ _
      clear hw9 hlast
      have hNLI : (N : Int) ≤ (L.length : Int) := by omega
      obtain ⟨w10, hr10, hown10, hgrow10⟩ := clearAk_row w9 B g N q (L.length - N) (q - N) _ 0 HO9.out (by have := HNm.out; omega) (by have := HNm.out; omega)
      have hE := hEND.out w10 hown10
      have hG : w.grownBy w10 (some g) := ⟨hgrow10.os.trans HG9.out.os, hgrow10.tape.trans HG9.out.tape, hgrow10.output.trans HG9.out.output, Nat.le_trans HG9.out.size hgrow10.size, fun k hk hne => (hgrow10.block k (Nat.lt_of_lt_of_le hk HG9.out.size) hne).trans (HG9.out.block k hk hne)⟩
      clear hown10 hgrow10
      go_wp2
      go_ret
      exact ⟨rfl, hE, hG⟩
    · clear hR hN hq
      go_enter Try.func120, Try.ntmps120
      go_upto_region 5 with fail
      refine wpE_begin (fun _ => True) 7 (by kernel_rfl) ?_
      have hSS : (fun _ : World => True) w.drew := trivial
      refine wpE_take 0 (oi := { dst := some 20, op := Op.move (Operand.tmp 0), type := 24, pos := "slices.go:232", after := #[], guard := none }) ?vqr0 rfl (by kernel_rfl) (by kernel_rfl) (by kernel_rfl) (by kernel_rfl) (fun _ _ _ h => h) (Or.inl ⟨by rfl, ?hyr0⟩) trivial ?restr0
      case hyr0 =>
        first
          | (intro w hSw; go_simp; done)
          | (intro w hSw; go_simp; with_reducible rfl)
      try simp only [Act.put, List.setIfInBounds_toArray, List.set_cons_zero, List.set_cons_succ]
      refine wpE_take 3 (oi := { dst := some 23, op := Op.move (Operand.tmp 0), type := 24, pos := "slices.go:232", after := #[], guard := none }) ?vqr1 rfl (by kernel_rfl) (by kernel_rfl) (by kernel_rfl) (by kernel_rfl) (fun _ _ _ h => h) (Or.inl ⟨by rfl, ?hyr1⟩) trivial ?restr1
      case hyr1 =>
        first
          | (intro w hSw; go_simp; done)
          | (intro w hSw; go_simp; with_reducible rfl)
      try simp only [Act.put, List.setIfInBounds_toArray, List.set_cons_zero, List.set_cons_succ]
      refine wpE_take 1 (oi := { dst := some 21, op := Op.move (Operand.tmp 1), type := 3, pos := "slices.go:232", after := #[], guard := none }) ?vqr2 rfl (by kernel_rfl) (by kernel_rfl) (by kernel_rfl) (by kernel_rfl) (fun _ _ _ h => h) (Or.inl ⟨by rfl, ?hyr2⟩) trivial ?restr2
      case hyr2 =>
        first
          | (intro w hSw; go_simp; done)
          | (intro w hSw; go_simp; with_reducible rfl)
      try simp only [Act.put, List.setIfInBounds_toArray, List.set_cons_zero, List.set_cons_succ]
      refine wpE_take 4 (oi := { dst := some 24, op := Op.move (Operand.tmp 2), type := 3, pos := "slices.go:232", after := #[], guard := none }) ?vqr3 rfl (by kernel_rfl) (by kernel_rfl) (by kernel_rfl) (by kernel_rfl) (fun _ _ _ h => h) (Or.inl ⟨by rfl, ?hyr3⟩) trivial ?restr3
      case hyr3 =>
        first
          | (intro w hSw; go_simp; done)
          | (intro w hSw; go_simp; with_reducible rfl)
      try simp only [Act.put, List.setIfInBounds_toArray, List.set_cons_zero, List.set_cons_succ]
      refine wpE_take 2 (oi := { dst := some 22, op := Op.slice 24 (Operand.tmp 20) none (some (Operand.tmp 21)) none, type := 24, pos := "slices.go:232", after := #[{ on := 0, ground := Ground.data }, { on := 1, ground := Ground.data }], guard := none }) ?vqr4 rfl (by kernel_rfl) (by kernel_rfl) (by kernel_rfl) (by kernel_rfl) (fun _ _ _ h => h) (Or.inl ⟨by rfl, ?hyr4⟩) trivial ?restr4
      case hyr4 =>
        first
          | (intro w hSw; go_simp; done)
          | (intro w hSw; go_simp; with_reducible rfl)
      try simp only [Act.put, List.setIfInBounds_toArray, List.set_cons_zero, List.set_cons_succ]
      refine wpE_take 5 (oi := { dst := some 25, op := Op.slice 24 (Operand.tmp 23) (some (Operand.tmp 24)) none none, type := 24, pos := "slices.go:232", after := #[{ on := 3, ground := Ground.data }, { on := 4, ground := Ground.data }], guard := none }) ?vqr5 rfl (by kernel_rfl) (by kernel_rfl) (by kernel_rfl) (by kernel_rfl) (fun _ _ _ h => h) (Or.inl ⟨by rfl, ?hyr5⟩) trivial ?restr5
      case hyr5 =>
        first
          | (intro w hSw; go_simp; done)
          | (intro w hSw; go_simp; with_reducible rfl)
      try simp only [Act.put, List.setIfInBounds_toArray, List.set_cons_zero, List.set_cons_succ]
      refine wpE_one 6 (o := { dst := some 26, op := Op.call { callee := Callee.builtin Builtin.append, args := #[Operand.tmp 22, Operand.tmp 25], argTypes := #[24, 24] }, type := 24, pos := "slices.go:232", after := #[{ on := 2, ground := Ground.data }, { on := 5, ground := Ground.data }], guard := none }) (by kernel_rfl) rfl (fun K hK => ?_)
      refine stp_append_none rfl _ _ _ rfl 86 i0 Try.underlying24 hi _ f cap rfl (by omega) _ _ _ rfl (by omega) ?_
      have hlast : f = N := HLAST.out
      refine hK.out _ _ (fun h => trivial) ?_
      clear hK K
      try simp only [Act.put, List.setIfInBounds_toArray, List.set_cons_zero, List.set_cons_succ]
      refine wpE_one 7 (o := { dst := some 0, op := Op.assign (Operand.tmp 26), type := 24, pos := "slices.go:232", after := #[{ on := 6, ground := Ground.data }, { on := 6, ground := Ground.chain }, { on := 0, ground := Ground.phase }, { on := 1, ground := Ground.phase }, { on := 2, ground := Ground.phase }, { on := 3, ground := Ground.phase }, { on := 4, ground := Ground.phase }, { on := 5, ground := Ground.phase }, { on := 6, ground := Ground.phase }], guard := none }) (by kernel_rfl) rfl (fun K hK => ?_)
      go_simp
      refine hK.out _ _ (fun h => trivial) ?_
      clear hK K hSS
      try simp only [Act.put, List.setIfInBounds_toArray, List.set_cons_zero, List.set_cons_succ]
      refine wpE_done (by kernel_rfl) ?_ _
      (try rw [hlast])
      obtain ⟨w9, hw9⟩ : ∃ W, W = w.drew := ⟨_, rfl⟩
      rw [← hw9]
      have HO9 : Hid (w9.ownsRow B 86 2 (.slice (some ⟨g, 0, none⟩) N cap) N ((L.take f).flatMap Ak.cells ++ (L.drop q).flatMap Ak.cells)) := by
        have h := HP.out.drew
        rw [hlast, ← hw9] at h
        rw [List.drop_eq_nil_of_le (by omega), List.flatMap_nil, List.append_nil, ← hlast]
        rw [← hlast] at h
        exact h
      have HG9 : Hid (w.drew.grownBy w9 (some g)) := by rw [hw9]; exact World.grownBy.refl _ _
      clear hw9 hlast
      have hNLI : (N : Int) ≤ (L.length : Int) := by omega
      obtain ⟨w10, hr10, hown10, hgrow10⟩ := clearAk_row w9 B g N cap (L.length - N) (cap - N) _ 0 HO9.out (by have := HNm.out; omega) (by have := HNm.out; omega)
      have hE := hEND.out w10 hown10
      have hG : w.grownBy w10 (some g) := ⟨hgrow10.os.trans HG9.out.os, hgrow10.tape.trans HG9.out.tape, hgrow10.output.trans HG9.out.output, Nat.le_trans HG9.out.size hgrow10.size, fun k hk hne => (hgrow10.block k (Nat.lt_of_lt_of_le hk HG9.out.size) hne).trans (HG9.out.block k hk hne)⟩
      clear hown10 hgrow10
      go_wp2
      go_ret
      exact ⟨rfl, hE, hG⟩

end Go.Proofs.Ytnlppeieccbhgaa
