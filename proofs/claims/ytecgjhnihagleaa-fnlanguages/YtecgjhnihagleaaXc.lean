/- append of some or no elements onto a row of the call's own. The model's l10Put. -/
import Derived.Test.YtecgjhnihagleaaZnA
import Derived.Deep.Upon
import Derived.Deep.AppendLies
import Derived.Test.YtecgjhnihagleaaXa
import Derived.Test.YtecgjhnihagleaaXb
namespace Go.Proofs.Ytecgjhnihagleaa
open Go.RowKit

theorem run_append_mayT {P : Program} (w : World) (t ty : TypeId) (base : Nat) (e : TypeId) (i : TypeInfo) (z : Value) (size bytes : Nat) (ht : P.underlying t = some (.slice e)) (hi : P.info? e = some i) (hz : i.zero = some z)
    (hsize : i.size = size) (hby : i.bytes = bytes) (hzs : z.cells.size = size) (hsz : 0 < size)
    (v : Value) (n : Nat) (xs : List Value) (hown : w.ownsRow base e size v n xs)
    (ao : Option Addr) (m c : Nat) (news : List Value) (hl : news.length = m * size) (hnews : ∀ j u, news[j]? = some u → ∃ ad, ao = some ad ∧ w.cell? (ad.add j) = some u) (h1 : ∀ u ∈ news, u.oneCell' = true)
    (h63 : n + m ≤ maxLen) (hbytes : (n + m) * bytes ≤ 140737488355328) (hbase : base ≤ w.heap.size) :
    ∃ ar cap w', (Builtin.append_ #[t, t] ty #[v, .slice ao m c]).run P w = .ok (.slice ar (n + m) cap) w' ∧
      w'.ownsRow base e size (.slice ar (n + m) cap) (n + m) (xs ++ news) ∧ w.grownBy w' v.ownBlock ∧ (∀ g, (Value.slice ar (n + m) cap).ownBlock = some g → v.ownBlock = some g ∨ g = w.heap.size) := by
  by_cases hm : m = 0
  · subst hm
    have hn : news = [] := List.eq_nil_of_length_eq_zero (by omega)
    subst hn
    have hsrc : Src P i.size t (.slice ao 0 c) 0 [] w := ⟨.inl ⟨_, ht⟩, fun _ => by simp [Builtin.lenOf], by cases ao <;> simp [Builtin.firstCells, loadCells, loadCellsFrom], by cases ao <;> simp [Builtin.firstCells, loadCells, loadCellsFrom], by simp, fun u hu => by simp at hu⟩
    rcases hown.2 with ⟨rfl, h0⟩ | ⟨g, cap, cur, rfl, hb, hg, hnc, hrest⟩
    · subst h0
      refine ⟨none, 0, w, run_append_nothing w t t ty e i ht hi none 0 0 (Nat.le_refl _) _ hsrc, by simpa using hown, World.grownBy.refl _ _, fun g hg => by simp [Value.ownBlock] at hg⟩
    · refine ⟨some ⟨g, 0, none⟩, cap, w, run_append_nothing w t t ty e i ht hi _ n cap hnc _ hsrc, by simpa using hown, World.grownBy.refl _ _, fun g' hg' => .inl hg'⟩
  · obtain ⟨u, hu⟩ : ∃ u, news[0]? = some u := ⟨_, List.getElem?_eq_getElem (by have := Nat.mul_pos (Nat.pos_of_ne_zero hm) hsz; omega)⟩
    obtain ⟨ad, rfl, _⟩ := hnews 0 u hu
    obtain ⟨g, cap, w', hr, h2, h3, h4, h5⟩ := run_append_lies (P := P) w t ty base e i z size bytes ht hi hz hsize hby hzs hsz v n xs hown ad m c news hl (fun j u hu => by obtain ⟨ad', ha, hc⟩ := hnews j u hu; cases ha; exact hc) h1 (by omega) h63 hbytes hbase _ rfl
    exact ⟨some ⟨g, 0, none⟩, cap, w', hr, h2, h3, fun g' hg' => by simp [Value.ownBlock] at hg'; subst hg'; exact h4⟩

theorem wpList_append_mayT {P : Program} (w : World) {ops : Array Oper} {rest : List Oper} {o : Oper} {a : Act} {Q : Exit → Act → World → Prop} (hgd : o.guard = none) (s x : Operand) (t : TypeId)
    (ho : o.op = .call { callee := .builtin .append, args := #[s, x], argTypes := #[t, t] })
    (base : Nat) (e : TypeId) (i : TypeInfo) (z : Value) (size bytes : Nat) (ht : P.underlying t = some (.slice e)) (hi : P.info? e = some i) (hz : i.zero = some z)
    (hsize : i.size = size) (hby : i.bytes = bytes) (hzs : z.cells.size = size) (hsz : 0 < size)
    (v : Value) (n : Nat) (xs : List Value) (hs : a.eval s = v) (hown : w.ownsRow base e size v n xs)
    (ao : Option Addr) (m c : Nat) (news : List Value) (hx : a.eval x = .slice ao m c) (hl : news.length = m * size) (hnews : ∀ j u, news[j]? = some u → ∃ ad, ao = some ad ∧ w.cell? (ad.add j) = some u) (h1 : ∀ u ∈ news, u.oneCell' = true)
    (h63 : n + m ≤ maxLen) (hbytes : (n + m) * bytes ≤ 140737488355328) (hbase : base ≤ w.heap.size)
    (h : ∀ ar cap w', w'.ownsRow base e size (.slice ar (n + m) cap) (n + m) (xs ++ news) → w.grownBy w' v.ownBlock → (∀ g, (Value.slice ar (n + m) cap).ownBlock = some g → v.ownBlock = some g ∨ g = w.heap.size) → wpList P ops Q rest (a.put o.dst (.slice ar (n + m) cap)) w') : wpList P ops Q (o :: rest) a w :=
  wpList_plain hgd fun _ hK => by
    obtain ⟨ar, cap, w', hr, h2, h3, h4⟩ := run_append_mayT (P := P) w t o.type base e i z size bytes ht hi hz hsize hby hzs hsz v n xs hown ao m c news hl hnews h1 h63 hbytes hbase
    unfold Oper.wp execOp
    simp only [ho, resolve, invoke, builtin, Sem.run_bind, Sem.run_pure, Result.andThen_ok, List.map_toArray, List.map_cons, List.map_nil, hs, hx, hr]
    exact hK _ _ (h ar cap w' h2 h3 h4)

end Go.Proofs.Ytecgjhnihagleaa

namespace Go.Proofs.Ytecgjhnihagleaa
open Go.RowKit Plain Tpc

theorem addr_add (g o k : Nat) : (⟨g, o, none⟩ : Addr).add k = ⟨g, o + k, none⟩ := by
  unfold Addr.add
  split
  · next h => subst h; rfl
  · rfl

def intz (l : List Nat) : List Value := l.map fun (n : Nat) => Value.int .i64 (n : Int)

/-- a slice of numbers, in blocks below B -/
def NtAt (w : World) (B : Nat) (v : Value) (l : List Nat) : Prop :=
  ∃ ao cap, v = .slice ao l.length cap ∧ l.length ≤ cap ∧ cap ≤ maxLen ∧ ∀ i (x : Nat), l[i]? = some x → ∃ g o, ao = some ⟨g, o, none⟩ ∧ g < B ∧ w.cell? ⟨g, o + i, none⟩ = some (.int .i64 (x : Int))

theorem NtAt.below {w w' : World} {v : Value} {l : List Nat} {B : Nat} (h : NtAt w B v l) (hb : Below B w w') (hB : B ≤ w.heap.size := by exact Nat.le_refl _) : NtAt w' w'.heap.size v l := by
  obtain ⟨ao, cap, hv, hm, hc, hr⟩ := h
  refine ⟨ao, cap, hv, hm, hc, fun i x hi => ?_⟩
  obtain ⟨g, o, ha, hg, c⟩ := hr i x hi
  have := hb.size
  exact ⟨g, o, ha, by omega, (hb.cell (p := ⟨g, o + i, none⟩) hg).trans c⟩

theorem NtAt.own {w : World} {B : Nat} {v : Value} {l : List Nat} (h : w.ownsRow B 3 1 v l.length (intz l)) : NtAt w w.heap.size v l := by
  have h0 := h
  obtain ⟨_, ⟨rfl, hn⟩ | ⟨g, cap, cur, rfl, hB, hb, hnc, hcm, _⟩⟩ := h
  · have : l = [] := List.length_eq_zero_iff.1 hn
    subst this
    exact ⟨none, 0, rfl, by simp, by unfold maxLen; omega, fun i x hi => by simp at hi⟩
  · refine ⟨some ⟨g, 0, none⟩, cap, rfl, hnc, hcm, fun i x hi => ⟨g, 0, rfl, (h0.lt g rfl).2, ?_⟩⟩
    have hil : i < l.length := (List.getElem?_eq_some_iff.1 hi).1
    have := h0.cellAt i (by omega)
    rw [Nat.zero_add, this]
    simp [intz, hi]

theorem NtAt.nil (w : World) (B : Nat) : NtAt w B (.slice none 0 0) [] := ⟨none, 0, rfl, by simp, by unfold maxLen; omega, fun i x hi => by simp at hi⟩

theorem infoIntT : (Try.prog.info? 3).map (fun i => (i.zero, i.size, i.bytes)) = some (some (.int .i64 0), 1, 8) := by kernel_rfl

set_option maxRecDepth 100000 in
set_option maxHeartbeats 8000000 in
theorem l10Put_any (v : Nat) (L : List Nat) (vo : Value) (w : World) (hv : v ≤ 1000000) (hL : NtAt w w.heap.size vo L) (hl6 : L.length ≤ 100000) (hlm : ∀ (j : Nat) y, L[j]? = some y → y ≤ 1000000) :
    Calls Try.prog 65 #[vo, .int .i64 (v : Int)] w fun e w' => (∃ r, e = .returned r ∧ NtAt w' w'.heap.size r (put v L)) ∧ Below w.heap.size w w' := by
  have HL : Hid (NtAt w w.heap.size vo L) := hL
  have HLM : Hid (∀ (j : Nat) y, L[j]? = some y → y ≤ 1000000) := hlm
  clear hlm
  obtain ⟨i0, hi, hz0, hz1, hz2⟩ := info_parts infoIntT
  obtain ⟨ao, cap, rfl, hlc, hcm, hrow⟩ := hL
  have hcm' : cap ≤ 9223372036854775807 := by unfold maxLen at hcm; omega
  have HROW : Hid (∀ i (x : Nat), L[i]? = some x → ∃ g o, ao = some ⟨g, o, none⟩ ∧ g < w.heap.size ∧ w.cell? ⟨g, o + i, none⟩ = some (.int .i64 (x : Int))) := hrow
  clear hrow
  go_enter Try.func65, Try.ntmps65
  go_wp2
  go_loopw [5] (fun vk wr => ∃ k : Nat, k ≤ L.length ∧ vk = .int .i64 (k : Int) ∧ Hid (∀ j y, j < k → L[j]? = some y → y < v) ∧ wr = w)
    (fun vk _ => L.length - (intOf vk).toNat)
  case atStart => exact ⟨0, by omega, rfl, fun j y hj => by omega, rfl⟩
  case round =>
    obtain ⟨k, hk, rfl, hall, rfl⟩ := hrel
    obtain ⟨w, rfl⟩ : ∃ W, W = wr := ⟨_, rfl⟩
    have hbw : Below w.heap.size w w := Below.refl _ _
    obtain ⟨a2, ha2⟩ : ∃ a2, a2 = if cap = k then ao else ao.map (·.add (k * 1)) := ⟨_, rfl⟩
    have HA2 : Hid (∀ g o, ao = some ⟨g, o, none⟩ → k < L.length → a2 = some ⟨g, o + k, none⟩) := fun g o h1 h2 => by
      rw [ha2, if_neg (by omega), h1]
      show some ((⟨g, o, none⟩ : Addr).add (k * 1)) = _
      rw [addr_add, Nat.mul_one]
    have hsl1 : ∀ W : World, (Instr.slice 27 (.slice ao L.length cap) none (some (.int .i64 (k : Int))) none).run Try.prog W = .ok (.slice ao k cap) W := fun W => by
      rw [run_slice_h (P := Try.prog) (w := W) 27 ao L.length cap Try.underlying27 .i64 (k : Int) (by omega) (by omega)]
      have e : (sizeOf (Try.prog.elem 27)).run Try.prog W = .ok 1 W := by kernel_rfl
      rw [e]
      show Result.ok (sliced ao 0 (k : Int).toNat cap 1) W = _
      unfold sliced
      rw [Int.toNat_natCast, Nat.zero_mul, Nat.sub_zero, Nat.sub_zero]
      congr 2
      cases ao with
      | none => split <;> rfl
      | some a => obtain ⟨ab, ao', ae⟩ := a; split <;> simp [Addr.add] <;> cases ae <;> rfl
    have hsl2 : ∀ W : World, (Instr.slice 27 (.slice ao L.length cap) (some (.int .i64 (k : Int))) none none).run Try.prog W = .ok (.slice a2 (L.length - k) (cap - k)) W := fun W => by
      rw [run_slice_l (P := Try.prog) (w := W) 27 ao L.length cap Try.underlying27 .i64 (k : Int) (by omega) (by omega)]
      have e : (sizeOf (Try.prog.elem 27)).run Try.prog W = .ok 1 W := by kernel_rfl
      rw [e]
      show Result.ok (sliced ao (k : Int).toNat L.length cap 1) W = _
      unfold sliced
      rw [Int.toNat_natCast, ha2]
    clear ha2
    by_cases hlt : k < L.length
    · have hlt' : (k : Int) < (L.length : Int) := by omega
      obtain ⟨y, hy⟩ : ∃ y, L[k]? = some y := ⟨_, List.getElem?_eq_getElem hlt⟩
      obtain ⟨g, o, hao, hg, c⟩ := HROW.out k y hy
      have hym := HLM.out k y hy
      by_cases hyv : y < v
      · have hyd : decide ((y : Int) < (v : Int)) = true := by simp; omega
        have hydn : decide (y < v) = true := by simpa using hyv
        have hall2 : Hid (∀ j z, j < k + 1 → L[j]? = some z → z < v) := fun j z hj hz => by
          by_cases hjk : j = k
          · rw [hjk, hy] at hz; cases hz; exact hyv
          · exact hall.out j z (by omega) hz
        subst hao
        clear hall hyv hy hsl1 hsl2
        go_wp2
        go_roundw
        case rel => exact ⟨k + 1, by omega, by go_num, hall2, trivial⟩
        case measure => simp [intOf]; omega
      · by_cases hye : y = v
        · subst hye
          have HINS : Hid (put y L = L) := put_has y L k hall.out hy
          have hyd : decide ((y : Int) < (y : Int)) = false := by simp
          have hye : ((y : Int) == (y : Int)) = true := by simp
          subst hao
          clear hyv hall hy hsl1 hsl2
          go_wp2
          go_ret
          exact ⟨⟨_, rfl, by rw [HINS.out]; exact HL.out⟩, Below.refl _ _⟩
        · have hyd : decide ((y : Int) < (v : Int)) = false := by simp; omega
          have hydn : decide (y < v) = false := by simpa using hyv
          have hye' : ((y : Int) == (v : Int)) = false := by simp; omega
          have hyen : (y == v) = false := by simpa using hye
          have HINS : Hid (put v L = L.take k ++ v :: L.drop k) := put_at v L k hall.out (.inr ⟨y, hy, by omega⟩) hk
          clear hyv hye hall hy
          subst hao
          obtain ⟨A, hA⟩ : ∃ A, Hid (A = L.take k) := ⟨_, rfl⟩
          obtain ⟨D, hD⟩ : ∃ D, Hid (D = L.drop k) := ⟨_, rfl⟩
          have hAL : Hid (A.length = k) := by show _ = _; rw [hA.out, List.length_take]; omega
          have hDL : Hid (D.length = L.length - k) := by show _ = _; rw [hD.out, List.length_drop]
          have hN1 : Hid (∀ W : World, Below w.heap.size w W → ∀ j u, (intz A)[j]? = some u → ∃ ad, (some ⟨g, o, none⟩ : Option Addr) = some ad ∧ W.cell? (ad.add j) = some u) := fun W hW j u hu => by
            have hj : j < k := by
              have h9 := (List.getElem?_eq_some_iff.1 hu).1
              unfold intz at h9
              rw [List.length_map, hAL.out] at h9
              exact h9
            rw [hA.out] at hu
            unfold intz at hu
            rw [List.getElem?_map, Option.map_eq_some_iff] at hu
            obtain ⟨y, hy, rfl⟩ := hu
            rw [List.getElem?_take, if_pos hj] at hy
            obtain ⟨g', o', hao', hg', c⟩ := HROW.out j y hy
            exact ⟨_, hao', by rw [addr_add]; exact (hW.cell (p := ⟨g', o' + j, none⟩) hg').trans c⟩
          have hN2 : Hid (∀ W : World, Below w.heap.size w W → ∀ j u, (intz D)[j]? = some u → ∃ ad, a2 = some ad ∧ W.cell? (ad.add j) = some u) := fun W hW j u hu => by
            have hj : k + j < L.length := by
              have h9 := (List.getElem?_eq_some_iff.1 hu).1
              unfold intz at h9
              rw [List.length_map, hDL.out] at h9
              omega
            rw [hD.out] at hu
            unfold intz at hu
            rw [List.getElem?_map, Option.map_eq_some_iff] at hu
            obtain ⟨y, hy, rfl⟩ := hu
            rw [List.getElem?_drop] at hy
            obtain ⟨g, o, hao, hg, c⟩ := HROW.out (k + j) y hy
            refine ⟨_, HA2.out g o hao (by omega), ?_⟩
            rw [addr_add, Nat.add_assoc]
            exact (hW.cell (p := ⟨g, o + (k + j), none⟩) hg).trans c
          have hone : ∀ l : List Nat, ∀ u ∈ intz l, u.oneCell' = true := fun l u hu => by unfold intz at hu; obtain ⟨y, _, rfl⟩ := List.mem_map.1 hu; rfl
          have HONE : Hid (∀ l : List Nat, ∀ u ∈ intz l, u.oneCell' = true) := hone
          clear hone
          have hsW : Hid (w.heap.size ≤ w.heap.size) := hbw.size
          go_wp2_with (at_builtin; refine wpList_append_mayT _ rfl _ _ 27 rfl w.heap.size 3 i0 (.int .i64 0) 1 8 Try.underlying27 hi hz0 hz1 hz2 rfl (by decide) (.slice none 0 0) 0 [] rfl (World.ownsRow_nil _ _ _ _) (some ⟨g, o, none⟩ : Option Addr) k cap (intz A) rfl ?_ (hN1.out _ hbw) (HONE.out _) (by unfold maxLen; omega) (by omega) hsW.out ?_)
          · unfold intz; rw [List.length_map, hAL.out, Nat.mul_one]
          intro ar1 cap1 w2 hown2 hgrow2 _
          have hbw2 : Below w.heap.size w w2 := hbw.grown hgrow2 hsW.out (fun k hk => by simp [Value.ownBlock] at hk)
          have hown2 : w2.ownsRow w.heap.size 3 1 (.slice ar1 k cap1) k (intz A) := hown2
          have hs2 : Hid (w.heap.size ≤ w2.heap.size) := hbw2.size
          clear hgrow2
          go_wp2_with (at_builtin; refine wpList_append_own _ rfl _ _ 27 rfl w.heap.size 3 i0 (.int .i64 0) 1 8 Try.underlying27 hi hz0 hz1 hz2 rfl (by decide) _ _ _ rfl (hown2.alloc _) ⟨w2.heap.size, 0, none⟩ 1 1 [Value.int .i64 (v : Int)] rfl rfl ?c1 ?c2 ?c3 ?c4 ?c5 ?_)
          case c1 =>
            intro j u hj
            match j, hj with
            | 0, hj => simp at hj; subst hj; simp [Addr.add]
            | j + 1, hj => simp at hj
          case c2 => intro u hu; simp at hu; subst hu; rfl
          case c3 => unfold maxLen; omega
          case c4 => omega
          case c5 => simp; have := hs2.out; omega
          intro v3 w3 hown3 hgrow3 _
          have hlt9 := hown2.lt
          have hbw3 : Below w.heap.size w w3 := (hbw2.alloc hs2.out (.cells #[.int .i64 (v : Int)] 3)).grown hgrow3 (by simp; have := hs2.out; omega) (fun k hk => (hlt9 k hk).1)
          have hs3 : Hid (w.heap.size ≤ w3.heap.size) := hbw3.size
          clear hgrow3 hlt9 hown2
          go_wp2_with (at_builtin; refine wpList_append_mayT _ rfl _ _ 27 rfl w.heap.size 3 i0 (.int .i64 0) 1 8 Try.underlying27 hi hz0 hz1 hz2 rfl (by decide) _ _ _ rfl hown3 a2 (L.length - k) (cap - k) (intz D) rfl ?_ (hN2.out _ hbw3) (HONE.out _) (by unfold maxLen; omega) (by omega) hs3.out ?_)
          · unfold intz; rw [List.length_map, hDL.out, Nat.mul_one]
          intro ar4 cap4 w4 hown4 hgrow4 _
          have hlt9 := hown3.lt
          have hbw4 : Below w.heap.size w w4 := hbw3.grown hgrow4 hs3.out (fun k hk => (hlt9 k hk).1)
          have hfin : Hid (NtAt w4 w4.heap.size (.slice ar4 (k + 1 + (L.length - k)) cap4) (put v L)) := by
            have hl : k + 1 + (L.length - k) = (put v L).length := by rw [HINS.out]; simp; omega
            have hv : intz A ++ [Value.int .i64 (v : Int)] ++ intz D = intz (put v L) := by rw [HINS.out, hA.out, hD.out]; simp [intz]
            have hown5 : w4.ownsRow w.heap.size 3 1 (.slice ar4 (k + 1 + (L.length - k)) cap4) (k + 1 + (L.length - k)) (intz A ++ [Value.int .i64 (v : Int)] ++ intz D) := by
              first | exact hown4 | simpa using hown4
            rw [hl, hv] at hown5
            show NtAt _ _ _ _
            rw [hl]
            exact NtAt.own hown5
          clear hgrow4 hown3 hown4 hlt9
          go_wp2
          go_ret
          exact ⟨⟨_, rfl, hfin.out⟩, hbw4⟩
    · have hke : k = L.length := by omega
      have hge : decide ((k : Int) < (L.length : Int)) = false := by simp; omega
      have hgen : decide (k < L.length) = false := by simpa using hlt
      have HINS : Hid (put v L = L.take k ++ v :: L.drop k) := put_at v L k hall.out (.inl hke) hk
      clear hall hlt hke
      obtain ⟨A, hA⟩ : ∃ A, Hid (A = L.take k) := ⟨_, rfl⟩
      obtain ⟨D, hD⟩ : ∃ D, Hid (D = L.drop k) := ⟨_, rfl⟩
      have hAL : Hid (A.length = k) := by show _ = _; rw [hA.out, List.length_take]; omega
      have hDL : Hid (D.length = L.length - k) := by show _ = _; rw [hD.out, List.length_drop]
      have hN1 : Hid (∀ W : World, Below w.heap.size w W → ∀ j u, (intz A)[j]? = some u → ∃ ad, ao = some ad ∧ W.cell? (ad.add j) = some u) := fun W hW j u hu => by
        have hj : j < k := by
          have h9 := (List.getElem?_eq_some_iff.1 hu).1
          unfold intz at h9
          rw [List.length_map, hAL.out] at h9
          exact h9
        rw [hA.out] at hu
        unfold intz at hu
        rw [List.getElem?_map, Option.map_eq_some_iff] at hu
        obtain ⟨y, hy, rfl⟩ := hu
        rw [List.getElem?_take, if_pos hj] at hy
        obtain ⟨g', o', hao', hg', c⟩ := HROW.out j y hy
        exact ⟨_, hao', by rw [addr_add]; exact (hW.cell (p := ⟨g', o' + j, none⟩) hg').trans c⟩
      have hN2 : Hid (∀ W : World, Below w.heap.size w W → ∀ j u, (intz D)[j]? = some u → ∃ ad, a2 = some ad ∧ W.cell? (ad.add j) = some u) := fun W hW j u hu => by
        have hj : k + j < L.length := by
          have h9 := (List.getElem?_eq_some_iff.1 hu).1
          unfold intz at h9
          rw [List.length_map, hDL.out] at h9
          omega
        rw [hD.out] at hu
        unfold intz at hu
        rw [List.getElem?_map, Option.map_eq_some_iff] at hu
        obtain ⟨y, hy, rfl⟩ := hu
        rw [List.getElem?_drop] at hy
        obtain ⟨g, o, hao, hg, c⟩ := HROW.out (k + j) y hy
        refine ⟨_, HA2.out g o hao (by omega), ?_⟩
        rw [addr_add, Nat.add_assoc]
        exact (hW.cell (p := ⟨g, o + (k + j), none⟩) hg).trans c
      have hone : ∀ l : List Nat, ∀ u ∈ intz l, u.oneCell' = true := fun l u hu => by unfold intz at hu; obtain ⟨y, _, rfl⟩ := List.mem_map.1 hu; rfl
      have HONE : Hid (∀ l : List Nat, ∀ u ∈ intz l, u.oneCell' = true) := hone
      clear hone
      have hsW : Hid (w.heap.size ≤ w.heap.size) := hbw.size
      go_wp2_with (at_builtin; refine wpList_append_mayT _ rfl _ _ 27 rfl w.heap.size 3 i0 (.int .i64 0) 1 8 Try.underlying27 hi hz0 hz1 hz2 rfl (by decide) (.slice none 0 0) 0 [] rfl (World.ownsRow_nil _ _ _ _) ao k cap (intz A) rfl ?_ (hN1.out _ hbw) (HONE.out _) (by unfold maxLen; omega) (by omega) hsW.out ?_)
      · unfold intz; rw [List.length_map, hAL.out, Nat.mul_one]
      intro ar1 cap1 w2 hown2 hgrow2 _
      have hbw2 : Below w.heap.size w w2 := hbw.grown hgrow2 hsW.out (fun k hk => by simp [Value.ownBlock] at hk)
      have hown2 : w2.ownsRow w.heap.size 3 1 (.slice ar1 k cap1) k (intz A) := hown2
      have hs2 : Hid (w.heap.size ≤ w2.heap.size) := hbw2.size
      clear hgrow2
      go_wp2_with (at_builtin; refine wpList_append_own _ rfl _ _ 27 rfl w.heap.size 3 i0 (.int .i64 0) 1 8 Try.underlying27 hi hz0 hz1 hz2 rfl (by decide) _ _ _ rfl (hown2.alloc _) ⟨w2.heap.size, 0, none⟩ 1 1 [Value.int .i64 (v : Int)] rfl rfl ?d1 ?d2 ?d3 ?d4 ?d5 ?_)
      case d1 =>
        intro j u hj
        match j, hj with
        | 0, hj => simp at hj; subst hj; simp [Addr.add]
        | j + 1, hj => simp at hj
      case d2 => intro u hu; simp at hu; subst hu; rfl
      case d3 => unfold maxLen; omega
      case d4 => omega
      case d5 => simp; have := hs2.out; omega
      intro v3 w3 hown3 hgrow3 _
      have hlt9 := hown2.lt
      have hbw3 : Below w.heap.size w w3 := (hbw2.alloc hs2.out (.cells #[.int .i64 (v : Int)] 3)).grown hgrow3 (by simp; have := hs2.out; omega) (fun k hk => (hlt9 k hk).1)
      have hs3 : Hid (w.heap.size ≤ w3.heap.size) := hbw3.size
      clear hgrow3 hlt9 hown2
      go_wp2_with (at_builtin; refine wpList_append_mayT _ rfl _ _ 27 rfl w.heap.size 3 i0 (.int .i64 0) 1 8 Try.underlying27 hi hz0 hz1 hz2 rfl (by decide) _ _ _ rfl hown3 a2 (L.length - k) (cap - k) (intz D) rfl ?_ (hN2.out _ hbw3) (HONE.out _) (by unfold maxLen; omega) (by omega) hs3.out ?_)
      · unfold intz; rw [List.length_map, hDL.out, Nat.mul_one]
      intro ar4 cap4 w4 hown4 hgrow4 _
      have hlt9 := hown3.lt
      have hbw4 : Below w.heap.size w w4 := hbw3.grown hgrow4 hs3.out (fun k hk => (hlt9 k hk).1)
      have hfin : Hid (NtAt w4 w4.heap.size (.slice ar4 (k + 1 + (L.length - k)) cap4) (put v L)) := by
        have hl : k + 1 + (L.length - k) = (put v L).length := by rw [HINS.out]; simp; omega
        have hv : intz A ++ [Value.int .i64 (v : Int)] ++ intz D = intz (put v L) := by rw [HINS.out, hA.out, hD.out]; simp [intz]
        have hown5 : w4.ownsRow w.heap.size 3 1 (.slice ar4 (k + 1 + (L.length - k)) cap4) (k + 1 + (L.length - k)) (intz A ++ [Value.int .i64 (v : Int)] ++ intz D) := by
          first | exact hown4 | simpa using hown4
        rw [hl, hv] at hown5
        show NtAt _ _ _ _
        rw [hl]
        exact NtAt.own hown5
      clear hgrow4 hown3 hown4 hlt9
      go_wp2
      go_ret
      exact ⟨⟨_, rfl, hfin.out⟩, hbw4⟩

end Go.Proofs.Ytecgjhnihagleaa
