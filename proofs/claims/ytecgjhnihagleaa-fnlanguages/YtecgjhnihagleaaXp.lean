/- The model's pairs: rows of them, l12At. The model's l12Pairs. -/
import Derived.Test.YtecgjhnihagleaaXg
import Derived.Laws.BytesArg
namespace Go.Proofs.Ytecgjhnihagleaa
open Go.RowKit Plain Mch Tpc

def Mch.Pq.cells3 (p : Pq) : List Value := [.int .i64 (p.a : Int), .int .i64 (p.b : Int), .string p.s]

theorem flatT (l : List Pq) (i j : Nat) (h : i < l.length) (hj : j < 3) : (l.flatMap Pq.cells3)[i * 3 + j]? = (pq l i).cells3[j]? := by
  induction l generalizing i with
  | nil => simp at h
  | cons a l ih =>
    rw [List.flatMap_cons]
    have ha : a.cells3.length = 3 := rfl
    cases i with
    | zero =>
      rw [Nat.zero_mul, Nat.zero_add, List.getElem?_append_left (by omega)]
      rfl
    | succ i =>
      rw [List.getElem?_append_right (by omega)]
      have := ih i (by simpa using h)
      have e : pq (a :: l) (i + 1) = pq l i := by simp [pq]
      rw [e, ← this]
      congr 1
      omega
theorem flatT_len (l : List Pq) : (l.flatMap Pq.cells3).length = l.length * 3 := by
  induction l with
  | nil => rfl
  | cons a l ih => rw [List.flatMap_cons, List.length_append, ih, List.length_cons]; have : a.cells3.length = 3 := rfl; omega

/-- an own row of pairs with their texts -/
def TRow (w : World) (B : Nat) (v : Value) (l : List Pq) : Prop := w.ownsRow B 83 3 v l.length (l.flatMap Pq.cells3)

theorem TRow.slice {w : World} {B : Nat} {v : Value} {l : List Pq} (h : TRow w B v l) : ∃ ao cap, v = Value.slice ao l.length cap ∧ cap ≤ maxLen := by
  rcases h.2 with ⟨rfl, h0⟩ | ⟨g, cap, cur, rfl, _, _, h1, h2, _⟩
  · exact ⟨none, 0, by rw [h0], by unfold maxLen; omega⟩
  · exact ⟨_, _, rfl, h2⟩

theorem TRow.cells {w : World} {B n cap : Nat} {ao : Option Addr} {l : List Pq} (h : TRow w B (.slice ao n cap) l) {i : Nat} (hi : i < l.length) : ∃ g, ao = some ⟨g, 0, none⟩ ∧ g < w.heap.size ∧ B ≤ g ∧ w.cell? ⟨g, i * 3, none⟩ = some (.int .i64 ((pq l i).a : Int)) ∧ w.cell? ⟨g, i * 3 + 1, none⟩ = some (.int .i64 ((pq l i).b : Int)) ∧ w.cell? ⟨g, i * 3 + 2, none⟩ = some (.string (pq l i).s) := by
  obtain ⟨g, c, hv⟩ := Joins.ownsRow_form h (by omega)
  simp only [Value.slice.injEq] at hv
  obtain ⟨rfl, rfl, rfl⟩ := hv
  have hlt := World.ownsRow.lt h g rfl
  refine ⟨g, rfl, hlt.2, hlt.1, ?_, ?_, ?_⟩
  · have := World.ownsRow.cellAt h (i * 3) (by omega)
    rw [this]
    exact flatT l i 0 hi (by omega)
  · have := World.ownsRow.cellAt h (i * 3 + 1) (by omega)
    rw [this]
    exact flatT l i 1 hi (by omega)
  · have := World.ownsRow.cellAt h (i * 3 + 2) (by omega)
    rw [this]
    exact flatT l i 2 hi (by omega)

theorem TRow.snoc {w9 : World} {B g cap : Nat} {l : List Pq} {q : Pq} (hown : w9.ownsRow B 83 3 (.slice (some ⟨g, 0, none⟩) (l.length + 1) cap) (l.length + 1) (l.flatMap Pq.cells3 ++ [.int .i64 (q.a : Int), .int .i64 (q.b : Int), .string q.s])) : TRow w9 B (.slice (some ⟨g, 0, none⟩) (l.length + 1) cap) (l ++ [q]) := by
  unfold TRow
  rw [List.length_append, List.length_singleton, List.flatMap_append]
  simpa [Pq.cells3] using hown

set_option maxRecDepth 100000 in
set_option maxHeartbeats 4000000 in
theorem l12At_any (B : Nat) (v : Value) (l : List Pq) (x y : Nat) (w : World) (h : TRow w B v l) :
    Calls Try.prog 61 #[v, .int .i64 (x : Int), .int .i64 (y : Int)] w fun e w' => e = .returned (.int .i64 (if ix l x y < l.length then ((ix l x y : Nat) : Int) else -1)) ∧ Below w.heap.size w w' := by
  have HT : Hid (TRow w B v l) := h
  obtain ⟨ap, cp, hv, hcp⟩ := h.slice
  subst hv
  unfold maxLen at hcp
  obtain ⟨_, hlc⟩ : True ∧ l.length ≤ cp := ⟨trivial, by rcases h.2 with ⟨hh, h0⟩ | ⟨g, cap, cur, hh, _, _, h1, _⟩ <;> simp at hh <;> omega⟩
  clear h
  obtain ⟨RR, hRR⟩ : ∃ R : Int, R = if ix l x y < l.length then ((ix l x y : Nat) : Int) else -1 := ⟨_, rfl⟩
  rw [← hRR]
  have HRR : Hid (RR = if ix l x y < l.length then ((ix l x y : Nat) : Int) else -1) := hRR
  clear hRR
  go_enter Try.func61, Try.ntmps61
  go_wp2
  go_loopw [11] (fun vi wr => ∃ i : Nat, i ≤ l.length ∧ vi = .int .i64 (i : Int) ∧ Hid (i ≤ ix l x y) ∧ Hid (Below w.heap.size w wr))
    (fun vi _ => l.length - (intOf vi).toNat)
  case atStart => exact ⟨0, by omega, rfl, Nat.zero_le _, Below.refl _ _⟩
  case round =>
    obtain ⟨i, hil, rfl, hix, hbw⟩ := hrel
    have HTr : Hid (TRow wr B (.slice ap l.length cp) l) := own_belowM HT.out hbw.out
    have hsz := hbw.out.size
    by_cases hlt : i < l.length
    · have hlt' : (i : Int) < (l.length : Int) := by omega
      obtain ⟨g, hap, hgl, _, k0, k1, k2⟩ := HTr.out.cells hlt
      subst hap
      have HEQ : Hid ((pq l i).a = x ∧ (pq l i).b = y → ix l x y = i) := fun e => by
        have h1 := hix.out
        by_cases h2 : i < ix l x y
        · exact absurd e (ix_first h2)
        · omega
      have HNE : Hid (¬ ((pq l i).a = x ∧ (pq l i).b = y) → i + 1 ≤ ix l x y) := fun e => by
        have h1 := hix.out
        by_cases h2 : i = ix l x y
        · exfalso
          have h3 := ix_some (l := l) (a := x) (b := y) (by omega)
          rw [← h2] at h3
          exact e h3
        · omega
      generalize (pq l i).a = pa at k0 HEQ HNE
      generalize (pq l i).b = pb at k1 HEQ HNE
      generalize (pq l i).s = ps at k2
      have hbw2 : Hid (Below w.heap.size w (wr.alloc (.cells #[.int .i64 (pa : Int), .int .i64 (pb : Int), .string ps] 83))) := hbw.out.alloc hsz _
      by_cases hx : pa = x
      · subst hx
        have d1 : ((pa : Int) == (pa : Int)) = true := by simp
        by_cases hy : pb = y
        · subst hy
          have d2 : ((pb : Int) == (pb : Int)) = true := by simp
          have hR : Hid (RR = (i : Int)) := by show _ = _; rw [HRR.out, HEQ.out ⟨rfl, rfl⟩, if_pos hlt]
          clear HEQ HNE hix
          go_wp2
          go_ret
          exact ⟨by rw [hR.out]; rfl, hbw2.out⟩
        · have d2 : ((pb : Int) == (y : Int)) = false := by simp; omega
          have hN : Hid (i + 1 ≤ ix l pa y) := HNE.out (fun e => hy e.2)
          clear HEQ HNE hix hy
          go_wp2
          go_roundw
          case rel => exact ⟨i + 1, by omega, by go_num, hN, hbw2⟩
          case measure => simp [intOf]; omega
      · have d1 : ((pa : Int) == (x : Int)) = false := by simp; omega
        have hN : Hid (i + 1 ≤ ix l x y) := HNE.out (fun e => hx e.1)
        clear HEQ HNE hix hx
        go_wp2
        go_roundw
        case rel => exact ⟨i + 1, by omega, by go_num, hN, hbw2⟩
        case measure => simp [intOf]; omega
    · have hge : ¬ ((i : Int) < (l.length : Int)) := by omega
      have hR : Hid (RR = -1) := by
        have h1 := hix.out
        show _ = _
        rw [HRR.out, if_neg (by omega)]
      clear hix
      go_wp2
      go_ret
      exact ⟨by rw [hR.out]; rfl, hbw.out⟩

end Go.Proofs.Ytecgjhnihagleaa

namespace Go.Proofs.Ytecgjhnihagleaa
open Go.RowKit Plain Mch Tpc

theorem Try.infoTp : (Try.prog.info? 83).map (fun i => (i.zero, i.size, i.bytes)) = some (some (.agg #[.int .i64 0, .int .i64 0, .string ⟨#[]⟩]), 3, 32) := by kernel_rfl

theorem one3M (a b : Int) (s : ByteArray) : ∀ u ∈ [Value.int .i64 a, .int .i64 b, .string s], u.oneCell' = true := by
  intro u hu
  simp at hu
  rcases hu with rfl | rfl | rfl <;> rfl

theorem convCh (W : World) (g : Nat) (x : Nat) (hx : x < 256) (hc : W.cell? ⟨g, 0, none⟩ = some (.int .u8 (x : Int))) : (convert 39 9 (.slice (some ⟨g, 0, none⟩) 1 1)).run Try.prog W = .ok (.string ⟨#[UInt8.ofNat x]⟩) W := by
  have h := run_convert_bytes_back (P := Try.prog) W 39 9 5 ⟨g, 0, none⟩ 1 [UInt8.ofNat x] Try.underlying39 Try.underlying5 Try.underlying9 (fun j hj => by
    simp at hj
    subst hj
    rw [show ((⟨g, 0, none⟩ : Addr).add 0) = ⟨g, 0, none⟩ from rfl, hc]
    simp [Nat.mod_eq_of_lt hx])
  exact h

set_option maxRecDepth 100000 in
set_option maxHeartbeats 8000000 in
theorem l12Pairs_any (A B : List (List Int)) (E F : List Bool) (va ea vb eb : Value) (w : World) (hA : MAt w w.heap.size va A) (hB : MAt w w.heap.size vb B) (hEA : EAt w w.heap.size ea E) (hEB : EAt w w.heap.size eb F) (hgA : gm A E = true) (hgB : gm B F = true) :
    Calls Try.prog 60 #[.agg #[va, ea], .agg #[vb, eb]] w fun e w' => ∃ r, e = .returned r ∧ TRow w' w.heap.size r (prs A B) ∧ Below w.heap.size w w' := by
  obtain ⟨i0, hi, hz0, hz1, hz2⟩ := info_parts Try.infoTp
  have HA : Hid (MAt w w.heap.size va A) := hA
  have HB : Hid (MAt w w.heap.size vb B) := hB
  have HGA : Hid (gm A E = true) := hgA
  have HGB : Hid (gm B F = true) := hgB
  clear hgA hgB
  obtain ⟨aA, cA, rfl, hlcA, hcmA, _⟩ := hA
  obtain ⟨aB, cB, rfl, hlcB, hcmB, _⟩ := hB
  obtain ⟨aE, cE, rfl, _⟩ := hEA
  obtain ⟨aF, cF, rfl, _⟩ := hEB
  unfold maxLen at hcmA hcmB
  obtain ⟨W1, hW1⟩ : ∃ W, W = ((w.alloc (.cells #[.slice aA A.length cA, .slice aE E.length cE] 30)).alloc (.cells #[.slice aB B.length cB, .slice aF F.length cF] 30)).alloc (.cells #[.int .i64 0, .int .i64 0, .string ⟨#[]⟩] 83) := ⟨_, rfl⟩
  have HS1 : Hid (W1.heap.size = w.heap.size + 3) := by show _ = _; rw [hW1]; simp
  have hB1 : Below w.heap.size w W1 := by rw [hW1]; exact (((Below.refl _ w).alloc (Nat.le_refl _) _).alloc (by simp) _).alloc (by simp; omega) _
  have Q0 : Hid (W1.cell? ⟨w.heap.size, 0, none⟩ = some (.slice aA A.length cA)) := by show _ = _; rw [hW1]; go_simp
  have Q1 : Hid (W1.cell? ⟨w.heap.size + 1, 0, none⟩ = some (.slice aB B.length cB)) := by show _ = _; rw [hW1]; go_simp
  have HT1 : Hid (TRow W1 (w.heap.size + 2) (.slice (some ⟨w.heap.size + 2, 0, none⟩) 1 1) [⟨0, 0, ByteArray.empty⟩]) := by
    refine ⟨rfl, .inr ⟨w.heap.size + 2, 1, #[.int .i64 0, .int .i64 0, .string ⟨#[]⟩], rfl, Nat.le_refl _, ?_, Nat.le_refl _, by unfold maxLen; omega, rfl, rfl⟩⟩
    rw [hW1]
    have h := heap_alloc_new ((w.alloc (.cells #[.slice aA A.length cA, .slice aE E.length cE] 30)).alloc (.cells #[.slice aB B.length cB, .slice aF F.length cF] 30)) (.cells #[.int .i64 0, .int .i64 0, .string ⟨#[]⟩] 83)
    rw [World.size_alloc, World.size_alloc] at h
    exact h
  go_enter Try.func60, Try.ntmps60
  go_upto_region 2 with fail
  rw [← hW1]
  clear hW1
  go_wp2
  go_loopw [5, 6] (fun vo vi wr => ∃ (i : Nat) (l : List Pq), vi = .int .i64 (i : Int) ∧ Hid (At A B i l) ∧ Hid (TRow wr (w.heap.size + 2) vo l) ∧ Hid (Below (w.heap.size + 2) W1 wr))
    (fun _ vi _ => 145 - (intOf vi).toNat)
  case atStart => exact ⟨0, _, rfl, At.start HGA.out HGB.out, HT1, Below.refl _ _⟩
  case round =>
    rename_i vo vi
    obtain ⟨i, l, rfl, hAt, hP, hbw⟩ := hrel
    have hl144 : l.length ≤ 144 := hAt.out.met.le HGA.out HGB.out
    have hil : i ≤ l.length := hAt.out.le
    obtain ⟨ap, cp, hvp, hcp⟩ := hP.out.slice
    subst hvp
    unfold maxLen at hcp
    clear HT1
    have hszr : w.heap.size + 3 ≤ wr.heap.size := by have := hbw.out.size; have := HS1.out; omega
    by_cases hlt : i < l.length
    · have hlt' : (i : Int) < (l.length : Int) := by omega
      obtain ⟨gp, hap, hgpl, hgpB, e0, e1, e2⟩ := hP.out.cells hlt
      subst hap
      obtain ⟨p, hp⟩ : ∃ p, pq l i = p := ⟨_, rfl⟩
      have HPP : Hid (pq l i = p) := hp
      rw [hp] at e0 e1 e2
      clear hp
      obtain ⟨W3, hW3⟩ : ∃ W, W = wr.alloc (.cells #[.int .i64 (p.a : Int), .int .i64 (p.b : Int), .string p.s] 83) := ⟨_, rfl⟩
      have hb3 : Below wr.heap.size wr W3 := by rw [hW3]; exact (Below.refl _ wr).alloc (Nat.le_refl _) _
      have x0 : Hid (W3.cell? ⟨wr.heap.size, 0, none⟩ = some (.int .i64 (p.a : Int)) ∧ W3.cell? ⟨wr.heap.size, 1, none⟩ = some (.int .i64 (p.b : Int)) ∧ W3.cell? ⟨wr.heap.size, 2, none⟩ = some (.string p.s)) := by refine ⟨?_, ?_, ?_⟩ <;> rw [hW3] <;> go_simp
      have HS3 : Hid (W3.heap.size = wr.heap.size + 1) := by show _ = _; rw [hW3]; simp
      have HP3 : Hid (TRow W3 (w.heap.size + 2) (.slice (some ⟨gp, 0, none⟩) l.length cp) l) := own_belowM hP.out hb3
      have HF3 : Hid ((Value.slice (some ⟨gp, 0, none⟩) l.length cp).ownBlock ≠ some wr.heap.size) := fun e => by simp [Value.ownBlock] at e; omega
      have HB3 : Hid (Below (w.heap.size + 2) W1 W3) := hbw.out.trans (hb3.mono (by omega))
      have hpa : p.a < A.length ∧ p.b < B.length := by rw [← HPP.out]; exact hAt.out.met.lo i hlt
      have hps : p.s.size ≤ 144 := by rw [← HPP.out]; have := hAt.out.met.txt i hlt; omega
      clear hb3
      go_upto_region 6 with fail
      rw [← hW3]
      clear hW3 e0 e1 e2
      go_wp2
      obtain ⟨wo, hwo⟩ : ∃ W, W = wr := ⟨_, rfl⟩
      rw [← hwo] at HS3 x0 HF3 hszr
      rw [← hwo]
      clear hP hbw hgpl hwo
      go_loopw [5, 8] (fun vo vk wr => ∃ k : Nat, k ≤ 3 ∧ vk = .int .i64 (k : Int) ∧ Hid (TRow wr (w.heap.size + 2) vo (stk A B l p k)) ∧ Hid (vo.ownBlock ≠ some wo.heap.size) ∧ Hid (wo.heap.size < wr.heap.size ∧ wr.cell? ⟨wo.heap.size, 0, none⟩ = some (.int .i64 (p.a : Int)) ∧ wr.cell? ⟨wo.heap.size, 1, none⟩ = some (.int .i64 (p.b : Int)) ∧ wr.cell? ⟨wo.heap.size, 2, none⟩ = some (.string p.s)) ∧ Hid (Below (w.heap.size + 2) W1 wr))
        (fun _ vk _ => 3 - (intOf vk).toNat)
      case atStart => exact ⟨0, by omega, rfl, HP3, HF3, ⟨by rw [HS3.out]; omega, x0.out⟩, HB3⟩
      case round =>
        rename_i vo2 vk2
        obtain ⟨k, hk3, rfl, hPk, hFk, hSk, hbk⟩ := hrel
        clear HP3 HF3 HB3 x0
        by_cases hlk : k < 3
        · have hlk' : (k : Int) < 3 := by omega
          have hBr : Below w.heap.size w wr := hB1.trans (hbk.out.mono (by omega))
          obtain ⟨gA, oA, guA, ouA, cuA, hA1, hA2, hA3, hA4, hA5⟩ := (HA.out.below hBr).to HGA.out hpa.1 hlk
          obtain ⟨gB, oB, guB, ouB, cuB, hB1', hB2, hB3, hB4, hB5⟩ := (HB.out.below hBr).to HGB.out hpa.2 hlk
          subst hA1 hB1'
          have s1 := (hbk.out.cell (p := ⟨w.heap.size, 0, none⟩) (by show w.heap.size < _; omega)).trans Q0.out
          have s2 := (hbk.out.cell (p := ⟨w.heap.size + 1, 0, none⟩) (by show w.heap.size + 1 < _; omega)).trans Q1.out
          obtain ⟨hlf, s3, s4, s5⟩ := hSk.out
          have hll : w.heap.size + 1 < wr.heap.size := by omega
          have HSX : Hid (∀ w' : World, Below wr.heap.size wr w' → w'.cell? ⟨w.heap.size, 0, none⟩ = some (.slice (some ⟨gA, oA, none⟩) A.length cA) ∧ w'.cell? ⟨w.heap.size + 1, 0, none⟩ = some (.slice (some ⟨gB, oB, none⟩) B.length cB) ∧ w'.cell? ⟨wo.heap.size, 0, none⟩ = some (.int .i64 (p.a : Int)) ∧ w'.cell? ⟨wo.heap.size, 1, none⟩ = some (.int .i64 (p.b : Int)) ∧ w'.cell? ⟨wo.heap.size, 2, none⟩ = some (.string p.s) ∧ w'.cell? ⟨gA, oA + p.a, none⟩ = some (.slice (some ⟨guA, ouA, none⟩) 3 cuA) ∧ w'.cell? ⟨guA, ouA + k, none⟩ = some (.int .i64 ((nt A p.a k : Nat) : Int)) ∧ w'.cell? ⟨gB, oB + p.b, none⟩ = some (.slice (some ⟨guB, ouB, none⟩) 3 cuB) ∧ w'.cell? ⟨guB, ouB + k, none⟩ = some (.int .i64 ((nt B p.b k : Nat) : Int))) := fun w' h => ⟨(h.cell (p := ⟨w.heap.size, 0, none⟩) (by show w.heap.size < _; omega)).trans s1, (h.cell (p := ⟨w.heap.size + 1, 0, none⟩) hll).trans s2, (h.cell (p := ⟨wo.heap.size, 0, none⟩) hlf).trans s3, (h.cell (p := ⟨wo.heap.size, 1, none⟩) hlf).trans s4, (h.cell (p := ⟨wo.heap.size, 2, none⟩) hlf).trans s5, (h.cell (p := ⟨gA, oA + p.a, none⟩) hA2).trans hA3, (h.cell (p := ⟨guA, ouA + k, none⟩) hA4).trans hA5, (h.cell (p := ⟨gB, oB + p.b, none⟩) hB2).trans hB3, (h.cell (p := ⟨guB, ouB + k, none⟩) hB4).trans hB5⟩
          have hpaA : (p.a : Int) < (A.length : Int) := by omega
          have hpbB : (p.b : Int) < (B.length : Int) := by omega
          clear s1 s2 s3 s4 s5 hA3 hA5 hB3 hB5
          go_upto_region 9 with fail
          go_cut [9] from 26 to 52 (fun s9 wx => ∃ gq, s9 = .pointer (some ⟨gq, 0, none⟩) ∧ wr.heap.size ≤ gq ∧ gq < wx.heap.size ∧ wx.cell? ⟨gq, 0, none⟩ = some (.int .i64 ((nt A p.a k : Nat) : Int)) ∧ wx.cell? ⟨gq, 1, none⟩ = some (.int .i64 ((nt B p.b k : Nat) : Int)) ∧ wx.cell? ⟨gq, 2, none⟩ = some (.string (p.s ++ ch k)) ∧ Below wr.heap.size wr wx)
          case first =>
            have sd := HSX.out _ ((Below.refl _ wr).drew)
            have sa : ∀ o, _ := fun o => HSX.out _ (((Below.refl _ wr).alloc (Nat.le_refl _) o).drew)
            have sb : ∀ o o', _ := fun o o' => HSX.out _ ((((Below.refl _ wr).alloc (Nat.le_refl _) o).alloc (by simp) o').drew)
            have hw1 : IntKind.i64.wrap (97 + (k : Int)) = 97 + (k : Int) := by rw [IntKind.wrap_i64]; omega
            have hw2 : IntKind.u8.wrap (97 + (k : Int)) = ((97 + k : Nat) : Int) := by rw [IntKind.wrap_u8]; omega
            have hk256 : 97 + k < 256 := by omega
            have cv0 : (convert 39 9 (.slice (some ⟨wr.heap.size, 0, none⟩) 1 1)).run Try.prog (wr.alloc (.cells #[.int .u8 (97 + (k : Int))] 5)).drew = .ok (.string (ch k)) (wr.alloc (.cells #[.int .u8 (97 + (k : Int))] 5)).drew := convCh _ _ (97 + k) hk256 (by rw [show ((97 + k : Nat) : Int) = 97 + (k : Int) by omega]; go_simp)
            have cv1 : ∀ (o : Obj), (convert 39 9 (.slice (some ⟨wr.heap.size + 1, 0, none⟩) 1 1)).run Try.prog ((wr.alloc o).alloc (.cells #[.int .u8 (97 + (k : Int))] 5)).drew = .ok (.string (ch k)) ((wr.alloc o).alloc (.cells #[.int .u8 (97 + (k : Int))] 5)).drew := fun o => convCh _ _ (97 + k) hk256 (by rw [show ((97 + k : Nat) : Int) = 97 + (k : Int) by omega]; go_simp)
            have cv2 : ∀ (o : Obj), (convert 39 9 (.slice (some ⟨wr.heap.size, 0, none⟩) 1 1)).run Try.prog ((wr.alloc (.cells #[.int .u8 (97 + (k : Int))] 5)).alloc o).drew = .ok (.string (ch k)) ((wr.alloc (.cells #[.int .u8 (97 + (k : Int))] 5)).alloc o).drew := fun o => convCh _ _ (97 + k) hk256 (by rw [show ((97 + k : Nat) : Int) = 97 + (k : Int) by omega]; go_simp)
            have hcs : (ch k).size = 1 := ch_size k
            have hno : ¬ (9223372036854775807 < p.s.size + 1) := by omega
            have hBa : ∀ o, Below wr.heap.size wr (wr.alloc o).drew := fun o => ((Below.refl _ wr).alloc (Nat.le_refl _) o).drew
            have hBb : ∀ o o', Below wr.heap.size wr ((wr.alloc o).alloc o').drew := fun o o' => (((Below.refl _ wr).alloc (Nat.le_refl _) o).alloc (by simp) o').drew
            have BBS : ∀ o o' x y z, Below wr.heap.size wr (((((wr.alloc o).alloc o').drew.setCell ⟨wr.heap.size, 0, none⟩ x).setCell ⟨wr.heap.size, 1, none⟩ y).setCell ⟨wr.heap.size, 2, none⟩ z) := fun o o' x y z => (((hBb o o').setCell (p := ⟨wr.heap.size, 0, none⟩) (Nat.le_refl _) x).setCell (p := ⟨wr.heap.size, 1, none⟩) (Nat.le_refl _) y).setCell (p := ⟨wr.heap.size, 2, none⟩) (Nat.le_refl _) z
            have HSY : Hid (∀ w' : World, Below wr.heap.size wr w' → w'.cell? ⟨w.heap.size, 0, none⟩ = some (.slice (some ⟨gA, oA, none⟩) A.length cA) ∧ w'.cell? ⟨w.heap.size + 1, 0, none⟩ = some (.slice (some ⟨gB, oB, none⟩) B.length cB) ∧ w'.cell? ⟨wo.heap.size, 0, none⟩ = some (.int .i64 (p.a : Int)) ∧ w'.cell? ⟨wo.heap.size, 1, none⟩ = some (.int .i64 (p.b : Int)) ∧ w'.cell? ⟨wo.heap.size, 2, none⟩ = some (.string p.s) ∧ w'.cell? ⟨gA, oA + p.a, none⟩ = some (.slice (some ⟨guA, ouA, none⟩) 3 cuA) ∧ w'.cell? ⟨guA, ouA + k, none⟩ = some (.int .i64 ((nt A p.a k : Nat) : Int)) ∧ w'.cell? ⟨gB, oB + p.b, none⟩ = some (.slice (some ⟨guB, ouB, none⟩) 3 cuB) ∧ w'.cell? ⟨guB, ouB + k, none⟩ = some (.int .i64 ((nt B p.b k : Nat) : Int))) := HSX
            clear HSX hPk hFk hSk hbk
            refine wp_region_held_drew (S := fun w' => w'.cell? ⟨w.heap.size, 0, none⟩ = some (.slice (some ⟨gA, oA, none⟩) A.length cA) ∧ w'.cell? ⟨w.heap.size + 1, 0, none⟩ = some (.slice (some ⟨gB, oB, none⟩) B.length cB) ∧ w'.cell? ⟨wo.heap.size, 0, none⟩ = some (.int .i64 (p.a : Int)) ∧ w'.cell? ⟨wo.heap.size, 1, none⟩ = some (.int .i64 (p.b : Int)) ∧ w'.cell? ⟨wo.heap.size, 2, none⟩ = some (.string p.s) ∧ w'.cell? ⟨gA, oA + p.a, none⟩ = some (.slice (some ⟨guA, ouA, none⟩) 3 cuA) ∧ w'.cell? ⟨guA, ouA + k, none⟩ = some (.int .i64 ((nt A p.a k : Nat) : Int)) ∧ w'.cell? ⟨gB, oB + p.b, none⟩ = some (.slice (some ⟨guB, ouB, none⟩) 3 cuB) ∧ w'.cell? ⟨guB, ouB + k, none⟩ = some (.int .i64 ((nt B p.b k : Nat) : Int))) (by kernel_rfl) ?_ (fun hHeld => ?_)
            · exact sd
            refine wpAnyH_take (i := 0) (oi := { dst := some 26, op := Op.fieldAddr 30 (Operand.tmp 2) 0, type := 0, pos := "l12_machine.go:175", after := #[], guard := none }) (v := ?vq1) rfl (by kernel_rfl) (by kernel_rfl) (by kernel_rfl) (fun _ _ _ h => h) (Or.inl ⟨by rfl, ?hy1⟩) (by assumption) ?rest1
            case hy1 =>
              first
                | (intro w hSw; (try dsimp only at hSw); go_simp; done)
                | (intro w hSw; (try dsimp only at hSw); go_simp; with_reducible rfl)
                | (intro w hSw; (try dsimp only at hSw); go_simp; simp only [if_neg hno, hw1, hw2]; done)
                | (intro w hSw; (try dsimp only at hSw); go_simp; simp only [if_neg hno, hw1, hw2]; with_reducible rfl)
            try simp only [Act.put, List.setIfInBounds_toArray, List.set_cons_zero, List.set_cons_succ]
            refine wpAnyH_take (i := 1) (oi := { dst := some 27, op := Op.load 22 (Operand.tmp 26), type := 22, pos := "l12_machine.go:175", after := #[{ on := 0, ground := Ground.data }], guard := none }) (v := ?vq2) rfl (by kernel_rfl) (by kernel_rfl) (by kernel_rfl) (fun _ _ _ h => h) (Or.inl ⟨by rfl, ?hy2⟩) (by assumption) ?rest2
            case hy2 =>
              first
                | (intro w hSw; (try dsimp only at hSw); go_simp; done)
                | (intro w hSw; (try dsimp only at hSw); go_simp; with_reducible rfl)
                | (intro w hSw; (try dsimp only at hSw); go_simp; simp only [if_neg hno, hw1, hw2]; done)
                | (intro w hSw; (try dsimp only at hSw); go_simp; simp only [if_neg hno, hw1, hw2]; with_reducible rfl)
            try simp only [Act.put, List.setIfInBounds_toArray, List.set_cons_zero, List.set_cons_succ]
            refine wpAnyH_take (i := 2) (oi := { dst := some 28, op := Op.fieldAddr 83 (Operand.tmp 7) 0, type := 0, pos := "l12_machine.go:175", after := #[], guard := none }) (v := ?vq3) rfl (by kernel_rfl) (by kernel_rfl) (by kernel_rfl) (fun _ _ _ h => h) (Or.inl ⟨by rfl, ?hy3⟩) (by assumption) ?rest3
            case hy3 =>
              first
                | (intro w hSw; (try dsimp only at hSw); go_simp; done)
                | (intro w hSw; (try dsimp only at hSw); go_simp; with_reducible rfl)
                | (intro w hSw; (try dsimp only at hSw); go_simp; simp only [if_neg hno, hw1, hw2]; done)
                | (intro w hSw; (try dsimp only at hSw); go_simp; simp only [if_neg hno, hw1, hw2]; with_reducible rfl)
            try simp only [Act.put, List.setIfInBounds_toArray, List.set_cons_zero, List.set_cons_succ]
            refine wpAnyH_take (i := 3) (oi := { dst := some 29, op := Op.load 3 (Operand.tmp 28), type := 3, pos := "l12_machine.go:175", after := #[{ on := 2, ground := Ground.data }], guard := none }) (v := ?vq4) rfl (by kernel_rfl) (by kernel_rfl) (by kernel_rfl) (fun _ _ _ h => h) (Or.inl ⟨by rfl, ?hy4⟩) (by assumption) ?rest4
            case hy4 =>
              first
                | (intro w hSw; (try dsimp only at hSw); go_simp; done)
                | (intro w hSw; (try dsimp only at hSw); go_simp; with_reducible rfl)
                | (intro w hSw; (try dsimp only at hSw); go_simp; simp only [if_neg hno, hw1, hw2]; done)
                | (intro w hSw; (try dsimp only at hSw); go_simp; simp only [if_neg hno, hw1, hw2]; with_reducible rfl)
            try simp only [Act.put, List.setIfInBounds_toArray, List.set_cons_zero, List.set_cons_succ]
            refine wpAnyH_take (i := 4) (oi := { dst := some 30, op := Op.indexAddr 22 (Operand.tmp 27) (Operand.tmp 29), type := 0, pos := "l12_machine.go:175", after := #[{ on := 1, ground := Ground.data }, { on := 3, ground := Ground.data }], guard := none }) (v := ?vq5) rfl (by kernel_rfl) (by kernel_rfl) (by kernel_rfl) (fun _ _ _ h => h) (Or.inl ⟨by rfl, ?hy5⟩) (by assumption) ?rest5
            case hy5 =>
              first
                | (intro w hSw; (try dsimp only at hSw); go_simp; done)
                | (intro w hSw; (try dsimp only at hSw); go_simp; with_reducible rfl)
                | (intro w hSw; (try dsimp only at hSw); go_simp; simp only [if_neg hno, hw1, hw2]; done)
                | (intro w hSw; (try dsimp only at hSw); go_simp; simp only [if_neg hno, hw1, hw2]; with_reducible rfl)
            try simp only [Act.put, List.setIfInBounds_toArray, List.set_cons_zero, List.set_cons_succ]
            refine wpAnyH_take (i := 5) (oi := { dst := some 31, op := Op.load 27 (Operand.tmp 30), type := 27, pos := "l12_machine.go:175", after := #[{ on := 4, ground := Ground.data }], guard := none }) (v := ?vq6) rfl (by kernel_rfl) (by kernel_rfl) (by kernel_rfl) (fun _ _ _ h => h) (Or.inl ⟨by rfl, ?hy6⟩) (by assumption) ?rest6
            case hy6 =>
              first
                | (intro w hSw; (try dsimp only at hSw); go_simp; done)
                | (intro w hSw; (try dsimp only at hSw); go_simp; with_reducible rfl)
                | (intro w hSw; (try dsimp only at hSw); go_simp; simp only [if_neg hno, hw1, hw2]; done)
                | (intro w hSw; (try dsimp only at hSw); go_simp; simp only [if_neg hno, hw1, hw2]; with_reducible rfl)
            try simp only [Act.put, List.setIfInBounds_toArray, List.set_cons_zero, List.set_cons_succ]
            refine wpAnyH_take (i := 6) (oi := { dst := some 32, op := Op.move (Operand.tmp 8), type := 3, pos := "l12_machine.go:175", after := #[], guard := none }) (v := ?vq7) rfl (by kernel_rfl) (by kernel_rfl) (by kernel_rfl) (fun _ _ _ h => h) (Or.inl ⟨by rfl, ?hy7⟩) (by assumption) ?rest7
            case hy7 =>
              first
                | (intro w hSw; (try dsimp only at hSw); go_simp; done)
                | (intro w hSw; (try dsimp only at hSw); go_simp; with_reducible rfl)
                | (intro w hSw; (try dsimp only at hSw); go_simp; simp only [if_neg hno, hw1, hw2]; done)
                | (intro w hSw; (try dsimp only at hSw); go_simp; simp only [if_neg hno, hw1, hw2]; with_reducible rfl)
            try simp only [Act.put, List.setIfInBounds_toArray, List.set_cons_zero, List.set_cons_succ]
            refine wpAnyH_take (i := 7) (oi := { dst := some 33, op := Op.indexAddr 27 (Operand.tmp 31) (Operand.tmp 32), type := 0, pos := "l12_machine.go:175", after := #[{ on := 5, ground := Ground.data }, { on := 6, ground := Ground.data }], guard := none }) (v := ?vq8) rfl (by kernel_rfl) (by kernel_rfl) (by kernel_rfl) (fun _ _ _ h => h) (Or.inl ⟨by rfl, ?hy8⟩) (by assumption) ?rest8
            case hy8 =>
              first
                | (intro w hSw; (try dsimp only at hSw); go_simp; done)
                | (intro w hSw; (try dsimp only at hSw); go_simp; with_reducible rfl)
                | (intro w hSw; (try dsimp only at hSw); go_simp; simp only [if_neg hno, hw1, hw2]; done)
                | (intro w hSw; (try dsimp only at hSw); go_simp; simp only [if_neg hno, hw1, hw2]; with_reducible rfl)
            try simp only [Act.put, List.setIfInBounds_toArray, List.set_cons_zero, List.set_cons_succ]
            refine wpAnyH_take (i := 8) (oi := { dst := some 34, op := Op.load 3 (Operand.tmp 33), type := 3, pos := "l12_machine.go:175", after := #[{ on := 7, ground := Ground.data }], guard := none }) (v := ?vq9) rfl (by kernel_rfl) (by kernel_rfl) (by kernel_rfl) (fun _ _ _ h => h) (Or.inl ⟨by rfl, ?hy9⟩) (by assumption) ?rest9
            case hy9 =>
              first
                | (intro w hSw; (try dsimp only at hSw); go_simp; done)
                | (intro w hSw; (try dsimp only at hSw); go_simp; with_reducible rfl)
                | (intro w hSw; (try dsimp only at hSw); go_simp; simp only [if_neg hno, hw1, hw2]; done)
                | (intro w hSw; (try dsimp only at hSw); go_simp; simp only [if_neg hno, hw1, hw2]; with_reducible rfl)
            try simp only [Act.put, List.setIfInBounds_toArray, List.set_cons_zero, List.set_cons_succ]
            refine wpAnyH_take (i := 9) (oi := { dst := some 35, op := Op.fieldAddr 30 (Operand.tmp 3) 0, type := 0, pos := "l12_machine.go:175", after := #[], guard := none }) (v := ?vq10) rfl (by kernel_rfl) (by kernel_rfl) (by kernel_rfl) (fun _ _ _ h => h) (Or.inl ⟨by rfl, ?hy10⟩) (by assumption) ?rest10
            case hy10 =>
              first
                | (intro w hSw; (try dsimp only at hSw); go_simp; done)
                | (intro w hSw; (try dsimp only at hSw); go_simp; with_reducible rfl)
                | (intro w hSw; (try dsimp only at hSw); go_simp; simp only [if_neg hno, hw1, hw2]; done)
                | (intro w hSw; (try dsimp only at hSw); go_simp; simp only [if_neg hno, hw1, hw2]; with_reducible rfl)
            try simp only [Act.put, List.setIfInBounds_toArray, List.set_cons_zero, List.set_cons_succ]
            refine wpAnyH_take (i := 10) (oi := { dst := some 36, op := Op.load 22 (Operand.tmp 35), type := 22, pos := "l12_machine.go:175", after := #[{ on := 9, ground := Ground.data }], guard := none }) (v := ?vq11) rfl (by kernel_rfl) (by kernel_rfl) (by kernel_rfl) (fun _ _ _ h => h) (Or.inl ⟨by rfl, ?hy11⟩) (by assumption) ?rest11
            case hy11 =>
              first
                | (intro w hSw; (try dsimp only at hSw); go_simp; done)
                | (intro w hSw; (try dsimp only at hSw); go_simp; with_reducible rfl)
                | (intro w hSw; (try dsimp only at hSw); go_simp; simp only [if_neg hno, hw1, hw2]; done)
                | (intro w hSw; (try dsimp only at hSw); go_simp; simp only [if_neg hno, hw1, hw2]; with_reducible rfl)
            try simp only [Act.put, List.setIfInBounds_toArray, List.set_cons_zero, List.set_cons_succ]
            refine wpAnyH_take (i := 11) (oi := { dst := some 37, op := Op.fieldAddr 83 (Operand.tmp 7) 1, type := 0, pos := "l12_machine.go:175", after := #[], guard := none }) (v := ?vq12) rfl (by kernel_rfl) (by kernel_rfl) (by kernel_rfl) (fun _ _ _ h => h) (Or.inl ⟨by rfl, ?hy12⟩) (by assumption) ?rest12
            case hy12 =>
              first
                | (intro w hSw; (try dsimp only at hSw); go_simp; done)
                | (intro w hSw; (try dsimp only at hSw); go_simp; with_reducible rfl)
                | (intro w hSw; (try dsimp only at hSw); go_simp; simp only [if_neg hno, hw1, hw2]; done)
                | (intro w hSw; (try dsimp only at hSw); go_simp; simp only [if_neg hno, hw1, hw2]; with_reducible rfl)
            try simp only [Act.put, List.setIfInBounds_toArray, List.set_cons_zero, List.set_cons_succ]
            refine wpAnyH_take (i := 12) (oi := { dst := some 38, op := Op.load 3 (Operand.tmp 37), type := 3, pos := "l12_machine.go:175", after := #[{ on := 11, ground := Ground.data }], guard := none }) (v := ?vq13) rfl (by kernel_rfl) (by kernel_rfl) (by kernel_rfl) (fun _ _ _ h => h) (Or.inl ⟨by rfl, ?hy13⟩) (by assumption) ?rest13
            case hy13 =>
              first
                | (intro w hSw; (try dsimp only at hSw); go_simp; done)
                | (intro w hSw; (try dsimp only at hSw); go_simp; with_reducible rfl)
                | (intro w hSw; (try dsimp only at hSw); go_simp; simp only [if_neg hno, hw1, hw2]; done)
                | (intro w hSw; (try dsimp only at hSw); go_simp; simp only [if_neg hno, hw1, hw2]; with_reducible rfl)
            try simp only [Act.put, List.setIfInBounds_toArray, List.set_cons_zero, List.set_cons_succ]
            refine wpAnyH_take (i := 13) (oi := { dst := some 39, op := Op.indexAddr 22 (Operand.tmp 36) (Operand.tmp 38), type := 0, pos := "l12_machine.go:175", after := #[{ on := 10, ground := Ground.data }, { on := 12, ground := Ground.data }], guard := none }) (v := ?vq14) rfl (by kernel_rfl) (by kernel_rfl) (by kernel_rfl) (fun _ _ _ h => h) (Or.inl ⟨by rfl, ?hy14⟩) (by assumption) ?rest14
            case hy14 =>
              first
                | (intro w hSw; (try dsimp only at hSw); go_simp; done)
                | (intro w hSw; (try dsimp only at hSw); go_simp; with_reducible rfl)
                | (intro w hSw; (try dsimp only at hSw); go_simp; simp only [if_neg hno, hw1, hw2]; done)
                | (intro w hSw; (try dsimp only at hSw); go_simp; simp only [if_neg hno, hw1, hw2]; with_reducible rfl)
            try simp only [Act.put, List.setIfInBounds_toArray, List.set_cons_zero, List.set_cons_succ]
            refine wpAnyH_take (i := 14) (oi := { dst := some 40, op := Op.load 27 (Operand.tmp 39), type := 27, pos := "l12_machine.go:175", after := #[{ on := 13, ground := Ground.data }], guard := none }) (v := ?vq15) rfl (by kernel_rfl) (by kernel_rfl) (by kernel_rfl) (fun _ _ _ h => h) (Or.inl ⟨by rfl, ?hy15⟩) (by assumption) ?rest15
            case hy15 =>
              first
                | (intro w hSw; (try dsimp only at hSw); go_simp; done)
                | (intro w hSw; (try dsimp only at hSw); go_simp; with_reducible rfl)
                | (intro w hSw; (try dsimp only at hSw); go_simp; simp only [if_neg hno, hw1, hw2]; done)
                | (intro w hSw; (try dsimp only at hSw); go_simp; simp only [if_neg hno, hw1, hw2]; with_reducible rfl)
            try simp only [Act.put, List.setIfInBounds_toArray, List.set_cons_zero, List.set_cons_succ]
            refine wpAnyH_take (i := 15) (oi := { dst := some 41, op := Op.move (Operand.tmp 8), type := 3, pos := "l12_machine.go:175", after := #[], guard := none }) (v := ?vq16) rfl (by kernel_rfl) (by kernel_rfl) (by kernel_rfl) (fun _ _ _ h => h) (Or.inl ⟨by rfl, ?hy16⟩) (by assumption) ?rest16
            case hy16 =>
              first
                | (intro w hSw; (try dsimp only at hSw); go_simp; done)
                | (intro w hSw; (try dsimp only at hSw); go_simp; with_reducible rfl)
                | (intro w hSw; (try dsimp only at hSw); go_simp; simp only [if_neg hno, hw1, hw2]; done)
                | (intro w hSw; (try dsimp only at hSw); go_simp; simp only [if_neg hno, hw1, hw2]; with_reducible rfl)
            try simp only [Act.put, List.setIfInBounds_toArray, List.set_cons_zero, List.set_cons_succ]
            refine wpAnyH_take (i := 16) (oi := { dst := some 42, op := Op.indexAddr 27 (Operand.tmp 40) (Operand.tmp 41), type := 0, pos := "l12_machine.go:175", after := #[{ on := 14, ground := Ground.data }, { on := 15, ground := Ground.data }], guard := none }) (v := ?vq17) rfl (by kernel_rfl) (by kernel_rfl) (by kernel_rfl) (fun _ _ _ h => h) (Or.inl ⟨by rfl, ?hy17⟩) (by assumption) ?rest17
            case hy17 =>
              first
                | (intro w hSw; (try dsimp only at hSw); go_simp; done)
                | (intro w hSw; (try dsimp only at hSw); go_simp; with_reducible rfl)
                | (intro w hSw; (try dsimp only at hSw); go_simp; simp only [if_neg hno, hw1, hw2]; done)
                | (intro w hSw; (try dsimp only at hSw); go_simp; simp only [if_neg hno, hw1, hw2]; with_reducible rfl)
            try simp only [Act.put, List.setIfInBounds_toArray, List.set_cons_zero, List.set_cons_succ]
            refine wpAnyH_take (i := 17) (oi := { dst := some 43, op := Op.load 3 (Operand.tmp 42), type := 3, pos := "l12_machine.go:175", after := #[{ on := 16, ground := Ground.data }], guard := none }) (v := ?vq18) rfl (by kernel_rfl) (by kernel_rfl) (by kernel_rfl) (fun _ _ _ h => h) (Or.inl ⟨by rfl, ?hy18⟩) (by assumption) ?rest18
            case hy18 =>
              first
                | (intro w hSw; (try dsimp only at hSw); go_simp; done)
                | (intro w hSw; (try dsimp only at hSw); go_simp; with_reducible rfl)
                | (intro w hSw; (try dsimp only at hSw); go_simp; simp only [if_neg hno, hw1, hw2]; done)
                | (intro w hSw; (try dsimp only at hSw); go_simp; simp only [if_neg hno, hw1, hw2]; with_reducible rfl)
            try simp only [Act.put, List.setIfInBounds_toArray, List.set_cons_zero, List.set_cons_succ]
            refine wpAnyH_take (i := 18) (oi := { dst := some 44, op := Op.fieldAddr 83 (Operand.tmp 7) 2, type := 0, pos := "l12_machine.go:175", after := #[], guard := none }) (v := ?vq19) rfl (by kernel_rfl) (by kernel_rfl) (by kernel_rfl) (fun _ _ _ h => h) (Or.inl ⟨by rfl, ?hy19⟩) (by assumption) ?rest19
            case hy19 =>
              first
                | (intro w hSw; (try dsimp only at hSw); go_simp; done)
                | (intro w hSw; (try dsimp only at hSw); go_simp; with_reducible rfl)
                | (intro w hSw; (try dsimp only at hSw); go_simp; simp only [if_neg hno, hw1, hw2]; done)
                | (intro w hSw; (try dsimp only at hSw); go_simp; simp only [if_neg hno, hw1, hw2]; with_reducible rfl)
            try simp only [Act.put, List.setIfInBounds_toArray, List.set_cons_zero, List.set_cons_succ]
            refine wpAnyH_take (i := 19) (oi := { dst := some 45, op := Op.load 9 (Operand.tmp 44), type := 9, pos := "l12_machine.go:175", after := #[{ on := 18, ground := Ground.data }], guard := none }) (v := ?vq20) rfl (by kernel_rfl) (by kernel_rfl) (by kernel_rfl) (fun _ _ _ h => h) (Or.inl ⟨by rfl, ?hy20⟩) (by assumption) ?rest20
            case hy20 =>
              first
                | (intro w hSw; (try dsimp only at hSw); go_simp; done)
                | (intro w hSw; (try dsimp only at hSw); go_simp; with_reducible rfl)
                | (intro w hSw; (try dsimp only at hSw); go_simp; simp only [if_neg hno, hw1, hw2]; done)
                | (intro w hSw; (try dsimp only at hSw); go_simp; simp only [if_neg hno, hw1, hw2]; with_reducible rfl)
            try simp only [Act.put, List.setIfInBounds_toArray, List.set_cons_zero, List.set_cons_succ]
            refine wpAnyH_take (i := 20) (oi := { dst := some 46, op := Op.move (Operand.tmp 8), type := 3, pos := "l12_machine.go:175", after := #[], guard := none }) (v := ?vq21) rfl (by kernel_rfl) (by kernel_rfl) (by kernel_rfl) (fun _ _ _ h => h) (Or.inl ⟨by rfl, ?hy21⟩) (by assumption) ?rest21
            case hy21 =>
              first
                | (intro w hSw; (try dsimp only at hSw); go_simp; done)
                | (intro w hSw; (try dsimp only at hSw); go_simp; with_reducible rfl)
                | (intro w hSw; (try dsimp only at hSw); go_simp; simp only [if_neg hno, hw1, hw2]; done)
                | (intro w hSw; (try dsimp only at hSw); go_simp; simp only [if_neg hno, hw1, hw2]; with_reducible rfl)
            try simp only [Act.put, List.setIfInBounds_toArray, List.set_cons_zero, List.set_cons_succ]
            refine wpAnyH_take (i := 21) (oi := { dst := some 47, op := Op.binOp BinOp.add 3 (Operand.const (Value.int IntKind.i64 97)) (Operand.tmp 46) 3, type := 3, pos := "l12_machine.go:175", after := #[{ on := 20, ground := Ground.data }], guard := none }) (v := ?vq22) rfl (by kernel_rfl) (by kernel_rfl) (by kernel_rfl) (fun _ _ _ h => h) (Or.inl ⟨by rfl, ?hy22⟩) (by assumption) ?rest22
            case hy22 =>
              first
                | (intro w hSw; (try dsimp only at hSw); go_simp; done)
                | (intro w hSw; (try dsimp only at hSw); go_simp; with_reducible rfl)
                | (intro w hSw; (try dsimp only at hSw); go_simp; simp only [if_neg hno, hw1, hw2]; done)
                | (intro w hSw; (try dsimp only at hSw); go_simp; simp only [if_neg hno, hw1, hw2]; with_reducible rfl)
            try simp only [Act.put, List.setIfInBounds_toArray, List.set_cons_zero, List.set_cons_succ]
            refine wpAnyH_take (i := 22) (oi := { dst := some 48, op := Op.convert 3 5 (Operand.tmp 47), type := 5, pos := "l12_machine.go:175", after := #[{ on := 21, ground := Ground.data }], guard := none }) (v := ?vq23) rfl (by kernel_rfl) (by kernel_rfl) (by kernel_rfl) (fun _ _ _ h => h) (Or.inl ⟨by rfl, ?hy23⟩) (by assumption) ?rest23
            case hy23 =>
              first
                | (intro w hSw; (try dsimp only at hSw); go_simp; done)
                | (intro w hSw; (try dsimp only at hSw); go_simp; with_reducible rfl)
                | (intro w hSw; (try dsimp only at hSw); go_simp; simp only [if_neg hno, hw1, hw2]; done)
                | (intro w hSw; (try dsimp only at hSw); go_simp; simp only [if_neg hno, hw1, hw2]; with_reducible rfl)
            try simp only [Act.put, List.setIfInBounds_toArray, List.set_cons_zero, List.set_cons_succ]
            refine wpAnyH_ready (rs := [23, 27]) (by kernel_rfl) (by simp) ?_
            refine AllReadyH.cons (o := { dst := some 49, op := Op.buildSlice 39 1 #[(0, Operand.tmp 48)], type := 39, pos := "l12_machine.go:175", after := #[{ on := 22, ground := Ground.data }], guard := none }) rfl (fun K hK => ?_) (AllReadyH.cons (o := { dst := some 9, op := Op.alloc 83, type := 0, pos := "l12_machine.go:175", after := #[], guard := none }) rfl (fun K hK => ?_) AllReadyH.nil)
            · skip
              go_simp
              refine hK.out _ _ ?_ (fun hHeld => ?_)
              · first | exact sa _ | exact HSY.out _ (BBS _ _ _ _ _)
              clear hK K
              try simp only [Act.put, List.setIfInBounds_toArray, List.set_cons_zero, List.set_cons_succ]
              refine wpAnyH_ready (rs := [24, 27]) (by kernel_rfl) (by simp) ?_
              refine AllReadyH.cons (o := { dst := some 50, op := Op.convert 39 9 (Operand.tmp 49), type := 9, pos := "l12_machine.go:175", after := #[{ on := 23, ground := Ground.data }], guard := none }) rfl (fun K hK => ?_) (AllReadyH.cons (o := { dst := some 9, op := Op.alloc 83, type := 0, pos := "l12_machine.go:175", after := #[], guard := none }) rfl (fun K hK => ?_) AllReadyH.nil)
              · skip
                go_simp
                refine hK.out _ _ ?_ (fun hHeld => ?_)
                · first | exact sa _ | exact HSY.out _ (BBS _ _ _ _ _)
                clear hK K
                try simp only [Act.put, List.setIfInBounds_toArray, List.set_cons_zero, List.set_cons_succ]
                refine wpAnyH_take (i := 25) (oi := { dst := some 51, op := Op.binOp BinOp.add 9 (Operand.tmp 45) (Operand.tmp 50) 9, type := 9, pos := "l12_machine.go:175", after := #[{ on := 19, ground := Ground.data }, { on := 24, ground := Ground.data }], guard := none }) (v := ?vq24) rfl (by kernel_rfl) (by kernel_rfl) (by kernel_rfl) (fun _ _ _ h => h) (Or.inl ⟨by rfl, ?hy24⟩) (by assumption) ?rest24
                case hy24 =>
                  first
                    | (intro w hSw; (try dsimp only at hSw); go_simp; done)
                    | (intro w hSw; (try dsimp only at hSw); go_simp; with_reducible rfl)
                    | (intro w hSw; (try dsimp only at hSw); go_simp; simp only [if_neg hno, hw1, hw2]; done)
                    | (intro w hSw; (try dsimp only at hSw); go_simp; simp only [if_neg hno, hw1, hw2]; with_reducible rfl)
                try simp only [Act.put, List.setIfInBounds_toArray, List.set_cons_zero, List.set_cons_succ]
                refine wpAnyH_take (i := 26) (oi := { dst := some 52, op := Op.build 83 #[(0, Operand.tmp 34), (1, Operand.tmp 43), (2, Operand.tmp 51)], type := 83, pos := "l12_machine.go:175", after := #[{ on := 8, ground := Ground.data }, { on := 17, ground := Ground.data }, { on := 25, ground := Ground.data }], guard := none }) (v := ?vq25) rfl (by kernel_rfl) (by kernel_rfl) (by kernel_rfl) (fun _ _ _ h => h) (Or.inl ⟨by rfl, ?hy25⟩) (by assumption) ?rest25
                case hy25 =>
                  first
                    | (intro w hSw; (try dsimp only at hSw); go_simp; done)
                    | (intro w hSw; (try dsimp only at hSw); go_simp; with_reducible rfl)
                    | (intro w hSw; (try dsimp only at hSw); go_simp; simp only [if_neg hno, hw1, hw2]; done)
                    | (intro w hSw; (try dsimp only at hSw); go_simp; simp only [if_neg hno, hw1, hw2]; with_reducible rfl)
                try simp only [Act.put, List.setIfInBounds_toArray, List.set_cons_zero, List.set_cons_succ]
                refine wpAnyH_ready (rs := [27]) (by kernel_rfl) (by simp) ?_
                refine AllReadyH.cons (o := { dst := some 9, op := Op.alloc 83, type := 0, pos := "l12_machine.go:175", after := #[], guard := none }) rfl (fun K hK => ?_) AllReadyH.nil
                go_simp
                refine hK.out _ _ ?_ (fun hHeld => ?_)
                · first | exact sb _ _ | exact HSY.out _ (BBS _ _ _ _ _)
                clear hK K
                try simp only [Act.put, List.setIfInBounds_toArray, List.set_cons_zero, List.set_cons_succ]
                refine wpAnyH_ready (rs := [28]) (by kernel_rfl) (by simp) ?_
                refine AllReadyH.cons (o := _) rfl (fun K hK => ?_) AllReadyH.nil
                go_simp
                refine hK.out _ _ ?_ (fun hHeld => ?_)
                · first | exact sb _ _ | exact HSY.out _ (BBS _ _ _ _ _)
                clear hK K
                try simp only [Act.put, List.setIfInBounds_toArray, List.set_cons_zero, List.set_cons_succ]
                refine wpAnyH_done (by kernel_rfl) ?_ _
                go_wp2_with fail
                go_meet
                exact ⟨wr.heap.size + 1, rfl, by omega, by simp <;> omega, by go_simp, by go_simp, by go_simp, by first | exact hBb _ _ | exact BBS _ _ _ _ _⟩
              · skip
                go_simp
                refine hK.out _ _ ?_ (fun hHeld => ?_)
                · first | exact sb _ _ | exact HSY.out _ (BBS _ _ _ _ _)
                clear hK K
                try simp only [Act.put, List.setIfInBounds_toArray, List.set_cons_zero, List.set_cons_succ]
                refine wpAnyH_ready (rs := [24]) (by kernel_rfl) (by simp) ?_
                refine AllReadyH.cons (o := { dst := some 50, op := Op.convert 39 9 (Operand.tmp 49), type := 9, pos := "l12_machine.go:175", after := #[{ on := 23, ground := Ground.data }], guard := none }) rfl (fun K hK => ?_) AllReadyH.nil
                go_simp
                refine hK.out _ _ ?_ (fun hHeld => ?_)
                · first | exact sb _ _ | exact HSY.out _ (BBS _ _ _ _ _)
                clear hK K
                try simp only [Act.put, List.setIfInBounds_toArray, List.set_cons_zero, List.set_cons_succ]
                refine wpAnyH_take (i := 25) (oi := { dst := some 51, op := Op.binOp BinOp.add 9 (Operand.tmp 45) (Operand.tmp 50) 9, type := 9, pos := "l12_machine.go:175", after := #[{ on := 19, ground := Ground.data }, { on := 24, ground := Ground.data }], guard := none }) (v := ?vq26) rfl (by kernel_rfl) (by kernel_rfl) (by kernel_rfl) (fun _ _ _ h => h) (Or.inl ⟨by rfl, ?hy26⟩) (by assumption) ?rest26
                case hy26 =>
                  first
                    | (intro w hSw; (try dsimp only at hSw); go_simp; done)
                    | (intro w hSw; (try dsimp only at hSw); go_simp; with_reducible rfl)
                    | (intro w hSw; (try dsimp only at hSw); go_simp; simp only [if_neg hno, hw1, hw2]; done)
                    | (intro w hSw; (try dsimp only at hSw); go_simp; simp only [if_neg hno, hw1, hw2]; with_reducible rfl)
                try simp only [Act.put, List.setIfInBounds_toArray, List.set_cons_zero, List.set_cons_succ]
                refine wpAnyH_take (i := 26) (oi := { dst := some 52, op := Op.build 83 #[(0, Operand.tmp 34), (1, Operand.tmp 43), (2, Operand.tmp 51)], type := 83, pos := "l12_machine.go:175", after := #[{ on := 8, ground := Ground.data }, { on := 17, ground := Ground.data }, { on := 25, ground := Ground.data }], guard := none }) (v := ?vq27) rfl (by kernel_rfl) (by kernel_rfl) (by kernel_rfl) (fun _ _ _ h => h) (Or.inl ⟨by rfl, ?hy27⟩) (by assumption) ?rest27
                case hy27 =>
                  first
                    | (intro w hSw; (try dsimp only at hSw); go_simp; done)
                    | (intro w hSw; (try dsimp only at hSw); go_simp; with_reducible rfl)
                    | (intro w hSw; (try dsimp only at hSw); go_simp; simp only [if_neg hno, hw1, hw2]; done)
                    | (intro w hSw; (try dsimp only at hSw); go_simp; simp only [if_neg hno, hw1, hw2]; with_reducible rfl)
                try simp only [Act.put, List.setIfInBounds_toArray, List.set_cons_zero, List.set_cons_succ]
                refine wpAnyH_ready (rs := [28]) (by kernel_rfl) (by simp) ?_
                refine AllReadyH.cons (o := _) rfl (fun K hK => ?_) AllReadyH.nil
                go_simp
                refine hK.out _ _ ?_ (fun hHeld => ?_)
                · first | exact sb _ _ | exact HSY.out _ (BBS _ _ _ _ _)
                clear hK K
                try simp only [Act.put, List.setIfInBounds_toArray, List.set_cons_zero, List.set_cons_succ]
                refine wpAnyH_done (by kernel_rfl) ?_ _
                go_wp2_with fail
                go_meet
                exact ⟨wr.heap.size + 1, rfl, by omega, by simp <;> omega, by go_simp, by go_simp, by go_simp, by first | exact hBb _ _ | exact BBS _ _ _ _ _⟩
            · skip
              go_simp
              refine hK.out _ _ ?_ (fun hHeld => ?_)
              · first | exact sa _ | exact HSY.out _ (BBS _ _ _ _ _)
              clear hK K
              try simp only [Act.put, List.setIfInBounds_toArray, List.set_cons_zero, List.set_cons_succ]
              refine wpAnyH_ready (rs := [23]) (by kernel_rfl) (by simp) ?_
              refine AllReadyH.cons (o := { dst := some 49, op := Op.buildSlice 39 1 #[(0, Operand.tmp 48)], type := 39, pos := "l12_machine.go:175", after := #[{ on := 22, ground := Ground.data }], guard := none }) rfl (fun K hK => ?_) AllReadyH.nil
              go_simp
              refine hK.out _ _ ?_ (fun hHeld => ?_)
              · first | exact sb _ _ | exact HSY.out _ (BBS _ _ _ _ _)
              clear hK K
              try simp only [Act.put, List.setIfInBounds_toArray, List.set_cons_zero, List.set_cons_succ]
              refine wpAnyH_ready (rs := [24]) (by kernel_rfl) (by simp) ?_
              refine AllReadyH.cons (o := { dst := some 50, op := Op.convert 39 9 (Operand.tmp 49), type := 9, pos := "l12_machine.go:175", after := #[{ on := 23, ground := Ground.data }], guard := none }) rfl (fun K hK => ?_) AllReadyH.nil
              go_simp
              refine hK.out _ _ ?_ (fun hHeld => ?_)
              · first | exact sb _ _ | exact HSY.out _ (BBS _ _ _ _ _)
              clear hK K
              try simp only [Act.put, List.setIfInBounds_toArray, List.set_cons_zero, List.set_cons_succ]
              refine wpAnyH_take (i := 25) (oi := { dst := some 51, op := Op.binOp BinOp.add 9 (Operand.tmp 45) (Operand.tmp 50) 9, type := 9, pos := "l12_machine.go:175", after := #[{ on := 19, ground := Ground.data }, { on := 24, ground := Ground.data }], guard := none }) (v := ?vq28) rfl (by kernel_rfl) (by kernel_rfl) (by kernel_rfl) (fun _ _ _ h => h) (Or.inl ⟨by rfl, ?hy28⟩) (by assumption) ?rest28
              case hy28 =>
                first
                  | (intro w hSw; (try dsimp only at hSw); go_simp; done)
                  | (intro w hSw; (try dsimp only at hSw); go_simp; with_reducible rfl)
                  | (intro w hSw; (try dsimp only at hSw); go_simp; simp only [if_neg hno, hw1, hw2]; done)
                  | (intro w hSw; (try dsimp only at hSw); go_simp; simp only [if_neg hno, hw1, hw2]; with_reducible rfl)
              try simp only [Act.put, List.setIfInBounds_toArray, List.set_cons_zero, List.set_cons_succ]
              refine wpAnyH_take (i := 26) (oi := { dst := some 52, op := Op.build 83 #[(0, Operand.tmp 34), (1, Operand.tmp 43), (2, Operand.tmp 51)], type := 83, pos := "l12_machine.go:175", after := #[{ on := 8, ground := Ground.data }, { on := 17, ground := Ground.data }, { on := 25, ground := Ground.data }], guard := none }) (v := ?vq29) rfl (by kernel_rfl) (by kernel_rfl) (by kernel_rfl) (fun _ _ _ h => h) (Or.inl ⟨by rfl, ?hy29⟩) (by assumption) ?rest29
              case hy29 =>
                first
                  | (intro w hSw; (try dsimp only at hSw); go_simp; done)
                  | (intro w hSw; (try dsimp only at hSw); go_simp; with_reducible rfl)
                  | (intro w hSw; (try dsimp only at hSw); go_simp; simp only [if_neg hno, hw1, hw2]; done)
                  | (intro w hSw; (try dsimp only at hSw); go_simp; simp only [if_neg hno, hw1, hw2]; with_reducible rfl)
              try simp only [Act.put, List.setIfInBounds_toArray, List.set_cons_zero, List.set_cons_succ]
              refine wpAnyH_ready (rs := [28]) (by kernel_rfl) (by simp) ?_
              refine AllReadyH.cons (o := _) rfl (fun K hK => ?_) AllReadyH.nil
              go_simp
              refine hK.out _ _ ?_ (fun hHeld => ?_)
              · first | exact sb _ _ | exact HSY.out _ (BBS _ _ _ _ _)
              clear hK K
              try simp only [Act.put, List.setIfInBounds_toArray, List.set_cons_zero, List.set_cons_succ]
              refine wpAnyH_done (by kernel_rfl) ?_ _
              go_wp2_with fail
              go_meet
              exact ⟨wr.heap.size, rfl, by omega, by simp <;> omega, by go_simp, by go_simp, by go_simp, by first | exact hBb _ _ | exact BBS _ _ _ _ _⟩
          case rest =>
            obtain ⟨gq, rfl, hgq1, hgq2, c0, c1, c2, hbc⟩ := hcut
            obtain ⟨ao, co, hvo, hco⟩ := hPk.out.slice
            subst hvo
            obtain ⟨L, hL⟩ : ∃ L, L = stk A B l p k := ⟨_, rfl⟩
            have HLL : Hid (L = stk A B l p k) := hL
            have hL145 : L.length ≤ 145 := by rw [hL, ← HPP.out]; have := (stk_met HGA.out HGB.out hAt.out.met hlt k hk3).le HGA.out HGB.out; omega
            rw [← hL] at hPk hFk
            rw [← hL]
            clear hL
            have HTc : Hid (TRow wc (w.heap.size + 2) (.slice ao L.length co) L) := own_belowM hPk.out hbc
            have HBc : Hid (Below (w.heap.size + 2) W1 wc) := hbk.out.trans (hbc.mono (by omega))
            obtain ⟨hlf, s3, s4, s5⟩ := hSk.out
            have HSc : Hid (wo.heap.size < wc.heap.size ∧ wc.cell? ⟨wo.heap.size, 0, none⟩ = some (.int .i64 (p.a : Int)) ∧ wc.cell? ⟨wo.heap.size, 1, none⟩ = some (.int .i64 (p.b : Int)) ∧ wc.cell? ⟨wo.heap.size, 2, none⟩ = some (.string p.s)) := ⟨by have := hbc.size; omega, (hbc.cell (p := ⟨wo.heap.size, 0, none⟩) hlf).trans s3, (hbc.cell (p := ⟨wo.heap.size, 1, none⟩) hlf).trans s4, (hbc.cell (p := ⟨wo.heap.size, 2, none⟩) hlf).trans s5⟩
            clear s3 s4 s5 hPk hSk hbk hbc HSX
            go_wp2_with fail
            refine (l12At_any _ _ L (nt A p.a k) (nt B p.b k) _ HTc.out).mono ?_
            rintro x w5 ⟨rfl, hb5⟩
            have c0 := (hb5.cell (p := ⟨gq, 0, none⟩) hgq2).trans c0
            have c1 := (hb5.cell (p := ⟨gq, 1, none⟩) hgq2).trans c1
            have c2 := (hb5.cell (p := ⟨gq, 2, none⟩) hgq2).trans c2
            have HT5 : Hid (TRow w5 (w.heap.size + 2) (.slice ao L.length co) L) := own_belowM HTc.out hb5
            have HB5 : Hid (Below (w.heap.size + 2) W1 w5) := HBc.out.trans (hb5.mono (by have := hgq2; omega))
            obtain ⟨hlf5, s3, s4, s5⟩ := HSc.out
            have HS5 : Hid (wo.heap.size < w5.heap.size ∧ w5.cell? ⟨wo.heap.size, 0, none⟩ = some (.int .i64 (p.a : Int)) ∧ w5.cell? ⟨wo.heap.size, 1, none⟩ = some (.int .i64 (p.b : Int)) ∧ w5.cell? ⟨wo.heap.size, 2, none⟩ = some (.string p.s)) := ⟨by have := hb5.size; omega, (hb5.cell (p := ⟨wo.heap.size, 0, none⟩) hlf5).trans s3, (hb5.cell (p := ⟨wo.heap.size, 1, none⟩) hlf5).trans s4, (hb5.cell (p := ⟨wo.heap.size, 2, none⟩) hlf5).trans s5⟩
            have hgq5 : gq < w5.heap.size := by have := hb5.size; omega
            clear s3 s4 s5 hb5 HTc HBc HSc hlf5
            by_cases hin : ix L (nt A p.a k) (nt B p.b k) < L.length
            · rw [if_pos hin]
              have hst : Hid (stk A B l p (k + 1) = L) := by
                show _ = _
                rw [stk, ← HLL.out]
                unfold pu
                exact if_pos hin
              have hnn : ¬ (((ix L (nt A p.a k) (nt B p.b k) : Nat) : Int) < 0) := by omega
              have HT6 : Hid (TRow w5 (w.heap.size + 2) (.slice ao L.length co) (stk A B l p (k + 1))) := by rw [hst.out]; exact HT5
              clear HT5
              go_wp2
              go_roundw
              case rel => exact ⟨k + 1, by omega, by go_num, HT6, hFk, HS5, HB5⟩
              case measure => simp [intOf]; omega
            · rw [if_neg hin]
              have hst : Hid (stk A B l p (k + 1) = L ++ [qn A B p k]) := by
                show _ = _
                rw [stk, ← HLL.out]
                unfold pu
                exact if_neg hin
              clear hin
              go_wp2_with (at_builtin; refine wpList_append_lies _ rfl _ _ 80 rfl (w.heap.size + 2) 83 i0 (.agg #[.int .i64 0, .int .i64 0, .string ⟨#[]⟩]) 3 32 Try.underlying80 hi hz0 hz1 hz2 rfl (by decide) _ L.length _ rfl (World.ownsRow.alloc HT5.out _) ⟨w5.heap.size, 0, none⟩ 1 1 [.int .i64 ((nt A p.a k : Nat) : Int), .int .i64 ((nt B p.b k : Nat) : Int), .string (p.s ++ ch k)] rfl rfl (World.news_of_block (heap_alloc_new w5 _)) (one3M _ _ _) (by omega) (by unfold maxLen; omega) (by omega) (by simp; omega) (w5.heap.size + 1) (by simp) ?_)
              intro g9 cap9 w9 hown9 hgrow9 hat9 hlt9
              have HT9 : Hid (TRow w9 (w.heap.size + 2) (.slice (some ⟨g9, 0, none⟩) (L.length + 1) cap9) (stk A B l p (k + 1))) := by
                rw [hst.out]
                exact TRow.snoc (q := qn A B p k) hown9
              have hlo := World.ownsRow.lt HT5.out
              have HB9 : Hid (Below (w.heap.size + 2) W1 w9) := ⟨hgrow9.os.trans HB5.out.os, hgrow9.tape.trans HB5.out.tape, hgrow9.output.trans HB5.out.output, by have := hgrow9.size; simp at this; have := HB5.out.size; omega, fun j hj => by
                have hj5 : j < w5.heap.size := by omega
                rw [hgrow9.block j (by simp; omega) (fun e => by have := (hlo j e.symm).1; omega), Below.heap_alloc _ _ _ hj5, HB5.out.block j hj]⟩
              have HF9 : Hid ((Value.slice (some ⟨g9, 0, none⟩) (L.length + 1) cap9).ownBlock ≠ some wo.heap.size) := fun e => by
                simp [Value.ownBlock] at e
                rcases hat9 with e2 | e2
                · exact hFk.out (by rw [e2, e])
                · omega
              obtain ⟨hlf5, s3, s4, s5⟩ := HS5.out
              have kb : w9.heap[wo.heap.size]? = w5.heap[wo.heap.size]? := by
                rw [hgrow9.block wo.heap.size (by simp; omega) (fun e => hFk.out e.symm), Below.heap_alloc _ _ _ hlf5]
              have HS9 : Hid (wo.heap.size < w9.heap.size ∧ w9.cell? ⟨wo.heap.size, 0, none⟩ = some (.int .i64 (p.a : Int)) ∧ w9.cell? ⟨wo.heap.size, 1, none⟩ = some (.int .i64 (p.b : Int)) ∧ w9.cell? ⟨wo.heap.size, 2, none⟩ = some (.string p.s)) := ⟨by have := hgrow9.size; simp at this; omega, (World.cell?_of_block (w := w5) kb).trans s3, (World.cell?_of_block (w := w5) kb).trans s4, (World.cell?_of_block (w := w5) kb).trans s5⟩
              clear hown9 hgrow9 hat9 HT5 HB5 HS5 s3 s4 s5 kb
              go_wp2
              go_roundw
              case rel => exact ⟨k + 1, by omega, by go_num, HT9, HF9, HS9, HB9⟩
              case measure => simp [intOf]; omega
        · have hk3' : k = 3 := by omega
          subst hk3'
          have hge : ¬ ((3 : Int) < 3) := by omega
          have HN : Hid (At A B (i + 1) (stk A B l p 3)) := by
            show At _ _ _ _
            rw [stk_3, ← HPP.out]
            exact hAt.out.next HGA.out HGB.out hlt
          go_wp2
          go_roundw
          case rel => exact ⟨i + 1, _, by go_num, HN, hPk, hbk⟩
          case measure => simp [intOf]; omega
    · have hke : i = l.length := by omega
      have hge : ¬ ((i : Int) < (l.length : Int)) := by omega
      have HD : Hid (l = prs A B) := hAt.out.done HGA.out HGB.out hke
      have HF : Hid (TRow wr w.heap.size (.slice ap l.length cp) (prs A B)) := by
        show World.ownsRow _ _ _ _ _ _ _
        rw [← HD.out]
        exact own_lowerM hP.out (by omega)
      have HBe : Hid (Below w.heap.size w wr) := hB1.trans (hbw.out.mono (by omega))
      clear hke hP hAt
      go_wp2
      go_ret
      exact ⟨_, rfl, HF.out, HBe.out⟩

end Go.Proofs.Ytecgjhnihagleaa
