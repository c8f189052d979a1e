/- The program's looks at the instructions that are made better: hasCodes, isLedTo. -/
import Derived.Test.YtpopjapcgcnnfaaPhB
namespace Go.Proofs.Ytpopjapcgcnnfaa
open Go.RowKit Plain Sch Wan Prg

/-- how a peephole lies in memory -/
def HSt (w : World) (hb : Nat) (v : Value) (L : List Ins) : Prop :=
  hb < w.heap.size ∧ w.cell? ⟨hb, 0, none⟩ = some v ∧ w.frozen? ⟨hb, 0, none⟩ = false ∧ IRow w (hb + 1) v L

theorem HSt.below {w w' : World} {hb : Nat} {v : Value} {L : List Ins} (h : HSt w hb v L) (hb' : Below w.heap.size w w') : HSt w' hb v L := by
  obtain ⟨h1, h2, h3, h4⟩ := h
  exact ⟨Nat.lt_of_lt_of_le h1 hb'.size, (hb'.cell (p := ⟨hb, 0, none⟩) h1).trans h2, (hb'.frozen (p := ⟨hb, 0, none⟩) h1).trans h3, h4.below hb'⟩

theorem HSt.ins {w : World} {hb g cap : Nat} {L : List Ins} (h : HSt w hb (.slice (some ⟨g, 0, none⟩) L.length cap) L) {k : Nat} (hk : k < L.length) : InsIn w g (k * 6) (ins L k) := by
  have h0 := h.2.2.2
  unfold IRow at h0
  have c : ∀ j, j < 6 → w.cell? ⟨g, k * 6 + j, none⟩ = (Prg.ins L k).cells[j]? := fun j hj => by
    rw [h0.cellAt (k * 6 + j) (by omega)]
    exact flat6Ins L k j hk hj
  exact ⟨c 0 (by omega), c 1 (by omega), c 2 (by omega), c 3 (by omega), c 4 (by omega), c 5 (by omega)⟩

theorem HSt.form {w : World} {hb : Nat} {v : Value} {L : List Ins} (h : HSt w hb v L) (h0 : 0 < L.length) : ∃ g cap, v = .slice (some ⟨g, 0, none⟩) L.length cap ∧ hb < g ∧ g < w.heap.size ∧ L.length ≤ cap ∧ cap ≤ maxLen := by
  rcases h.2.2.2.2 with ⟨_, hn⟩ | ⟨g, cap, cur, rfl, hB, hg, h1, h2, _⟩
  · omega
  · exact ⟨g, cap, rfl, by omega, (Array.getElem?_eq_some_iff.1 hg).1, h1, h2⟩

/-- do these codes stand there -/
def hasC (L : List Ins) (i : Nat) (cs : List Int) : Bool := decide (i + cs.length ≤ L.length) && decide (∀ j, j < cs.length → (ins L (i + j)).code = cs.getD j 0)

set_option maxRecDepth 100000 in
set_option maxHeartbeats 4000000 in
theorem hasCodes_any (L : List Ins) (i : Nat) (cs : List Int) (hb cb ccap : Nat) (v : Value) (w : World) (hH : HSt w hb v L) (h0 : 0 < L.length) (h60 : L.length ≤ 60) (hi : i ≤ L.length) (hcs : cs.length ≤ 3) (hcb : cb < w.heap.size) (hcc : ∀ j, j < cs.length → w.cell? ⟨cb, j, none⟩ = some (.int .i64 (cs.getD j 0))) (hcl : cs.length ≤ ccap) (hcm : ccap ≤ 100) :
    Calls Try.prog 127 #[.pointer (some ⟨hb, 0, none⟩), .int .i64 i, .slice (some ⟨cb, 0, none⟩) cs.length ccap] w fun e w' => e = .returned (.bool (hasC L i cs)) ∧ w' = w := by
  obtain ⟨g, cap, rfl, hhg, hgw, hlc, hcm2⟩ := hH.form h0
  have HI : Hid (∀ k, k < L.length → InsIn w g (k * 6) (ins L k)) := fun k hk => hH.ins hk
  have HC : Hid (∀ j, j < cs.length → w.cell? ⟨cb, j, none⟩ = some (.int .i64 (cs.getD j 0))) := hcc
  obtain ⟨h1, h2, h3, _⟩ := hH
  have hcm3 : cap ≤ 9223372036854775807 := by unfold maxLen at hcm2; omega
  clear hcc
  by_cases hle : i + cs.length ≤ L.length
  · have hle' : ¬ (L.length : Int) - (i : Int) < (cs.length : Int) := by omega
    go_enter Try.func127, Try.ntmps127
    go_wp2
    go_loopw [21] (fun vj wr => ∃ j : Nat, j ≤ cs.length ∧ vj = .int .i64 (j : Int) ∧ wr = w ∧ Hid (∀ q, q < j → (ins L (i + q)).code = cs.getD q 0))
      (fun vj _ => cs.length - (intOf vj).toNat)
    case atStart => exact ⟨0, by omega, rfl, rfl, fun q hq => by omega⟩
    case round =>
      obtain ⟨j, hj, rfl, rfl, hall⟩ := hrel
      by_cases hlt : j < cs.length
      · have hlt' : (j : Int) < (cs.length : Int) := by omega
        have cj := HC.out j hlt
        obtain ⟨c0, _⟩ := HI.out (i + j) (by omega)
        have hij : (i : Int) + (j : Int) < (L.length : Int) := by omega
        have hij0 : (0 : Int) ≤ (i : Int) + (j : Int) := by omega
        have hNx : Hid ((ins L (i + j)).code = cs.getD j 0 → ∀ q, q < j + 1 → (ins L (i + q)).code = cs.getD q 0) := fun h q hq => by
          by_cases e : q = j
          · rw [e]; exact h
          · exact hall.out q (by omega)
        have hNo : Hid (¬ (ins L (i + j)).code = cs.getD j 0 → hasC L i cs = false) := fun h => by
          unfold hasC
          rw [Bool.and_eq_false_iff]
          right
          simp only [decide_eq_false_iff_not]
          exact fun hq => h (hq j hlt)
        generalize (ins L (i + j)).code = a at c0 hNx hNo
        generalize cs.getD j 0 = b at cj hNx hNo
        clear hall
        by_cases hab : a = b
        · subst hab
          have hN : Hid (∀ q, q < j + 1 → (ins L (i + q)).code = cs.getD q 0) := hNx.out rfl
          clear hNx hNo
          go_wp2
          go_roundw
          case rel => exact ⟨j + 1, by omega, by go_num, by first | rfl | trivial, hN⟩
          case measure => simp [intOf]; omega
        · have hab' : (a != b) = true := by simp [hab]
          have hF : Hid (hasC L i cs = false) := hNo.out hab
          clear hNx hNo hab
          go_wp2
          go_ret
          exact ⟨by rw [hF.out]; rfl, rfl⟩
      · have hlt' : ¬ (j : Int) < (cs.length : Int) := by omega
        have hF : Hid (hasC L i cs = true) := by
          show hasC L i cs = true
          unfold hasC
          simp only [Bool.and_eq_true, decide_eq_true_eq]
          exact ⟨hle, fun q hq => hall.out q (by omega)⟩
        clear hall
        go_wp2
        go_ret
        exact ⟨by rw [hF.out]; rfl, rfl⟩
  · have hle' : (L.length : Int) - (i : Int) < (cs.length : Int) := by omega
    have hF : Hid (hasC L i cs = false) := by
      show hasC L i cs = false
      unfold hasC
      simp [hle]
    go_enter Try.func127, Try.ntmps127
    go_wp2
    go_ret
    exact ⟨by rw [hF.out]; rfl, rfl⟩

set_option maxRecDepth 100000 in
set_option maxHeartbeats 2000000 in
theorem ledC_any (x : Ins) (q : Int) (b : Nat) (w : World) (hb : b < w.heap.size) (hc : w.cell? ⟨b, 0, none⟩ = some (.int .i64 q)) :
    Calls Try.prog 156 #[.agg #[.int .i64 x.code, .int .i64 x.kind, .int .i64 x.no, .int .i64 x.num, .string x.text, .int .i64 x.dst], .pointer (some ⟨b, 0, none⟩)] w fun e w' => e = .returned (.bool (decide (x.code = 3) && decide (x.dst = q))) ∧ Below w.heap.size w w' := by
  obtain ⟨c, k, n, m, t, jt⟩ := x
  dsimp only
  have hB : ∀ o, Below w.heap.size w (w.alloc o) := fun o => (Below.refl _ w).alloc (Nat.le_refl _) o
  by_cases h3 : c = 3
  · subst h3
    by_cases hq : jt = q
    · subst hq
      have hF : (decide ((3 : Int) = 3) && decide (jt = jt)) = true := by simp
      rw [hF]
      go_enter Try.func156, Try.ntmps156
      go_wp2
      go_ret
      exact ⟨rfl, hB _⟩
    · have hq' : (jt == q) = false := by simp [hq]
      have hF : (decide ((3 : Int) = 3) && decide (jt = q)) = false := by simp [hq]
      rw [hF]
      clear hq hF
      go_enter Try.func156, Try.ntmps156
      go_wp2
      go_ret
      exact ⟨rfl, hB _⟩
  · have h3' : (c == 3) = false := by simp [h3]
    have hF : (decide (c = 3) && decide (jt = q)) = false := by simp [h3]
    rw [hF]
    clear h3 hF
    go_enter Try.func156, Try.ntmps156
    go_wp2
    go_ret
    exact ⟨rfl, hB _⟩

set_option maxRecDepth 100000 in
set_option maxHeartbeats 4000000 in
theorem indexFunc_any (T : List Ins) (v : Value) (q : Int) (b : Nat) (w : World) (hT : InsAt w w.heap.size v T) (h60 : T.length ≤ 60) (hb : b < w.heap.size) (hc : w.cell? ⟨b, 0, none⟩ = some (.int .i64 q)) :
    Calls Try.prog 165 #[v, .func (.func 156) #[] #[.pointer (some ⟨b, 0, none⟩)]] w fun e w' => (∃ r : Int, e = .returned (.int .i64 r) ∧ -1 ≤ r ∧ r ≤ 60 ∧ (decide (0 ≤ r)) = led T q) ∧ Below w.heap.size w w' := by
  obtain ⟨ao, cap, rfl, hlc, hcm, hrow, _⟩ := hT
  have HROW : Hid (∀ i, i < T.length → ∃ g o, ao = some ⟨g, o, none⟩ ∧ g < w.heap.size ∧ InsIn w g (o + i * 6) (ins T i)) := hrow
  clear hrow
  unfold maxLen at hcm
  go_enter Try.func165, Try.ntmps165
  go_wp2
  go_loopw [8] (fun vi wr => ∃ i : Nat, i ≤ T.length ∧ vi = .int .i64 (i : Int) ∧ Hid (∀ j, j < i → ¬ ((ins T j).code = 3 ∧ (ins T j).dst = q)) ∧ Hid (Below w.heap.size w wr))
    (fun vi _ => T.length - (intOf vi).toNat)
  case atStart => exact ⟨0, by omega, rfl, fun j hj => by omega, Below.refl _ _⟩
  case round =>
    obtain ⟨i, hi, rfl, hall, hB⟩ := hrel
    by_cases hlt : i < T.length
    · have hlt' : (i : Int) < (T.length : Int) := by omega
      obtain ⟨g, o, rfl, hg, hty⟩ := HROW.out i hlt
      have hci := hty.below hB.out hg
      have hbr : b < wr.heap.size := by have := hB.out.size; omega
      have hcr := (hB.out.cell (p := ⟨b, 0, none⟩) hb).trans hc
      have hYes : Hid ((ins T i).code = 3 → (ins T i).dst = q → led T q = true) := fun h1 h2 => led_yes hlt h1 h2
      have hNx : Hid (¬ ((ins T i).code = 3 ∧ (ins T i).dst = q) → ∀ j, j < i + 1 → ¬ ((ins T j).code = 3 ∧ (ins T j).dst = q)) := fun h j hj => by
        by_cases e : j = i
        · rw [e]; exact h
        · exact hall.out j (by omega)
      have CC : Hid (∀ W : World, Below w.heap.size w W → Calls Try.prog 156 #[.agg #[.int .i64 (ins T i).code, .int .i64 (ins T i).kind, .int .i64 (ins T i).no, .int .i64 (ins T i).num, .string (ins T i).text, .int .i64 (ins T i).dst], .pointer (some ⟨b, 0, none⟩)] W fun e w' => e = .returned (.bool (decide ((ins T i).code = 3) && decide ((ins T i).dst = q))) ∧ Below W.heap.size W w') := fun W hW => ledC_any (ins T i) q b W (by have := hW.size; omega) ((hW.cell (p := ⟨b, 0, none⟩) hb).trans hc)
      generalize ins T i = x at hci hYes hNx CC
      obtain ⟨c, k, n, m, t, jt⟩ := x
      obtain ⟨c0, c1, c2, c3, c4, c5⟩ := hci
      dsimp only at c0 c1 c2 c3 c4 c5 hYes hNx CC
      clear hty hall
      by_cases h3 : c = 3 ∧ jt = q
      · have hF : Hid (led T q = true) := hYes.out h3.1 h3.2
        have hd : (decide (c = 3) && decide (jt = q)) = true := by simp [h3]
        rw [hd] at CC
        clear hYes hNx h3 hd
        go_wp2_with fail
        refine (CC.out _ hB.out).mono ?_
        rintro e w4 ⟨rfl, hb4⟩
        have hB4 : Below w.heap.size w w4 := hB.out.trans (hb4.mono hB.out.size)
        clear hb4
        go_wp2
        go_ret
        exact ⟨⟨(i : Int), rfl, by omega, by omega, by rw [hF.out]; simp⟩, hB4⟩
      · have hd : (decide (c = 3) && decide (jt = q)) = false := by
          by_cases h : c = 3
          · have : ¬ jt = q := fun e => h3 ⟨h, e⟩
            simp [this]
          · simp [h]
        have hN : Hid (∀ j, j < i + 1 → ¬ ((ins T j).code = 3 ∧ (ins T j).dst = q)) := hNx.out h3
        rw [hd] at CC
        clear hYes hNx h3 hd
        go_wp2_with fail
        refine (CC.out _ hB.out).mono ?_
        rintro e w4 ⟨rfl, hb4⟩
        have hB4 : Hid (Below w.heap.size w w4) := hB.out.trans (hb4.mono hB.out.size)
        clear hb4
        go_wp2
        go_roundw
        case rel => exact ⟨i + 1, by omega, by go_num, hN, hB4⟩
        case measure => simp [intOf]; omega
    · have hlt' : ¬ (i : Int) < (T.length : Int) := by omega
      have hF : Hid (led T q = false) := led_none (fun j hj => hall.out j (by omega))
      clear hall
      go_wp2
      go_ret
      exact ⟨⟨-1, rfl, by omega, by omega, by rw [hF.out]; decide⟩, hB.out⟩

set_option maxRecDepth 100000 in
set_option maxHeartbeats 2000000 in
theorem containsFunc_any (T : List Ins) (v : Value) (q : Int) (b : Nat) (w : World) (hT : InsAt w w.heap.size v T) (h60 : T.length ≤ 60) (hb : b < w.heap.size) (hc : w.cell? ⟨b, 0, none⟩ = some (.int .i64 q)) :
    Calls Try.prog 155 #[v, .func (.func 156) #[] #[.pointer (some ⟨b, 0, none⟩)]] w fun e w' => e = .returned (.bool (led T q)) ∧ Below w.heap.size w w' := by
  have CI : Hid (Calls Try.prog 165 #[v, .func (.func 156) #[] #[.pointer (some ⟨b, 0, none⟩)]] w fun e w' => (∃ r : Int, e = .returned (.int .i64 r) ∧ -1 ≤ r ∧ r ≤ 60 ∧ (decide (0 ≤ r)) = led T q) ∧ Below w.heap.size w w') := indexFunc_any T v q b w hT h60 hb hc
  obtain ⟨ao, cap, rfl, _⟩ := hT
  go_enter Try.func155, Try.ntmps155
  go_wp2_with fail
  refine CI.out.mono ?_
  rintro e w2 ⟨⟨r, rfl, hr1, hr2, hr3⟩, hb2⟩
  go_wp2
  go_ret
  exact ⟨by rw [← hr3]; rfl, hb2⟩

set_option maxRecDepth 100000 in
set_option maxHeartbeats 2000000 in
theorem isLedTo_any (L : List Ins) (q : Int) (hb : Nat) (v : Value) (w : World) (hH : HSt w hb v L) (h60 : L.length ≤ 60) (hT : ∀ x ∈ L, x.text.size ≤ 30) :
    Calls Try.prog 128 #[.pointer (some ⟨hb, 0, none⟩), .int .i64 q] w fun e w' => e = .returned (.bool (led L q)) ∧ Below w.heap.size w w' := by
  have hB1 : Below w.heap.size w (w.alloc (.cells #[.int .i64 q] 3)) := (Below.refl _ w).alloc (Nat.le_refl _) _
  have CI : Hid (Calls Try.prog 155 #[v, .func (.func 156) #[] #[.pointer (some ⟨w.heap.size, 0, none⟩)]] (w.alloc (.cells #[.int .i64 q] 3)) fun e w' => e = .returned (.bool (led L q)) ∧ Below (w.alloc (.cells #[.int .i64 q] 3)).heap.size (w.alloc (.cells #[.int .i64 q] 3)) w') := containsFunc_any L v q w.heap.size _ ((hH.below hB1).2.2.2.at hT) h60 (by simp) (by go_simp)
  obtain ⟨ao, cap, rfl, _⟩ := hH.2.2.2.slice
  obtain ⟨h1, h2, h3, _⟩ := hH
  go_enter Try.func128, Try.ntmps128
  go_wp2_with fail
  refine CI.out.mono ?_
  rintro e w2 ⟨rfl, hb2⟩
  go_wp2
  go_ret
  exact ⟨rfl, hB1.trans (hb2.mono (by simp))⟩

end Go.Proofs.Ytpopjapcgcnnfaa
