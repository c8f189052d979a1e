/- The law's own looks at a Program: how great they are, whether two are alike. -/
import Derived.Test.YtpopjapcgcnnfaaPwM
import Derived.Deep.RegionWith
namespace Go.Proofs.Ytpopjapcgcnnfaa
open Go.RowKit Plain Sch Prg

set_option maxRecDepth 100000 in
set_option maxHeartbeats 1000000 in
theorem szInstr_any (code : Int) (kind : Int) (no : Int) (num : Int) (text : ByteArray) (dst : Int) (left : Int) (w : World) (hn : text.size ≤ maxLen) (h0 : 0 ≤ left) (h1 : left ≤ 1048576) :
    Calls Try.prog 87 #[.agg #[.int .i64 code, .int .i64 kind, .int .i64 no, .int .i64 num, .string text, .int .i64 dst], .int .i64 left] w fun e w' => (∃ r : Int, e = .returned (.int .i64 r) ∧ -1 ≤ r ∧ r ≤ left ∧ (0 ≤ r → (text.size : Int) ≤ left)) ∧ Below w.heap.size w w' := by
  unfold maxLen at hn
  by_cases hlt : left - (text.size : Int) < 0
  · go_enter Try.func87, Try.ntmps87
    go_wp2
    go_ret
    exact ⟨⟨-1, rfl, by omega, by omega, fun h => by omega⟩, (Below.refl _ w).alloc (Nat.le_refl _) _⟩
  · go_enter Try.func87, Try.ntmps87
    go_wp2
    go_ret
    exact ⟨⟨left - (text.size : Int), rfl, by omega, by omega, fun h => by omega⟩, (Below.refl _ w).alloc (Nat.le_refl _) _⟩

set_option maxRecDepth 100000 in
set_option maxHeartbeats 4000000 in
theorem szInstrS_left (T : List Ins) (v : Value) (L : Int) (w : World) (hT : InsAt w w.heap.size v T) (hL0 : 0 ≤ L) (hL1 : L ≤ 1048576) :
    Calls Try.prog 49 #[v, .int .i64 L] w fun e w' => (∃ r : Int, e = .returned (.int .i64 r) ∧ -1 ≤ r ∧ r ≤ 1048576 ∧ (0 ≤ r → T.length ≤ 1048576 ∧ ∀ i, i < T.length → (ins T i).text.size ≤ 1048576)) ∧ Below w.heap.size w w' := by
  by_cases hbig : L < (T.length : Int)
  · obtain ⟨ao, cap, rfl, hlc, hcm, _⟩ := hT
    unfold maxLen at hcm
    have hlt : L - (T.length : Int) < 0 := by omega
    have hge : (-9223372036854775808 : Int) ≤ L - (T.length : Int) := by omega
    go_enter Try.func49, Try.ntmps49
    go_wp2
    go_ret
    exact ⟨⟨-1, rfl, by omega, by omega, fun h => by omega⟩, Below.refl _ _⟩
  · have hlen : T.length ≤ 1048576 := by omega
    have hlen' : (T.length : Int) ≤ 1048576 := by omega
    have hge : ¬ (L - (T.length : Int) < 0) := by omega
    have HT : Hid (InsAt w w.heap.size v T) := hT
    obtain ⟨ao, cap, rfl, hlc, hcm, hrow, hnm⟩ := hT
    have HNM : Hid (∀ i, i < T.length → (ins T i).text.size ≤ maxLen) := hnm
    have HROW : Hid (∀ i, i < T.length → ∃ g o, ao = some ⟨g, o, none⟩ ∧ g < w.heap.size ∧ InsIn w g (o + i * 6) (ins T i)) := hrow
    clear hrow hnm hbig
    go_enter Try.func49, Try.ntmps49
    go_wp2
    go_loopw [1, 5] (fun vl vi wr => ∃ (i : Nat) (left : Int), i ≤ T.length ∧ vi = .int .i64 (i : Int) ∧ vl = .int .i64 left ∧ 0 ≤ left ∧ left ≤ 1048576 ∧ Hid (∀ j, j < i → (ins T j).text.size ≤ 1048576) ∧ Below w.heap.size w wr)
      (fun _ vi _ => T.length - (intOf vi).toNat)
    case atStart => exact ⟨0, L - (T.length : Int), by omega, rfl, rfl, by omega, by omega, fun j hj => by omega, Below.refl _ _⟩
    case round =>
      obtain ⟨i, left, hi, rfl, rfl, hl0, hl1, hall, hbw⟩ := hrel
      by_cases hlt : i < T.length
      · have hlt' : (i : Int) < (T.length : Int) := by omega
        obtain ⟨g, o, rfl, hg, hty⟩ := HROW.out i hlt
        have hci := hty.below hbw hg
        have hni := HNM.out i hlt
        obtain ⟨ti, hti⟩ : ∃ t, ins T i = t := ⟨_, rfl⟩
        have HTI : Hid (ins T i = ti) := hti
        rw [hti] at hci hni
        clear hti hty
        obtain ⟨code, kind, no, num, text, dst⟩ := ti
        obtain ⟨c0, c1, c2, c3, c4, c5⟩ := hci
        dsimp only at c0 c1 c2 c3 c4 c5 hni
        go_wp2_with fail
        refine (szInstr_any code kind no num text dst left _ hni hl0 hl1).mono ?_
        rintro e w2 ⟨⟨r, rfl, hr0, hr1, hr2⟩, hb2⟩
        have hbw2 : Below w.heap.size w w2 := hbw.trans (hb2.mono hbw.size)
        by_cases hneg : r < 0
        · clear hr2
          go_wp2
          go_ret
          exact ⟨⟨-1, rfl, by omega, by omega, fun h => by omega⟩, hbw2⟩
        · have hnn : (text.size : Int) ≤ left := hr2 (by omega)
          have hall2 : Hid (∀ j, j < i + 1 → (ins T j).text.size ≤ 1048576) := fun j hj => by
            by_cases hji : j = i
            · rw [hji, HTI.out]; show text.size ≤ _; omega
            · exact hall.out j (by omega)
          clear hr2
          go_wp2
          go_roundw
          case rel => exact ⟨i + 1, r, by omega, by go_num, rfl, by omega, by omega, hall2, hbw2⟩
          case measure => simp [intOf]; omega
      · have hke : i = T.length := by omega
        subst hke
        have hge2 : ¬ ((T.length : Int) < (T.length : Int)) := by omega
        go_wp2
        go_ret
        exact ⟨⟨left, rfl, by omega, by omega, fun _ => by first | exact ⟨hlen, hall.out⟩ | exact hall.out⟩, hbw⟩

set_option maxRecDepth 100000 in
set_option maxHeartbeats 1000000 in
theorem szProgram_left (T : List Ins) (v : Value) (L : Int) (w : World) (hT : InsAt w w.heap.size v T) (hL0 : 0 ≤ L) (hL1 : L ≤ 1048576) :
    Calls Try.prog 13 #[.agg #[v], .int .i64 L] w fun e w' => (∃ r : Int, e = .returned (.int .i64 r) ∧ -1 ≤ r ∧ r ≤ 1048576 ∧ (0 ≤ r → T.length ≤ 1048576 ∧ ∀ i, i < T.length → (ins T i).text.size ≤ 1048576)) ∧ Below w.heap.size w w' := by
  have hB1 : ∀ o, Below w.heap.size w (w.alloc o) := fun o => (Below.refl _ w).alloc (Nat.le_refl _) o
  have HT : Hid (InsAt w w.heap.size v T) := hT
  obtain ⟨ao, cap, rfl, _⟩ := hT
  go_enter Try.func13, Try.ntmps13
  go_wp2_with fail
  refine (szInstrS_left T _ L _ (HT.out.below (hB1 _)) hL0 hL1).mono ?_
  rintro e w2 ⟨⟨r, rfl, hr0, hr1, hr2⟩, hb2⟩
  have hB2 : Below w.heap.size w w2 := (hB1 _).trans (hb2.mono (by simp))
  by_cases hneg : r < 0
  · clear hr2
    go_wp2
    go_ret
    exact ⟨⟨-1, rfl, by omega, by omega, fun h => by omega⟩, hB2⟩
  · have HR2 : Hid (0 ≤ r → T.length ≤ 1048576 ∧ ∀ i, i < T.length → (ins T i).text.size ≤ 1048576) := hr2
    clear hr2
    go_wp2
    go_ret
    exact ⟨⟨r, rfl, by omega, by omega, HR2.out⟩, hB2⟩

theorem szProgram_any (T : List Ins) (v : Value) (w : World) (hT : InsAt w w.heap.size v T) :
    Calls Try.prog 13 #[.agg #[v], .int .i64 1048576] w fun e w' => (∃ r : Int, e = .returned (.int .i64 r) ∧ -1 ≤ r ∧ r ≤ 1048576 ∧ (0 ≤ r → T.length ≤ 1048576 ∧ ∀ i, i < T.length → (ins T i).text.size ≤ 1048576)) ∧ Below w.heap.size w w' :=
  szProgram_left T v 1048576 w hT (by omega) (by omega)

set_option maxRecDepth 100000 in
set_option maxHeartbeats 1000000 in
theorem eqInstr_same (code : Int) (kind : Int) (no : Int) (num : Int) (text : ByteArray) (dst : Int) (w : World) :
    Calls Try.prog 91 #[.agg #[.int .i64 code, .int .i64 kind, .int .i64 no, .int .i64 num, .string text, .int .i64 dst], .agg #[.int .i64 code, .int .i64 kind, .int .i64 no, .int .i64 num, .string text, .int .i64 dst]] w fun e w' => e = .returned (.bool true) ∧ Below w.heap.size w w' := by
  go_enter Try.func91, Try.ntmps91
  go_wp2
  go_ret
  exact ⟨rfl, by repeat' (first | exact Below.refl _ _ | refine Below.alloc ?_ (by simp) _)⟩

set_option maxRecDepth 100000 in
set_option maxHeartbeats 4000000 in
theorem eqInstrS_same (T : List Ins) (v1 v2 : Value) (w : World) (h1 : InsAt w w.heap.size v1 T) (h2 : InsAt w w.heap.size v2 T) (hl : T.length ≤ 2097152) :
    Calls Try.prog 54 #[v1, v2] w fun e w' => e = .returned (.bool true) ∧ Below w.heap.size w w' := by
  obtain ⟨ao, cap, rfl, _, hmax, hrow, _⟩ := h1
  obtain ⟨ao2, cap2, rfl, _, _, hrow2, _⟩ := h2
  have HROW : Hid (∀ i, i < T.length → ∃ g o, ao = some ⟨g, o, none⟩ ∧ g < w.heap.size ∧ InsIn w g (o + i * 6) (ins T i)) := hrow
  have HROW2 : Hid (∀ i, i < T.length → ∃ g o, ao2 = some ⟨g, o, none⟩ ∧ g < w.heap.size ∧ InsIn w g (o + i * 6) (ins T i)) := hrow2
  clear hrow hrow2
  go_enter Try.func54, Try.ntmps54
  go_wp2
  go_loopw [5] (fun vi wr => ∃ k : Nat, k ≤ T.length ∧ vi = .int .i64 (k : Int) ∧ Below w.heap.size w wr)
    (fun vi _ => T.length - (intOf vi).toNat)
  case atStart => exact ⟨0, by omega, rfl, Below.refl _ _⟩
  case round =>
    obtain ⟨k, hk, rfl, hbw⟩ := hrel
    by_cases hlt : k < T.length
    · obtain ⟨g, o, rfl, hgB, hy1⟩ := HROW.out k hlt
      obtain ⟨g2, o2, rfl, hgB2, hy2⟩ := HROW2.out k hlt
      have e1 := hy1.below hbw hgB
      have e2 := hy2.below hbw hgB2
      clear hy1 hy2
      obtain ⟨ti, hti⟩ : ∃ t, ins T k = t := ⟨_, rfl⟩
      rw [hti] at e1 e2
      clear hti
      obtain ⟨code, kind, no, num, text, dst⟩ := ti
      obtain ⟨c0, c1, c2, c3, c4, c5⟩ := e1
      obtain ⟨x0, x1, x2, x3, x4, x5⟩ := e2
      dsimp only at c0 c1 c2 c3 c4 c5 x0 x1 x2 x3 x4 x5
      have hlt' : (k : Int) < (T.length : Int) := by omega
      have C2 : Hid (∀ w : World, Calls Try.prog 91 #[.agg #[.int .i64 code, .int .i64 kind, .int .i64 no, .int .i64 num, .string text, .int .i64 dst], .agg #[.int .i64 code, .int .i64 kind, .int .i64 no, .int .i64 num, .string text, .int .i64 dst]] w fun e w' => e = .returned (.bool true) ∧ Below w.heap.size w w') := fun w => eqInstr_same code kind no num text dst w
      go_wp2_with fail
      go_region_with (go_at_call 91; refine (C2.out _).mono ?_; rintro e w2 ⟨rfl, hb2⟩; have hbw2 : Below w.heap.size w w2 := hbw.drew.trans (hb2.mono hbw.size))
      all_goals
        go_wp2
        go_roundw
        case rel => exact ⟨k + 1, by omega, by go_num, hbw2⟩
        case measure => simp [intOf]; omega
    · have hke : k = T.length := by omega
      subst hke
      have hge : ¬ ((T.length : Int) < (T.length : Int)) := by omega
      go_wp2
      go_ret
      exact ⟨rfl, hbw⟩

set_option maxRecDepth 100000 in
set_option maxHeartbeats 1000000 in
theorem eqProgram_same (T : List Ins) (v1 v2 : Value) (w : World) (h1 : InsAt w w.heap.size v1 T) (h2 : InsAt w w.heap.size v2 T) (hl : T.length ≤ 2097152) :
    Calls Try.prog 17 #[.agg #[v1], .agg #[v2]] w fun e w' => e = .returned (.bool true) ∧ Below w.heap.size w w' := by
  have H1 : Hid (InsAt w w.heap.size v1 T) := h1
  have H2 : Hid (InsAt w w.heap.size v2 T) := h2
  obtain ⟨ao, cap, rfl, _⟩ := h1
  obtain ⟨ao2, cap2, rfl, _⟩ := h2
  have hB1 : ∀ o1 o2, Below w.heap.size w ((w.alloc o1).alloc o2) := fun o1 o2 => ((Below.refl _ w).alloc (Nat.le_refl _) o1).alloc (by simp) o2
  go_enter Try.func17, Try.ntmps17
  go_wp2_with fail
  refine (eqInstrS_same T _ _ _ (H1.out.below (hB1 _ _)) (H2.out.below (hB1 _ _)) hl).mono ?_
  rintro e w2 ⟨rfl, hb2⟩
  go_wp2
  go_ret
  exact ⟨rfl, (hB1 _ _).trans (hb2.mono (by simp; omega))⟩

end Go.Proofs.Ytpopjapcgcnnfaa
