/- How types lie in memory: a slice's cells, six a type. The program's looks at one type of a schema. The program's walks up a schema. The program's walks up and along a schema, for each of its types. -/
import Derived.Test.YtpopjapcgcnnfaaRows
import Derived.Test.YtpopjapcgcnnfaaGa
import Derived.Lib.Slices
import Derived.Lib.SmallJoins
import Derived.OwnWalk
import Derived.WalkKit
import Derived.ProofKit
import Derived.Deep.QuietTactic
import Derived.BigQuiet
import Derived.WalkSpells
namespace Go.Proofs.Ytpopjapcgcnnfaa
open Go.RowKit Plain Sch

def Sch.Ty.cells (t : Ty) : List Value := [.int .i64 t.kind, .string t.name, .int .i64 t.no, .bool t.must, .int .i64 t.up, .int .i64 t.most]
def Sch.Ty.val (t : Ty) : Value := .agg #[.int .i64 t.kind, .string t.name, .int .i64 t.no, .bool t.must, .int .i64 t.up, .int .i64 t.most]

/-- a type's six cells -/
def TyIn (w : World) (g o : Nat) (t : Ty) : Prop :=
  w.cell? ⟨g, o, none⟩ = some (.int .i64 t.kind) ∧ w.cell? ⟨g, o + 1, none⟩ = some (.string t.name) ∧ w.cell? ⟨g, o + 2, none⟩ = some (.int .i64 t.no) ∧ w.cell? ⟨g, o + 3, none⟩ = some (.bool t.must) ∧ w.cell? ⟨g, o + 4, none⟩ = some (.int .i64 t.up) ∧ w.cell? ⟨g, o + 5, none⟩ = some (.int .i64 t.most)

theorem TyIn.below {w w' : World} {g o B : Nat} {t : Ty} (h : TyIn w g o t) (hb : Below B w w') (hg : g < B) : TyIn w' g o t := by
  obtain ⟨c0, c1, c2, c3, c4, c5⟩ := h
  exact ⟨(hb.cell (p := ⟨g, o, none⟩) hg).trans c0, (hb.cell (p := ⟨g, o + 1, none⟩) hg).trans c1, (hb.cell (p := ⟨g, o + 2, none⟩) hg).trans c2, (hb.cell (p := ⟨g, o + 3, none⟩) hg).trans c3, (hb.cell (p := ⟨g, o + 4, none⟩) hg).trans c4, (hb.cell (p := ⟨g, o + 5, none⟩) hg).trans c5⟩

/-- a slice of types, in blocks below B -/
def TysAt (w : World) (B : Nat) (v : Value) (T : List Ty) : Prop :=
  ∃ ao cap, v = .slice ao T.length cap ∧ T.length ≤ cap ∧ cap ≤ maxLen ∧ (∀ i, i < T.length → ∃ g o, ao = some ⟨g, o, none⟩ ∧ g < B ∧ TyIn w g (o + i * 6) (ty T i)) ∧ ∀ i, i < T.length → (ty T i).name.size ≤ maxLen

theorem TysAt.below {w w' : World} {v : Value} {T : List Ty} {B : Nat} (h : TysAt w B v T) (hb : Below B w w') (hB : B ≤ w.heap.size := by exact Nat.le_refl _) : TysAt w' w'.heap.size v T := by
  obtain ⟨ao, cap, hv, hc, hm, hr, hn⟩ := h
  refine ⟨ao, cap, hv, hc, hm, fun i hi => ?_, hn⟩
  obtain ⟨g, o, ha, hg, c⟩ := hr i hi
  have := hb.size
  exact ⟨g, o, ha, by omega, c.below hb hg⟩

/-- a slice with a type in it, opened -/
theorem TysAt.open {w : World} {v : Value} {T : List Ty} {B : Nat} (h : TysAt w B v T) (h0 : 0 < T.length) : ∃ g o cap, v = .slice (some ⟨g, o, none⟩) T.length cap ∧ T.length ≤ cap ∧ cap ≤ maxLen ∧ g < B ∧ (∀ i, i < T.length → TyIn w g (o + i * 6) (ty T i)) ∧ ∀ i, i < T.length → (ty T i).name.size ≤ maxLen := by
  obtain ⟨ao, cap, hv, hc, hm, hr, hn⟩ := h
  obtain ⟨g, o, ha, hg, _⟩ := hr 0 h0
  subst ha
  refine ⟨g, o, cap, hv, hc, hm, hg, fun i hi => ?_, hn⟩
  obtain ⟨g', o', ha, _, c⟩ := hr i hi
  simp only [Option.some.injEq, Addr.mk.injEq, and_true] at ha
  obtain ⟨rfl, rfl⟩ := ha
  exact c

theorem index_atS (s : ByteArray) (i : Int) (j x : Nat) (w : World) (h0 : 0 ≤ i) (hij : i = (j : Int)) (hj : j < s.size) (hx : bt s j = x) :
    (Instr.index 9 (.string s) (.int .i64 i)).run Try.prog w = .ok (.int .u8 (x : Int)) w := by
  rw [run_index_string w 9 s .i64 i Try.underlying9, dif_pos ⟨h0, by omega⟩]
  subst hij
  rw [← hx, ← bt_get s j hj]
  simp

theorem str_neB {a b : ByteArray} (h : ¬ a = b) : (a.toList == b.toList) = false := by
  rw [beq_eq_false_iff_ne]
  intro e
  apply h
  rw [ByteArray.toList_eq, ByteArray.toList_eq] at e
  apply ByteArray.ext
  exact Array.toList_inj.1 e

theorem below_drewN {B n : Nat} {a w : World} (h : Below B a w) : Below B a (w.drewN n) := ⟨h.os, h.tape, h.output, h.size, h.block⟩

end Go.Proofs.Ytpopjapcgcnnfaa

namespace Go.Proofs.Ytpopjapcgcnnfaa
open Go.RowKit Plain Sch

set_option maxRecDepth 100000 in
set_option maxHeartbeats 1000000 in
theorem hasParts_any (kind : Int) (name : ByteArray) (no : Int) (must : Bool) (up most : Int) (w : World) :
    Calls Try.prog 158 #[.agg #[.int .i64 kind, .string name, .int .i64 no, .bool must, .int .i64 up, .int .i64 most]] w fun e w' => e = .returned (.bool (holds kind)) ∧ Below w.heap.size w w' := by
  by_cases h4 : kind = 4
  · subst h4
    go_enter Try.func158, Try.ntmps158
    go_wp2
    go_ret
    exact ⟨rfl, (Below.refl _ w).alloc (Nat.le_refl _) _⟩
  · have d4 : (kind == 4) = false := by simpa using h4
    by_cases h5 : kind = 5
    · subst h5
      go_enter Try.func158, Try.ntmps158
      go_wp2
      go_ret
      exact ⟨rfl, (Below.refl _ w).alloc (Nat.le_refl _) _⟩
    · have d5 : (kind == 5) = false := by simpa using h5
      have hh : holds kind = false := by unfold holds; simp [h4, h5]
      rw [hh]
      go_enter Try.func158, Try.ntmps158
      go_wp2
      go_ret
      exact ⟨rfl, (Below.refl _ w).alloc (Nat.le_refl _) _⟩

set_option maxRecDepth 100000 in
set_option maxHeartbeats 1000000 in
theorem goodKind_any (kind : Int) (name : ByteArray) (no : Int) (must : Bool) (up most : Int) (w : World) :
    Calls Try.prog 136 #[.agg #[.int .i64 kind, .string name, .int .i64 no, .bool must, .int .i64 up, .int .i64 most]] w fun e w' => e = .returned (.bool (okKind ⟨kind, name, no, must, up, most⟩)) ∧ Below w.heap.size w w' := by
  have hB : ∀ o, Below w.heap.size w (w.alloc o) := fun o => (Below.refl _ w).alloc (Nat.le_refl _) o
  unfold okKind
  dsimp only
  by_cases h3 : kind = 3
  · subst h3
    by_cases m0 : 0 ≤ most
    · by_cases m20 : most ≤ 20
      · have hd : (decide ((1 : Int) ≤ 3) && decide ((3 : Int) ≤ 5) && (if (3 : Int) = 3 then decide (0 ≤ most) && decide (most ≤ 20) else decide (most = 0))) = true := by simp [m0, m20]
        rw [hd]
        go_enter Try.func136, Try.ntmps136
        go_wp2
        go_ret
        exact ⟨rfl, hB _⟩
      · have hd : (decide ((1 : Int) ≤ 3) && decide ((3 : Int) ≤ 5) && (if (3 : Int) = 3 then decide (0 ≤ most) && decide (most ≤ 20) else decide (most = 0))) = false := by simp [m20]
        rw [hd]
        have m20' : decide (most ≤ 20) = false := by simpa using m20
        clear m20
        go_enter Try.func136, Try.ntmps136
        go_wp2
        go_ret
        exact ⟨rfl, hB _⟩
    · have hd : (decide ((1 : Int) ≤ 3) && decide ((3 : Int) ≤ 5) && (if (3 : Int) = 3 then decide (0 ≤ most) && decide (most ≤ 20) else decide (most = 0))) = false := by simp [m0]
      rw [hd]
      have m0' : decide (0 ≤ most) = false := by simpa using m0
      clear m0
      go_enter Try.func136, Try.ntmps136
      go_wp2
      go_ret
      exact ⟨rfl, hB _⟩
  · rw [if_neg h3]
    have d3 : (kind == 3) = false := by simpa using h3
    by_cases hk : kind = 1 ∨ kind = 2 ∨ kind = 4 ∨ kind = 5
    · have hd : (decide (1 ≤ kind) && decide (kind ≤ 5) && decide (most = 0)) = (most == 0) := by
        have : decide (1 ≤ kind) = true := by simp; omega
        rw [this]
        have : decide (kind ≤ 5) = true := by simp; omega
        rw [this]
        simp
        rfl
      rw [hd]
      clear hd h3
      rcases hk with rfl | rfl | rfl | rfl
      all_goals
        go_enter Try.func136, Try.ntmps136
        go_wp2
        go_ret
        exact ⟨rfl, hB _⟩
    · have hd : (decide (1 ≤ kind) && decide (kind ≤ 5) && decide (most = 0)) = false := by
        by_cases h1 : 1 ≤ kind
        · have : decide (kind ≤ 5) = false := by simp; omega
          simp [this]
        · simp [h1]
      rw [hd]
      have d1 : (kind == 1) = false := by simp; omega
      have d2 : (kind == 2) = false := by simp; omega
      have d4 : (kind == 4) = false := by simp; omega
      have d5 : (kind == 5) = false := by simp; omega
      clear hk hd h3
      go_enter Try.func136, Try.ntmps136
      go_wp2
      go_ret
      exact ⟨rfl, hB _⟩

set_option maxRecDepth 100000 in
set_option maxHeartbeats 4000000 in
theorem isName_any (s : ByteArray) (w : World) (hs : s.size ≤ maxLen) :
    Calls Try.prog 139 #[.string s] w fun e w' => e = .returned (.bool (isName s)) ∧ w' = w := by
  unfold maxLen at hs
  by_cases h1 : 1 ≤ s.size
  · by_cases h10 : s.size ≤ 10
    · have h1' : (1 : Int) ≤ (s.size : Int) := by omega
      have h10' : (s.size : Int) ≤ 10 := by omega
      obtain ⟨R, hR⟩ : ∃ R, R = isName s := ⟨_, rfl⟩
      have HR : Hid (R = decide (1 ≤ s.size ∧ s.size ≤ 10 ∧ ∀ i, i < s.size → 97 ≤ bt s i ∧ bt s i ≤ 122)) := hR
      rw [← hR]
      clear hR hs
      go_enter Try.func139, Try.ntmps139
      go_wp2
      go_loopw [3] (fun vi wr => ∃ i : Nat, i ≤ s.size ∧ vi = .int .i64 (i : Int) ∧ Hid (∀ j, j < i → 97 ≤ bt s j ∧ bt s j ≤ 122) ∧ wr = w)
        (fun vi _ => s.size - (intOf vi).toNat)
      case atStart => exact ⟨0, by omega, rfl, fun j hj => by omega, rfl⟩
      case round =>
        obtain ⟨i, hi, rfl, hall, rfl⟩ := hrel
        by_cases hlt : i < s.size
        · have hlt' : (i : Int) < (s.size : Int) := by omega
          obtain ⟨x, hx⟩ : ∃ x, bt s i = x := ⟨_, rfl⟩
          have hx256 : x < 256 := by rw [← hx]; exact bt_lt s i
          have hrun : ∀ w : World, (Instr.index 9 (.string s) (.int .i64 (i : Int))).run Try.prog w = .ok (.int .u8 (x : Int)) w := fun w => index_atS s i i x w (by omega) rfl hlt hx
          have HX : Hid (bt s i = x) := hx
          clear hx
          by_cases ha : x < 97
          · have hn : Hid (R = false) := by
              show R = _
              rw [HR.out]
              simp only [decide_eq_false_iff_not]
              rintro ⟨_, _, h⟩
              have := (h i hlt).1
              rw [HX.out] at this
              omega
            have ha' : (x : Int) < 97 := by omega
            clear HR
            go_wp2
            go_ret
            exact ⟨by rw [hn.out]; rfl, rfl⟩
          · by_cases hz : 122 < x
            · have hn : Hid (R = false) := by
                show R = _
                rw [HR.out]
                simp only [decide_eq_false_iff_not]
                rintro ⟨_, _, h⟩
                have := (h i hlt).2
                rw [HX.out] at this
                omega
              have ha' : (97 : Int) ≤ (x : Int) := by omega
              have hz' : (122 : Int) < (x : Int) := by omega
              clear HR ha
              go_wp2
              go_ret
              exact ⟨by rw [hn.out]; rfl, rfl⟩
            · have ha' : (97 : Int) ≤ (x : Int) := by omega
              have hz' : (x : Int) ≤ 122 := by omega
              have hall2 : Hid (∀ j, j < i + 1 → 97 ≤ bt s j ∧ bt s j ≤ 122) := fun j hj => by
                by_cases hji : j = i
                · rw [hji, HX.out]; omega
                · exact hall.out j (by omega)
              clear ha hz
              go_wp2
              go_roundw
              case rel => exact ⟨i + 1, by omega, by go_num, hall2, trivial⟩
              case measure => simp [intOf]; omega
        · have hke : i = s.size := by omega
          subst hke
          have hge : ¬ ((s.size : Int) < (s.size : Int)) := by omega
          have hn : Hid (R = true) := by
            show R = _
            rw [HR.out]
            simp only [decide_eq_true_eq]
            exact ⟨h1, h10, hall.out⟩
          go_wp2
          go_ret
          exact ⟨by rw [hn.out]; rfl, rfl⟩
    · have hn : isName s = false := by unfold isName; simp only [decide_eq_false_iff_not]; omega
      rw [hn]
      have h1' : ¬ ((s.size : Int) < 1) := by omega
      have h10' : (10 : Int) < (s.size : Int) := by omega
      clear hn h1 h10
      go_enter Try.func139, Try.ntmps139
      go_wp2
      go_ret
      exact ⟨rfl, rfl⟩
  · have hn : isName s = false := by unfold isName; simp only [decide_eq_false_iff_not]; omega
    rw [hn]
    have h1' : (s.size : Int) < 1 := by omega
    clear hn h1
    go_enter Try.func139, Try.ntmps139
    go_wp2
    go_ret
    exact ⟨rfl, rfl⟩

end Go.Proofs.Ytpopjapcgcnnfaa

namespace Go.Proofs.Ytpopjapcgcnnfaa
open Go.RowKit Plain Sch

/-- all types ahead of k are parts of ones ahead of them -/
def UpsTo (T : List Ty) (k : Nat) : Prop := (ty T 0).up = -1 ∧ ∀ i, 0 < i → i < k → 0 ≤ (ty T i).up ∧ (ty T i).up < i

theorem UpsTo.mono {T : List Ty} {k j : Nat} (h : UpsTo T k) (hj : j ≤ k) : UpsTo T j := ⟨h.1, fun i h0 hi => h.2 i h0 (by omega)⟩

set_option maxRecDepth 100000 in
set_option maxHeartbeats 4000000 in
theorem deepAt_any (T : List Ty) (v : Value) (k : Nat) (w : World) (hT : TysAt w w.heap.size v T) (hk : k < T.length) (hl : T.length ≤ 30) (hu : UpsTo T (k + 1)) :
    Calls Try.prog 138 #[v, .int .i64 k] w fun e w' => e = .returned (.int .i64 (deepAt T k : Int)) ∧ Below w.heap.size w w' := by
  obtain ⟨g, o, cap, rfl, hlc, hcm, hg, hrow, _⟩ := hT.open (by omega)
  clear hT
  obtain ⟨D, hD⟩ : ∃ D, D = deepAt T k := ⟨_, rfl⟩
  rw [← hD]
  have HD : Hid (D = deepAt T k) := hD
  clear hD
  have HU : Hid (UpsTo T (k + 1)) := hu
  clear hu
  go_enter Try.func138, Try.ntmps138
  go_wp2
  go_loopw [5, 6] (fun vd va wr => ∃ (d : Nat) (a : Int), vd = .int .i64 (d : Int) ∧ va = .int .i64 a ∧ d ≤ 100 ∧ Hid ((a = -1 ∧ d = D) ∨ ∃ j : Nat, a = (j : Int) ∧ j ≤ k ∧ d + deepAt T j = D ∧ d + j ≤ k) ∧ Below w.heap.size w wr)
    (fun _ va _ => (intOf va + 1).toNat)
  case atStart => exact ⟨0, k, by go_num, rfl, by omega, .inr ⟨k, rfl, Nat.le_refl _, by rw [HD.out]; omega, by omega⟩, Below.refl _ _⟩
  case round =>
    obtain ⟨d, a, rfl, rfl, hd100, hst, hbw⟩ := hrel
    rcases hst.out with ⟨rfl, rfl⟩ | ⟨j, rfl, hjk, hdd, hdj⟩
    · clear hst
      go_wp2
      go_ret
      exact ⟨rfl, hbw⟩
    · clear hst
      have hjl : j < T.length := by omega
      have hc := (hrow j hjl).below hbw hg
      have hup := HU.out
      obtain ⟨c0, c1, c2, c3, c4, c5⟩ := hc
      have hj0 : (0 : Int) ≤ (j : Int) := by omega
      have hj1 : (j : Int) < (T.length : Int) := by omega
      have hsz : g < wr.heap.size := by have := hbw.size; omega
      have hnext : Hid (((ty T j).up = -1 ∧ d + h1 T j = D) ∨ ∃ i : Nat, (ty T j).up = (i : Int) ∧ i ≤ k ∧ (d + h1 T j) + deepAt T i = D ∧ (d + h1 T j) + i ≤ k ∧ i < j) := by
        by_cases h0 : j = 0
        · subst h0
          left
          refine ⟨hup.1, ?_⟩
          rw [← hdd, deepAt_top T 0 (by have := hup.1; omega)]
        · right
          have hr := hup.2 j (by omega) (by omega)
          refine ⟨(ty T j).up.toNat, by omega, by omega, ?_, ?_, by omega⟩
          · rw [← hdd, deepAt_up T j hr]; omega
          · unfold h1; split <;> omega
      have hh1 : Hid (h1 T j = if holds (ty T j).kind then 1 else 0) := rfl
      clear hup hdd hrow
      obtain ⟨kind, hkind⟩ : ∃ x, (ty T j).kind = x := ⟨_, rfl⟩
      obtain ⟨name, hname⟩ : ∃ x, (ty T j).name = x := ⟨_, rfl⟩
      obtain ⟨no, hno⟩ : ∃ x, (ty T j).no = x := ⟨_, rfl⟩
      obtain ⟨must, hmust⟩ : ∃ x, (ty T j).must = x := ⟨_, rfl⟩
      obtain ⟨up, hup⟩ : ∃ x, (ty T j).up = x := ⟨_, rfl⟩
      obtain ⟨most, hmost⟩ : ∃ x, (ty T j).most = x := ⟨_, rfl⟩
      rw [hkind] at c0 hh1
      rw [hname] at c1
      rw [hno] at c2
      rw [hmust] at c3
      rw [hup] at c4 hnext
      rw [hmost] at c5
      clear hkind hname hno hmust hup hmost
      generalize h1 T j = hv at hh1 hnext
      go_wp2_with fail
      refine (hasParts_any kind name no must up most _).mono ?_
      rintro e w1 ⟨rfl, hb1⟩
      have hbw1 : Below w.heap.size w w1 := hbw.trans (hb1.mono hbw.size)
      have x4 := (hb1.cell (p := ⟨g, o + j * 6 + 4, none⟩) hsz).trans c4
      clear hb1 hbw c0 c1 c2 c3 c4 c5
      have hh1' := hh1.out
      clear hh1
      by_cases hh : holds kind = true
      · rw [hh] at hh1' ⊢
        rw [if_pos rfl] at hh1'
        subst hh1'
        clear hh
        go_wp2
        go_roundw
        case rel =>
          rcases hnext.out with ⟨rfl, hD⟩ | ⟨i, rfl, hi1, hi2, hi3, hi4⟩
          · exact ⟨d + 1, -1, by go_num, rfl, by omega, .inl ⟨rfl, hD⟩, hbw1⟩
          · exact ⟨d + 1, i, by go_num, rfl, by omega, .inr ⟨i, rfl, hi1, hi2, hi3⟩, hbw1⟩
        case measure =>
          rcases hnext.out with ⟨rfl, hD⟩ | ⟨i, rfl, hi1, hi2, hi3, hi4⟩ <;> simp [intOf] <;> omega
      · have hh' : holds kind = false := by simpa using hh
        rw [hh'] at hh1' ⊢
        rw [if_neg (by simp)] at hh1'
        subst hh1'
        clear hh hh'
        go_wp2
        go_roundw
        case rel =>
          rcases hnext.out with ⟨rfl, hD⟩ | ⟨i, rfl, hi1, hi2, hi3, hi4⟩
          · exact ⟨d, -1, by go_num, rfl, by omega, .inl ⟨rfl, hD⟩, hbw1⟩
          · exact ⟨d, i, by go_num, rfl, by omega, .inr ⟨i, rfl, hi1, hi2, hi3⟩, hbw1⟩
        case measure =>
          rcases hnext.out with ⟨rfl, hD⟩ | ⟨i, rfl, hi1, hi2, hi3, hi4⟩ <;> simp [intOf] <;> omega

end Go.Proofs.Ytpopjapcgcnnfaa

namespace Go.Proofs.Ytpopjapcgcnnfaa
open Go.RowKit Plain Sch

/-- whether a type is a part of the one ahead of it, or of one that this is in -/
def rb (T : List Ty) (k : Nat) : Bool := decide (0 ≤ (ty T k).up) && decide ((ty T k).up.toNat ∈ chain T (k - 1)) && holds (ty T (ty T k).up.toNat).kind

set_option maxRecDepth 100000 in
set_option maxHeartbeats 4000000 in
theorem isRightBehind_any (T : List Ty) (v : Value) (k : Nat) (w : World) (hT : TysAt w w.heap.size v T) (hk : k < T.length) (hk1 : 1 ≤ k) (hl : T.length ≤ 30) (hu : UpsTo T k) :
    Calls Try.prog 137 #[v, .int .i64 k] w fun e w' => e = .returned (.bool (rb T k)) ∧ Below w.heap.size w w' := by
  obtain ⟨g, o, cap, rfl, hlc, hcm, hg, hrow, _⟩ := hT.open (by omega)
  clear hT
  obtain ⟨R, hR⟩ : ∃ R, R = rb T k := ⟨_, rfl⟩
  rw [← hR]
  have HR : Hid (R = rb T k) := hR
  clear hR
  have HU : Hid (UpsTo T k) := hu
  clear hu
  have hk' : (k : Int) < (T.length : Int) := by omega
  have hk0' : (0 : Int) ≤ (k : Int) := by omega
  obtain ⟨up, hup⟩ : ∃ x, (ty T k).up = x := ⟨_, rfl⟩
  have HUP : Hid ((ty T k).up = up) := hup
  have hck := (hrow k hk).2.2.2.2.1
  rw [hup] at hck
  clear hup
  go_enter Try.func137, Try.ntmps137
  go_wp2
  go_loopw [5] (fun va wr => ∃ (a : Int), va = .int .i64 a ∧ Hid ((a = -1 ∧ ¬ (0 ≤ up ∧ up.toNat ∈ chain T (k - 1))) ∨ ∃ j : Nat, a = (j : Int) ∧ j < k ∧ ((0 ≤ up ∧ up.toNat ∈ chain T (k - 1)) ↔ (0 ≤ up ∧ up.toNat ∈ chain T j))) ∧ Below w.heap.size w wr)
    (fun va _ => (intOf va + 1).toNat)
  case atStart => exact ⟨(k : Int) - 1, by go_num, .inr ⟨k - 1, by omega, by omega, Iff.rfl⟩, Below.refl _ _⟩
  case round =>
    obtain ⟨a, rfl, hst, hbw⟩ := hrel
    rcases hst.out with ⟨rfl, hno⟩ | ⟨j, rfl, hjk, hiff⟩
    · have hn : Hid (R = false) := by
        show R = _
        rw [HR.out]
        unfold rb
        rw [HUP.out]
        by_cases h0 : 0 ≤ up
        · have : ¬ up.toNat ∈ chain T (k - 1) := fun h => hno ⟨h0, h⟩
          simp [this]
        · simp [h0]
      clear hst hno
      go_wp2
      go_ret
      exact ⟨by rw [hn.out]; rfl, hbw⟩
    · clear hst
      have hjl : j < T.length := by omega
      have hc := (hrow j hjl).below hbw hg
      have y4 := (hbw.cell (p := ⟨g, o + k * 6 + 4, none⟩) hg).trans hck
      have hj0 : (0 : Int) ≤ (j : Int) := by omega
      have hj1 : (j : Int) < (T.length : Int) := by omega
      have hsz : g < wr.heap.size := by have := hbw.size; omega
      have hupj : Hid (((ty T j).up = -1 ∧ j = 0) ∨ (0 ≤ (ty T j).up ∧ (ty T j).up < j)) := by
        by_cases h0 : j = 0
        · subst h0; exact .inl ⟨HU.out.1, rfl⟩
        · exact .inr (HU.out.2 j (by omega) hjk)
      by_cases he : (j : Int) = up
      · have he' : ((j : Int) == up) = true := by simpa using he
        have hn : Hid (R = holds (ty T j).kind) := by
          show R = _
          rw [HR.out]
          unfold rb
          rw [HUP.out, ← he]
          have hm : j ∈ chain T (k - 1) := by
            have := hiff.2 (by rw [← he, Int.toNat_natCast]; exact ⟨by omega, self_chain T j⟩)
            rw [← he, Int.toNat_natCast] at this
            exact this.2
          simp [hm]
        obtain ⟨t, ht⟩ : ∃ t, ty T j = t := ⟨_, rfl⟩
        rw [ht] at hc hn
        clear ht hupj he hiff hrow hck
        obtain ⟨kind, name, no, must, upj, most⟩ := t
        obtain ⟨c0, c1, c2, c3, c4, c5⟩ := hc
        dsimp only at c0 c1 c2 c3 c4 c5 hn
        go_wp2_with fail
        refine (hasParts_any kind name no must upj most _).mono ?_
        rintro e w1 ⟨rfl, hb1⟩
        go_wp2
        go_ret
        exact ⟨by rw [hn.out]; rfl, hbw.trans (hb1.mono hbw.size)⟩
      · have he' : ((j : Int) == up) = false := by simpa using he
        have hc4 := hc.2.2.2.2.1
        have hnext : Hid (((ty T j).up = -1 ∧ ¬ (0 ≤ up ∧ up.toNat ∈ chain T (k - 1))) ∨ ∃ i : Nat, (ty T j).up = (i : Int) ∧ i < k ∧ ((0 ≤ up ∧ up.toNat ∈ chain T (k - 1)) ↔ (0 ≤ up ∧ up.toNat ∈ chain T i)) ∧ i < j) := by
          rcases hupj.out with ⟨hu1, rfl⟩ | hu1
          · left
            refine ⟨hu1, fun h => ?_⟩
            have := hiff.1 h
            rw [chain_top T 0 (by omega)] at this
            simp at this
            omega
          · right
            refine ⟨(ty T j).up.toNat, by omega, by omega, ?_, by omega⟩
            rw [hiff, chain_up T j hu1, List.mem_cons]
            constructor
            · rintro ⟨h0, h | h⟩
              · omega
              · exact ⟨h0, h⟩
            · rintro ⟨h0, h⟩
              exact ⟨h0, .inr h⟩
        generalize (ty T j).up = upj at hc4 hnext
        clear hc hupj hiff he
        go_wp2
        go_roundw
        case rel =>
          rcases hnext.out with ⟨rfl, hD⟩ | ⟨i, rfl, hi1, hi2, hi3⟩
          · exact ⟨-1, rfl, .inl ⟨rfl, hD⟩, hbw⟩
          · exact ⟨i, rfl, .inr ⟨i, rfl, hi1, hi2⟩, hbw⟩
        case measure =>
          rcases hnext.out with ⟨rfl, hD⟩ | ⟨i, rfl, hi1, hi2, hi3⟩ <;> simp [intOf] <;> omega

end Go.Proofs.Ytpopjapcgcnnfaa
