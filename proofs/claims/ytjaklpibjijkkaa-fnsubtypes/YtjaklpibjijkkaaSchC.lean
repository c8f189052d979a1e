/- The program's walks up a schema. -/
import Derived.Test.YtjaklpibjijkkaaSchB
namespace Go.Proofs.Ytjaklpibjijkkaa
open Go.RowKit Plain Sch

/-- all types ahead of k are parts of ones ahead of them -/
def UpsTo (T : List Ty) (k : Nat) : Prop := (ty T 0).up = -1 ∧ ∀ i, 0 < i → i < k → 0 ≤ (ty T i).up ∧ (ty T i).up < i

theorem UpsTo.mono {T : List Ty} {k j : Nat} (h : UpsTo T k) (hj : j ≤ k) : UpsTo T j := ⟨h.1, fun i h0 hi => h.2 i h0 (by omega)⟩

set_option maxRecDepth 100000 in
set_option maxHeartbeats 4000000 in
theorem deepAt_any (T : List Ty) (v : Value) (k : Nat) (w : World) (hT : TysAt w w.heap.size v T) (hk : k < T.length) (hl : T.length ≤ 30) (hu : UpsTo T (k + 1)) :
    Calls Try.prog 60 #[v, .int .i64 k] w fun e w' => e = .returned (.int .i64 (deepAt T k : Int)) ∧ Below w.heap.size w w' := by
  obtain ⟨g, o, cap, rfl, hlc, hcm, hg, hrow, _⟩ := hT.open (by omega)
  clear hT
  obtain ⟨D, hD⟩ : ∃ D, D = deepAt T k := ⟨_, rfl⟩
  rw [← hD]
  have HD : Hid (D = deepAt T k) := hD
  clear hD
  have HU : Hid (UpsTo T (k + 1)) := hu
  clear hu
  go_enter Try.func60, Try.ntmps60
  go_wp2
  go_loopw [5, 6] (fun vd va wr => ∃ (d : Nat) (a : Int), vd = .int .i64 (d : Int) ∧ va = .int .i64 a ∧ d ≤ 100 ∧ Hid ((a = -1 ∧ d = D) ∨ ∃ j : Nat, a = (j : Int) ∧ j ≤ k ∧ d + deepAt T j = D ∧ d + j ≤ k) ∧ Below w.heap.size w wr)
    (fun _ va _ => (intOf va + 1).toNat)
  case atStart => exact ⟨0, k, by go_num, rfl, by omega, .inr ⟨k, rfl, Nat.le_refl _, by rw [HD.out]; omega, by omega⟩, Below.refl _ _⟩
  case round =>
    obtain ⟨d, a, rfl, rfl, hd100, hst, hbw⟩ := hrel
    rcases hst.out with ⟨rfl, rfl⟩ | ⟨j, rfl, hjk, hdd, hdj⟩
    · clear hst
      go_wp2
      go_ret
      exact ⟨rfl, hbw⟩
    · clear hst
      have hjl : j < T.length := by omega
      have hc := (hrow j hjl).below hbw hg
      have hup := HU.out
      obtain ⟨c0, c1, c2, c3, c4, c5⟩ := hc
      have hj0 : (0 : Int) ≤ (j : Int) := by omega
      have hj1 : (j : Int) < (T.length : Int) := by omega
      have hsz : g < wr.heap.size := by have := hbw.size; omega
      have hnext : Hid (((ty T j).up = -1 ∧ d + h1 T j = D) ∨ ∃ i : Nat, (ty T j).up = (i : Int) ∧ i ≤ k ∧ (d + h1 T j) + deepAt T i = D ∧ (d + h1 T j) + i ≤ k ∧ i < j) := by
        by_cases h0 : j = 0
        · subst h0
          left
          refine ⟨hup.1, ?_⟩
          rw [← hdd, deepAt_top T 0 (by have := hup.1; omega)]
        · right
          have hr := hup.2 j (by omega) (by omega)
          refine ⟨(ty T j).up.toNat, by omega, by omega, ?_, ?_, by omega⟩
          · rw [← hdd, deepAt_up T j hr]; omega
          · unfold h1; split <;> omega
      have hh1 : Hid (h1 T j = if holds (ty T j).kind then 1 else 0) := rfl
      clear hup hdd hrow
      obtain ⟨kind, hkind⟩ : ∃ x, (ty T j).kind = x := ⟨_, rfl⟩
      obtain ⟨name, hname⟩ : ∃ x, (ty T j).name = x := ⟨_, rfl⟩
      obtain ⟨no, hno⟩ : ∃ x, (ty T j).no = x := ⟨_, rfl⟩
      obtain ⟨must, hmust⟩ : ∃ x, (ty T j).must = x := ⟨_, rfl⟩
      obtain ⟨up, hup⟩ : ∃ x, (ty T j).up = x := ⟨_, rfl⟩
      obtain ⟨most, hmost⟩ : ∃ x, (ty T j).most = x := ⟨_, rfl⟩
      rw [hkind] at c0 hh1
      rw [hname] at c1
      rw [hno] at c2
      rw [hmust] at c3
      rw [hup] at c4 hnext
      rw [hmost] at c5
      clear hkind hname hno hmust hup hmost
      generalize h1 T j = hv at hh1 hnext
      go_wp2_with fail
      refine (hasParts_any kind name no must up most _).mono ?_
      rintro e w1 ⟨rfl, hb1⟩
      have hbw1 : Below w.heap.size w w1 := hbw.trans (hb1.mono hbw.size)
      have x4 := (hb1.cell (p := ⟨g, o + j * 6 + 4, none⟩) hsz).trans c4
      clear hb1 hbw c0 c1 c2 c3 c4 c5
      have hh1' := hh1.out
      clear hh1
      by_cases hh : holds kind = true
      · rw [hh] at hh1' ⊢
        rw [if_pos rfl] at hh1'
        subst hh1'
        clear hh
        go_wp2
        go_roundw
        case rel =>
          rcases hnext.out with ⟨rfl, hD⟩ | ⟨i, rfl, hi1, hi2, hi3, hi4⟩
          · exact ⟨d + 1, -1, by go_num, rfl, by omega, .inl ⟨rfl, hD⟩, hbw1⟩
          · exact ⟨d + 1, i, by go_num, rfl, by omega, .inr ⟨i, rfl, hi1, hi2, hi3⟩, hbw1⟩
        case measure =>
          rcases hnext.out with ⟨rfl, hD⟩ | ⟨i, rfl, hi1, hi2, hi3, hi4⟩ <;> simp [intOf] <;> omega
      · have hh' : holds kind = false := by simpa using hh
        rw [hh'] at hh1' ⊢
        rw [if_neg (by simp)] at hh1'
        subst hh1'
        clear hh hh'
        go_wp2
        go_roundw
        case rel =>
          rcases hnext.out with ⟨rfl, hD⟩ | ⟨i, rfl, hi1, hi2, hi3, hi4⟩
          · exact ⟨d, -1, by go_num, rfl, by omega, .inl ⟨rfl, hD⟩, hbw1⟩
          · exact ⟨d, i, by go_num, rfl, by omega, .inr ⟨i, rfl, hi1, hi2, hi3⟩, hbw1⟩
        case measure =>
          rcases hnext.out with ⟨rfl, hD⟩ | ⟨i, rfl, hi1, hi2, hi3, hi4⟩ <;> simp [intOf] <;> omega

end Go.Proofs.Ytjaklpibjijkkaa
