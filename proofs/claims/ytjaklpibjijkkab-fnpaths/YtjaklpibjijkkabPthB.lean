/- The path of a type: the model's l3Path and the program's appendPath. -/
import Derived.Test.YtjaklpibjijkkabPthA
import Derived.Test.YtjaklpibjijkkabSchM
import Derived.Lib.AppendStr
import Derived.Lib.VarintMem
import Derived.Laws.BytesArg
import Derived.Lib.LazyBuf
namespace Go.Proofs.Ytjaklpibjijkkab
open Go.RowKit Plain Sch

theorem Try.infoU8p : (Try.prog.info? 5).map (fun i => (i.zero, i.size, i.bytes)) = some (some (.int .u8 0), 1, 1) := by kernel_rfl

theorem isEmpty_of {p : ByteArray} (h : p.size = 0) : p = ⟨#[]⟩ := by
  apply ByteArray.ext
  exact Array.eq_empty_of_size_eq_zero h

theorem notEmpty_of {p : ByteArray} (h : p.size ≠ 0) : p.toList.isEmpty = false := by
  rw [ByteArray.toList_eq]
  cases hl : p.data.toList with
  | nil => exact absurd (by show p.data.size = 0; rw [← Array.length_toList, hl]; rfl) h
  | cons => rfl

set_option maxRecDepth 100000 in
set_option maxHeartbeats 4000000 in
theorem l3Path_any (T : List Ty) (v : Value) (hG : gs T = true) : ∀ (k : Nat) (w : World), TysAt w w.heap.size v T → k < T.length →
    Calls Try.prog 22 #[.agg #[v], .int .i64 k] w fun e w' => e = .returned (.tuple #[.string (po (path T k)).1, .bool (po (path T k)).2]) ∧ Below w.heap.size w w' := by
  intro k
  induction k using Nat.strongRecOn with
  | ind k ih0 =>
    intro w hT hk
    have HT : Hid (TysAt w w.heap.size v T) := hT
    have ih : Hid (∀ m, m < k → ∀ (w : World), TysAt w w.heap.size v T → m < T.length → Calls Try.prog 22 #[.agg #[v], .int .i64 m] w fun e w' => e = .returned (.tuple #[.string (po (path T m)).1, .bool (po (path T m)).2]) ∧ Below w.heap.size w w') := ih0
    clear ih0
    have h30 := (gs_parts T hG).2.1
    obtain ⟨g, o, cap, rfl, hlc, hcm, hg, hrow, hnm⟩ := hT.open (by omega)
    clear hT
    have hcm' : cap ≤ 9223372036854775807 := by unfold maxLen at hcm; omega
    have hci := hrow k hk
    have hk' : (k : Int) < (T.length : Int) := by omega
    have hk0' : (0 : Int) ≤ (k : Int) := by omega
    obtain ⟨R, hR⟩ : ∃ R, R = po (path T k) := ⟨_, rfl⟩
    rw [← hR]
    have HR : Hid (R = po (path T k)) := hR
    clear hR
    by_cases h0 : k = 0
    · subst h0
      obtain ⟨c0, c1, c2, c3, c4, c5⟩ := hci
      have hn : Hid (R = (⟨#[]⟩, true)) := by show R = _; rw [HR.out, path_zero]; rfl
      clear hrow hnm
      simp only [Nat.zero_mul, Nat.add_zero] at c0 c1 c2 c3 c4 c5
      go_enter Try.func22, Try.ntmps22
      go_wp2
      go_ret2
      exact ⟨by rw [hn.out]; rfl, ((Below.refl _ w).alloc (Nat.le_refl _) _).alloc (by simp) _⟩
    · obtain ⟨u, hu, huk, hkind, hname⟩ := gs_up T hG k (by omega) hk
      have hcu := (hrow u (by omega)).1
      have HC : Hid (ty T k = ty T k) := rfl
      have hu' : (u : Int) < (T.length : Int) := by omega
      have hu0' : (0 : Int) ≤ (u : Int) := by omega
      have hknz : ((k : Int) == 0) = false := by simp; omega
      have HS : Hid (∀ p, path T u = some p → p.size ≤ 11 * u ∧ (p.size = 0 ↔ u = 0)) := path_size T hG u (by omega)
      have P0 : Hid ((ty T u).kind ≠ 5 → R = (⟨#[]⟩, false)) := fun h5 => by rw [HR.out, path_list T k u (by omega) hu huk h5]; rfl
      have P1 : Hid ((ty T u).kind = 5 → path T u = none → R = (⟨#[]⟩, false)) := fun h5 hp => by rw [HR.out, path_none T k u (by omega) hu huk h5 hp]; rfl
      have P2 : Hid (∀ p, (ty T u).kind = 5 → path T u = some p → R = (if p.size = 0 then (ty T k).name else p ++ ⟨#[46]⟩ ++ (ty T k).name, true)) := fun p h5 hp => by rw [HR.out, path_some T k u (by omega) hu huk h5 p hp]; rfl
      clear hrow hnm HC hG
      obtain ⟨ti, hti⟩ : ∃ t, ty T k = t := ⟨_, rfl⟩
      rw [hti] at hci hu hname P2
      clear hti
      obtain ⟨kind, name, no, must, up, most⟩ := ti
      dsimp only at hu hname P2
      subst hu
      obtain ⟨c0, c1, c2, c3, c4, c5⟩ := hci
      dsimp only at c0 c1 c2 c3 c4 c5
      have hB2 : Below w.heap.size w ((w.alloc (.cells #[.slice (some ⟨g, o, none⟩) T.length cap] 30)).alloc (.cells #[.int .i64 kind, .string name, .int .i64 no, .bool must, .int .i64 u, .int .i64 most] 71)) := ((Below.refl _ w).alloc (Nat.le_refl _) _).alloc (by simp) _
      by_cases h5 : (ty T u).kind = 5
      · have IC := ih.out u huk _ (HT.out.below hB2) (by omega)
        have IC' : Hid (Calls Try.prog 22 #[.agg #[.slice (some ⟨g, o, none⟩) T.length cap], .int .i64 u] ((w.alloc (.cells #[.slice (some ⟨g, o, none⟩) T.length cap] 30)).alloc (.cells #[.int .i64 kind, .string name, .int .i64 no, .bool must, .int .i64 u, .int .i64 most] 71)) fun e w' => e = .returned (.tuple #[.string (po (path T u)).1, .bool (po (path T u)).2]) ∧ Below ((w.alloc (.cells #[.slice (some ⟨g, o, none⟩) T.length cap] 30)).alloc (.cells #[.int .i64 kind, .string name, .int .i64 no, .bool must, .int .i64 u, .int .i64 most] 71)).heap.size ((w.alloc (.cells #[.slice (some ⟨g, o, none⟩) T.length cap] 30)).alloc (.cells #[.int .i64 kind, .string name, .int .i64 no, .bool must, .int .i64 u, .int .i64 most] 71)) w') := IC
        have hn := hname h5
        rw [h5] at hcu
        clear IC hname hkind ih
        have HH5 : Hid ((ty T u).kind = 5) := h5
        clear h5
        cases hq : path T u with
        | none =>
          rw [hq] at IC'
          have hr : Hid (R = (⟨#[]⟩, false)) := P1.out HH5.out hq
          unfold po at IC'
          clear P0 P1 P2 hq HS
          go_enter Try.func22, Try.ntmps22
          go_wp2_with fail
          refine IC'.out.mono ?_
          rintro e w3 ⟨rfl, hb3⟩
          have hB3 := hB2.trans (hb3.mono (by simp; omega))
          clear hb3 IC'
          go_wp2
          go_ret2
          exact ⟨by rw [hr.out]; rfl, hB3⟩
        | some p =>
          rw [hq] at IC'
          have hr : Hid (R = (if p.size = 0 then name else p ++ ⟨#[46]⟩ ++ name, true)) := P2.out p HH5.out hq
          have hps := HS.out p hq
          unfold po at IC'
          dsimp only at IC'
          clear P0 P1 P2 hq HS
          by_cases hp0 : p.size = 0
          · have hr2 : Hid (R = (name, true)) := by show R = _; rw [hr.out, if_pos hp0]
            obtain rfl := isEmpty_of hp0
            clear hr hp0
            go_enter Try.func22, Try.ntmps22
            go_wp2_with fail
            refine IC'.out.mono ?_
            rintro e w3 ⟨rfl, hb3⟩
            have hB3 := hB2.trans (hb3.mono (by simp; omega))
            have q1 : w3.cell? ⟨w.heap.size + 1, 1, none⟩ = some (.string name) := (hb3.cell (p := ⟨w.heap.size + 1, 1, none⟩) (by simp)).trans (by simp)
            clear hb3 IC'
            go_wp2
            go_ret2
            exact ⟨by rw [hr2.out]; rfl, hB3⟩
          · have hr2 : Hid (R = (p ++ ⟨#[46]⟩ ++ name, true)) := by show R = _; rw [hr.out, if_neg hp0]
            have hpe := notEmpty_of hp0
            have hsz : (p ++ ({ data := #[46] } : ByteArray)).size = p.size + 1 := by rw [ByteArray.size_append]; rfl
            clear hr hp0
            go_enter Try.func22, Try.ntmps22
            go_wp2_with fail
            refine IC'.out.mono ?_
            rintro e w3 ⟨rfl, hb3⟩
            have hB3 := hB2.trans (hb3.mono (by simp; omega))
            have q1 : w3.cell? ⟨w.heap.size + 1, 1, none⟩ = some (.string name) := (hb3.cell (p := ⟨w.heap.size + 1, 1, none⟩) (by simp)).trans (by simp)
            clear hb3 IC'
            go_wp2
            go_ret2
            exact ⟨by rw [hr2.out]; rfl, hB3⟩
      · have hr : Hid (R = (⟨#[]⟩, false)) := P0.out h5
        have h4 : (ty T u).kind = 4 := by omega
        rw [h4] at hcu
        clear P0 P1 P2 HS ih hname hkind h5 h4
        go_enter Try.func22, Try.ntmps22
        go_wp2
        go_ret2
        exact ⟨by rw [hr.out]; rfl, hB2⟩

end Go.Proofs.Ytjaklpibjijkkab
