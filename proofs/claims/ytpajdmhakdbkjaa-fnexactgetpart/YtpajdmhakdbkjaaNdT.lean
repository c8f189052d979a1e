/- The model's parts of a node. -/
import Derived.Test.YtpajdmhakdbkjaaNdE
import Derived.Test.YtpajdmhakdbkjaaNdK
namespace Go.Proofs.Ytpajdmhakdbkjaa
open Go.RowKit Plain Sch

theorem NdsAt.open {w : World} {v : Value} {T : List Ty} {B : Nat} (h : NdsAt w B v T) (h0 : 0 < T.length) : ∃ g o cap, v = .slice (some ⟨g, o, none⟩) T.length cap ∧ T.length ≤ cap ∧ cap ≤ maxLen ∧ g < B ∧ (∀ i, i < T.length → NoIn w g (o + i * 5) (ty T i)) ∧ ∀ i, i < T.length → (ty T i).name.size ≤ maxLen := by
  obtain ⟨ao, cap, hv, hc, hm, hr, hn⟩ := h
  obtain ⟨g, o, ha, hg, _⟩ := hr 0 h0
  subst ha
  refine ⟨g, o, cap, hv, hc, hm, hg, fun i hi => ?_, hn⟩
  obtain ⟨g', o', ha, _, c⟩ := hr i hi
  simp only [Option.some.injEq, Addr.mk.injEq, and_true] at ha
  obtain ⟨rfl, rfl⟩ := ha
  exact c

set_option maxRecDepth 100000 in
set_option maxHeartbeats 4000000 in
theorem l4Kids_any (T : List Ty) (v : Value) (k : Nat) (w : World) (hT : NdsAt w w.heap.size v T) (hk : k < T.length) (hl : T.length ≤ 2097152) :
    Calls Try.prog 93 #[.agg #[v], .int .i64 k] w fun e w' => ∃ r, e = .returned r ∧ w'.ownsRow w.heap.size 3 1 r (kids T k).length (ints (kids T k)) ∧ Below w.heap.size w w' := by
  obtain ⟨i0, hi, hz0, hz1, hz2⟩ := info_parts Try.infoInt
  obtain ⟨g, o, cap, rfl, hlc, hcm, hg, hrow, _⟩ := hT.open (by omega)
  clear hT
  have hcm' : cap ≤ 9223372036854775807 := by unfold maxLen at hcm; omega
  go_enter Try.func93, Try.ntmps93
  go_wp2
  go_loopw [5, 6] (fun vl vi wr => ∃ (i : Nat), k < i ∧ i ≤ T.length ∧ vi = .int .i64 (i : Int) ∧ wr.ownsRow (w.heap.size + 1) 3 1 vl (kidsTo T k i).length (ints (kidsTo T k i)) ∧ Below (w.heap.size + 1) (w.alloc (.cells #[.slice (some ⟨g, o, none⟩) T.length cap] 29)) wr)
    (fun _ vi _ => T.length - (intOf vi).toNat)
  case atStart =>
    refine ⟨k + 1, by omega, by omega, by go_num, ?_, Below.refl _ _⟩
    rw [kidsTo_start]
    exact World.ownsRow_nil _ _ _ _
  case round =>
    obtain ⟨i, hki, hil, rfl, hown, hbw⟩ := hrel
    have hB0 : Below w.heap.size w wr := ((Below.refl _ w).alloc (Nat.le_refl _) _).trans (hbw.mono (by omega))
    have hsz : w.heap.size < wr.heap.size := by have := hbw.size; simp at this; omega
    have q0 : wr.cell? ⟨w.heap.size, 0, none⟩ = some (.slice (some ⟨g, o, none⟩) T.length cap) := (hbw.cell (p := ⟨w.heap.size, 0, none⟩) (by simp)).trans (by simp)
    have hkl := kidsTo_len T k i
    by_cases hlt : i < T.length
    · have hlt' : (i : Int) < (T.length : Int) := by omega
      have hi0 : (0 : Int) ≤ (i : Int) := by omega
      have hc4 := ((hrow i hlt).below hB0 hg).2.2.2.1
      by_cases hup : (ty T i).up = (k : Int)
      · have HK : Hid (kidsTo T k (i + 1) = kidsTo T k i ++ [i]) := kidsTo_yes T k i hki hup
        rw [hup] at hc4
        clear hup
        generalize kidsTo T k i = ks at hown hkl HK
        go_wp2_with (at_builtin; refine wpList_append_own _ rfl _ _ 59 rfl (w.heap.size + 1) 3 i0 (.int .i64 0) 1 8 Try.underlying59 hi hz0 hz1 hz2 rfl (by decide) _ _ _ rfl (hown.alloc _) ⟨wr.heap.size, 0, none⟩ 1 1 [Value.int .i64 (i : Int)] rfl rfl ?c1 ?c2 ?c3 ?c4 ?c5 ?_)
        case c1 =>
          intro j u hj
          match j, hj with
          | 0, hj => simp at hj; subst hj; simp [Addr.add]
          | j + 1, hj => simp at hj
        case c2 => intro u hu; simp at hu; subst hu; rfl
        case c3 => unfold maxLen; omega
        case c4 => omega
        case c5 => simp; omega
        intro v' w1 hown' hgrow _
        have hlt9 := hown.lt
        have hbw1 := (hbw.alloc (show w.heap.size + 1 ≤ wr.heap.size by omega) (.cells #[.int .i64 (i : Int)] 3)).grown hgrow (by simp; omega) (fun k hk => (hlt9 k hk).1)
        have hown1 : w1.ownsRow (w.heap.size + 1) 3 1 v' (ks ++ [i]).length (ints (ks ++ [i])) := by
          unfold ints
          rw [List.map_append, List.length_append, List.length_singleton]
          simpa [ints] using hown'
        clear hgrow hown' hlt9 hown hbw hB0
        go_wp2
        go_roundw
        case rel => exact ⟨i + 1, by omega, by omega, by go_num, by rw [HK.out]; exact hown1, hbw1⟩
        case measure => simp [intOf]; omega
      · have HK : Hid (kidsTo T k (i + 1) = kidsTo T k i) := kidsTo_no T k i hup
        generalize (ty T i).up = up at hc4 hup
        have hup' : (up == (k : Int)) = false := by simpa using hup
        clear hup
        generalize kidsTo T k i = ks at hown hkl HK
        go_wp2
        go_roundw
        case rel => exact ⟨i + 1, by omega, by omega, by go_num, by rw [HK.out]; exact hown, hbw⟩
        case measure => simp [intOf]; omega
    · have hke : i = T.length := by omega
      subst hke
      rw [kidsTo_end] at hown
      have hge : ¬ ((T.length : Int) < (T.length : Int)) := by omega
      go_wp2
      go_ret
      refine ⟨_, rfl, ?_, hB0⟩
      refine ⟨hown.1, ?_⟩
      rcases hown.2 with h | ⟨g', cap', cur, h1, h2, h3⟩
      · exact .inl h
      · exact .inr ⟨g', cap', cur, h1, by omega, h3⟩

end Go.Proofs.Ytpajdmhakdbkjaa
