/- The law's own looks at values: how great they are. -/
import Derived.Test.YtpajdmhakdbkjaaNdE
import Derived.Deep.RegionWith
namespace Go.Proofs.Ytpajdmhakdbkjaa
open Go.RowKit Plain Sch

set_option maxRecDepth 100000 in
set_option maxHeartbeats 1000000 in
theorem szNode_any (name : ByteArray) (no : Int) (must : Bool) (up most left : Int) (w : World) (hn : name.size ≤ maxLen) (h0 : 0 ≤ left) (h1 : left ≤ 1048576) :
    Calls Try.prog 95 #[.agg #[.int .i64 most, .string name, .int .i64 no, .int .i64 up, .bool must], .int .i64 left] w fun e w' => (∃ r : Int, e = .returned (.int .i64 r) ∧ -1 ≤ r ∧ r ≤ left ∧ (0 ≤ r → (name.size : Int) ≤ left)) ∧ Below w.heap.size w w' := by
  unfold maxLen at hn
  by_cases hlt : left - (name.size : Int) < 0
  · go_enter Try.func95, Try.ntmps95
    go_wp2
    go_ret
    exact ⟨⟨-1, rfl, by omega, by omega, fun h => by omega⟩, (Below.refl _ w).alloc (Nat.le_refl _) _⟩
  · go_enter Try.func95, Try.ntmps95
    go_wp2
    go_ret
    exact ⟨⟨left - (name.size : Int), rfl, by omega, by omega, fun h => by omega⟩, (Below.refl _ w).alloc (Nat.le_refl _) _⟩

set_option maxRecDepth 100000 in
set_option maxHeartbeats 4000000 in
theorem szNodeS_left (T : List Ty) (v : Value) (L : Int) (w : World) (hT : NdsAt w w.heap.size v T) (hL0 : 0 ≤ L) (hL1 : L ≤ 1048576) :
    Calls Try.prog 57 #[v, .int .i64 L] w fun e w' => (∃ r : Int, e = .returned (.int .i64 r) ∧ -1 ≤ r ∧ r ≤ 1048576 ∧ (0 ≤ r → T.length ≤ 1048576 ∧ ∀ i, i < T.length → (ty T i).name.size ≤ 1048576)) ∧ Below w.heap.size w w' := by
  by_cases hbig : L < (T.length : Int)
  · obtain ⟨ao, cap, rfl, hlc, hcm, _⟩ := hT
    unfold maxLen at hcm
    have hlt : L - (T.length : Int) < 0 := by omega
    have hge : (-9223372036854775808 : Int) ≤ L - (T.length : Int) := by omega
    go_enter Try.func57, Try.ntmps57
    go_wp2
    go_ret
    exact ⟨⟨-1, rfl, by omega, by omega, fun h => by omega⟩, Below.refl _ _⟩
  · have hlen : T.length ≤ 1048576 := by omega
    have hlen' : (T.length : Int) ≤ 1048576 := by omega
    have hge : ¬ (L - (T.length : Int) < 0) := by omega
    have HT : Hid (NdsAt w w.heap.size v T) := hT
    obtain ⟨ao, cap, rfl, hlc, hcm, hrow, hnm⟩ := hT
    have HNM : Hid (∀ i, i < T.length → (ty T i).name.size ≤ maxLen) := hnm
    have HROW : Hid (∀ i, i < T.length → ∃ g o, ao = some ⟨g, o, none⟩ ∧ g < w.heap.size ∧ NoIn w g (o + i * 5) (ty T i)) := hrow
    clear hrow hnm hbig
    go_enter Try.func57, Try.ntmps57
    go_wp2
    go_loopw [1, 5] (fun vl vi wr => ∃ (i : Nat) (left : Int), i ≤ T.length ∧ vi = .int .i64 (i : Int) ∧ vl = .int .i64 left ∧ 0 ≤ left ∧ left ≤ 1048576 ∧ Hid (∀ j, j < i → (ty T j).name.size ≤ 1048576) ∧ Below w.heap.size w wr)
      (fun _ vi _ => T.length - (intOf vi).toNat)
    case atStart => exact ⟨0, L - (T.length : Int), by omega, rfl, rfl, by omega, by omega, fun j hj => by omega, Below.refl _ _⟩
    case round =>
      obtain ⟨i, left, hi, rfl, rfl, hl0, hl1, hall, hbw⟩ := hrel
      by_cases hlt : i < T.length
      · have hlt' : (i : Int) < (T.length : Int) := by omega
        obtain ⟨g, o, rfl, hg, hty⟩ := HROW.out i hlt
        have hci := hty.below hbw hg
        have hni := HNM.out i hlt
        obtain ⟨ti, hti⟩ : ∃ t, ty T i = t := ⟨_, rfl⟩
        have HTI : Hid (ty T i = ti) := hti
        rw [hti] at hci hni
        clear hti hty
        obtain ⟨kind, name, no, must, up, most⟩ := ti
        obtain ⟨c0, c1, c2, c3, c4⟩ := hci
        dsimp only at c0 c1 c2 c3 c4 hni
        go_wp2_with fail
        refine (szNode_any name no must up most left _ hni hl0 hl1).mono ?_
        rintro e w2 ⟨⟨r, rfl, hr0, hr1, hr2⟩, hb2⟩
        have hbw2 : Below w.heap.size w w2 := hbw.trans (hb2.mono hbw.size)
        by_cases hneg : r < 0
        · clear hr2
          go_wp2
          go_ret
          exact ⟨⟨-1, rfl, by omega, by omega, fun h => by omega⟩, hbw2⟩
        · have hnn : (name.size : Int) ≤ left := hr2 (by omega)
          have hall2 : Hid (∀ j, j < i + 1 → (ty T j).name.size ≤ 1048576) := fun j hj => by
            by_cases hji : j = i
            · rw [hji, HTI.out]; show name.size ≤ _; omega
            · exact hall.out j (by omega)
          clear hr2
          go_wp2
          go_roundw
          case rel => exact ⟨i + 1, r, by omega, by go_num, rfl, by omega, by omega, hall2, hbw2⟩
          case measure => simp [intOf]; omega
      · have hke : i = T.length := by omega
        subst hke
        have hge2 : ¬ ((T.length : Int) < (T.length : Int)) := by omega
        go_wp2
        go_ret
        exact ⟨⟨left, rfl, by omega, by omega, fun _ => by first | exact ⟨hlen, hall.out⟩ | exact hall.out⟩, hbw⟩

set_option maxRecDepth 100000 in
set_option maxHeartbeats 1000000 in
theorem szValue_left (T : List Ty) (v : Value) (L : Int) (w : World) (hT : NdsAt w w.heap.size v T) (hL0 : 0 ≤ L) (hL1 : L ≤ 1048576) :
    Calls Try.prog 18 #[.agg #[v], .int .i64 L] w fun e w' => (∃ r : Int, e = .returned (.int .i64 r) ∧ -1 ≤ r ∧ r ≤ 1048576 ∧ (0 ≤ r → T.length ≤ 1048576 ∧ ∀ i, i < T.length → (ty T i).name.size ≤ 1048576)) ∧ Below w.heap.size w w' := by
  have hB1 : ∀ o, Below w.heap.size w (w.alloc o) := fun o => (Below.refl _ w).alloc (Nat.le_refl _) o
  have HT : Hid (NdsAt w w.heap.size v T) := hT
  obtain ⟨ao, cap, rfl, _⟩ := hT
  go_enter Try.func18, Try.ntmps18
  go_wp2_with fail
  refine (szNodeS_left T _ L _ (HT.out.below (hB1 _)) hL0 hL1).mono ?_
  rintro e w2 ⟨⟨r, rfl, hr0, hr1, hr2⟩, hb2⟩
  have hB2 : Below w.heap.size w w2 := (hB1 _).trans (hb2.mono (by simp))
  by_cases hneg : r < 0
  · clear hr2
    go_wp2
    go_ret
    exact ⟨⟨-1, rfl, by omega, by omega, fun h => by omega⟩, hB2⟩
  · have HR2 : Hid (0 ≤ r → T.length ≤ 1048576 ∧ ∀ i, i < T.length → (ty T i).name.size ≤ 1048576) := hr2
    clear hr2
    go_wp2
    go_ret
    exact ⟨⟨r, rfl, by omega, by omega, HR2.out⟩, hB2⟩

theorem szValue_any (T : List Ty) (v : Value) (w : World) (hT : NdsAt w w.heap.size v T) :
    Calls Try.prog 18 #[.agg #[v], .int .i64 1048576] w fun e w' => (∃ r : Int, e = .returned (.int .i64 r) ∧ -1 ≤ r ∧ r ≤ 1048576 ∧ (0 ≤ r → T.length ≤ 1048576 ∧ ∀ i, i < T.length → (ty T i).name.size ≤ 1048576)) ∧ Below w.heap.size w w' :=
  szValue_left T v 1048576 w hT (by omega) (by omega)

end Go.Proofs.Ytpajdmhakdbkjaa
