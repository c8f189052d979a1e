/- The path of a type: the program's appendPath. -/
import Derived.Test.YtjaklpibjijkkabPthB
namespace Go.Proofs.Ytjaklpibjijkkab
open Go.RowKit Plain Sch

theorem strCells_eq (s : ByteArray) : Lib.strCells s = Lib.byteCells s.data.toList := rfl

/-- a row of bytes, as a text -/
theorem convert_row (w : World) (B : Nat) (v : Value) (p : ByteArray) (h : w.ownsRow B 5 1 v p.size (Lib.strCells p)) :
    (convert 37 9 v).run Try.prog w = .ok (.string p) w := by
  rcases h.2 with ⟨rfl, h0⟩ | ⟨g, cap, cur, rfl, _⟩
  · obtain rfl := isEmpty_of h0
    kernel_rfl
  · rw [run_convert_bytes_arg w 37 5 Try.underlying37 Try.underlying5 g 0 p.size cap (p.data.toList.map fun b => (b.toNat : Int)) (by rw [List.length_map, Array.length_toList]; rfl) (fun i hi => by
      rw [Nat.zero_add, h.cellAt i (by omega)]
      have hi' : i < p.data.toList.length := by rw [Array.length_toList]; exact hi
      rw [strCells_eq]
      simp [Lib.byteCells, List.getElem?_map, List.getElem?_eq_getElem hi', List.getD]) 9 Try.underlying9]
    rw [Go.Lib.Lz.strOfNums_map]

/-- what appendPath answers -/
def ApR (w : World) (r : Option ByteArray) (e : Ending) (w' : World) : Prop :=
  (r = none ∧ e = .returned (.tuple #[.slice none 0 0, .bool false]) ∧ Below w.heap.size w w') ∨
  (∃ p v, r = some p ∧ e = .returned (.tuple #[v, .bool true]) ∧ w'.ownsRow w.heap.size 5 1 v p.size (Lib.strCells p) ∧ Below w.heap.size w w')

set_option maxRecDepth 100000 in
set_option maxHeartbeats 4000000 in
theorem appendPath_any (T : List Ty) (v : Value) (hG : gs T = true) : ∀ (k : Nat) (w : World), TysAt w w.heap.size v T → k < T.length →
    Calls Try.prog 25 #[.slice none 0 0, v, .int .i64 k] w (ApR w (path T k)) := by
  intro k
  induction k using Nat.strongRecOn with
  | ind k ih0 =>
    intro w hT hk
    obtain ⟨i0, hi, hz0, hz1, hz2⟩ := info_parts Try.infoU8p
    have HT : Hid (TysAt w w.heap.size v T) := hT
    have ih : Hid (∀ m, m < k → ∀ (w : World), TysAt w w.heap.size v T → m < T.length → Calls Try.prog 25 #[.slice none 0 0, v, .int .i64 m] w (ApR w (path T m))) := ih0
    clear ih0
    have h30 := (gs_parts T hG).2.1
    obtain ⟨g, o, cap, rfl, hlc, hcm, hg, hrow, hnm⟩ := hT.open (by omega)
    clear hT
    have hcm' : cap ≤ 9223372036854775807 := by unfold maxLen at hcm; omega
    have hci := hrow k hk
    have hk' : (k : Int) < (T.length : Int) := by omega
    have hk0' : (0 : Int) ≤ (k : Int) := by omega
    obtain ⟨R, hR⟩ : ∃ R, R = path T k := ⟨_, rfl⟩
    rw [← hR]
    have HR : Hid (R = path T k) := hR
    clear hR
    by_cases h0 : k = 0
    · subst h0
      have hn : Hid (R = some ⟨#[]⟩) := by show R = _; rw [HR.out, path_zero]
      clear hrow hnm hci
      go_enter Try.func25, Try.ntmps25
      go_wp2
      go_ret2
      exact .inr ⟨⟨#[]⟩, .slice none 0 0, hn.out, rfl, World.ownsRow_nil _ _ _ _, Below.refl _ _⟩
    · obtain ⟨u, hu, huk, hkind, hname⟩ := gs_up T hG k (by omega) hk
      have hcu := (hrow u (by omega)).1
      have hu' : (u : Int) < (T.length : Int) := by omega
      have hu0' : (0 : Int) ≤ (u : Int) := by omega
      have hknz : ((k : Int) == 0) = false := by simp; omega
      have HS : Hid (∀ p, path T u = some p → p.size ≤ 11 * u ∧ (p.size = 0 ↔ u = 0)) := path_size T hG u (by omega)
      have P0 : Hid ((ty T u).kind ≠ 5 → R = none) := fun h5 => by rw [HR.out, path_list T k u (by omega) hu huk h5]
      have P1 : Hid ((ty T u).kind = 5 → path T u = none → R = none) := fun h5 hp => by rw [HR.out, path_none T k u (by omega) hu huk h5 hp]
      have P2 : Hid (∀ p, (ty T u).kind = 5 → path T u = some p → R = some (if p.size = 0 then (ty T k).name else p ++ ⟨#[46]⟩ ++ (ty T k).name)) := fun p h5 hp => by rw [HR.out, path_some T k u (by omega) hu huk h5 p hp]
      clear hrow hnm hG
      obtain ⟨ti, hti⟩ : ∃ t, ty T k = t := ⟨_, rfl⟩
      rw [hti] at hci hu hname P2
      clear hti
      obtain ⟨kind, name, no, must, up, most⟩ := ti
      dsimp only at hu hname P2
      subst hu
      obtain ⟨c0, c1, c2, c3, c4, c5⟩ := hci
      dsimp only at c0 c1 c2 c3 c4 c5
      by_cases h5 : (ty T u).kind = 5
      · have IC : Hid (Calls Try.prog 25 #[.slice none 0 0, .slice (some ⟨g, o, none⟩) T.length cap, .int .i64 u] w (ApR w (path T u))) := ih.out u huk _ HT.out (by omega)
        have hn := hname h5
        rw [h5] at hcu
        have HH5 : Hid ((ty T u).kind = 5) := h5
        clear hname hkind ih h5
        go_enter Try.func25, Try.ntmps25
        go_wp2_with fail
        refine IC.out.mono ?_
        rintro e w3 (⟨hq, rfl, hB3⟩ | ⟨p, vp, hq, rfl, hown, hB3⟩)
        · have hr : Hid (R = none) := P1.out HH5.out hq
          clear P0 P1 P2 HS IC hq
          go_wp2
          go_ret2
          exact .inl ⟨hr.out, rfl, hB3⟩
        · have hr : Hid (R = some (if p.size = 0 then name else p ++ ⟨#[46]⟩ ++ name)) := P2.out p HH5.out hq
          have hps := HS.out p hq
          have c1' := (hB3.cell (p := ⟨g, o + k * 6 + 1, none⟩) hg).trans c1
          have hlt := hown.lt
          have hs3 := hB3.size
          clear P0 P1 P2 HS IC hq
          by_cases hu00 : u = 0
          · have hp0 : p.size = 0 := hps.2.2 hu00
            have hr2 : Hid (R = some name) := by show R = _; rw [hr.out, if_pos hp0]
            obtain rfl := isEmpty_of hp0
            subst hu00
            clear hr hp0 hps
            have hown0 : w3.ownsRow w.heap.size 5 1 vp 0 [] := hown
            go_wp2_with (at_builtin; refine Lib.wpList_append_own_string _ rfl _ _ 37 9 rfl w.heap.size 5 i0 Try.underlying37 Try.underlying9 hi hz0 hz1 hz2 _ 0 [] rfl hown0 name rfl ?c1 ?c2 ?c3 ?_)
            case c1 => unfold maxLen; omega
            case c2 => omega
            case c3 => exact hs3
            intro v' w4 hown' hgrow _
            have hB4 : Below w.heap.size w w4 := hB3.grown hgrow hs3 (fun k hk => (hlt k hk).1)
            have hown4 : w4.ownsRow w.heap.size 5 1 v' name.size (Lib.strCells name) := by simpa using hown'
            clear hgrow hown' hown hown0
            go_wp2
            go_ret2
            exact .inr ⟨name, v', hr2.out, rfl, hown4, hB4⟩
          · have hp0 : ¬ p.size = 0 := fun h => hu00 (hps.2.1 h)
            have hr2 : Hid (R = some (p ++ ⟨#[46]⟩ ++ name)) := by show R = _; rw [hr.out, if_neg hp0]
            have hupos : (0 : Int) < (u : Int) := by omega
            clear hr hp0
            go_wp2_with (at_builtin; refine wpList_append_own _ rfl _ _ 37 rfl w.heap.size 5 i0 (.int .u8 0) 1 1 Try.underlying37 hi hz0 hz1 hz2 rfl (by decide) _ _ _ rfl (hown.alloc _) ⟨w3.heap.size, 0, none⟩ 1 1 [Value.int .u8 46] rfl rfl ?c1 ?c2 ?c3 ?c4 ?c5 ?_)
            case c1 =>
              intro j u hj
              match j, hj with
              | 0, hj => simp at hj; subst hj; simp [Addr.add]
            case c2 => intro u hu; simp at hu; subst hu; rfl
            case c3 => unfold maxLen; omega
            case c4 => omega
            case c5 => simp; omega
            intro v4 w4 hown4 hgrow4 _
            have hB4 : Below w.heap.size w w4 := (hB3.alloc hs3 _).grown hgrow4 (by simp; omega) (fun k hk => (hlt k hk).1)
            have hs4 := hB4.size
            have hlt4 := hown4.lt
            have c1'' := (hB4.cell (p := ⟨g, o + k * 6 + 1, none⟩) hg).trans c1
            clear hgrow4 hown c1'
            go_wp2_with (at_builtin; refine Lib.wpList_append_own_string _ rfl _ _ 37 9 rfl w.heap.size 5 i0 Try.underlying37 Try.underlying9 hi hz0 hz1 hz2 _ _ _ rfl hown4 name rfl ?d1 ?d2 ?d3 ?_)
            case d1 => unfold maxLen; omega
            case d2 => omega
            case d3 => exact hs4
            intro v5 w5 hown5 hgrow5 _
            have hB5 : Below w.heap.size w w5 := hB4.grown hgrow5 hs4 (fun k hk => (hlt4 k hk).1)
            have hown6 : w5.ownsRow w.heap.size 5 1 v5 (p ++ ⟨#[46]⟩ ++ name).size (Lib.strCells (p ++ ⟨#[46]⟩ ++ name)) := by
              have e1 : (p ++ ⟨#[46]⟩ ++ name).size = p.size + 1 + name.size := by rw [ByteArray.size_append, ByteArray.size_append]; rfl
              have e2 : Lib.strCells (p ++ ⟨#[46]⟩ ++ name) = Lib.strCells p ++ Value.int .u8 46 :: Lib.strCells name := by
                simp [strCells_eq, Lib.byteCells]
              rw [e1, e2]
              exact hown5
            clear hgrow5 hown5 hown4
            go_wp2
            go_ret2
            exact .inr ⟨_, v5, hr2.out, rfl, hown6, hB5⟩
      · have hr : Hid (R = none) := P0.out h5
        have h4 : (ty T u).kind = 4 := by omega
        rw [h4] at hcu
        clear P0 P1 P2 HS ih hname hkind h5 h4
        go_enter Try.func25, Try.ntmps25
        go_wp2
        go_ret2
        exact .inl ⟨hr.out, rfl, Below.refl _ _⟩

end Go.Proofs.Ytjaklpibjijkkab
