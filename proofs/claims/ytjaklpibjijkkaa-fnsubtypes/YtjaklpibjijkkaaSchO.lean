/- How deep the model finds a tree. -/
import Derived.Test.YtjaklpibjijkkaaSchJ
namespace Go.Proofs.Ytjaklpibjijkkaa
open Go.RowKit Plain Sch

theorem deep_bound : ∀ (g : Nat) (t : Tr), deep g t ≤ g + 1
  | 0, t => by unfold deep; split <;> omega
  | g + 1, t => by
    have h : maxL (t.kids.map (deep g)) ≤ g + 1 := (maxL_le _ _).2 (fun x hx => by
      obtain ⟨y, _, rfl⟩ := List.mem_map.1 hx
      exact deep_bound g y)
    show maxL (t.kids.map (deep g)) + _ ≤ _
    split <;> omega

theorem maxL_snoc (l : List Nat) (x : Nat) : maxL (l ++ [x]) = max (maxL l) x := by
  unfold maxL
  rw [List.foldl_append]
  rfl

set_option maxRecDepth 100000 in
set_option maxHeartbeats 4000000 in
theorem l2Deep_any : ∀ (d : Nat) (t : Tr) (c : Value) (S : Nat → Prop) (w : World), d ≤ 1000000 → KidsIn d w S c t.kids → (∀ g, S g → g < w.heap.size) →
    Calls Try.prog 57 #[trVal t c] w fun e w' => e = .returned (.int .i64 (deep d t : Int)) ∧ Below w.heap.size w w' := by
  intro d
  induction d with
  | zero =>
    intro t c S w hd hk hS
    obtain ⟨ao, cap, rfl, hcm, hkk⟩ := hk
    have hD : deep 0 t = if holds t.kind then 1 else 0 := rfl
    rw [hD]
    clear hD
    unfold trVal
    obtain ⟨kind, hkind⟩ : ∃ x, t.kind = x := ⟨_, rfl⟩
    rw [hkind]
    generalize t.name = name
    generalize t.no = no
    generalize t.must = must
    generalize t.most = most
    clear hkk hkind
    go_enter Try.func57, Try.ntmps57
    go_wp2
    go_loopw [3, 10] (fun vn vi wr => vn = .int .i64 0 ∧ vi = .int .i64 0 ∧ wr = w.alloc (.cells #[.int .i64 kind, .string name, .int .i64 no, .bool must, .int .i64 most, .slice ao 0 cap] 57)) (fun _ _ _ => 0)
    case atStart => exact ⟨rfl, rfl, rfl⟩
    case round =>
      obtain ⟨rfl, rfl, rfl⟩ := hrel
      go_wp2_with fail
      refine (l2Holds_any kind _).mono ?_
      rintro e w1 ⟨rfl, rfl⟩
      by_cases hh : holds kind = true
      · rw [hh]
        go_wp2
        go_ret
        exact ⟨rfl, (Below.refl _ w).alloc (Nat.le_refl _) _⟩
      · have hh' : holds kind = false := by simpa using hh
        rw [hh']
        go_wp2
        go_ret
        exact ⟨rfl, (Below.refl _ w).alloc (Nat.le_refl _) _⟩
  | succ d ih0 =>
    intro t c S w hd hk hS
    have ih : Hid (∀ (t : Tr) (c : Value) (S : Nat → Prop) (w : World), d ≤ 1000000 → KidsIn d w S c t.kids → (∀ g, S g → g < w.heap.size) →
      Calls Try.prog 57 #[trVal t c] w fun e w' => e = .returned (.int .i64 (deep d t : Int)) ∧ Below w.heap.size w w') := ih0
    clear ih0
    obtain ⟨ao, cap, rfl, hlc, hcm, hrow⟩ := hk
    have hcm' : cap ≤ 9223372036854775807 := by unfold maxLen at hcm; omega
    obtain ⟨D, hD⟩ : ∃ D, D = deep (d + 1) t := ⟨_, rfl⟩
    have HD : Hid (D = maxL (t.kids.map (deep d)) + (if holds t.kind then 1 else 0)) := hD
    rw [← hD]
    clear hD
    unfold trVal
    obtain ⟨kind, hkind⟩ : ∃ x, t.kind = x := ⟨_, rfl⟩
    rw [hkind] at HD ⊢
    generalize t.name = name
    generalize t.no = no
    generalize t.must = must
    generalize t.most = most
    obtain ⟨l, hl⟩ : ∃ l, t.kids = l := ⟨_, rfl⟩
    rw [hl] at HD hlc hrow ⊢
    clear hl hkind
    have HROW : Hid (∀ i t, l[i]? = some t → ∃ g o c', ao = some ⟨g, o, none⟩ ∧ S g ∧ NdIn w g (o + i * 6) t c' ∧ KidsIn d w S c' t.kids) := hrow
    clear hrow
    have HS : Hid (∀ g, S g → g < w.heap.size) := hS
    clear hS
    go_enter Try.func57, Try.ntmps57
    go_wp2
    go_loopw [3, 10] (fun vn vi wr => ∃ i : Nat, i ≤ l.length ∧ vi = .int .i64 (i : Int) ∧ vn = .int .i64 (maxL ((l.take i).map (deep d)) : Int) ∧ Below (w.heap.size + 1) (w.alloc (.cells #[.int .i64 kind, .string name, .int .i64 no, .bool must, .int .i64 most, .slice ao l.length cap] 57)) wr) (fun _ vi _ => l.length - (intOf vi).toNat)
    case atStart => exact ⟨0, by omega, rfl, by simp [maxL], Below.refl _ _⟩
    case round =>
      obtain ⟨i, hil, rfl, rfl, hbw⟩ := hrel
      have hB0 : Below w.heap.size w wr := ((Below.refl _ w).alloc (Nat.le_refl _) _).trans (hbw.mono (by omega))
      have hsz : w.heap.size < wr.heap.size := by have := hbw.size; simp at this; omega
      have hmb : maxL ((l.take i).map (deep d)) ≤ d + 1 := (maxL_le _ _).2 (fun x hx => by
        obtain ⟨y, _, rfl⟩ := List.mem_map.1 hx
        exact deep_bound d y)
      by_cases hlt : i < l.length
      · have hlt' : (i : Int) < (l.length : Int) := by omega
        obtain ⟨x, hx⟩ : ∃ x, l[i]? = some x := ⟨_, List.getElem?_eq_getElem hlt⟩
        obtain ⟨g, o, c', hao, hSg, hnd, hkk⟩ := HROW.out i x hx
        subst hao
        have hg := HS.out g hSg
        have hnd' := hnd.kept (hB0.block g hg)
        obtain ⟨ac, cc, rfl, _⟩ := hkk.form
        have HN : Hid (maxL ((l.take (i + 1)).map (deep d)) = max (maxL ((l.take i).map (deep d))) (deep d x)) := by
          show _ = _
          rw [List.take_add_one, hx, List.map_append]
          simp only [Option.toList, List.map_cons, List.map_nil]
          exact maxL_snoc _ _
        have hdx := deep_bound d x
        obtain ⟨c0, c1, c2, c3, c4, c5⟩ := hnd'
        have IC : Hid (∀ W : World, Below w.heap.size w W → Calls Try.prog 57 #[.agg #[.int .i64 x.kind, .string x.name, .int .i64 x.no, .bool x.must, .int .i64 x.most, .slice ac x.kids.length cc]] W fun e w' => e = .returned (.int .i64 (deep d x : Int)) ∧ Below W.heap.size W w') := fun W hW =>
          ih.out x (.slice ac x.kids.length cc) S W (by omega) (hkk.kept (fun g hg => hW.block g (HS.out g hg)) (fun _ h => h)) (fun g hg => by have := HS.out g hg; have := hW.size; omega)
        clear hnd hkk hx
        generalize maxL ((l.take i).map (deep d)) = m at HN hmb
        generalize deep d x = dx at HN hdx IC
        generalize x.kids.length = xl at c5 IC
        go_wp2_with fail
        refine (IC.out _ (hB0.alloc hB0.size _)).mono ?_
        rintro e w2 ⟨rfl, hb2⟩
        have hbw2 := (hbw.alloc (show w.heap.size + 1 ≤ wr.heap.size by omega) (.cells #[.int .i64 x.kind, .string x.name, .int .i64 x.no, .bool x.must, .int .i64 x.most, .slice ac xl cc] 57)).trans (hb2.mono (by simp; omega))
        clear hb2 hbw hB0 c0 c1 c2 c3 c4 c5 IC
        by_cases hgt : m < dx
        · have hgt' : (m : Int) < (dx : Int) := by omega
          go_wp2
          go_roundw
          case rel => exact ⟨i + 1, by omega, by go_num, by rw [HN.out, Nat.max_eq_right (by omega)], hbw2⟩
          case measure => simp [intOf]; omega
        · have hgt' : (dx : Int) ≤ (m : Int) := by omega
          clear hgt
          go_wp2
          go_roundw
          case rel => exact ⟨i + 1, by omega, by go_num, by rw [HN.out, Nat.max_eq_left (by omega)], hbw2⟩
          case measure => simp [intOf]; omega
      · have hke : i = l.length := by omega
        subst hke
        have hge : ¬ ((l.length : Int) < (l.length : Int)) := by omega
        rw [List.take_length] at hmb
        have q0 : wr.cell? ⟨w.heap.size, 0, none⟩ = some (.int .i64 kind) := (hbw.cell (p := ⟨w.heap.size, 0, none⟩) (by simp)).trans (by simp)
        rw [List.take_length]
        generalize maxL (l.map (deep d)) = m at HD hmb
        go_wp2_with fail
        refine (l2Holds_any kind _).mono ?_
        rintro e w1 ⟨rfl, rfl⟩
        by_cases hh : holds kind = true
        · have hn : Hid (D = m + 1) := by show _ = _; rw [HD.out, hh]; rfl
          rw [hh]
          clear hh HD
          go_wp2
          go_ret
          exact ⟨by rw [hn.out]; rfl, hB0⟩
        · have hh' : holds kind = false := by simpa using hh
          have hn : Hid (D = m) := by show _ = _; rw [HD.out, hh']; simp
          rw [hh']
          clear hh hh' HD
          go_wp2
          go_ret
          exact ⟨by rw [hn.out]; rfl, hB0⟩

end Go.Proofs.Ytjaklpibjijkkaa
