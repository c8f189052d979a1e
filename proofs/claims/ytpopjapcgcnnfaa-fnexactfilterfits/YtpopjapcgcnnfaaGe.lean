/- How deep the model finds a tree. The model's GoodSchema at every schema. What a good schema has. -/
import Derived.Test.YtpopjapcgcnnfaaGd
import Derived.Test.YtpopjapcgcnnfaaSchL
import Derived.Test.YtpopjapcgcnnfaaGc
namespace Go.Proofs.Ytpopjapcgcnnfaa
open Go.RowKit Plain Sch

theorem deep_bound : ∀ (g : Nat) (t : Tr), deep g t ≤ g + 1
  | 0, t => by unfold deep; split <;> omega
  | g + 1, t => by
    have h : maxL (t.kids.map (deep g)) ≤ g + 1 := (maxL_le _ _).2 (fun x hx => by
      obtain ⟨y, _, rfl⟩ := List.mem_map.1 hx
      exact deep_bound g y)
    show maxL (t.kids.map (deep g)) + _ ≤ _
    split <;> omega

theorem maxL_snoc (l : List Nat) (x : Nat) : maxL (l ++ [x]) = max (maxL l) x := by
  unfold maxL
  rw [List.foldl_append]
  rfl

set_option maxRecDepth 100000 in
set_option maxHeartbeats 4000000 in
theorem l2Deep_any : ∀ (d : Nat) (t : Tr) (c : Value) (S : Nat → Prop) (w : World), d ≤ 1000000 → KidsIn d w S c t.kids → (∀ g, S g → g < w.heap.size) →
    Calls Try.prog 108 #[trVal t c] w fun e w' => e = .returned (.int .i64 (deep d t : Int)) ∧ Below w.heap.size w w' := by
  intro d
  induction d with
  | zero =>
    intro t c S w hd hk hS
    obtain ⟨ao, cap, rfl, hcm, hkk⟩ := hk
    have hD : deep 0 t = if holds t.kind then 1 else 0 := rfl
    rw [hD]
    clear hD
    unfold trVal
    obtain ⟨kind, hkind⟩ : ∃ x, t.kind = x := ⟨_, rfl⟩
    rw [hkind]
    generalize t.name = name
    generalize t.no = no
    generalize t.must = must
    generalize t.most = most
    clear hkk hkind
    go_enter Try.func108, Try.ntmps108
    go_wp2
    go_loopw [3, 10] (fun vn vi wr => vn = .int .i64 0 ∧ vi = .int .i64 0 ∧ wr = w.alloc (.cells #[.int .i64 kind, .string name, .int .i64 no, .bool must, .int .i64 most, .slice ao 0 cap] 105)) (fun _ _ _ => 0)
    case atStart => exact ⟨rfl, rfl, rfl⟩
    case round =>
      obtain ⟨rfl, rfl, rfl⟩ := hrel
      go_wp2_with fail
      refine (l2Holds_any kind _).mono ?_
      rintro e w1 ⟨rfl, rfl⟩
      by_cases hh : holds kind = true
      · rw [hh]
        go_wp2
        go_ret
        exact ⟨rfl, (Below.refl _ w).alloc (Nat.le_refl _) _⟩
      · have hh' : holds kind = false := by simpa using hh
        rw [hh']
        go_wp2
        go_ret
        exact ⟨rfl, (Below.refl _ w).alloc (Nat.le_refl _) _⟩
  | succ d ih0 =>
    intro t c S w hd hk hS
    have ih : Hid (∀ (t : Tr) (c : Value) (S : Nat → Prop) (w : World), d ≤ 1000000 → KidsIn d w S c t.kids → (∀ g, S g → g < w.heap.size) →
      Calls Try.prog 108 #[trVal t c] w fun e w' => e = .returned (.int .i64 (deep d t : Int)) ∧ Below w.heap.size w w') := ih0
    clear ih0
    obtain ⟨ao, cap, rfl, hlc, hcm, hrow⟩ := hk
    have hcm' : cap ≤ 9223372036854775807 := by unfold maxLen at hcm; omega
    obtain ⟨D, hD⟩ : ∃ D, D = deep (d + 1) t := ⟨_, rfl⟩
    have HD : Hid (D = maxL (t.kids.map (deep d)) + (if holds t.kind then 1 else 0)) := hD
    rw [← hD]
    clear hD
    unfold trVal
    obtain ⟨kind, hkind⟩ : ∃ x, t.kind = x := ⟨_, rfl⟩
    rw [hkind] at HD ⊢
    generalize t.name = name
    generalize t.no = no
    generalize t.must = must
    generalize t.most = most
    obtain ⟨l, hl⟩ : ∃ l, t.kids = l := ⟨_, rfl⟩
    rw [hl] at HD hlc hrow ⊢
    clear hl hkind
    have HROW : Hid (∀ i t, l[i]? = some t → ∃ g o c', ao = some ⟨g, o, none⟩ ∧ S g ∧ NdIn w g (o + i * 6) t c' ∧ KidsIn d w S c' t.kids) := hrow
    clear hrow
    have HS : Hid (∀ g, S g → g < w.heap.size) := hS
    clear hS
    go_enter Try.func108, Try.ntmps108
    go_wp2
    go_loopw [3, 10] (fun vn vi wr => ∃ i : Nat, i ≤ l.length ∧ vi = .int .i64 (i : Int) ∧ vn = .int .i64 (maxL ((l.take i).map (deep d)) : Int) ∧ Below (w.heap.size + 1) (w.alloc (.cells #[.int .i64 kind, .string name, .int .i64 no, .bool must, .int .i64 most, .slice ao l.length cap] 105)) wr) (fun _ vi _ => l.length - (intOf vi).toNat)
    case atStart => exact ⟨0, by omega, rfl, by simp [maxL], Below.refl _ _⟩
    case round =>
      obtain ⟨i, hil, rfl, rfl, hbw⟩ := hrel
      have hB0 : Below w.heap.size w wr := ((Below.refl _ w).alloc (Nat.le_refl _) _).trans (hbw.mono (by omega))
      have hsz : w.heap.size < wr.heap.size := by have := hbw.size; simp at this; omega
      have hmb : maxL ((l.take i).map (deep d)) ≤ d + 1 := (maxL_le _ _).2 (fun x hx => by
        obtain ⟨y, _, rfl⟩ := List.mem_map.1 hx
        exact deep_bound d y)
      by_cases hlt : i < l.length
      · have hlt' : (i : Int) < (l.length : Int) := by omega
        obtain ⟨x, hx⟩ : ∃ x, l[i]? = some x := ⟨_, List.getElem?_eq_getElem hlt⟩
        obtain ⟨g, o, c', hao, hSg, hnd, hkk⟩ := HROW.out i x hx
        subst hao
        have hg := HS.out g hSg
        have hnd' := hnd.kept (hB0.block g hg)
        obtain ⟨ac, cc, rfl, _⟩ := hkk.form
        have HN : Hid (maxL ((l.take (i + 1)).map (deep d)) = max (maxL ((l.take i).map (deep d))) (deep d x)) := by
          show _ = _
          rw [List.take_add_one, hx, List.map_append]
          simp only [Option.toList, List.map_cons, List.map_nil]
          exact maxL_snoc _ _
        have hdx := deep_bound d x
        obtain ⟨c0, c1, c2, c3, c4, c5⟩ := hnd'
        have IC : Hid (∀ W : World, Below w.heap.size w W → Calls Try.prog 108 #[.agg #[.int .i64 x.kind, .string x.name, .int .i64 x.no, .bool x.must, .int .i64 x.most, .slice ac x.kids.length cc]] W fun e w' => e = .returned (.int .i64 (deep d x : Int)) ∧ Below W.heap.size W w') := fun W hW =>
          ih.out x (.slice ac x.kids.length cc) S W (by omega) (hkk.kept (fun g hg => hW.block g (HS.out g hg)) (fun _ h => h)) (fun g hg => by have := HS.out g hg; have := hW.size; omega)
        clear hnd hkk hx
        generalize maxL ((l.take i).map (deep d)) = m at HN hmb
        generalize deep d x = dx at HN hdx IC
        generalize x.kids.length = xl at c5 IC
        go_wp2_with fail
        refine (IC.out _ (hB0.alloc hB0.size _)).mono ?_
        rintro e w2 ⟨rfl, hb2⟩
        have hbw2 := (hbw.alloc (show w.heap.size + 1 ≤ wr.heap.size by omega) (.cells #[.int .i64 x.kind, .string x.name, .int .i64 x.no, .bool x.must, .int .i64 x.most, .slice ac xl cc] 105)).trans (hb2.mono (by simp; omega))
        clear hb2 hbw hB0 c0 c1 c2 c3 c4 c5 IC
        by_cases hgt : m < dx
        · have hgt' : (m : Int) < (dx : Int) := by omega
          go_wp2
          go_roundw
          case rel => exact ⟨i + 1, by omega, by go_num, by rw [HN.out, Nat.max_eq_right (by omega)], hbw2⟩
          case measure => simp [intOf]; omega
        · have hgt' : (dx : Int) ≤ (m : Int) := by omega
          clear hgt
          go_wp2
          go_roundw
          case rel => exact ⟨i + 1, by omega, by go_num, by rw [HN.out, Nat.max_eq_left (by omega)], hbw2⟩
          case measure => simp [intOf]; omega
      · have hke : i = l.length := by omega
        subst hke
        have hge : ¬ ((l.length : Int) < (l.length : Int)) := by omega
        rw [List.take_length] at hmb
        have q0 : wr.cell? ⟨w.heap.size, 0, none⟩ = some (.int .i64 kind) := (hbw.cell (p := ⟨w.heap.size, 0, none⟩) (by simp)).trans (by simp)
        rw [List.take_length]
        generalize maxL (l.map (deep d)) = m at HD hmb
        go_wp2_with fail
        refine (l2Holds_any kind _).mono ?_
        rintro e w1 ⟨rfl, rfl⟩
        by_cases hh : holds kind = true
        · have hn : Hid (D = m + 1) := by show _ = _; rw [HD.out, hh]; rfl
          rw [hh]
          clear hh HD
          go_wp2
          go_ret
          exact ⟨by rw [hn.out]; rfl, hB0⟩
        · have hh' : holds kind = false := by simpa using hh
          have hn : Hid (D = m) := by show _ = _; rw [HD.out, hh']; simp
          rw [hh']
          clear hh hh' HD
          go_wp2
          go_ret
          exact ⟨by rw [hn.out]; rfl, hB0⟩

end Go.Proofs.Ytpopjapcgcnnfaa

namespace Go.Proofs.Ytpopjapcgcnnfaa
open Go.RowKit Plain Sch

theorem upsTo_of (T : List Ty) (k : Nat) (hk : 1 ≤ k) (h : ∀ i, i < k → typeOk T i = true) : UpsTo T k := by
  constructor
  · have := h 0 (by omega)
    unfold typeOk firstOk at this
    rw [if_pos rfl] at this
    simp only [Bool.and_eq_true, decide_eq_true_eq] at this
    exact this.2.1.1.1.2
  · intro i hi hl
    have := part_chain T i hi (h i hl)
    exact ⟨this.1, this.2.1⟩

set_option maxRecDepth 100000 in
set_option maxHeartbeats 8000000 in
theorem specGood_any (T : List Ty) (v : Value) (w : World) (hT : TysAt w w.heap.size v T) :
    Calls Try.prog 71 #[.agg #[v]] w fun e w' => e = .returned (.bool (gs T)) ∧ Below w.heap.size w w' := by
  have hB1 : ∀ o, Below w.heap.size w (w.alloc o) := fun o => (Below.refl _ w).alloc (Nat.le_refl _) o
  by_cases h30' : 1 ≤ T.length ∧ T.length ≤ 30
  · obtain ⟨h1, h30⟩ := h30'
    have HT : Hid (TysAt w w.heap.size v T) := hT
    obtain ⟨g, o, cap, rfl, hlc, hcm, hg, hrow, hnm⟩ := hT.open (by omega)
    clear hT
    obtain ⟨R, hR⟩ : ∃ R, R = gs T := ⟨_, rfl⟩
    rw [← hR]
    have HR : Hid (R = ((List.range T.length).all (typeOk T) && ((List.range T.length).all fun i => if (ty T i).kind = 4 then decide ((kids T i).length = 1) else true) && decide (deep T.length (tree T T.length 0) ≤ 5))) := by
      show _ = _
      rw [hR]
      unfold gs
      simp [h1, h30]
    clear hR
    have HF : Hid (∀ i, i < T.length → typeOk T i = false → R = false) := fun i hi h => by
      rw [HR.out]
      have : (List.range T.length).all (typeOk T) = false := by
        rw [List.all_eq_false]
        exact ⟨i, List.mem_range.2 hi, by rw [h]; simp⟩
      rw [this]; rfl
    have HF2 : Hid (∀ i, i < T.length → (ty T i).kind = 4 → (kids T i).length ≠ 1 → R = false) := fun i hi h h2 => by
      rw [HR.out]
      have : ((List.range T.length).all fun i => if (ty T i).kind = 4 then decide ((kids T i).length = 1) else true) = false := by
        rw [List.all_eq_false]
        exact ⟨i, List.mem_range.2 hi, by rw [if_pos h]; simpa using h2⟩
      rw [this]; simp
    have HRW : Hid (∀ i, i < T.length → TyIn w g (o + i * 6) (ty T i)) := hrow
    clear hrow hnm
    have hl30 : (T.length : Int) ≤ 30 := by omega
    have hl1 : (1 : Int) ≤ (T.length : Int) := by omega
    have hd130 : decide ((1 : Int) ≤ (T.length : Int) ∧ (T.length : Int) ≤ 30) = true := by simp; omega
    go_enter Try.func71, Try.ntmps71
    go_wp2_with fail
    refine (l1In_any _ 1 30 _).mono ?_
    rintro e w1 ⟨rfl, rfl⟩
    rw [hd130]
    clear hd130
    go_wp2
    go_loopw [15] (fun vi wr => ∃ i : Nat, i ≤ T.length ∧ vi = .int .i64 (i : Int) ∧ Hid (∀ j, j < i → typeOk T j = true) ∧ Below (w.heap.size + 1) (w.alloc (.cells #[.slice (some ⟨g, o, none⟩) T.length cap] 59)) wr)
      (fun vi _ => T.length - (intOf vi).toNat)
    case atStart => exact ⟨0, by omega, rfl, fun j hj => by omega, Below.refl _ _⟩
    case round =>
      obtain ⟨i, hi, rfl, hall, hbw⟩ := hrel
      have hB0 : Below w.heap.size w wr := (hB1 _).trans (hbw.mono (by omega))
      have hsz : w.heap.size < wr.heap.size := by have := hbw.size; simp at this; omega
      have q0 : wr.cell? ⟨w.heap.size, 0, none⟩ = some (.slice (some ⟨g, o, none⟩) T.length cap) := (hbw.cell (p := ⟨w.heap.size, 0, none⟩) (by simp)).trans (by simp)
      by_cases hlt : i < T.length
      · have hlt' : (i : Int) < (T.length : Int) := by omega
        have hci := (HRW.out i hlt).below hB0 hg
        obtain ⟨ti, hti⟩ : ∃ t, ty T i = t := ⟨_, rfl⟩
        have HTO1 : Hid (typeOk T i = (okKind ti && (if i = 0 then firstOk ti else partOk T i))) := by
          show _ = _
          unfold typeOk
          rw [hti]
          by_cases h0 : i = 0
          · subst h0; rw [if_pos rfl, if_pos rfl, hti]
          · rw [if_neg h0, if_neg h0]
        rw [hti] at hci
        clear hti
        obtain ⟨kind, name, no, must, up, most⟩ := ti
        obtain ⟨c0, c1, c2, c3, c4, c5⟩ := hci
        dsimp only at c0 c1 c2 c3 c4 c5
        have hB9 : Below w.heap.size w (wr.alloc (.cells #[.int .i64 kind, .string name, .int .i64 no, .bool must, .int .i64 up, .int .i64 most] 157)) := hB0.alloc hB0.size _
        have hbw9 := hbw.alloc (show w.heap.size + 1 ≤ wr.heap.size by omega) (.cells #[.int .i64 kind, .string name, .int .i64 no, .bool must, .int .i64 up, .int .i64 most] 157)
        clear hbw hB0
        go_wp2_with fail
        refine (l1In_any kind 1 5 _).mono ?_
        rintro e w1 ⟨rfl, rfl⟩
        by_cases hk : 1 ≤ kind ∧ kind ≤ 5
        · have hkd : decide (1 ≤ kind ∧ kind ≤ 5) = true := by simpa using hk
          rw [hkd]
          clear hkd
          by_cases h3 : kind = 3
          · subst h3
            go_wp2_with fail
            refine (l1In_any most 0 20 _).mono ?_
            rintro e w1 ⟨rfl, rfl⟩
            by_cases hm : 0 ≤ most ∧ most ≤ 20
            · have hmd : decide (0 ≤ most ∧ most ≤ 20) = true := by simpa using hm
              have HTO : Hid (typeOk T i = (if i = 0 then firstOk ⟨3, name, no, must, up, most⟩ else partOk T i)) := by show _ = _; rw [HTO1.out]; unfold okKind; simp [hm.1, hm.2]
              rw [hmd]
              clear hmd HTO1 hm hk
              by_cases hi0 : i = 0
              · subst hi0
                have HTO0 : Hid (typeOk T 0 = firstOk ⟨3, name, no, must, up, most⟩) := by show _ = _; rw [HTO.out, if_pos rfl]
                clear HTO
                have hn : Hid (R = false) := HF.out 0 hlt (by rw [HTO0.out]; unfold firstOk; simp)
                clear HTO0
                go_wp2
                go_ret
                exact ⟨by rw [hn.out]; rfl, hB9⟩
              · rw [if_neg hi0] at HTO
                have hi0' : ((i : Int) == 0) = false := by simp; omega
                have hipos : (0 : Int) < (i : Int) := by omega
                go_wp2_with fail
                refine (l2Part_any T _ i _ (HT.out.below hB9) hlt (by omega) h30 (upsTo_of T i (by omega) hall.out)).mono ?_
                rintro e w5 ⟨rfl, hb5⟩
                have hbw5 := hbw9.trans (hb5.mono (show w.heap.size + 1 ≤ (wr.alloc (.cells #[.int .i64 3, .string name, .int .i64 no, .bool must, .int .i64 up, .int .i64 most] 157)).heap.size by simp; omega))
                have hB5 : Below w.heap.size w w5 := hB9.trans (hb5.mono hB9.size)
                clear hb5
                by_cases hp : partOk T i = true
                · have hall2 : Hid (∀ j, j < i + 1 → typeOk T j = true) := fun j hj => by
                    by_cases hji : j = i
                    · rw [hji, HTO.out]; exact hp
                    · exact hall.out j (by omega)
                  rw [hp]
                  clear hp HTO
                  go_wp2
                  go_roundw
                  case rel => exact ⟨i + 1, by omega, by go_num, hall2, hbw5⟩
                  case measure => simp [intOf]; omega
                · have hp' : partOk T i = false := by simpa using hp
                  have hn : Hid (R = false) := HF.out i hlt (by rw [HTO.out]; exact hp')
                  rw [hp']
                  clear hp hp' HTO
                  go_wp2
                  go_ret
                  exact ⟨by rw [hn.out]; rfl, hB5⟩
            · have hmd : decide (0 ≤ most ∧ most ≤ 20) = false := by simpa using hm
              have hn : Hid (R = false) := HF.out i hlt (by
                rw [HTO1.out]
                have : okKind ⟨3, name, no, must, up, most⟩ = false := by
                  unfold okKind
                  by_cases h0 : 0 ≤ most
                  · have : ¬ most ≤ 20 := fun h => hm ⟨h0, h⟩
                    simp [this]
                  · simp [h0]
                rw [this]; rfl)
              rw [hmd]
              clear hmd HTO1 hm hk
              go_wp2
              go_ret
              exact ⟨by rw [hn.out]; rfl, hB9⟩
          · have h3' : (kind == 3) = false := by simpa using h3
            have h3'' : (kind != 3) = true := by simpa using h3
            by_cases hm : most = 0
            · subst hm
              have HTO : Hid (typeOk T i = (if i = 0 then firstOk ⟨kind, name, no, must, up, 0⟩ else partOk T i)) := by show _ = _; rw [HTO1.out]; unfold okKind; simp [h3, hk.1, hk.2]
              clear HTO1 hk h3
              by_cases hi0 : i = 0
              · subst hi0
                have HTO0 : Hid (typeOk T 0 = firstOk ⟨kind, name, no, must, up, 0⟩) := by show _ = _; rw [HTO.out, if_pos rfl]
                clear HTO
                by_cases h5 : kind = 5
                · subst h5
                  by_cases hup : up = -1
                  · subst hup
                    by_cases hnm : name.toList = []
                    · have hnd : name = ⟨#[]⟩ := by
                        apply ByteArray.ext
                        have : name.data.toList = [] := by rw [← ByteArray.toList_eq]; exact hnm
                        exact Array.toList_eq_nil_iff.1 this
                      subst hnd
                      clear hnm
                      by_cases hno : no = 0
                      · subst hno
                        by_cases hmu : must = false
                        · subst hmu
                          have hall2 : Hid (∀ j, j < 0 + 1 → typeOk T j = true) := fun j hj => by
                            obtain rfl : j = 0 := by omega
                            rw [HTO0.out]; unfold firstOk; simp
                          clear HTO0
                          go_wp2
                          go_roundw
                          case rel => exact ⟨0 + 1, by omega, by go_num, hall2, hbw9⟩
                          case measure => simp [intOf]; omega
                        · have hmu' : must = true := by simpa using hmu
                          subst hmu'
                          have hn : Hid (R = false) := HF.out 0 hlt (by rw [HTO0.out]; unfold firstOk; simp)
                          clear HTO0 hmu
                          go_wp2
                          go_ret
                          exact ⟨by rw [hn.out]; rfl, hB9⟩
                      · have hno' : (no != 0) = true := by simpa using hno
                        have hno'' : (no == 0) = false := by simpa using hno
                        have hn : Hid (R = false) := HF.out 0 hlt (by rw [HTO0.out]; unfold firstOk; simp [hno])
                        clear HTO0 hno
                        go_wp2
                        go_ret
                        exact ⟨by rw [hn.out]; rfl, hB9⟩
                    · have hnm' : name.toList.isEmpty = false := by simpa using hnm
                      have hnd : ¬ name = ⟨#[]⟩ := fun e => hnm (by rw [e]; simp)
                      have hn : Hid (R = false) := HF.out 0 hlt (by rw [HTO0.out]; unfold firstOk; simp [hnd])
                      clear HTO0 hnm hnd
                      go_wp2
                      go_ret
                      exact ⟨by rw [hn.out]; rfl, hB9⟩
                  · have hup' : (up != -1) = true := by simpa using hup
                    have hup'' : (up == -1) = false := by simpa using hup
                    have hn : Hid (R = false) := HF.out 0 hlt (by rw [HTO0.out]; unfold firstOk; simp [hup])
                    clear HTO0 hup
                    go_wp2
                    go_ret
                    exact ⟨by rw [hn.out]; rfl, hB9⟩
                · have h5' : (kind != 5) = true := by simpa using h5
                  have h5'' : (kind == 5) = false := by simpa using h5
                  have hn : Hid (R = false) := HF.out 0 hlt (by rw [HTO0.out]; unfold firstOk; simp [h5])
                  clear h5 HTO0
                  go_wp2
                  go_ret
                  exact ⟨by rw [hn.out]; rfl, hB9⟩
              · rw [if_neg hi0] at HTO
                have hi0' : ((i : Int) == 0) = false := by simp; omega
                have hipos : (0 : Int) < (i : Int) := by omega
                go_wp2_with fail
                refine (l2Part_any T _ i _ (HT.out.below hB9) hlt (by omega) h30 (upsTo_of T i (by omega) hall.out)).mono ?_
                rintro e w5 ⟨rfl, hb5⟩
                have hbw5 := hbw9.trans (hb5.mono (show w.heap.size + 1 ≤ (wr.alloc (.cells #[.int .i64 kind, .string name, .int .i64 no, .bool must, .int .i64 up, .int .i64 0] 157)).heap.size by simp; omega))
                have hB5 : Below w.heap.size w w5 := hB9.trans (hb5.mono hB9.size)
                clear hb5
                by_cases hp : partOk T i = true
                · have hall2 : Hid (∀ j, j < i + 1 → typeOk T j = true) := fun j hj => by
                    by_cases hji : j = i
                    · rw [hji, HTO.out]; exact hp
                    · exact hall.out j (by omega)
                  rw [hp]
                  clear hp HTO
                  go_wp2
                  go_roundw
                  case rel => exact ⟨i + 1, by omega, by go_num, hall2, hbw5⟩
                  case measure => simp [intOf]; omega
                · have hp' : partOk T i = false := by simpa using hp
                  have hn : Hid (R = false) := HF.out i hlt (by rw [HTO.out]; exact hp')
                  rw [hp']
                  clear hp hp' HTO
                  go_wp2
                  go_ret
                  exact ⟨by rw [hn.out]; rfl, hB5⟩
            · have hm' : (most != 0) = true := by simpa using hm
              have hm'' : (most == 0) = false := by simpa using hm
              have hn : Hid (R = false) := HF.out i hlt (by rw [HTO1.out]; unfold okKind; simp [h3, hm])
              clear HTO1 hk h3 hm
              go_wp2
              go_ret
              exact ⟨by rw [hn.out]; rfl, hB9⟩
        · have hkd : decide (1 ≤ kind ∧ kind ≤ 5) = false := by simpa using hk
          have hn : Hid (R = false) := HF.out i hlt (by
            rw [HTO1.out]
            have : okKind ⟨kind, name, no, must, up, most⟩ = false := by
              unfold okKind
              by_cases h0 : 1 ≤ kind
              · have : ¬ kind ≤ 5 := fun h => hk ⟨h0, h⟩
                simp [this]
              · simp [h0]
            rw [this]; rfl)
          rw [hkd]
          clear hkd HTO1 hk
          go_wp2
          go_ret
          exact ⟨by rw [hn.out]; rfl, hB9⟩
      · have hke : i = T.length := by omega
        subst hke
        have hge : ¬ ((T.length : Int) < (T.length : Int)) := by omega
        have HAll : Hid ((List.range T.length).all (typeOk T) = true) := by
          show _ = _
          rw [List.all_eq_true]
          intro x hx
          exact hall.out x (List.mem_range.1 hx)
        have HBW : Hid (Below (w.heap.size + 1) (w.alloc (.cells #[.slice (some ⟨g, o, none⟩) T.length cap] 59)) wr) := hbw
        clear hall HF
        go_wp2
        go_loopw [85] (fun vi w6 => ∃ i : Nat, i ≤ T.length ∧ vi = .int .i64 (i : Int) ∧ Hid (∀ j, j < i → (ty T j).kind = 4 → (kids T j).length = 1) ∧ Below (w.heap.size + 1) (w.alloc (.cells #[.slice (some ⟨g, o, none⟩) T.length cap] 59)) w6)
          (fun vi _ => T.length - (intOf vi).toNat)
        case atStart => exact ⟨0, by omega, rfl, fun j hj => by omega, HBW.out⟩
        case round =>
          clear hbw hB0 hsz q0 HBW
          obtain ⟨i, hi, rfl, hall, hbw⟩ := hrel
          have hB0 : Below w.heap.size w wr := (hB1 _).trans (hbw.mono (by omega))
          have hsz : w.heap.size < wr.heap.size := by have := hbw.size; simp at this; omega
          have q0 : wr.cell? ⟨w.heap.size, 0, none⟩ = some (.slice (some ⟨g, o, none⟩) T.length cap) := (hbw.cell (p := ⟨w.heap.size, 0, none⟩) (by simp)).trans (by simp)
          by_cases hlt : i < T.length
          · have hlt' : (i : Int) < (T.length : Int) := by omega
            have hci := (HRW.out i hlt).below hB0 hg
            obtain ⟨ti, hti⟩ : ∃ t, ty T i = t := ⟨_, rfl⟩
            have HTI : Hid (ty T i = ti) := hti
            rw [hti] at hci
            clear hti
            obtain ⟨kind, name, no, must, up, most⟩ := ti
            obtain ⟨c0, c1, c2, c3, c4, c5⟩ := hci
            dsimp only at c0 c1 c2 c3 c4 c5
            have hB9 : Below w.heap.size w (wr.alloc (.cells #[.int .i64 kind, .string name, .int .i64 no, .bool must, .int .i64 up, .int .i64 most] 157)) := hB0.alloc hB0.size _
            have hbw9 := hbw.alloc (show w.heap.size + 1 ≤ wr.heap.size by omega) (.cells #[.int .i64 kind, .string name, .int .i64 no, .bool must, .int .i64 up, .int .i64 most] 157)
            clear hbw hB0
            by_cases h4 : kind = 4
            · subst h4
              have hT9 : Hid (TysAt (wr.alloc (.cells #[.int .i64 4, .string name, .int .i64 no, .bool must, .int .i64 up, .int .i64 most] 157)) (wr.alloc (.cells #[.int .i64 4, .string name, .int .i64 no, .bool must, .int .i64 up, .int .i64 most] 157)).heap.size (.slice (some ⟨g, o, none⟩) T.length cap) T) := HT.out.below hB9
              go_wp2_with fail
              refine (l2Kids_any T _ i _ hT9.out hlt (by omega)).mono ?_
              rintro e w5 ⟨r, rfl, hr, hb5⟩
              have hbw5 := hbw9.trans (hb5.mono (show w.heap.size + 1 ≤ (wr.alloc (.cells #[.int .i64 4, .string name, .int .i64 no, .bool must, .int .i64 up, .int .i64 most] 157)).heap.size by simp; omega))
              have hB5 : Below w.heap.size w w5 := hB9.trans (hb5.mono hB9.size)
              have hkl : (kids T i).length ≤ T.length := kidsTo_len T i T.length
              obtain ⟨ar, capr, hrv⟩ : ∃ ao cap, r = Value.slice ao (kids T i).length cap := by
                rcases hr.2 with ⟨rfl, h0⟩ | ⟨g, cap, _, rfl, _⟩
                · exact ⟨none, 0, by rw [h0]⟩
                · exact ⟨_, _, rfl⟩
              subst hrv
              clear hb5 hr
              by_cases hone : (kids T i).length = 1
              · have hall2 : Hid (∀ j, j < i + 1 → (ty T j).kind = 4 → (kids T j).length = 1) := fun j hj h => by
                  by_cases hji : j = i
                  · rw [hji]; exact hone
                  · exact hall.out j (by omega) h
                rw [hone]
                clear hone hkl
                go_wp2
                go_roundw
                case rel => exact ⟨i + 1, by omega, by go_num, hall2, hbw5⟩
                case measure => simp [intOf]; omega
              · have hn : Hid (R = false) := HF2.out i hlt (by rw [HTI.out]) hone
                generalize (kids T i).length = kl at hone hkl
                have hone' : ((kl : Int) != 1) = true := by simp; omega
                have hone'' : ((kl : Int) == 1) = false := by simp; omega
                clear hone
                go_wp2
                go_ret
                exact ⟨by rw [hn.out]; rfl, hB5⟩
            · have h4' : (kind == 4) = false := by simpa using h4
              have hall2 : Hid (∀ j, j < i + 1 → (ty T j).kind = 4 → (kids T j).length = 1) := fun j hj h => by
                by_cases hji : j = i
                · rw [hji, HTI.out] at h; exact absurd h h4
                · exact hall.out j (by omega) h
              clear h4
              go_wp2
              go_roundw
              case rel => exact ⟨i + 1, by omega, by go_num, hall2, hbw9⟩
              case measure => simp [intOf]; omega
          · have hke : i = T.length := by omega
            subst hke
            have hge : ¬ ((T.length : Int) < (T.length : Int)) := by omega
            have hn : Hid (R = decide (deep T.length (tree T T.length 0) ≤ 5)) := by
              show R = _
              rw [HR.out, HAll.out]
              have : ((List.range T.length).all fun i => if (ty T i).kind = 4 then decide ((kids T i).length = 1) else true) = true := by
                rw [List.all_eq_true]
                intro x hx
                by_cases hx4 : (ty T x).kind = 4
                · rw [if_pos hx4]
                  simpa using hall.out x (List.mem_range.1 hx) hx4
                · rw [if_neg hx4]
              rw [this]
              simp
            have hTr : Hid (TysAt wr wr.heap.size (.slice (some ⟨g, o, none⟩) T.length cap) T) := HT.out.below hB0
            have hdb := deep_bound T.length (tree T T.length 0)
            clear hall HF2 HAll
            go_wp2_with fail
            refine (l2Tree_any T _ (by omega) T.length 0 _ hTr.out (by omega) (by omega)).mono ?_
            rintro e w5 ⟨c, rfl, hkk, hb5⟩
            have hB5 : Below w.heap.size w w5 := hB0.trans (hb5.mono hB0.size)
            have CD : Hid (Calls Try.prog 108 #[trVal (tree T T.length 0) c] w5 fun e w' => e = .returned (.int .i64 (deep T.length (tree T T.length 0) : Int)) ∧ Below w5.heap.size w5 w') := l2Deep_any T.length (tree T T.length 0) c _ w5 (by omega) hkk (fun g hg => hg.2)
            clear hkk hb5
            generalize deep T.length (tree T T.length 0) = dd at hn hdb CD
            generalize trVal (tree T T.length 0) c = tv at CD
            go_wp2_with fail
            refine CD.out.mono ?_
            rintro e w6 ⟨rfl, hb6⟩
            have hB6 : Below w.heap.size w w6 := hB5.trans (hb6.mono hB5.size)
            clear CD hb6
            have hdec : decide (dd ≤ 5) = decide ((dd : Int) ≤ 5) := by rw [decide_eq_decide]; omega
            rw [hdec] at hn
            go_wp2
            go_ret
            exact ⟨by rw [hn.out]; rfl, hB6⟩
  · have hn : gs T = false := by
      unfold gs
      by_cases h1 : 1 ≤ T.length
      · have : ¬ T.length ≤ 30 := fun h => h30' ⟨h1, h⟩
        simp [this]
      · simp [h1]
    rw [hn]
    obtain ⟨ao, cap, rfl, hlc, hcm, _⟩ := hT
    have hd : decide ((1 : Int) ≤ (T.length : Int) ∧ (T.length : Int) ≤ 30) = false := by simp; omega
    clear hn h30'
    go_enter Try.func71, Try.ntmps71
    go_wp2_with fail
    refine (l1In_any _ 1 30 _).mono ?_
    rintro e w1 ⟨rfl, rfl⟩
    rw [hd]
    go_wp2
    go_ret
    exact ⟨rfl, hB1 _⟩

end Go.Proofs.Ytpopjapcgcnnfaa

namespace Go.Proofs.Ytpopjapcgcnnfaa
open Go.RowKit Plain Sch

theorem implGoodT (T : List Ty) (v : Value) (w : World) (hT : TysAt w w.heap.size v T) :
    Calls Try.prog 76 #[.agg #[v]] w fun e w' => e = .returned (.bool (gs T)) ∧ Below w.heap.size w w' := by
  rw [← gs_eq]
  exact implGood_any T v w hT

theorem gs_types (T : List Ty) (h : gs T = true) : 1 ≤ T.length ∧ T.length ≤ 30 ∧ ∀ i, i < T.length → typeOk T i = true := by
  unfold gs at h
  simp only [Bool.and_eq_true, decide_eq_true_eq, List.all_eq_true, List.mem_range] at h
  exact ⟨h.1.1.1.1, h.1.1.1.2, h.1.1.2⟩

theorem gs_ups (T : List Ty) (h : gs T = true) : Ups T := by
  have := gs_types T h
  exact ups_of T (by omega) this.2.2

end Go.Proofs.Ytpopjapcgcnnfaa
