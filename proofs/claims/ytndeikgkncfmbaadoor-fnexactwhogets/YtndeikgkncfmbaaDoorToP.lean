/- The program's patternLevels, its memory new; rows of rows of texts. -/
import Derived.Test.YtndeikgkncfmbaaDoorToN
import Derived.Test.YtndeikgkncfmbaaDoorToF
import Derived.Test.YtndeikgkncfmbaaDoorSbM
namespace Go.Proofs.YtndeikgkncfmbaaDoor
open Go.RowKit Plain Tpc

/-- a slice that lies in no block below B -/
def Fr (B : Nat) (v : Value) : Prop := ∀ g, v.ownBlock = some g → B ≤ g

theorem Fr.nil (B : Nat) : Fr B (.slice none 0 0) := fun g h => by simp [Value.ownBlock] at h

set_option maxRecDepth 100000 in
set_option maxHeartbeats 4000000 in
theorem split_new (s : ByteArray) (w : World) (hs : s.size ≤ 1048576) :
    Calls Tryd.prog 64 #[.string s, .string ⟨#[47]⟩] w fun e w' =>
      (∃ r, e = .returned r ∧ StAt w' w'.heap.size r (spl s) ∧ Fr w.heap.size r) ∧ Below w.heap.size w w' := by
  have hl : (spl s).length ≤ maxLen := by have := spl_le s; unfold maxLen; omega
  have C : Hid (Calls Tryd.prog 76 #[.string s, .string ⟨#[47]⟩, .int .i64 0, .int .i64 (-1)] w fun e w' =>
      e = .returned (.slice (some ⟨w.heap.size, 0, none⟩) (spl s).length (spl s).length) ∧ w' = w.alloc (.cells (strs (spl s)).toArray 9)) := genSplit_any s w hs
  go_enter Tryd.func64, Tryd.ntmps64
  go_wp2_with fail
  refine C.out.mono ?_
  rintro e w2 ⟨rfl, hw2⟩
  have hA : Hid (StAt w2 w2.heap.size (.slice (some ⟨w.heap.size, 0, none⟩) (spl s).length (spl s).length) (spl s)) := by rw [hw2]; exact StAt.made w _ _ hl
  have hB : Below w.heap.size w w2 := by rw [hw2]; exact (Below.refl _ w).alloc (Nat.le_refl _) _
  clear hw2
  go_wp2
  go_ret
  exact ⟨⟨_, rfl, hA.out, fun g hg => by simp [Value.ownBlock] at hg; omega⟩, hB⟩

set_option maxRecDepth 100000 in
set_option maxHeartbeats 4000000 in
theorem patternLevels_new (s : ByteArray) (w : World) (hs : s.size ≤ 1048576) :
    Calls Tryd.prog 40 #[.string s] w fun e w' => (∃ r, e = .returned (.tuple #[r, .bool (gp s)]) ∧ StAt w' w'.heap.size r (pls s) ∧ Fr w.heap.size r) ∧ Below w.heap.size w w' := by
  by_cases hlong : 41 < s.size
  · have hg : gp s = false := gp_long hlong
    have hpl : pls s = [] := by unfold pls; rw [hg]; rfl
    rw [hg, hpl]
    have d : decide ((41 : Int) < (s.size : Int)) = true := by simp; omega
    clear hlong hg hpl
    go_enter Tryd.func40, Tryd.ntmps40
    go_wp2
    go_ret2
    exact ⟨⟨_, rfl, StAt.nil _ _, Fr.nil _⟩, Below.refl _ _⟩
  have d41 : decide ((41 : Int) < (s.size : Int)) = false := by simp; omega
  have HSZ : Hid (∀ i, i < (spl s).length → (lq (spl s) i).size ≤ 1048576) := fun i hi => by have := lq_size s i hi; omega
  have HLE : (spl s).length ≤ 1048577 := by have := spl_le s; omega
  have C : Hid (Calls Tryd.prog 64 #[.string s, .string ⟨#[47]⟩] w fun e w' => (∃ r, e = .returned r ∧ StAt w' w'.heap.size r (spl s) ∧ Fr w.heap.size r) ∧ Below w.heap.size w w') := split_new s w hs
  obtain ⟨R, hR⟩ : ∃ R, R = gp s := ⟨_, rfl⟩
  obtain ⟨Q, hQ⟩ : ∃ Q, Q = pls s := ⟨_, rfl⟩
  rw [← hR, ← hQ]
  unfold pls at hQ
  rw [← hR] at hQ
  unfold gp at hR
  generalize spl s = L at C HSZ hR HLE hQ
  have HQ : Hid (Q = if R = true then L else []) := hQ
  have HR : Hid (R = gpL L) := hR
  clear hR hQ hlong
  go_enter Tryd.func40, Tryd.ntmps40
  go_wp2_with fail
  refine C.out.mono ?_
  rintro e w2 ⟨⟨r, rfl, hrow, hfr⟩, hB2⟩
  have HFR : Hid (Fr w.heap.size r) := hfr
  clear hfr
  have HA : Hid (StAt w2 w2.heap.size r L) := hrow
  obtain ⟨ao, cap, rfl, hlc, hcm, hro⟩ := hrow
  have hcm' : cap ≤ 9223372036854775807 := by unfold maxLen at hcm; omega
  have HROW : Hid (∀ i, i < L.length → ∃ g o, ao = some ⟨g, o, none⟩ ∧ g < w2.heap.size ∧ w2.cell? ⟨g, o + i, none⟩ = some (.string (lq L i))) := hro
  clear hro C
  by_cases h6 : 6 < L.length
  · have d6 : decide ((6 : Int) < (L.length : Int)) = true := by simp; omega
    have hF : Hid (R = false) := HR.out.trans (by rw [Bool.eq_false_iff]; intro hh; have := (gpL_at hh).2; omega)
    have hN : Hid (Q = []) := by show _ = _; rw [HQ.out, hF.out]; rfl
    clear h6 HR HQ
    go_wp2
    go_ret2
    exact ⟨⟨_, by rw [hF.out]; rfl, by rw [hN.out]; exact StAt.nil _ _, Fr.nil _⟩, hB2⟩
  have d6 : decide ((6 : Int) < (L.length : Int)) = false := by simp; omega
  have H6 : L.length ≤ 6 := by omega
  clear h6
  go_wp2
  go_loopw [18] (fun vi wr => ∃ (k : Nat), k ≤ L.length ∧ vi = .int .i64 (k : Int) ∧ Hid (∀ j, j < k → okP L j = true) ∧ wr = w2)
    (fun vi _ => L.length - (intOf vi).toNat)
  case atStart => exact ⟨0, by omega, rfl, fun j hj => by omega, rfl⟩
  case round =>
    obtain ⟨k, hk, rfl, hall, rfl⟩ := hrel
    by_cases hlt : k < L.length
    · have hltI : (k : Int) < (L.length : Int) := by omega
      obtain ⟨g, o, rfl, hg, c⟩ := HROW.out k hlt
      have HS9 := HSZ.out k hlt
      have hOK := okP_prog L k
      obtain ⟨x, hx⟩ : ∃ x, lq L k = x := ⟨_, rfl⟩
      rw [hx] at c HS9 hOK
      obtain ⟨last, hlast⟩ : ∃ b, b = decide (k + 1 = L.length) := ⟨_, rfl⟩
      rw [← hlast] at hOK
      have HOK : Hid (okP L k = ((isS x || lv x) && !(isH x && !last))) := hOK
      have dl : ((k : Int) == (L.length : Int) - 1) = last := by
        rw [hlast, Bool.eq_iff_iff]
        simp
        omega
      clear hx hOK hlast
      have hno : Hid (okP L k = false → R = false) := fun h => HR.out.trans (gpL_no hlt h)
      have hyes : Hid (okP L k = true → ∀ j, j < k + 1 → okP L j = true) := fun h j hj => by
        by_cases hjk : j = k
        · rw [hjk]; exact h
        · exact hall.out j (by omega)
      clear hall
      have CL : Hid (∀ W, Calls Tryd.prog 65 #[.string x] W fun e w' => e = .returned (.bool (isS x || lv x)) ∧ w' = W) := fun W => isLevel_any x W HS9
      generalize (isS x || lv x) = a at CL HOK
      go_wp2_with fail
      refine (CL.out _).mono ?_
      rintro e w1 ⟨rfl, rfl⟩
      cases a with
      | false =>
        have hF : Hid (R = false) := hno.out (by rw [HOK.out]; rfl)
        have hN : Hid (Q = []) := by show _ = _; rw [HQ.out, hF.out]; rfl
        clear hyes hno
        go_wp2
        go_ret2
        exact ⟨⟨_, by rw [hF.out]; rfl, by rw [hN.out]; exact StAt.nil _ _, Fr.nil _⟩, hB2⟩
      | true =>
        rcases hh : isH x with _ | _
        · have eh : (x.toList == [35]) = false := hh
          have hall2 : Hid (∀ j, j < k + 1 → okP L j = true) := hyes.out (by rw [HOK.out, hh]; rfl)
          clear hyes hno hh
          go_wp2
          go_roundw
          case rel => exact ⟨k + 1, by omega, by go_num, hall2, trivial⟩
          case measure => simp [intOf]; omega
        · have eh : (x.toList == [35]) = true := hh
          cases last with
          | true =>
            have hall2 : Hid (∀ j, j < k + 1 → okP L j = true) := hyes.out (by rw [HOK.out, hh]; rfl)
            clear hyes hno hh
            go_wp2
            go_roundw
            case rel => exact ⟨k + 1, by omega, by go_num, hall2, trivial⟩
            case measure => simp [intOf]; omega
          | false =>
            have hF : Hid (R = false) := hno.out (by rw [HOK.out, hh]; rfl)
            have hN : Hid (Q = []) := by show _ = _; rw [HQ.out, hF.out]; rfl
            clear hyes hno hh
            go_wp2
            go_ret2
            exact ⟨⟨_, by rw [hF.out]; rfl, by rw [hN.out]; exact StAt.nil _ _, Fr.nil _⟩, hB2⟩
    · have hge : ¬ ((k : Int) < (L.length : Int)) := by omega
      have hF : Hid (R = true) := HR.out.trans ((gpL_end (fun i hi => hall.out i (by omega))).trans (by simpa using H6))
      have hN : Hid (Q = L) := by show _ = _; rw [HQ.out, hF.out]; rfl
      clear hall
      go_wp2
      go_ret2
      exact ⟨⟨_, by rw [hF.out]; rfl, by rw [hN.out]; exact HA.out, HFR.out⟩, hB2⟩


def lz (M : List (List ByteArray)) (i : Nat) : List ByteArray := M.getD i []

/-- a slice of slices of texts, in blocks below B -/
def PsAt (w : World) (B : Nat) (v : Value) (M : List (List ByteArray)) : Prop :=
  ∃ ao cap, v = .slice ao M.length cap ∧ M.length ≤ cap ∧ cap ≤ maxLen ∧ ∀ i, i < M.length → ∃ g o u, ao = some ⟨g, o, none⟩ ∧ g < B ∧ w.cell? ⟨g, o + i, none⟩ = some u ∧ StAt w B u (lz M i)

theorem PsAt.below {w w' : World} {v : Value} {M : List (List ByteArray)} {B : Nat} (h : PsAt w B v M) (hb : Below B w w') (hB : B ≤ w.heap.size := by exact Nat.le_refl _) : PsAt w' w'.heap.size v M := by
  obtain ⟨ao, cap, hv, hc, hm, hr⟩ := h
  refine ⟨ao, cap, hv, hc, hm, fun i hi => ?_⟩
  obtain ⟨g, o, u, ha, hg, c, hs⟩ := hr i hi
  have := hb.size
  exact ⟨g, o, u, ha, by omega, (hb.cell (p := ⟨g, o + i, none⟩) hg).trans c, hs.below hb hB⟩

/-- a list of texts in memory that lies in no block of the row -/
def StO (w : World) (row : Option Nat) (u : Value) (L : List ByteArray) : Prop := StAt w w.heap.size u L ∧ ∀ g, u.ownBlock = some g → 0 < L.length → some g ≠ row

/-- an own row of slices, what they hold elsewhere -/
def POwn (w : World) (B : Nat) (v : Value) (M : List (List ByteArray)) (us : List Value) : Prop :=
  w.ownsRow B 48 1 v M.length us ∧ ∀ i, i < M.length → ∃ u, us[i]? = some u ∧ StO w v.ownBlock u (lz M i)

theorem StO.below {w w' : World} {row : Option Nat} {u : Value} {L : List ByteArray} (h : StO w row u L) (hb : Below w.heap.size w w') : StO w' row u L := ⟨h.1.below hb, h.2⟩

theorem StO.grown {w w' : World} {row : Option Nat} {u : Value} {L : List ByteArray} (h : StO w row u L) (hg : w.grownBy w' row) : StAt w' w'.heap.size u L := by
  obtain ⟨⟨ao, cap, rfl, h1, h2, h3⟩, h4⟩ := h
  refine ⟨ao, cap, rfl, h1, h2, fun i hi => ?_⟩
  obtain ⟨g, o, rfl, hgs, c⟩ := h3 i hi
  have hne := h4 g rfl (by omega)
  have := hg.size
  refine ⟨g, o, rfl, by omega, ?_⟩
  rw [← c]
  exact World.cell?_of_block (hg.block g hgs hne)

theorem lz_old {M : List (List ByteArray)} {L : List ByteArray} {i : Nat} (h : i < M.length) : lz (M ++ [L]) i = lz M i := by
  unfold lz
  rw [List.getD, List.getD, List.getElem?_append_left h]
theorem lz_new (M : List (List ByteArray)) (L : List ByteArray) : lz (M ++ [L]) M.length = L := by
  unfold lz
  simp [List.getD]

theorem POwn.nil (w : World) (B : Nat) : POwn w B (.slice none 0 0) [] [] := ⟨⟨rfl, .inl ⟨rfl, rfl⟩⟩, fun i hi => by simp at hi⟩

theorem POwn.at {w : World} {B : Nat} {v : Value} {M : List (List ByteArray)} {us : List Value} (h : POwn w B v M us) : PsAt w w.heap.size v M := by
  obtain ⟨h1, h2⟩ := h
  have h0 := h1
  obtain ⟨_, ⟨rfl, hn0⟩ | ⟨g, cap, cur, rfl, hB, hb, hnc, hcm, _⟩⟩ := h1
  · exact ⟨none, 0, by rw [hn0], by omega, by unfold maxLen; omega, fun i hi => by omega⟩
  · refine ⟨some ⟨g, 0, none⟩, cap, rfl, hnc, hcm, fun i hi => ?_⟩
    obtain ⟨u, hu, hq⟩ := h2 i hi
    refine ⟨g, 0, u, rfl, (h0.lt g rfl).2, ?_, hq.1⟩
    rw [Nat.zero_add, h0.cellAt i (by omega)]
    exact hu

theorem POwn.slice {w : World} {B : Nat} {v : Value} {M : List (List ByteArray)} {us : List Value} (h : POwn w B v M us) : ∃ ao cap, v = Value.slice ao M.length cap := by
  rcases h.1.2 with ⟨rfl, h0⟩ | ⟨g, cap, _, rfl, _⟩
  · exact ⟨none, 0, by rw [h0]⟩
  · exact ⟨_, _, rfl⟩

theorem own_keep {w w' : World} {B e size n : Nat} {v : Value} {xs : List Value} (h : w.ownsRow B e size v n xs) (hb : Below w.heap.size w w') : w'.ownsRow B e size v n xs := by
  refine ⟨h.1, ?_⟩
  rcases h.2 with hn | ⟨g, cap, cur, hv, hg, hgg, rest⟩
  · exact .inl hn
  · exact .inr ⟨g, cap, cur, hv, hg, (hb.block g (Array.getElem?_eq_some_iff.1 hgg).1).trans hgg, rest⟩

theorem POwn.below {w w' : World} {B : Nat} {v : Value} {M : List (List ByteArray)} {us : List Value} (h : POwn w B v M us) (hb : Below w.heap.size w w') : POwn w' B v M us :=
  ⟨own_keep h.1 hb, fun i hi => by
    obtain ⟨u, hu, hq⟩ := h.2 i hi
    exact ⟨u, hu, hq.below hb⟩⟩

theorem POwn.snoc {w w2 w9 : World} {B : Nat} {v v9 u : Value} {M : List (List ByteArray)} {us : List Value} {L : List ByteArray} {o : Obj} (h : POwn w B v M us) (hb : Below w.heap.size w w2) (hq : StAt w2 w2.heap.size u L) (hfr : Fr w.heap.size u)
    (hown : w9.ownsRow B 48 1 v9 (M.length + 1) (us ++ [u])) (hgrow : (w2.alloc o).grownBy w9 v.ownBlock) (hat : ∀ g, v9.ownBlock = some g → v.ownBlock = some g ∨ g = w2.heap.size + 1) :
    POwn w9 B v9 (M ++ [L]) (us ++ [u]) := by
  have hul : us.length = M.length := by have := h.1.1; omega
  have hvl := World.ownsRow.lt h.1
  have hs := hb.size
  have hsz := hgrow.size
  simp at hsz
  have hal : Below w2.heap.size w2 (w2.alloc o) := (Below.refl _ w2).alloc (Nat.le_refl _) _
  have key : ∀ (u' : Value) (L' : List ByteArray), StO w2 v.ownBlock u' L' → StO w9 v9.ownBlock u' L' := fun u' L' hq' => by
    refine ⟨(hq'.below hal).grown hgrow, fun g he hL e2 => ?_⟩
    rcases hat g e2.symm with e3 | e3
    · exact hq'.2 g he hL e3.symm
    · obtain ⟨⟨ao, cap, hv, _, _, h3⟩, _⟩ := hq'
      obtain ⟨g', o', ha, hg', _⟩ := h3 0 hL
      rw [hv, ha] at he
      simp only [Value.ownBlock, Option.some.injEq] at he
      omega
  refine ⟨by rw [List.length_append]; exact hown, fun i hi => ?_⟩
  by_cases hl : i < M.length
  · obtain ⟨u', h1, h2⟩ := h.2 i hl
    refine ⟨u', by rw [List.getElem?_append_left (by omega)]; exact h1, ?_⟩
    rw [lz_old hl]
    exact key _ _ (h2.below hb)
  · have e : i = M.length := by simp at hi; omega
    subst e
    refine ⟨u, by rw [List.getElem?_append_right (by omega), hul]; simp, ?_⟩
    rw [lz_new]
    refine key _ _ ⟨hq, fun g he hL e2 => ?_⟩
    have h1 := hfr g he
    have h2 := (hvl g e2.symm).2
    omega

end Go.Proofs.YtndeikgkncfmbaaDoor
