/- The model's FieldsBytes: its answer as a function of the fields. -/
import Derived.Test.YtpopjapcgcnnfabDoorFldB
namespace Go.Proofs.YtpopjapcgcnnfabDoor
open Go.RowKit

def Fld.ok (f : Fld) : Bool := f.good && decide (f.data.size ≤ 400)

/-- what FieldsBytes answers -/
def fb (l : List Fld) : ByteArray × Bool :=
  if l.all Fld.ok = true ∧ l.length ≤ 40 ∧ (l.flatMap Fld.bytes).length ≤ 400 then (⟨(l.flatMap Fld.bytes).toArray⟩, true) else (⟨#[]⟩, false)

theorem fb_no (l : List Fld) (h : ¬ (l.all Fld.ok = true ∧ l.length ≤ 40 ∧ (l.flatMap Fld.bytes).length ≤ 400)) : fb l = (⟨#[]⟩, false) := by
  unfold fb; rw [if_neg h]

theorem fb_yes (l : List Fld) (h : l.all Fld.ok = true ∧ l.length ≤ 40 ∧ (l.flatMap Fld.bytes).length ≤ 400) : fb l = (⟨(l.flatMap Fld.bytes).toArray⟩, true) := by
  unfold fb; rw [if_pos h]

theorem fb_bad (l : List Fld) (k : Nat) (f : Fld) (h : l[k]? = some f) (hf : f.ok = false) : fb l = (⟨#[]⟩, false) := by
  apply fb_no
  rintro ⟨h1, _⟩
  rw [List.all_eq_true] at h1
  rw [h1 f (List.mem_of_getElem? h)] at hf
  exact absurd hf (by simp)

theorem all_take (l : List Fld) (k : Nat) (f : Fld) (h : l[k]? = some f) (h1 : (l.take k).all Fld.ok = true) (hf : f.ok = true) : (l.take (k + 1)).all Fld.ok = true := by
  rw [List.take_add_one, h, List.all_append, h1]
  simp [hf]

theorem l1Field_at (no kind num : Int) (data : ByteArray) (w : World) :
    Calls Tryd.prog 85 #[.agg #[.int .i64 no, .int .i64 kind, .int .i64 num, .string data]] w fun e w' => e = .returned (.bool (Fld.good ⟨no, kind, num, data⟩)) ∧ Below w.heap.size w w' :=
  l1Field_any ⟨no, kind, num, data⟩ w

set_option maxRecDepth 100000 in
set_option maxHeartbeats 4000000 in
theorem fieldsBytes_any (l : List Fld) (v : Value) (w : World) (hf : FldsAt w w.heap.size v l) :
    Calls Tryd.prog 57 #[v] w fun e w' => e = .returned (.tuple #[.string (fb l).1, .bool (fb l).2]) ∧ Below w.heap.size w w' := by
  have hf0 := hf
  obtain ⟨ao, cap, rfl, hmax, hrow⟩ := hf
  obtain ⟨R, hR⟩ : ∃ R, R = fb l := ⟨_, rfl⟩
  rw [← hR]
  have HR : Hid (R = fb l) := hR
  have HF : Hid (FldsAt w w.heap.size (.slice ao l.length cap) l) := hf0
  clear hR hf0
  unfold maxLen at hmax
  go_enter Tryd.func57, Tryd.ntmps57
  go_wp2
  go_loopw [9] (fun vi wr => ∃ k : Nat, k ≤ l.length ∧ vi = .int .i64 (k : Int) ∧ Hid ((l.take k).all Fld.ok = true) ∧ Below w.heap.size w wr)
    (fun vi _ => l.length - (intOf vi).toNat)
  case atStart => exact ⟨0, by omega, rfl, rfl, Below.refl _ _⟩
  case round =>
    obtain ⟨k, hk, rfl, hall, hbw⟩ := hrel
    by_cases hlt : k < l.length
    · obtain ⟨f, hfk⟩ : ∃ f, l[k]? = some f := ⟨_, List.getElem?_eq_getElem hlt⟩
      obtain ⟨g, o, rfl, hgB, c0, c1, c2, c3⟩ := hrow k f hfk
      have HB : Hid (f.ok = false → R = (⟨#[]⟩, false)) := fun h => by rw [HR.out]; exact fb_bad l k f hfk h
      have HG : Hid (f.ok = true → (l.take (k + 1)).all Fld.ok = true) := fun h => all_take l k f hfk hall.out h
      obtain ⟨no, kind, num, data⟩ := f
      dsimp only at c0 c1 c2 c3
      have e0 := (hbw.cell (p := ⟨g, o + k * 4, none⟩) hgB).trans c0
      have e1 := (hbw.cell (p := ⟨g, o + k * 4 + 1, none⟩) hgB).trans c1
      have e2 := (hbw.cell (p := ⟨g, o + k * 4 + 2, none⟩) hgB).trans c2
      have e3 := (hbw.cell (p := ⟨g, o + k * 4 + 3, none⟩) hgB).trans c3
      clear c0 c1 c2 c3 hrow hfk
      have hlt' : (k : Int) < (l.length : Int) := by omega
      go_wp2_with fail
      refine (l1Field_at no kind num data _).mono ?_
      rintro e w1 ⟨rfl, hb1⟩
      have hbw1 : Below w.heap.size w w1 := (hbw.alloc hbw.size _).trans (hb1.mono (by have := hbw.size; simp; omega))
      have q3 : w1.cell? ⟨wr.heap.size, 3, none⟩ = some (.string data) := (hb1.cell (p := ⟨wr.heap.size, 3, none⟩) (by simp)).trans (by simp)
      clear e0 e1 e2 e3 hb1 hbw
      by_cases hg : Fld.good ⟨no, kind, num, data⟩ = true
      · by_cases hs : data.size ≤ 400
        · have hok : Hid ((l.take (k + 1)).all Fld.ok = true) := HG.out (by unfold Fld.ok; rw [hg]; simpa using hs)
          rw [hg]
          have hs' : (data.size : Int) ≤ 400 := by omega
          clear hg hs HB HG hall
          go_wp2
          go_roundw
          case rel => exact ⟨k + 1, by omega, by go_num, hok, hbw1⟩
          case measure => simp [intOf]; omega
        · have hRR : Hid (R = (⟨#[]⟩, false)) := HB.out (by unfold Fld.ok; rw [hg]; simpa using hs)
          rw [hg]
          have hs' : (400 : Int) < (data.size : Int) := by omega
          clear hg hs HB HG hall
          go_wp2
          go_ret2
          exact ⟨by rw [hRR.out]; rfl, hbw1⟩
      · have hg' : Fld.good ⟨no, kind, num, data⟩ = false := by simpa using hg
        have hRR : Hid (R = (⟨#[]⟩, false)) := HB.out (by unfold Fld.ok; rw [hg']; rfl)
        rw [hg']
        clear hg hg' HB HG hall
        go_wp2
        go_ret2
        exact ⟨by rw [hRR.out]; rfl, hbw1⟩
    · have hke : k = l.length := by omega
      subst hke
      have hge : ¬ ((l.length : Int) < (l.length : Int)) := by omega
      have hall' : l.all Fld.ok = true := by have := hall.out; rwa [List.take_length] at this
      have HA : Hid (l.all Fld.ok = true) := hall'
      by_cases h40 : l.length ≤ 40
      · have h40' : (l.length : Int) ≤ 40 := by omega
        have hgood : ∀ f ∈ l, f.good = true ∧ f.data.size ≤ 400 := by
          intro f hf
          have := (List.all_eq_true.1 hall') f hf
          unfold Fld.ok at this
          simpa using this
        have hfl := flat_len l hgood
        have HGD : Hid (∀ f ∈ l, f.good = true ∧ f.data.size ≤ 400) := hgood
        have HFr : Hid (FldsAt wr wr.heap.size (.slice ao l.length cap) l) := HF.out.below hbw
        clear hall' hgood hrow hall
        go_wp2_with fail
        refine (l1Fields_any l _ _ HFr.out HGD.out h40).mono ?_
        rintro e w1 ⟨rfl, hb1⟩
        have hbw1 : Below w.heap.size w w1 := hbw.trans (hb1.mono hbw.size)
        clear hb1
        by_cases h400 : (l.flatMap Fld.bytes).length ≤ 400
        · have hRR : Hid (R = (⟨(l.flatMap Fld.bytes).toArray⟩, true)) := by show R = _; rw [HR.out]; exact fb_yes l ⟨HA.out, h40, h400⟩
          generalize l.flatMap Fld.bytes = bs at *
          have h400' : (bs.length : Int) ≤ 400 := by omega
          go_wp2
          go_ret2
          exact ⟨by rw [hRR.out]; rfl, hbw1⟩
        · have hRR : Hid (R = (⟨#[]⟩, false)) := by show R = _; rw [HR.out]; exact fb_no l (fun h => h400 h.2.2)
          generalize l.flatMap Fld.bytes = bs at *
          have h400' : 400 < (bs.length : Int) := by omega
          clear h400
          go_wp2
          go_ret2
          exact ⟨by rw [hRR.out]; rfl, hbw1⟩
      · have hRR : Hid (R = (⟨#[]⟩, false)) := by show R = _; rw [HR.out]; exact fb_no l (fun h => h40 h.2.1)
        have h40' : 40 < (l.length : Int) := by omega
        clear h40 hall' hall hrow
        go_wp2
        go_ret2
        exact ⟨by rw [hRR.out]; rfl, hbw⟩

end Go.Proofs.YtpopjapcgcnnfabDoor
