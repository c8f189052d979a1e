/- How fields lie in memory: a slice's cells, four a field. The model's l1Fields: the bytes of good fields, one behind the other. The model's FieldsBytes: its answer as a function of the fields. -/
import Derived.Test.YtmjpmmkjfimopaaDoorHc
import Derived.Test.YtmjpmmkjfimopaaDoorHa
namespace Go.Proofs.YtmjpmmkjfimopaaDoor
open Go.RowKit

def Fld.cells (f : Fld) : List Value := [.int .i64 f.no, .int .i64 f.kind, .int .i64 f.num, .string f.data]

/-- a slice of fields: its cells, in blocks below B -/
def FldsAt (w : World) (B : Nat) (v : Value) (l : List Fld) : Prop :=
  ∃ ao cap, v = .slice ao l.length cap ∧ l.length ≤ maxLen ∧ ∀ i f, l[i]? = some f → ∃ g o, ao = some ⟨g, o, none⟩ ∧ g < B ∧ w.cell? ⟨g, o + i * 4, none⟩ = some (.int .i64 f.no) ∧ w.cell? ⟨g, o + i * 4 + 1, none⟩ = some (.int .i64 f.kind) ∧ w.cell? ⟨g, o + i * 4 + 2, none⟩ = some (.int .i64 f.num) ∧ w.cell? ⟨g, o + i * 4 + 3, none⟩ = some (.string f.data)

theorem FldsAt.below {w w' : World} {v : Value} {l : List Fld} {B : Nat} (h : FldsAt w B v l) (hb : Below B w w') (hB : B ≤ w.heap.size := by exact Nat.le_refl _) : FldsAt w' w'.heap.size v l := by
  obtain ⟨ao, cap, hv, hm, hr⟩ := h
  refine ⟨ao, cap, hv, hm, fun i f hi => ?_⟩
  obtain ⟨g, o, ha, hg, c0, c1, c2, c3⟩ := hr i f hi
  have := hb.size
  exact ⟨g, o, ha, by omega, (hb.cell (p := ⟨g, o + i * 4, none⟩) hg).trans c0, (hb.cell (p := ⟨g, o + i * 4 + 1, none⟩) hg).trans c1, (hb.cell (p := ⟨g, o + i * 4 + 2, none⟩) hg).trans c2, (hb.cell (p := ⟨g, o + i * 4 + 3, none⟩) hg).trans c3⟩

theorem own_below {w w' : World} {B e size n : Nat} {v : Value} {xs : List Value} (h : w.ownsRow B e size v n xs) (hb : Below w.heap.size w w') : w'.ownsRow B e size v n xs := by
  refine ⟨h.1, ?_⟩
  rcases h.2 with hn | ⟨g, cap, cur, hv, hg, hgg, rest⟩
  · exact .inl hn
  · exact .inr ⟨g, cap, cur, hv, hg, (hb.block g (Array.getElem?_eq_some_iff.1 hgg).1).trans hgg, rest⟩

theorem Tryd.infoFld : (Tryd.prog.info? 88).map (fun i => (i.zero, i.size, i.bytes)) = some (some (.agg #[.int .i64 0, .int .i64 0, .int .i64 0, .string ⟨#[]⟩]), 4, 40) := by kernel_rfl

theorem cell_new (w : World) (c : Array Value) (t : TypeId) (n j : Nat) (hn : n = w.heap.size) : (w.alloc (.cells c t)).cell? ⟨n, 0 + j, none⟩ = c[j]? := by
  subst hn; simp

theorem flat_cells (l : List Fld) (i j : Nat) (f : Fld) (h : l[i]? = some f) (hj : j < 4) : (l.flatMap Fld.cells)[i * 4 + j]? = f.cells[j]? := by
  induction l generalizing i with
  | nil => simp at h
  | cons a l ih =>
    rw [List.flatMap_cons]
    have ha : a.cells.length = 4 := rfl
    cases i with
    | zero =>
      simp at h; subst h
      rw [Nat.zero_mul, Nat.zero_add, List.getElem?_append_left (by omega)]
    | succ i =>
      simp at h
      rw [List.getElem?_append_right (by omega), ← ih i h]
      congr 1
      omega

theorem flat_cells_len (l : List Fld) : (l.flatMap Fld.cells).length = l.length * 4 := by
  induction l with
  | nil => rfl
  | cons a l ih => rw [List.flatMap_cons, List.length_append, ih, List.length_cons]; have : a.cells.length = 4 := rfl; omega

theorem FldsAt.own {w : World} {B : Nat} {v : Value} {l : List Fld} (h : w.ownsRow B 88 4 v l.length (l.flatMap Fld.cells)) (hl : l.length ≤ maxLen) : FldsAt w w.heap.size v l := by
  have h0 := h
  obtain ⟨_, ⟨rfl, hn⟩ | ⟨g, cap, cur, rfl, hB, hb, _⟩⟩ := h
  · have : l = [] := List.length_eq_zero_iff.1 hn
    subst this
    exact ⟨none, 0, rfl, hl, fun i f hi => by simp at hi⟩
  · refine ⟨some ⟨g, 0, none⟩, cap, rfl, hl, fun i f hi => ⟨g, 0, rfl, (h0.lt g rfl).2, ?_, ?_, ?_, ?_⟩⟩
    all_goals
      have hil : i < l.length := (List.getElem?_eq_some_iff.1 hi).1
    · have := h0.cellAt (i * 4 + 0) (by omega); rw [flat_cells l i 0 f hi (by omega)] at this; simpa [Fld.cells] using this
    · have := h0.cellAt (i * 4 + 1) (by omega); rw [flat_cells l i 1 f hi (by omega)] at this; simpa [Fld.cells] using this
    · have := h0.cellAt (i * 4 + 2) (by omega); rw [flat_cells l i 2 f hi (by omega)] at this; simpa [Fld.cells] using this
    · have := h0.cellAt (i * 4 + 3) (by omega); rw [flat_cells l i 3 f hi (by omega)] at this; simpa [Fld.cells] using this

end Go.Proofs.YtmjpmmkjfimopaaDoor

namespace Go.Proofs.YtmjpmmkjfimopaaDoor
open Go.RowKit

def foldN (n : Int) : Nat := if 0 ≤ n then (2 * n).toNat else (-2 * n - 1).toNat

def Fld.bytes (f : Fld) : List UInt8 :=
  Lib.uvarint (8 * f.no + f.kind).toNat ++ (if f.kind = 0 then Lib.uvarint (foldN f.num) else Lib.uvarint f.data.size ++ f.data.toList)

theorem Fld.good_cases (f : Fld) (h : f.good = true) : 1 ≤ f.no ∧ f.no ≤ 30 ∧ ((f.kind = 0 ∧ -1000000000 ≤ f.num ∧ f.num ≤ 1000000000 ∧ f.data.toList = []) ∨ (f.kind = 2 ∧ f.num = 0)) := by
  unfold Fld.good at h
  simp only [Bool.and_eq_true, decide_eq_true_eq] at h
  obtain ⟨⟨h1, h2⟩, h3⟩ := h
  refine ⟨h1, h2, ?_⟩
  by_cases k0 : f.kind = 0
  · rw [if_pos k0] at h3
    simp only [Bool.and_eq_true, decide_eq_true_eq, List.isEmpty_iff] at h3
    exact .inl ⟨k0, h3.1.1, h3.1.2, h3.2⟩
  · rw [if_neg k0] at h3
    by_cases k2 : f.kind = 2
    · rw [if_pos k2] at h3
      exact .inr ⟨k2, by simpa using h3⟩
    · rw [if_neg k2] at h3; exact absurd h3 (by simp)

theorem l1Varint_int (a : Int) (w : World) (h0 : 0 ≤ a) (h1 : a ≤ 2000000001) :
    Calls Tryd.prog 95 #[.int .i64 a] w fun e w' => e = .returned (.string ⟨(Lib.uvarint a.toNat).toArray⟩) ∧ Below w.heap.size w w' := by
  obtain ⟨x, rfl⟩ := Int.eq_ofNat_of_zero_le h0
  rw [Int.toNat_natCast]
  exact l1Varint_any x (by omega) w

set_option maxRecDepth 100000 in
set_option maxHeartbeats 400000 in
theorem l1Fold_any (a : Int) (w : World) (h0 : -1000000000 ≤ a) (h1 : a ≤ 1000000000) :
    Calls Tryd.prog 96 #[.int .i64 a] w fun e w' => e = .returned (.int .i64 (foldN a : Int)) ∧ w' = w := by
  by_cases h : 0 ≤ a
  · have hv : (foldN a : Int) = 2 * a := by unfold foldN; rw [if_pos h]; omega
    rw [hv]
    clear hv
    go_enter Tryd.func96, Tryd.ntmps96
    go_wp2
    go_ret
    exact ⟨rfl, rfl⟩
  · have hv : (foldN a : Int) = -2 * a - 1 := by unfold foldN; rw [if_neg h]; omega
    rw [hv]
    have h' : a < 0 := by omega
    clear hv h
    go_enter Tryd.func96, Tryd.ntmps96
    go_wp2
    go_ret
    exact ⟨rfl, rfl⟩

theorem foldN_le (a : Int) (h0 : -1000000000 ≤ a) (h1 : a ≤ 1000000000) : foldN a ≤ 2000000000 := by
  unfold foldN; split <;> omega

theorem str_app (a b : List UInt8) : (({ data := a.toArray } : ByteArray) ++ ({ data := b.toArray } : ByteArray)) = ⟨(a ++ b).toArray⟩ := by
  apply ByteArray.ext
  simp

theorem Fld.bytes_len (f : Fld) (h : f.good = true) (hs : f.data.size ≤ 400) : f.bytes.length ≤ 420 := by
  obtain ⟨h1, h2, h3⟩ := f.good_cases h
  have ha := Lib.uvarint_length64 (x := (8 * f.no + f.kind).toNat) (by rcases h3 with h3 | h3 <;> omega)
  unfold Fld.bytes
  rcases h3 with ⟨k, h3, h4, _⟩ | ⟨k, _⟩
  · rw [if_pos k]
    have hb := Lib.uvarint_length64 (x := foldN f.num) (by have := foldN_le f.num h3 h4; omega)
    rw [List.length_append]; omega
  · rw [if_neg (by omega)]
    have hb := Lib.uvarint_length64 (x := f.data.size) (by omega)
    have hc : f.data.toList.length = f.data.size := by rw [ByteArray.toList_eq]; simp
    rw [List.length_append, List.length_append, hc]; omega

theorem flat_len (l : List Fld) (hgood : ∀ f ∈ l, f.good = true ∧ f.data.size ≤ 400) : (l.flatMap Fld.bytes).length ≤ 420 * l.length := by
  induction l with
  | nil => simp
  | cons f l ih =>
    have h1 := Fld.bytes_len f (hgood f (by simp)).1 (hgood f (by simp)).2
    have h2 := ih (fun g hg => hgood g (by simp [hg]))
    rw [List.flatMap_cons, List.length_append, List.length_cons]
    omega

theorem flat_snoc (l : List Fld) (k : Nat) (f : Fld) (h : l[k]? = some f) : (l.take (k + 1)).flatMap Fld.bytes = (l.take k).flatMap Fld.bytes ++ f.bytes := by
  rw [List.take_add_one, h, List.flatMap_append]
  simp

set_option maxRecDepth 100000 in
set_option maxHeartbeats 4000000 in
theorem l1Fields_any (l : List Fld) (v : Value) (w : World) (hf : FldsAt w w.heap.size v l) (hgood : ∀ f ∈ l, f.good = true ∧ f.data.size ≤ 400) (hlen : l.length ≤ 40) :
    Calls Tryd.prog 73 #[v] w fun e w' => e = .returned (.string ⟨(l.flatMap Fld.bytes).toArray⟩) ∧ Below w.heap.size w w' := by
  obtain ⟨ao, cap, rfl, hmax, hrow⟩ := hf
  go_enter Tryd.func73, Tryd.ntmps73
  go_wp2
  go_loopw [3, 8] (fun vs vi wr => ∃ k : Nat, k ≤ l.length ∧ vi = .int .i64 (k : Int) ∧ (∃ acc : List UInt8, vs = .string ⟨acc.toArray⟩ ∧ Hid (acc = (l.take k).flatMap Fld.bytes)) ∧ Below w.heap.size w wr)
    (fun _ vi _ => l.length - (intOf vi).toNat)
  case atStart => exact ⟨0, by omega, rfl, ⟨[], rfl, rfl⟩, Below.refl _ _⟩
  case round =>
    obtain ⟨k, hk, rfl, ⟨acc, rfl, hacc⟩, hbw⟩ := hrel
    by_cases hlt : k < l.length
    · obtain ⟨f, hfk⟩ : ∃ f, l[k]? = some f := ⟨_, List.getElem?_eq_getElem hlt⟩
      obtain ⟨g, o, rfl, hgB, c0, c1, c2, c3⟩ := hrow k f hfk
      obtain ⟨hgd, hsz⟩ := hgood f (List.mem_of_getElem? hfk)
      have hal : acc.length ≤ 16800 := by
        rw [hacc.out]
        have := flat_len (l.take k) (fun f hf => hgood f (List.mem_of_mem_take hf))
        have h2 : (l.take k).length ≤ k := List.length_take_le _ _
        omega
      have HN : Hid ((l.take (k + 1)).flatMap Fld.bytes = acc ++ f.bytes) := by show _ = _; rw [hacc.out]; exact flat_snoc l k f hfk
      obtain ⟨h1, h2, h3⟩ := f.good_cases hgd
      obtain ⟨no, kind, num, data⟩ := f
      dsimp only at c0 c1 c2 c3 hgd hsz h1 h2 h3
      have e0 := (hbw.cell (p := ⟨g, o + k * 4, none⟩) hgB).trans c0
      have e1 := (hbw.cell (p := ⟨g, o + k * 4 + 1, none⟩) hgB).trans c1
      have e2 := (hbw.cell (p := ⟨g, o + k * 4 + 2, none⟩) hgB).trans c2
      have e3 := (hbw.cell (p := ⟨g, o + k * 4 + 3, none⟩) hgB).trans c3
      clear c0 c1 c2 c3 hrow hgood hfk hgd hacc
      have hlt' : (k : Int) < (l.length : Int) := by omega
      rcases h3 with ⟨rfl, h3, h4, _⟩ | ⟨rfl, rfl⟩
      · have HB : Hid (Fld.bytes ⟨no, 0, num, data⟩ = Lib.uvarint (8 * no).toNat ++ Lib.uvarint (foldN num)) := by show _ = _; unfold Fld.bytes; simp
        have hf2 := foldN_le num h3 h4
        go_wp2_with fail
        refine (l1Varint_int _ _ (by omega) (by omega)).mono ?_
        rintro e w1 ⟨rfl, hb1⟩
        have hu1 := Lib.uvarint_length64 (x := (8 * no).toNat) (by omega)
        generalize Lib.uvarint (8 * no).toNat = u1 at hu1 HB
        have q1 : w1.cell? ⟨wr.heap.size, 1, none⟩ = some (.int .i64 0) := (hb1.cell (p := ⟨wr.heap.size, 1, none⟩) (by simp)).trans (by simp)
        have q2 : w1.cell? ⟨wr.heap.size, 2, none⟩ = some (.int .i64 num) := (hb1.cell (p := ⟨wr.heap.size, 2, none⟩) (by simp)).trans (by simp)
        have hbw1 : Below w.heap.size w w1 := (hbw.alloc hbw.size _).trans (hb1.mono (by have := hbw.size; simp; omega))
        clear hb1 hbw e0 e1 e2 e3
        go_wp2_with fail
        refine (l1Fold_any num _ h3 h4).mono ?_
        rintro e w2 ⟨rfl, rfl⟩
        go_wp2_with fail
        refine (l1Varint_any (foldN num) (by omega) _).mono ?_
        rintro e w2 ⟨rfl, hb2⟩
        have hu2 := Lib.uvarint_length64 (x := foldN num) (by omega)
        generalize Lib.uvarint (foldN num) = u2 at hu2 HB
        have hbw2 : Below w.heap.size w w2 := hbw1.trans (hb2.mono hbw1.size)
        clear hb2 hbw1 q1 q2
        go_wp2
        go_roundw
        case rel =>
          refine ⟨k + 1, by omega, by go_num, ⟨acc ++ (u1 ++ u2), ?_, by show _ = _; rw [HN.out, HB.out]⟩, hbw2⟩
          rw [str_app, str_app, List.append_assoc]
        case measure => simp [intOf]; omega
      · go_wp2_with fail
        refine (l1Varint_int _ _ (by omega) (by omega)).mono ?_
        rintro e w1 ⟨rfl, hb1⟩
        obtain ⟨d, rfl⟩ : ∃ d : List UInt8, data = ⟨d.toArray⟩ := ⟨data.data.toList, by simp⟩
        have hdl : d.length ≤ 400 := by simpa [ByteArray.size] using hsz
        have HB : Hid (Fld.bytes ⟨no, 2, 0, ⟨d.toArray⟩⟩ = Lib.uvarint (8 * no + 2).toNat ++ (Lib.uvarint d.length ++ d)) := by show _ = _; unfold Fld.bytes; simp [ByteArray.size]
        have hu1 := Lib.uvarint_length64 (x := (8 * no + 2).toNat) (by omega)
        generalize Lib.uvarint (8 * no + 2).toNat = u1 at hu1 HB
        have q1 : w1.cell? ⟨wr.heap.size, 1, none⟩ = some (.int .i64 2) := (hb1.cell (p := ⟨wr.heap.size, 1, none⟩) (by simp)).trans (by simp)
        have q3 : w1.cell? ⟨wr.heap.size, 3, none⟩ = some (.string ⟨d.toArray⟩) := (hb1.cell (p := ⟨wr.heap.size, 3, none⟩) (by simp)).trans (by simp)
        have hbw1 : Below w.heap.size w w1 := (hbw.alloc hbw.size _).trans (hb1.mono (by have := hbw.size; simp; omega))
        have hs1 : wr.heap.size < w1.heap.size := by have := hb1.size; simp at this; omega
        clear hb1 hbw e0 e1 e2 e3
        have hu2 := Lib.uvarint_length64 (x := d.length) (by omega)
        have C2 : Hid (∀ w : World, Calls Tryd.prog 95 #[.int .i64 (d.length : Int)] w fun e w' => e = .returned (.string ⟨(Lib.uvarint d.length).toArray⟩) ∧ Below w.heap.size w w') := fun w => l1Varint_any d.length (by omega) w
        generalize Lib.uvarint d.length = u2 at hu2 HB C2
        go_wp2_with fail
        go_region_with (go_at_call 95; refine (C2.out _).mono ?_; rintro e w2 ⟨rfl, hb2⟩; have q4 := (hb2.cell (p := ⟨wr.heap.size, 3, none⟩) hs1).trans q3; have hbw2 : Below w.heap.size w w2 := hbw1.drew.trans (hb2.mono hbw1.size))
        all_goals
          go_wp2
          go_roundw
          case rel =>
            refine ⟨k + 1, by omega, by go_num, ⟨acc ++ (u1 ++ (u2 ++ d)), ?_, by show _ = _; rw [HN.out, HB.out]⟩, hbw2⟩
            rw [str_app, str_app, str_app, List.append_assoc]
          case measure => simp [intOf]; omega
    · have hke : k = l.length := by omega
      subst hke
      have hge : ¬ ((l.length : Int) < (l.length : Int)) := by omega
      go_wp2
      go_ret
      exact ⟨by rw [hacc.out, List.take_length]; rfl, hbw⟩
end Go.Proofs.YtmjpmmkjfimopaaDoor

namespace Go.Proofs.YtmjpmmkjfimopaaDoor
open Go.RowKit

def Fld.ok (f : Fld) : Bool := f.good && decide (f.data.size ≤ 400)

/-- what FieldsBytes answers -/
def fb (l : List Fld) : ByteArray × Bool :=
  if l.all Fld.ok = true ∧ l.length ≤ 40 ∧ (l.flatMap Fld.bytes).length ≤ 400 then (⟨(l.flatMap Fld.bytes).toArray⟩, true) else (⟨#[]⟩, false)

theorem fb_no (l : List Fld) (h : ¬ (l.all Fld.ok = true ∧ l.length ≤ 40 ∧ (l.flatMap Fld.bytes).length ≤ 400)) : fb l = (⟨#[]⟩, false) := by
  unfold fb; rw [if_neg h]

theorem fb_yes (l : List Fld) (h : l.all Fld.ok = true ∧ l.length ≤ 40 ∧ (l.flatMap Fld.bytes).length ≤ 400) : fb l = (⟨(l.flatMap Fld.bytes).toArray⟩, true) := by
  unfold fb; rw [if_pos h]

theorem fb_bad (l : List Fld) (k : Nat) (f : Fld) (h : l[k]? = some f) (hf : f.ok = false) : fb l = (⟨#[]⟩, false) := by
  apply fb_no
  rintro ⟨h1, _⟩
  rw [List.all_eq_true] at h1
  rw [h1 f (List.mem_of_getElem? h)] at hf
  exact absurd hf (by simp)

theorem all_take (l : List Fld) (k : Nat) (f : Fld) (h : l[k]? = some f) (h1 : (l.take k).all Fld.ok = true) (hf : f.ok = true) : (l.take (k + 1)).all Fld.ok = true := by
  rw [List.take_add_one, h, List.all_append, h1]
  simp [hf]

theorem l1Field_at (no kind num : Int) (data : ByteArray) (w : World) :
    Calls Tryd.prog 72 #[.agg #[.int .i64 no, .int .i64 kind, .int .i64 num, .string data]] w fun e w' => e = .returned (.bool (Fld.good ⟨no, kind, num, data⟩)) ∧ Below w.heap.size w w' :=
  l1Field_any ⟨no, kind, num, data⟩ w

set_option maxRecDepth 100000 in
set_option maxHeartbeats 4000000 in
theorem fieldsBytes_any (l : List Fld) (v : Value) (w : World) (hf : FldsAt w w.heap.size v l) :
    Calls Tryd.prog 43 #[v] w fun e w' => e = .returned (.tuple #[.string (fb l).1, .bool (fb l).2]) ∧ Below w.heap.size w w' := by
  have hf0 := hf
  obtain ⟨ao, cap, rfl, hmax, hrow⟩ := hf
  obtain ⟨R, hR⟩ : ∃ R, R = fb l := ⟨_, rfl⟩
  rw [← hR]
  have HR : Hid (R = fb l) := hR
  have HF : Hid (FldsAt w w.heap.size (.slice ao l.length cap) l) := hf0
  clear hR hf0
  unfold maxLen at hmax
  go_enter Tryd.func43, Tryd.ntmps43
  go_wp2
  go_loopw [9] (fun vi wr => ∃ k : Nat, k ≤ l.length ∧ vi = .int .i64 (k : Int) ∧ Hid ((l.take k).all Fld.ok = true) ∧ Below w.heap.size w wr)
    (fun vi _ => l.length - (intOf vi).toNat)
  case atStart => exact ⟨0, by omega, rfl, rfl, Below.refl _ _⟩
  case round =>
    obtain ⟨k, hk, rfl, hall, hbw⟩ := hrel
    by_cases hlt : k < l.length
    · obtain ⟨f, hfk⟩ : ∃ f, l[k]? = some f := ⟨_, List.getElem?_eq_getElem hlt⟩
      obtain ⟨g, o, rfl, hgB, c0, c1, c2, c3⟩ := hrow k f hfk
      have HB : Hid (f.ok = false → R = (⟨#[]⟩, false)) := fun h => by rw [HR.out]; exact fb_bad l k f hfk h
      have HG : Hid (f.ok = true → (l.take (k + 1)).all Fld.ok = true) := fun h => all_take l k f hfk hall.out h
      obtain ⟨no, kind, num, data⟩ := f
      dsimp only at c0 c1 c2 c3
      have e0 := (hbw.cell (p := ⟨g, o + k * 4, none⟩) hgB).trans c0
      have e1 := (hbw.cell (p := ⟨g, o + k * 4 + 1, none⟩) hgB).trans c1
      have e2 := (hbw.cell (p := ⟨g, o + k * 4 + 2, none⟩) hgB).trans c2
      have e3 := (hbw.cell (p := ⟨g, o + k * 4 + 3, none⟩) hgB).trans c3
      clear c0 c1 c2 c3 hrow hfk
      have hlt' : (k : Int) < (l.length : Int) := by omega
      go_wp2_with fail
      refine (l1Field_at no kind num data _).mono ?_
      rintro e w1 ⟨rfl, hb1⟩
      have hbw1 : Below w.heap.size w w1 := (hbw.alloc hbw.size _).trans (hb1.mono (by have := hbw.size; simp; omega))
      have q3 : w1.cell? ⟨wr.heap.size, 3, none⟩ = some (.string data) := (hb1.cell (p := ⟨wr.heap.size, 3, none⟩) (by simp)).trans (by simp)
      clear e0 e1 e2 e3 hb1 hbw
      by_cases hg : Fld.good ⟨no, kind, num, data⟩ = true
      · by_cases hs : data.size ≤ 400
        · have hok : Hid ((l.take (k + 1)).all Fld.ok = true) := HG.out (by unfold Fld.ok; rw [hg]; simpa using hs)
          rw [hg]
          have hs' : (data.size : Int) ≤ 400 := by omega
          clear hg hs HB HG hall
          go_wp2
          go_roundw
          case rel => exact ⟨k + 1, by omega, by go_num, hok, hbw1⟩
          case measure => simp [intOf]; omega
        · have hRR : Hid (R = (⟨#[]⟩, false)) := HB.out (by unfold Fld.ok; rw [hg]; simpa using hs)
          rw [hg]
          have hs' : (400 : Int) < (data.size : Int) := by omega
          clear hg hs HB HG hall
          go_wp2
          go_ret2
          exact ⟨by rw [hRR.out]; rfl, hbw1⟩
      · have hg' : Fld.good ⟨no, kind, num, data⟩ = false := by simpa using hg
        have hRR : Hid (R = (⟨#[]⟩, false)) := HB.out (by unfold Fld.ok; rw [hg']; rfl)
        rw [hg']
        clear hg hg' HB HG hall
        go_wp2
        go_ret2
        exact ⟨by rw [hRR.out]; rfl, hbw1⟩
    · have hke : k = l.length := by omega
      subst hke
      have hge : ¬ ((l.length : Int) < (l.length : Int)) := by omega
      have hall' : l.all Fld.ok = true := by have := hall.out; rwa [List.take_length] at this
      have HA : Hid (l.all Fld.ok = true) := hall'
      by_cases h40 : l.length ≤ 40
      · have h40' : (l.length : Int) ≤ 40 := by omega
        have hgood : ∀ f ∈ l, f.good = true ∧ f.data.size ≤ 400 := by
          intro f hf
          have := (List.all_eq_true.1 hall') f hf
          unfold Fld.ok at this
          simpa using this
        have hfl := flat_len l hgood
        have HGD : Hid (∀ f ∈ l, f.good = true ∧ f.data.size ≤ 400) := hgood
        have HFr : Hid (FldsAt wr wr.heap.size (.slice ao l.length cap) l) := HF.out.below hbw
        clear hall' hgood hrow hall
        go_wp2_with fail
        refine (l1Fields_any l _ _ HFr.out HGD.out h40).mono ?_
        rintro e w1 ⟨rfl, hb1⟩
        have hbw1 : Below w.heap.size w w1 := hbw.trans (hb1.mono hbw.size)
        clear hb1
        by_cases h400 : (l.flatMap Fld.bytes).length ≤ 400
        · have hRR : Hid (R = (⟨(l.flatMap Fld.bytes).toArray⟩, true)) := by show R = _; rw [HR.out]; exact fb_yes l ⟨HA.out, h40, h400⟩
          generalize l.flatMap Fld.bytes = bs at *
          have h400' : (bs.length : Int) ≤ 400 := by omega
          go_wp2
          go_ret2
          exact ⟨by rw [hRR.out]; rfl, hbw1⟩
        · have hRR : Hid (R = (⟨#[]⟩, false)) := by show R = _; rw [HR.out]; exact fb_no l (fun h => h400 h.2.2)
          generalize l.flatMap Fld.bytes = bs at *
          have h400' : 400 < (bs.length : Int) := by omega
          clear h400
          go_wp2
          go_ret2
          exact ⟨by rw [hRR.out]; rfl, hbw1⟩
      · have hRR : Hid (R = (⟨#[]⟩, false)) := by show R = _; rw [HR.out]; exact fb_no l (fun h => h40 h.2.1)
        have h40' : 40 < (l.length : Int) := by omega
        clear h40 hall' hall hrow
        go_wp2
        go_ret2
        exact ⟨by rw [hRR.out]; rfl, hbw⟩

end Go.Proofs.YtmjpmmkjfimopaaDoor
