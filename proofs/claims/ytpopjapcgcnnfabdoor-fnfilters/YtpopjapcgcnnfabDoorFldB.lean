/- The model's l1Fields: the bytes of good fields, one behind the other. -/
import Derived.Test.YtpopjapcgcnnfabDoorFldM
import Derived.Test.YtpopjapcgcnnfabDoorVarC
namespace Go.Proofs.YtpopjapcgcnnfabDoor
open Go.RowKit

def foldN (n : Int) : Nat := if 0 ≤ n then (2 * n).toNat else (-2 * n - 1).toNat

def Fld.bytes (f : Fld) : List UInt8 :=
  Lib.uvarint (8 * f.no + f.kind).toNat ++ (if f.kind = 0 then Lib.uvarint (foldN f.num) else Lib.uvarint f.data.size ++ f.data.toList)

theorem Fld.good_cases (f : Fld) (h : f.good = true) : 1 ≤ f.no ∧ f.no ≤ 30 ∧ ((f.kind = 0 ∧ -1000000000 ≤ f.num ∧ f.num ≤ 1000000000 ∧ f.data.toList = []) ∨ (f.kind = 2 ∧ f.num = 0)) := by
  unfold Fld.good at h
  simp only [Bool.and_eq_true, decide_eq_true_eq] at h
  obtain ⟨⟨h1, h2⟩, h3⟩ := h
  refine ⟨h1, h2, ?_⟩
  by_cases k0 : f.kind = 0
  · rw [if_pos k0] at h3
    simp only [Bool.and_eq_true, decide_eq_true_eq, List.isEmpty_iff] at h3
    exact .inl ⟨k0, h3.1.1, h3.1.2, h3.2⟩
  · rw [if_neg k0] at h3
    by_cases k2 : f.kind = 2
    · rw [if_pos k2] at h3
      exact .inr ⟨k2, by simpa using h3⟩
    · rw [if_neg k2] at h3; exact absurd h3 (by simp)

theorem l1Varint_int (a : Int) (w : World) (h0 : 0 ≤ a) (h1 : a ≤ 2000000001) :
    Calls Tryd.prog 106 #[.int .i64 a] w fun e w' => e = .returned (.string ⟨(Lib.uvarint a.toNat).toArray⟩) ∧ Below w.heap.size w w' := by
  obtain ⟨x, rfl⟩ := Int.eq_ofNat_of_zero_le h0
  rw [Int.toNat_natCast]
  exact l1Varint_any x (by omega) w

set_option maxRecDepth 100000 in
set_option maxHeartbeats 400000 in
theorem l1Fold_any (a : Int) (w : World) (h0 : -1000000000 ≤ a) (h1 : a ≤ 1000000000) :
    Calls Tryd.prog 107 #[.int .i64 a] w fun e w' => e = .returned (.int .i64 (foldN a : Int)) ∧ w' = w := by
  by_cases h : 0 ≤ a
  · have hv : (foldN a : Int) = 2 * a := by unfold foldN; rw [if_pos h]; omega
    rw [hv]
    clear hv
    go_enter Tryd.func107, Tryd.ntmps107
    go_wp2
    go_ret
    exact ⟨rfl, rfl⟩
  · have hv : (foldN a : Int) = -2 * a - 1 := by unfold foldN; rw [if_neg h]; omega
    rw [hv]
    have h' : a < 0 := by omega
    clear hv h
    go_enter Tryd.func107, Tryd.ntmps107
    go_wp2
    go_ret
    exact ⟨rfl, rfl⟩

theorem foldN_le (a : Int) (h0 : -1000000000 ≤ a) (h1 : a ≤ 1000000000) : foldN a ≤ 2000000000 := by
  unfold foldN; split <;> omega

theorem str_app (a b : List UInt8) : (({ data := a.toArray } : ByteArray) ++ ({ data := b.toArray } : ByteArray)) = ⟨(a ++ b).toArray⟩ := by
  apply ByteArray.ext
  simp

theorem Fld.bytes_len (f : Fld) (h : f.good = true) (hs : f.data.size ≤ 400) : f.bytes.length ≤ 420 := by
  obtain ⟨h1, h2, h3⟩ := f.good_cases h
  have ha := Lib.uvarint_length64 (x := (8 * f.no + f.kind).toNat) (by rcases h3 with h3 | h3 <;> omega)
  unfold Fld.bytes
  rcases h3 with ⟨k, h3, h4, _⟩ | ⟨k, _⟩
  · rw [if_pos k]
    have hb := Lib.uvarint_length64 (x := foldN f.num) (by have := foldN_le f.num h3 h4; omega)
    rw [List.length_append]; omega
  · rw [if_neg (by omega)]
    have hb := Lib.uvarint_length64 (x := f.data.size) (by omega)
    have hc : f.data.toList.length = f.data.size := by rw [ByteArray.toList_eq]; simp
    rw [List.length_append, List.length_append, hc]; omega

theorem flat_len (l : List Fld) (hgood : ∀ f ∈ l, f.good = true ∧ f.data.size ≤ 400) : (l.flatMap Fld.bytes).length ≤ 420 * l.length := by
  induction l with
  | nil => simp
  | cons f l ih =>
    have h1 := Fld.bytes_len f (hgood f (by simp)).1 (hgood f (by simp)).2
    have h2 := ih (fun g hg => hgood g (by simp [hg]))
    rw [List.flatMap_cons, List.length_append, List.length_cons]
    omega

theorem flat_snoc (l : List Fld) (k : Nat) (f : Fld) (h : l[k]? = some f) : (l.take (k + 1)).flatMap Fld.bytes = (l.take k).flatMap Fld.bytes ++ f.bytes := by
  rw [List.take_add_one, h, List.flatMap_append]
  simp

set_option maxRecDepth 100000 in
set_option maxHeartbeats 4000000 in
theorem l1Fields_any (l : List Fld) (v : Value) (w : World) (hf : FldsAt w w.heap.size v l) (hgood : ∀ f ∈ l, f.good = true ∧ f.data.size ≤ 400) (hlen : l.length ≤ 40) :
    Calls Tryd.prog 86 #[v] w fun e w' => e = .returned (.string ⟨(l.flatMap Fld.bytes).toArray⟩) ∧ Below w.heap.size w w' := by
  obtain ⟨ao, cap, rfl, hmax, hrow⟩ := hf
  go_enter Tryd.func86, Tryd.ntmps86
  go_wp2
  go_loopw [3, 8] (fun vs vi wr => ∃ k : Nat, k ≤ l.length ∧ vi = .int .i64 (k : Int) ∧ (∃ acc : List UInt8, vs = .string ⟨acc.toArray⟩ ∧ Hid (acc = (l.take k).flatMap Fld.bytes)) ∧ Below w.heap.size w wr)
    (fun _ vi _ => l.length - (intOf vi).toNat)
  case atStart => exact ⟨0, by omega, rfl, ⟨[], rfl, rfl⟩, Below.refl _ _⟩
  case round =>
    obtain ⟨k, hk, rfl, ⟨acc, rfl, hacc⟩, hbw⟩ := hrel
    by_cases hlt : k < l.length
    · obtain ⟨f, hfk⟩ : ∃ f, l[k]? = some f := ⟨_, List.getElem?_eq_getElem hlt⟩
      obtain ⟨g, o, rfl, hgB, c0, c1, c2, c3⟩ := hrow k f hfk
      obtain ⟨hgd, hsz⟩ := hgood f (List.mem_of_getElem? hfk)
      have hal : acc.length ≤ 16800 := by
        rw [hacc.out]
        have := flat_len (l.take k) (fun f hf => hgood f (List.mem_of_mem_take hf))
        have h2 : (l.take k).length ≤ k := List.length_take_le _ _
        omega
      have HN : Hid ((l.take (k + 1)).flatMap Fld.bytes = acc ++ f.bytes) := by show _ = _; rw [hacc.out]; exact flat_snoc l k f hfk
      obtain ⟨h1, h2, h3⟩ := f.good_cases hgd
      obtain ⟨no, kind, num, data⟩ := f
      dsimp only at c0 c1 c2 c3 hgd hsz h1 h2 h3
      have e0 := (hbw.cell (p := ⟨g, o + k * 4, none⟩) hgB).trans c0
      have e1 := (hbw.cell (p := ⟨g, o + k * 4 + 1, none⟩) hgB).trans c1
      have e2 := (hbw.cell (p := ⟨g, o + k * 4 + 2, none⟩) hgB).trans c2
      have e3 := (hbw.cell (p := ⟨g, o + k * 4 + 3, none⟩) hgB).trans c3
      clear c0 c1 c2 c3 hrow hgood hfk hgd hacc
      have hlt' : (k : Int) < (l.length : Int) := by omega
      rcases h3 with ⟨rfl, h3, h4, _⟩ | ⟨rfl, rfl⟩
      · have HB : Hid (Fld.bytes ⟨no, 0, num, data⟩ = Lib.uvarint (8 * no).toNat ++ Lib.uvarint (foldN num)) := by show _ = _; unfold Fld.bytes; simp
        have hf2 := foldN_le num h3 h4
        go_wp2_with fail
        refine (l1Varint_int _ _ (by omega) (by omega)).mono ?_
        rintro e w1 ⟨rfl, hb1⟩
        have hu1 := Lib.uvarint_length64 (x := (8 * no).toNat) (by omega)
        generalize Lib.uvarint (8 * no).toNat = u1 at hu1 HB
        have q1 : w1.cell? ⟨wr.heap.size, 1, none⟩ = some (.int .i64 0) := (hb1.cell (p := ⟨wr.heap.size, 1, none⟩) (by simp)).trans (by simp)
        have q2 : w1.cell? ⟨wr.heap.size, 2, none⟩ = some (.int .i64 num) := (hb1.cell (p := ⟨wr.heap.size, 2, none⟩) (by simp)).trans (by simp)
        have hbw1 : Below w.heap.size w w1 := (hbw.alloc hbw.size _).trans (hb1.mono (by have := hbw.size; simp; omega))
        clear hb1 hbw e0 e1 e2 e3
        go_wp2_with fail
        refine (l1Fold_any num _ h3 h4).mono ?_
        rintro e w2 ⟨rfl, rfl⟩
        go_wp2_with fail
        refine (l1Varint_any (foldN num) (by omega) _).mono ?_
        rintro e w2 ⟨rfl, hb2⟩
        have hu2 := Lib.uvarint_length64 (x := foldN num) (by omega)
        generalize Lib.uvarint (foldN num) = u2 at hu2 HB
        have hbw2 : Below w.heap.size w w2 := hbw1.trans (hb2.mono hbw1.size)
        clear hb2 hbw1 q1 q2
        go_wp2
        go_roundw
        case rel =>
          refine ⟨k + 1, by omega, by go_num, ⟨acc ++ (u1 ++ u2), ?_, by show _ = _; rw [HN.out, HB.out]⟩, hbw2⟩
          rw [str_app, str_app, List.append_assoc]
        case measure => simp [intOf]; omega
      · go_wp2_with fail
        refine (l1Varint_int _ _ (by omega) (by omega)).mono ?_
        rintro e w1 ⟨rfl, hb1⟩
        obtain ⟨d, rfl⟩ : ∃ d : List UInt8, data = ⟨d.toArray⟩ := ⟨data.data.toList, by simp⟩
        have hdl : d.length ≤ 400 := by simpa [ByteArray.size] using hsz
        have HB : Hid (Fld.bytes ⟨no, 2, 0, ⟨d.toArray⟩⟩ = Lib.uvarint (8 * no + 2).toNat ++ (Lib.uvarint d.length ++ d)) := by show _ = _; unfold Fld.bytes; simp [ByteArray.size]
        have hu1 := Lib.uvarint_length64 (x := (8 * no + 2).toNat) (by omega)
        generalize Lib.uvarint (8 * no + 2).toNat = u1 at hu1 HB
        have q1 : w1.cell? ⟨wr.heap.size, 1, none⟩ = some (.int .i64 2) := (hb1.cell (p := ⟨wr.heap.size, 1, none⟩) (by simp)).trans (by simp)
        have q3 : w1.cell? ⟨wr.heap.size, 3, none⟩ = some (.string ⟨d.toArray⟩) := (hb1.cell (p := ⟨wr.heap.size, 3, none⟩) (by simp)).trans (by simp)
        have hbw1 : Below w.heap.size w w1 := (hbw.alloc hbw.size _).trans (hb1.mono (by have := hbw.size; simp; omega))
        have hs1 : wr.heap.size < w1.heap.size := by have := hb1.size; simp at this; omega
        clear hb1 hbw e0 e1 e2 e3
        have hu2 := Lib.uvarint_length64 (x := d.length) (by omega)
        have C2 : Hid (∀ w : World, Calls Tryd.prog 106 #[.int .i64 (d.length : Int)] w fun e w' => e = .returned (.string ⟨(Lib.uvarint d.length).toArray⟩) ∧ Below w.heap.size w w') := fun w => l1Varint_any d.length (by omega) w
        generalize Lib.uvarint d.length = u2 at hu2 HB C2
        go_wp2_with fail
        go_region_with (go_at_call 106; refine (C2.out _).mono ?_; rintro e w2 ⟨rfl, hb2⟩; have q4 := (hb2.cell (p := ⟨wr.heap.size, 3, none⟩) hs1).trans q3; have hbw2 : Below w.heap.size w w2 := hbw1.drew.trans (hb2.mono hbw1.size))
        all_goals
          go_wp2
          go_roundw
          case rel =>
            refine ⟨k + 1, by omega, by go_num, ⟨acc ++ (u1 ++ (u2 ++ d)), ?_, by show _ = _; rw [HN.out, HB.out]⟩, hbw2⟩
            rw [str_app, str_app, str_app, List.append_assoc]
          case measure => simp [intOf]; omega
    · have hke : k = l.length := by omega
      subst hke
      have hge : ¬ ((l.length : Int) < (l.length : Int)) := by omega
      go_wp2
      go_ret
      exact ⟨by rw [hacc.out, List.take_length]; rfl, hbw⟩
end Go.Proofs.YtpopjapcgcnnfabDoor
