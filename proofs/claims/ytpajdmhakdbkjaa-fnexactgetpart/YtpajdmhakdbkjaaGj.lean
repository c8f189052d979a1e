/- Rows of types that grow: how the world may have turned meanwhile. The model's l2Flat: a tree is put behind a row of types. The model's l2Tell: a tree told as a schema that must be good. -/
import Derived.Test.YtpajdmhakdbkjaaGa
import Derived.Test.YtpajdmhakdbkjaaGd
import Derived.Test.YtpajdmhakdbkjaaGq
import Derived.Deep.DeepCutAuto
import Derived.Test.YtpajdmhakdbkjaaGe
namespace Go.Proofs.Ytpajdmhakdbkjaa
open Go.RowKit Plain Sch

def TyRow (w : World) (B : Nat) (rv : Value) (L : List Ty) : Prop := w.ownsRow B 38 6 rv L.length (L.flatMap Ty.cells)

/-- the row may have been written or moved; nothing else that was there has turned -/
def Grow (w w' : World) (rv rv' : Value) : Prop := w.grownBy w' rv.ownBlock ∧ (rv'.ownBlock = rv.ownBlock ∨ ∀ g, rv'.ownBlock = some g → w.heap.size ≤ g)

theorem Grow.refl (w : World) (rv : Value) : Grow w w rv rv := ⟨⟨rfl, rfl, rfl, Nat.le_refl _, fun _ _ _ => rfl⟩, .inl rfl⟩

theorem Grow.trans {w1 w2 w3 : World} {r1 r2 r3 : Value} (h : Grow w1 w2 r1 r2) (h' : Grow w2 w3 r2 r3) : Grow w1 w3 r1 r3 := by
  obtain ⟨a, b⟩ := h
  obtain ⟨a', b'⟩ := h'
  have s1 := a.size
  have s2 := a'.size
  refine ⟨⟨a'.os.trans a.os, a'.tape.trans a.tape, a'.output.trans a.output, by omega, fun j hj hne => ?_⟩, ?_⟩
  · rw [a'.block j (by omega) (fun e => ?_), a.block j hj hne]
    rcases b with b | b
    · rw [b] at e; exact hne e
    · have := b j e.symm; omega
  · rcases b' with b' | b'
    · rcases b with b | b
      · exact .inl (b'.trans b)
      · exact .inr (fun g hg => b g (by rw [← b']; exact hg))
    · exact .inr (fun g hg => by have := b' g hg; omega)

theorem Grow.below {w w' : World} {rv : Value} (h : Below w.heap.size w w') : Grow w w' rv rv := ⟨⟨h.os, h.tape, h.output, h.size, fun j hj _ => h.block j hj⟩, .inl rfl⟩

theorem Grow.size {w w' : World} {r r' : Value} (h : Grow w w' r r') : w.heap.size ≤ w'.heap.size := h.1.size

theorem Grow.block {w w' : World} {r r' : Value} (h : Grow w w' r r') {g : Nat} (hg : g < w.heap.size) (hne : r.ownBlock ≠ some g) : w'.heap[g]? = w.heap[g]? := h.1.block g hg (fun e => hne e.symm)

/-- a row that is new, from a row that was not there yet -/
theorem Grow.toBelow {w w' : World} {r' : Value} (h : Grow w w' (.slice none 0 0) r') : Below w.heap.size w w' := ⟨h.1.os, h.1.tape, h.1.output, h.1.size, fun j hj => h.1.block j hj (fun e => by simp [Value.ownBlock] at e)⟩

theorem Grow.apart {w w' : World} {r r' : Value} (h : Grow w w' r r') {S : Nat → Prop} (hS : ∀ g, S g → g < w.heap.size) (hr : ∀ g, r.ownBlock = some g → ¬ S g) : ∀ g, r'.ownBlock = some g → ¬ S g := by
  intro g hg hs
  rcases h.2 with e | e
  · exact hr g (by rw [← e]; exact hg) hs
  · have := e g hg; have := hS g hs; omega

theorem ownSlice {w : World} {B e size n : Nat} {v : Value} {xs : List Value} (h : w.ownsRow B e size v n xs) : ∃ ao cap, v = Value.slice ao n cap ∧ n ≤ cap ∧ cap ≤ maxLen := by
  rcases h.2 with ⟨rfl, rfl⟩ | ⟨g, cap, cur, rfl, _, _, h1, h2, _⟩
  · exact ⟨none, 0, rfl, by omega, by unfold maxLen; omega⟩
  · exact ⟨_, _, rfl, h1, h2⟩

theorem flatL_append : ∀ (a b : List Tr) (p s : Nat), flatL (a ++ b) p s = flatL a p s ++ flatL b p (s + sizeL a)
  | [], b, p, s => by simp [flatL, sizeL]
  | x :: a, b, p, s => by
    rw [List.cons_append, flatL, flatL, sizeL, flatL_append a b p (s + x.size), List.append_assoc, Nat.add_assoc]

theorem sizeL_append : ∀ (a b : List Tr), sizeL (a ++ b) = sizeL a + sizeL b
  | [], b => by simp [sizeL]
  | x :: a, b => by rw [List.cons_append, sizeL, sizeL, sizeL_append a b]; omega

theorem sizeL_take_le (l : List Tr) (i : Nat) : sizeL (l.take i) ≤ sizeL l := by
  have := sizeL_append (l.take i) (l.drop i)
  rw [List.take_append_drop] at this
  omega

theorem sizeL_step (l : List Tr) (i : Nat) (x : Tr) (h : l[i]? = some x) : sizeL (l.take i) + x.size ≤ sizeL l := by
  have h1 := sizeL_take_le l (i + 1)
  rw [List.take_add_one, h, sizeL_append] at h1
  simp [sizeL] at h1
  omega

/-- the row when i parts have been laid -/
def laid (L : List Ty) (t : Tr) (up : Int) (i : Nat) : List Ty := L ++ [⟨t.kind, t.name, t.no, t.must, up, t.most⟩] ++ flatL (t.kids.take i) L.length (L.length + 1)

theorem laid_len (L : List Ty) (t : Tr) (up : Int) (i : Nat) : (laid L t up i).length = L.length + 1 + sizeL (t.kids.take i) := by
  unfold laid; simp [flatL_len]; omega

theorem laid_step (L : List Ty) (t : Tr) (up : Int) (i : Nat) (x : Tr) (h : t.kids[i]? = some x) : laid L t up (i + 1) = laid L t up i ++ flat x L.length (laid L t up i).length := by
  rw [laid_len]
  unfold laid
  rw [List.take_add_one, h, flatL_append]
  simp [flatL]

theorem laid_end (L : List Ty) (t : Tr) (up : Int) : laid L t up t.kids.length = L ++ flat t up L.length := by
  unfold laid
  rw [List.take_length, flat_eq]
  simp

theorem laid_start (L : List Ty) (t : Tr) (up : Int) : laid L t up 0 = L ++ [⟨t.kind, t.name, t.no, t.must, up, t.most⟩] := by
  unfold laid; simp [flatL]

end Go.Proofs.Ytpajdmhakdbkjaa

namespace Go.Proofs.Ytpajdmhakdbkjaa
open Go.RowKit Plain Sch

theorem one6T {k : Int} {nm : ByteArray} {no : Int} {m : Bool} {up mo : Int} : ∀ u ∈ [Value.int .i64 k, .string nm, .int .i64 no, .bool m, .int .i64 up, .int .i64 mo], u.oneCell' = true := by
  intro u hu
  simp at hu
  rcases hu with rfl | rfl | rfl | rfl | rfl | rfl <;> rfl

def FlatOK (d : Nat) (t : Tr) : Prop := ∀ (ac : Option Addr) (lc cc : Nat) (up : Int) (rv : Value) (L : List Ty) (S : Nat → Prop) (B : Nat) (w : World),
  KidsIn d w S (.slice ac lc cc) t.kids → (∀ g, S g → g < w.heap.size) → (∀ g, rv.ownBlock = some g → ¬ S g) → TyRow w B rv L → B ≤ w.heap.size → L.length + t.size ≤ 1000000 →
  Calls Try.prog 124 #[tv t ac lc cc, .int .i64 up, rv] w fun e w' => ∃ rv', e = .returned rv' ∧ TyRow w' B rv' (L ++ flat t up L.length) ∧ Grow w w' rv rv'

set_option maxRecDepth 100000 in
set_option maxHeartbeats 4000000 in
theorem l2Flat_step (d : Nat) (t : Tr) (ih0 : ∀ x ∈ t.kids, FlatOK d x) : FlatOK (d + 1) t := by
  intro ac lc cc up rv L S B w hk hS hap hown hBw hlim
  have ih : Hid (∀ x ∈ t.kids, FlatOK d x) := ih0
  clear ih0
  obtain ⟨i0, hi, hz0, hz1, hz2⟩ := info_parts Try.infoTy
  obtain ⟨ac', cc', hcc, hlc, hcm, hrow⟩ := hk
  simp only [Value.slice.injEq] at hcc
  obtain ⟨rfl, rfl, rfl⟩ := hcc
  have hcm' : cc ≤ 9223372036854775807 := by unfold maxLen at hcm; omega
  have HROW : Hid (∀ i x, t.kids[i]? = some x → ∃ g o c', ac = some ⟨g, o, none⟩ ∧ S g ∧ NdIn w g (o + i * 6) x c' ∧ KidsIn d w S c' x.kids) := hrow
  have HS : Hid (∀ g, S g → g < w.heap.size) := hS
  have HAP : Hid (∀ g, rv.ownBlock = some g → ¬ S g) := hap
  clear hrow hS hap
  have hlt0 := hown.lt
  obtain ⟨ar, capr, rfl, hnr, hcmr⟩ := ownSlice hown
  have hcmr' : capr ≤ 9223372036854775807 := by unfold maxLen at hcmr; omega
  have hsz := t.size_eq
  have hLl : L.length ≤ 1000000 := by omega
  have HEND : Hid (laid L t up t.kids.length = L ++ flat t up L.length) := laid_end L t up
  have HST : Hid (∀ i x, t.kids[i]? = some x → laid L t up (i + 1) = laid L t up i ++ flat x L.length (laid L t up i).length ∧ (laid L t up i).length + x.size ≤ 1000000) := fun i x hx => ⟨laid_step L t up i x hx, by have h1 := sizeL_step t.kids i x hx; rw [laid_len]; omega⟩
  have HL0 : Hid (laid L t up 0 = L ++ [⟨t.kind, t.name, t.no, t.must, up, t.most⟩]) := laid_start L t up
  unfold tv
  obtain ⟨W1, hW1⟩ : ∃ W, W = w.alloc (.cells #[.int .i64 t.kind, .string t.name, .int .i64 t.no, .bool t.must, .int .i64 t.most, .slice ac t.kids.length cc] 82) := ⟨_, rfl⟩
  have HS1 : Hid (W1.heap.size = w.heap.size + 1) := by show _ = _; rw [hW1]; simp
  have hB1 : Below w.heap.size w W1 := by rw [hW1]; exact (Below.refl _ w).alloc (Nat.le_refl _) _
  have b0 : W1.cell? ⟨w.heap.size, 0, none⟩ = some (.int .i64 t.kind) := by rw [hW1]; go_simp
  have b1 : W1.cell? ⟨w.heap.size, 1, none⟩ = some (.string t.name) := by rw [hW1]; go_simp
  have b2 : W1.cell? ⟨w.heap.size, 2, none⟩ = some (.int .i64 t.no) := by rw [hW1]; go_simp
  have b3 : W1.cell? ⟨w.heap.size, 3, none⟩ = some (.bool t.must) := by rw [hW1]; go_simp
  have b4 : W1.cell? ⟨w.heap.size, 4, none⟩ = some (.int .i64 t.most) := by rw [hW1]; go_simp
  have b5 : W1.cell? ⟨w.heap.size, 5, none⟩ = some (.slice ac t.kids.length cc) := by rw [hW1]; go_simp
  have hown1 : W1.ownsRow B 38 6 (.slice ar L.length capr) L.length (L.flatMap Ty.cells) := own_below hown hB1
  go_enter Try.func124, Try.ntmps124
  go_upto_region 2 with fail
  rw [← hW1]
  clear hW1
  go_wp2_with (at_builtin; refine wpList_append_lies _ rfl _ _ 23 rfl B 38 i0 (.agg #[.int .i64 0, .string ⟨#[]⟩, .int .i64 0, .bool false, .int .i64 0, .int .i64 0]) 6 56 Try.underlying23 hi hz0 hz1 hz2 rfl (by decide) _ L.length _ rfl (hown1.alloc _) ⟨W1.heap.size, 0, none⟩ 1 1 [.int .i64 t.kind, .string t.name, .int .i64 t.no, .bool t.must, .int .i64 up, .int .i64 t.most] rfl rfl ?c1 one6T ?c2 ?c3 ?c4 ?c5 (W1.heap.size + 1) ?c6 ?_)
  case c1 => exact World.news_of_block (heap_alloc_new W1 _)
  case c2 => omega
  case c3 => unfold maxLen; omega
  case c4 => omega
  case c5 => have := HS1.out; simp; omega
  case c6 => simp
  intro g9 cap9 w9 hown9 hgrow9 hat9 hlt9
  have hs1 := HS1.out
  clear HS1
  have hne9 : some w.heap.size ≠ (Value.slice ar L.length capr).ownBlock := fun e => by have := (hlt0 _ e.symm).2; omega
  have hs9 : w.heap.size + 2 ≤ w9.heap.size := by have := hgrow9.size; simp at this; omega
  have hG9 : Grow w w9 (.slice ar L.length capr) (.slice (some ⟨g9, 0, none⟩) (L.length + 1) cap9) := by
    refine ⟨⟨?_, ?_, ?_, by omega, fun j hj hne => ?_⟩, ?_⟩
    · exact hgrow9.os.trans hB1.os
    · exact hgrow9.tape.trans hB1.tape
    · exact hgrow9.output.trans hB1.output
    · rw [hgrow9.block j (by simp; omega) hne, Below.heap_alloc _ _ _ (by omega), hB1.block j hj]
    · rcases hat9 with h | h
      · exact .inl h.symm
      · exact .inr (fun g hg => by simp [Value.ownBlock] at hg; omega)
  have hown9' : TyRow w9 B (.slice (some ⟨g9, 0, none⟩) (L.length + 1) cap9) (laid L t up 0) := by
    unfold TyRow
    rw [HL0.out, List.length_append, List.length_singleton, List.flatMap_append]
    simpa [Ty.cells] using hown9
  have b5' : w9.cell? ⟨w.heap.size, 5, none⟩ = some (.slice ac t.kids.length cc) := by
    rw [hgrow9.cell_far ⟨w.heap.size, 5, none⟩ (by simp; omega) hne9]
    rw [World.cell?_of_block (w := W1) (Below.heap_alloc _ _ _ (by show w.heap.size < _; omega))]
    exact b5
  have HG9 : Hid (Grow w w9 (.slice ar L.length capr) (.slice (some ⟨g9, 0, none⟩) (L.length + 1) cap9)) := hG9
  have HO9 : Hid (TyRow w9 B (.slice (some ⟨g9, 0, none⟩) (L.length + 1) cap9) (laid L t up 0)) := hown9'
  clear hown9 hgrow9 hat9 hG9 hown9' hown hown1 b0 b1 b2 b3 b4 b5 hlt9 hne9 hlt0 hs1
  go_wp2
  go_loopw [2, 30] (fun vl vi wr => ∃ i : Nat, i ≤ t.kids.length ∧ vi = .int .i64 (i : Int) ∧ Hid (TyRow wr B vl (laid L t up i)) ∧ Hid (Grow w wr (.slice ar L.length capr) vl))
    (fun _ vi _ => t.kids.length - (intOf vi).toNat)
  case atStart => exact ⟨0, by omega, rfl, HO9, HG9⟩
  case round =>
    obtain ⟨i, hil, rfl, hrowi, hgi⟩ := hrel
    have hsr := hgi.out.size
    by_cases hlt : i < t.kids.length
    · have hlt' : (i : Int) < (t.kids.length : Int) := by omega
      obtain ⟨x, hx⟩ : ∃ x, t.kids[i]? = some x := ⟨_, List.getElem?_eq_getElem hlt⟩
      obtain ⟨g, o, c', hao, hSg, hnd, hkk⟩ := HROW.out i x hx
      subst hao
      have hg := HS.out g hSg
      have hnd' := hnd.kept (hgi.out.block hg (fun e => HAP.out g e hSg))
      obtain ⟨ax, cx, rfl, _⟩ := hkk.form
      obtain ⟨e0, e1, e2, e3, e4, e5⟩ := hnd'
      have hst := HST.out i x hx
      have hgz : g < wr.heap.size := by omega
      have hBx : Below wr.heap.size wr (wr.alloc (.cells #[.int .i64 x.kind, .string x.name, .int .i64 x.no, .bool x.must, .int .i64 x.most, .slice ax x.kids.length cx] 82)) := (Below.refl _ wr).alloc (Nat.le_refl _) _
      have IC := ih.out x (List.mem_of_getElem? hx) ax x.kids.length cx (L.length : Int) _ (laid L t up i) S B (wr.alloc (.cells #[.int .i64 x.kind, .string x.name, .int .i64 x.no, .bool x.must, .int .i64 x.most, .slice ax x.kids.length cx] 82))
        (hkk.kept (fun g hg => by rw [hBx.block g (by have := HS.out g hg; omega)]; exact hgi.out.block (HS.out g hg) (fun e => HAP.out g e hg)) (fun _ h => h)) (fun g hg => by have h1 := HS.out g hg; have h2 := hBx.size; omega) (hgi.out.apart HS.out HAP.out) (own_below hrowi.out hBx) (by simp; omega) hst.2
      unfold tv at IC
      have IC' : Hid (Calls Try.prog 124 #[.agg #[.int .i64 x.kind, .string x.name, .int .i64 x.no, .bool x.must, .int .i64 x.most, .slice ax x.kids.length cx], .int .i64 (L.length : Int), _] (wr.alloc (.cells #[.int .i64 x.kind, .string x.name, .int .i64 x.no, .bool x.must, .int .i64 x.most, .slice ax x.kids.length cx] 82)) fun e w' => ∃ rv', e = .returned rv' ∧ TyRow w' B rv' (laid L t up i ++ flat x L.length (laid L t up i).length) ∧ Grow (wr.alloc (.cells #[.int .i64 x.kind, .string x.name, .int .i64 x.no, .bool x.must, .int .i64 x.most, .slice ax x.kids.length cx] 82)) w' _ rv') := IC
      have HE : Hid (laid L t up (i + 1) = laid L t up i ++ flat x L.length (laid L t up i).length) := hst.1
      rw [← HE.out] at IC'
      have HBX : Hid (Below wr.heap.size wr (wr.alloc (.cells #[.int .i64 x.kind, .string x.name, .int .i64 x.no, .bool x.must, .int .i64 x.most, .slice ax x.kids.length cx] 82))) := hBx
      clear IC hst hnd hkk hx hBx HE
      go_wp2_with fail
      refine IC'.out.mono ?_
      rintro e w5 ⟨rv5, rfl, hrow5, hg5⟩
      have hG5 := (hgi.out.trans (Grow.below HBX.out)).trans hg5
      clear hg5 IC' hgi hrowi HBX
      go_wp2
      go_roundw
      case rel => exact ⟨i + 1, by omega, by go_num, hrow5, hG5⟩
      case measure => simp [intOf]; omega
    · have hke : i = t.kids.length := by omega
      subst hke
      have hge : ¬ ((t.kids.length : Int) < (t.kids.length : Int)) := by omega
      rw [HEND.out] at hrowi
      go_wp2
      go_ret
      exact ⟨_, rfl, hrowi.out, hgi.out⟩

theorem l2Flat_any : ∀ (d : Nat) (t : Tr), FlatOK d t := by
  intro d
  induction d with
  | zero =>
    intro t ac lc cc up rv L S B w hk hS hap hown hBw hlim
    obtain ⟨ao, cap, h1, h2, h3⟩ := hk
    simp only [Value.slice.injEq] at h1
    obtain ⟨rfl, rfl, rfl⟩ := h1
    refine l2Flat_step 0 t (fun x hx => ?_) ac 0 cc up rv L S B w ?_ hS hap hown hBw hlim
    · rw [h3] at hx; simp at hx
    · rw [h3]
      exact ⟨ac, cc, rfl, by simp, h2, fun i x hx => by simp at hx⟩
  | succ d ih => intro t; exact l2Flat_step d t (fun x _ => ih x)

end Go.Proofs.Ytpajdmhakdbkjaa

namespace Go.Proofs.Ytpajdmhakdbkjaa
open Go.RowKit Plain Sch

theorem TyRow.at {w : World} {B : Nat} {v : Value} {L : List Ty} (h : TyRow w B v L) (hn : ∀ x ∈ L, x.name.size ≤ 10) : TysAt w w.heap.size v L := by
  refine TysAt.own h (fun i hi => ?_)
  have : ty L i ∈ L := by
    unfold ty
    rw [List.getD, List.getElem?_eq_getElem hi]
    exact List.getElem_mem hi
  have := hn _ this
  unfold maxLen
  omega

theorem TyRow.lower {w : World} {B B' : Nat} {v : Value} {L : List Ty} (h : TyRow w B v L) (hB : B' ≤ B) : TyRow w B' v L := by
  refine ⟨h.1, ?_⟩
  rcases h.2 with hn | ⟨g, cap, cur, hv, hg, rest⟩
  · exact .inl hn
  · exact .inr ⟨g, cap, cur, hv, by omega, rest⟩

theorem TyRow.below {w w' : World} {B : Nat} {v : Value} {L : List Ty} (h : TyRow w B v L) (hb : Below w.heap.size w w') : TyRow w' B v L := own_below h hb

/-- a row that was made behind B is not touched by writing a cell of an elder block -/
theorem TyRow.setCell {w : World} {B : Nat} {v : Value} {L : List Ty} (h : TyRow w B v L) {a : Addr} (ha : a.block < B) (u : Value) : TyRow (w.setCell a u) B v L := ownsRow_setCell_below h ha u

set_option maxRecDepth 100000 in
set_option maxHeartbeats 4000000 in
theorem l2Tell_any (d : Nat) (t : Tr) (ac : Option Addr) (lc cc : Nat) (S : Nat → Prop) (w : World) (hk : KidsIn d w S (.slice ac lc cc) t.kids) (hS : ∀ g, S g → g < w.heap.size) (hz : t.size ≤ 1000000) (hnm : NmT t) :
    Calls Try.prog 117 #[tv t ac lc cc] w fun e w' => ∃ rv, e = .returned (.tuple #[.agg #[rv], .bool (tell t).2]) ∧ TyRow w' w.heap.size rv (tell t).1 ∧ Below w.heap.size w w' := by
  obtain ⟨R, hR⟩ : ∃ R, R = tell t := ⟨_, rfl⟩
  rw [← hR]
  have HR : Hid (R = tell t) := hR
  clear hR
  obtain ⟨W2, hW2⟩ : ∃ W, W = (w.alloc (.cells #[.int .i64 t.kind, .string t.name, .int .i64 t.no, .bool t.must, .int .i64 t.most, .slice ac lc cc] 82)).alloc (.cells #[.slice none 0 0] 25) := ⟨_, rfl⟩
  have hB2 : Below w.heap.size w W2 := by rw [hW2]; exact ((Below.refl _ w).alloc (Nat.le_refl _) _).alloc (by simp) _
  have HS2 : Hid (W2.heap.size = w.heap.size + 2) := by show _ = _; rw [hW2]; simp
  have x0 : W2.cell? ⟨w.heap.size + 1, 0, none⟩ = some (.slice none 0 0) := by rw [hW2]; go_simp
  have z0 : W2.frozen? ⟨w.heap.size + 1, 0, none⟩ = false := by rw [hW2]; go_simp
  have FC := l2Flat_any d t ac lc cc (-1) (.slice none 0 0) [] S W2.heap.size W2 (hk.kept (fun g hg => hB2.block g (hS g hg)) (fun _ h => h)) (fun g hg => by have h1 := hS g hg; have h2 := hB2.size; omega) (fun g hg => by simp [Value.ownBlock] at hg) (World.ownsRow_nil _ _ _ _) (Nat.le_refl _) (by simpa using hz)
  simp only [List.nil_append, List.length_nil] at FC
  have FC' : Hid (Calls Try.prog 124 #[tv t ac lc cc, .int .i64 (-1), .slice none 0 0] W2 fun e w' => ∃ rv', e = .returned rv' ∧ TyRow w' W2.heap.size rv' (flat t (-1) 0) ∧ Grow W2 w' (.slice none 0 0) rv') := FC
  have HN : Hid (∀ x ∈ flat t (-1) 0, x.name.size ≤ 10) := flat_names t (-1) 0 hnm
  have HYES : Hid (gs (flat t (-1) 0) = true → R = (flat t (-1) 0, true)) := fun h => HR.out.trans (tell_yes t h)
  have HNO : Hid (gs (flat t (-1) 0) = false → R = ([], false)) := fun h => HR.out.trans (tell_no t h)
  clear FC hk hS HR hnm hz
  unfold tv at FC' ⊢
  generalize flat t (-1) 0 = F at *
  go_enter Try.func117, Try.ntmps117
  go_wp2_with fail
  rw [← hW2]
  clear hW2
  refine FC'.out.mono ?_
  rintro e w5 ⟨rv, rfl, hrow, hg5⟩
  have hb5 := hg5.toBelow
  have hs5 := hb5.size
  have hs2 := HS2.out
  have hB5 : Below w.heap.size w w5 := hB2.trans (hb5.mono hB2.size)
  have x5 := (hb5.cell (p := ⟨w.heap.size + 1, 0, none⟩) (by show w.heap.size + 1 < _; omega)).trans x0
  have z5 := (hb5.frozen (p := ⟨w.heap.size + 1, 0, none⟩) (by show w.heap.size + 1 < _; omega)).trans z0
  have hz5 : w.heap.size + 1 < w5.heap.size := by omega
  have hB6 : Below w5.heap.size w5 (w5.alloc (.cells #[rv] 25)) := (Below.refl _ w5).alloc (Nat.le_refl _) _
  have HROW : Hid (TyRow w5 W2.heap.size rv F) := hrow
  obtain ⟨ar, capr, rfl, _⟩ := ownSlice hrow
  have HT6 : Hid (TysAt (w5.alloc (.cells #[.slice ar F.length capr] 25)) (w5.alloc (.cells #[.slice ar F.length capr] 25)).heap.size (.slice ar F.length capr) F) := (hrow.at HN.out).below hB6
  clear hrow hg5 hb5 FC' x0 z0 hs2
  go_wp2_with fail
  refine (specGood_any F _ _ HT6.out).mono ?_
  rintro e w7 ⟨rfl, hb7⟩
  have hs7 : w5.heap.size < w7.heap.size := by have := hb7.size; simp at this; omega
  have hB7 : Below w.heap.size w w7 := (hB5.alloc hB5.size _).trans (hb7.mono (by simp; omega))
  have x7 := (hb7.cell (p := ⟨w.heap.size + 1, 0, none⟩) (by simp; omega)).trans ((hB6.cell (p := ⟨w.heap.size + 1, 0, none⟩) hz5).trans x5)
  have z7 := (hb7.frozen (p := ⟨w.heap.size + 1, 0, none⟩) (by simp; omega)).trans ((hB6.frozen (p := ⟨w.heap.size + 1, 0, none⟩) hz5).trans z5)
  have y7 : w7.cell? ⟨w5.heap.size, 0, none⟩ = some (.slice ar F.length capr) := (hb7.cell (p := ⟨w5.heap.size, 0, none⟩) (by simp)).trans (by simp)
  have HROW7 : Hid (TyRow w7 W2.heap.size (.slice ar F.length capr) F) := (HROW.out.below hB6).below hb7
  have hz7 : w.heap.size + 1 < w7.heap.size := by omega
  have hle : w.heap.size ≤ w.heap.size + 1 := by omega
  clear hb7 HT6 hB6 HROW x5 z5
  by_cases hgd : gs F = true
  · have hn : Hid (R = (F, true)) := HYES.out hgd
    rw [hgd]
    clear hgd HYES HNO
    go_wp2
    (try simp only [Exit.inBlock, Exit.then])
    refine bodyPost_ret (v := .tuple #[.agg #[.slice ar F.length capr], .bool true]) ?_ rfl ⟨.slice ar F.length capr, by rw [hn.out], ?_, ?_⟩
    · rw [results_cell_tmp rfl]
      go_simp
    · rw [hn.out]
      exact (HROW7.out.setCell (a := ⟨w.heap.size + 1, 0, none⟩) (by have := HS2.out; show w.heap.size + 1 < _; omega) _).lower hB2.size
    · exact hB7.setCell (p := ⟨w.heap.size + 1, 0, none⟩) hle _
  · have hgd' : gs F = false := by simpa using hgd
    have hn : Hid (R = ([], false)) := HNO.out hgd'
    rw [hgd']
    clear hgd hgd' HYES HNO
    go_wp2
    (try simp only [Exit.inBlock, Exit.then])
    refine bodyPost_ret (v := .tuple #[.agg #[.slice none 0 0], .bool false]) ?_ rfl ⟨.slice none 0 0, by rw [hn.out], ?_, ?_⟩
    · rw [results_cell_tmp rfl]
      go_simp
    · rw [hn.out]
      exact World.ownsRow_nil _ _ _ _
    · exact hB7.setCell (p := ⟨w.heap.size + 1, 0, none⟩) hle _

end Go.Proofs.Ytpajdmhakdbkjaa
