/- The program's shapeAt at every type of a good schema. Assertions on shapes, as closed facts. -/
import Derived.Test.YtpopjapcgcnnfaaSpB
import Derived.Test.YtpopjapcgcnnfaaRows
namespace Go.Proofs.Ytpopjapcgcnnfaa
open Go.RowKit Plain Sch

theorem kind_cases {T : List Ty} (hG : gs T = true) {k : Nat} (hk : k < T.length) : (ty T k).kind = 1 ∨ (ty T k).kind = 2 ∨ (ty T k).kind = 3 ∨ (ty T k).kind = 4 ∨ (ty T k).kind = 5 := by
  have := (gs_parts T hG).2.2.1 k hk
  unfold typeOk okKind at this
  simp only [Bool.and_eq_true, decide_eq_true_eq] at this
  omega

theorem list_kid {T : List Ty} (hG : gs T = true) {k : Nat} (hk : k < T.length) (h4 : (ty T k).kind = 4) : kids T k = [k + 1] ∧ k + 1 < T.length := by
  obtain ⟨_, _, hT, hl, _⟩ := gs_parts T hG
  have h1 := hl k hk h4
  match hkk : kids T k, h1 with
  | [c], _ =>
    have hc : c ∈ kids T k := by rw [hkk]; simp
    have := first_kid T hT k c hc
    have hm := (mem_kids T k _).1 this
    rw [hkk] at this
    simp at this
    exact ⟨by rw [this], hm.1⟩

theorem leaf_kids {T : List Ty} (hG : gs T = true) {k : Nat} (h4 : holds (ty T k).kind = false) : kids T k = [] := by
  obtain ⟨_, _, hT, hl, _⟩ := gs_parts T hG
  cases hks : kids T k with
  | nil => rfl
  | cons c cs =>
    have hc : c ∈ kids T k := by rw [hks]; simp
    have m := (mem_kids T k c).1 hc
    have := hT c m.1
    unfold typeOk partOk at this
    rw [if_neg (by omega), m.2.2, Int.toNat_natCast, h4] at this
    simp at this

set_option maxRecDepth 100000 in
set_option maxHeartbeats 4000000 in
theorem shapeAt_any (T : List Ty) (v : Value) (hG : gs T = true) : ∀ (f k : Nat) (w : World), TysAt w w.heap.size v T → k < T.length → T.length ≤ f + k → Calls Try.prog 113 #[v, .int .i64 k] w (ShapeAtR T f k w) := by
  intro f
  induction f with
  | zero => intro k w hT hk hf; omega
  | succ f ih0 =>
    intro k w hT hk hf
    have OP : Hid (Calls Try.prog 77 #[v, .int .i64 k] w (OwnPartsR T f k w)) := ownParts_of T v hG f ih0 k w hT hk (by omega)
    have ih : Hid (∀ (k : Nat) (w : World), TysAt w w.heap.size v T → k < T.length → T.length ≤ f + k → Calls Try.prog 113 #[v, .int .i64 k] w (ShapeAtR T f k w)) := ih0
    clear ih0
    have HT : Hid (TysAt w w.heap.size v T) := hT
    have hkind := kind_cases hG hk
    have HL : Hid ((ty T k).kind = 4 → kids T k = [k + 1] ∧ k + 1 < T.length) := fun h4 => list_kid hG hk h4
    have HLF : Hid (holds (ty T k).kind = false → kids T k = []) := leaf_kids hG
    have h30 := (gs_parts T hG).2.1
    obtain ⟨g, o, cap, rfl, hlc, hcm, hg, hrow, hnm⟩ := hT.open (by omega)
    clear hT hG
    have hcm' : cap ≤ 9223372036854775807 := by unfold maxLen at hcm; omega
    have hci := hrow k hk
    have HT1 : Hid (tree T (f + 1) k = .mk (ty T k).kind (ty T k).name (ty T k).no (ty T k).must (ty T k).most ((kids T k).map (tree T f))) := rfl
    unfold ShapeAtR
    obtain ⟨TT, hTT⟩ : ∃ t, t = tree T (f + 1) k := ⟨_, rfl⟩
    rw [← hTT]
    rw [← hTT] at HT1
    clear hTT
    obtain ⟨ti, hti⟩ : ∃ t, ty T k = t := ⟨_, rfl⟩
    rw [hti] at hci HT1 hkind HL HLF
    clear hti hrow hnm
    obtain ⟨kind, name, no, must, up, most⟩ := ti
    obtain ⟨c0, c1, c2, c3, c4, c5⟩ := hci
    dsimp only at c0 c1 c2 c3 c4 c5 HT1 hkind HL HLF
    have hk' : (k : Int) < (T.length : Int) := by omega
    have hk0' : (0 : Int) ≤ (k : Int) := by omega
    rcases hkind with rfl | rfl | rfl | rfl | rfl
    · clear OP HL
      go_enter Try.func113, Try.ntmps113
      go_wp2
      go_ret
      exact ⟨(_, _), rfl, .inl ⟨by rw [HT1.out]; show (kids T k).map _ = []; rw [HLF.out rfl]; rfl, .inl ⟨by rw [HT1.out]; rfl, rfl⟩⟩, Below.refl _ _⟩
    · clear OP HL
      go_enter Try.func113, Try.ntmps113
      go_wp2
      go_ret
      exact ⟨(_, _), rfl, .inl ⟨by rw [HT1.out]; show (kids T k).map _ = []; rw [HLF.out rfl]; rfl, .inr (.inl ⟨by rw [HT1.out]; rfl, rfl⟩)⟩, Below.refl _ _⟩
    · clear OP HL
      go_enter Try.func113, Try.ntmps113
      go_wp2
      go_ret
      exact ⟨(_, _), rfl, .inl ⟨by rw [HT1.out]; show (kids T k).map _ = []; rw [HLF.out rfl]; rfl, .inr (.inr ⟨by rw [HT1.out]; rfl, by rw [HT1.out]; rfl⟩)⟩, Below.refl _ _⟩
    · obtain ⟨hkk, hk1⟩ := HL.out rfl
      have HKK : Hid (kids T k = [k + 1]) := hkk
      have IC : Hid (Calls Try.prog 113 #[.slice (some ⟨g, o, none⟩) T.length cap, .int .i64 ((k : Int) + 1)] w (ShapeAtR T f (k + 1) w)) := by
        have := ih.out (k + 1) w HT.out hk1 (by omega)
        rwa [show (((k + 1 : Nat) : Nat) : Int) = (k : Int) + 1 by omega] at this
      clear OP HL hkk
      go_enter Try.func113, Try.ntmps113
      go_wp2_with fail
      refine IC.out.mono ?_
      rintro e w1 ⟨u, rfl, hsh, hb1⟩
      go_wp2
      go_ret
      refine ⟨(_, _), rfl, .inr (.inl ⟨by rw [HT1.out]; rfl, tree T f (k + 1), [], u, ?_, rfl, hsh⟩), hb1⟩
      rw [HT1.out, HKK.out]
      rfl
    · clear HL ih
      unfold OwnPartsR at OP
      go_enter Try.func113, Try.ntmps113
      go_wp2_with fail
      refine OP.out.mono ?_
      rintro e w1 ⟨c, rfl, hp, hb1⟩
      obtain ⟨ac, capc, rfl, hrest⟩ := id hp
      clear hrest
      have HP : Hid (PartsIn f w1 (fun g => w.heap.size ≤ g ∧ g < w1.heap.size) (.slice ac ((kids T k).map (tree T f)).length capc) ((kids T k).map (tree T f))) := hp
      clear hp
      generalize hks : (kids T k).map (tree T f) = ks at HP HT1
      go_wp2
      go_ret
      refine ⟨(_, _), rfl, shIn_message (by rw [HT1.out]; rfl) ?_, hb1⟩
      rw [HT1.out]
      exact HP.out

/-- the parts of a good schema's type -/
theorem ownParts_any (T : List Ty) (v : Value) (hG : gs T = true) (f k : Nat) (w : World) (hT : TysAt w w.heap.size v T) (hk : k < T.length) (hf : T.length ≤ f + 1 + k) : Calls Try.prog 77 #[v, .int .i64 k] w (OwnPartsR T f k w) :=
  ownParts_of T v hG f (shapeAt_any T v hG f) k w hT hk hf

end Go.Proofs.Ytpopjapcgcnnfaa

namespace Go.Proofs.Ytpopjapcgcnnfaa


theorem taNumEnu (v : Value) (w : World) : (Instr.typeAssert (.iface 183 v) 120 186 true).run Try.prog w = .ok (.tuple #[.agg #[.int .i64 0], .bool false]) w := by kernel_rfl
theorem taNumLst (v : Value) (w : World) : (Instr.typeAssert (.iface 183 v) 120 188 true).run Try.prog w = .ok (.tuple #[.agg #[.nilIface], .bool false]) w := by kernel_rfl
theorem taNumMsg (v : Value) (w : World) : (Instr.typeAssert (.iface 183 v) 120 190 true).run Try.prog w = .ok (.tuple #[.agg #[.slice none 0 0], .bool false]) w := by kernel_rfl
theorem taTxtEnu (v : Value) (w : World) : (Instr.typeAssert (.iface 184 v) 120 186 true).run Try.prog w = .ok (.tuple #[.agg #[.int .i64 0], .bool false]) w := by kernel_rfl
theorem taTxtLst (v : Value) (w : World) : (Instr.typeAssert (.iface 184 v) 120 188 true).run Try.prog w = .ok (.tuple #[.agg #[.nilIface], .bool false]) w := by kernel_rfl
theorem taTxtMsg (v : Value) (w : World) : (Instr.typeAssert (.iface 184 v) 120 190 true).run Try.prog w = .ok (.tuple #[.agg #[.slice none 0 0], .bool false]) w := by kernel_rfl
theorem taEnuEnu (v : Value) (w : World) : (Instr.typeAssert (.iface 186 v) 120 186 true).run Try.prog w = .ok (.tuple #[v, .bool true]) w := by kernel_rfl
theorem taEnuLst (v : Value) (w : World) : (Instr.typeAssert (.iface 186 v) 120 188 true).run Try.prog w = .ok (.tuple #[.agg #[.nilIface], .bool false]) w := by kernel_rfl
theorem taEnuMsg (v : Value) (w : World) : (Instr.typeAssert (.iface 186 v) 120 190 true).run Try.prog w = .ok (.tuple #[.agg #[.slice none 0 0], .bool false]) w := by kernel_rfl
theorem taLstEnu (v : Value) (w : World) : (Instr.typeAssert (.iface 188 v) 120 186 true).run Try.prog w = .ok (.tuple #[.agg #[.int .i64 0], .bool false]) w := by kernel_rfl
theorem taLstLst (v : Value) (w : World) : (Instr.typeAssert (.iface 188 v) 120 188 true).run Try.prog w = .ok (.tuple #[v, .bool true]) w := by kernel_rfl
theorem taLstMsg (v : Value) (w : World) : (Instr.typeAssert (.iface 188 v) 120 190 true).run Try.prog w = .ok (.tuple #[.agg #[.slice none 0 0], .bool false]) w := by kernel_rfl
theorem taMsgEnu (v : Value) (w : World) : (Instr.typeAssert (.iface 190 v) 120 186 true).run Try.prog w = .ok (.tuple #[.agg #[.int .i64 0], .bool false]) w := by kernel_rfl
theorem taMsgLst (v : Value) (w : World) : (Instr.typeAssert (.iface 190 v) 120 188 true).run Try.prog w = .ok (.tuple #[.agg #[.nilIface], .bool false]) w := by kernel_rfl
theorem taMsgMsg (v : Value) (w : World) : (Instr.typeAssert (.iface 190 v) 120 190 true).run Try.prog w = .ok (.tuple #[v, .bool true]) w := by kernel_rfl

end Go.Proofs.Ytpopjapcgcnnfaa
