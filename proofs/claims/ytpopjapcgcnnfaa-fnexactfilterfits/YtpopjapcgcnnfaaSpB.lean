/- The program's ownParts and shapeAt: a type of a good schema, made a shape. -/
import Derived.Test.YtpopjapcgcnnfaaGf
namespace Go.Proofs.Ytpopjapcgcnnfaa
open Go.RowKit Plain Sch

def ShapeAtR (T : List Ty) (f k : Nat) (w : World) (e : Ending) (w' : World) : Prop :=
  ∃ u : TypeId × Value, e = .returned (.iface u.1 u.2) ∧ ShIn f w' (fun g => w.heap.size ≤ g ∧ g < w'.heap.size) (.iface u.1 u.2) (tree T f k) ∧ Below w.heap.size w w'

def OwnPartsR (T : List Ty) (f k : Nat) (w : World) (e : Ending) (w' : World) : Prop :=
  ∃ c, e = .returned c ∧ PartsIn f w' (fun g => w.heap.size ≤ g ∧ g < w'.heap.size) c ((kids T k).map (tree T f)) ∧ Below w.heap.size w w'

theorem pinv_app {lo b d n : Nat} {w1 wr w2 w9 : World} {l : List Tr} {vp : Value} {t : Tr} {a : TypeId} {x : Value} {g9 cap9 : Nat} {xs : List Value} {nm : ByteArray} {no : Int} {mu : Bool} {S2 : Nat → Prop} {ob : Obj}
    (h : PInv lo b d w1 l vp wr) (hln : l.length = n) (hbw : b ≤ wr.heap.size) (hB2 : Below wr.heap.size wr w2) (hsh : ShIn d w2 S2 (.iface a x) t) (hS2 : ∀ g, S2 g → lo ≤ g ∧ wr.heap.size ≤ g ∧ g < w2.heap.size)
    (hown : wr.ownsRow b 122 4 vp n xs) (hnm : t.name = nm ∧ t.no = no ∧ t.must = mu)
    (hown9 : w9.ownsRow b 122 4 (.slice (some ⟨g9, 0, none⟩) (n + 1) cap9) (n + 1) (xs ++ [.string nm, .int .i64 no, .bool mu, .iface a x]))
    (hgrow9 : (w2.alloc ob).grownBy w9 vp.ownBlock) (hat9 : vp.ownBlock = some g9 ∨ g9 = w2.heap.size + 1) : PInv lo b d w1 (l ++ [t]) (.slice (some ⟨g9, 0, none⟩) (n + 1) cap9) w9 := by
  subst hln
  obtain ⟨rfl, rfl, rfl⟩ := hnm
  have hkl := hown.lt
  refine h.step (u := (a, x)) (w2 := w2.alloc ob) (S2 := S2) hbw (hB2.alloc hB2.size _) (hsh.kept (fun g hg => ?_) (fun _ h => h)) (fun g hg => ?_) hown rfl hown9 hgrow9 ?_
  · exact Below.heap_alloc _ _ _ (hS2 g hg).2.2
  · have a1 := hS2 g hg
    refine ⟨a1.1, by simp; omega, fun e => ?_⟩
    have := (hkl g e).2
    omega
  · rcases hat9 with h9 | h9
    · exact .inl h9
    · exact .inr (by simp; omega)

theorem map_take_step {α β : Type} (F : α → β) (ks : List α) (n : Nat) (c : α) (hc : ks[n]? = some c) : (ks.take (n + 1)).map F = (ks.take n).map F ++ [F c] := by
  rw [List.take_add_one, hc]; simp

set_option maxRecDepth 100000 in
set_option maxHeartbeats 4000000 in
theorem ownParts_of (T : List Ty) (v : Value) (hG : gs T = true) (f : Nat)
    (ih0 : ∀ (k : Nat) (w : World), TysAt w w.heap.size v T → k < T.length → T.length ≤ f + k → Calls Try.prog 113 #[v, .int .i64 k] w (ShapeAtR T f k w))
    (k : Nat) (w : World) (hT : TysAt w w.heap.size v T) (hk : k < T.length) (hf : T.length ≤ f + 1 + k) : Calls Try.prog 77 #[v, .int .i64 k] w (OwnPartsR T f k w) := by
  have ih : Hid (∀ (k : Nat) (w : World), TysAt w w.heap.size v T → k < T.length → T.length ≤ f + k → Calls Try.prog 113 #[v, .int .i64 k] w (ShapeAtR T f k w)) := ih0
  clear ih0
  obtain ⟨i0, hi, hz0, hz1, hz2⟩ := info_parts Try.infoPt
  have h30 := (gs_parts T hG).2.1
  have HT : Hid (TysAt w w.heap.size v T) := hT
  obtain ⟨g, o, cap, rfl, hlc, hcm, hg, hrow, hnm⟩ := hT.open (by omega)
  clear hT
  have HRW : Hid (∀ i, i < T.length → TyIn w g (o + i * 6) (ty T i)) := hrow
  have hcm' : cap ≤ 9223372036854775807 := by unfold maxLen at hcm; omega
  have HKN : Hid (∀ c ∈ kids T k, k < c ∧ c < T.length) := fun c hc => by have := (mem_kids T k c).1 hc; omega
  have hkl : (kids T k).length ≤ T.length := kidsTo_len T k T.length
  have PA : Hid (Calls Try.prog 112 #[.slice (some ⟨g, o, none⟩) T.length cap, .int .i64 k] w fun e w' => ∃ r, e = .returned r ∧ w'.ownsRow w.heap.size 3 1 r (kids T k).length (ints (kids T k)) ∧ Below w.heap.size w w') := by
    have := partsAt_any T _ k w HT.out hk (by omega)
    rw [parts_kids T hG k] at this
    exact this
  clear hG hrow hnm
  unfold OwnPartsR
  generalize kids T k = ks at HKN hkl PA
  go_enter Try.func77, Try.ntmps77
  go_wp2_with fail
  refine PA.out.mono ?_
  rintro e w1 ⟨r, rfl, hr, hB1⟩
  obtain ⟨ar, capr, hrv⟩ : ∃ ao cap, r = Value.slice ao ks.length cap := by
    rcases hr.2 with ⟨rfl, h0⟩ | ⟨g, cap, _, rfl, _⟩
    · exact ⟨none, 0, by rw [h0]⟩
    · exact ⟨_, _, rfl⟩
  subst hrv
  go_wp2
  go_loopw [5, 13] (fun vp vi wr => ∃ (n : Nat), n ≤ ks.length ∧ vi = .int .i64 (n : Int) ∧ PInv w.heap.size w1.heap.size f w1 ((ks.take n).map (tree T f)) vp wr)
    (fun _ vi _ => ks.length - (intOf vi).toNat)
  case atStart => exact ⟨0, by omega, rfl, PInv.start⟩
  case round =>
    obtain ⟨n, hn, rfl, hinv⟩ := hrel
    have hbw := hinv.below
    have hBr : Below w.heap.size w wr := hB1.trans (hbw.mono hB1.size)
    have hs1 := hB1.size
    have hsr := hbw.size
    obtain ⟨xs, hown⟩ := hinv.own
    have hln : ((ks.take n).map (tree T f)).length = n := by simp; omega
    rw [hln] at hown
    have HI : Hid (PInv w.heap.size w1.heap.size f w1 ((ks.take n).map (tree T f)) _ wr) := hinv
    clear hinv
    by_cases hlt : n < ks.length
    · have hlt' : (n : Int) < (ks.length : Int) := by omega
      obtain ⟨c, hc⟩ : ∃ c, ks[n]? = some c := ⟨_, List.getElem?_eq_getElem hlt⟩
      have hrr := own_below hr hbw
      obtain ⟨gr, capr', hra⟩ := Joins.ownsRow_form hrr (by omega)
      simp only [Value.slice.injEq, true_and] at hra
      obtain ⟨rfl, rfl⟩ := hra
      have hcell := ints_at hrr n c hc hlt
      have hcb := HKN.out c (List.mem_of_getElem? hc)
      have HST : Hid ((ks.take (n + 1)).map (tree T f) = (ks.take n).map (tree T f) ++ [tree T f c]) := map_take_step _ ks n c hc
      have hci := (HRW.out c hcb.2).below hBr hg
      have hroot : Hid ((tree T f c).name = (ty T c).name ∧ (tree T f c).no = (ty T c).no ∧ (tree T f c).must = (ty T c).must) := by
        cases f <;> exact ⟨rfl, rfl, rfl⟩
      have IC : Hid (∀ w : World, TysAt w w.heap.size (.slice (some ⟨g, o, none⟩) T.length cap) T → Calls Try.prog 113 #[.slice (some ⟨g, o, none⟩) T.length cap, .int .i64 c] w (fun e w' => ∃ (a : TypeId) (x : Value), e = .returned (.iface a x) ∧ ShIn f w' (fun g => w.heap.size ≤ g ∧ g < w'.heap.size) (.iface a x) (tree T f c) ∧ Below w.heap.size w w')) := fun w hT => by
        refine (ih.out c w hT hcb.2 (by omega)).mono ?_
        rintro e w' ⟨u, rfl, h1, h2⟩
        exact ⟨u.1, u.2, rfl, h1, h2⟩
      clear hrr hc
      generalize tree T f c = tc at HST hroot IC
      obtain ⟨ti, hti⟩ : ∃ t, ty T c = t := ⟨_, rfl⟩
      rw [hti] at hci hroot
      clear hti
      obtain ⟨kind, name, no, must, up, most⟩ := ti
      obtain ⟨c0, c1, c2, c3, c4, c5⟩ := hci
      dsimp only at c0 c1 c2 c3 c4 c5 hroot
      have hc' : (c : Int) < (T.length : Int) := by omega
      have hc0' : (0 : Int) ≤ (c : Int) := by omega
      have hBa : Below w.heap.size w (wr.alloc (.cells #[.int .i64 kind, .string name, .int .i64 no, .bool must, .int .i64 up, .int .i64 most] 157)) := hBr.alloc hBr.size _
      have hTd : Hid (TysAt (wr.alloc (.cells #[.int .i64 kind, .string name, .int .i64 no, .bool must, .int .i64 up, .int .i64 most] 157)).drew (wr.alloc (.cells #[.int .i64 kind, .string name, .int .i64 no, .bool must, .int .i64 up, .int .i64 most] 157)).drew.heap.size (.slice (some ⟨g, o, none⟩) T.length cap) T) := HT.out.below hBa.drew
      have hbA : Below wr.heap.size wr (wr.alloc (.cells #[.int .i64 kind, .string name, .int .i64 no, .bool must, .int .i64 up, .int .i64 most] 157)).drew := ((Below.refl _ wr).alloc (Nat.le_refl _) _).drew
      have hsA : (wr.alloc (.cells #[.int .i64 kind, .string name, .int .i64 no, .bool must, .int .i64 up, .int .i64 most] 157)).drew.heap.size = wr.heap.size + 1 := by simp
      go_wp2_with fail
      go_region_law
        (first
          | (go_simp; go_at_call 113; refine (IC.out _ hTd.out).mono ?_; rintro e w2 ⟨a, x, rfl, hsh, hb2⟩; have hs2 := hb2.size; have hB2 : Below wr.heap.size wr w2 := hbA.trans (hb2.mono (by rw [hsA]; omega)); have hown2 := own_below hown hB2; have m1 := (hb2.cell (p := ⟨wr.heap.size, 1, none⟩) (by rw [hsA]; show wr.heap.size < _; omega)).trans (show _ = some (Value.string name) by simp); have m2 := (hb2.cell (p := ⟨wr.heap.size, 2, none⟩) (by rw [hsA]; show wr.heap.size < _; omega)).trans (show _ = some (Value.int .i64 no) by simp); have m3 := (hb2.cell (p := ⟨wr.heap.size, 3, none⟩) (by rw [hsA]; show wr.heap.size < _; omega)).trans (show _ = some (Value.bool must) by simp))
          | (refine step_append_lies _ rfl _ _ _ rfl w1.heap.size 122 i0 (.agg #[.string ⟨#[]⟩, .int .i64 0, .bool false, .nilIface]) 4 48 Try.underlying111 hi hz0 hz1 hz2 rfl (by decide) _ n _ rfl (hown2.alloc _) ⟨w2.heap.size, 0, none⟩ 1 1 [Value.string name, .int .i64 no, .bool must, .iface a x] rfl rfl (World.news_of_block (heap_alloc_new w2 _)) one4 (by omega) (by unfold maxLen; omega) (by omega) (by rw [hsA] at hs2; simp; omega) (w2.heap.size + 1) (by simp) ?_; intro g9 cap9 w9 hown9 hgrow9 hat9 hlt9))
      all_goals
        have hstep := pinv_app HI.out hln hsr hB2 hsh (fun g hg => by have h1 := hg.1; rw [hsA] at h1; exact ⟨by omega, by omega, hg.2⟩) hown hroot.out hown9 hgrow9 hat9
        rw [← HST.out] at hstep
        clear hown hown2 hsh hb2 hgrow9 hat9 hown9 m1 m2 m3 hcell c0 c1 c2 c3 c4 c5
        go_wp2
        go_roundw
        case rel => exact ⟨n + 1, by omega, by go_num, hstep⟩
        case measure => simp [intOf]; omega
    · have hke : n = ks.length := by omega
      subst hke
      have hge : ¬ ((ks.length : Int) < (ks.length : Int)) := by omega
      have hp := HI.out.parts hs1
      rw [List.take_length] at hp
      have HP : Hid (PartsIn f wr (fun g => w.heap.size ≤ g ∧ g < wr.heap.size) _ (ks.map (tree T f))) := hp
      clear hown hp
      go_wp2
      go_ret
      exact ⟨_, rfl, HP.out, hBr⟩

end Go.Proofs.Ytpopjapcgcnnfaa
