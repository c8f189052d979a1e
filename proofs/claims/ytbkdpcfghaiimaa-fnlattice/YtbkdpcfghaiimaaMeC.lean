/- The program's meets of shapes, at every depth. -/
import Derived.Test.YtbkdpcfghaiimaaMeB
import Derived.Test.YtbkdpcfghaiimaaJoC
import Derived.Test.YtbkdpcfghaiimaaSpE
namespace Go.Proofs.Ytbkdpcfghaiimaa
open Go.RowKit Plain Sch

theorem meetTo_nil (F : Tr → Tr → Option Tr) : ∀ n, meetTo F [] [] n = some []
  | 0 => rfl
  | n + 1 => by rw [meetTo, meetTo_nil F n]; rfl

theorem meetT_unlike {d : Nat} {a b : Tr} (h : a.kind ≠ b.kind) : meetT d a b = none := by
  cases d <;> rw [meetT, if_pos h]

theorem meetT_leaf {d : Nat} {a b : Tr} (h : a.kind = b.kind) (h4 : a.kind ≠ 4) (hk : a.kids = []) (hkb : b.kids = []) : meetT d a b = some (mn a b []) := by
  cases d with
  | zero => rw [meetT, if_neg (by omega)]
  | succ d => rw [meetT, if_neg (by omega), if_neg h4, hk, hkb, meetTo_nil]; rfl

set_option maxRecDepth 100000 in
set_option maxHeartbeats 4000000 in
theorem meetUnlike (ka kb ma mb : Int) (va vb : Value) (w : World) (ha : SF va ka ma) (hb : SF vb kb mb) (hne : ka ≠ kb) :
    Calls Try.prog 84 #[va, vb] w fun e w' => e = .returned (.tuple #[.nilIface, .bool false]) ∧ Below w.heap.size w w' := by
  rcases ha with ⟨rfl, rfl⟩ | ⟨rfl, rfl⟩ | ⟨rfl, rfl⟩ | ⟨rfl, a, x, rfl⟩ | ⟨rfl, ao, l, cap, rfl⟩
  · rcases hb with ⟨rfl, rfl⟩ | ⟨rfl, rfl⟩ | ⟨rfl, rfl⟩ | ⟨rfl, ab, xb, rfl⟩ | ⟨rfl, aob, lb, capb, rfl⟩
    · exact absurd rfl hne
    · go_enter Try.func84, Try.ntmps84
      go_wp2
      go_ret2
      exact ⟨rfl, by go_grown⟩
    · go_enter Try.func84, Try.ntmps84
      go_wp2
      go_ret2
      exact ⟨rfl, by go_grown⟩
    · go_enter Try.func84, Try.ntmps84
      go_wp2
      go_ret2
      exact ⟨rfl, by go_grown⟩
    · go_enter Try.func84, Try.ntmps84
      go_wp2
      go_ret2
      exact ⟨rfl, by go_grown⟩
  · rcases hb with ⟨rfl, rfl⟩ | ⟨rfl, rfl⟩ | ⟨rfl, rfl⟩ | ⟨rfl, ab, xb, rfl⟩ | ⟨rfl, aob, lb, capb, rfl⟩
    · go_enter Try.func84, Try.ntmps84
      go_wp2
      go_ret2
      exact ⟨rfl, by go_grown⟩
    · exact absurd rfl hne
    · go_enter Try.func84, Try.ntmps84
      go_wp2
      go_ret2
      exact ⟨rfl, by go_grown⟩
    · go_enter Try.func84, Try.ntmps84
      go_wp2
      go_ret2
      exact ⟨rfl, by go_grown⟩
    · go_enter Try.func84, Try.ntmps84
      go_wp2
      go_ret2
      exact ⟨rfl, by go_grown⟩
  · rcases hb with ⟨rfl, rfl⟩ | ⟨rfl, rfl⟩ | ⟨rfl, rfl⟩ | ⟨rfl, ab, xb, rfl⟩ | ⟨rfl, aob, lb, capb, rfl⟩
    · go_enter Try.func84, Try.ntmps84
      go_wp2
      go_ret2
      exact ⟨rfl, by go_grown⟩
    · go_enter Try.func84, Try.ntmps84
      go_wp2
      go_ret2
      exact ⟨rfl, by go_grown⟩
    · exact absurd rfl hne
    · go_enter Try.func84, Try.ntmps84
      go_wp2
      go_ret2
      exact ⟨rfl, by go_grown⟩
    · go_enter Try.func84, Try.ntmps84
      go_wp2
      go_ret2
      exact ⟨rfl, by go_grown⟩
  · rcases hb with ⟨rfl, rfl⟩ | ⟨rfl, rfl⟩ | ⟨rfl, rfl⟩ | ⟨rfl, ab, xb, rfl⟩ | ⟨rfl, aob, lb, capb, rfl⟩
    · go_enter Try.func84, Try.ntmps84
      go_wp2
      go_ret2
      exact ⟨rfl, by go_grown⟩
    · go_enter Try.func84, Try.ntmps84
      go_wp2
      go_ret2
      exact ⟨rfl, by go_grown⟩
    · go_enter Try.func84, Try.ntmps84
      go_wp2
      go_ret2
      exact ⟨rfl, by go_grown⟩
    · exact absurd rfl hne
    · go_enter Try.func84, Try.ntmps84
      go_wp2
      go_ret2
      exact ⟨rfl, by go_grown⟩
  · rcases hb with ⟨rfl, rfl⟩ | ⟨rfl, rfl⟩ | ⟨rfl, rfl⟩ | ⟨rfl, ab, xb, rfl⟩ | ⟨rfl, aob, lb, capb, rfl⟩
    · go_enter Try.func84, Try.ntmps84
      go_wp2
      go_ret2
      exact ⟨rfl, by go_grown⟩
    · go_enter Try.func84, Try.ntmps84
      go_wp2
      go_ret2
      exact ⟨rfl, by go_grown⟩
    · go_enter Try.func84, Try.ntmps84
      go_wp2
      go_ret2
      exact ⟨rfl, by go_grown⟩
    · go_enter Try.func84, Try.ntmps84
      go_wp2
      go_ret2
      exact ⟨rfl, by go_grown⟩
    · exact absurd rfl hne

set_option maxRecDepth 100000 in
set_option maxHeartbeats 4000000 in
theorem meetLeaf (d : Nat) (a b : Tr) (va vb : Value) (Sa Sb : Nat → Prop) (w : World) (ha : Leaf va a) (hb : Leaf vb b) (hk : a.kind = b.kind) :
    Calls Try.prog 84 #[va, vb] w fun e w' => ShR d w w' Sa Sb e (meetT d a b) ∧ Below w.heap.size w w' := by
  have h4 : a.kind ≠ 4 := by rcases ha.2 with h | h | h <;> omega
  rw [meetT_leaf hk h4 ha.1 hb.1]
  have up : ∀ (v : Value) (w' : World), Leaf v (mn a b []) → ShIn d w' (fun g => ((Sa g ∨ Sb g) ∨ w.heap.size ≤ g) ∧ g < w'.heap.size) v (mn a b []) := fun v w' h => by
    cases d with
    | zero => exact h
    | succ d => exact .inl h
  have UP : Hid (∀ (v : Value) (w' : World), Leaf v (mn a b []) → ShIn d w' (fun g => ((Sa g ∨ Sb g) ∨ w.heap.size ≤ g) ∧ g < w'.heap.size) v (mn a b [])) := up
  clear up
  rcases ha.2 with ⟨h1, rfl⟩ | ⟨h1, rfl⟩ | ⟨h1, rfl⟩
  · rcases hb.2 with ⟨h2, rfl⟩ | ⟨h2, rfl⟩ | ⟨h2, rfl⟩
    · have HL : Hid (Leaf (.iface 149 (.agg #[])) (mn a b [])) := ⟨rfl, .inl ⟨h1, rfl⟩⟩
      have t0 := taNumEnu
      have t1 := taNumLst
      have t2 := taNumMsg
      clear ha hb hk h1 h2 h4
      go_enter Try.func84, Try.ntmps84
      go_wp2
      go_ret2
      exact ⟨.inl ⟨_, _, _, rfl, rfl, UP.out _ _ HL.out⟩, by go_grown⟩
    · omega
    · omega
  · rcases hb.2 with ⟨h2, rfl⟩ | ⟨h2, rfl⟩ | ⟨h2, rfl⟩
    · omega
    · have HL : Hid (Leaf (.iface 153 (.agg #[])) (mn a b [])) := ⟨rfl, .inr (.inl ⟨h1, rfl⟩)⟩
      have t0 := taTxtEnu
      have t1 := taTxtLst
      have t2 := taTxtMsg
      clear ha hb hk h1 h2 h4
      go_enter Try.func84, Try.ntmps84
      go_wp2
      go_ret2
      exact ⟨.inl ⟨_, _, _, rfl, rfl, UP.out _ _ HL.out⟩, by go_grown⟩
    · omega
  · rcases hb.2 with ⟨h2, rfl⟩ | ⟨h2, rfl⟩ | ⟨h2, rfl⟩
    · omega
    · omega
    · have HL : Hid (Leaf (.iface 151 (.agg #[.int .i64 (if b.most < a.most then b.most else a.most)])) (mn a b [])) := ⟨rfl, .inr (.inr ⟨h1, rfl⟩)⟩
      have t0 := taEnuEnu
      clear ha hb hk h1 h2 h4
      have hmx : (if b.most < a.most then b.most else a.most) = min a.most b.most := by split <;> omega
      rw [hmx] at HL
      clear hmx
      go_enter Try.func84, Try.ntmps84
      go_wp2
      go_ret2
      exact ⟨.inl ⟨_, _, _, rfl, rfl, UP.out _ _ HL.out⟩, by go_grown⟩

set_option maxRecDepth 100000 in
set_option maxHeartbeats 4000000 in
theorem meetSh_any : ∀ d, MeetSh d := by
  intro d
  induction d with
  | zero =>
    intro a b va vb Sa Sb w ha hb _ _
    by_cases hk : a.kind = b.kind
    · exact meetLeaf 0 a b va vb Sa Sb w ha hb hk
    · rw [meetT_unlike hk]
      refine (meetUnlike _ _ _ _ va vb w (ShIn.sf (d := 0) ha) (ShIn.sf (d := 0) hb) hk).mono ?_
      rintro e w' ⟨rfl, h⟩
      exact ⟨.inr ⟨rfl, _, rfl, .inl rfl⟩, h⟩
  | succ d ih =>
    intro a b va vb Sa Sb w ha hb hSa hSb
    by_cases hk : a.kind = b.kind
    · rcases ha with ha | ⟨h4, x, l, u, hxa, rfl, hx⟩ | ⟨h5, aa, capa, rfl, ha⟩
      · rcases hb with hb | ⟨h, _⟩ | ⟨h, _⟩
        · exact meetLeaf (d + 1) a b va vb Sa Sb w ha hb hk
        · rcases ha.2 with h1 | h1 | h1 <;> omega
        · rcases ha.2 with h1 | h1 | h1 <;> omega
      · rcases hb with hb | ⟨_, y, m, u', hyb, rfl, hy⟩ | ⟨h, _⟩
        · rcases hb.2 with h | h | h <;> omega
        · obtain ⟨xa, xv⟩ := u
          obtain ⟨ya, yv⟩ := u'
          dsimp only at *
          have hj : meetT (d + 1) a b = (meetT d x y).map fun z => mn a b [z] := by rw [meetT, if_neg (by omega), if_pos h4, hxa, hyb]
          have HIC : Hid (∀ W, Below w.heap.size w W → Calls Try.prog 84 #[.iface xa xv, .iface ya yv] W fun e w' => ShR d W w' Sa Sb e (meetT d x y) ∧ Below W.heap.size W w') := fun W hW => ih x y _ _ Sa Sb W (hx.kept (fun g hg => hW.block g (hSa g hg)) (fun _ h => h)) (hy.kept (fun g hg => hW.block g (hSb g hg)) (fun _ h => h)) (fun g hg => by have h1 := hSa g hg; have h2 := hW.size; omega) (fun g hg => by have h1 := hSb g hg; have h2 := hW.size; omega)
          unfold ShR at HIC
          rw [hj]
          obtain ⟨R, hR⟩ : ∃ R, meetT d x y = R := ⟨_, rfl⟩
          rw [hR] at HIC ⊢
          clear hR
          have HK4 : Hid (a.kind = 4) := h4
          clear hx hy hSa hSb ih hxa hyb h4 hk hj
          have t1 := taLstEnu
          have t2 := taLstLst
          unfold ShR
          go_enter Try.func84, Try.ntmps84
          go_wp2_with fail
          refine (kindLstJ _ _ _).mono ?_
          rintro e w1 ⟨rfl, hb1⟩
          go_wp2_with fail
          refine (kindLstJ _ _ _).mono ?_
          rintro e w2 ⟨rfl, hb2⟩
          have hBw2 : Below w.heap.size w w2 := hb1.trans (hb2.mono hb1.size)
          clear hb1 hb2
          have hBw4 : Below w.heap.size w ((w2.alloc (.cells #[.iface xa xv] 146)).alloc (.cells #[.iface ya yv] 146)) := (hBw2.alloc hBw2.size _).alloc (by have := hBw2.size; simp; omega) _
          go_wp2_with fail
          refine (HIC.out _ hBw4).mono ?_
          rintro e w3 ⟨hres, hb3⟩
          have hs4 := hBw4.size
          have hB3 : Below w.heap.size w w3 := hBw4.trans (hb3.mono hs4)
          rcases hres with ⟨t, ta, tv, hjt, rfl, hsh⟩ | ⟨hjt, v, rfl, hv⟩
          · have HSH : Hid (ShIn (d + 1) w3 (fun g => ((Sa g ∨ Sb g) ∨ w.heap.size ≤ g) ∧ g < w3.heap.size) (.iface 146 (.agg #[.iface ta tv])) (mn a b [t])) := .inr (.inl ⟨HK4.out, t, [], (ta, tv), rfl, rfl, hsh.kept (fun _ _ => rfl) (fun g hg => ⟨by rcases hg.1 with h | h; exact .inl h; exact .inr (Nat.le_trans hs4 h), hg.2⟩)⟩)
            have HJT : Hid (R = some t) := hjt
            clear hsh hb3 hjt
            go_wp2
            go_ret2
            exact ⟨.inl ⟨_, _, _, by rw [HJT.out]; rfl, rfl, HSH.out⟩, hB3⟩
          · have HJT : Hid (R = none) := hjt
            clear hb3 hjt
            rcases hv with rfl | ⟨va, vx, rfl⟩
            · go_wp2
              go_ret2
              exact ⟨.inr ⟨by rw [HJT.out]; rfl, _, rfl, .inr ⟨_, _, rfl⟩⟩, hB3⟩
            · go_wp2
              go_ret2
              exact ⟨.inr ⟨by rw [HJT.out]; rfl, _, rfl, .inr ⟨_, _, rfl⟩⟩, hB3⟩
        · omega
      · rcases hb with hb | ⟨h, _⟩ | ⟨_, ab, capb, rfl, hb⟩
        · rcases hb.2 with h | h | h <;> omega
        · omega
        · have hj : meetT (d + 1) a b = (meetTo (meetT d) a.kids b.kids 30).map (mn a b) := by rw [meetT, if_neg (by omega), if_neg (by omega)]
          have pa : PartsIn d w Sa (.slice aa a.kids.length capa) a.kids := ⟨aa, capa, rfl, ha⟩
          have pb : PartsIn d w Sb (.slice ab b.kids.length capb) b.kids := ⟨ab, capb, rfl, hb⟩
          have HIC : Hid (∀ W, Below w.heap.size w W → Calls Try.prog 42 #[.slice aa a.kids.length capa, .slice ab b.kids.length capb] W fun e w' => MpR d a.kids b.kids Sa Sb W w' e ∧ Below W.heap.size W w') := fun W hW => meetParts_of d ih a.kids b.kids _ _ Sa Sb W (pa.kept (fun g hg => hW.block g (hSa g hg)) (fun _ h => h)) (pb.kept (fun g hg => hW.block g (hSb g hg)) (fun _ h => h)) (fun g hg => by have h1 := hSa g hg; have h2 := hW.size; omega) (fun g hg => by have h1 := hSb g hg; have h2 := hW.size; omega)
          unfold MpR at HIC
          rw [hj]
          have HK5 : Hid (a.kind = 5) := h5
          obtain ⟨R, hR⟩ : ∃ R, meetTo (meetT d) a.kids b.kids 30 = R := ⟨_, rfl⟩
          rw [hR] at HIC ⊢
          clear hR
          clear pa pb ha hb hSa hSb ih h5 hk hj
          have t1 := taMsgEnu
          have t2 := taMsgLst
          have t3 := taMsgMsg
          unfold ShR
          go_enter Try.func84, Try.ntmps84
          go_wp2_with fail
          refine (kindMsgJ _ _ _ _).mono ?_
          rintro e w1 ⟨rfl, hb1⟩
          go_wp2_with fail
          refine (kindMsgJ _ _ _ _).mono ?_
          rintro e w2 ⟨rfl, hb2⟩
          have hBw2 : Below w.heap.size w w2 := hb1.trans (hb2.mono hb1.size)
          clear hb1 hb2
          have hBw4 : Below w.heap.size w ((w2.alloc (.cells #[.slice aa a.kids.length capa] 135)).alloc (.cells #[.slice ab b.kids.length capb] 135)) := (hBw2.alloc hBw2.size _).alloc (by have := hBw2.size; simp; omega) _
          go_wp2_with fail
          refine (HIC.out _ hBw4).mono ?_
          rintro e w3 ⟨hres, hb3⟩
          have hs4 := hBw4.size
          have hB3 : Below w.heap.size w w3 := hBw4.trans (hb3.mono hs4)
          rcases hres with ⟨L, rv, hL, rfl, hp⟩ | ⟨hL, rfl⟩
          · have HSH : Hid (ShIn (d + 1) w3 (fun g => ((Sa g ∨ Sb g) ∨ w.heap.size ≤ g) ∧ g < w3.heap.size) (.iface 135 (.agg #[rv])) (mn a b L)) := shIn_message HK5.out (hp.kept (fun _ _ => rfl) (fun g hg => ⟨by rcases hg.1 with h | h; exact .inl h; exact .inr (Nat.le_trans hs4 h), hg.2⟩))
            have HJT : Hid (R = some L) := hL
            obtain ⟨aor, capr, rfl, _⟩ := hp
            clear hb3 hL
            go_wp2
            go_ret2
            exact ⟨.inl ⟨_, _, _, by rw [HJT.out]; rfl, rfl, HSH.out⟩, hB3⟩
          · have HJT : Hid (R = none) := hL
            clear hb3 hL
            go_wp2
            go_ret2
            exact ⟨.inr ⟨by rw [HJT.out]; rfl, _, rfl, .inr ⟨_, _, rfl⟩⟩, hB3⟩
    · rw [meetT_unlike hk]
      refine (meetUnlike _ _ _ _ va vb w ha.sf hb.sf hk).mono ?_
      rintro e w' ⟨rfl, h⟩
      exact ⟨.inr ⟨rfl, _, rfl, .inl rfl⟩, h⟩

end Go.Proofs.Ytbkdpcfghaiimaa
