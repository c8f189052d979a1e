/- The program's joins of shapes, at every depth. -/
import Derived.Test.YtbkdpcfghaiimaaJoB
import Derived.Test.YtbkdpcfghaiimaaSpE
namespace Go.Proofs.Ytbkdpcfghaiimaa
open Go.RowKit Plain Sch

set_option maxRecDepth 100000 in
theorem kindLstJ (a : TypeId) (x : Value) (w : World) : Calls Try.prog 149 #[.agg #[.iface a x]] w fun e w' => e = .returned (.int .i64 4) ∧ Below w.heap.size w w' := by
  go_enter Try.func149, Try.ntmps149
  go_wp2
  go_ret
  exact ⟨rfl, by go_grown⟩

set_option maxRecDepth 100000 in
theorem kindMsgJ (ao : Option Addr) (l c : Nat) (w : World) : Calls Try.prog 148 #[.agg #[.slice ao l c]] w fun e w' => e = .returned (.int .i64 5) ∧ Below w.heap.size w w' := by
  go_enter Try.func148, Try.ntmps148
  go_wp2
  go_ret
  exact ⟨rfl, by go_grown⟩

theorem joinT_unlike {d : Nat} {a b : Tr} (h : a.kind ≠ b.kind) : joinT d a b = none := by
  cases d <;> rw [joinT, if_pos h]

theorem joinT_leaf {d : Nat} {a b : Tr} (h : a.kind = b.kind) (h4 : a.kind ≠ 4) (hk : a.kids = []) : joinT d a b = some (jn a b []) := by
  cases d with
  | zero => rw [joinT, if_neg (by omega)]
  | succ d => rw [joinT, if_neg (by omega), if_neg h4, hk]; rfl

set_option maxRecDepth 100000 in
set_option maxHeartbeats 4000000 in
theorem joinUnlike (ka kb ma mb : Int) (va vb : Value) (w : World) (ha : SF va ka ma) (hb : SF vb kb mb) (hne : ka ≠ kb) :
    Calls Try.prog 95 #[va, vb] w fun e w' => e = .returned (.tuple #[.nilIface, .bool false]) ∧ Below w.heap.size w w' := by
  rcases ha with ⟨rfl, rfl⟩ | ⟨rfl, rfl⟩ | ⟨rfl, rfl⟩ | ⟨rfl, a, x, rfl⟩ | ⟨rfl, ao, l, cap, rfl⟩
  · rcases hb with ⟨rfl, rfl⟩ | ⟨rfl, rfl⟩ | ⟨rfl, rfl⟩ | ⟨rfl, ab, xb, rfl⟩ | ⟨rfl, aob, lb, capb, rfl⟩
    · exact absurd rfl hne
    · go_enter Try.func95, Try.ntmps95
      go_wp2
      go_ret2
      exact ⟨rfl, by go_grown⟩
    · go_enter Try.func95, Try.ntmps95
      go_wp2
      go_ret2
      exact ⟨rfl, by go_grown⟩
    · go_enter Try.func95, Try.ntmps95
      go_wp2
      go_ret2
      exact ⟨rfl, by go_grown⟩
    · go_enter Try.func95, Try.ntmps95
      go_wp2
      go_ret2
      exact ⟨rfl, by go_grown⟩
  · rcases hb with ⟨rfl, rfl⟩ | ⟨rfl, rfl⟩ | ⟨rfl, rfl⟩ | ⟨rfl, ab, xb, rfl⟩ | ⟨rfl, aob, lb, capb, rfl⟩
    · go_enter Try.func95, Try.ntmps95
      go_wp2
      go_ret2
      exact ⟨rfl, by go_grown⟩
    · exact absurd rfl hne
    · go_enter Try.func95, Try.ntmps95
      go_wp2
      go_ret2
      exact ⟨rfl, by go_grown⟩
    · go_enter Try.func95, Try.ntmps95
      go_wp2
      go_ret2
      exact ⟨rfl, by go_grown⟩
    · go_enter Try.func95, Try.ntmps95
      go_wp2
      go_ret2
      exact ⟨rfl, by go_grown⟩
  · rcases hb with ⟨rfl, rfl⟩ | ⟨rfl, rfl⟩ | ⟨rfl, rfl⟩ | ⟨rfl, ab, xb, rfl⟩ | ⟨rfl, aob, lb, capb, rfl⟩
    · go_enter Try.func95, Try.ntmps95
      go_wp2
      go_ret2
      exact ⟨rfl, by go_grown⟩
    · go_enter Try.func95, Try.ntmps95
      go_wp2
      go_ret2
      exact ⟨rfl, by go_grown⟩
    · exact absurd rfl hne
    · go_enter Try.func95, Try.ntmps95
      go_wp2
      go_ret2
      exact ⟨rfl, by go_grown⟩
    · go_enter Try.func95, Try.ntmps95
      go_wp2
      go_ret2
      exact ⟨rfl, by go_grown⟩
  · rcases hb with ⟨rfl, rfl⟩ | ⟨rfl, rfl⟩ | ⟨rfl, rfl⟩ | ⟨rfl, ab, xb, rfl⟩ | ⟨rfl, aob, lb, capb, rfl⟩
    · go_enter Try.func95, Try.ntmps95
      go_wp2
      go_ret2
      exact ⟨rfl, by go_grown⟩
    · go_enter Try.func95, Try.ntmps95
      go_wp2
      go_ret2
      exact ⟨rfl, by go_grown⟩
    · go_enter Try.func95, Try.ntmps95
      go_wp2
      go_ret2
      exact ⟨rfl, by go_grown⟩
    · exact absurd rfl hne
    · go_enter Try.func95, Try.ntmps95
      go_wp2
      go_ret2
      exact ⟨rfl, by go_grown⟩
  · rcases hb with ⟨rfl, rfl⟩ | ⟨rfl, rfl⟩ | ⟨rfl, rfl⟩ | ⟨rfl, ab, xb, rfl⟩ | ⟨rfl, aob, lb, capb, rfl⟩
    · go_enter Try.func95, Try.ntmps95
      go_wp2
      go_ret2
      exact ⟨rfl, by go_grown⟩
    · go_enter Try.func95, Try.ntmps95
      go_wp2
      go_ret2
      exact ⟨rfl, by go_grown⟩
    · go_enter Try.func95, Try.ntmps95
      go_wp2
      go_ret2
      exact ⟨rfl, by go_grown⟩
    · go_enter Try.func95, Try.ntmps95
      go_wp2
      go_ret2
      exact ⟨rfl, by go_grown⟩
    · exact absurd rfl hne

set_option maxRecDepth 100000 in
set_option maxHeartbeats 4000000 in
theorem joinLeaf (d : Nat) (a b : Tr) (va vb : Value) (Sa Sb : Nat → Prop) (w : World) (ha : Leaf va a) (hb : Leaf vb b) (hk : a.kind = b.kind) :
    Calls Try.prog 95 #[va, vb] w fun e w' => ShR d w w' Sa Sb e (joinT d a b) ∧ Below w.heap.size w w' := by
  have h4 : a.kind ≠ 4 := by rcases ha.2 with h | h | h <;> omega
  rw [joinT_leaf hk h4 ha.1]
  have up : ∀ (v : Value) (w' : World), Leaf v (jn a b []) → ShIn d w' (fun g => ((Sa g ∨ Sb g) ∨ w.heap.size ≤ g) ∧ g < w'.heap.size) v (jn a b []) := fun v w' h => by
    cases d with
    | zero => exact h
    | succ d => exact .inl h
  have UP : Hid (∀ (v : Value) (w' : World), Leaf v (jn a b []) → ShIn d w' (fun g => ((Sa g ∨ Sb g) ∨ w.heap.size ≤ g) ∧ g < w'.heap.size) v (jn a b [])) := up
  clear up
  rcases ha.2 with ⟨h1, rfl⟩ | ⟨h1, rfl⟩ | ⟨h1, rfl⟩
  · rcases hb.2 with ⟨h2, rfl⟩ | ⟨h2, rfl⟩ | ⟨h2, rfl⟩
    · have HL : Hid (Leaf (.iface 149 (.agg #[])) (jn a b [])) := ⟨rfl, .inl ⟨h1, rfl⟩⟩
      have t0 := taNumEnu
      have t1 := taNumLst
      have t2 := taNumMsg
      clear ha hb hk h1 h2 h4
      go_enter Try.func95, Try.ntmps95
      go_wp2
      go_ret2
      exact ⟨.inl ⟨_, _, _, rfl, rfl, UP.out _ _ HL.out⟩, by go_grown⟩
    · omega
    · omega
  · rcases hb.2 with ⟨h2, rfl⟩ | ⟨h2, rfl⟩ | ⟨h2, rfl⟩
    · omega
    · have HL : Hid (Leaf (.iface 153 (.agg #[])) (jn a b [])) := ⟨rfl, .inr (.inl ⟨h1, rfl⟩)⟩
      have t0 := taTxtEnu
      have t1 := taTxtLst
      have t2 := taTxtMsg
      clear ha hb hk h1 h2 h4
      go_enter Try.func95, Try.ntmps95
      go_wp2
      go_ret2
      exact ⟨.inl ⟨_, _, _, rfl, rfl, UP.out _ _ HL.out⟩, by go_grown⟩
    · omega
  · rcases hb.2 with ⟨h2, rfl⟩ | ⟨h2, rfl⟩ | ⟨h2, rfl⟩
    · omega
    · omega
    · have HL : Hid (Leaf (.iface 151 (.agg #[.int .i64 (if a.most < b.most then b.most else a.most)])) (jn a b [])) := ⟨rfl, .inr (.inr ⟨h1, rfl⟩)⟩
      have t0 := taEnuEnu
      clear ha hb hk h1 h2 h4
      have hmx : (if a.most < b.most then b.most else a.most) = max a.most b.most := by split <;> omega
      rw [hmx] at HL
      clear hmx
      go_enter Try.func95, Try.ntmps95
      go_wp2
      go_ret2
      exact ⟨.inl ⟨_, _, _, rfl, rfl, UP.out _ _ HL.out⟩, by go_grown⟩

set_option maxRecDepth 100000 in
set_option maxHeartbeats 4000000 in
theorem joinSh_any : ∀ d, JoinSh d := by
  intro d
  induction d with
  | zero =>
    intro a b va vb Sa Sb w ha hb _ _ _
    by_cases hk : a.kind = b.kind
    · exact joinLeaf 0 a b va vb Sa Sb w ha hb hk
    · rw [joinT_unlike hk]
      refine (joinUnlike _ _ _ _ va vb w (ShIn.sf (d := 0) ha) (ShIn.sf (d := 0) hb) hk).mono ?_
      rintro e w' ⟨rfl, h⟩
      exact ⟨.inr ⟨rfl, _, rfl, .inl rfl⟩, h⟩
  | succ d ih =>
    intro a b va vb Sa Sb w ha hb hSa hSb hsz
    by_cases hk : a.kind = b.kind
    · rcases ha with ha | ⟨h4, x, l, u, hxa, rfl, hx⟩ | ⟨h5, aa, capa, rfl, ha⟩
      · rcases hb with hb | ⟨h, _⟩ | ⟨h, _⟩
        · exact joinLeaf (d + 1) a b va vb Sa Sb w ha hb hk
        · rcases ha.2 with h1 | h1 | h1 <;> omega
        · rcases ha.2 with h1 | h1 | h1 <;> omega
      · rcases hb with hb | ⟨_, y, m, u', hyb, rfl, hy⟩ | ⟨h, _⟩
        · rcases hb.2 with h | h | h <;> omega
        · obtain ⟨xa, xv⟩ := u
          obtain ⟨ya, yv⟩ := u'
          dsimp only at *
          have hj : joinT (d + 1) a b = (joinT d x y).map fun z => jn a b [z] := by rw [joinT, if_neg (by omega), if_pos h4, hxa, hyb]
          have hxs : x.size ≤ 1000 := by rw [Tr.size_eq, hxa, sizeL] at hsz; omega
          have HIC : Hid (∀ W, Below w.heap.size w W → Calls Try.prog 95 #[.iface xa xv, .iface ya yv] W fun e w' => ShR d W w' Sa Sb e (joinT d x y) ∧ Below W.heap.size W w') := fun W hW => ih x y _ _ Sa Sb W (hx.kept (fun g hg => hW.block g (hSa g hg)) (fun _ h => h)) (hy.kept (fun g hg => hW.block g (hSb g hg)) (fun _ h => h)) (fun g hg => by have h1 := hSa g hg; have h2 := hW.size; omega) (fun g hg => by have h1 := hSb g hg; have h2 := hW.size; omega) hxs
          unfold ShR at HIC
          rw [hj]
          obtain ⟨R, hR⟩ : ∃ R, joinT d x y = R := ⟨_, rfl⟩
          rw [hR] at HIC ⊢
          clear hR
          have HK4 : Hid (a.kind = 4) := h4
          clear hx hy hSa hSb ih hxa hyb h4 hk hj hxs hsz
          have t1 := taLstEnu
          have t2 := taLstLst
          unfold ShR
          go_enter Try.func95, Try.ntmps95
          go_wp2_with fail
          refine (kindLstJ _ _ _).mono ?_
          rintro e w1 ⟨rfl, hb1⟩
          go_wp2_with fail
          refine (kindLstJ _ _ _).mono ?_
          rintro e w2 ⟨rfl, hb2⟩
          have hBw2 : Below w.heap.size w w2 := hb1.trans (hb2.mono hb1.size)
          clear hb1 hb2
          have hBw4 : Below w.heap.size w ((w2.alloc (.cells #[.iface xa xv] 146)).alloc (.cells #[.iface ya yv] 146)) := (hBw2.alloc hBw2.size _).alloc (by have := hBw2.size; simp; omega) _
          go_wp2_with fail
          refine (HIC.out _ hBw4).mono ?_
          rintro e w3 ⟨hres, hb3⟩
          have hs4 := hBw4.size
          have hB3 : Below w.heap.size w w3 := hBw4.trans (hb3.mono hs4)
          rcases hres with ⟨t, ta, tv, hjt, rfl, hsh⟩ | ⟨hjt, v, rfl, hv⟩
          · have HSH : Hid (ShIn (d + 1) w3 (fun g => ((Sa g ∨ Sb g) ∨ w.heap.size ≤ g) ∧ g < w3.heap.size) (.iface 146 (.agg #[.iface ta tv])) (jn a b [t])) := .inr (.inl ⟨HK4.out, t, [], (ta, tv), rfl, rfl, hsh.kept (fun _ _ => rfl) (fun g hg => ⟨by rcases hg.1 with h | h; exact .inl h; exact .inr (Nat.le_trans hs4 h), hg.2⟩)⟩)
            have HJT : Hid (R = some t) := hjt
            clear hsh hb3 hjt
            go_wp2
            go_ret2
            exact ⟨.inl ⟨_, _, _, by rw [HJT.out]; rfl, rfl, HSH.out⟩, hB3⟩
          · have HJT : Hid (R = none) := hjt
            clear hb3 hjt
            rcases hv with rfl | ⟨va, vx, rfl⟩
            · go_wp2
              go_ret2
              exact ⟨.inr ⟨by rw [HJT.out]; rfl, _, rfl, .inr ⟨_, _, rfl⟩⟩, hB3⟩
            · go_wp2
              go_ret2
              exact ⟨.inr ⟨by rw [HJT.out]; rfl, _, rfl, .inr ⟨_, _, rfl⟩⟩, hB3⟩
        · omega
      · rcases hb with hb | ⟨h, _⟩ | ⟨_, ab, capb, rfl, hb⟩
        · rcases hb.2 with h | h | h <;> omega
        · omega
        · have hj : joinT (d + 1) a b = some (jn a b (joinL d a.kids b.kids)) := by rw [joinT, if_neg (by omega), if_neg (by omega)]; rfl
          have hxs : sizeL a.kids ≤ 1000 := by rw [Tr.size_eq] at hsz; omega
          have pa : PartsIn d w Sa (.slice aa a.kids.length capa) a.kids := ⟨aa, capa, rfl, ha⟩
          have pb : PartsIn d w Sb (.slice ab b.kids.length capb) b.kids := ⟨ab, capb, rfl, hb⟩
          have HIC : Hid (∀ W, Below w.heap.size w W → Calls Try.prog 49 #[.slice aa a.kids.length capa, .slice ab b.kids.length capb] W fun e w' => ∃ rv, e = .returned rv ∧ PartsIn d w' (fun g => ((Sa g ∨ Sb g) ∨ W.heap.size ≤ g) ∧ g < w'.heap.size) rv (joinL d a.kids b.kids) ∧ Below W.heap.size W w') := fun W hW => joinParts_of d ih a.kids b.kids _ _ Sa Sb W (pa.kept (fun g hg => hW.block g (hSa g hg)) (fun _ h => h)) (pb.kept (fun g hg => hW.block g (hSb g hg)) (fun _ h => h)) (fun g hg => by have h1 := hSa g hg; have h2 := hW.size; omega) (fun g hg => by have h1 := hSb g hg; have h2 := hW.size; omega) hxs
          rw [hj]
          have HK5 : Hid (a.kind = 5) := h5
          clear pa pb ha hb hSa hSb ih h5 hk hj hxs hsz
          have t1 := taMsgEnu
          have t2 := taMsgLst
          have t3 := taMsgMsg
          unfold ShR
          go_enter Try.func95, Try.ntmps95
          go_wp2_with fail
          refine (kindMsgJ _ _ _ _).mono ?_
          rintro e w1 ⟨rfl, hb1⟩
          go_wp2_with fail
          refine (kindMsgJ _ _ _ _).mono ?_
          rintro e w2 ⟨rfl, hb2⟩
          have hBw2 : Below w.heap.size w w2 := hb1.trans (hb2.mono hb1.size)
          clear hb1 hb2
          have hBw4 : Below w.heap.size w ((w2.alloc (.cells #[.slice aa a.kids.length capa] 135)).alloc (.cells #[.slice ab b.kids.length capb] 135)) := (hBw2.alloc hBw2.size _).alloc (by have := hBw2.size; simp; omega) _
          go_wp2_with fail
          refine (HIC.out _ hBw4).mono ?_
          rintro e w3 ⟨rv, rfl, hp, hb3⟩
          have hs4 := hBw4.size
          have hB3 : Below w.heap.size w w3 := hBw4.trans (hb3.mono hs4)
          have HSH : Hid (ShIn (d + 1) w3 (fun g => ((Sa g ∨ Sb g) ∨ w.heap.size ≤ g) ∧ g < w3.heap.size) (.iface 135 (.agg #[rv])) (jn a b (joinL d a.kids b.kids))) := shIn_message HK5.out (hp.kept (fun _ _ => rfl) (fun g hg => ⟨by rcases hg.1 with h | h; exact .inl h; exact .inr (Nat.le_trans hs4 h), hg.2⟩))
          obtain ⟨aor, capr, rfl, _⟩ := hp
          clear hb3
          go_wp2
          go_ret2
          exact ⟨.inl ⟨_, _, _, rfl, rfl, HSH.out⟩, hB3⟩
    · rw [joinT_unlike hk]
      refine (joinUnlike _ _ _ _ va vb w ha.sf hb.sf hk).mono ?_
      rintro e w' ⟨rfl, h⟩
      exact ⟨.inr ⟨rfl, _, rfl, .inl rfl⟩, h⟩

end Go.Proofs.Ytbkdpcfghaiimaa
