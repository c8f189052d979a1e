/- The program's text of a term. -/
import Derived.Test.YtlmhjkcollohnaaDoorTxB
import Derived.Test.YtlmhjkcollohnaaDoorTxC
import Derived.Test.YtlmhjkcollohnaaDoorTmC
import Derived.Deep.RegionLaw
import Derived.Deep.AppendLies
namespace Go.Proofs.YtlmhjkcollohnaaDoor
open Go.RowKit Plain Sch Trm

theorem oneU8 {k : Int} : ∀ u ∈ [Value.int .u8 k], u.oneCell' = true := by
  intro u hu
  simp at hu
  subst hu
  rfl

theorem byteCells_push (l : List UInt8) (q : UInt8) : Lib.byteCells (l ++ [q]) = Lib.byteCells l ++ [Value.int .u8 (q.toNat : Int)] := by simp [Lib.byteCells]

def AppC (T : List Ce) (g o cap : Nat) (k : Nat) : Prop := ∀ (x : TT) (r : List Ce) (a : Nat) (l : List UInt8) (sv : Value) (B : Nat) (w : World), (fl x).length ≤ k → T.drop a = fl x ++ r → (∀ i, i < T.length → CeIn w g (o + i * 3) (ce T i)) → g < B → BRow w B sv l → B ≤ w.heap.size → l.length + 7 * (T.length - a) ≤ 5000 →
  Calls Tryd.prog 55 #[sv, .slice (some ⟨g, o, none⟩) T.length cap, .int .i64 (a : Int)] w fun e w' => ∃ v', e = .returned (.tuple #[v', .int .i64 ((a + (fl x).length : Nat) : Int)]) ∧ BRow w' B v' (l ++ txt x) ∧ Below B w w'

set_option maxRecDepth 100000 in
set_option maxHeartbeats 4000000 in
theorem appText_var (T : List Ce) (g o cap : Nat) (_hlc : T.length ≤ cap) (_hcm : cap ≤ 9223372036854775807) (m : Nat) (hm1 : 1 ≤ m) (hm6 : m ≤ 6) (a : Nat) (ha : a < T.length) (hce : ce T a = ⟨(m : Int), ⟨#[]⟩, 0⟩) (l : List UInt8) (sv : Value) (B : Nat) (w : World) (hrow : ∀ i, i < T.length → CeIn w g (o + i * 3) (ce T i)) (_hg : g < B) (hown : BRow w B sv l) (hBw : B ≤ w.heap.size) (hl : l.length ≤ 5000) (h30 : T.length ≤ 30) :
    Calls Tryd.prog 55 #[sv, .slice (some ⟨g, o, none⟩) T.length cap, .int .i64 (a : Int)] w fun e w' => ∃ v', e = .returned (.tuple #[v', .int .i64 ((a + 1 : Nat) : Int)]) ∧ BRow w' B v' (l ++ [36, (48 + m).toUInt8]) ∧ Below B w w' := by
  obtain ⟨i0, hi, hz0, hz1, hz2⟩ := info_parts Tryd.infoU8
  have hci := hrow a ha
  rw [hce] at hci
  obtain ⟨c0, c1, c2⟩ := hci
  dsimp only at c0 c1 c2
  obtain ⟨ao, capb, rfl⟩ := hown.form
  have HO : Hid (BRow w B (.slice ao l.length capb) l) := hown
  have ha' : (a : Int) < (T.length : Int) := by omega
  have hm0 : (0 : Int) < (m : Int) := by omega
  obtain ⟨q, hq⟩ : ∃ q, Hid (q = (48 + m).toUInt8) := ⟨_, rfl⟩
  rw [← hq.out]
  have HC : Hid (∀ (W : World) (v : Value), BRow W B v (l ++ [36]) → B ≤ W.heap.size → Calls Tryd.prog 83 #[v, .int .i64 (m : Int), .int .i64 10] W fun e w' => ∃ v', e = .returned v' ∧ BRow w' B v' (l ++ [36, q]) ∧ Below B W w') := fun W v h1 h2 => by
    have h9 := strconvInt_digit m (by omega) B (l ++ [36]) v W h1 h2 (by simp; omega)
    rw [hq.out]
    have e : l ++ [36] ++ [(48 + m).toUInt8] = l ++ [36, (48 + m).toUInt8] := by simp
    rw [e] at h9
    exact h9
  have hlt := World.ownsRow.lt hown
  have HLT : Hid (∀ k, (Value.slice ao l.length capb).ownBlock = some k → B ≤ k ∧ k < w.heap.size) := hlt
  obtain ⟨W1, hW1⟩ : ∃ W, W = w.alloc (.cells #[.int .i64 (m : Int), .string ⟨#[]⟩, .int .i64 0] 97) := ⟨_, rfl⟩
  have hB1 : Below B w W1 := by rw [hW1]; exact (Below.refl _ w).alloc hBw _
  have HS1 : Hid (W1.heap.size = w.heap.size + 1) := by show _ = _; rw [hW1]; simp
  have x0 : W1.cell? ⟨w.heap.size, 0, none⟩ = some (.int .i64 (m : Int)) := by rw [hW1]; go_simp
  have hown1 : W1.ownsRow B 5 1 (.slice ao l.length capb) l.length (Lib.byteCells l) := by rw [hW1]; exact World.ownsRow.alloc HO.out _
  have hs1 : w.heap.size < W1.heap.size := by have := HS1.out; omega
  have hBs1 : B ≤ W1.heap.size := by omega
  clear hown hlt hrow hce
  go_enter Tryd.func55, Tryd.ntmps55
  go_upto_region 4 with fail
  rw [← hW1]
  clear hW1 c0 c1 c2
  go_wp2_with fail
  go_region_law
    (first
      | (go_simp; go_at_call 83; refine (HC.out _ _ hrow9 hs9).mono ?_; rintro e w2 ⟨v', rfl, hr2, hb2⟩; have HR2 : Hid (BRow w2 B v' (l ++ [36, q])) := hr2; have hB2 : Below B w w2 := hB9.trans hb2)
      | (refine step_append_lies _ rfl _ _ _ rfl B 5 i0 (.int .u8 0) 1 1 Tryd.underlying47 hi hz0 hz1 hz2 rfl (by decide) (.slice ao l.length capb) l.length _ rfl (World.ownsRow.alloc (show W1.drew.ownsRow B 5 1 (.slice ao l.length capb) l.length (Lib.byteCells l) from hown1) _) ⟨W1.heap.size, 0, none⟩ 1 1 [Value.int .u8 36] rfl rfl (World.news_of_block (heap_alloc_new W1.drew _)) oneU8 (by omega) (by unfold maxLen; omega) (by omega) (by simp; omega) (W1.heap.size + 1) (by simp) ?_; intro g9 cap9 w9 hown9 hgrow9 hat9 hlt9; have hne9 : some w.heap.size ≠ (Value.slice ao l.length capb).ownBlock := (fun e => by have := (HLT.out _ e.symm).2; omega); have m9 := (hgrow9.cell_far ⟨w.heap.size, 0, none⟩ (by simp; omega) hne9).trans ((Below.cell ((Below.refl _ W1.drew).alloc (Nat.le_refl _) _) (p := ⟨w.heap.size, 0, none⟩) hs1).trans x0); have hB9 : Below B w w9 := ((hB1.drew.alloc hBs1 _).grown hgrow9 (by simp; omega) (fun k hk => (HLT.out k hk).1)); have hs9 : B ≤ w9.heap.size := (by have := hgrow9.size; simp at this; omega); have hrow9 : BRow w9 B (.slice (some ⟨g9, 0, none⟩) (l.length + 1) cap9) (l ++ [36]) := (by unfold BRow; rw [byteCells_push, List.length_append]; exact hown9)))
  all_goals
    go_wp2
    go_ret2
    exact ⟨_, rfl, HR2.out, hB2⟩

end Go.Proofs.YtlmhjkcollohnaaDoor
