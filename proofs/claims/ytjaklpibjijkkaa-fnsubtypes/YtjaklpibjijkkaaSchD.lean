/- The program's walks up and along a schema, for each of its types. -/
import Derived.Test.YtjaklpibjijkkaaSchC
namespace Go.Proofs.Ytjaklpibjijkkaa
open Go.RowKit Plain Sch

/-- whether a type is a part of the one ahead of it, or of one that this is in -/
def rb (T : List Ty) (k : Nat) : Bool := decide (0 ≤ (ty T k).up) && decide ((ty T k).up.toNat ∈ chain T (k - 1)) && holds (ty T (ty T k).up.toNat).kind

set_option maxRecDepth 100000 in
set_option maxHeartbeats 4000000 in
theorem isRightBehind_any (T : List Ty) (v : Value) (k : Nat) (w : World) (hT : TysAt w w.heap.size v T) (hk : k < T.length) (hk1 : 1 ≤ k) (hl : T.length ≤ 30) (hu : UpsTo T k) :
    Calls Try.prog 80 #[v, .int .i64 k] w fun e w' => e = .returned (.bool (rb T k)) ∧ Below w.heap.size w w' := by
  obtain ⟨g, o, cap, rfl, hlc, hcm, hg, hrow, _⟩ := hT.open (by omega)
  clear hT
  obtain ⟨R, hR⟩ : ∃ R, R = rb T k := ⟨_, rfl⟩
  rw [← hR]
  have HR : Hid (R = rb T k) := hR
  clear hR
  have HU : Hid (UpsTo T k) := hu
  clear hu
  have hk' : (k : Int) < (T.length : Int) := by omega
  have hk0' : (0 : Int) ≤ (k : Int) := by omega
  obtain ⟨up, hup⟩ : ∃ x, (ty T k).up = x := ⟨_, rfl⟩
  have HUP : Hid ((ty T k).up = up) := hup
  have hck := (hrow k hk).2.2.2.2.1
  rw [hup] at hck
  clear hup
  go_enter Try.func80, Try.ntmps80
  go_wp2
  go_loopw [5] (fun va wr => ∃ (a : Int), va = .int .i64 a ∧ Hid ((a = -1 ∧ ¬ (0 ≤ up ∧ up.toNat ∈ chain T (k - 1))) ∨ ∃ j : Nat, a = (j : Int) ∧ j < k ∧ ((0 ≤ up ∧ up.toNat ∈ chain T (k - 1)) ↔ (0 ≤ up ∧ up.toNat ∈ chain T j))) ∧ Below w.heap.size w wr)
    (fun va _ => (intOf va + 1).toNat)
  case atStart => exact ⟨(k : Int) - 1, by go_num, .inr ⟨k - 1, by omega, by omega, Iff.rfl⟩, Below.refl _ _⟩
  case round =>
    obtain ⟨a, rfl, hst, hbw⟩ := hrel
    rcases hst.out with ⟨rfl, hno⟩ | ⟨j, rfl, hjk, hiff⟩
    · have hn : Hid (R = false) := by
        show R = _
        rw [HR.out]
        unfold rb
        rw [HUP.out]
        by_cases h0 : 0 ≤ up
        · have : ¬ up.toNat ∈ chain T (k - 1) := fun h => hno ⟨h0, h⟩
          simp [this]
        · simp [h0]
      clear hst hno
      go_wp2
      go_ret
      exact ⟨by rw [hn.out]; rfl, hbw⟩
    · clear hst
      have hjl : j < T.length := by omega
      have hc := (hrow j hjl).below hbw hg
      have y4 := (hbw.cell (p := ⟨g, o + k * 6 + 4, none⟩) hg).trans hck
      have hj0 : (0 : Int) ≤ (j : Int) := by omega
      have hj1 : (j : Int) < (T.length : Int) := by omega
      have hsz : g < wr.heap.size := by have := hbw.size; omega
      have hupj : Hid (((ty T j).up = -1 ∧ j = 0) ∨ (0 ≤ (ty T j).up ∧ (ty T j).up < j)) := by
        by_cases h0 : j = 0
        · subst h0; exact .inl ⟨HU.out.1, rfl⟩
        · exact .inr (HU.out.2 j (by omega) hjk)
      by_cases he : (j : Int) = up
      · have he' : ((j : Int) == up) = true := by simpa using he
        have hn : Hid (R = holds (ty T j).kind) := by
          show R = _
          rw [HR.out]
          unfold rb
          rw [HUP.out, ← he]
          have hm : j ∈ chain T (k - 1) := by
            have := hiff.2 (by rw [← he, Int.toNat_natCast]; exact ⟨by omega, self_chain T j⟩)
            rw [← he, Int.toNat_natCast] at this
            exact this.2
          simp [hm]
        obtain ⟨t, ht⟩ : ∃ t, ty T j = t := ⟨_, rfl⟩
        rw [ht] at hc hn
        clear ht hupj he hiff hrow hck
        obtain ⟨kind, name, no, must, upj, most⟩ := t
        obtain ⟨c0, c1, c2, c3, c4, c5⟩ := hc
        dsimp only at c0 c1 c2 c3 c4 c5 hn
        go_wp2_with fail
        refine (hasParts_any kind name no must upj most _).mono ?_
        rintro e w1 ⟨rfl, hb1⟩
        go_wp2
        go_ret
        exact ⟨by rw [hn.out]; rfl, hbw.trans (hb1.mono hbw.size)⟩
      · have he' : ((j : Int) == up) = false := by simpa using he
        have hc4 := hc.2.2.2.2.1
        have hnext : Hid (((ty T j).up = -1 ∧ ¬ (0 ≤ up ∧ up.toNat ∈ chain T (k - 1))) ∨ ∃ i : Nat, (ty T j).up = (i : Int) ∧ i < k ∧ ((0 ≤ up ∧ up.toNat ∈ chain T (k - 1)) ↔ (0 ≤ up ∧ up.toNat ∈ chain T i)) ∧ i < j) := by
          rcases hupj.out with ⟨hu1, rfl⟩ | hu1
          · left
            refine ⟨hu1, fun h => ?_⟩
            have := hiff.1 h
            rw [chain_top T 0 (by omega)] at this
            simp at this
            omega
          · right
            refine ⟨(ty T j).up.toNat, by omega, by omega, ?_, by omega⟩
            rw [hiff, chain_up T j hu1, List.mem_cons]
            constructor
            · rintro ⟨h0, h | h⟩
              · omega
              · exact ⟨h0, h⟩
            · rintro ⟨h0, h⟩
              exact ⟨h0, .inr h⟩
        generalize (ty T j).up = upj at hc4 hnext
        clear hc hupj hiff he
        go_wp2
        go_roundw
        case rel =>
          rcases hnext.out with ⟨rfl, hD⟩ | ⟨i, rfl, hi1, hi2, hi3⟩
          · exact ⟨-1, rfl, .inl ⟨rfl, hD⟩, hbw⟩
          · exact ⟨i, rfl, .inr ⟨i, rfl, hi1, hi2⟩, hbw⟩
        case measure =>
          rcases hnext.out with ⟨rfl, hD⟩ | ⟨i, rfl, hi1, hi2, hi3⟩ <;> simp [intOf] <;> omega

end Go.Proofs.Ytjaklpibjijkkaa
