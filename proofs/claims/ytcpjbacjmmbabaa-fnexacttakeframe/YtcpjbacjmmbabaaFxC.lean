/- Frames of texts: the model's and the program's. -/
import Derived.Test.YtcpjbacjmmbabaaFxB
import Derived.Deep.AppendLies
import Derived.Deep.RegionLaw
import Derived.Laws.OwnMore
namespace Go.Proofs.Ytcpjbacjmmbabaa
open Go.RowKit Plain Tpc Frm

/-- the frame of a text -/
def frm (s : ByteArray) : ByteArray := tx (frame (ul s))
theorem frm_size (s : ByteArray) : (frm s).size = s.size + 3 := by unfold frm; rw [tx_size, frame_len]; rfl
theorem ul_frm (s : ByteArray) : ul (frm s) = frame (ul s) := rfl

theorem convF (W : World) (g n : Nat) (hW : W.cell? ⟨g, 0, none⟩ = some (.int .u8 (n : Int))) : (convert 51 9 (.slice (some ⟨g, 0, none⟩) 1 1)).run Try.prog W = .ok (.string (tx [UInt8.ofNat n])) W := by
  rw [run_convert_bytes_arg W 51 5 Try.underlying51 Try.underlying5 g 0 1 1 [(n : Int)] (by simp) (fun i hi => by
    obtain rfl : i = 0 := by omega
    rw [Nat.add_zero, hW]
    simp) 9 Try.underlying9]
  have e9 : strOfNums [(n : Int)] = tx [UInt8.ofNat n] := by simp [strOfNums, tx]
  rw [e9]

theorem frm_eq (s : ByteArray) : ((tx [126] ++ tx [UInt8.ofNat s.size]) ++ s) ++ tx [UInt8.ofNat (fsum (ul s))] = frm s := ul_inj (by
  rw [ul_append, ul_append, ul_append, ul_tx, ul_tx, ul_tx, ul_frm]
  unfold frame
  rw [ul_len]
  simp)

set_option maxRecDepth 100000 in
set_option maxHeartbeats 4000000 in
theorem l14Frame_any (s : ByteArray) (w : World) (hs : s.size ≤ 60) :
    Calls Try.prog 47 #[.string s] w fun e w' => e = .returned (.string (frm s)) ∧ Below w.heap.size w w' := by
  have C : Hid (∀ W : World, Calls Try.prog 45 #[.string s] W fun e w' => e = .returned (.int .i64 ((fsum (ul s) : Nat) : Int)) ∧ w' = W) := fun W => l14Sum_any s W (by unfold maxLen; omega)
  have hr := fsum_lt (ul s)
  have HE : Hid (((tx [126] ++ tx [UInt8.ofNat s.size]) ++ s) ++ tx [UInt8.ofNat (fsum (ul s))] = frm s) := frm_eq s
  have hcv1 := fun W g => convF W g s.size
  have hcv2 := fun W g => convF W g (fsum (ul s))
  generalize fsum (ul s) = r at C HE hr hcv2
  have hw1 : IntKind.u8.wrap (s.size : Int) = (s.size : Int) := by rw [IntKind.wrap_u8]; omega
  have hw2 : IntKind.u8.wrap (r : Int) = (r : Int) := by rw [IntKind.wrap_u8]; omega
  have hs1 : (tx [UInt8.ofNat s.size]).size = 1 := tx_size _
  have hs2 : (tx [UInt8.ofNat r]).size = 1 := tx_size _
  have hsI : (s.size : Int) ≤ 60 := by omega
  go_enter Try.func47, Try.ntmps47
  go_wp2_with fail
  go_region_with (go_at_call 45; refine (C.out _).mono ?_; rintro e w2 ⟨rfl, rfl⟩)
  all_goals
    go_wp2
    go_ret
    refine ⟨congrArg (fun x => Ending.returned (.string x)) HE.out, ?_⟩
    repeat' (first | exact Below.refl _ _ | refine Below.drew ?_ | refine Below.alloc ?_ ?_ _)
    all_goals (simp)

end Go.Proofs.Ytcpjbacjmmbabaa
