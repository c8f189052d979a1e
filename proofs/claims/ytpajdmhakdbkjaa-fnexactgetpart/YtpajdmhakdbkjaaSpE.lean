/- Shapes of the program, of unlike make or without parts: whether one takes in another. -/
import Derived.Test.YtpajdmhakdbkjaaSpD
import Derived.Test.YtpajdmhakdbkjaaGg
namespace Go.Proofs.Ytpajdmhakdbkjaa
open Go.RowKit Plain Sch

set_option maxRecDepth 100000 in
set_option maxHeartbeats 4000000 in
theorem isSubNum (kb ma mb : Int) (va vb : Value) (w : World) (ha : SF va 1 ma) (hb : SF vb kb mb) :
    Calls Try.prog 122 #[va, vb] w fun e w' => e = .returned (.bool (likeK 1 kb ma mb)) ∧ Below w.heap.size w w' := by
  rcases ha with ⟨h, rfl⟩ | ⟨h, rfl⟩ | ⟨h, rfl⟩ | ⟨h, a, x, rfl⟩ | ⟨h, ao, l, cap, rfl⟩
  · clear h
    rcases hb with ⟨rfl, rfl⟩ | ⟨rfl, rfl⟩ | ⟨rfl, rfl⟩ | ⟨rfl, ab, xb, rfl⟩ | ⟨rfl, aob, lb, capb, rfl⟩
    · have e : likeK 1 1 ma mb = true := by unfold likeK; simp
      have t0 := taNumEnu
      have t1 := taNumLst
      have t2 := taNumMsg
      rw [e]
      go_enter Try.func122, Try.ntmps122
      go_wp2
      go_ret
      exact ⟨rfl, by go_grown⟩
    · have e : likeK 1 2 ma mb = false := by unfold likeK; simp
      have t0 := taNumEnu
      have t1 := taNumLst
      have t2 := taNumMsg
      rw [e]
      go_enter Try.func122, Try.ntmps122
      go_wp2
      go_ret
      exact ⟨rfl, by go_grown⟩
    · have e : likeK 1 3 ma mb = false := by unfold likeK; simp
      have t0 := taNumEnu
      have t1 := taNumLst
      have t2 := taNumMsg
      rw [e]
      go_enter Try.func122, Try.ntmps122
      go_wp2
      go_ret
      exact ⟨rfl, by go_grown⟩
    · have e : likeK 1 4 ma mb = false := by unfold likeK; simp
      have t0 := taNumEnu
      have t1 := taNumLst
      have t2 := taNumMsg
      rw [e]
      go_enter Try.func122, Try.ntmps122
      go_wp2
      go_ret
      exact ⟨rfl, by go_grown⟩
    · have e : likeK 1 5 ma mb = false := by unfold likeK; simp
      have t0 := taNumEnu
      have t1 := taNumLst
      have t2 := taNumMsg
      rw [e]
      go_enter Try.func122, Try.ntmps122
      go_wp2
      go_ret
      exact ⟨rfl, by go_grown⟩
  · omega
  · omega
  · omega
  · omega

set_option maxRecDepth 100000 in
set_option maxHeartbeats 4000000 in
theorem isSubTxt (kb ma mb : Int) (va vb : Value) (w : World) (ha : SF va 2 ma) (hb : SF vb kb mb) :
    Calls Try.prog 122 #[va, vb] w fun e w' => e = .returned (.bool (likeK 2 kb ma mb)) ∧ Below w.heap.size w w' := by
  rcases ha with ⟨h, rfl⟩ | ⟨h, rfl⟩ | ⟨h, rfl⟩ | ⟨h, a, x, rfl⟩ | ⟨h, ao, l, cap, rfl⟩
  · omega
  · clear h
    rcases hb with ⟨rfl, rfl⟩ | ⟨rfl, rfl⟩ | ⟨rfl, rfl⟩ | ⟨rfl, ab, xb, rfl⟩ | ⟨rfl, aob, lb, capb, rfl⟩
    · have e : likeK 2 1 ma mb = false := by unfold likeK; simp
      have t0 := taTxtEnu
      have t1 := taTxtLst
      have t2 := taTxtMsg
      rw [e]
      go_enter Try.func122, Try.ntmps122
      go_wp2
      go_ret
      exact ⟨rfl, by go_grown⟩
    · have e : likeK 2 2 ma mb = true := by unfold likeK; simp
      have t0 := taTxtEnu
      have t1 := taTxtLst
      have t2 := taTxtMsg
      rw [e]
      go_enter Try.func122, Try.ntmps122
      go_wp2
      go_ret
      exact ⟨rfl, by go_grown⟩
    · have e : likeK 2 3 ma mb = false := by unfold likeK; simp
      have t0 := taTxtEnu
      have t1 := taTxtLst
      have t2 := taTxtMsg
      rw [e]
      go_enter Try.func122, Try.ntmps122
      go_wp2
      go_ret
      exact ⟨rfl, by go_grown⟩
    · have e : likeK 2 4 ma mb = false := by unfold likeK; simp
      have t0 := taTxtEnu
      have t1 := taTxtLst
      have t2 := taTxtMsg
      rw [e]
      go_enter Try.func122, Try.ntmps122
      go_wp2
      go_ret
      exact ⟨rfl, by go_grown⟩
    · have e : likeK 2 5 ma mb = false := by unfold likeK; simp
      have t0 := taTxtEnu
      have t1 := taTxtLst
      have t2 := taTxtMsg
      rw [e]
      go_enter Try.func122, Try.ntmps122
      go_wp2
      go_ret
      exact ⟨rfl, by go_grown⟩
  · omega
  · omega
  · omega

set_option maxRecDepth 100000 in
set_option maxHeartbeats 4000000 in
theorem isSubEnu (kb ma mb : Int) (va vb : Value) (w : World) (ha : SF va 3 ma) (hb : SF vb kb mb) :
    Calls Try.prog 122 #[va, vb] w fun e w' => e = .returned (.bool (likeK 3 kb ma mb)) ∧ Below w.heap.size w w' := by
  rcases ha with ⟨h, rfl⟩ | ⟨h, rfl⟩ | ⟨h, rfl⟩ | ⟨h, a, x, rfl⟩ | ⟨h, ao, l, cap, rfl⟩
  · omega
  · omega
  · clear h
    rcases hb with ⟨rfl, rfl⟩ | ⟨rfl, rfl⟩ | ⟨rfl, rfl⟩ | ⟨rfl, ab, xb, rfl⟩ | ⟨rfl, aob, lb, capb, rfl⟩
    · have e : likeK 3 1 ma mb = false := by unfold likeK; simp
      have t0 := taEnuEnu
      have t1 := taNumEnu
      rw [e]
      go_enter Try.func122, Try.ntmps122
      go_wp2
      go_ret
      exact ⟨rfl, by go_grown⟩
    · have e : likeK 3 2 ma mb = false := by unfold likeK; simp
      have t0 := taEnuEnu
      have t1 := taTxtEnu
      rw [e]
      go_enter Try.func122, Try.ntmps122
      go_wp2
      go_ret
      exact ⟨rfl, by go_grown⟩
    · by_cases hm : ma ≤ mb
      · have e : likeK 3 3 ma mb = true := by unfold likeK; simp [hm]
        have hd : decide (ma ≤ mb) = true := by simpa using hm
        have t0 := taEnuEnu
        rw [e]
        go_enter Try.func122, Try.ntmps122
        go_wp2
        go_ret
        exact ⟨rfl, by go_grown⟩
      · have e : likeK 3 3 ma mb = false := by unfold likeK; simp [hm]
        have hd : decide (ma ≤ mb) = false := by simpa using hm
        clear hm
        have t0 := taEnuEnu
        rw [e]
        go_enter Try.func122, Try.ntmps122
        go_wp2
        go_ret
        exact ⟨rfl, by go_grown⟩
    · have e : likeK 3 4 ma mb = false := by unfold likeK; simp
      have t0 := taEnuEnu
      have t1 := taLstEnu
      rw [e]
      go_enter Try.func122, Try.ntmps122
      go_wp2
      go_ret
      exact ⟨rfl, by go_grown⟩
    · have e : likeK 3 5 ma mb = false := by unfold likeK; simp
      have t0 := taEnuEnu
      have t1 := taMsgEnu
      rw [e]
      go_enter Try.func122, Try.ntmps122
      go_wp2
      go_ret
      exact ⟨rfl, by go_grown⟩
  · omega
  · omega

set_option maxRecDepth 100000 in
set_option maxHeartbeats 4000000 in
theorem isSubLst (kb ma mb : Int) (va vb : Value) (w : World) (ha : SF va 4 ma) (hb : SF vb kb mb) (h4 : kb ≠ 4) :
    Calls Try.prog 122 #[va, vb] w fun e w' => e = .returned (.bool (likeK 4 kb ma mb)) ∧ Below w.heap.size w w' := by
  rcases ha with ⟨h, rfl⟩ | ⟨h, rfl⟩ | ⟨h, rfl⟩ | ⟨h, a, x, rfl⟩ | ⟨h, ao, l, cap, rfl⟩
  · omega
  · omega
  · omega
  · clear h
    rcases hb with ⟨rfl, rfl⟩ | ⟨rfl, rfl⟩ | ⟨rfl, rfl⟩ | ⟨rfl, ab, xb, rfl⟩ | ⟨rfl, aob, lb, capb, rfl⟩
    · have e : likeK 4 1 ma mb = false := by unfold likeK; simp
      clear h4
      have t0 := taLstEnu
      have t1 := taLstLst
      have t2 := taNumLst
      rw [e]
      go_enter Try.func122, Try.ntmps122
      go_wp2
      go_ret
      exact ⟨rfl, by go_grown⟩
    · have e : likeK 4 2 ma mb = false := by unfold likeK; simp
      clear h4
      have t0 := taLstEnu
      have t1 := taLstLst
      have t2 := taTxtLst
      rw [e]
      go_enter Try.func122, Try.ntmps122
      go_wp2
      go_ret
      exact ⟨rfl, by go_grown⟩
    · have e : likeK 4 3 ma mb = false := by unfold likeK; simp
      clear h4
      have t0 := taLstEnu
      have t1 := taLstLst
      have t2 := taEnuLst
      rw [e]
      go_enter Try.func122, Try.ntmps122
      go_wp2
      go_ret
      exact ⟨rfl, by go_grown⟩
    · exact absurd rfl h4
    · have e : likeK 4 5 ma mb = false := by unfold likeK; simp
      clear h4
      have t0 := taLstEnu
      have t1 := taLstLst
      have t2 := taMsgLst
      rw [e]
      go_enter Try.func122, Try.ntmps122
      go_wp2
      go_ret
      exact ⟨rfl, by go_grown⟩
  · omega

set_option maxRecDepth 100000 in
set_option maxHeartbeats 4000000 in
theorem isSubMsg (kb ma mb : Int) (va vb : Value) (w : World) (ha : SF va 5 ma) (hb : SF vb kb mb) (h5 : kb ≠ 5) :
    Calls Try.prog 122 #[va, vb] w fun e w' => e = .returned (.bool (likeK 5 kb ma mb)) ∧ Below w.heap.size w w' := by
  rcases ha with ⟨h, rfl⟩ | ⟨h, rfl⟩ | ⟨h, rfl⟩ | ⟨h, a, x, rfl⟩ | ⟨h, ao, l, cap, rfl⟩
  · omega
  · omega
  · omega
  · omega
  · clear h
    rcases hb with ⟨rfl, rfl⟩ | ⟨rfl, rfl⟩ | ⟨rfl, rfl⟩ | ⟨rfl, ab, xb, rfl⟩ | ⟨rfl, aob, lb, capb, rfl⟩
    · have e : likeK 5 1 ma mb = false := by unfold likeK; simp
      clear h5
      have t0 := taMsgEnu
      have t1 := taMsgLst
      have t2 := taMsgMsg
      have t3 := taNumMsg
      rw [e]
      go_enter Try.func122, Try.ntmps122
      go_wp2
      go_ret
      exact ⟨rfl, by go_grown⟩
    · have e : likeK 5 2 ma mb = false := by unfold likeK; simp
      clear h5
      have t0 := taMsgEnu
      have t1 := taMsgLst
      have t2 := taMsgMsg
      have t3 := taTxtMsg
      rw [e]
      go_enter Try.func122, Try.ntmps122
      go_wp2
      go_ret
      exact ⟨rfl, by go_grown⟩
    · have e : likeK 5 3 ma mb = false := by unfold likeK; simp
      clear h5
      have t0 := taMsgEnu
      have t1 := taMsgLst
      have t2 := taMsgMsg
      have t3 := taEnuMsg
      rw [e]
      go_enter Try.func122, Try.ntmps122
      go_wp2
      go_ret
      exact ⟨rfl, by go_grown⟩
    · have e : likeK 5 4 ma mb = false := by unfold likeK; simp
      clear h5
      have t0 := taMsgEnu
      have t1 := taMsgLst
      have t2 := taMsgMsg
      have t3 := taLstMsg
      rw [e]
      go_enter Try.func122, Try.ntmps122
      go_wp2
      go_ret
      exact ⟨rfl, by go_grown⟩
    · exact absurd rfl h5

end Go.Proofs.Ytpajdmhakdbkjaa
