/- What turned machines and meetings tell, in plain words. -/
import Derived.Test.YtecgjhnihagleaaMcT
import Derived.Test.YtecgjhnihagleaaXi
namespace Go.Proofs.Ytecgjhnihagleaa
open Go.RowKit Plain Mch Tpc

theorem rok_iff {M : List (List Int)} {E : List Bool} {s : ByteArray} : rok M E s = true ↔ gm M E = true ∧ s.size ≤ 60 ∧ abc s = true := by
  unfold rok
  rw [Bool.and_eq_true, Bool.and_eq_true, decide_eq_true_eq, and_assoc]

theorem gm_map {M : List (List Int)} {E : List Bool} (h : gm M E = true) : gm M (E.map (!·)) = true := by
  rw [gm_iff] at h ⊢
  rw [List.length_map]
  exact h

theorem en_map {E : List Bool} {i : Nat} (h : i < E.length) : en (E.map (!·)) i = !(en E i) := by
  unfold en
  rw [List.getD, List.getD, List.getElem?_map, List.getElem?_eq_getElem h]
  rfl

theorem tu_run {M : List (List Int)} {E : List Bool} {s : ByteArray} (h : rok M E s = true) : rok (tuM M E) (tuE M E) s = true ∧ rto (tuM M E) (tuE M E) s = !(rto M E s) := by
  obtain ⟨hg, hs, ha⟩ := rok_iff.1 h
  have e1 : tuM M E = M := by unfold tuM; rw [if_pos hg]
  have e2 : tuE M E = E.map (!·) := by unfold tuE; rw [if_pos hg]
  rw [e1, e2]
  have h1 : rok M (E.map (!·)) s = true := rok_iff.2 ⟨gm_map hg, hs, ha⟩
  refine ⟨h1, ?_⟩
  unfold rto
  rw [h1, h, Bool.true_and, Bool.true_and]
  refine en_map ?_
  rw [(gm_iff.1 hg).1.2.2]
  exact go_lt hg s.size (fun j hj => abc_iff.1 ha j hj)

theorem mok_iff {A B : List (List Int)} {E F : List Bool} : mok A E B F = true ↔ gm A E = true ∧ gm B F = true ∧ (prs A B).length ≤ 12 := by
  unfold mok
  rw [Bool.and_eq_true, Bool.and_eq_true, decide_eq_true_eq, and_assoc]

theorem prs_zero (A B : List (List Int)) : 0 < (prs A B).length ∧ (pq (prs A B) 0).a = 0 ∧ (pq (prs A B) 0).b = 0 := by
  obtain ⟨m, e⟩ := bfs_grows A B 145 0 [⟨0, 0, ByteArray.empty⟩]
  have e2 : prs A B = [⟨0, 0, ByteArray.empty⟩] ++ m := e
  rw [e2]
  exact ⟨by simp, rfl, rfl⟩

theorem nt_NR {A B : List (List Int)} {n j k : Nat} (hj : j < n) (hk : k < 3) : nt (NR A B n) j k = ix (prs A B) (nt A (pq (prs A B) j).a k) (nt B (pq (prs A B) j).b k) := by
  unfold nt
  rw [rx_NR A B hj, List.getD, nri_at A B j hk]
  rfl

theorem gm_me {A B : List (List Int)} {E F : List Bool} (h : mok A E B F = true) : gm (meM A E B F) (meE A E B F) = true := by
  obtain ⟨hA, hB, h12⟩ := mok_iff.1 h
  have e1 : meM A E B F = NR A B (prs A B).length := by unfold meM; rw [if_pos h]
  have e2 : meE A E B F = (prs A B).map (ben E F) := by unfold meE; rw [if_pos h]
  rw [e1, e2, gm_iff, NR_len, List.length_map]
  refine ⟨⟨(prs_zero A B).1, h12, rfl⟩, fun i hi => ?_⟩
  rw [rx_NR A B hi, okR_iff]
  refine ⟨nri_len A B i, fun x hx => ?_⟩
  obtain ⟨k, hk, e⟩ := List.getElem_of_mem hx
  rw [nri_len] at hk
  have h1 := nri_at A B i hk
  rw [List.getElem?_eq_getElem (by rw [nri_len]; exact hk), e] at h1
  simp only [Option.some.injEq] at h1
  have h2 := prs_closed hA hB hi hk
  subst h1
  omega

theorem me_go {A B : List (List Int)} {E F : List Bool} (h : mok A E B F = true) {s : ByteArray} : ∀ i, (∀ j, j < i → 97 ≤ bt s j ∧ bt s j ≤ 99) → go (meM A E B F) s i < (prs A B).length ∧ (pq (prs A B) (go (meM A E B F) s i)).a = go A s i ∧ (pq (prs A B) (go (meM A E B F) s i)).b = go B s i
  | 0, _ => prs_zero A B
  | i + 1, hs => by
    obtain ⟨hA, hB, _⟩ := mok_iff.1 h
    obtain ⟨h1, h2, h3⟩ := me_go h i (fun j hj => hs j (by omega))
    have hk : lt (bt s i) < 3 := by have := hs i (by omega); unfold lt; omega
    have e1 : meM A E B F = NR A B (prs A B).length := by unfold meM; rw [if_pos h]
    have e : go (meM A E B F) s (i + 1) = ix (prs A B) (nt A (go A s i) (lt (bt s i))) (nt B (go B s i) (lt (bt s i))) := by
      show nt (meM A E B F) (go (meM A E B F) s i) (lt (bt s i)) = _
      rw [e1] at h1 h2 h3 ⊢
      rw [nt_NR h1 hk, h2, h3]
    have hc := prs_closed hA hB h1 hk
    rw [h2, h3] at hc
    rw [e]
    exact ⟨hc, (ix_some hc).1, (ix_some hc).2⟩

theorem me_run {A B : List (List Int)} {E F : List Bool} (h : mok A E B F = true) {s : ByteArray} (hs : s.size ≤ 60) (ha : abc s = true) :
    (rok A E s = true ∧ rok B F s = true ∧ rok (meM A E B F) (meE A E B F) s = true) ∧ rto (meM A E B F) (meE A E B F) s = (rto A E s && rto B F s) := by
  obtain ⟨hA, hB, _⟩ := mok_iff.1 h
  have r1 : rok A E s = true := rok_iff.2 ⟨hA, hs, ha⟩
  have r2 : rok B F s = true := rok_iff.2 ⟨hB, hs, ha⟩
  have r3 : rok (meM A E B F) (meE A E B F) s = true := rok_iff.2 ⟨gm_me h, hs, ha⟩
  refine ⟨⟨r1, r2, r3⟩, ?_⟩
  obtain ⟨h1, h2, h3⟩ := me_go h s.size (fun j hj => abc_iff.1 ha j hj)
  unfold rto
  rw [r1, r2, r3, Bool.true_and, Bool.true_and, Bool.true_and]
  have e2 : meE A E B F = (prs A B).map (ben E F) := by unfold meE; rw [if_pos h]
  have e3 : en (meE A E B F) (go (meM A E B F) s s.size) = ben E F (pq (prs A B) (go (meM A E B F) s s.size)) := by
    rw [e2]
    unfold en
    rw [List.getD, List.getElem?_map, pq_at h1]
    rfl
  rw [e3]
  unfold ben
  rw [h2, h3]

end Go.Proofs.Ytecgjhnihagleaa
