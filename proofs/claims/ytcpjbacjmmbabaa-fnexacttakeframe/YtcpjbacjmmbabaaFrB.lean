/- Frames taken byte by byte: what the program's reader tells is what is read of all. -/
import Derived.Test.YtcpjbacjmmbabaaFrA
namespace Go.Proofs.Ytcpjbacjmmbabaa.Frm

/-- how far a stream has been read -/
structure Uf where
  texts : List (List UInt8)
  rest : List UInt8
  bad : Bool

/-- whether a frame may begin so -/
def hdOk (r : List UInt8) : Bool := decide (r.getD 0 0 = 126) && (decide (r.length < 2) || decide ((r.getD 1 0).toNat ≤ 60))
/-- whether all its bytes are there -/
def allOk (r : List UInt8) : Bool := decide (2 ≤ r.length) && decide (r.length = (r.getD 1 0).toNat + 3)
/-- the text of it -/
def mid (r : List UInt8) : List UInt8 := (r.drop 2).take (r.length - 3)

/-- one byte more -/
def tkb (u : Uf) (b : UInt8) : Uf :=
  if u.bad = true then u
  else if hdOk (u.rest ++ [b]) = false then ⟨u.texts, [], true⟩
  else if allOk (u.rest ++ [b]) = true then (if u.rest ++ [b] = frame (mid (u.rest ++ [b])) then ⟨u.texts ++ [mid (u.rest ++ [b])], [], false⟩ else ⟨u.texts, [], true⟩)
  else ⟨u.texts, u.rest ++ [b], false⟩

def tks (u : Uf) : List UInt8 → Uf
  | [] => u
  | b :: l => tks (tkb u b) l

theorem tks_snoc : ∀ (l : List UInt8) (u : Uf) (b : UInt8), tks u (l ++ [b]) = tkb (tks u l) b
  | [], _, _ => rfl
  | c :: l, u, b => tks_snoc l (tkb u c) b

theorem mid_frame (t : List UInt8) : mid (frame t) = t := by
  unfold mid
  rw [frame_len]
  show ((t ++ [UInt8.ofNat (fsum t)])).take (t.length + 3 - 3) = t
  rw [Nat.add_sub_cancel, List.take_left]

theorem step_key (s : List UInt8) (hs : s ≠ []) (hb : 2 ≤ s.length → s.length ≤ (s.getD 1 0).toNat + 3) :
    (hdOk s = false → nx s = .bad) ∧ (hdOk s = true → allOk s = true → s = frame (mid s) → nx s = .one (mid s) []) ∧ (hdOk s = true → allOk s = true → s ≠ frame (mid s) → nx s = .bad) ∧ (hdOk s = true → allOk s = false → nx s = .more) := by
  match s, hs, hb with
  | [], hs, _ => exact absurd rfl hs
  | [c], _, _ =>
    rw [nx_1]
    unfold hdOk allOk
    refine ⟨fun h1 => ?_, fun _ h1 => by simp at h1, fun _ h1 => by simp at h1, fun h1 _ => ?_⟩
    · simp at h1
      rw [if_neg h1]
    · simp at h1
      rw [if_pos h1]
  | c :: n :: q, _, hb =>
    have e1 : (c :: n :: q).getD 0 0 = c := rfl
    have e2 : (c :: n :: q).getD 1 0 = n := rfl
    have e3 : (c :: n :: q).length = q.length + 2 := rfl
    have hb2 := hb (by rw [e3]; omega)
    rw [e2, e3] at hb2
    have hh : hdOk (c :: n :: q) = true ↔ c = 126 ∧ n.toNat ≤ 60 := by
      unfold hdOk
      rw [e1, e2, e3]
      simp
      intro _ h0
      omega
    have ha : allOk (c :: n :: q) = true ↔ q.length = n.toNat + 1 := by
      unfold allOk
      rw [e2, e3]
      simp
    refine ⟨fun h1 => ?_, fun h1 h2 h3 => ?_, fun h1 h2 h3 => ?_, fun h1 h2 => ?_⟩
    · rw [nx_2, if_neg]
      intro h3
      rw [hh.2 h3] at h1
      cases h1
    · have hl : (mid (c :: n :: q)).length ≤ 60 := by
        have h1' := hh.1 h1
        have h2' := ha.1 h2
        unfold mid
        rw [List.length_take, e3]
        simp
        omega
      have := frame_nx hl []
      rw [List.append_nil, ← h3] at this
      exact this
    · cases hx : nx (c :: n :: q) with
      | bad => rfl
      | more =>
        exfalso
        have h1' := hh.1 h1
        have h2' := ha.1 h2
        rw [nx_2, if_pos h1', if_neg (by omega)] at hx
        split at hx <;> cases hx
      | one t z =>
        exfalso
        obtain ⟨_, h4⟩ := nx_frame hx
        have hz : z = [] := by
          have h1' := hh.1 h1
          have h2' := ha.1 h2
          rw [nx_2, if_pos h1', if_neg (by omega)] at hx
          split at hx
          · injection hx with _ e5
            rw [← e5, List.drop_eq_nil_iff]
            omega
          · cases hx
        subst hz
        rw [List.append_nil] at h4
        apply h3
        rw [h4, mid_frame]
    · have h1' := hh.1 h1
      have h2' : ¬ q.length = n.toNat + 1 := fun e => by rw [ha.2 e] at h2; cases h2
      rw [nx_2, if_pos h1', if_pos (by omega)]

theorem more_len {r : List UInt8} (h : nx r = .more) (b : UInt8) : 2 ≤ (r ++ [b]).length → (r ++ [b]).length ≤ ((r ++ [b]).getD 1 0).toNat + 3 := by
  match r, h with
  | [], _ => intro h; simp at h
  | [c], _ => intro _; simp
  | c :: n :: q, h =>
    intro _
    rw [nx_2] at h
    split at h
    · split at h
      · rename_i h2
        have e : ((c :: n :: q) ++ [b]).getD 1 0 = n := rfl
        rw [e]
        simp
        omega
      · split at h <;> cases h
    · cases h

/-- taken byte by byte, all is told that is read of the whole -/
theorem tks_all : ∀ (s r : List UInt8) (T : List (List UInt8)), nx r = .more → tks ⟨T, r, false⟩ s = ⟨T ++ (unf (r ++ s)).1, (unf (r ++ s)).2.1, (unf (r ++ s)).2.2⟩
  | [], r, T, h => by
    rw [List.append_nil, unf_more h, List.append_nil]
    rfl
  | b :: s, r, T, h => by
    obtain ⟨k1, k2, k3, k4⟩ := step_key (r ++ [b]) (by simp) (more_len h b)
    have hc := unf_cut ((r ++ [b]).length + 1) (r ++ [b]) s (by omega)
    rw [List.append_assoc, List.singleton_append] at hc
    rw [hc]
    show tks (tkb ⟨T, r, false⟩ b) s = _
    unfold tkb
    dsimp only
    rw [if_neg (by simp)]
    cases hh : hdOk (r ++ [b]) with
    | false =>
      rw [if_pos rfl, unf_bad (k1 hh), if_pos rfl]
      exact tks_bad s T
    | true =>
      rw [if_neg (by simp)]
      cases ha : allOk (r ++ [b]) with
      | false =>
        have hm := k4 hh ha
        rw [if_neg (by simp), unf_more hm, if_neg (by simp), List.nil_append, tks_all s _ T hm]
      | true =>
        rw [if_pos rfl]
        by_cases hf : r ++ [b] = frame (mid (r ++ [b]))
        · have ho := k2 hh ha hf
          rw [if_pos hf, unf_one ho]
          have hn : nx ([] : List UInt8) = .more := rfl
          rw [tks_all s [] _ hn]
          have hu : unf ([] : List UInt8) = ([], [], false) := unf_more hn
          rw [hu, if_neg (by simp), List.append_assoc]
        · rw [if_neg hf, unf_bad (k3 hh ha hf), if_pos rfl]
          exact tks_bad s T
where
  tks_bad : ∀ (s : List UInt8) (T : List (List UInt8)), tks ⟨T, [], true⟩ s = ⟨T ++ [], [], true⟩
  | [], T => by rw [List.append_nil]; rfl
  | _ :: s, T => tks_bad s T

/-- nothing is left that may not become a frame -/
theorem unf_nx : ∀ (n : Nat) (s : List UInt8), s.length < n → nx (unf s).2.1 = .more
  | 0, _, h => by omega
  | n + 1, s, hn => by
    cases h : nx s with
    | more => rw [unf_more h]; exact h
    | bad => rw [unf_bad h]; rfl
    | one t r =>
      have := nx_less h
      rw [unf_one h]
      exact unf_nx n r (by omega)

/-- what is left is no longer than what came -/
theorem unf_short : ∀ (n : Nat) (s : List UInt8), s.length < n → (unf s).2.1.length ≤ s.length ∧ ((unf s).2.1.length = s.length → unf s = ([], s, false))
  | 0, _, h => by omega
  | n + 1, s, hn => by
    cases h : nx s with
    | more => rw [unf_more h]; exact ⟨Nat.le_refl _, fun _ => rfl⟩
    | bad =>
      rw [unf_bad h]
      refine ⟨by simp, fun h' => ?_⟩
      have : s = [] := List.length_eq_zero_iff.1 h'.symm
      rw [this] at h
      cases h
    | one t r =>
      have := nx_less h
      have := unf_short n r (by omega)
      rw [unf_one h]
      dsimp only
      exact ⟨by omega, fun h' => by omega⟩

/-- how long it is at most: what may still become a frame has at most sixty two bytes -/
theorem more_short {s : List UInt8} (h : nx s = .more) : s.length ≤ 62 := by
  match s, h with
  | [], _ => simp
  | [c], _ => simp
  | c :: n :: q, h =>
    rw [nx_2] at h
    split at h
    · rename_i h1
      split at h
      · simp
        omega
      · split at h <;> cases h
    · cases h

/-- the texts that are told, and how many -/
theorem unf_texts : ∀ (n : Nat) (s : List UInt8), s.length < n → (∀ t ∈ (unf s).1, t.length ≤ 60) ∧ 3 * (unf s).1.length + (unf s).2.1.length ≤ s.length
  | 0, _, h => by omega
  | n + 1, s, hn => by
    cases h : nx s with
    | more => rw [unf_more h]; exact ⟨fun t ht => by simp at ht, by simp⟩
    | bad => rw [unf_bad h]; exact ⟨fun t ht => by simp at ht, by simp⟩
    | one t r =>
      have := nx_less h
      obtain ⟨h1, h2⟩ := unf_texts n r (by omega)
      obtain ⟨h3, h4⟩ := nx_frame h
      rw [unf_one h]
      refine ⟨fun x hx => ?_, ?_⟩
      · rcases List.mem_cons.1 hx with rfl | hx
        · exact h3
        · exact h1 x hx
      · have h5 := congrArg List.length h4
        rw [List.length_append, frame_len] at h5
        show 3 * ((unf r).1.length + 1) + (unf r).2.1.length ≤ s.length
        omega

end Go.Proofs.Ytcpjbacjmmbabaa.Frm
