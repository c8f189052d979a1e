/- Frames out of a stream, in plain words: what is read hangs on no cuts. -/
import Derived.Test.YtcpjbacjmmbabaaGa
namespace Go.Proofs.Ytcpjbacjmmbabaa.Frm

/-- the sum of bytes -/
def fsumN (h : Nat) : List UInt8 → Nat
  | [] => h
  | b :: l => fsumN ((31 * h + b.toNat) % 251) l
def fsum (l : List UInt8) : Nat := fsumN 1 l

/-- the next step in a stream: none where it may still become a frame, false where it is bad, a frame and what follows -/
inductive Nx where
  | more
  | bad
  | one (t r : List UInt8)

def nx : List UInt8 → Nx
  | [] => .more
  | [c] => if c = 126 then .more else .bad
  | c :: n :: r => if c = 126 ∧ n.toNat ≤ 60 then (if r.length < n.toNat + 1 then .more else if (r.getD n.toNat 0).toNat = fsum (r.take n.toNat) then .one (r.take n.toNat) (r.drop (n.toNat + 1)) else .bad) else .bad

theorem nx_1 (c : UInt8) : nx [c] = if c = 126 then .more else .bad := rfl
theorem nx_2 (c n : UInt8) (r : List UInt8) : nx (c :: n :: r) = if c = 126 ∧ n.toNat ≤ 60 then (if r.length < n.toNat + 1 then .more else if (r.getD n.toNat 0).toNat = fsum (r.take n.toNat) then .one (r.take n.toNat) (r.drop (n.toNat + 1)) else .bad) else .bad := rfl

theorem nx_less {s t r : List UInt8} (h : nx s = .one t r) : r.length < s.length := by
  match s, h with
  | [], h => cases h
  | [c], h =>
    rw [nx_1] at h
    split at h <;> cases h
  | c :: n :: q, h =>
    rw [nx_2] at h
    split at h
    · split at h
      · cases h
      · split at h
        · injection h with _ h2
          rw [← h2, List.length_drop]
          simp
          omega
        · cases h
    · cases h

/-- what lies behind a beginning changes nothing that was told of it -/
theorem nx_one {s t r : List UInt8} (z : List UInt8) (h : nx s = .one t r) : nx (s ++ z) = .one t (r ++ z) := by
  match s, h with
  | [], h => cases h
  | [c], h =>
    rw [nx_1] at h
    split at h <;> cases h
  | c :: n :: q, h =>
    rw [List.cons_append, List.cons_append]
    rw [nx_2] at h ⊢
    split at h
    · rename_i h1
      rw [if_pos h1]
      split at h
      · cases h
      · rename_i h2
        split at h
        · rename_i h3
          injection h with e1 e2
          have ht : (q ++ z).take n.toNat = q.take n.toNat := by rw [List.take_append_of_le_length (by omega)]
          have hg : (q ++ z).getD n.toNat 0 = q.getD n.toNat 0 := by rw [List.getD, List.getD, List.getElem?_append_left (by omega)]
          have hd : (q ++ z).drop (n.toNat + 1) = q.drop (n.toNat + 1) ++ z := by rw [List.drop_append_of_le_length (by omega)]
          rw [if_neg (by rw [List.length_append]; omega), hg, ht, if_pos h3, hd, e1, e2]
        · cases h
    · cases h

theorem nx_bad {s : List UInt8} (z : List UInt8) (h : nx s = .bad) : nx (s ++ z) = .bad := by
  match s, h with
  | [], h => cases h
  | [c], h =>
    rw [nx_1] at h
    split at h
    · cases h
    · rename_i hc
      match z with
      | [] => show nx [c] = _; rw [nx_1, if_neg hc]
      | b :: z' =>
        show nx (c :: b :: z') = _
        rw [nx_2, if_neg (fun e => hc e.1)]
  | c :: n :: q, h =>
    rw [List.cons_append, List.cons_append]
    rw [nx_2] at h ⊢
    split at h
    · rename_i h1
      rw [if_pos h1]
      split at h
      · cases h
      · rename_i h2
        split at h
        · cases h
        · rename_i h3
          have ht : (q ++ z).take n.toNat = q.take n.toNat := by rw [List.take_append_of_le_length (by omega)]
          have hg : (q ++ z).getD n.toNat 0 = q.getD n.toNat 0 := by rw [List.getD, List.getD, List.getElem?_append_left (by omega)]
          rw [if_neg (by rw [List.length_append]; omega), hg, ht, if_neg h3]
    · rename_i h1
      rw [if_neg h1]

/-- frames read: what is told, what is left, whether it is bad -/
def un : Nat → List UInt8 → List (List UInt8) × List UInt8 × Bool
  | 0, s => ([], s, false)
  | f + 1, s => match nx s with
    | .more => ([], s, false)
    | .bad => ([], [], true)
    | .one t r => (t :: (un f r).1, (un f r).2.1, (un f r).2.2)

theorem un_more {f : Nat} {s : List UInt8} (h : nx s = .more) : un (f + 1) s = ([], s, false) := by rw [un, h]
theorem un_bad {f : Nat} {s : List UInt8} (h : nx s = .bad) : un (f + 1) s = ([], [], true) := by rw [un, h]
theorem un_one {f : Nat} {s t r : List UInt8} (h : nx s = .one t r) : un (f + 1) s = (t :: (un f r).1, (un f r).2.1, (un f r).2.2) := by rw [un, h]

/-- deep enough is deep enough -/
theorem un_deep : ∀ (f g : Nat) (s : List UInt8), s.length < f → s.length < g → un f s = un g s
  | 0, _, _, h, _ => by omega
  | _ + 1, 0, _, _, h => by omega
  | f + 1, g + 1, s, hf, hg => by
    cases h : nx s with
    | more => rw [un_more h, un_more h]
    | bad => rw [un_bad h, un_bad h]
    | one t r =>
      have := nx_less h
      rw [un_one h, un_one h, un_deep f g r (by omega) (by omega)]

def unf (s : List UInt8) : List (List UInt8) × List UInt8 × Bool := un (s.length + 1) s
theorem unf_at {f : Nat} {s : List UInt8} (h : s.length < f) : un f s = unf s := un_deep f (s.length + 1) s h (by omega)
theorem unf_more {s : List UInt8} (h : nx s = .more) : unf s = ([], s, false) := un_more h
theorem unf_bad {s : List UInt8} (h : nx s = .bad) : unf s = ([], [], true) := un_bad h
theorem unf_one {s t r : List UInt8} (h : nx s = .one t r) : unf s = (t :: (unf r).1, (unf r).2.1, (unf r).2.2) := by
  have hl := nx_less h
  unfold unf
  rw [un_one h, un_deep s.length (r.length + 1) r hl (by omega)]

/-- what is left is the beginning of a frame, or nothing -/
theorem unf_rest : ∀ (n : Nat) (s : List UInt8), s.length < n → unf (unf s).2.1 = ([], (unf s).2.1, false)
  | 0, _, h => by omega
  | n + 1, s, hn => by
    cases h : nx s with
    | more => rw [unf_more h]; exact unf_more h
    | bad => rw [unf_bad h]; rfl
    | one t r =>
      have := nx_less h
      rw [unf_one h]
      exact unf_rest n r (by omega)

/-- what is read hangs on no cut -/
theorem unf_cut : ∀ (n : Nat) (s z : List UInt8), s.length < n → unf (s ++ z) = if (unf s).2.2 = true then ((unf s).1, [], true) else ((unf s).1 ++ (unf ((unf s).2.1 ++ z)).1, (unf ((unf s).2.1 ++ z)).2.1, (unf ((unf s).2.1 ++ z)).2.2)
  | 0, _, _, h => by omega
  | n + 1, s, z, hn => by
    cases h : nx s with
    | more =>
      rw [unf_more h, if_neg (by simp), List.nil_append]
    | bad =>
      rw [unf_bad h, if_pos rfl, unf_bad (nx_bad z h)]
    | one t r =>
      have := nx_less h
      rw [unf_one h, unf_one (nx_one z h), unf_cut n r z (by omega)]
      by_cases hb : (unf r).2.2 = true
      · rw [if_pos hb, if_pos hb]
      · rw [if_neg hb, if_neg hb]
        rfl

/-- a bad stream leaves nothing -/
theorem unf_left : ∀ (n : Nat) (s : List UInt8), s.length < n → (unf s).2.2 = true → (unf s).2.1 = []
  | 0, _, h, _ => by omega
  | n + 1, s, hn, hb => by
    cases h : nx s with
    | more => rw [unf_more h] at hb; cases hb
    | bad => rw [unf_bad h]
    | one t r =>
      have := nx_less h
      rw [unf_one h] at hb ⊢
      exact unf_left n r (by omega) hb

/-- a reader: what is left, what was told, whether it is bad -/
structure Rd where
  rest : List UInt8
  got : List (List UInt8)
  bad : Bool

/-- fed, with room for forty -/
def feed (r : Rd) (s : List UInt8) : Rd := if r.bad = true then r else ⟨(unf (r.rest ++ s)).2.1, (r.got ++ (unf (r.rest ++ s)).1).take 40, (unf (r.rest ++ s)).2.2⟩
def gd (r : Rd) : Prop := r.got.length ≤ 40 ∧ unf r.rest = ([], r.rest, false) ∧ (r.bad = true → r.rest = [])

theorem take_take40 (a b c : List (List UInt8)) : ((a ++ b).take 40 ++ c).take 40 = (a ++ (b ++ c)).take 40 := by
  rw [← List.append_assoc]
  by_cases h : 40 ≤ (a ++ b).length
  · rw [List.take_append_of_le_length (by rw [List.length_take]; omega), List.take_take, Nat.min_self, List.take_append_of_le_length h]
  · rw [List.take_of_length_le (by omega : (a ++ b).length ≤ 40)]

theorem feed_good {r : Rd} (h : gd r) (s : List UInt8) : gd (feed r s) := by
  unfold feed
  by_cases hb : r.bad = true
  · rw [if_pos hb]; exact h
  · rw [if_neg hb]
    refine ⟨by show (List.take 40 _).length ≤ 40; rw [List.length_take]; omega, unf_rest ((r.rest ++ s).length + 1) _ (by omega), fun h' => unf_left ((r.rest ++ s).length + 1) _ (by omega) h'⟩

/-- two pieces fed one after the other are fed as one -/
theorem feed_two {r : Rd} (s z : List UInt8) : feed (feed r s) z = feed r (s ++ z) := by
  unfold feed
  by_cases hb : r.bad = true
  · rw [if_pos hb, if_pos hb, if_pos hb]
  · rw [if_neg hb, if_neg hb]
    have hc := unf_cut ((r.rest ++ s).length + 1) (r.rest ++ s) z (by omega)
    rw [List.append_assoc] at hc
    rw [hc]
    by_cases h2 : (unf (r.rest ++ s)).2.2 = true
    · rw [if_pos h2, if_pos h2, unf_left ((r.rest ++ s).length + 1) _ (by omega) h2, h2]
    · rw [if_neg h2, if_neg h2, take_take40]

/-- fed piece by piece -/
def feeds (r : Rd) : List (List UInt8) → Rd
  | [] => r
  | s :: l => feeds (feed r s) l
theorem feeds_good {r : Rd} (h : gd r) : ∀ l, gd (feeds r l) := by
  intro l
  induction l generalizing r with
  | nil => exact h
  | cons s l ih => exact ih (feed_good h s)

/-- all pieces at once give the same reader -/
theorem feeds_all : ∀ (l : List (List UInt8)) (r : Rd) (s : List UInt8), feeds (feed r s) l = feed r (s ++ l.flatten)
  | [], r, s => by rw [List.flatten_nil, List.append_nil]; rfl
  | z :: l, r, s => by
    show feeds (feed (feed r s) z) l = _
    rw [feed_two, feeds_all l r (s ++ z), List.flatten_cons, List.append_assoc]

theorem fsumN_lt : ∀ (l : List UInt8) (h : Nat), h < 251 → fsumN h l < 251
  | [], _, h => h
  | b :: l, h, _ => fsumN_lt l _ (by omega)
theorem fsum_lt (l : List UInt8) : fsum l < 251 := fsumN_lt l 1 (by omega)
theorem fsumN_snoc : ∀ (l : List UInt8) (h : Nat) (b : UInt8), fsumN h (l ++ [b]) = (31 * fsumN h l + b.toNat) % 251
  | [], _, _ => rfl
  | _ :: l, _, b => fsumN_snoc l _ b

/-- a frame -/
def frame (t : List UInt8) : List UInt8 := 126 :: UInt8.ofNat t.length :: (t ++ [UInt8.ofNat (fsum t)])

theorem u8_nat {n : Nat} (h : n < 256) : (UInt8.ofNat n).toNat = n := by
  rw [UInt8.toNat_ofNat']
  omega

theorem frame_len (t : List UInt8) : (frame t).length = t.length + 3 := by
  unfold frame
  simp

theorem frame_nx {t : List UInt8} (h : t.length ≤ 60) (z : List UInt8) : nx (frame t ++ z) = .one t z := by
  show nx (126 :: UInt8.ofNat t.length :: ((t ++ [UInt8.ofNat (fsum t)]) ++ z)) = _
  have e0 : (UInt8.ofNat t.length).toNat = t.length := u8_nat (by omega)
  have e1 : ((t ++ [UInt8.ofNat (fsum t)]) ++ z).take t.length = t := by rw [List.append_assoc, List.take_left]
  have e2 : (((t ++ [UInt8.ofNat (fsum t)]) ++ z).getD t.length 0).toNat = fsum t := by
    rw [List.append_assoc, List.getD, List.getElem?_append_right (Nat.le_refl _), Nat.sub_self]
    exact u8_nat (by have := fsum_lt t; omega)
  have e3 : ((t ++ [UInt8.ofNat (fsum t)]) ++ z).drop (t.length + 1) = z := by
    have : (t ++ [UInt8.ofNat (fsum t)]).length = t.length + 1 := by simp
    rw [← this, List.drop_left]
  rw [nx_2, e0, if_pos ⟨rfl, h⟩, if_neg (by simp), e1, e2, e3, if_pos rfl]

/-- what is told is a frame's text: the bytes are its frame -/
theorem nx_frame {s t r : List UInt8} (h : nx s = .one t r) : t.length ≤ 60 ∧ s = frame t ++ r := by
  match s, h with
  | [], h => cases h
  | [c], h =>
    rw [nx_1] at h
    split at h <;> cases h
  | c :: n :: q, h =>
    rw [nx_2] at h
    split at h
    · rename_i h1
      split at h
      · cases h
      · rename_i h2
        split at h
        · rename_i h3
          injection h with e1 e2
          have hl : t.length = n.toNat := by rw [← e1, List.length_take]; omega
          refine ⟨by omega, ?_⟩
          have hn : UInt8.ofNat t.length = n := by rw [hl]; exact UInt8.ofNat_toNat
          have hq : q = q.take n.toNat ++ (q.getD n.toNat 0 :: q.drop (n.toNat + 1)) := by
            have h4 : n.toNat < q.length := by omega
            have : q.getD n.toNat 0 = q[n.toNat] := by simp [List.getD, List.getElem?_eq_getElem h4]
            rw [this, List.getElem_cons_drop, List.take_append_drop]
          have hs : q.getD n.toNat 0 = UInt8.ofNat (fsum t) := by rw [← e1, ← h3]; exact UInt8.ofNat_toNat.symm
          rw [h1.1]
          show _ = 126 :: UInt8.ofNat t.length :: ((t ++ [UInt8.ofNat (fsum t)]) ++ r)
          rw [hn, List.append_assoc, List.singleton_append, ← hs, ← e2]
          conv => lhs; rw [hq, e1]
        · cases h
    · cases h

/-- a frame comes back as it stood -/
theorem frame_back {t : List UInt8} (h : t.length ≤ 60) : unf (frame t) = ([t], [], false) := by
  have h1 := frame_nx h []
  rw [List.append_nil] at h1
  rw [unf_one h1]
  rfl

/-- frames come back, and what follows them is read as it stands -/
theorem frames_back : ∀ (l : List (List UInt8)) (z : List UInt8), (∀ t ∈ l, t.length ≤ 60) → unf ((l.map frame).flatten ++ z) = (l ++ (unf z).1, (unf z).2.1, (unf z).2.2)
  | [], z, _ => rfl
  | t :: l, z, h => by
    rw [List.map_cons, List.flatten_cons, List.append_assoc, unf_one (frame_nx (h t (by simp)) _), frames_back l z (fun x hx => h x (by simp [hx]))]
    rfl

end Go.Proofs.Ytcpjbacjmmbabaa.Frm
