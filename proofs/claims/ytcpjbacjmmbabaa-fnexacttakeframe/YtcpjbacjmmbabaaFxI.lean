/- What is read of a stream, told in texts: the model's way and the program's way tell the same. -/
import Derived.Test.YtcpjbacjmmbabaaFxH
namespace Go.Proofs.Ytcpjbacjmmbabaa
open Go.RowKit Plain Tpc Frm

/-- the texts that are told -/
def unT (l : List UInt8) : List ByteArray := (unf l).1.map tx
def unR (l : List UInt8) : List UInt8 := (unf l).2.1
def unB (l : List UInt8) : Bool := (unf l).2.2

theorem tkT_map (L : List (List UInt8)) (r : List UInt8) (bad : Bool) (x : UInt8) : tkT (L.map tx) r bad x = ((tkb ⟨L, r, bad⟩ x).texts.map tx, (tkb ⟨L, r, bad⟩ x).rest, (tkb ⟨L, r, bad⟩ x).bad) := by
  unfold tkT tkb tl
  dsimp only
  by_cases h1 : bad = true
  · rw [if_pos h1, if_pos h1]
    subst h1
    rfl
  · rw [if_neg h1, if_neg h1]
    by_cases h2 : hdOk (r ++ [x]) = false
    · rw [if_pos h2, if_pos h2]
    · rw [if_neg h2, if_neg h2]
      by_cases h3 : allOk (r ++ [x]) = true
      · rw [if_pos h3, if_pos h3]
        by_cases h4 : r ++ [x] = frame (mid (r ++ [x]))
        · rw [if_pos h4, if_pos h4]
          simp
        · rw [if_neg h4, if_neg h4]
      · rw [if_neg h3, if_neg h3]

theorem tksT_map : ∀ (l : List UInt8) (L : List (List UInt8)) (r : List UInt8) (bad : Bool), tksT (L.map tx) r bad l = ((tks ⟨L, r, bad⟩ l).texts.map tx, (tks ⟨L, r, bad⟩ l).rest, (tks ⟨L, r, bad⟩ l).bad)
  | [], _, _, _ => rfl
  | x :: l, L, r, bad => by
    rw [tksT, tkT_map]
    exact tksT_map l _ _ _

/-- all that is read: from what may still become a frame on -/
theorem tksT_all (r l : List UInt8) (h : nx r = .more) : tksT [] r false l = (unT (r ++ l), unR (r ++ l), unB (r ++ l)) := by
  have h1 := tksT_map l [] r false
  rw [tks_all l r [] h] at h1
  exact h1

theorem tksT_bad : ∀ (l : List UInt8) (T : List ByteArray) (r : List UInt8), tksT T r true l = (T, r, true)
  | [], _, _ => rfl
  | _ :: l, T, r => tksT_bad l T r

theorem unf_nil : unf ([] : List UInt8) = ([], [], false) := unf_more rfl

/-- what is told of a text: few texts, each short -/
theorem unT_len (l : List UInt8) : 3 * (unT l).length + (unR l).length ≤ l.length := by
  have := (unf_texts (l.length + 1) l (by omega)).2
  unfold unT unR
  rw [List.length_map]
  exact this
theorem unT_short (l : List UInt8) : ∀ t ∈ unT l, t.size ≤ 60 := by
  intro t ht
  obtain ⟨x, hx, rfl⟩ := List.mem_map.1 ht
  rw [tx_size]
  exact (unf_texts (l.length + 1) l (by omega)).1 x hx
theorem unR_short (l : List UInt8) : (unR l).length ≤ 62 := more_short (unf_nx (l.length + 1) l (by omega))

/-! ### the next step, by the bytes of a text -/
theorem ul_two {q : ByteArray} (h : 2 ≤ q.size) : ∃ c n r, ul q = c :: n :: r ∧ bt q 0 = c.toNat ∧ bt q 1 = n.toNat ∧ r.length + 2 = q.size := by
  have hl := ul_len q
  match hq : ul q, hl with
  | [], hl => simp at hl; omega
  | [c], hl => simp at hl; omega
  | c :: n :: r, hl =>
    refine ⟨c, n, r, rfl, ?_, ?_, by simpa using hl⟩
    · rw [bt_ul, hq]; rfl
    · rw [bt_ul, hq]; rfl

theorem toNat126 (c : UInt8) : c.toNat = 126 ↔ c = 126 := by
  constructor
  · intro h
    apply UInt8.toNat_inj.1
    exact h
  · rintro rfl; rfl

theorem nx_empty {q : ByteArray} (h : q.size = 0) : nx (ul q) = .more := by
  have : ul q = [] := List.length_eq_zero_iff.1 (by rw [ul_len]; exact h)
  rw [this]; rfl

theorem nx_one1 {q : ByteArray} (h : q.size = 1) : ∃ c, ul q = [c] ∧ bt q 0 = c.toNat := by
  have hl := ul_len q
  match hq : ul q, hl with
  | [], hl => simp at hl; omega
  | [c], _ => exact ⟨c, rfl, by rw [bt_ul, hq]; rfl⟩
  | c :: n :: r, hl => simp at hl; omega

theorem nx_bad0 {q : ByteArray} (h : 0 < q.size) (hb : bt q 0 ≠ 126) : nx (ul q) = .bad := by
  by_cases h1 : q.size = 1
  · obtain ⟨c, hc, hcb⟩ := nx_one1 h1
    rw [hc, nx_1, if_neg (fun e => hb (by rw [hcb, e]; rfl))]
  · obtain ⟨c, n, r, hc, hcb, _, _⟩ := ul_two (q := q) (by omega)
    rw [hc, nx_2, if_neg (fun e => hb (by rw [hcb, e.1]; rfl))]

theorem nx_bad1 {q : ByteArray} (h : 2 ≤ q.size) (hb : 60 < bt q 1) : nx (ul q) = .bad := by
  obtain ⟨c, n, r, hc, _, hn, _⟩ := ul_two h
  rw [hc, nx_2, if_neg (fun e => by omega)]

theorem nx_more1 {q : ByteArray} (h : q.size = 1) (hb : bt q 0 = 126) : nx (ul q) = .more := by
  obtain ⟨c, hc, hcb⟩ := nx_one1 h
  rw [hc, nx_1, if_pos ((toNat126 c).1 (by omega))]

theorem nx_more2 {q : ByteArray} (h : 2 ≤ q.size) (hb : bt q 0 = 126) (h1 : bt q 1 ≤ 60) (h2 : q.size < bt q 1 + 3) : nx (ul q) = .more := by
  obtain ⟨c, n, r, hc, hcb, hn, hr⟩ := ul_two h
  rw [hc, nx_2, if_pos ⟨(toNat126 c).1 (by omega), by omega⟩, if_pos (by omega)]

/-- the text of a whole frame -/
def cutM (q : ByteArray) : ByteArray := q.extract 2 (2 + bt q 1)
theorem cutM_size {q : ByteArray} (h : bt q 1 + 3 ≤ q.size) : (cutM q).size = bt q 1 := by
  unfold cutM
  rw [ByteArray.size_extract]
  omega

theorem nx_whole {q : ByteArray} (h2 : bt q 1 + 3 ≤ q.size) (hb : bt q 0 = 126) (h1 : bt q 1 ≤ 60) :
    (frm (cutM q) = q.extract 0 (bt q 1 + 3) → nx (ul q) = .one (ul (cutM q)) (ul (q.extract (bt q 1 + 3) q.size))) ∧ (frm (cutM q) ≠ q.extract 0 (bt q 1 + 3) → nx (ul q) = .bad) := by
  obtain ⟨c, n, r, hc, hcb, hn, hr⟩ := ul_two (q := q) (by omega)
  have hcu : ul (cutM q) = r.take n.toNat := by
    unfold cutM
    rw [ul_cut, hc, hn, Nat.add_comm 2]
    rfl
  have hd : ul (q.extract (bt q 1 + 3) q.size) = r.drop (n.toNat + 1) := by
    rw [ul_cut, List.take_of_length_le (Nat.le_of_eq (ul_len q)), hc, hn]
    rfl
  have h0 : ul (q.extract 0 (bt q 1 + 3)) = c :: n :: r.take (n.toNat + 1) := by
    rw [ul_cut, hc, hn]
    rfl
  have hx : nx (ul q) = if (r.getD n.toNat 0).toNat = fsum (r.take n.toNat) then .one (r.take n.toNat) (r.drop (n.toNat + 1)) else .bad := by
    rw [hc, nx_2, if_pos ⟨(toNat126 c).1 (by omega), by omega⟩, if_neg (by omega)]
  have hlt : n.toNat < r.length := by omega
  have ht : r.take (n.toNat + 1) = r.take n.toNat ++ [r.getD n.toNat 0] := by
    rw [List.take_add_one, List.getD_eq_getElem?_getD, List.getElem?_eq_getElem hlt]
    rfl
  have hfr : frame (r.take n.toNat) = c :: n :: (r.take n.toNat ++ [UInt8.ofNat (fsum (r.take n.toNat))]) := by
    unfold frame
    rw [show (r.take n.toNat).length = n.toNat by rw [List.length_take]; omega, UInt8.ofNat_toNat, (toNat126 c).1 (by omega)]
  have hiff : frm (cutM q) = q.extract 0 (bt q 1 + 3) ↔ (r.getD n.toNat 0).toNat = fsum (r.take n.toNat) := by
    constructor
    · intro e
      have e2 := congrArg ul e
      rw [ul_frm, hcu, h0, hfr, ht] at e2
      simp only [List.cons.injEq, true_and] at e2
      have e3 := List.append_cancel_left e2
      simp only [List.cons.injEq, and_true] at e3
      rw [← e3]
      exact u8_nat (by have := fsum_lt (r.take n.toNat); omega)
    · intro e
      apply ul_inj
      rw [ul_frm, hcu, h0, hfr, ht, ← e, UInt8.ofNat_toNat]
  refine ⟨fun e => ?_, fun e => ?_⟩
  · rw [hx, if_pos (hiff.1 e), hcu, hd]
  · rw [hx, if_neg (fun e2 => e (hiff.2 e2))]

theorem unT_more {l : List UInt8} (h : nx l = .more) : unT l = [] ∧ unR l = l ∧ unB l = false := by unfold unT unR unB; rw [unf_more h]; exact ⟨rfl, rfl, rfl⟩
theorem unT_bad {l : List UInt8} (h : nx l = .bad) : unT l = [] ∧ unR l = [] ∧ unB l = true := by unfold unT unR unB; rw [unf_bad h]; exact ⟨rfl, rfl, rfl⟩
theorem unT_one {l t r : List UInt8} (h : nx l = .one t r) : unT l = tx t :: unT r ∧ unR l = unR r ∧ unB l = unB r := by unfold unT unR unB; rw [unf_one h]; exact ⟨rfl, rfl, rfl⟩

end Go.Proofs.Ytcpjbacjmmbabaa
