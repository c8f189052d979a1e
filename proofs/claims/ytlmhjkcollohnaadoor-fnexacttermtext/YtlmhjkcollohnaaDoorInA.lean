/- Terms that are instances of others: matched tree by tree. -/
import Derived.Test.YtlmhjkcollohnaaDoorTmB
import Derived.Test.YtlmhjkcollohnaaDoorVrA
namespace Go.Proofs.YtlmhjkcollohnaaDoor.Trm
open Plain Sch

mutual
theorem fl_inj : ∀ (x y : TT) (r s : List Ce), fl x ++ r = fl y ++ s → x = y ∧ r = s
  | .mk v n ks, .mk v' n' ks', r, s, h => by
    rw [fl, fl, List.cons_append, List.cons_append, List.cons.injEq] at h
    obtain ⟨h1, h2⟩ := h
    simp only [Ce.mk.injEq] at h1
    obtain ⟨rfl, rfl, h3⟩ := h1
    obtain ⟨rfl, rfl⟩ := flL_inj ks ks' r s (by omega) h2
    exact ⟨rfl, rfl⟩
theorem flL_inj : ∀ (xs ys : List TT) (r s : List Ce), xs.length = ys.length → flL xs ++ r = flL ys ++ s → xs = ys ∧ r = s
  | [], [], r, s, _, h => ⟨rfl, by simpa [flL] using h⟩
  | [], _ :: _, _, _, hl, _ => by simp at hl
  | _ :: _, [], _, _, hl, _ => by simp at hl
  | x :: xs, y :: ys, r, s, hl, h => by
    rw [flL, flL, List.append_assoc, List.append_assoc] at h
    obtain ⟨rfl, h2⟩ := fl_inj x y _ _ h
    obtain ⟨rfl, h3⟩ := flL_inj xs ys r s (by simpa using hl) h2
    exact ⟨rfl, h3⟩
end

theorem fl_eq {x y : TT} (h : fl x = fl y) : x = y := (fl_inj x y [] [] (by rw [h])).1

/-- terms that stand for variables -/
def upd (s : Nat → Option TT) (i : Nat) (t : TT) : Nat → Option TT := fun k => if k = i then some t else s k

mutual
/-- what stands for the variables of the second when it is made the first -/
def mt2 : TT → TT → (Nat → Option TT) → Option (Nat → Option TT)
  | a, .mk v n ks, s =>
    if 0 < v then
      match s (v.toNat - 1) with
      | some t => if fl t = fl a then some s else none
      | none => some (upd s (v.toNat - 1) a)
    else if a.v = v ∧ a.name = n ∧ a.kids.length = ks.length then mtL a.kids ks s else none
def mtL : List TT → List TT → (Nat → Option TT) → Option (Nat → Option TT)
  | x :: xs, y :: ys, s =>
    match mt2 x y s with
    | none => none
    | some s' => mtL xs ys s'
  | [], [], s => some s
  | _, _, _ => none
end

theorem mtL_cons (x y : TT) (xs ys : List TT) (s : Nat → Option TT) : mtL (x :: xs) (y :: ys) s = (mt2 x y s).bind fun s' => mtL xs ys s' := by
  rw [mtL]
  cases mt2 x y s <;> rfl

theorem mtL_append : ∀ (xs ys us bs : List TT) (s : Nat → Option TT), xs.length = ys.length → mtL (xs ++ us) (ys ++ bs) s = (mtL xs ys s).bind fun s' => mtL us bs s'
  | [], [], us, bs, s, _ => by rw [mtL]; rfl
  | [], _ :: _, _, _, _, h => by simp at h
  | _ :: _, [], _, _, _, h => by simp at h
  | x :: xs, y :: ys, us, bs, s, h => by
    rw [List.cons_append, List.cons_append, mtL_cons, mtL_cons]
    cases hm : mt2 x y s with
    | none => rfl
    | some s' =>
      show mtL (xs ++ us) (ys ++ bs) s' = _
      rw [mtL_append xs ys us bs s' (by simpa using h)]
      rfl

theorem mt2_var (a : TT) (v : Int) (n : ByteArray) (ks : List TT) (s : Nat → Option TT) (hv : 0 < v) : mt2 a (.mk v n ks) s = match s (v.toNat - 1) with
      | some t => if fl t = fl a then some s else none
      | none => some (upd s (v.toNat - 1) a) := by
  rw [mt2, if_pos hv]

theorem mt2_fn (a : TT) (v : Int) (n : ByteArray) (ks : List TT) (s : Nat → Option TT) (hv : ¬ 0 < v) : mt2 a (.mk v n ks) s = if a.v = v ∧ a.name = n ∧ a.kids.length = ks.length then mtL a.kids ks s else none := by
  rw [mt2, if_neg hv]

theorem mt2_old (a : TT) (v : Int) (n : ByteArray) (ks : List TT) (s : Nat → Option TT) (hv : 0 < v) (t : TT) (h : s (v.toNat - 1) = some t) : mt2 a (.mk v n ks) s = if fl t = fl a then some s else none := by
  rw [mt2_var a v n ks s hv, h]

theorem mt2_new (a : TT) (v : Int) (n : ByteArray) (ks : List TT) (s : Nat → Option TT) (hv : 0 < v) (h : s (v.toNat - 1) = none) : mt2 a (.mk v n ks) s = some (upd s (v.toNat - 1) a) := by
  rw [mt2_var a v n ks s hv, h]

theorem flL_append : ∀ (xs ys : List TT), flL (xs ++ ys) = flL xs ++ flL ys
  | [], ys => by simp [flL]
  | x :: xs, ys => by rw [List.cons_append, flL, flL, flL_append xs ys, List.append_assoc]

theorem fl_pos (x : TT) : 0 < (fl x).length := by obtain ⟨v, n, ks⟩ := x; simp [fl]

theorem flL_len : ∀ xs : List TT, xs.length ≤ (flL xs).length
  | [] => by simp
  | x :: xs => by rw [flL, List.length_append, List.length_cons]; have := fl_pos x; have := flL_len xs; omega

/-- two trees are the same just if their cells are -/
theorem fl_same (v : Int) (n : ByteArray) (ks : List TT) (v' : Int) (n' : ByteArray) (ks' : List TT) : (fl (.mk v n ks) = fl (.mk v' n' ks')) ↔ (v = v' ∧ n = n' ∧ ks.length = ks'.length ∧ flL ks = flL ks') := by
  rw [fl, fl, List.cons.injEq]
  constructor
  · rintro ⟨h1, h2⟩
    simp only [Ce.mk.injEq] at h1
    exact ⟨h1.1, h1.2.1, by omega, h2⟩
  · rintro ⟨rfl, rfl, h3, h4⟩
    exact ⟨by rw [h3], h4⟩

theorem flL_same (x y : TT) (xs ys : List TT) : (flL (x :: xs) = flL (y :: ys)) ↔ (fl x = fl y ∧ flL xs = flL ys) := by
  rw [flL, flL]
  constructor
  · intro h
    obtain ⟨rfl, h2⟩ := fl_inj x y _ _ h
    exact ⟨rfl, h2⟩
  · rintro ⟨h1, h2⟩
    rw [h1, h2]

/-- what IsInstance tells -/
def iof (A B : List Ce) : Bool × Bool :=
  if gt A && gt B then
    match tre A, tre B with
    | some x, some y => ((mt2 x y fun _ => none).isSome, true)
    | _, _ => (false, true)
  else (false, false)

theorem iof_no {A B : List Ce} (h : (gt A && gt B) = false) : iof A B = (false, false) := by unfold iof; rw [h]; rfl
theorem iof_yes {A B : List Ce} {x y : TT} (h1 : gt A = true) (h2 : gt B = true) (h3 : tre A = some x) (h4 : tre B = some y) : iof A B = ((mt2 x y fun _ => none).isSome, true) := by
  unfold iof
  rw [h1, h2, h3, h4]
  rfl

end Go.Proofs.YtlmhjkcollohnaaDoor.Trm
