/- The model reads a term. -/
import Derived.Test.YtlmhjkcollohnaaDoorTmE
import Derived.Test.YtlmhjkcollohnaaDoorGd
namespace Go.Proofs.YtlmhjkcollohnaaDoor
open Go.RowKit Plain Sch Trm

set_option maxRecDepth 100000 in
set_option maxHeartbeats 1000000 in
theorem l6Name_any (s : ByteArray) (w : World) (hs : s.size ≤ maxLen) :
    Calls Tryd.prog 100 #[.string s] w fun e w' => e = .returned (.bool (okName s)) ∧ w' = w := by
  have hs' : (s.size : Int) ≤ 9223372036854775807 := by unfold maxLen at hs; omega
  unfold okName
  by_cases hn : isName s = true
  · rw [hn]
    by_cases h4 : s.size ≤ 4
    · have h4' : (s.size : Int) ≤ 4 := by omega
      have hd : (true && decide (s.size ≤ 4)) = true := by simpa using h4
      rw [hd]
      clear hd h4
      go_enter Tryd.func100, Tryd.ntmps100
      go_wp2_with fail
      refine (l2Name_any s _ hs).mono ?_
      rintro e w1 ⟨rfl, rfl⟩
      rw [hn]
      go_wp2
      go_ret
      exact ⟨rfl, rfl⟩
    · have h4' : decide ((s.size : Int) ≤ 4) = false := by simp; omega
      have hd : (true && decide (s.size ≤ 4)) = false := by simpa using h4
      rw [hd]
      clear hd h4
      go_enter Tryd.func100, Tryd.ntmps100
      go_wp2_with fail
      refine (l2Name_any s _ hs).mono ?_
      rintro e w1 ⟨rfl, rfl⟩
      rw [hn]
      go_wp2
      go_ret
      exact ⟨rfl, rfl⟩
  · have hn' : isName s = false := by simpa using hn
    rw [hn', Bool.false_and]
    go_enter Tryd.func100, Tryd.ntmps100
    go_wp2_with fail
    refine (l2Name_any s _ hs).mono ?_
    rintro e w1 ⟨rfl, rfl⟩
    rw [hn']
    go_wp2
    go_ret
    exact ⟨rfl, rfl⟩

/-- what reading a term tells -/
def RdOut (f : Nat) (T : List Ce) (a : Nat) (w : World) (e : Ending) (w' : World) : Prop :=
  ((∃ x r ac lc cc, rdT f (T.drop a) = some (x, r) ∧ e = .returned (.tuple #[.agg #[.int .i64 x.v, .string x.name, .slice ac lc cc], .int .i64 ((T.length - r.length : Nat) : Int)]) ∧ TKids f w' (fun g => w.heap.size ≤ g ∧ g < w'.heap.size) (.slice ac lc cc) x.kids) ∨
    (rdT f (T.drop a) = none ∧ e = .returned (.tuple #[.agg #[.int .i64 0, .string ⟨#[]⟩, .slice none 0 0], .int .i64 0]))) ∧ Below w.heap.size w w'

theorem drop_ceF (T : List Ce) (i : Nat) (h : i < T.length) : T.drop i = ce T i :: T.drop (i + 1) := by
  rw [List.drop_eq_getElem_cons h]
  simp [ce, List.getD, h]

theorem bnil {s : ByteArray} (h : s.toList = []) : s = ⟨#[]⟩ := by
  apply ByteArray.ext
  have : s.data.toList = [] := by rw [← ByteArray.toList_eq]; exact h
  exact Array.toList_eq_nil_iff.1 this

set_option maxRecDepth 100000 in
set_option maxHeartbeats 4000000 in
theorem l6Read_var (f : Nat) (T : List Ce) (g o cap a : Nat) (w : World) (hlc : T.length ≤ cap) (hcm : cap ≤ 9223372036854775807) (ha : a < T.length) (c : Ce) (hc : T.drop a = c :: T.drop (a + 1)) (hci : CeIn w g (o + a * 3) c) (hg : g < w.heap.size) (hv : ¬ c.var = 0) :
    Calls Tryd.prog 75 #[.slice (some ⟨g, o, none⟩) T.length cap, .int .i64 a] w (RdOut (f + 1) T a w) := by
  obtain ⟨var, name, many⟩ := c
  obtain ⟨c0, c1, c2⟩ := hci
  dsimp only at c0 c1 c2 hv
  have hv' : (var == 0) = false := by simpa using hv
  have ha' : ¬ ((T.length : Int) ≤ (a : Int)) := by omega
  have ha1 : (a : Int) < (T.length : Int) := by omega
  have hR : rdT (f + 1) (T.drop a) = if okVar ⟨var, name, many⟩ then some (.mk var name [], T.drop (a + 1)) else none := by
    rw [hc, rdT]
    unfold okCe
    rw [if_neg (show ¬ (⟨var, name, many⟩ : Ce).var = 0 from hv)]
    by_cases hok : okVar ⟨var, name, many⟩ = true
    · rw [if_pos hok, if_pos hok]
      have : many = 0 := by unfold okVar at hok; simp at hok; exact hok.2
      subst this
      simp [rdN]
    · rw [if_neg hok, if_neg hok]
  have HR : Hid (rdT (f + 1) (T.drop a) = if okVar ⟨var, name, many⟩ then some (.mk var name [], T.drop (a + 1)) else none) := hR
  have bad : ∀ w', okVar ⟨var, name, many⟩ = false → Below w.heap.size w w' → RdOut (f + 1) T a w (.returned (.tuple #[.agg #[.int .i64 0, .string ⟨#[]⟩, .slice none 0 0], .int .i64 0])) w' := fun w' h hb => ⟨.inr ⟨by rw [HR.out, h]; rfl, rfl⟩, hb⟩
  have BAD : Hid (∀ w', okVar ⟨var, name, many⟩ = false → Below w.heap.size w w' → RdOut (f + 1) T a w (.returned (.tuple #[.agg #[.int .i64 0, .string ⟨#[]⟩, .slice none 0 0], .int .i64 0])) w') := bad
  clear hR bad hc hv
  by_cases hin : 1 ≤ var ∧ var ≤ 6
  · have hd : decide (1 ≤ var ∧ var ≤ 6) = true := by simpa using hin
    by_cases hne : name.toList = []
    · obtain rfl := bnil hne
      clear hne
      by_cases hm : many = 0
      · subst hm
        have hok : okVar ⟨var, ⟨#[]⟩, 0⟩ = true := by unfold okVar; simp [hin.1, hin.2]
        have HR2 : Hid (rdT (f + 1) (T.drop a) = some (.mk var ⟨#[]⟩ [], T.drop (a + 1))) := by show _ = _; rw [HR.out, if_pos hok]
        clear HR hok hin BAD
        go_enter Tryd.func75, Tryd.ntmps75
        go_wp2_with fail
        refine (l1In_any var 1 6 _).mono ?_
        rintro e w1 ⟨rfl, rfl⟩
        rw [hd]
        go_wp2
        (try simp only [Exit.inBlock, Exit.then])
        refine bodyPost_ret (v := .tuple #[.agg #[.int .i64 var, .string ⟨#[]⟩, .slice none 0 0], .int .i64 ((a : Int) + 1)]) ?_ rfl ⟨.inl ⟨.mk var ⟨#[]⟩ [], T.drop (a + 1), none, 0, 0, HR2.out, ?_, TKids.none _ _ _⟩, ?_⟩
        · rw [results_cell_tmp rfl]
          go_simp
        · have e1 : ((T.length - (T.drop (a + 1)).length : Nat) : Int) = (a : Int) + 1 := by rw [List.length_drop]; omega
          rw [e1]
          rfl
        · repeat' (first | exact Below.refl _ _ | refine Below.alloc ?_ (by simp <;> omega) _ | refine Below.setCell ?_ (by simp <;> omega) _)
      · have hm' : (many == 0) = false := by simpa using hm
        have hok : Hid (okVar ⟨var, ⟨#[]⟩, many⟩ = false) := by show _ = _; unfold okVar; simp [hm]
        clear HR hin hm
        go_enter Tryd.func75, Tryd.ntmps75
        go_wp2_with fail
        refine (l1In_any var 1 6 _).mono ?_
        rintro e w1 ⟨rfl, rfl⟩
        rw [hd]
        go_wp2
        (try simp only [Exit.inBlock, Exit.then])
        refine bodyPost_ret (v := .tuple #[.agg #[.int .i64 0, .string ⟨#[]⟩, .slice none 0 0], .int .i64 0]) ?_ rfl (BAD.out _ hok.out ?_)
        · rw [results_cell_tmp rfl]
          go_simp
        · repeat' (first | exact Below.refl _ _ | refine Below.alloc ?_ (by simp <;> omega) _ | refine Below.setCell ?_ (by simp <;> omega) _)
    · have hne' : name.toList.isEmpty = false := by simpa using hne
      have hok : Hid (okVar ⟨var, name, many⟩ = false) := by
        show _ = _
        have : ¬ name = ⟨#[]⟩ := fun e => hne (by rw [e]; simp)
        unfold okVar; simp [this]
      clear HR hin hne
      go_enter Tryd.func75, Tryd.ntmps75
      go_wp2_with fail
      refine (l1In_any var 1 6 _).mono ?_
      rintro e w1 ⟨rfl, rfl⟩
      rw [hd]
      go_wp2
      (try simp only [Exit.inBlock, Exit.then])
      refine bodyPost_ret (v := .tuple #[.agg #[.int .i64 0, .string ⟨#[]⟩, .slice none 0 0], .int .i64 0]) ?_ rfl (BAD.out _ hok.out ?_)
      · rw [results_cell_tmp rfl]
        go_simp
      · repeat' (first | exact Below.refl _ _ | refine Below.alloc ?_ (by simp <;> omega) _ | refine Below.setCell ?_ (by simp <;> omega) _)
  · have hd : decide (1 ≤ var ∧ var ≤ 6) = false := by simpa using hin
    have hok : Hid (okVar ⟨var, name, many⟩ = false) := by
      show _ = _
      unfold okVar
      by_cases h1 : 1 ≤ var
      · have h6 : ¬ var ≤ 6 := fun h => hin ⟨h1, h⟩
        simp [h6]
      · simp [h1]
    clear HR hin
    go_enter Tryd.func75, Tryd.ntmps75
    go_wp2_with fail
    refine (l1In_any var 1 6 _).mono ?_
    rintro e w1 ⟨rfl, rfl⟩
    rw [hd]
    go_wp2
    (try simp only [Exit.inBlock, Exit.then])
    refine bodyPost_ret (v := .tuple #[.agg #[.int .i64 0, .string ⟨#[]⟩, .slice none 0 0], .int .i64 0]) ?_ rfl (BAD.out _ hok.out ?_)
    · rw [results_cell_tmp rfl]
      go_simp
    · repeat' (first | exact Below.refl _ _ | refine Below.alloc ?_ (by simp <;> omega) _ | refine Below.setCell ?_ (by simp <;> omega) _)

end Go.Proofs.YtlmhjkcollohnaaDoor
