/- The model's parts by number. The model's subtypes of trees. -/
import Derived.Test.YtpopjapcgcnnfaaGd
import Derived.Laws.ResultCell
import Derived.Deep.RegionWith
namespace Go.Proofs.Ytpopjapcgcnnfaa
open Go.RowKit Plain Sch

def byNo : List Tr → Int → Option Tr
  | [], _ => none
  | x :: l, no => if x.no = no then some x else byNo l no

theorem byNo_at : ∀ (l : List Tr) (no : Int) (i : Nat) (x : Tr), (∀ j y, j < i → l[j]? = some y → y.no ≠ no) → l[i]? = some x → x.no = no → byNo l no = some x
  | [], _, i, x, _, h, _ => by simp at h
  | a :: l, no, 0, x, _, h, hx => by
    simp at h; subst h
    rw [byNo, if_pos hx]
  | a :: l, no, i + 1, x, hall, h, hx => by
    rw [byNo, if_neg (hall 0 a (by omega) rfl)]
    exact byNo_at l no i x (fun j y hj hy => hall (j + 1) y (by omega) (by simpa using hy)) (by simpa using h) hx

theorem byNo_none : ∀ (l : List Tr) (no : Int), (∀ j y, j < l.length → l[j]? = some y → y.no ≠ no) → byNo l no = none
  | [], _, _ => rfl
  | a :: l, no, hall => by
    rw [byNo, if_neg (hall 0 a (by simp) rfl)]
    exact byNo_none l no (fun j y hj hy => hall (j + 1) y (by simpa using hj) (by simpa using hy))

/-- what l2By answers: the part with its number and how its own parts lie, or a false -/
def ByR (d : Nat) (w' : World) (S : Nat → Prop) (l : List Tr) (no : Int) (e : Ending) : Prop :=
  (∃ (x : Tr) (ac : Option Addr) (lc cc : Nat), byNo l no = some x ∧ e = .returned (.tuple #[.agg #[.int .i64 x.kind, .string x.name, .int .i64 x.no, .bool x.must, .int .i64 x.most, .slice ac lc cc], .bool true]) ∧ KidsIn d w' S (.slice ac lc cc) x.kids) ∨
  (byNo l no = none ∧ e = .returned (.tuple #[.agg #[.int .i64 0, .string ⟨#[]⟩, .int .i64 0, .bool false, .int .i64 0, .slice none 0 0], .bool false]))

set_option maxRecDepth 100000 in
set_option maxHeartbeats 1000000 in
theorem l2By_any (d : Nat) (kind : Int) (name : ByteArray) (nn : Int) (must : Bool) (most : Int) (l : List Tr) (ao : Option Addr) (cap : Nat) (no : Int) (S : Nat → Prop) (w : World) (hk : KidsIn (d + 1) w S (.slice ao l.length cap) l) (hS : ∀ g, S g → g < w.heap.size) :
    Calls Try.prog 73 #[.agg #[.int .i64 kind, .string name, .int .i64 nn, .bool must, .int .i64 most, .slice ao l.length cap], .int .i64 no] w fun e w' => ByR d w' S l no e ∧ Below w.heap.size w w' := by
  obtain ⟨ao', cap', hcc, hlc, hcm, hrow⟩ := hk
  simp only [Value.slice.injEq, true_and] at hcc
  obtain ⟨rfl, rfl⟩ := hcc
  have hcm' : cap ≤ 9223372036854775807 := by unfold maxLen at hcm; omega
  have HROW : Hid (∀ i t, l[i]? = some t → ∃ g o c', ao = some ⟨g, o, none⟩ ∧ S g ∧ NdIn w g (o + i * 6) t c' ∧ KidsIn d w S c' t.kids) := hrow
  have HS : Hid (∀ g, S g → g < w.heap.size) := hS
  clear hrow hS
  obtain ⟨W2, hW2⟩ : ∃ W, W = (w.alloc (.cells #[.int .i64 kind, .string name, .int .i64 nn, .bool must, .int .i64 most, .slice ao l.length cap] 105)).alloc (.cells #[.int .i64 0, .string ⟨#[]⟩, .int .i64 0, .bool false, .int .i64 0, .slice none 0 0] 105) := ⟨_, rfl⟩
  have hB2 : Below w.heap.size w W2 := by rw [hW2]; exact ((Below.refl _ w).alloc (Nat.le_refl _) _).alloc (by simp) _
  have hs2 : W2.heap.size = w.heap.size + 2 := by rw [hW2]; simp
  have y0 : W2.cell? ⟨w.heap.size + 1, 0, none⟩ = some (.int .i64 0) := by rw [hW2]; go_simp
  have y1 : W2.cell? ⟨w.heap.size + 1, 1, none⟩ = some (.string ⟨#[]⟩) := by rw [hW2]; go_simp
  have y2 : W2.cell? ⟨w.heap.size + 1, 2, none⟩ = some (.int .i64 0) := by rw [hW2]; go_simp
  have y3 : W2.cell? ⟨w.heap.size + 1, 3, none⟩ = some (.bool false) := by rw [hW2]; go_simp
  have y4 : W2.cell? ⟨w.heap.size + 1, 4, none⟩ = some (.int .i64 0) := by rw [hW2]; go_simp
  have y5 : W2.cell? ⟨w.heap.size + 1, 5, none⟩ = some (.slice none 0 0) := by rw [hW2]; go_simp
  have yz : ∀ j, W2.frozen? ⟨w.heap.size + 1, j, none⟩ = false := by intro j; rw [hW2]; go_simp
  go_enter Try.func73, Try.ntmps73
  go_wp2
  rw [← hW2]
  go_loopw [11] (fun vi wr => ∃ i : Nat, i ≤ l.length ∧ vi = .int .i64 (i : Int) ∧ Hid (∀ j y, j < i → l[j]? = some y → y.no ≠ no) ∧ Below (w.heap.size + 2) W2 wr)
    (fun vi _ => l.length - (intOf vi).toNat)
  case atStart => exact ⟨0, by omega, rfl, fun j y hj => by omega, Below.refl _ _⟩
  case round =>
    obtain ⟨i, hil, rfl, hall, hbw⟩ := hrel
    have hB0 : Below w.heap.size w wr := hB2.trans (hbw.mono (by omega))
    have hsz : w.heap.size + 1 < wr.heap.size := by have := hbw.size; omega
    have hb1 : w.heap.size + 1 < w.heap.size + 2 := by omega
    have y0 := (hbw.cell (p := ⟨w.heap.size + 1, 0, none⟩) hb1).trans y0
    have y1 := (hbw.cell (p := ⟨w.heap.size + 1, 1, none⟩) hb1).trans y1
    have y2 := (hbw.cell (p := ⟨w.heap.size + 1, 2, none⟩) hb1).trans y2
    have y3 := (hbw.cell (p := ⟨w.heap.size + 1, 3, none⟩) hb1).trans y3
    have y4 := (hbw.cell (p := ⟨w.heap.size + 1, 4, none⟩) hb1).trans y4
    have y5 := (hbw.cell (p := ⟨w.heap.size + 1, 5, none⟩) hb1).trans y5
    have z0 := (hbw.frozen (p := ⟨w.heap.size + 1, 0, none⟩) hb1).trans (yz 0)
    have z1 := (hbw.frozen (p := ⟨w.heap.size + 1, 1, none⟩) hb1).trans (yz 1)
    have z2 := (hbw.frozen (p := ⟨w.heap.size + 1, 2, none⟩) hb1).trans (yz 2)
    have z3 := (hbw.frozen (p := ⟨w.heap.size + 1, 3, none⟩) hb1).trans (yz 3)
    have z4 := (hbw.frozen (p := ⟨w.heap.size + 1, 4, none⟩) hb1).trans (yz 4)
    have z5 := (hbw.frozen (p := ⟨w.heap.size + 1, 5, none⟩) hb1).trans (yz 5)
    clear hW2 yz
    by_cases hlt : i < l.length
    · have hlt' : (i : Int) < (l.length : Int) := by omega
      obtain ⟨x, hx⟩ : ∃ x, l[i]? = some x := ⟨_, List.getElem?_eq_getElem hlt⟩
      obtain ⟨g, o, c', hao, hSg, hnd, hkk⟩ := HROW.out i x hx
      subst hao
      have hg := HS.out g hSg
      have hnd' := hnd.kept (hB0.block g hg)
      obtain ⟨ac, cc, rfl, _⟩ := hkk.form
      obtain ⟨c0, c1, c2, c3, c4, c5⟩ := hnd'
      have hgz : g < wr.heap.size := by omega
      by_cases he : x.no = no
      · have hby : Hid (byNo l no = some x) := byNo_at l no i x hall.out hx he
        have he' : (x.no == no) = true := by simpa using he
        have HK : Hid (∀ w' : World, Below w.heap.size w w' → KidsIn d w' S (.slice ac x.kids.length cc) x.kids) := fun w' hw' => hkk.kept (fun g hg => hw'.block g (HS.out g hg)) (fun _ h => h)
        clear hnd hkk hx hall he
        go_wp2
        (try simp only [Exit.inBlock, Exit.then])
        have hle : w.heap.size ≤ w.heap.size + 1 := by omega
        have hBs := (((((hB0.setCell (p := ⟨w.heap.size + 1, 0, none⟩) hle (.int .i64 x.kind)).setCell (p := ⟨w.heap.size + 1, 1, none⟩) hle (.string x.name)).setCell (p := ⟨w.heap.size + 1, 2, none⟩) hle (.int .i64 x.no)).setCell (p := ⟨w.heap.size + 1, 3, none⟩) hle (.bool x.must)).setCell (p := ⟨w.heap.size + 1, 4, none⟩) hle (.int .i64 x.most)).setCell (p := ⟨w.heap.size + 1, 5, none⟩) hle (.slice ac x.kids.length cc)
        have hBf := hBs.alloc hBs.size (.cells #[.int .i64 x.kind, .string x.name, .int .i64 x.no, .bool x.must, .int .i64 x.most, .slice ac x.kids.length cc] 105)
        have HKf := HK.out _ hBf
        clear HK hBs
        refine bodyPost_ret (v := .tuple #[.agg #[.int .i64 x.kind, .string x.name, .int .i64 x.no, .bool x.must, .int .i64 x.most, .slice ac x.kids.length cc], .bool true]) ?_ rfl ⟨.inl ⟨x, ac, x.kids.length, cc, hby.out, rfl, HKf⟩, hBf⟩
        rw [results_cell_tmp rfl]
        go_simp
      · have he' : (x.no == no) = false := by simpa using he
        have hall2 : Hid (∀ j y, j < i + 1 → l[j]? = some y → y.no ≠ no) := fun j y hj hy => by
          by_cases hji : j = i
          · subst hji; rw [hx] at hy; cases hy; exact he
          · exact hall.out j y (by omega) hy
        clear hnd hkk hx hall he
        go_wp2
        go_roundw
        case rel => exact ⟨i + 1, by omega, by go_num, hall2, hbw.alloc (by omega) _⟩
        case measure => simp [intOf]; omega
    · have hke : i = l.length := by omega
      subst hke
      have hge : ¬ ((l.length : Int) < (l.length : Int)) := by omega
      have hby : Hid (byNo l no = none) := byNo_none l no hall.out
      clear hall
      go_wp2
      (try simp only [Exit.inBlock, Exit.then])
      refine bodyPost_ret (v := .tuple #[.agg #[.int .i64 0, .string ⟨#[]⟩, .int .i64 0, .bool false, .int .i64 0, .slice none 0 0], .bool false]) ?_ rfl ⟨.inr ⟨hby.out, rfl⟩, ?_⟩
      · rw [results_cell_tmp rfl]
        go_simp
      · have hle : w.heap.size ≤ w.heap.size + 1 := by omega
        exact (((((hB0.setCell (p := ⟨w.heap.size + 1, 0, none⟩) hle _).setCell (p := ⟨w.heap.size + 1, 1, none⟩) hle _).setCell (p := ⟨w.heap.size + 1, 2, none⟩) hle _).setCell (p := ⟨w.heap.size + 1, 3, none⟩) hle _).setCell (p := ⟨w.heap.size + 1, 4, none⟩) hle _).setCell (p := ⟨w.heap.size + 1, 5, none⟩) hle _

end Go.Proofs.Ytpopjapcgcnnfaa

namespace Go.Proofs.Ytpopjapcgcnnfaa
open Go.RowKit Plain Sch

def unlike (a b : Tr) : Bool := decide (a.kind ≠ b.kind) || (decide (a.kind = 3) && decide (b.most < a.most))

def subT : Nat → Tr → Tr → Bool
  | 0, a, b => !unlike a b
  | d + 1, a, b =>
    if unlike a b = true then false
    else if a.kind = 4 then (match a.kids, b.kids with | x :: _, y :: _ => subT d x y | _, _ => false)
    else b.kids.all fun y => match byNo a.kids y.no with | none => false | some x => !(y.must && !x.must) && subT d x y

/-- lists have a part -/
def LG : Nat → Tr → Prop
  | 0, t => t.kind ≠ 4
  | d + 1, t => (t.kind = 4 → t.kids ≠ []) ∧ ∀ x ∈ t.kids, LG d x

theorem byNo_mem : ∀ (l : List Tr) (no : Int) (x : Tr), byNo l no = some x → x ∈ l
  | [], _, _, h => by simp [byNo] at h
  | a :: l, no, x, h => by
    rw [byNo] at h
    split at h
    · cases h; simp
    · exact List.mem_cons_of_mem _ (byNo_mem l no x h)


theorem unlike_kind {a b : Tr} (h : a.kind ≠ b.kind) : unlike a b = true := by unfold unlike; simp [h]
theorem unlike_most {a b : Tr} (h : a.kind = 3) (h2 : b.most < a.most) : unlike a b = true := by unfold unlike; simp [h, h2]
theorem like_of {a b : Tr} (h : a.kind = b.kind) (h2 : ¬ (a.kind = 3 ∧ b.most < a.most)) : unlike a b = false := by
  unfold unlike
  by_cases h3 : a.kind = 3
  · have : ¬ b.most < a.most := fun h4 => h2 ⟨h3, h4⟩
    simp [h, this]
  · simp [h]; intro h5; rw [h] at h3; exact absurd h5 h3

theorem unlike_cases {a b : Tr} (h : unlike a b = true) : a.kind ≠ b.kind ∨ (a.kind = b.kind ∧ a.kind = 3 ∧ b.most < a.most) := by
  by_cases hk : a.kind = b.kind
  · by_cases h3 : a.kind = 3 ∧ b.most < a.most
    · exact .inr ⟨hk, h3⟩
    · rw [like_of hk h3] at h; cases h
  · exact .inl hk

theorem like_cases {a b : Tr} (h : unlike a b = false) : a.kind = b.kind ∧ (a.kind ≠ 3 ∨ ¬ b.most < a.most) := by
  by_cases hk : a.kind = b.kind
  · refine ⟨hk, ?_⟩
    by_cases h3 : a.kind = 3
    · by_cases hm : b.most < a.most
      · rw [unlike_most h3 hm] at h; cases h
      · exact .inr hm
    · exact .inl h3
  · rw [unlike_kind hk] at h; cases h

/-- the rest of a walk behind the first test, for trees that are alike there: what the walk is told of their kinds -/
def LikeB (ka kb ma mb : Int) : Prop := (ka != kb) = false ∧ ((ka == 3) = false ∨ ((ka == 3) = true ∧ decide (mb < ma) = false))

theorem likeB {a b : Tr} (h : unlike a b = false) : LikeB a.kind b.kind a.most b.most := by
  obtain ⟨hk, h3⟩ := like_cases h
  refine ⟨by simpa using hk, ?_⟩
  by_cases h33 : a.kind = 3
  · right
    refine ⟨by simpa using h33, ?_⟩
    rcases h3 with h3 | h3
    · exact absurd h33 h3
    · simpa using h3
  · left; simpa using h33

end Go.Proofs.Ytpopjapcgcnnfaa
