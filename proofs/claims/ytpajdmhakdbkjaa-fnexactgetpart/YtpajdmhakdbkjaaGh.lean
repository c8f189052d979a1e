/- The model's parts by number. The model's subtypes of trees. -/
import Derived.Test.YtpajdmhakdbkjaaGd
import Derived.Laws.ResultCell
import Derived.Deep.RegionWith
namespace Go.Proofs.Ytpajdmhakdbkjaa
open Go.RowKit Plain Sch

def byNo : List Tr → Int → Option Tr
  | [], _ => none
  | x :: l, no => if x.no = no then some x else byNo l no

theorem byNo_at : ∀ (l : List Tr) (no : Int) (i : Nat) (x : Tr), (∀ j y, j < i → l[j]? = some y → y.no ≠ no) → l[i]? = some x → x.no = no → byNo l no = some x
  | [], _, i, x, _, h, _ => by simp at h
  | a :: l, no, 0, x, _, h, hx => by
    simp at h; subst h
    rw [byNo, if_pos hx]
  | a :: l, no, i + 1, x, hall, h, hx => by
    rw [byNo, if_neg (hall 0 a (by omega) rfl)]
    exact byNo_at l no i x (fun j y hj hy => hall (j + 1) y (by omega) (by simpa using hy)) (by simpa using h) hx

theorem byNo_none : ∀ (l : List Tr) (no : Int), (∀ j y, j < l.length → l[j]? = some y → y.no ≠ no) → byNo l no = none
  | [], _, _ => rfl
  | a :: l, no, hall => by
    rw [byNo, if_neg (hall 0 a (by simp) rfl)]
    exact byNo_none l no (fun j y hj hy => hall (j + 1) y (by simpa using hj) (by simpa using hy))

/-- what l2By answers: the part with its number and how its own parts lie, or a false -/
def ByR (d : Nat) (w' : World) (S : Nat → Prop) (l : List Tr) (no : Int) (e : Ending) : Prop :=
  (∃ (x : Tr) (ac : Option Addr) (lc cc : Nat), byNo l no = some x ∧ e = .returned (.tuple #[.agg #[.int .i64 x.kind, .string x.name, .int .i64 x.no, .bool x.must, .int .i64 x.most, .slice ac lc cc], .bool true]) ∧ KidsIn d w' S (.slice ac lc cc) x.kids) ∨
  (byNo l no = none ∧ e = .returned (.tuple #[.agg #[.int .i64 0, .string ⟨#[]⟩, .int .i64 0, .bool false, .int .i64 0, .slice none 0 0], .bool false]))

set_option maxRecDepth 100000 in
set_option maxHeartbeats 1000000 in
theorem l2By_any (d : Nat) (kind : Int) (name : ByteArray) (nn : Int) (must : Bool) (most : Int) (l : List Tr) (ao : Option Addr) (cap : Nat) (no : Int) (S : Nat → Prop) (w : World) (hk : KidsIn (d + 1) w S (.slice ao l.length cap) l) (hS : ∀ g, S g → g < w.heap.size) :
    Calls Try.prog 54 #[.agg #[.int .i64 kind, .string name, .int .i64 nn, .bool must, .int .i64 most, .slice ao l.length cap], .int .i64 no] w fun e w' => ByR d w' S l no e ∧ Below w.heap.size w w' := by
  obtain ⟨ao', cap', hcc, hlc, hcm, hrow⟩ := hk
  simp only [Value.slice.injEq, true_and] at hcc
  obtain ⟨rfl, rfl⟩ := hcc
  have hcm' : cap ≤ 9223372036854775807 := by unfold maxLen at hcm; omega
  have HROW : Hid (∀ i t, l[i]? = some t → ∃ g o c', ao = some ⟨g, o, none⟩ ∧ S g ∧ NdIn w g (o + i * 6) t c' ∧ KidsIn d w S c' t.kids) := hrow
  have HS : Hid (∀ g, S g → g < w.heap.size) := hS
  clear hrow hS
  obtain ⟨W2, hW2⟩ : ∃ W, W = (w.alloc (.cells #[.int .i64 kind, .string name, .int .i64 nn, .bool must, .int .i64 most, .slice ao l.length cap] 82)).alloc (.cells #[.int .i64 0, .string ⟨#[]⟩, .int .i64 0, .bool false, .int .i64 0, .slice none 0 0] 82) := ⟨_, rfl⟩
  have hB2 : Below w.heap.size w W2 := by rw [hW2]; exact ((Below.refl _ w).alloc (Nat.le_refl _) _).alloc (by simp) _
  have hs2 : W2.heap.size = w.heap.size + 2 := by rw [hW2]; simp
  have y0 : W2.cell? ⟨w.heap.size + 1, 0, none⟩ = some (.int .i64 0) := by rw [hW2]; go_simp
  have y1 : W2.cell? ⟨w.heap.size + 1, 1, none⟩ = some (.string ⟨#[]⟩) := by rw [hW2]; go_simp
  have y2 : W2.cell? ⟨w.heap.size + 1, 2, none⟩ = some (.int .i64 0) := by rw [hW2]; go_simp
  have y3 : W2.cell? ⟨w.heap.size + 1, 3, none⟩ = some (.bool false) := by rw [hW2]; go_simp
  have y4 : W2.cell? ⟨w.heap.size + 1, 4, none⟩ = some (.int .i64 0) := by rw [hW2]; go_simp
  have y5 : W2.cell? ⟨w.heap.size + 1, 5, none⟩ = some (.slice none 0 0) := by rw [hW2]; go_simp
  have yz : ∀ j, W2.frozen? ⟨w.heap.size + 1, j, none⟩ = false := by intro j; rw [hW2]; go_simp
  go_enter Try.func54, Try.ntmps54
  go_wp2
  rw [← hW2]
  go_loopw [11] (fun vi wr => ∃ i : Nat, i ≤ l.length ∧ vi = .int .i64 (i : Int) ∧ Hid (∀ j y, j < i → l[j]? = some y → y.no ≠ no) ∧ Below (w.heap.size + 2) W2 wr)
    (fun vi _ => l.length - (intOf vi).toNat)
  case atStart => exact ⟨0, by omega, rfl, fun j y hj => by omega, Below.refl _ _⟩
  case round =>
    obtain ⟨i, hil, rfl, hall, hbw⟩ := hrel
    have hB0 : Below w.heap.size w wr := hB2.trans (hbw.mono (by omega))
    have hsz : w.heap.size + 1 < wr.heap.size := by have := hbw.size; omega
    have hb1 : w.heap.size + 1 < w.heap.size + 2 := by omega
    have y0 := (hbw.cell (p := ⟨w.heap.size + 1, 0, none⟩) hb1).trans y0
    have y1 := (hbw.cell (p := ⟨w.heap.size + 1, 1, none⟩) hb1).trans y1
    have y2 := (hbw.cell (p := ⟨w.heap.size + 1, 2, none⟩) hb1).trans y2
    have y3 := (hbw.cell (p := ⟨w.heap.size + 1, 3, none⟩) hb1).trans y3
    have y4 := (hbw.cell (p := ⟨w.heap.size + 1, 4, none⟩) hb1).trans y4
    have y5 := (hbw.cell (p := ⟨w.heap.size + 1, 5, none⟩) hb1).trans y5
    have z0 := (hbw.frozen (p := ⟨w.heap.size + 1, 0, none⟩) hb1).trans (yz 0)
    have z1 := (hbw.frozen (p := ⟨w.heap.size + 1, 1, none⟩) hb1).trans (yz 1)
    have z2 := (hbw.frozen (p := ⟨w.heap.size + 1, 2, none⟩) hb1).trans (yz 2)
    have z3 := (hbw.frozen (p := ⟨w.heap.size + 1, 3, none⟩) hb1).trans (yz 3)
    have z4 := (hbw.frozen (p := ⟨w.heap.size + 1, 4, none⟩) hb1).trans (yz 4)
    have z5 := (hbw.frozen (p := ⟨w.heap.size + 1, 5, none⟩) hb1).trans (yz 5)
    clear hW2 yz
    by_cases hlt : i < l.length
    · have hlt' : (i : Int) < (l.length : Int) := by omega
      obtain ⟨x, hx⟩ : ∃ x, l[i]? = some x := ⟨_, List.getElem?_eq_getElem hlt⟩
      obtain ⟨g, o, c', hao, hSg, hnd, hkk⟩ := HROW.out i x hx
      subst hao
      have hg := HS.out g hSg
      have hnd' := hnd.kept (hB0.block g hg)
      obtain ⟨ac, cc, rfl, _⟩ := hkk.form
      obtain ⟨c0, c1, c2, c3, c4, c5⟩ := hnd'
      have hgz : g < wr.heap.size := by omega
      by_cases he : x.no = no
      · have hby : Hid (byNo l no = some x) := byNo_at l no i x hall.out hx he
        have he' : (x.no == no) = true := by simpa using he
        have HK : Hid (∀ w' : World, Below w.heap.size w w' → KidsIn d w' S (.slice ac x.kids.length cc) x.kids) := fun w' hw' => hkk.kept (fun g hg => hw'.block g (HS.out g hg)) (fun _ h => h)
        clear hnd hkk hx hall he
        go_wp2
        (try simp only [Exit.inBlock, Exit.then])
        have hle : w.heap.size ≤ w.heap.size + 1 := by omega
        have hBs := (((((hB0.setCell (p := ⟨w.heap.size + 1, 0, none⟩) hle (.int .i64 x.kind)).setCell (p := ⟨w.heap.size + 1, 1, none⟩) hle (.string x.name)).setCell (p := ⟨w.heap.size + 1, 2, none⟩) hle (.int .i64 x.no)).setCell (p := ⟨w.heap.size + 1, 3, none⟩) hle (.bool x.must)).setCell (p := ⟨w.heap.size + 1, 4, none⟩) hle (.int .i64 x.most)).setCell (p := ⟨w.heap.size + 1, 5, none⟩) hle (.slice ac x.kids.length cc)
        have hBf := hBs.alloc hBs.size (.cells #[.int .i64 x.kind, .string x.name, .int .i64 x.no, .bool x.must, .int .i64 x.most, .slice ac x.kids.length cc] 82)
        have HKf := HK.out _ hBf
        clear HK hBs
        refine bodyPost_ret (v := .tuple #[.agg #[.int .i64 x.kind, .string x.name, .int .i64 x.no, .bool x.must, .int .i64 x.most, .slice ac x.kids.length cc], .bool true]) ?_ rfl ⟨.inl ⟨x, ac, x.kids.length, cc, hby.out, rfl, HKf⟩, hBf⟩
        rw [results_cell_tmp rfl]
        go_simp
      · have he' : (x.no == no) = false := by simpa using he
        have hall2 : Hid (∀ j y, j < i + 1 → l[j]? = some y → y.no ≠ no) := fun j y hj hy => by
          by_cases hji : j = i
          · subst hji; rw [hx] at hy; cases hy; exact he
          · exact hall.out j y (by omega) hy
        clear hnd hkk hx hall he
        go_wp2
        go_roundw
        case rel => exact ⟨i + 1, by omega, by go_num, hall2, hbw.alloc (by omega) _⟩
        case measure => simp [intOf]; omega
    · have hke : i = l.length := by omega
      subst hke
      have hge : ¬ ((l.length : Int) < (l.length : Int)) := by omega
      have hby : Hid (byNo l no = none) := byNo_none l no hall.out
      clear hall
      go_wp2
      (try simp only [Exit.inBlock, Exit.then])
      refine bodyPost_ret (v := .tuple #[.agg #[.int .i64 0, .string ⟨#[]⟩, .int .i64 0, .bool false, .int .i64 0, .slice none 0 0], .bool false]) ?_ rfl ⟨.inr ⟨hby.out, rfl⟩, ?_⟩
      · rw [results_cell_tmp rfl]
        go_simp
      · have hle : w.heap.size ≤ w.heap.size + 1 := by omega
        exact (((((hB0.setCell (p := ⟨w.heap.size + 1, 0, none⟩) hle _).setCell (p := ⟨w.heap.size + 1, 1, none⟩) hle _).setCell (p := ⟨w.heap.size + 1, 2, none⟩) hle _).setCell (p := ⟨w.heap.size + 1, 3, none⟩) hle _).setCell (p := ⟨w.heap.size + 1, 4, none⟩) hle _).setCell (p := ⟨w.heap.size + 1, 5, none⟩) hle _

end Go.Proofs.Ytpajdmhakdbkjaa

namespace Go.Proofs.Ytpajdmhakdbkjaa
open Go.RowKit Plain Sch

def unlike (a b : Tr) : Bool := decide (a.kind ≠ b.kind) || (decide (a.kind = 3) && decide (b.most < a.most))

def subT : Nat → Tr → Tr → Bool
  | 0, a, b => !unlike a b
  | d + 1, a, b =>
    if unlike a b = true then false
    else if a.kind = 4 then (match a.kids, b.kids with | x :: _, y :: _ => subT d x y | _, _ => false)
    else b.kids.all fun y => match byNo a.kids y.no with | none => false | some x => !(y.must && !x.must) && subT d x y

/-- lists have a part -/
def LG : Nat → Tr → Prop
  | 0, t => t.kind ≠ 4
  | d + 1, t => (t.kind = 4 → t.kids ≠ []) ∧ ∀ x ∈ t.kids, LG d x

theorem byNo_mem : ∀ (l : List Tr) (no : Int) (x : Tr), byNo l no = some x → x ∈ l
  | [], _, _, h => by simp [byNo] at h
  | a :: l, no, x, h => by
    rw [byNo] at h
    split at h
    · cases h; simp
    · exact List.mem_cons_of_mem _ (byNo_mem l no x h)


theorem unlike_kind {a b : Tr} (h : a.kind ≠ b.kind) : unlike a b = true := by unfold unlike; simp [h]
theorem unlike_most {a b : Tr} (h : a.kind = 3) (h2 : b.most < a.most) : unlike a b = true := by unfold unlike; simp [h, h2]
theorem like_of {a b : Tr} (h : a.kind = b.kind) (h2 : ¬ (a.kind = 3 ∧ b.most < a.most)) : unlike a b = false := by
  unfold unlike
  by_cases h3 : a.kind = 3
  · have : ¬ b.most < a.most := fun h4 => h2 ⟨h3, h4⟩
    simp [h, this]
  · simp [h]; intro h5; rw [h] at h3; exact absurd h5 h3

theorem unlike_cases {a b : Tr} (h : unlike a b = true) : a.kind ≠ b.kind ∨ (a.kind = b.kind ∧ a.kind = 3 ∧ b.most < a.most) := by
  by_cases hk : a.kind = b.kind
  · by_cases h3 : a.kind = 3 ∧ b.most < a.most
    · exact .inr ⟨hk, h3⟩
    · rw [like_of hk h3] at h; cases h
  · exact .inl hk

theorem like_cases {a b : Tr} (h : unlike a b = false) : a.kind = b.kind ∧ (a.kind ≠ 3 ∨ ¬ b.most < a.most) := by
  by_cases hk : a.kind = b.kind
  · refine ⟨hk, ?_⟩
    by_cases h3 : a.kind = 3
    · by_cases hm : b.most < a.most
      · rw [unlike_most h3 hm] at h; cases h
      · exact .inr hm
    · exact .inl h3
  · rw [unlike_kind hk] at h; cases h

set_option maxRecDepth 100000 in
set_option maxHeartbeats 1000000 in
theorem l2Sub_no (a b : Tr) (aa ab : Option Addr) (la ca lb cb : Nat) (w : World) (h : unlike a b = true) :
    Calls Try.prog 105 #[tv a aa la ca, tv b ab lb cb] w fun e w' => e = .returned (.bool false) ∧ Below w.heap.size w w' := by
  have hB2 : ∀ o1 o2, Below w.heap.size w ((w.alloc o1).alloc o2) := fun o1 o2 => ((Below.refl _ w).alloc (Nat.le_refl _) o1).alloc (by simp) o2
  unfold tv
  rcases unlike_cases h with hk | ⟨hk, h3, hm⟩
  · have hk' : (a.kind != b.kind) = true := by simpa using hk
    generalize a.kind = ka at *
    generalize b.kind = kb at *
    clear hk h
    go_enter Try.func105, Try.ntmps105
    go_wp2
    go_ret
    exact ⟨rfl, hB2 _ _⟩
  · have hk' : (a.kind != b.kind) = false := by simpa using hk
    have h3' : (a.kind == 3) = true := by simpa using h3
    have h3m : decide (b.most < a.most) = true := by simpa using hm
    generalize a.kind = ka at *
    generalize b.kind = kb at *
    generalize a.most = ma at *
    generalize b.most = mb at *
    clear h h3 hk hm
    go_enter Try.func105, Try.ntmps105
    go_wp2
    go_ret
    exact ⟨rfl, hB2 _ _⟩

/-- the rest of a walk behind the first test, for trees that are alike there: what the walk is told of their kinds -/
def LikeB (ka kb ma mb : Int) : Prop := (ka != kb) = false ∧ ((ka == 3) = false ∨ ((ka == 3) = true ∧ decide (mb < ma) = false))

theorem likeB {a b : Tr} (h : unlike a b = false) : LikeB a.kind b.kind a.most b.most := by
  obtain ⟨hk, h3⟩ := like_cases h
  refine ⟨by simpa using hk, ?_⟩
  by_cases h33 : a.kind = 3
  · right
    refine ⟨by simpa using h33, ?_⟩
    rcases h3 with h3 | h3
    · exact absurd h33 h3
    · simpa using h3
  · left; simpa using h33

set_option maxRecDepth 100000 in
set_option maxHeartbeats 4000000 in
theorem l2Sub_any : ∀ (d : Nat) (a b : Tr) (aa ab : Option Addr) (la ca lb cb : Nat) (Sa Sb : Nat → Prop) (w : World), KidsIn d w Sa (.slice aa la ca) a.kids → KidsIn d w Sb (.slice ab lb cb) b.kids → (∀ g, Sa g → g < w.heap.size) → (∀ g, Sb g → g < w.heap.size) → LG d a → LG d b →
    Calls Try.prog 105 #[tv a aa la ca, tv b ab lb cb] w fun e w' => e = .returned (.bool (subT d a b)) ∧ Below w.heap.size w w' := by
  intro d
  induction d with
  | zero =>
    intro a b aa ab la ca lb cb Sa Sb w hka hkb hSa hSb hLa hLb
    by_cases hun : unlike a b = true
    · have hR : subT 0 a b = false := by show (!unlike a b) = false; rw [hun]; rfl
      rw [hR]
      exact l2Sub_no a b aa ab la ca lb cb w hun
    have hun' : unlike a b = false := by simpa using hun
    have hR : subT 0 a b = true := by show (!unlike a b) = true; rw [hun']; rfl
    rw [hR]
    obtain ⟨ao, cap, hca, hcm, hkk⟩ := hka
    obtain ⟨ao2, cap2, hcb, hcm2, hkk2⟩ := hkb
    simp only [Value.slice.injEq] at hca hcb
    obtain ⟨rfl, rfl, rfl⟩ := hca
    obtain ⟨rfl, rfl, rfl⟩ := hcb
    have h4 : (a.kind == 4) = false := by simpa using (show a.kind ≠ 4 from hLa)
    have hLK := likeB hun'
    clear hkk hkk2 hLa hLb hR hun hun' hSa hSb
    unfold tv
    generalize a.kind = ka at *
    generalize b.kind = kb at *
    generalize a.most = ma at *
    generalize b.most = mb at *
    generalize a.name = na at *
    generalize b.name = nb at *
    generalize a.no = noa at *
    generalize b.no = nob at *
    generalize a.must = mua at *
    generalize b.must = mub at *
    obtain ⟨W2, hW2⟩ : ∃ W, W = (w.alloc (.cells #[.int .i64 ka, .string na, .int .i64 noa, .bool mua, .int .i64 ma, .slice aa 0 ca] 82)).alloc (.cells #[.int .i64 kb, .string nb, .int .i64 nob, .bool mub, .int .i64 mb, .slice ab 0 cb] 82) := ⟨_, rfl⟩
    have hB2 : Below w.heap.size w W2 := by rw [hW2]; exact ((Below.refl _ w).alloc (Nat.le_refl _) _).alloc (by simp) _
    obtain ⟨hk', hL⟩ := hLK
    rcases hL with h3 | ⟨h3, h3m⟩
    all_goals
      go_enter Try.func105, Try.ntmps105
      go_wp2
      rw [← hW2]
      clear hW2
      go_loopw [41] (fun vi wr => vi = .int .i64 0 ∧ wr = W2) (fun _ _ => 0)
      case atStart => exact ⟨rfl, rfl⟩
      case round =>
        obtain ⟨rfl, rfl⟩ := hrel
        go_wp2
        go_ret
        exact ⟨rfl, hB2⟩
  | succ d ih0 =>
    intro a b aa ab la ca lb cb Sa Sb w hka hkb hSa hSb hLa hLb
    by_cases hun : unlike a b = true
    · have hR : subT (d + 1) a b = false := by rw [subT, if_pos hun]
      rw [hR]
      exact l2Sub_no a b aa ab la ca lb cb w hun
    have hun' : unlike a b = false := by simpa using hun
    have ih : Hid (∀ (a b : Tr) (aa ab : Option Addr) (la ca lb cb : Nat) (Sa Sb : Nat → Prop) (w : World), KidsIn d w Sa (.slice aa la ca) a.kids → KidsIn d w Sb (.slice ab lb cb) b.kids → (∀ g, Sa g → g < w.heap.size) → (∀ g, Sb g → g < w.heap.size) → LG d a → LG d b →
      Calls Try.prog 105 #[tv a aa la ca, tv b ab lb cb] w fun e w' => e = .returned (.bool (subT d a b)) ∧ Below w.heap.size w w') := ih0
    clear ih0
    have hLK := likeB hun'
    have hKA : KidsIn (d + 1) w Sa (.slice aa la ca) a.kids := hka
    have hKB : KidsIn (d + 1) w Sb (.slice ab lb cb) b.kids := hkb
    obtain ⟨ao, cap, hca, hlca, hcma, hrowa⟩ := hka
    obtain ⟨ao2, cap2, hcb, hlcb, hcmb, hrowb⟩ := hkb
    simp only [Value.slice.injEq] at hca hcb
    obtain ⟨rfl, rfl, rfl⟩ := hca
    obtain ⟨rfl, rfl, rfl⟩ := hcb
    have hcma' : ca ≤ 9223372036854775807 := by unfold maxLen at hcma; omega
    have hcmb' : cb ≤ 9223372036854775807 := by unfold maxLen at hcmb; omega
    have HSa : Hid (∀ g, Sa g → g < w.heap.size) := hSa
    have HSb : Hid (∀ g, Sb g → g < w.heap.size) := hSb
    have HRA : Hid (∀ i t, a.kids[i]? = some t → ∃ g o c', aa = some ⟨g, o, none⟩ ∧ Sa g ∧ NdIn w g (o + i * 6) t c' ∧ KidsIn d w Sa c' t.kids) := hrowa
    have HRB : Hid (∀ i t, b.kids[i]? = some t → ∃ g o c', ab = some ⟨g, o, none⟩ ∧ Sb g ∧ NdIn w g (o + i * 6) t c' ∧ KidsIn d w Sb c' t.kids) := hrowb
    have HKA : Hid (KidsIn (d + 1) w Sa (.slice aa a.kids.length ca) a.kids) := hKA
    clear hrowa hrowb hSa hSb hKA hKB
    obtain ⟨R, hRR⟩ : ∃ R, R = subT (d + 1) a b := ⟨_, rfl⟩
    have HR : Hid (R = if a.kind = 4 then (match a.kids, b.kids with | x :: _, y :: _ => subT d x y | _, _ => false) else b.kids.all fun y => match byNo a.kids y.no with | none => false | some x => !(y.must && !x.must) && subT d x y) := by
      show _ = _
      rw [hRR, subT, if_neg hun]
    rw [← hRR]
    clear hRR hun
    by_cases h4 : a.kind = 4
    · have h4b : b.kind = 4 := by rw [← (like_cases hun').1]; exact h4
      obtain ⟨x, xs, hax⟩ : ∃ x xs, a.kids = x :: xs := by
        cases hh : a.kids with
        | nil => exact absurd hh (hLa.1 h4)
        | cons x xs => exact ⟨x, xs, rfl⟩
      obtain ⟨y, ys, hby⟩ : ∃ y ys, b.kids = y :: ys := by
        cases hh : b.kids with
        | nil => exact absurd hh (hLb.1 h4b)
        | cons y ys => exact ⟨y, ys, rfl⟩
      have HR2 : Hid (R = subT d x y) := by show _ = _; rw [HR.out, if_pos h4, hax, hby]
      have hLx := hLa.2 x (by rw [hax]; simp)
      have hLy := hLb.2 y (by rw [hby]; simp)
      obtain ⟨g, o, c', rfl, hSg, hnd, hkk⟩ := HRA.out 0 x (by rw [hax]; rfl)
      obtain ⟨g2, o2, c2', rfl, hSg2, hnd2, hkk2⟩ := HRB.out 0 y (by rw [hby]; rfl)
      obtain ⟨ac, cc, rfl, _⟩ := hkk.form
      obtain ⟨ac2, cc2, rfl, _⟩ := hkk2.form
      have hg := HSa.out g hSg
      have hg2 := HSb.out g2 hSg2
      have hlena : 0 < a.kids.length := by rw [hax]; simp
      have hlenb : 0 < b.kids.length := by rw [hby]; simp
      have IC : Hid (∀ W : World, Below w.heap.size w W → Calls Try.prog 105 #[.agg #[.int .i64 x.kind, .string x.name, .int .i64 x.no, .bool x.must, .int .i64 x.most, .slice ac x.kids.length cc], .agg #[.int .i64 y.kind, .string y.name, .int .i64 y.no, .bool y.must, .int .i64 y.most, .slice ac2 y.kids.length cc2]] W fun e w' => e = .returned (.bool R) ∧ Below W.heap.size W w') := fun W hW => by
        rw [HR2.out]
        exact ih.out x y ac ac2 x.kids.length cc y.kids.length cc2 Sa Sb W (hkk.kept (fun g hg => hW.block g (HSa.out g hg)) (fun _ h => h)) (hkk2.kept (fun g hg => hW.block g (HSb.out g hg)) (fun _ h => h)) (fun g hg => by have := HSa.out g hg; have := hW.size; omega) (fun g hg => by have := HSb.out g hg; have := hW.size; omega) hLx hLy
      obtain ⟨c0, c1, c2, c3, c4, c5⟩ := hnd
      obtain ⟨e0, e1, e2, e3, e4, e5⟩ := hnd2
      simp only [Nat.zero_mul, Nat.add_zero] at c0 c1 c2 c3 c4 c5 e0 e1 e2 e3 e4 e5
      have hlena' : (0 : Int) < (a.kids.length : Int) := by omega
      have hlenb' : (0 : Int) < (b.kids.length : Int) := by omega
      obtain ⟨hk', hL⟩ := hLK
      unfold tv
      rw [h4, h4b] at *
      clear hk' hL h4 h4b HR HR2 hkk hkk2 hLx hLy hLa hLb HRA HRB HKA hax hby hun' ih
      generalize a.kids.length = la at *
      generalize b.kids.length = lb at *
      generalize a.most = ma at *
      generalize b.most = mb at *
      generalize a.name = na at *
      generalize b.name = nb at *
      generalize a.no = noa at *
      generalize b.no = nob at *
      generalize a.must = mua at *
      generalize b.must = mub at *
      generalize x.kids.length = lx at *
      generalize y.kids.length = ly at *
      obtain ⟨W2, hW2⟩ : ∃ W, W = (w.alloc (.cells #[.int .i64 4, .string na, .int .i64 noa, .bool mua, .int .i64 ma, .slice (some ⟨g, o, none⟩) la ca] 82)).alloc (.cells #[.int .i64 4, .string nb, .int .i64 nob, .bool mub, .int .i64 mb, .slice (some ⟨g2, o2, none⟩) lb cb] 82) := ⟨_, rfl⟩
      have hB2 : Below w.heap.size w W2 := by rw [hW2]; exact ((Below.refl _ w).alloc (Nat.le_refl _) _).alloc (by simp) _
      have c0 := (hB2.cell (p := ⟨g, o, none⟩) hg).trans c0
      have c1 := (hB2.cell (p := ⟨g, o + 1, none⟩) hg).trans c1
      have c2 := (hB2.cell (p := ⟨g, o + 2, none⟩) hg).trans c2
      have c3 := (hB2.cell (p := ⟨g, o + 3, none⟩) hg).trans c3
      have c4 := (hB2.cell (p := ⟨g, o + 4, none⟩) hg).trans c4
      have c5 := (hB2.cell (p := ⟨g, o + 5, none⟩) hg).trans c5
      have e0 := (hB2.cell (p := ⟨g2, o2, none⟩) hg2).trans e0
      have e1 := (hB2.cell (p := ⟨g2, o2 + 1, none⟩) hg2).trans e1
      have e2 := (hB2.cell (p := ⟨g2, o2 + 2, none⟩) hg2).trans e2
      have e3 := (hB2.cell (p := ⟨g2, o2 + 3, none⟩) hg2).trans e3
      have e4 := (hB2.cell (p := ⟨g2, o2 + 4, none⟩) hg2).trans e4
      have e5 := (hB2.cell (p := ⟨g2, o2 + 5, none⟩) hg2).trans e5
      have b0 : W2.cell? ⟨w.heap.size, 5, none⟩ = some (.slice (some ⟨g, o, none⟩) la ca) := by rw [hW2]; go_simp
      have b1 : W2.cell? ⟨w.heap.size + 1, 5, none⟩ = some (.slice (some ⟨g2, o2, none⟩) lb cb) := by rw [hW2]; go_simp
      have hB2d : Hid (Below w.heap.size w W2.drew) := hB2.drew
      go_enter Try.func105, Try.ntmps105
      go_wp2_with fail
      rw [← hW2]
      clear hW2
      go_region_with (go_at_call 105; refine (IC.out _ hB2d.out).mono ?_; rintro e w3 ⟨rfl, hb3⟩; have hB3 : Below w.heap.size w w3 := hB2.drew.trans (hb3.mono hB2.size))
      all_goals
        go_wp2
        go_ret
        exact ⟨rfl, hB3⟩
    · rw [if_neg h4] at HR
      obtain ⟨P, hP⟩ : ∃ P : Tr → Bool, P = fun y => match byNo a.kids y.no with | none => false | some x => !(y.must && !x.must) && subT d x y := ⟨_, rfl⟩
      have HR2 : Hid (R = b.kids.all P) := by show _ = _; rw [HR.out, hP]
      have HP0 : Hid (∀ y, byNo a.kids y.no = none → P y = false) := fun y h => by rw [hP]; dsimp only; rw [h]
      have HP1 : Hid (∀ y x, byNo a.kids y.no = some x → P y = (!(y.must && !x.must) && subT d x y)) := fun y x h => by rw [hP]; dsimp only; rw [h]
      clear hP HR
      have HF : Hid (∀ y ∈ b.kids, P y = false → R = false) := fun y hy h => by
        rw [HR2.out, List.all_eq_false]
        exact ⟨y, hy, by rw [h]; simp⟩
      have h4' : (a.kind == 4) = false := by simpa using h4
      obtain ⟨hk', hL⟩ := hLK
      have HLa : Hid (∀ x ∈ a.kids, LG d x) := hLa.2
      have HLb : Hid (∀ x ∈ b.kids, LG d x) := hLb.2
      clear hLa hLb h4 hun'
      unfold tv
      obtain ⟨W2, hW2⟩ : ∃ W, W = (w.alloc (.cells #[.int .i64 a.kind, .string a.name, .int .i64 a.no, .bool a.must, .int .i64 a.most, .slice aa a.kids.length ca] 82)).alloc (.cells #[.int .i64 b.kind, .string b.name, .int .i64 b.no, .bool b.must, .int .i64 b.most, .slice ab b.kids.length cb] 82) := ⟨_, rfl⟩
      have hB2 : Below w.heap.size w W2 := by rw [hW2]; exact ((Below.refl _ w).alloc (Nat.le_refl _) _).alloc (by simp) _
      have hs2 : W2.heap.size = w.heap.size + 2 := by rw [hW2]; simp
      have b0 : W2.cell? ⟨w.heap.size, 0, none⟩ = some (.int .i64 a.kind) := by rw [hW2]; go_simp
      have b1 : W2.cell? ⟨w.heap.size, 1, none⟩ = some (.string a.name) := by rw [hW2]; go_simp
      have b2 : W2.cell? ⟨w.heap.size, 2, none⟩ = some (.int .i64 a.no) := by rw [hW2]; go_simp
      have b3 : W2.cell? ⟨w.heap.size, 3, none⟩ = some (.bool a.must) := by rw [hW2]; go_simp
      have b4 : W2.cell? ⟨w.heap.size, 4, none⟩ = some (.int .i64 a.most) := by rw [hW2]; go_simp
      have b5 : W2.cell? ⟨w.heap.size, 5, none⟩ = some (.slice aa a.kids.length ca) := by rw [hW2]; go_simp
      rcases hL with h3 | ⟨h3, h3m⟩
      all_goals
        go_enter Try.func105, Try.ntmps105
        go_wp2
        rw [← hW2]
        clear hW2
        go_loopw [41] (fun vi wr => ∃ i : Nat, i ≤ b.kids.length ∧ vi = .int .i64 (i : Int) ∧ Hid (∀ j y, j < i → b.kids[j]? = some y → P y = true) ∧ Below (w.heap.size + 2) W2 wr)
          (fun vi _ => b.kids.length - (intOf vi).toNat)
        case atStart => exact ⟨0, by omega, rfl, fun j y hj => by omega, Below.refl _ _⟩
        case round =>
          obtain ⟨i, hil, rfl, hall, hbw⟩ := hrel
          have hB0 : Below w.heap.size w wr := hB2.trans (hbw.mono (by omega))
          have hsz : w.heap.size + 1 < wr.heap.size := by have := hbw.size; omega
          have hsz' : w.heap.size < wr.heap.size := by omega
          have hb1 : w.heap.size < w.heap.size + 2 := by omega
          have b0 := (hbw.cell (p := ⟨w.heap.size, 0, none⟩) hb1).trans b0
          have b1 := (hbw.cell (p := ⟨w.heap.size, 1, none⟩) hb1).trans b1
          have b2 := (hbw.cell (p := ⟨w.heap.size, 2, none⟩) hb1).trans b2
          have b3 := (hbw.cell (p := ⟨w.heap.size, 3, none⟩) hb1).trans b3
          have b4 := (hbw.cell (p := ⟨w.heap.size, 4, none⟩) hb1).trans b4
          have b5 := (hbw.cell (p := ⟨w.heap.size, 5, none⟩) hb1).trans b5
          by_cases hlt : i < b.kids.length
          · have hlt' : (i : Int) < (b.kids.length : Int) := by omega
            obtain ⟨y, hy⟩ : ∃ y, b.kids[i]? = some y := ⟨_, List.getElem?_eq_getElem hlt⟩
            obtain ⟨g, o, c', hao, hSg, hnd, hkk⟩ := HRB.out i y hy
            subst hao
            have hg := HSb.out g hSg
            have hnd' := hnd.kept (hB0.block g hg)
            obtain ⟨ac, cc, rfl, _⟩ := hkk.form
            obtain ⟨c0, c1, c2, c3, c4, c5⟩ := hnd'
            have hyb : y ∈ b.kids := List.mem_of_getElem? hy
            have HKY : Hid (∀ W : World, Below w.heap.size w W → KidsIn d W Sb (.slice ac y.kids.length cc) y.kids) := fun W hW => hkk.kept (fun g hg => hW.block g (HSb.out g hg)) (fun _ h => h)
            have hBy : Below w.heap.size w (wr.alloc (.cells #[.int .i64 y.kind, .string y.name, .int .i64 y.no, .bool y.must, .int .i64 y.most, .slice ac y.kids.length cc] 82)) := hB0.alloc hB0.size _
            clear hnd hkk
            go_wp2_with fail
            refine (l2By_any d a.kind a.name a.no a.must a.most a.kids aa ca y.no Sa _ (HKA.out.kept (fun g hg => hBy.block g (HSa.out g hg)) (fun _ h => h)) (fun g hg => by have h1 := HSa.out g hg; have h2 := hBy.size; omega)).mono ?_
            rintro e w3 ⟨hby, hb3⟩
            have hB3 : Below w.heap.size w w3 := hBy.trans (hb3.mono hBy.size)
            have hs3 : wr.heap.size < w3.heap.size := by have := hb3.size; simp at this; omega
            have k0 : w3.cell? ⟨wr.heap.size, 0, none⟩ = some (.int .i64 y.kind) := (hb3.cell (p := ⟨wr.heap.size, 0, none⟩) (by simp)).trans (by simp)
            have k1 : w3.cell? ⟨wr.heap.size, 1, none⟩ = some (.string y.name) := (hb3.cell (p := ⟨wr.heap.size, 1, none⟩) (by simp)).trans (by simp)
            have k2 : w3.cell? ⟨wr.heap.size, 2, none⟩ = some (.int .i64 y.no) := (hb3.cell (p := ⟨wr.heap.size, 2, none⟩) (by simp)).trans (by simp)
            have k3 : w3.cell? ⟨wr.heap.size, 3, none⟩ = some (.bool y.must) := (hb3.cell (p := ⟨wr.heap.size, 3, none⟩) (by simp)).trans (by simp)
            have k4 : w3.cell? ⟨wr.heap.size, 4, none⟩ = some (.int .i64 y.most) := (hb3.cell (p := ⟨wr.heap.size, 4, none⟩) (by simp)).trans (by simp)
            have k5 : w3.cell? ⟨wr.heap.size, 5, none⟩ = some (.slice ac y.kids.length cc) := (hb3.cell (p := ⟨wr.heap.size, 5, none⟩) (by simp)).trans (by simp)
            have hbw3 := (hbw.alloc (show w.heap.size + 2 ≤ wr.heap.size by omega) (.cells #[.int .i64 y.kind, .string y.name, .int .i64 y.no, .bool y.must, .int .i64 y.most, .slice ac y.kids.length cc] 82)).trans (hb3.mono (by simp; omega))
            clear hb3 hbw c0 c1 c2 c3 c4 c5 b0 b1 b2 b3 b4 b5
            rcases hby with ⟨x, ax, lx, cx, hfx, rfl, hkx⟩ | ⟨hfx, rfl⟩
            · have hPy := HP1.out y x hfx
              have hxm := byNo_mem a.kids y.no x hfx
              by_cases hmm : y.must = true ∧ x.must = false
              · have hn : Hid (R = false) := HF.out y hyb (by rw [hPy, hmm.1, hmm.2]; rfl)
                obtain ⟨hm1, hm2⟩ := hmm
                rw [hm1] at k3
                rw [hm2]
                clear hPy hfx hm1 hm2 hkx hall hy
                go_wp2
                go_ret
                exact ⟨by rw [hn.out]; rfl, hB3.alloc hB3.size _⟩
              · have hPy2 : Hid (P y = subT d x y) := by
                  show _ = _
                  rw [hPy]
                  cases hmy : y.must
                  · simp
                  · cases hmx : x.must
                    · exact absurd ⟨hmy, hmx⟩ hmm
                    · simp
                have hBx : Below w.heap.size w (w3.alloc (.cells #[.int .i64 x.kind, .string x.name, .int .i64 x.no, .bool x.must, .int .i64 x.most, .slice ax lx cx] 82)) := hB3.alloc hB3.size _
                have hB3x : Below w3.heap.size w3 (w3.alloc (.cells #[.int .i64 x.kind, .string x.name, .int .i64 x.no, .bool x.must, .int .i64 x.most, .slice ax lx cx] 82)) := (Below.refl _ w3).alloc (Nat.le_refl _) _
                have IC := ih.out x y ax ac lx cx y.kids.length cc Sa Sb (w3.alloc (.cells #[.int .i64 x.kind, .string x.name, .int .i64 x.no, .bool x.must, .int .i64 x.most, .slice ax lx cx] 82)) (hkx.kept (fun g hg => hB3x.block g (by have h1 := HSa.out g hg; omega)) (fun _ h => h)) (HKY.out _ hBx) (fun g hg => by have h1 := HSa.out g hg; have h2 := hBx.size; omega) (fun g hg => by have h1 := HSb.out g hg; have h2 := hBx.size; omega) (HLa.out x hxm) (HLb.out y hyb)
                unfold tv at IC
                have IC' : Hid (Calls Try.prog 105 #[.agg #[.int .i64 x.kind, .string x.name, .int .i64 x.no, .bool x.must, .int .i64 x.most, .slice ax lx cx], .agg #[.int .i64 y.kind, .string y.name, .int .i64 y.no, .bool y.must, .int .i64 y.most, .slice ac y.kids.length cc]] (w3.alloc (.cells #[.int .i64 x.kind, .string x.name, .int .i64 x.no, .bool x.must, .int .i64 x.most, .slice ax lx cx] 82)) fun e w' => e = .returned (.bool (subT d x y)) ∧ Below (w3.alloc (.cells #[.int .i64 x.kind, .string x.name, .int .i64 x.no, .bool x.must, .int .i64 x.most, .slice ax lx cx] 82)).heap.size (w3.alloc (.cells #[.int .i64 x.kind, .string x.name, .int .i64 x.no, .bool x.must, .int .i64 x.most, .slice ax lx cx] 82)) w') := IC
                clear IC hPy hkx hB3x
                have hmm' : (y.must && !x.must) = false := by
                  cases hmy : y.must
                  · simp
                  · cases hmx : x.must
                    · exact absurd ⟨hmy, hmx⟩ hmm
                    · simp
                clear hmm
                generalize y.must = my at k3 hmm' IC'
                generalize x.must = mx at hmm' IC' hBx ⊢
                cases my
                · clear hmm'
                  go_wp2_with fail
                  refine IC'.out.mono ?_
                  rintro e w5 ⟨rfl, hb5⟩
                  have hbw5 := (hbw3.alloc (show w.heap.size + 2 ≤ w3.heap.size by omega) (.cells #[.int .i64 x.kind, .string x.name, .int .i64 x.no, .bool mx, .int .i64 x.most, .slice ax lx cx] 82)).trans (hb5.mono (by simp; omega))
                  have hB5 : Below w.heap.size w w5 := hBx.trans (hb5.mono hBx.size)
                  clear hb5 IC'
                  by_cases hsub : subT d x y = true
                  · have hall2 : Hid (∀ j z, j < i + 1 → b.kids[j]? = some z → P z = true) := fun j z hj hz => by
                      by_cases hji : j = i
                      · subst hji; rw [hy] at hz; cases hz; rw [hPy2.out]; exact hsub
                      · exact hall.out j z (by omega) hz
                    rw [hsub]
                    clear hsub hall hy hPy2
                    go_wp2
                    go_roundw
                    case rel => exact ⟨i + 1, by omega, by go_num, hall2, hbw5⟩
                    case measure => simp [intOf]; omega
                  · have hsub' : subT d x y = false := by simpa using hsub
                    have hn : Hid (R = false) := HF.out y hyb (by rw [hPy2.out]; exact hsub')
                    rw [hsub']
                    clear hsub hsub' hall hy hPy2
                    go_wp2
                    go_ret
                    exact ⟨by rw [hn.out]; rfl, hB5⟩
                · cases mx
                  · simp at hmm'
                  · clear hmm'
                    go_wp2_with fail
                    refine IC'.out.mono ?_
                    rintro e w5 ⟨rfl, hb5⟩
                    have hbw5 := (hbw3.alloc (show w.heap.size + 2 ≤ w3.heap.size by omega) (.cells #[.int .i64 x.kind, .string x.name, .int .i64 x.no, .bool true, .int .i64 x.most, .slice ax lx cx] 82)).trans (hb5.mono (by simp; omega))
                    have hB5 : Below w.heap.size w w5 := hBx.trans (hb5.mono hBx.size)
                    clear hb5 IC'
                    by_cases hsub : subT d x y = true
                    · have hall2 : Hid (∀ j z, j < i + 1 → b.kids[j]? = some z → P z = true) := fun j z hj hz => by
                        by_cases hji : j = i
                        · subst hji; rw [hy] at hz; cases hz; rw [hPy2.out]; exact hsub
                        · exact hall.out j z (by omega) hz
                      rw [hsub]
                      clear hsub hall hy hPy2
                      go_wp2
                      go_roundw
                      case rel => exact ⟨i + 1, by omega, by go_num, hall2, hbw5⟩
                      case measure => simp [intOf]; omega
                    · have hsub' : subT d x y = false := by simpa using hsub
                      have hn : Hid (R = false) := HF.out y hyb (by rw [hPy2.out]; exact hsub')
                      rw [hsub']
                      clear hsub hsub' hall hy hPy2
                      go_wp2
                      go_ret
                      exact ⟨by rw [hn.out]; rfl, hB5⟩
            · have hn : Hid (R = false) := HF.out y hyb (HP0.out y hfx)
              clear hfx hall hy
              go_wp2
              go_ret
              exact ⟨by rw [hn.out]; rfl, hB3.alloc hB3.size _⟩
          · have hke : i = b.kids.length := by omega
            have hn : Hid (R = true) := by
              show R = _
              rw [HR2.out, List.all_eq_true]
              intro y hy
              obtain ⟨j, hj, rfl⟩ := List.getElem_of_mem hy
              exact hall.out j _ (by omega) (List.getElem?_eq_getElem hj)
            subst hke
            have hge : ¬ ((b.kids.length : Int) < (b.kids.length : Int)) := by omega
            clear hall
            go_wp2
            go_ret
            exact ⟨by rw [hn.out]; rfl, hB0⟩

end Go.Proofs.Ytpajdmhakdbkjaa
