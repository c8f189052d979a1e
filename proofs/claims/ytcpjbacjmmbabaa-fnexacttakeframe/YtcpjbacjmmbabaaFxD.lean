/- Rows of bytes; the program's frames. -/
import Derived.Test.YtcpjbacjmmbabaaFxC
import Derived.Lib.AppendStr
import Derived.Lib.LazyBuf
namespace Go.Proofs.Ytcpjbacjmmbabaa
open Go.RowKit Plain Tpc Frm

theorem infoB8 : (Try.prog.info? 5).map (fun i => (i.zero, i.size, i.bytes)) = some (some (.int .u8 0), 1, 1) := by kernel_rfl

/-- a row of bytes of the call's own -/
def BRow (w : World) (B : Nat) (v : Value) (l : List UInt8) : Prop := w.ownsRow B 5 1 v l.length (Lib.byteCells l)

theorem BRow.form {w : World} {B : Nat} {v : Value} {l : List UInt8} (h : BRow w B v l) : ∃ ao cap, v = Value.slice ao l.length cap ∧ l.length ≤ cap ∧ cap ≤ maxLen := by
  rcases h.2 with ⟨rfl, h0⟩ | ⟨g, cap, _, rfl, _, _, h1, h2, _⟩
  · exact ⟨none, 0, by rw [h0], by omega, by unfold maxLen; omega⟩
  · exact ⟨_, _, rfl, h1, h2⟩

theorem byteCells_len (l : List UInt8) : (Lib.byteCells l).length = l.length := by simp [Lib.byteCells]
theorem strCells_ul (s : ByteArray) : Lib.strCells s = Lib.byteCells (ul s) := rfl
theorem byteCells_app (a b : List UInt8) : Lib.byteCells (a ++ b) = Lib.byteCells a ++ Lib.byteCells b := by simp [Lib.byteCells]
theorem byteCells_at {l : List UInt8} {i : Nat} (h : i < l.length) : (Lib.byteCells l)[i]? = some (.int .u8 (((l.getD i 0).toNat : Nat) : Int)) := by
  simp [Lib.byteCells, List.getElem?_map, List.getElem?_eq_getElem h, List.getD]

theorem BRow.nil (w : World) (B : Nat) : BRow w B (.slice none 0 0) [] := ⟨rfl, .inl ⟨rfl, rfl⟩⟩

theorem BRow.conv {w : World} {B : Nat} {v : Value} {l : List UInt8} (h : BRow w B v l) : (convert 51 9 v).run Try.prog w = .ok (.string (tx l)) w := by
  rcases h.2 with ⟨rfl, h0⟩ | ⟨g, cap, cur, rfl, _⟩
  · obtain rfl := List.length_eq_zero_iff.1 h0
    kernel_rfl
  · rw [run_convert_bytes_arg w 51 5 Try.underlying51 Try.underlying5 g 0 l.length cap (l.map fun b => (b.toNat : Int)) (by rw [List.length_map]) (fun i hi => by
      rw [Nat.zero_add, World.ownsRow.cellAt h i (by omega), byteCells_at hi]
      simp [List.getElem?_map, List.getElem?_eq_getElem hi, List.getD]) 9 Try.underlying9]
    rw [Go.Lib.Lz.strOfNums_map]
    rfl

theorem BRow.below {w w' : World} {B : Nat} {v : Value} {l : List UInt8} (h : BRow w B v l) (hb : Below w.heap.size w w') : BRow w' B v l := own_belowY h hb

theorem BRow.one {w : World} {B : Nat} {v : Value} {l : List UInt8} {b : UInt8} {n : Nat} {xs : List Value} (h : w.ownsRow B 5 1 v n xs) (hn : n = l.length + 1) (hx : xs = Lib.byteCells l ++ [.int .u8 ((b.toNat : Nat) : Int)]) : BRow w B v (l ++ [b]) := by
  unfold BRow
  rw [List.length_append, List.length_singleton, byteCells_app]
  subst hn hx
  exact h

theorem made_two (w : World) (a b : UInt8) : (w.alloc (.cells #[.int .u8 ((a.toNat : Nat) : Int), .int .u8 ((b.toNat : Nat) : Int)] 5)).ownsRow w.heap.size 5 1 (.slice (some ⟨w.heap.size, 0, none⟩) 2 2) 2 (Lib.byteCells [a, b]) :=
  ⟨by simp [Lib.byteCells], .inr ⟨w.heap.size, 2, _, rfl, Nat.le_refl _, heap_alloc_new w _, Nat.le_refl _, by unfold maxLen; omega, rfl, by simp [Lib.byteCells]⟩⟩

set_option maxRecDepth 100000 in
set_option maxHeartbeats 4000000 in
theorem frameOf_any (s : ByteArray) (w : World) (hs : s.size ≤ 60) :
    Calls Try.prog 48 #[.string s] w fun e w' => e = .returned (.string (frm s)) ∧ Below w.heap.size w w' := by
  obtain ⟨i0, hi, hz0, hz1, hz2⟩ := info_parts infoB8
  have C : Hid (∀ W : World, Calls Try.prog 46 #[.string s] W fun e w' => e = .returned (.int .i64 ((fsum (ul s) : Nat) : Int)) ∧ w' = W) := fun W => frameSum_any s W (by unfold maxLen; omega)
  have hr := fsum_lt (ul s)
  have HE : Hid (tx (([126, UInt8.ofNat s.size] ++ ul s) ++ [UInt8.ofNat (fsum (ul s))]) = frm s) := ul_inj (by
    rw [ul_tx, ul_frm]
    unfold frame
    rw [ul_len]
    simp)
  generalize fsum (ul s) = r at C HE hr
  have hw1 : IntKind.u8.wrap (s.size : Int) = (s.size : Int) := by rw [IntKind.wrap_u8]; omega
  have hw2 : IntKind.u8.wrap (r : Int) = (r : Int) := by rw [IntKind.wrap_u8]; omega
  have hn1 : (UInt8.ofNat s.size).toNat = s.size := u8_nat (by omega)
  have hn2 : (UInt8.ofNat r).toNat = r := u8_nat (by omega)
  have hm := made_two w 126 (UInt8.ofNat s.size)
  rw [hn1] at hm
  have HM : Hid ((w.alloc (.cells #[.int .u8 126, .int .u8 (s.size : Int)] 5)).ownsRow w.heap.size 5 1 (.slice (some ⟨w.heap.size, 0, none⟩) 2 2) 2 (Lib.byteCells [126, UInt8.ofNat s.size])) := hm
  clear hm
  go_enter Try.func48, Try.ntmps48
  go_wp2_with (at_builtin; refine Lib.wpList_append_own_string _ rfl _ _ 51 9 rfl w.heap.size 5 i0 Try.underlying51 Try.underlying9 hi hz0 hz1 hz2 _ _ _ rfl HM.out s rfl ?c1 ?c2 ?c3 ?_)
  case c1 => unfold maxLen; omega
  case c2 => omega
  case c3 => simp
  intro v' w2 hown' hgrow _
  have hB2 : Below w.heap.size w w2 := ((Below.refl _ w).alloc (Nat.le_refl _) _).grown hgrow (by simp) (fun k hk => by simp [Value.ownBlock] at hk; omega)
  have hrow : Hid (BRow w2 w.heap.size v' ([126, UInt8.ofNat s.size] ++ ul s)) := by
    show BRow _ _ _ _
    unfold BRow
    rw [byteCells_app]
    rw [show ([126, UInt8.ofNat s.size] ++ ul s).length = 2 + s.size by rw [List.length_append, ul_len]; rfl]
    exact hown'
  clear hown' hgrow HM
  generalize hl : [126, UInt8.ofNat s.size] ++ ul s = l at hrow HE
  have hll : l.length ≤ 62 := by rw [← hl, List.length_append, ul_len]; show 2 + s.size ≤ 62; omega
  clear hl
  obtain ⟨ao, cap, rfl, _, _⟩ := hrow.out.form
  go_wp2_with fail
  go_at_call 46
  refine (C.out _).mono ?_
  rintro e w' ⟨rfl, h0⟩
  have h0 := h0.symm
  subst h0
  go_wp2_with (at_builtin; refine wpList_append_lies _ rfl _ _ 51 rfl w.heap.size 5 i0 (.int .u8 0) 1 1 Try.underlying51 hi hz0 hz1 hz2 rfl (by decide) _ l.length _ rfl (World.ownsRow.alloc hrow.out _) ⟨w2.heap.size, 0, none⟩ 1 1 [Value.int .u8 (r : Int)] rfl rfl (World.news_of_block (heap_alloc_new w2 _)) (by intro u hu; simp at hu; subst hu; rfl) (by omega) (by unfold maxLen; omega) (by omega) (by have := hB2.size; simp; omega) (w2.heap.size + 1) (by simp) ?_; intro g9 cap9 w9 hown9 hgrow9 hat9 hlt9; have hR9 : BRow w9 w.heap.size (.slice (some ⟨g9, 0, none⟩) (l.length + 1) cap9) (l ++ [UInt8.ofNat r]) := BRow.one hown9 rfl (by rw [hn2]); have hcv := hR9.conv; have hB9 : Below w.heap.size w w9 := (hB2.alloc hB2.size _).grown hgrow9 (by have := hB2.size; simp; omega) (fun k hk => (World.ownsRow.lt hrow.out k hk).1); have HB9 : Hid (Below w.heap.size w w9) := hB9; clear hB9 hown9 hgrow9 hat9 hlt9 hR9)
  go_ret
  exact ⟨congrArg (fun x => Ending.returned (.string x)) HE.out, HB9.out⟩

/-- what FrameOf tells -/
theorem specFrameOf (s : ByteArray) (w : World) (hs : s.size ≤ maxLen) :
    Calls Try.prog 15 #[.string s] w fun e w' => e = .returned (.tuple #[.string (if s.size ≤ 60 then frm s else ⟨#[]⟩), .bool (decide (s.size ≤ 60))]) ∧ Below w.heap.size w w' := by
  unfold maxLen at hs
  by_cases h : s.size ≤ 60
  · have C := l14Frame_any s w h
    generalize frm s = r at C ⊢
    rw [if_pos h, decide_eq_true h]
    have h' : ¬ ((60 : Int) < (s.size : Int)) := by omega
    go_enter Try.func15, Try.ntmps15
    go_wp2_with fail
    go_at_call 47
    refine C.mono ?_
    rintro e w' ⟨rfl, hb⟩
    go_wp2_with fail
    go_ret2
    exact ⟨rfl, hb⟩
  · rw [if_neg h, decide_eq_false h]
    have h' : ((60 : Int) < (s.size : Int)) := by omega
    go_enter Try.func15, Try.ntmps15
    go_wp2_with fail
    go_ret2
    exact ⟨rfl, Below.refl _ _⟩

theorem implFrameOf (s : ByteArray) (w : World) (hs : s.size ≤ maxLen) :
    Calls Try.prog 16 #[.string s] w fun e w' => e = .returned (.tuple #[.string (if s.size ≤ 60 then frm s else ⟨#[]⟩), .bool (decide (s.size ≤ 60))]) ∧ Below w.heap.size w w' := by
  unfold maxLen at hs
  by_cases h : s.size ≤ 60
  · have C := frameOf_any s w h
    generalize frm s = r at C ⊢
    rw [if_pos h, decide_eq_true h]
    have h' : ¬ ((60 : Int) < (s.size : Int)) := by omega
    go_enter Try.func16, Try.ntmps16
    go_wp2_with fail
    go_at_call 48
    refine C.mono ?_
    rintro e w' ⟨rfl, hb⟩
    go_wp2_with fail
    go_ret2
    exact ⟨rfl, hb⟩
  · rw [if_neg h, decide_eq_false h]
    have h' : ((60 : Int) < (s.size : Int)) := by omega
    go_enter Try.func16, Try.ntmps16
    go_wp2_with fail
    go_ret2
    exact ⟨rfl, Below.refl _ _⟩

end Go.Proofs.Ytcpjbacjmmbabaa
