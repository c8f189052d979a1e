/- The program's reading of a stream: all bytes through a channel. -/
import Derived.Test.YtcpjbacjmmbabaaFxG
import Derived.Conc.LoneCalls
import Derived.Conc.LoneSelect
import Derived.KernelRfl
namespace Go.Proofs.Ytcpjbacjmmbabaa
open Go.RowKit Plain Tpc Frm Go.Conc

theorem LoneTo.calleeF {P : Program} {Q : Goroutine → World → Prop} {f : FuncId} {args : Array Value} {w : World} {R : Ending → World → Prop} {fr : Frame} {cs : List Frame} (h : Calls P f args w R)
    (hq : ∀ e w', R e w' → ∃ v, e = .returned v ∧ LoneTo P Q (G (fr.finish v) cs) w') : LoneTo P Q (G (Frame.enter P f args .normal) (fr :: cs)) w := by
  obtain ⟨e, w', fr', hR, hc, _, hl⟩ := h (fr :: cs)
  obtain ⟨v, rfl, g', w2, hs, hq'⟩ := hq e w' hR
  exact ⟨g', w2, Steps.trans hc (Steps.head (step_leave_returned hl) hs), hq'⟩

theorem LoneTo.callF {P : Program} {Q : Goroutine → World → Prop} {b : Frame} {a : Act} {ops : Array Oper} {i : Nat} {rest : List Nat} {k : List Item} {cs : List Frame} {w : World} {o : Oper} {f : FuncId} {fn : Func} {args : Array Operand} {ats : Array TypeId} {R : Ending → World → Prop}
    (ho : ops[i]? = some o) (hw : Region.wanted o (yielded ops a.tmps) = true) (hk : b.kind ≠ .early) (hop : o.op = .call { callee := .value (.func f), args, argTypes := ats })
    (hf : P.funcs[f]? = some fn) (hname : (fn.name == "runtime.NumGoroutine") = false) (hb : fn.body.isNone = false) (hC : Calls P f (args.map a.eval) w R)
    (hq : ∀ e w', R e w' → ∃ v, e = .returned v ∧ LoneTo P Q (G (b.at (a.put ((ops[i]?).bind (·.dst)) v) (.inRegion ops rest :: k)) cs) w') : LoneTo P Q (G (b.at a (.inRegion ops (i :: rest) :: k)) cs) w := by
  refine LoneTo.step (step_solo_go rfl (stepG_enter ho hw hk (run_call_body hop hf hname hb))) ?_
  refine LoneTo.calleeF hC fun e w' hR => ?_
  obtain ⟨v, he, h⟩ := hq e w' hR
  refine ⟨v, he, ?_⟩
  rw [Frame.finish_at]
  exact h

theorem bytesCh : ∃ i, Try.prog.info? 5 = some i ∧ i.bytes = 1 := by
  have h : (Try.prog.info? 5).map (·.bytes) = some 1 := by kernel_rfl
  obtain ⟨i, hi, hb⟩ := Option.map_eq_some_iff.1 h
  exact ⟨i, hi, hb⟩

theorem mkCh (n : Nat) (hn : n ≤ 1000000) (w : World) : (Instr.makeChan 75 (.int .i64 (n : Int))).run Try.prog w = .ok (.chan (some w.heap.size)) (w.alloc (.chan n #[] false 0 0 false)) := by
  obtain ⟨i, hi, hb⟩ := bytesCh
  exact run_makeChan (P := Try.prog) (w := w) Try.underlying75 hi .i64 n (by omega) (by rw [hb]; omega)

def sndSeqF : Code → Code | .seq _ b => b | c => c
def fstSeqF : Code → Code | .seq a _ => a | c => c
def unBlockF : Code → Code | .block _ c => c | c => c
def unLoopF : Code → Code | .loop c => c | c => c
/-- the bodies of both loops, and what follows the first: taken out of the loaded function -/
noncomputable def chB1 : Code := unLoopF (unBlockF (sndSeqF (fstSeqF (sndSeqF (Try.f50.body.getD .skip)))))
noncomputable def chAfter : Code := sndSeqF (sndSeqF (Try.f50.body.getD .skip))
noncomputable def chB2 : Code := unLoopF (unBlockF chAfter)

/-- what the channel holds -/
def chBuf (l : List UInt8) : Array Value := (Lib.byteCells l).toArray

theorem chBuf_head (x : UInt8) (l : List UInt8) : (chBuf (x :: l)).getD 0 undef = .int .u8 ((x.toNat : Nat) : Int) := by simp [chBuf, Lib.byteCells]
theorem chBuf_tail (x : UInt8) (l : List UInt8) : (chBuf (x :: l)).extract 1 (chBuf (x :: l)).size = chBuf l := by
  simp [chBuf, Lib.byteCells]
  rw [List.take_of_length_le (by simp)]
theorem chBuf_size (l : List UInt8) : (chBuf l).size = l.length := by simp [chBuf, Lib.byteCells]
theorem chBuf_push (l : List UInt8) (x : UInt8) : (chBuf l).push (.int .u8 ((x.toNat : Nat) : Int)) = chBuf (l ++ [x]) := by simp [chBuf, Lib.byteCells]

/-- what the call comes to -/
def ChEnds (cs : List Frame) (R : World → Prop) (g' : Goroutine) (w' : World) : Prop := ∃ e fr, g' = G fr cs ∧ (e = .returned (.tuple #[]) ∧ R w') ∧ fr.fn = 50 ∧ fr.leaving Try.prog w' e

/-- all bytes taken: texts as such -/
def tksT (T : List ByteArray) (r : List UInt8) (bad : Bool) : List UInt8 → List ByteArray × List UInt8 × Bool
  | [] => (T, r, bad)
  | x :: l => tksT (tkT T r bad x).1 (tkT T r bad x).2.1 (tkT T r bad x).2.2 l

theorem tkT_sizes (T : List ByteArray) (r : List UInt8) (bad : Bool) (x : UInt8) : (tkT T r bad x).2.1.length ≤ r.length + 1 ∧ (tkT T r bad x).1.length ≤ T.length + 1 := by
  unfold tkT tl
  split
  · exact ⟨by simp, by simp⟩
  · split
    · exact ⟨by simp, by simp⟩
    · split
      · split
        · exact ⟨by simp, by simp⟩
        · exact ⟨by simp, by simp⟩
      · exact ⟨by simp, by simp⟩

theorem Um.setChan {w : World} {b B : Nat} {vt vr : Value} {T : List ByteArray} {rest : List UInt8} {bad : Bool} (h : Um w b B vt vr T rest bad) {c : Nat} (hcb : c ≠ b) (hct : ∀ g, vt.ownBlock = some g → g ≠ c) (hcr : ∀ g, vr.ownBlock = some g → g ≠ c) (cap : Nat) (buf : Array Value) (cl : Bool) (s r : Nat) (tm : Bool) :
    Um (w.setChan c cap buf cl s r tm) b B vt vr T rest bad := by
  have hb : ∀ j, j ≠ c → (w.setChan c cap buf cl s r tm).heap[j]? = w.heap[j]? := fun j hj => by
    simp only [World.setChan]
    rw [Array.getElem?_setIfInBounds_ne (by omega)]
  obtain ⟨h1, h2, h3, h4, h5, h6, h7, h8, h9, h10, h11, h12⟩ := h
  have hbb := hb b (fun e => hcb e.symm)
  have own : ∀ {e size n : Nat} {v : Value} {xs : List Value}, w.ownsRow B e size v n xs → (∀ g, v.ownBlock = some g → g ≠ c) → (w.setChan c cap buf cl s r tm).ownsRow B e size v n xs := by
    intro e size n v xs h hv
    refine ⟨h.1, ?_⟩
    rcases h.2 with hn | ⟨g, cap', cur, hvv, hg, hgg, rest⟩
    · exact .inl hn
    · exact .inr ⟨g, cap', cur, hvv, hg, (hb g (hv g (by rw [hvv]; rfl))).trans hgg, rest⟩
  exact ⟨by rw [size_setChan]; exact h1, (World.cell?_of_block (w := w) hbb).trans h2, (World.cell?_of_block (w := w) hbb).trans h3, (World.cell?_of_block (w := w) hbb).trans h4, (World.frozen?_of_block (w := w) hbb).trans h5, (World.frozen?_of_block (w := w) hbb).trans h6, (World.frozen?_of_block (w := w) hbb).trans h7, own h8 hct, h9.kept (fun g hg => hb g (hcr g hg)), h10, h11, h12⟩

theorem Pu.setChan {w0 w : World} {b c : Nat} {vt vr vt' vr' : Value} (h : Pu w0 w b vt vr vt' vr') (hc : w0.heap.size ≤ c) (cap : Nat) (buf : Array Value) (cl : Bool) (s r : Nat) (tm : Bool) : Pu w0 (w.setChan c cap buf cl s r tm) b vt vr vt' vr' := by
  obtain ⟨h1, h2, h3, h4, h5, h6, h7⟩ := h
  refine ⟨h1, h2, h3, by rw [size_setChan]; exact h4, fun j hj hb ht hr => ?_, h6, h7⟩
  rw [← h5 j hj hb ht hr]
  simp only [World.setChan]
  rw [Array.getElem?_setIfInBounds_ne (by omega)]

set_option maxRecDepth 100000 in
set_option maxHeartbeats 4000000 in
/-- the second loop: as long as there is a byte it is taken -/
theorem chLoop2 (w0 : World) (b B c n : Nat) (vt0 vr0 : Value) (s : ByteArray) (cs : List Frame) (hBw : B ≤ w0.heap.size) (hc : w0.heap.size ≤ c) (hb0 : b < w0.heap.size) :
    ∀ (l : List UInt8) (k : Nat) (w : World) (vt vr : Value) (T : List ByteArray) (r : List UInt8) (bad : Bool) (j2 j3 j5 j6 j7 j8 j9 j10 j11 j12 j13 j14 j15 j16 j17 j18 j19 j20 j21 j22 j23 j24 j25 j26 j27 : Value),
      Um w b B vt vr T r bad → Pu w0 w b vt0 vr0 vt vr → (∀ g, vt.ownBlock = some g → g ≠ c) → (∀ g, vr.ownBlock = some g → g ≠ c) → c < w.heap.size → w.heap[c]? = some (.chan n (chBuf l) false n k false) → r.length + l.length ≤ 1000 → T.length + l.length ≤ 1000000 →
      LoneTo Try.prog (ChEnds cs fun w' => ∃ vt' vr', Um w' b B vt' vr' (tksT T r bad l).1 (tksT T r bad l).2.1 (tksT T r bad l).2.2 ∧ Pu w0 w' b vt0 vr0 vt' vr')
        (G ((base 50).at ⟨#[.pointer (some ⟨b, 0, none⟩), .string s, j2, j3, .chan (some c), j5, j6, j7, j8, j9, j10, j11, j12, j13, j14, j15, j16, j17, j18, j19, j20, j21, j22, j23, j24, j25, j26, j27], []⟩ [.code chB2, .inLoop chB2, .inBlock 2]) cs) w := by
  intro l
  induction l with
  | nil =>
    intro k w vt vr T r bad j2 j3 j5 j6 j7 j8 j9 j10 j11 j12 j13 j14 j15 j16 j17 j18 j19 j20 j21 j22 j23 j24 j25 j26 j27 hU hP hct hcr hcw hch hr hT
    refine LoneTo.goes (n := 40) ?_
    simp only [chB2, chAfter, Try.f50, Option.getD_some, sndSeqF, unBlockF, unLoopF]
    s_c stepG_block
    s_c stepG_seq
    s_reg
    s_op
    s_c stepG_region_end
    s_c stepG_seq
    s_reg
    s_stop
    refine LoneTo.step (step_lone_select_default (c := c) (z := .int .u8 0) (cap := n) (s := n) (r := k) (tm := false) (stepG_comm (cases := #[rcase c (.int .u8 0)]) (blocking := false) (shape := .select) (w' := w) rfl rfl (by decide) (by simp [go_sem, execOp, rcase, Act.eval])) hch) ?_
    rw [Frame.finish_at]
    walk_nrm
    refine LoneTo.goes (n := 20) ?_
    s_op
    s_op
    s_c stepG_region_end
    s_c stepG_block
    s_cond false
    s_c stepG_ret'
    s_stop
    exact LoneTo.done ⟨.returned (.tuple #[]), _, rfl, ⟨rfl, vt, vr, hU, hP⟩, rfl, rfl, rfl, rfl, _, Try.func50, by simp [results, Try.f50, Frame.at]⟩
  | cons x l ih =>
    intro k w vt vr T r bad j2 j3 j5 j6 j7 j8 j9 j10 j11 j12 j13 j14 j15 j16 j17 j18 j19 j20 j21 j22 j23 j24 j25 j26 j27 hU hP hct hcr hcw hch hr hT
    have hcb : c ≠ b := by omega
    have hlen : (x :: l).length = l.length + 1 := rfl
    refine LoneTo.goes (n := 40) ?_
    simp only [chB2, chAfter, Try.f50, Option.getD_some, sndSeqF, unBlockF, unLoopF]
    s_c stepG_block
    s_c stepG_seq
    s_reg
    s_op
    s_c stepG_region_end
    s_c stepG_seq
    s_reg
    s_stop
    refine LoneTo.step (step_lone_select_recv_buf (c := c) (z := .int .u8 0) (cap := n) (buf := chBuf (x :: l)) (closed := false) (s := n) (r := k) (tm := false) (stepG_comm (cases := #[rcase c (.int .u8 0)]) (blocking := false) (shape := .select) (w' := w) rfl rfl (by decide) (by simp [go_sem, execOp, rcase, Act.eval])) hch (by rw [chBuf_size]; simp)) ?_
    rw [chBuf_head, chBuf_tail, Frame.finish_at]
    have hU1 := hU.setChan hcb hct hcr n (chBuf l) false n (k + 1) false
    have hP1 := hP.setChan hc n (chBuf l) false n (k + 1) false
    have hch1 := heap_setChan w c n (chBuf l) false n (k + 1) false hcw
    have hcw1 : c < (w.setChan c n (chBuf l) false n (k + 1) false).heap.size := by rw [size_setChan]; exact hcw
    generalize w.setChan c n (chBuf l) false n (k + 1) false = w1 at hU1 hP1 hch1 hcw1 ⊢
    have hs1 := hP1.size
    have CT := take_any w1 b B vt vr T r bad x hU1 (by omega) (by omega) (by omega)
    obtain ⟨z1, z2⟩ := tkT_sizes T r bad x
    walk_nrm
    refine LoneTo.goes (n := 30) ?_
    s_op
    s_op
    s_c stepG_region_end
    s_c stepG_block
    s_cond true
    s_c stepG_seq
    s_reg
    s_op
    s_op
    s_c stepG_region_end
    s_reg
    s_op
    s_op
    s_stop
    refine LoneTo.callF rfl rfl (by decide) rfl Try.func62 (by decide +kernel) rfl (R := fun e w' => e = .returned (.tuple #[]) ∧ ∃ vt' vr', Um w' b B vt' vr' (tkT T r bad x).1 (tkT T r bad x).2.1 (tkT T r bad x).2.2 ∧ Pu w1 w' b vt vr vt' vr') (by walk_nrm; exact CT) ?_
    rintro e w2 ⟨rfl, vt2, vr2, hU2, hP2⟩
    refine ⟨_, rfl, ?_⟩
    walk_nrm
    have hs2 := hP2.size
    have hct2 : ∀ g, vt2.ownBlock = some g → g ≠ c := fun g hg => by
      rcases hP2.newT g hg with h | h
      · exact hct g h
      · omega
    have hcr2 : ∀ g, vr2.ownBlock = some g → g ≠ c := fun g hg => by
      rcases hP2.newR g hg with h | h
      · exact hcr g h
      · omega
    have hch2 : w2.heap[c]? = some (.chan n (chBuf l) false n (k + 1) false) := (hP2.block c hcw1 hcb (fun e => hct c e.symm rfl) (fun e => hcr c e.symm rfl)).trans hch1
    refine LoneTo.goes (n := 30) ?_
    s_c stepG_region_end
    s_c stepG_inBlock
    s_c stepG_inBlock
    s_c stepG_inLoop
    s_stop
    exact ih (k + 1) w2 vt2 vr2 _ _ _ _ _ _ _ _ _ _ _ _ _ _ _ _ _ _ _ _ _ _ _ _ _ _ _ _ hU2 (hP1.trans hP2) hct2 hcr2 (by omega) hch2 (by omega) (by omega)

set_option maxRecDepth 100000 in
set_option maxHeartbeats 4000000 in
/-- the first loop: all bytes are sent -/
theorem chLoop1 (w0 : World) (b B c : Nat) (vt vr : Value) (T : List ByteArray) (r : List UInt8) (bad : Bool) (s : ByteArray) (cs : List Frame) (hBw : B ≤ w0.heap.size) (hc : w0.heap.size ≤ c) (hb0 : b < w0.heap.size) (hs : s.size ≤ 900)
    (hct : ∀ g, vt.ownBlock = some g → g ≠ c) (hcr : ∀ g, vr.ownBlock = some g → g ≠ c) (hr : r.length + s.size ≤ 1000) (hT : T.length + s.size ≤ 1000000) :
    ∀ (m i : Nat) (w : World) (j2 j3 j5 j6 j7 j8 j9 j10 j13 j14 j15 j16 j17 j18 j19 j20 j21 j22 j23 j24 j25 j26 j27 : Value),
      i + m = s.size → Um w b B vt vr T r bad → Pu w0 w b vt vr vt vr → c < w.heap.size → w.heap[c]? = some (.chan s.size (chBuf ((ul s).take i)) false i 0 false) →
      LoneTo Try.prog (ChEnds cs fun w' => ∃ vt' vr', Um w' b B vt' vr' (tksT T r bad (ul s)).1 (tksT T r bad (ul s)).2.1 (tksT T r bad (ul s)).2.2 ∧ Pu w0 w' b vt vr vt' vr')
        (G ((base 50).at ⟨#[.pointer (some ⟨b, 0, none⟩), .string s, j2, j3, .chan (some c), j5, j6, j7, j8, j9, j10, .int .i64 (s.size : Int), .int .i64 (i : Int), j13, j14, j15, j16, j17, j18, j19, j20, j21, j22, j23, j24, j25, j26, j27], []⟩ [.code chB1, .inLoop chB1, .inBlock 0, .code chAfter]) cs) w := by
  intro m
  induction m with
  | zero =>
    intro i w j2 j3 j5 j6 j7 j8 j9 j10 j13 j14 j15 j16 j17 j18 j19 j20 j21 j22 j23 j24 j25 j26 j27 hi hU hP hcw hch
    obtain rfl : i = s.size := by omega
    have hge : ¬ ((s.size : Int) < (s.size : Int)) := by omega
    refine LoneTo.goes (n := 30) ?_
    simp only [chB1, chAfter, Try.f50, Option.getD_some, sndSeqF, fstSeqF, unBlockF, unLoopF]
    s_c stepG_seq
    s_reg
    s_op
    s_c stepG_region_end
    s_c stepG_seq
    s_cond false
    s_exit
    s_c stepG_block
    s_c stepG_loop
    s_stop
    rw [List.take_of_length_le (Nat.le_of_eq (ul_len s))] at hch
    exact chLoop2 w0 b B c s.size vt vr s cs hBw hc hb0 (ul s) 0 w vt vr T r bad _ _ _ _ _ _ _ _ _ _ _ _ _ _ _ _ _ _ _ _ _ _ _ _ _ hU hP hct hcr hcw hch (by rw [ul_len]; exact hr) (by rw [ul_len]; exact hT)
  | succ m ih =>
    intro i w j2 j3 j5 j6 j7 j8 j9 j10 j13 j14 j15 j16 j17 j18 j19 j20 j21 j22 j23 j24 j25 j26 j27 hi hU hP hcw hch
    have hlt : i < s.size := by omega
    have hltI : (i : Int) < (s.size : Int) := by omega
    have ixs := idxL s i hlt
    have hx : bt s i = ((ul s).getD i 0).toNat := bt_ul s i
    rw [hx] at ixs
    have htk : (ul s).take (i + 1) = (ul s).take i ++ [(ul s).getD i 0] := by
      rw [List.take_add_one, List.getD_eq_getElem?_getD, ul_at s i hlt]
      rfl
    generalize (ul s).getD i 0 = x at ixs htk
    have hlen : ((ul s).take i).length = i := by rw [List.length_take, ul_len]; omega
    have hcb : c ≠ b := by omega
    have hw1 : IntKind.i64.wrap ((i : Int) + 1) = (i : Int) + 1 := by rw [IntKind.wrap_i64]; omega
    refine LoneTo.goes (n := 60) ?_
    simp only [chB1, chAfter, Try.f50, Option.getD_some, sndSeqF, fstSeqF, unBlockF, unLoopF]
    s_c stepG_seq
    s_reg
    s_op
    s_c stepG_region_end
    s_c stepG_seq
    s_cond true
    s_c stepG_skip
    s_c stepG_seq
    s_c stepG_block
    s_c stepG_seq
    s_reg
    s_op
    s_op
    s_c stepG_region_end
    s_reg
    s_op
    s_op
    s_op
    s_op
    s_stop
    refine LoneTo.step (step_lone_send_room (c := c) (cap := s.size) (buf := chBuf ((ul s).take i)) (v := .int .u8 ((x.toNat : Nat) : Int)) (s := i) (r := 0) (tm := false) (stepG_comm (cases := #[scase c (.int .u8 ((x.toNat : Nat) : Int)) (.tuple #[])]) (blocking := true) (shape := .send) (w' := w) rfl rfl (by decide) (by simp [execOp, scase, Act.eval])) hch (by rw [chBuf_size, hlen]; exact hlt)) ?_
    rw [chBuf_push, ← htk, Frame.finish_at]
    have hU1 := hU.setChan hcb hct hcr s.size (chBuf ((ul s).take (i + 1))) false (i + 1) 0 false
    have hP1 := hP.setChan hc s.size (chBuf ((ul s).take (i + 1))) false (i + 1) 0 false
    have hch1 := heap_setChan w c s.size (chBuf ((ul s).take (i + 1))) false (i + 1) 0 false hcw
    have hcw1 : c < (w.setChan c s.size (chBuf ((ul s).take (i + 1))) false (i + 1) 0 false).heap.size := by rw [size_setChan]; exact hcw
    generalize w.setChan c s.size (chBuf ((ul s).take (i + 1))) false (i + 1) 0 false = w1 at hU1 hP1 hch1 hcw1 ⊢
    walk_nrm
    refine LoneTo.goes (n := 30) ?_
    s_c stepG_region_end
    s_c stepG_inBlock
    s_reg
    s_op
    s_op
    s_c stepG_region_end
    s_c stepG_inLoop
    s_stop
    exact ih (i + 1) w1 _ _ _ _ _ _ _ _ _ _ _ _ _ _ _ _ _ _ _ _ _ _ _ (by omega) hU1 hP1 hcw1 hch1

set_option maxRecDepth 100000 in
set_option maxHeartbeats 4000000 in
/-- all bytes of a text are taken -/
theorem takeAll_any (w : World) (b B : Nat) (vt vr : Value) (T : List ByteArray) (r : List UInt8) (bad : Bool) (s : ByteArray) (h : Um w b B vt vr T r bad) (hBw : B ≤ w.heap.size) (hs : s.size ≤ 900) (hr : r.length + s.size ≤ 1000) (hT : T.length + s.size ≤ 1000000) :
    Calls Try.prog 50 #[.pointer (some ⟨b, 0, none⟩), .string s] w fun e w' => e = .returned (.tuple #[]) ∧ ∃ vt' vr', Um w' b B vt' vr' (tksT T r bad (ul s)).1 (tksT T r bad (ul s)).2.1 (tksT T r bad (ul s)).2.2 ∧ Pu w w' b vt vr vt' vr' := by
  refine calls_of_loneTo fun cs => ?_
  have e : Frame.enter Try.prog 50 #[.pointer (some ⟨b, 0, none⟩), .string s] .normal = (base 50).at ⟨#[.pointer (some ⟨b, 0, none⟩), .string s, undef, undef, undef, undef, undef, undef, undef, undef, undef, undef, undef, undef, undef, undef, undef, undef, undef, undef, undef, undef, undef, undef, undef, undef, undef, undef], []⟩ [.code (Try.f50.body.getD .skip)] := by
    simp [Frame.enter, Frame.at, Try.func50, base, Try.f50]
  rw [e]
  have hmc := mkCh s.size (by omega)
  have hBe : Below w.heap.size w (w.alloc (.chan s.size #[] false 0 0 false)) := (Below.refl _ w).alloc (Nat.le_refl _) _
  have hlT := World.ownsRow.lt h.ownT
  have hlR := h.ownR.lt
  have hb0 := h.low
  refine LoneTo.goes (n := 60) ?_
  simp only [Try.f50, Option.getD_some]
  s_c stepG_seq
  s_reg
  s_op
  s_op
  s_op
  s_op
  s_c stepG_region_end
  s_c stepG_seq
  s_c stepG_seq
  s_reg
  s_op
  s_op
  s_op
  s_c stepG_region_end
  s_c stepG_block
  s_c stepG_loop
  s_stop
  exact chLoop1 w b B w.heap.size vt vr T r bad s cs hBw (Nat.le_refl _) hb0 hs (fun g hg => by have := (hlT g hg).2; omega) (fun g hg => by have := (hlR g hg).2; omega) hr hT s.size 0 (w.alloc (.chan s.size #[] false 0 0 false)) _ _ _ _ _ _ _ _ _ _ _ _ _ _ _ _ _ _ _ _ _ _ _ (by omega) (h.belowU hBe) (Pu.of_below hBe) (by simp) (heap_alloc_new _ _)

end Go.Proofs.Ytcpjbacjmmbabaa
