/- The model's looks at one type of a schema. The model's look at one part of a schema. The model's parts of a type; how its trees lie in memory. The model's tree of a type. A node of the model's trees as a value. -/
import Derived.Test.YtpopjapcgcnnfaaGb
import Derived.Deep.AppendLies
import Derived.Laws.ResultCell
import Derived.Laws.Rows
import Derived.Deep.RegionLaw
namespace Go.Proofs.Ytpopjapcgcnnfaa
open Go.RowKit Plain Sch

set_option maxRecDepth 100000 in
set_option maxHeartbeats 1000000 in
theorem l2Holds_any (kind : Int) (w : World) :
    Calls Try.prog 133 #[.int .i64 kind] w fun e w' => e = .returned (.bool (holds kind)) ∧ w' = w := by
  by_cases h4 : kind = 4
  · subst h4
    go_enter Try.func133, Try.ntmps133
    go_wp2
    go_ret
    exact ⟨rfl, rfl⟩
  · have d4 : (kind == 4) = false := by simpa using h4
    by_cases h5 : kind = 5
    · subst h5
      go_enter Try.func133, Try.ntmps133
      go_wp2
      go_ret
      exact ⟨rfl, rfl⟩
    · have d5 : (kind == 5) = false := by simpa using h5
      have hh : holds kind = false := by unfold holds; simp [h4, h5]
      rw [hh]
      go_enter Try.func133, Try.ntmps133
      go_wp2
      go_ret
      exact ⟨rfl, rfl⟩

set_option maxRecDepth 100000 in
set_option maxHeartbeats 1000000 in
theorem l1In_any (n lo hi : Int) (w : World) :
    Calls Try.prog 50 #[.int .i64 n, .int .i64 lo, .int .i64 hi] w fun e w' => e = .returned (.bool (decide (lo ≤ n ∧ n ≤ hi))) ∧ w' = w := by
  by_cases h1 : lo ≤ n
  · by_cases h2 : n ≤ hi
    · have hd : decide (lo ≤ n ∧ n ≤ hi) = true := by simp [h1, h2]
      rw [hd]
      clear hd
      go_enter Try.func50, Try.ntmps50
      go_wp2
      go_ret
      exact ⟨rfl, rfl⟩
    · have hd : decide (lo ≤ n ∧ n ≤ hi) = false := by simp [h2]
      rw [hd]
      have h2' : decide (n ≤ hi) = false := by simpa using h2
      clear hd h2
      go_enter Try.func50, Try.ntmps50
      go_wp2
      go_ret
      exact ⟨rfl, rfl⟩
  · have hd : decide (lo ≤ n ∧ n ≤ hi) = false := by simp [h1]
    rw [hd]
    have h1' : decide (lo ≤ n) = false := by simpa using h1
    clear hd h1
    go_enter Try.func50, Try.ntmps50
    go_wp2
    go_ret
    exact ⟨rfl, rfl⟩

set_option maxRecDepth 100000 in
set_option maxHeartbeats 4000000 in
theorem l2Name_any (s : ByteArray) (w : World) (hs : s.size ≤ maxLen) :
    Calls Try.prog 135 #[.string s] w fun e w' => e = .returned (.bool (isName s)) ∧ w' = w := by
  unfold maxLen at hs
  have hs' : (s.size : Int) ≤ 9223372036854775807 := by omega
  obtain ⟨R, hR⟩ : ∃ R, R = isName s := ⟨_, rfl⟩
  have HR : Hid (R = decide (1 ≤ s.size ∧ s.size ≤ 10 ∧ ∀ i, i < s.size → 97 ≤ bt s i ∧ bt s i ≤ 122)) := hR
  rw [← hR]
  clear hR hs
  go_enter Try.func135, Try.ntmps135
  go_wp2
  go_loopw [3] (fun vi wr => ∃ i : Nat, i ≤ s.size ∧ vi = .int .i64 (i : Int) ∧ Hid (∀ j, j < i → 97 ≤ bt s j ∧ bt s j ≤ 122) ∧ wr = w)
    (fun vi _ => s.size - (intOf vi).toNat)
  case atStart => exact ⟨0, by omega, rfl, fun j hj => by omega, rfl⟩
  case round =>
    obtain ⟨i, hi, rfl, hall, rfl⟩ := hrel
    by_cases hlt : i < s.size
    · have hlt' : (i : Int) < (s.size : Int) := by omega
      obtain ⟨x, hx⟩ : ∃ x, bt s i = x := ⟨_, rfl⟩
      have hx256 : x < 256 := by rw [← hx]; exact bt_lt s i
      have hrun : ∀ w : World, (Instr.index 9 (.string s) (.int .i64 (i : Int))).run Try.prog w = .ok (.int .u8 (x : Int)) w := fun w => index_atS s i i x w (by omega) rfl hlt hx
      have HX : Hid (bt s i = x) := hx
      clear hx
      by_cases ha : x < 97
      · have hn : Hid (R = false) := by
          show R = _
          rw [HR.out]
          simp only [decide_eq_false_iff_not]
          rintro ⟨_, _, h⟩
          have := (h i hlt).1
          rw [HX.out] at this
          omega
        have ha' : (x : Int) < 97 := by omega
        clear HR
        go_wp2
        go_ret
        exact ⟨by rw [hn.out]; rfl, rfl⟩
      · by_cases hz : 122 < x
        · have hn : Hid (R = false) := by
            show R = _
            rw [HR.out]
            simp only [decide_eq_false_iff_not]
            rintro ⟨_, _, h⟩
            have := (h i hlt).2
            rw [HX.out] at this
            omega
          have ha' : (97 : Int) ≤ (x : Int) := by omega
          have hz' : (122 : Int) < (x : Int) := by omega
          clear HR ha
          go_wp2
          go_ret
          exact ⟨by rw [hn.out]; rfl, rfl⟩
        · have ha' : (97 : Int) ≤ (x : Int) := by omega
          have hz' : (x : Int) ≤ 122 := by omega
          have hall2 : Hid (∀ j, j < i + 1 → 97 ≤ bt s j ∧ bt s j ≤ 122) := fun j hj => by
            by_cases hji : j = i
            · rw [hji, HX.out]; omega
            · exact hall.out j (by omega)
          clear ha hz
          go_wp2
          go_roundw
          case rel => exact ⟨i + 1, by omega, by go_num, hall2, trivial⟩
          case measure => simp [intOf]; omega
    · have hke : i = s.size := by omega
      subst hke
      have hge : ¬ ((s.size : Int) < (s.size : Int)) := by omega
      have hn : Hid (R = decide ((1 : Int) ≤ (s.size : Int) ∧ (s.size : Int) ≤ 10)) := by
        show R = _
        rw [HR.out, decide_eq_decide]
        constructor
        · rintro ⟨h1, h2, _⟩; omega
        · intro h; exact ⟨by omega, by omega, hall.out⟩
      go_wp2_with fail
      refine (l1In_any _ 1 10 _).mono ?_
      rintro e w1 ⟨rfl, rfl⟩
      rw [← hn.out]
      go_wp2
      go_ret
      exact ⟨rfl, rfl⟩

set_option maxRecDepth 100000 in
set_option maxHeartbeats 4000000 in
theorem l2Around_any (T : List Ty) (v : Value) (k : Nat) (w : World) (hT : TysAt w w.heap.size v T) (hk : k < T.length) (hk1 : 1 ≤ k) (hl : T.length ≤ 30) (hu : UpsTo T k) (hup0 : 0 ≤ (ty T k).up) :
    Calls Try.prog 134 #[v, .int .i64 k] w fun e w' => e = .returned (.bool (decide ((ty T k).up.toNat ∈ chain T (k - 1)))) ∧ w' = w := by
  obtain ⟨g, o, cap, rfl, hlc, hcm, hg, hrow, _⟩ := hT.open (by omega)
  clear hT
  obtain ⟨R, hR⟩ : ∃ R, R = decide ((ty T k).up.toNat ∈ chain T (k - 1)) := ⟨_, rfl⟩
  rw [← hR]
  have HR : Hid (R = decide ((ty T k).up.toNat ∈ chain T (k - 1))) := hR
  clear hR
  have HU : Hid (UpsTo T k) := hu
  clear hu
  have hk' : (k : Int) < (T.length : Int) := by omega
  have hk0' : (0 : Int) ≤ (k : Int) := by omega
  obtain ⟨up, hup⟩ : ∃ x, (ty T k).up = x := ⟨_, rfl⟩
  have HUP : Hid ((ty T k).up = up) := hup
  have hck := (hrow k hk).2.2.2.2.1
  rw [hup] at hck hup0
  clear hup
  go_enter Try.func134, Try.ntmps134
  go_wp2
  go_loopw [5] (fun va wr => ∃ (a : Int), va = .int .i64 a ∧ Hid ((a = -1 ∧ ¬ (up.toNat ∈ chain T (k - 1))) ∨ ∃ j : Nat, a = (j : Int) ∧ j < k ∧ ((up.toNat ∈ chain T (k - 1)) ↔ (up.toNat ∈ chain T j))) ∧ wr = w)
    (fun va _ => (intOf va + 1).toNat)
  case atStart => exact ⟨(k : Int) - 1, by go_num, .inr ⟨k - 1, by omega, by omega, Iff.rfl⟩, rfl⟩
  case round =>
    obtain ⟨a, rfl, hst, rfl⟩ := hrel
    rcases hst.out with ⟨rfl, hno⟩ | ⟨j, rfl, hjk, hiff⟩
    · have hn : Hid (R = false) := by
        show R = _
        rw [HR.out, HUP.out]
        simpa using hno
      clear hst hno
      go_wp2
      go_ret
      exact ⟨by rw [hn.out]; rfl, rfl⟩
    · clear hst
      have hjl : j < T.length := by omega
      have hc4 := (hrow j hjl).2.2.2.2.1
      have hj0 : (0 : Int) ≤ (j : Int) := by omega
      have hj1 : (j : Int) < (T.length : Int) := by omega
      have hupj : Hid (((ty T j).up = -1 ∧ j = 0) ∨ (0 ≤ (ty T j).up ∧ (ty T j).up < j)) := by
        by_cases h0 : j = 0
        · subst h0; exact .inl ⟨HU.out.1, rfl⟩
        · exact .inr (HU.out.2 j (by omega) hjk)
      by_cases he : (j : Int) = up
      · have he' : ((j : Int) == up) = true := by simpa using he
        have hn : Hid (R = true) := by
          show R = _
          rw [HR.out, HUP.out]
          have := hiff.2 (by rw [← he, Int.toNat_natCast]; exact self_chain T j)
          simpa using this
        clear hupj he hiff hrow
        go_wp2
        go_ret
        exact ⟨by rw [hn.out]; rfl, rfl⟩
      · have he' : ((j : Int) == up) = false := by simpa using he
        have hnext : Hid (((ty T j).up = -1 ∧ ¬ (up.toNat ∈ chain T (k - 1))) ∨ ∃ i : Nat, (ty T j).up = (i : Int) ∧ i < k ∧ ((up.toNat ∈ chain T (k - 1)) ↔ (up.toNat ∈ chain T i)) ∧ i < j) := by
          rcases hupj.out with ⟨hu1, rfl⟩ | hu1
          · left
            refine ⟨hu1, fun h => ?_⟩
            have := hiff.1 h
            rw [chain_top T 0 (by omega)] at this
            simp at this
            omega
          · right
            refine ⟨(ty T j).up.toNat, by omega, by omega, ?_, by omega⟩
            rw [hiff, chain_up T j hu1, List.mem_cons]
            constructor
            · rintro (h | h)
              · omega
              · exact h
            · exact .inr
        generalize (ty T j).up = upj at hc4 hnext
        clear hupj hiff he
        go_wp2
        go_roundw
        case rel =>
          rcases hnext.out with ⟨rfl, hD⟩ | ⟨i, rfl, hi1, hi2, hi3⟩
          · exact ⟨-1, rfl, .inl ⟨rfl, hD⟩, trivial⟩
          · exact ⟨i, rfl, .inr ⟨i, rfl, hi1, hi2⟩, trivial⟩
        case measure =>
          rcases hnext.out with ⟨rfl, hD⟩ | ⟨i, rfl, hi1, hi2, hi3⟩ <;> simp [intOf] <;> omega

end Go.Proofs.Ytpopjapcgcnnfaa

namespace Go.Proofs.Ytpopjapcgcnnfaa
open Go.RowKit Plain Sch

theorem sis_low (T : List Ty) (i j : Nat) (hu : UpsTo T i) (h0 : 0 ≤ (ty T i).up) (hj : (j : Int) ≤ (ty T i).up) (hji : j < i) : sisBad T i j = false := by
  unfold sisBad
  have : ¬ (ty T j).up = (ty T i).up := by
    by_cases hj0 : j = 0
    · subst hj0; have := hu.1; omega
    · have := hu.2 j (by omega) hji; omega
  simp [this]

set_option maxRecDepth 100000 in
set_option maxHeartbeats 4000000 in
theorem l2Part_any (T : List Ty) (v : Value) (k : Nat) (w : World) (hT : TysAt w w.heap.size v T) (hk : k < T.length) (hk1 : 1 ≤ k) (hl : T.length ≤ 30) (hu : UpsTo T k) :
    Calls Try.prog 106 #[.agg #[v], .int .i64 k] w fun e w' => e = .returned (.bool (partOk T k)) ∧ Below w.heap.size w w' := by
  have HT : Hid (TysAt w w.heap.size v T) := hT
  obtain ⟨g, o, cap, rfl, hlc, hcm, hg, hrow, hnm⟩ := hT.open (by omega)
  clear hT
  obtain ⟨R, hR⟩ : ∃ R, R = partOk T k := ⟨_, rfl⟩
  rw [← hR]
  have HU : Hid (UpsTo T k) := hu
  clear hu
  have HRW : Hid (∀ i, i < T.length → TyIn w g (o + i * 6) (ty T i)) := hrow
  have hk' : (k : Int) < (T.length : Int) := by omega
  have hk0' : (0 : Int) ≤ (k : Int) := by omega
  have hcm' : cap ≤ 9223372036854775807 := by unfold maxLen at hcm; omega
  have hci := hrow k hk
  have hnk := hnm k hk
  obtain ⟨ti, hti⟩ : ∃ t, ty T k = t := ⟨_, rfl⟩
  have HTI : Hid (ty T k = ti) := hti
  have HR : Hid (R = (decide (0 ≤ ti.up) && decide (ti.up < k) && holds (ty T ti.up.toNat).kind && decide (ti.up.toNat ∈ chain T (k - 1)) &&
    (if (ty T ti.up.toNat).kind = 4 then bare ti else isName ti.name && decide (1 ≤ ti.no) && decide (ti.no ≤ 30) && sis T k))) := by
    show _ = _
    rw [hR]
    unfold partOk
    rw [hti]
  clear hR
  rw [hti] at hci hnk
  clear hti hrow hnm
  obtain ⟨kind, name, no, must, up, most⟩ := ti
  obtain ⟨c0, c1, c2, c3, c4, c5⟩ := hci
  dsimp only at c0 c1 c2 c3 c4 c5 hnk HR
  have hB2 : Below w.heap.size w ((w.alloc (.cells #[.slice (some ⟨g, o, none⟩) T.length cap] 59)).alloc (.cells #[.int .i64 kind, .string name, .int .i64 no, .bool must, .int .i64 up, .int .i64 most] 157)) := ((Below.refl _ w).alloc (Nat.le_refl _) _).alloc (by simp) _
  by_cases hup0 : up < 0
  · have hn : Hid (R = false) := by show _ = _; rw [HR.out]; have : decide (0 ≤ up) = false := by simp; omega
                                    rw [this]; simp
    have hup0' : decide (up < 0) = true := by simpa using hup0
    clear HR
    go_enter Try.func106, Try.ntmps106
    go_wp2
    go_ret
    exact ⟨by rw [hn.out]; rfl, hB2⟩
  · have hd0 : decide (up < 0) = false := by simpa using hup0
    by_cases hupk : (k : Int) ≤ up
    · have hn : Hid (R = false) := by show _ = _; rw [HR.out]; have : decide (up < (k : Int)) = false := by simp; omega
                                      rw [this]; simp
      have hdk : decide ((k : Int) ≤ up) = true := by simpa using hupk
      clear HR
      go_enter Try.func106, Try.ntmps106
      go_wp2
      go_ret
      exact ⟨by rw [hn.out]; rfl, hB2⟩
    · have hdk : decide ((k : Int) ≤ up) = false := by simpa using hupk
      obtain ⟨u, rfl⟩ := Int.eq_ofNat_of_zero_le (show 0 ≤ up by omega)
      rw [Int.toNat_natCast] at HR
      have huk : u < k := by omega
      have hu1 : (u : Int) < (T.length : Int) := by omega
      have hcu0 := (HRW.out u (by omega)).1
      obtain ⟨ku, hku⟩ : ∃ x, (ty T u).kind = x := ⟨_, rfl⟩
      rw [hku] at hcu0 HR
      have HR2 : Hid (R = (holds ku && decide (u ∈ chain T (k - 1)) && (if ku = 4 then bare ⟨kind, name, no, must, (u : Int), most⟩ else isName name && decide (1 ≤ no) && decide (no ≤ 30) && sis T k))) := by
        show _ = _
        rw [HR.out]
        have e1 : decide ((0 : Int) ≤ (u : Int)) = true := by simp
        have e2 : decide ((u : Int) < (k : Int)) = true := by simp; omega
        rw [e1, e2]
        simp
      clear HR hku
      have hT2 : Hid (TysAt ((w.alloc (.cells #[.slice (some ⟨g, o, none⟩) T.length cap] 59)).alloc (.cells #[.int .i64 kind, .string name, .int .i64 no, .bool must, .int .i64 (u : Int), .int .i64 most] 157)) ((w.alloc (.cells #[.slice (some ⟨g, o, none⟩) T.length cap] 59)).alloc (.cells #[.int .i64 kind, .string name, .int .i64 no, .bool must, .int .i64 (u : Int), .int .i64 most] 157)).heap.size (.slice (some ⟨g, o, none⟩) T.length cap) T) := HT.out.below hB2
      go_enter Try.func106, Try.ntmps106
      go_wp2_with fail
      refine (l2Holds_any ku _).mono ?_
      rintro e w1 ⟨rfl, rfl⟩
      by_cases hh : holds ku = true
      · have HR3 : Hid (R = (decide (u ∈ chain T (k - 1)) && (if ku = 4 then bare ⟨kind, name, no, must, (u : Int), most⟩ else isName name && decide (1 ≤ no) && decide (no ≤ 30) && sis T k))) := by show _ = _; rw [HR2.out, hh]; simp
        rw [hh]
        clear hh HR2
        have CA := l2Around_any T (.slice (some ⟨g, o, none⟩) T.length cap) k ((w.alloc (.cells #[.slice (some ⟨g, o, none⟩) T.length cap] 59)).alloc (.cells #[.int .i64 kind, .string name, .int .i64 no, .bool must, .int .i64 (u : Int), .int .i64 most] 157)) hT2.out hk hk1 hl HU.out (by rw [HTI.out]; dsimp only; omega)
        rw [HTI.out] at CA
        dsimp only at CA
        rw [Int.toNat_natCast] at CA
        have CA' : Hid (Calls Try.prog 134 #[.slice (some ⟨g, o, none⟩) T.length cap, .int .i64 k] ((w.alloc (.cells #[.slice (some ⟨g, o, none⟩) T.length cap] 59)).alloc (.cells #[.int .i64 kind, .string name, .int .i64 no, .bool must, .int .i64 (u : Int), .int .i64 most] 157)) fun e w' => e = .returned (.bool (decide (u ∈ chain T (k - 1)))) ∧ w' = ((w.alloc (.cells #[.slice (some ⟨g, o, none⟩) T.length cap] 59)).alloc (.cells #[.int .i64 kind, .string name, .int .i64 no, .bool must, .int .i64 (u : Int), .int .i64 most] 157))) := CA
        clear CA
        go_wp2_with fail
        refine CA'.out.mono ?_
        rintro e w1 ⟨rfl, rfl⟩
        clear CA'
        by_cases hch : u ∈ chain T (k - 1)
        · have HR4 : Hid (R = (if ku = 4 then bare ⟨kind, name, no, must, (u : Int), most⟩ else isName name && decide (1 ≤ no) && decide (no ≤ 30) && sis T k)) := by show _ = _; rw [HR3.out]; simp [hch]
          have hdd : decide (u ∈ chain T (k - 1)) = true := by simpa using hch
          rw [hdd]
          clear hdd hch HR3
          by_cases h4 : ku = 4
          · subst h4
            have HR6 := HR4
            rw [if_pos rfl] at HR6
            clear HR4
            by_cases hne : name.toList = []
            · have hnd : name = ⟨#[]⟩ := by
                apply ByteArray.ext
                have : name.data.toList = [] := by rw [← ByteArray.toList_eq]; exact hne
                exact Array.toList_eq_nil_iff.1 this
              subst hnd
              by_cases hno : no = 0
              · subst hno
                have hn : Hid (R = !must) := by show _ = _; rw [HR6.out]; unfold bare; simp
                clear HR6 hne
                go_wp2
                go_ret
                exact ⟨by rw [hn.out]; rfl, hB2⟩
              · have hno' : (no == 0) = false := by simpa using hno
                have hn : Hid (R = false) := by show _ = _; rw [HR6.out]; unfold bare; simp [hno]
                clear HR6 hne hno
                go_wp2
                go_ret
                exact ⟨by rw [hn.out]; rfl, hB2⟩
            · have hne' : name.toList.isEmpty = false := by simpa using hne
              have hnd : ¬ name = ⟨#[]⟩ := fun e => hne (by rw [e]; simp)
              have hn : Hid (R = false) := by show _ = _; rw [HR6.out]; unfold bare; simp [hnd]
              clear HR6 hne hnd
              go_wp2
              go_ret
              exact ⟨by rw [hn.out]; rfl, hB2⟩
          · have h4' : (ku == 4) = false := by simpa using h4
            rw [if_neg h4] at HR4
            clear h4
            go_wp2_with fail
            refine (l2Name_any name _ hnk).mono ?_
            rintro e w1 ⟨rfl, rfl⟩
            by_cases hin : isName name = true
            · rw [hin] at HR4 ⊢
              clear hin
              go_wp2_with fail
              refine (l1In_any no 1 30 _).mono ?_
              rintro e w1 ⟨rfl, rfl⟩
              by_cases hno : 1 ≤ no ∧ no ≤ 30
              · have hdn : decide (1 ≤ no ∧ no ≤ 30) = true := by simpa using hno
                have HR5 : Hid (R = sis T k) := by show _ = _; rw [HR4.out]; simp [hno.1, hno.2]
                rw [hdn]
                clear hdn hno HR4
                go_wp2
                go_loopw [6] (fun vx wr => ∃ x : Nat, u < x ∧ x ≤ k ∧ vx = .int .i64 (x : Int) ∧ Hid (∀ j, u < j → j < x → sisBad T k j = false) ∧ Below (w.heap.size + 2) ((w.alloc (.cells #[.slice (some ⟨g, o, none⟩) T.length cap] 59)).alloc (.cells #[.int .i64 kind, .string name, .int .i64 no, .bool must, .int .i64 (u : Int), .int .i64 most] 157)) wr)
                  (fun vx _ => k - (intOf vx).toNat)
                case atStart => exact ⟨u + 1, by omega, by omega, by go_num, fun j h1 h2 => by omega, Below.refl _ _⟩
                case round =>
                  obtain ⟨x, hux, hxk, rfl, hall, hbw⟩ := hrel
                  have hB0 : Below w.heap.size w wr := hB2.trans (hbw.mono (by omega))
                  have hsz : w.heap.size + 1 < wr.heap.size := by have := hbw.size; simp at this; omega
                  have hsz' : w.heap.size < wr.heap.size := by omega
                  have q0 : wr.cell? ⟨w.heap.size, 0, none⟩ = some (.slice (some ⟨g, o, none⟩) T.length cap) := (hbw.cell (p := ⟨w.heap.size, 0, none⟩) (by simp)).trans (by simp)
                  have t1 : wr.cell? ⟨w.heap.size + 1, 1, none⟩ = some (.string name) := (hbw.cell (p := ⟨w.heap.size + 1, 1, none⟩) (by simp)).trans (by simp)
                  have t2 : wr.cell? ⟨w.heap.size + 1, 2, none⟩ = some (.int .i64 no) := (hbw.cell (p := ⟨w.heap.size + 1, 2, none⟩) (by simp)).trans (by simp)
                  have t4 : wr.cell? ⟨w.heap.size + 1, 4, none⟩ = some (.int .i64 (u : Int)) := (hbw.cell (p := ⟨w.heap.size + 1, 4, none⟩) (by simp)).trans (by simp)
                  by_cases hlt : x < k
                  · have hlt' : (x : Int) < (k : Int) := by omega
                    have hx1 : (x : Int) < (T.length : Int) := by omega
                    have hx0 : (0 : Int) ≤ (x : Int) := by omega
                    have hcx := (HRW.out x (by omega)).below hB0 hg
                    obtain ⟨tx, htx⟩ : ∃ t, ty T x = t := ⟨_, rfl⟩
                    have HS : Hid (sisBad T k x = (decide (tx.up = (u : Int)) && (decide (no ≤ tx.no) || decide (tx.name = name)))) := by
                      show _ = _
                      unfold sisBad
                      rw [htx, HTI.out]
                    rw [htx] at hcx
                    clear htx
                    obtain ⟨kindx, namex, nox, mustx, upx, mostx⟩ := tx
                    obtain ⟨x0, x1, x2, x3, x4, x5⟩ := hcx
                    dsimp only at x0 x1 x2 x3 x4 x5 HS
                    clear c0 c1 c2 c3 c4 c5 hcu0
                    have hbw2 := fun ob => hbw.alloc (show w.heap.size + 2 ≤ wr.heap.size by omega) ob
                    by_cases hu : upx = (u : Int)
                    · have hu' : (upx == (u : Int)) = true := by simpa using hu
                      by_cases hno : no ≤ nox
                      · have hno' : decide (no ≤ nox) = true := by simpa using hno
                        have hn : Hid (R = false) := by
                          show R = _
                          rw [HR5.out]
                          unfold sis
                          simp only [decide_eq_false_iff_not]
                          intro h
                          have := h x hlt
                          rw [HS.out] at this
                          simp [hu, hno] at this
                        clear hu hall HS HR5 hno HRW
                        go_wp2
                        go_ret
                        exact ⟨by rw [hn.out]; rfl, hB0.alloc hB0.size _⟩
                      · have hno' : decide (no ≤ nox) = false := by simpa using hno
                        by_cases hnm : namex = name
                        · have hn : Hid (R = false) := by
                            show R = _
                            rw [HR5.out]
                            unfold sis
                            simp only [decide_eq_false_iff_not]
                            intro h
                            have := h x hlt
                            rw [HS.out] at this
                            simp [hu, hnm] at this
                          subst hnm
                          clear hu hall HS HR5 hno HRW
                          go_wp2
                          go_ret
                          exact ⟨by rw [hn.out]; rfl, hB0.alloc hB0.size _⟩
                        · have hall2 : Hid (∀ j, u < j → j < x + 1 → sisBad T k j = false) := fun j h1 hj => by
                            by_cases hji : j = x
                            · rw [hji, HS.out]; simp [hno', hnm]
                            · exact hall.out j h1 (by omega)
                          have hnm' := str_neB hnm
                          clear hu hall HS hno hnm HRW
                          go_wp2
                          go_roundw
                          case rel => exact ⟨x + 1, by omega, by omega, by go_num, hall2, hbw2 _⟩
                          case measure => simp [intOf]; omega
                    · have hu' : (upx == (u : Int)) = false := by simpa using hu
                      have hall2 : Hid (∀ j, u < j → j < x + 1 → sisBad T k j = false) := fun j h1 hj => by
                        by_cases hji : j = x
                        · rw [hji, HS.out]; simp [hu]
                        · exact hall.out j h1 (by omega)
                      clear hu hall HS HRW
                      go_wp2
                      go_roundw
                      case rel => exact ⟨x + 1, by omega, by omega, by go_num, hall2, hbw2 _⟩
                      case measure => simp [intOf]; omega
                  · have hke : x = k := by omega
                    subst hke
                    have hge : ¬ ((x : Int) < (x : Int)) := by omega
                    have hn : Hid (R = true) := by
                      show R = _
                      rw [HR5.out]
                      unfold sis
                      simp only [decide_eq_true_eq]
                      intro j hj
                      by_cases hju : u < j
                      · exact hall.out j hju hj
                      · exact sis_low T x j HU.out (by rw [HTI.out]; dsimp only; omega) (by rw [HTI.out]; dsimp only; omega) hj
                    clear hall HR5 HRW
                    go_wp2
                    go_ret
                    exact ⟨by rw [hn.out]; rfl, hB0⟩
              · have hdn : decide (1 ≤ no ∧ no ≤ 30) = false := by simpa using hno
                have hn : Hid (R = false) := by
                  show _ = _
                  rw [HR4.out]
                  by_cases h1 : 1 ≤ no
                  · have : ¬ no ≤ 30 := fun h => hno ⟨h1, h⟩
                    simp [this]
                  · simp [h1]
                rw [hdn]
                clear hdn hno HR4
                go_wp2
                go_ret
                exact ⟨by rw [hn.out]; rfl, hB2⟩
            · have hin' : isName name = false := by simpa using hin
              have hn : Hid (R = false) := by show _ = _; rw [HR4.out, hin']; simp
              rw [hin']
              clear hin hin' HR4
              go_wp2
              go_ret
              exact ⟨by rw [hn.out]; rfl, hB2⟩
        · have hn : Hid (R = false) := by show _ = _; rw [HR3.out]; simp [hch]
          have hdd : decide (u ∈ chain T (k - 1)) = false := by simpa using hch
          rw [hdd]
          clear hdd hch HR3
          go_wp2
          go_ret
          exact ⟨by rw [hn.out]; rfl, hB2⟩
      · have hh' : holds ku = false := by simpa using hh
        have hn : Hid (R = false) := by show _ = _; rw [HR2.out, hh']; simp
        rw [hh']
        clear hh hh' HR2
        go_wp2
        go_ret
        exact ⟨by rw [hn.out]; rfl, hB2⟩

end Go.Proofs.Ytpopjapcgcnnfaa

namespace Go.Proofs.Ytpopjapcgcnnfaa
open Go.RowKit Plain Sch

theorem Try.infoInt : (Try.prog.info? 3).map (fun i => (i.zero, i.size, i.bytes)) = some (some (.int .i64 0), 1, 8) := by kernel_rfl

theorem own_below {w w' : World} {B e size n : Nat} {v : Value} {xs : List Value} (h : w.ownsRow B e size v n xs) (hb : Below w.heap.size w w') : w'.ownsRow B e size v n xs := by
  refine ⟨h.1, ?_⟩
  rcases h.2 with hn | ⟨g, cap, cur, hv, hg, hgg, rest⟩
  · exact .inl hn
  · exact .inr ⟨g, cap, cur, hv, hg, (hb.block g (Array.getElem?_eq_some_iff.1 hgg).1).trans hgg, rest⟩

theorem cell_new (w : World) (c : Array Value) (t : TypeId) (n j : Nat) (hn : n = w.heap.size) : (w.alloc (.cells c t)).cell? ⟨n, 0 + j, none⟩ = c[j]? := by
  subst hn; simp

def kidsTo (T : List Ty) (k i : Nat) : List Nat := (List.range i).filter fun i => decide (k < i) && decide ((ty T i).up = (k : Int))

theorem kidsTo_start (T : List Ty) (k : Nat) : kidsTo T k (k + 1) = [] := by
  unfold kidsTo
  rw [List.filter_eq_nil_iff]
  intro x hx
  have := List.mem_range.1 hx
  simp
  omega

theorem kidsTo_end (T : List Ty) (k : Nat) : kidsTo T k T.length = kids T k := rfl

theorem kidsTo_yes (T : List Ty) (k i : Nat) (hi : k < i) (h : (ty T i).up = (k : Int)) : kidsTo T k (i + 1) = kidsTo T k i ++ [i] := by
  unfold kidsTo
  rw [List.range_succ, List.filter_append]
  simp [hi, h]

theorem kidsTo_no (T : List Ty) (k i : Nat) (h : ¬ (ty T i).up = (k : Int)) : kidsTo T k (i + 1) = kidsTo T k i := by
  unfold kidsTo
  rw [List.range_succ, List.filter_append]
  simp [h]

theorem kidsTo_len (T : List Ty) (k i : Nat) : (kidsTo T k i).length ≤ i := by
  unfold kidsTo
  refine Nat.le_trans (List.length_filter_le _ _) ?_
  simp

def ints (l : List Nat) : List Value := l.map fun (i : Nat) => .int .i64 (i : Int)

set_option maxRecDepth 100000 in
set_option maxHeartbeats 4000000 in
theorem l2Kids_any (T : List Ty) (v : Value) (k : Nat) (w : World) (hT : TysAt w w.heap.size v T) (hk : k < T.length) (hl : T.length ≤ 2097152) :
    Calls Try.prog 107 #[.agg #[v], .int .i64 k] w fun e w' => ∃ r, e = .returned r ∧ w'.ownsRow w.heap.size 3 1 r (kids T k).length (ints (kids T k)) ∧ Below w.heap.size w w' := by
  obtain ⟨i0, hi, hz0, hz1, hz2⟩ := info_parts Try.infoInt
  obtain ⟨g, o, cap, rfl, hlc, hcm, hg, hrow, _⟩ := hT.open (by omega)
  clear hT
  have hcm' : cap ≤ 9223372036854775807 := by unfold maxLen at hcm; omega
  go_enter Try.func107, Try.ntmps107
  go_wp2
  go_loopw [5, 6] (fun vl vi wr => ∃ (i : Nat), k < i ∧ i ≤ T.length ∧ vi = .int .i64 (i : Int) ∧ wr.ownsRow (w.heap.size + 1) 3 1 vl (kidsTo T k i).length (ints (kidsTo T k i)) ∧ Below (w.heap.size + 1) (w.alloc (.cells #[.slice (some ⟨g, o, none⟩) T.length cap] 59)) wr)
    (fun _ vi _ => T.length - (intOf vi).toNat)
  case atStart =>
    refine ⟨k + 1, by omega, by omega, by go_num, ?_, Below.refl _ _⟩
    rw [kidsTo_start]
    exact World.ownsRow_nil _ _ _ _
  case round =>
    obtain ⟨i, hki, hil, rfl, hown, hbw⟩ := hrel
    have hB0 : Below w.heap.size w wr := ((Below.refl _ w).alloc (Nat.le_refl _) _).trans (hbw.mono (by omega))
    have hsz : w.heap.size < wr.heap.size := by have := hbw.size; simp at this; omega
    have q0 : wr.cell? ⟨w.heap.size, 0, none⟩ = some (.slice (some ⟨g, o, none⟩) T.length cap) := (hbw.cell (p := ⟨w.heap.size, 0, none⟩) (by simp)).trans (by simp)
    have hkl := kidsTo_len T k i
    by_cases hlt : i < T.length
    · have hlt' : (i : Int) < (T.length : Int) := by omega
      have hi0 : (0 : Int) ≤ (i : Int) := by omega
      have hc4 := ((hrow i hlt).below hB0 hg).2.2.2.2.1
      by_cases hup : (ty T i).up = (k : Int)
      · have HK : Hid (kidsTo T k (i + 1) = kidsTo T k i ++ [i]) := kidsTo_yes T k i hki hup
        rw [hup] at hc4
        clear hup
        generalize kidsTo T k i = ks at hown hkl HK
        go_wp2_with (at_builtin; refine wpList_append_own _ rfl _ _ 67 rfl (w.heap.size + 1) 3 i0 (.int .i64 0) 1 8 Try.underlying67 hi hz0 hz1 hz2 rfl (by decide) _ _ _ rfl (hown.alloc _) ⟨wr.heap.size, 0, none⟩ 1 1 [Value.int .i64 (i : Int)] rfl rfl ?c1 ?c2 ?c3 ?c4 ?c5 ?_)
        case c1 =>
          intro j u hj
          match j, hj with
          | 0, hj => simp at hj; subst hj; simp [Addr.add]
          | j + 1, hj => simp at hj
        case c2 => intro u hu; simp at hu; subst hu; rfl
        case c3 => unfold maxLen; omega
        case c4 => omega
        case c5 => simp; omega
        intro v' w1 hown' hgrow _
        have hlt9 := hown.lt
        have hbw1 := (hbw.alloc (show w.heap.size + 1 ≤ wr.heap.size by omega) (.cells #[.int .i64 (i : Int)] 3)).grown hgrow (by simp; omega) (fun k hk => (hlt9 k hk).1)
        have hown1 : w1.ownsRow (w.heap.size + 1) 3 1 v' (ks ++ [i]).length (ints (ks ++ [i])) := by
          unfold ints
          rw [List.map_append, List.length_append, List.length_singleton]
          simpa [ints] using hown'
        clear hgrow hown' hlt9 hown hbw hB0
        go_wp2
        go_roundw
        case rel => exact ⟨i + 1, by omega, by omega, by go_num, by rw [HK.out]; exact hown1, hbw1⟩
        case measure => simp [intOf]; omega
      · have HK : Hid (kidsTo T k (i + 1) = kidsTo T k i) := kidsTo_no T k i hup
        generalize (ty T i).up = up at hc4 hup
        have hup' : (up == (k : Int)) = false := by simpa using hup
        clear hup
        generalize kidsTo T k i = ks at hown hkl HK
        go_wp2
        go_roundw
        case rel => exact ⟨i + 1, by omega, by omega, by go_num, by rw [HK.out]; exact hown, hbw⟩
        case measure => simp [intOf]; omega
    · have hke : i = T.length := by omega
      subst hke
      rw [kidsTo_end] at hown
      have hge : ¬ ((T.length : Int) < (T.length : Int)) := by omega
      go_wp2
      go_ret
      refine ⟨_, rfl, ?_, hB0⟩
      refine ⟨hown.1, ?_⟩
      rcases hown.2 with h | ⟨g', cap', cur, h1, h2, h3⟩
      · exact .inl h
      · exact .inr ⟨g', cap', cur, h1, by omega, h3⟩

def trCells (t : Tr) (c : Value) : List Value := [.int .i64 t.kind, .string t.name, .int .i64 t.no, .bool t.must, .int .i64 t.most, c]
def trVal (t : Tr) (c : Value) : Value := .agg #[.int .i64 t.kind, .string t.name, .int .i64 t.no, .bool t.must, .int .i64 t.most, c]

/-- the six cells of a node -/
def NdIn (w : World) (g o : Nat) (t : Tr) (c : Value) : Prop :=
  w.cell? ⟨g, o, none⟩ = some (.int .i64 t.kind) ∧ w.cell? ⟨g, o + 1, none⟩ = some (.string t.name) ∧ w.cell? ⟨g, o + 2, none⟩ = some (.int .i64 t.no) ∧ w.cell? ⟨g, o + 3, none⟩ = some (.bool t.must) ∧ w.cell? ⟨g, o + 4, none⟩ = some (.int .i64 t.most) ∧ w.cell? ⟨g, o + 5, none⟩ = some c

/-- the parts of a tree, d steps deep at most, as a slice: in blocks of S alone -/
def KidsIn : Nat → World → (Nat → Prop) → Value → List Tr → Prop
  | 0, _, _, c, l => ∃ ao cap, c = .slice ao 0 cap ∧ cap ≤ maxLen ∧ l = []
  | d + 1, w, S, c, l => ∃ ao cap, c = .slice ao l.length cap ∧ l.length ≤ cap ∧ cap ≤ maxLen ∧ ∀ i t, l[i]? = some t → ∃ g o c', ao = some ⟨g, o, none⟩ ∧ S g ∧ NdIn w g (o + i * 6) t c' ∧ KidsIn d w S c' t.kids

theorem cell_blockEq {w w' : World} {g o : Nat} (h : w'.heap[g]? = w.heap[g]?) : w'.cell? ⟨g, o, none⟩ = w.cell? ⟨g, o, none⟩ := World.cell?_of_block (w := w) h

theorem NdIn.kept {w w' : World} {g o : Nat} {t : Tr} {c : Value} (h : NdIn w g o t c) (hb : w'.heap[g]? = w.heap[g]?) : NdIn w' g o t c := by
  obtain ⟨c0, c1, c2, c3, c4, c5⟩ := h
  exact ⟨(cell_blockEq hb).trans c0, (cell_blockEq hb).trans c1, (cell_blockEq hb).trans c2, (cell_blockEq hb).trans c3, (cell_blockEq hb).trans c4, (cell_blockEq hb).trans c5⟩

theorem KidsIn.kept {w w' : World} {S S' : Nat → Prop} (hS : ∀ g, S g → w'.heap[g]? = w.heap[g]?) (hS' : ∀ g, S g → S' g) : ∀ {d : Nat} {c : Value} {l : List Tr}, KidsIn d w S c l → KidsIn d w' S' c l
  | 0, _, _, h => h
  | d + 1, c, l, h => by
    obtain ⟨ao, cap, hc, h1, h2, h3⟩ := h
    refine ⟨ao, cap, hc, h1, h2, fun i t hi => ?_⟩
    obtain ⟨g, o, c', ha, hg, hn, hk⟩ := h3 i t hi
    exact ⟨g, o, c', ha, hS' g hg, hn.kept (hS g hg), KidsIn.kept hS hS' hk⟩

theorem KidsIn.form {d : Nat} {w : World} {S : Nat → Prop} {c : Value} {l : List Tr} (h : KidsIn d w S c l) : ∃ ao cap, c = .slice ao l.length cap ∧ cap ≤ maxLen := by
  cases d with
  | zero => obtain ⟨ao, cap, hc, h1, rfl⟩ := h; exact ⟨ao, cap, hc, h1⟩
  | succ d => obtain ⟨ao, cap, hc, _, h1, _⟩ := h; exact ⟨ao, cap, hc, h1⟩

end Go.Proofs.Ytpopjapcgcnnfaa

namespace Go.Proofs.Ytpopjapcgcnnfaa
open Go.RowKit Plain Sch

theorem Try.infoTr : (Try.prog.info? 105).map (fun i => (i.zero, i.size, i.bytes)) = some (some (.agg #[.int .i64 0, .string ⟨#[]⟩, .int .i64 0, .bool false, .int .i64 0, .slice none 0 0]), 6, 72) := by kernel_rfl

theorem ints_at {w : World} {B n cap g : Nat} {l : List Nat} (h : w.ownsRow B 3 1 (.slice (some ⟨g, 0, none⟩) n cap) n (ints l)) (i x : Nat) (hx : l[i]? = some x) (hi : i < n) : w.cell? ⟨g, i, none⟩ = some (.int .i64 (x : Int)) := by
  have := h.cellAt i (by omega)
  rw [this]
  simp [ints, hx]

theorem one6 {k : Int} {nm : ByteArray} {no : Int} {m : Bool} {mo : Int} {ao : Option Addr} {l cp : Nat} : ∀ u ∈ [Value.int .i64 k, .string nm, .int .i64 no, .bool m, .int .i64 mo, .slice ao l cp], u.oneCell' = true := by
  intro u hu
  simp at hu
  rcases hu with rfl | rfl | rfl | rfl | rfl | rfl <;> rfl

/-- what holds when n parts have been put to a node's own -/
def TInv (T : List Ty) (f : Nat) (b : Nat) (w1 : World) (ks : List Nat) (ar : Option Addr) (capr : Nat) (kind : Int) (name : ByteArray) (no : Int) (must : Bool) (most : Int) (n : Nat) (wr : World) : Prop :=
  ∃ (kv : Value) (rows : List (Tr × Value)) (S : Nat → Prop), Hid (rows.map Prod.fst = (ks.take n).map (tree T f)) ∧ rows.length = n ∧
    NdIn wr (b + 1 + 1 + 1) 0 (.mk kind name no must most []) kv ∧ wr.frozen? ⟨b + 1 + 1 + 1, 5, none⟩ = false ∧
    wr.ownsRow (b + 4) 105 6 kv n (rows.flatMap fun x => trCells x.1 x.2) ∧ Hid (∀ x ∈ rows, KidsIn f wr S x.2 x.1.kids) ∧
    Hid (∀ g, S g → b + 4 ≤ g ∧ g < wr.heap.size) ∧ Hid (∀ g, kv.ownBlock = some g → ¬ S g) ∧ Hid (∀ g, ar = some ⟨g, 0, none⟩ → S g) ∧ wr.ownsRow (b + 4) 3 1 (.slice ar ks.length capr) ks.length (ints ks) ∧
    Below (b + 3) w1 wr

theorem own_keptB {w w' : World} {B e size n : Nat} {v : Value} {xs : List Value} (h : w.ownsRow B e size v n xs) (hb : ∀ g, v.ownBlock = some g → w'.heap[g]? = w.heap[g]?) : w'.ownsRow B e size v n xs := by
  refine ⟨h.1, ?_⟩
  rcases h.2 with hn | ⟨g, cap, cur, hv, hg, hgg, rest⟩
  · exact .inl hn
  · exact .inr ⟨g, cap, cur, hv, hg, (hb g (by rw [hv]; rfl)).trans hgg, rest⟩

theorem tinv_step {T : List Ty} {f b : Nat} {w1 wr w2 w9 : World} {ks : List Nat} {ar : Option Addr} {capr : Nat} {kind : Int} {name : ByteArray} {no : Int} {must : Bool} {most : Int} {n c : Nat} {kv : Value} {rows : List (Tr × Value)} {S : Nat → Prop} {tc : Tr} {ac : Option Addr} {lc cc g9 cap9 : Nat}
    (hb3 : b + 4 ≤ wr.heap.size)
    (hrows : rows.map Prod.fst = (ks.take n).map (tree T f)) (hrl : rows.length = n) (hNr : NdIn wr (b + 1 + 1 + 1) 0 (.mk kind name no must most []) kv) (hzr : wr.frozen? ⟨b + 1 + 1 + 1, 5, none⟩ = false)
    (hown : wr.ownsRow (b + 4) 105 6 kv n (rows.flatMap fun x => trCells x.1 x.2)) (hkids : ∀ x ∈ rows, KidsIn f wr S x.2 x.1.kids) (hS : ∀ g, S g → b + 4 ≤ g ∧ g < wr.heap.size) (hkS : ∀ g, kv.ownBlock = some g → ¬ S g) (hrS : ∀ g, ar = some ⟨g, 0, none⟩ → S g)
    (hrr : wr.ownsRow (b + 4) 3 1 (.slice ar ks.length capr) ks.length (ints ks)) (hbw : Below (b + 3) w1 wr) (hc : ks[n]? = some c) (htc : tc = tree T f c)
    (hkid : KidsIn f w2 (fun g => wr.drew.heap.size ≤ g ∧ g < w2.heap.size) (.slice ac lc cc) tc.kids) (hb2 : Below wr.drew.heap.size wr.drew w2)
    (hown9 : w9.ownsRow (b + 4) 105 6 (.slice (some ⟨g9, 0, none⟩) (n + 1) cap9) (n + 1) ((rows.flatMap fun x => trCells x.1 x.2) ++ [Value.int .i64 tc.kind, .string tc.name, .int .i64 tc.no, .bool tc.must, .int .i64 tc.most, .slice ac lc cc]))
    (hgrow9 : (w2.alloc (.cells #[.int .i64 tc.kind, .string tc.name, .int .i64 tc.no, .bool tc.must, .int .i64 tc.most, .slice ac lc cc] 105)).grownBy w9 kv.ownBlock) (hat9 : kv.ownBlock = some g9 ∨ g9 = w2.heap.size + 1) :
    TInv T f b w1 ks ar capr kind name no must most (n + 1) (w9.setCell ⟨b + 1 + 1 + 1, 5, none⟩ (.slice (some ⟨g9, 0, none⟩) (n + 1) cap9)) := by
  have hs2 : wr.heap.size ≤ w2.heap.size := hb2.size
  have hs9 : w2.heap.size + 1 ≤ w9.heap.size := by have := hgrow9.size; simpa using this
  have hkl := hown.lt
  have hne9 : some (b + 1 + 1 + 1) ≠ kv.ownBlock := fun e => by have := (hkl _ e.symm).1; omega
  -- a block that was there in w2 and is not the row's own is as it was
  have blk : ∀ g, g < w2.heap.size → some g ≠ kv.ownBlock → g ≠ b + 1 + 1 + 1 → (w9.setCell ⟨b + 1 + 1 + 1, 5, none⟩ (.slice (some ⟨g9, 0, none⟩) (n + 1) cap9)).heap[g]? = w2.heap[g]? := by
    intro g h1 h2 h3
    rw [Below.heap_setCell _ _ _ _ (by simpa using h3), hgrow9.block g (by simp; omega) h2, Below.heap_alloc _ _ _ h1]
  have blkr : ∀ g, g < wr.heap.size → w2.heap[g]? = wr.heap[g]? := fun g hg => hb2.block g hg
  have hcell : ∀ j, j ≠ 5 → (w9.setCell ⟨b + 1 + 1 + 1, 5, none⟩ (.slice (some ⟨g9, 0, none⟩) (n + 1) cap9)).cell? ⟨b + 1 + 1 + 1, j, none⟩ = wr.cell? ⟨b + 1 + 1 + 1, j, none⟩ := by
    intro j hj
    rw [World.cell?_setCell_other _ _ _ _ (fun e => hj (congrArg Addr.off e).symm)]
    rw [World.cell?_of_block (w := (w2.alloc (.cells #[.int .i64 tc.kind, .string tc.name, .int .i64 tc.no, .bool tc.must, .int .i64 tc.most, .slice ac lc cc] 105))) (hgrow9.block _ (by simp; omega) hne9)]
    rw [World.cell?_of_block (w := w2) (Below.heap_alloc _ _ _ (by show b + 1 + 1 + 1 < _; omega)), World.cell?_of_block (w := wr) (blkr _ (by show b + 1 + 1 + 1 < _; omega))]
  refine ⟨.slice (some ⟨g9, 0, none⟩) (n + 1) cap9, rows ++ [(tc, .slice ac lc cc)], fun g => S g ∨ (wr.heap.size ≤ g ∧ g < w2.heap.size), ?_, by simp [hrl], ?_, ?_, ?_, ?_, ?_, ?_, fun g hg => .inl (hrS g hg), ?_, ?_⟩
  · show _ = _
    rw [List.map_append, hrows, List.take_add_one, hc, List.map_append]
    simp [htc]
  · obtain ⟨n0, n1, n2, n3, n4, n5⟩ := hNr
    refine ⟨(hcell 0 (by omega)).trans n0, (hcell 1 (by omega)).trans n1, (hcell 2 (by omega)).trans n2, (hcell 3 (by omega)).trans n3, (hcell 4 (by omega)).trans n4, ?_⟩
    have h5 : w9.cell? ⟨b + 1 + 1 + 1, 5, none⟩ = some kv := by
      rw [World.cell?_of_block (w := (w2.alloc (.cells #[.int .i64 tc.kind, .string tc.name, .int .i64 tc.no, .bool tc.must, .int .i64 tc.most, .slice ac lc cc] 105))) (hgrow9.block _ (by simp; omega) hne9)]
      rw [World.cell?_of_block (w := w2) (Below.heap_alloc _ _ _ (by show b + 1 + 1 + 1 < _; omega)), World.cell?_of_block (w := wr) (blkr _ (by show b + 1 + 1 + 1 < _; omega))]
      exact n5
    exact World.cell?_setCell_same _ _ _ h5
  · rw [World.frozen?_setCell]
    rw [World.frozen?_of_block (w := (w2.alloc (.cells #[.int .i64 tc.kind, .string tc.name, .int .i64 tc.no, .bool tc.must, .int .i64 tc.most, .slice ac lc cc] 105))) (hgrow9.block _ (by simp; omega) hne9)]
    rw [World.frozen?_of_block (w := w2) (Below.heap_alloc _ _ _ (by show b + 1 + 1 + 1 < _; omega)), World.frozen?_of_block (w := wr) (blkr _ (by show b + 1 + 1 + 1 < _; omega))]
    exact hzr
  · have := ownsRow_setCell_below hown9 (a := ⟨b + 1 + 1 + 1, 5, none⟩) (by show b + 1 + 1 + 1 < b + 4; omega) (.slice (some ⟨g9, 0, none⟩) (n + 1) cap9)
    rw [List.flatMap_append]
    simpa [trCells] using this
  · intro x hx
    rcases List.mem_append.1 hx with hx | hx
    · refine (hkids x hx).kept (fun g hg => ?_) (fun g hg => .inl hg)
      have h1 := hS g hg
      rw [blk g (by omega) (fun e => hkS g e.symm hg) (by omega), blkr g h1.2]
    · simp at hx
      subst hx
      refine hkid.kept (fun g hg => ?_) (fun g hg => .inr hg)
      refine blk g hg.2 (fun e => ?_) ?_
      · have h1 := (hkl g e.symm).2
        have h2 : wr.heap.size ≤ g := hg.1
        omega
      · have h2 : wr.heap.size ≤ g := hg.1
        omega
  · intro g hg
    have hsz : (w9.setCell ⟨b + 1 + 1 + 1, 5, none⟩ (.slice (some ⟨g9, 0, none⟩) (n + 1) cap9)).heap.size = w9.heap.size := by simp
    rw [hsz]
    rcases hg with hg | hg
    · have := hS g hg; omega
    · omega
  · intro g hg
    simp [Value.ownBlock] at hg
    subst hg
    rintro (h | h)
    · rcases hat9 with h9 | h9
      · exact hkS _ h9 h
      · have := hS _ h; omega
    · rcases hat9 with h9 | h9
      · have := (hkl _ h9).2; omega
      · omega
  · refine own_keptB hrr (fun g hg => ?_)
    have hgS : S g := by
      refine hrS g ?_
      rcases hrr.2 with ⟨h, _⟩ | ⟨g', cap', cur, h, _⟩
      · rw [h] at hg; simp [Value.ownBlock] at hg
      · simp only [Value.slice.injEq] at h
        rw [h.1] at hg ⊢
        simp [Value.ownBlock] at hg
        rw [hg]
    have h1 := hS g hgS
    rw [blk g (by omega) (fun e => hkS g e.symm hgS) (by omega), blkr g h1.2]
  · refine ((hbw.drew.trans (hb2.mono (by show b + 3 ≤ wr.heap.size; omega))).alloc (by omega) _).grown hgrow9 (by simp; omega) (fun k hk => by have := (hkl k hk).1; omega) |>.setCell (by show b + 3 ≤ b + 1 + 1 + 1; omega) _

theorem flat6 {α : Type} (F : α → List Value) (hF : ∀ x, (F x).length = 6) (l : List α) (i j : Nat) (x : α) (h : l[i]? = some x) (hj : j < 6) : (l.flatMap F)[i * 6 + j]? = (F x)[j]? := by
  induction l generalizing i with
  | nil => simp at h
  | cons a l ih =>
    rw [List.flatMap_cons]
    have ha := hF a
    cases i with
    | zero =>
      simp at h; subst h
      rw [Nat.zero_mul, Nat.zero_add, List.getElem?_append_left (by omega)]
    | succ i =>
      simp at h
      rw [List.getElem?_append_right (by omega), ← ih i h]
      congr 1
      omega

theorem kids_of_rows {f : Nat} {w : World} {B n : Nat} {kv : Value} {rows : List (Tr × Value)} {S S' : Nat → Prop} (hown : w.ownsRow B 105 6 kv n (rows.flatMap fun x => trCells x.1 x.2)) (hrl : rows.length = n)
    (hk : ∀ x ∈ rows, KidsIn f w S x.2 x.1.kids) (hS : ∀ g, S g → S' g) (hkS : ∀ g, kv.ownBlock = some g → S' g) : KidsIn (f + 1) w S' kv (rows.map Prod.fst) := by
  have h0 := hown
  have hlen : (rows.map Prod.fst).length = n := by simp [hrl]
  rcases hown.2 with ⟨rfl, hn0⟩ | ⟨g, cap, cur, rfl, hB, hb, hnc, hcm, _⟩
  · refine ⟨none, 0, by rw [hlen, hn0], by omega, by unfold maxLen; omega, fun i t hi => ?_⟩
    have : i < (rows.map Prod.fst).length := (List.getElem?_eq_some_iff.1 hi).1
    omega
  · refine ⟨some ⟨g, 0, none⟩, cap, by rw [hlen], by omega, hcm, fun i t hi => ?_⟩
    have hil : i < (rows.map Prod.fst).length := (List.getElem?_eq_some_iff.1 hi).1
    rw [List.getElem?_map, Option.map_eq_some_iff] at hi
    obtain ⟨x, hx, rfl⟩ := hi
    refine ⟨g, 0, x.2, rfl, hkS g rfl, ?_, (hk x (List.mem_of_getElem? hx)).kept (fun _ _ => rfl) hS⟩
    have c : ∀ j, j < 6 → w.cell? ⟨g, 0 + i * 6 + j, none⟩ = (trCells x.1 x.2)[j]? := fun j hj => by
      rw [Nat.zero_add, h0.cellAt (i * 6 + j) (by omega)]
      exact flat6 _ (fun _ => rfl) rows i j x hx hj
    exact ⟨c 0 (by omega), c 1 (by omega), c 2 (by omega), c 3 (by omega), c 4 (by omega), c 5 (by omega)⟩

theorem results_cell1 {fn : Func} {p : Tmp} {ty : TypeId} (h : fn.results = #[.cell p ty]) (tmps : Array Value) (P : Program) (w : World) :
    (results fn tmps).run P w = ((asAddr (tmps.getD p undef)).run P w).andThen fun a w₁ => (loadVar ty a).run P w₁ := by
  simp only [results, h]
  simp [Sem.run_bind, Result.andThen]

end Go.Proofs.Ytpopjapcgcnnfaa

namespace Go.Proofs.Ytpopjapcgcnnfaa
open Go.RowKit Plain Sch

def tv (t : Tr) (ac : Option Addr) (lc cc : Nat) : Value := .agg #[.int .i64 t.kind, .string t.name, .int .i64 t.no, .bool t.must, .int .i64 t.most, .slice ac lc cc]

end Go.Proofs.Ytpopjapcgcnnfaa
