/- A program made better tells the same, in no more steps. The law FnPeephole, walked: for what is drawn from the bytes it answers true. From a slice of bytes that came in to what the draws ask of it. -/
import Derived.Test.YtmjpmmkjfimopaaDoorHc
import Derived.Test.YtmjpmmkjfimopaaDoorHl
import Derived.Test.YtmjpmmkjfimopaaDoorHq
import Derived.Test.YtmjpmmkjfimopaaDoorHp
import Derived.Test.YtmjpmmkjfimopaaDoorRpD
import Derived.Test.YtmjpmmkjfimopaaDoorHh
import Derived.Test.YtmjpmmkjfimopaaDoorHi
import Derived.Deep.DeepCutAuto
import Derived.Test.YtmjpmmkjfimopaaDoorGn
import Derived.OpenShut
namespace Go.Proofs.YtmjpmmkjfimopaaDoor
open Plain Sch Wan Prg

/-- what is told from a place on, and in how many steps -/
def rfm (P : List Ins) (l : List Fld) (fl : Bool) (pl : Option Fld) (p : Nat) : Bool × Nat := rn P l (P.length - p) fl pl p 0

theorem jmp_in {P : List Ins} (hg : gp P = true) {p : Nat} (hp : p < P.length) (hc : (ins P p).code = 3) (fl : Bool) : p < jmpI (ins P p) fl p ∧ jmpI (ins P p) fl p < P.length := by
  obtain ⟨h1, h2, _⟩ := gp_jump hg hp hc
  have h3 := gp_next hg hp (by omega)
  unfold jmpI
  split <;> omega

theorem rn_fuel {P : List Ins} (hg : gp P = true) (l : List Fld) : ∀ (n p : Nat), P.length - p = n → p < P.length → ∀ F fl pl k, P.length - p ≤ F → rn P l F fl pl p k = ((rfm P l fl pl p).1, (rfm P l fl pl p).2 + k) := by
  intro n
  induction n using Nat.strongRecOn with
  | ind n ih =>
    intro p hn hp F fl pl k hF
    obtain ⟨F', rfl⟩ : ∃ F', F = F' + 1 := ⟨F - 1, by omega⟩
    have e0 : P.length - p = (P.length - p - 1) + 1 := by omega
    unfold rfm
    rw [e0]
    have step : ∀ (q : Nat) fl pl, p < q → q < P.length → rn P l F' fl pl q (k + 1) = ((rn P l (P.length - p - 1) fl pl q (0 + 1)).1, (rn P l (P.length - p - 1) fl pl q (0 + 1)).2 + k) := by
      intro q fl pl h1 h2
      rw [ih (P.length - q) (by omega) q rfl h2 F' fl pl (k + 1) (by omega), ih (P.length - q) (by omega) q rfl h2 (P.length - p - 1) fl pl (0 + 1) (by omega)]
      simp only [Prod.mk.injEq, true_and]
      omega
    rcases gp_codes hg hp with hc | hc | hc | hc | hc
    · rw [rn_seek hc, rn_seek hc]
      exact step _ _ _ (by omega) (gp_next hg hp (by omega))
    · rw [rn_test hc, rn_test hc]
      exact step _ _ _ (by omega) (gp_next hg hp (by omega))
    · rw [rn_jump hc, rn_jump hc]
      have := jmp_in hg hp hc fl
      exact step _ _ _ this.1 this.2
    · rw [rn_flip hc, rn_flip hc]
      exact step _ _ _ (by omega) (gp_next hg hp (by omega))
    · rw [rn_end hc, rn_end hc]
      simp only [Prod.mk.injEq, true_and]
      omega

def addS (r : Bool × Nat) (n : Nat) : Bool × Nat := (r.1, r.2 + n)

theorem rfm_next {P : List Ins} (hg : gp P = true) (l : List Fld) {p q : Nat} (hp : p < P.length) (h1 : p < q) (h2 : q < P.length) (fl : Bool) (pl : Option Fld) : rn P l (P.length - p - 1) fl pl q (0 + 1) = addS (rfm P l fl pl q) 1 := by
  rw [rn_fuel hg l (P.length - q) q rfl h2 _ fl pl (0 + 1) (by omega)]
  rfl

theorem rfm_unf (P : List Ins) (l : List Fld) (fl : Bool) (pl : Option Fld) {p : Nat} (hp : p < P.length) : rfm P l fl pl p = rn P l ((P.length - p - 1) + 1) fl pl p 0 := by
  unfold rfm
  congr 1
  omega

theorem rfm_seek {P : List Ins} (hg : gp P = true) (l : List Fld) {p : Nat} (hp : p < P.length) (hc : (ins P p).code = 1) (fl : Bool) (pl : Option Fld) : rfm P l fl pl p = addS (rfm P l fl (fby l (ins P p).no) (p + 1)) 1 := by
  rw [rfm_unf P l fl pl hp, rn_seek hc]
  exact rfm_next hg l hp (by omega) (gp_next hg hp (by omega)) _ _
theorem rfm_test {P : List Ins} (hg : gp P = true) (l : List Fld) {p : Nat} (hp : p < P.length) (hc : (ins P p).code = 2) (fl : Bool) (pl : Option Fld) : rfm P l fl pl p = addS (rfm P l (tstI (ins P p) pl) pl (p + 1)) 1 := by
  rw [rfm_unf P l fl pl hp, rn_test hc]
  exact rfm_next hg l hp (by omega) (gp_next hg hp (by omega)) _ _
theorem rfm_jump {P : List Ins} (hg : gp P = true) (l : List Fld) {p : Nat} (hp : p < P.length) (hc : (ins P p).code = 3) (fl : Bool) (pl : Option Fld) : rfm P l fl pl p = addS (rfm P l fl pl (jmpI (ins P p) fl p)) 1 := by
  rw [rfm_unf P l fl pl hp, rn_jump hc]
  have := jmp_in hg hp hc fl
  exact rfm_next hg l hp this.1 this.2 _ _
theorem rfm_flip {P : List Ins} (hg : gp P = true) (l : List Fld) {p : Nat} (hp : p < P.length) (hc : (ins P p).code = 4) (fl : Bool) (pl : Option Fld) : rfm P l fl pl p = addS (rfm P l (!fl) pl (p + 1)) 1 := by
  rw [rfm_unf P l fl pl hp, rn_flip hc]
  exact rfm_next hg l hp (by omega) (gp_next hg hp (by omega)) _ _
theorem rfm_end {P : List Ins} (l : List Fld) {p : Nat} (hp : p < P.length) (hc : (ins P p).code = 5) (fl : Bool) (pl : Option Fld) : rfm P l fl pl p = (fl, 1) := by
  rw [rfm_unf P l fl pl hp, rn_end hc]

/-- the same told, in no more steps -/
def Btr (a b : Bool × Nat) : Prop := a.1 = b.1 ∧ a.2 ≤ b.2

theorem Btr.add {a b : Bool × Nat} (h : Btr a b) (n : Nat) : Btr (addS a n) (addS b n) := ⟨h.1, by have := h.2; unfold addS; dsimp only; omega⟩
theorem Btr.less {a b : Bool × Nat} (h : Btr a b) (n : Nat) : Btr a (addS b n) := ⟨h.1, by have := h.2; unfold addS; dsimp only; omega⟩
theorem Btr.refl (a : Bool × Nat) : Btr a a := ⟨rfl, Nat.le_refl _⟩
theorem Btr.trans {a b c : Bool × Nat} (h : Btr a b) (k : Btr b c) : Btr a c := ⟨h.1.trans k.1, Nat.le_trans h.2 k.2⟩

/-- where a place comes to when some are cut out -/
def phi (f m p : Nat) : Nat := if p ≤ f then p else p - m

theorem dwn_same (f m : Nat) (x : Ins) : (dwn f m x).kind = x.kind ∧ (dwn f m x).no = x.no ∧ (dwn f m x).num = x.num ∧ (dwn f m x).text = x.text := by
  unfold dwn
  split <;> exact ⟨rfl, rfl, rfl, rfl⟩

theorem tst_dwn (f m : Nat) (x : Ins) (pl : Option Fld) : tstI (dwn f m x) pl = tstI x pl := by
  obtain ⟨h1, _, h3, h4⟩ := dwn_same f m x
  unfold tstI askI
  rw [h1, h3, h4]

/-- what is cut out does nothing: the rest tells the same -/
theorem cut_sim {P : List Ins} (hg : gp P = true) (l : List Fld) {f m : Nat} (hm : 0 < m) (hfm : f + m < P.length) (hg' : gp (cutP P f m) = true) (Ok : Nat → Option Fld → Prop)
    (hled : ∀ i, i < P.length → (ins P i).code = 3 → (f : Int) < (ins P i).dst → (f : Int) + m ≤ (ins P i).dst)
    (h1 : ∀ fl pl, Ok f pl → rfm P l fl pl f = addS (rfm P l fl pl (f + m)) m ∧ Ok (f + m) pl)
    (h2 : ∀ p pl, p < P.length → (p < f ∨ f + m ≤ p) → Ok p pl → ((ins P p).code = 1 → Ok (p + 1) (fby l (ins P p).no)) ∧ ((ins P p).code = 2 → Ok (p + 1) pl) ∧ ((ins P p).code = 4 → Ok (p + 1) pl) ∧ ((ins P p).code = 3 → Ok (p + 1) pl ∧ Ok (ins P p).dst.toNat pl)) :
    ∀ (n p : Nat), P.length - p = n → p < P.length → (p ≤ f ∨ f + m ≤ p) → ∀ fl pl, Ok p pl → Btr (rfm (cutP P f m) l fl pl (phi f m p)) (rfm P l fl pl p) := by
  intro n
  induction n using Nat.strongRecOn with
  | ind n ih =>
    intro p hn hp hin fl pl hok
    by_cases hpf : p = f
    · subst hpf
      obtain ⟨e1, e2⟩ := h1 fl pl hok
      rw [e1]
      have := ih (P.length - (p + m)) (by omega) (p + m) rfl (by omega) (.inr (by omega)) fl pl e2
      have ep : phi p m (p + m) = phi p m p := by unfold phi; rw [if_neg (by omega), if_pos (by omega)]; omega
      rw [ep] at this
      exact this.less m
    · have hin' : p < f ∨ f + m ≤ p := by omega
      obtain ⟨o1, o2, o4, o3⟩ := h2 p pl hp hin' hok
      have hlen := cutP_len P f m (by omega)
      have hphi : phi f m p < (cutP P f m).length := by unfold phi; rw [hlen]; split <;> omega
      have hins : ins (cutP P f m) (phi f m p) = dwn f m (ins P p) := by
        unfold phi
        rcases hin' with h | h
        · rw [if_pos (by omega), cutP_lo P f m p (by omega) h]
        · rw [if_neg (by omega), cutP_hi P f m (p - m) (by omega) (by omega) (by omega), Nat.sub_add_cancel (by omega)]
      have hcode : (ins (cutP P f m) (phi f m p)).code = (ins P p).code := by rw [hins, dwn_code]
      have hnext : phi f m (p + 1) = phi f m p + 1 := by unfold phi; rcases hin' with h | h
                                                         · rw [if_pos (by omega), if_pos (by omega)]
                                                         · rw [if_neg (by omega), if_neg (by omega)]; omega
      obtain ⟨hk, hno, hnum, _⟩ := dwn_same f m (ins P p)
      rcases gp_codes hg hp with hc | hc | hc | hc | hc
      · have hnx := gp_next hg hp (by omega)
        rw [rfm_seek hg l hp hc, rfm_seek hg' l hphi (hcode.trans hc), hins, hno, ← hnext]
        exact (ih (P.length - (p + 1)) (by omega) (p + 1) rfl hnx (by omega) fl _ (o1 hc)).add 1
      · have hnx := gp_next hg hp (by omega)
        rw [rfm_test hg l hp hc, rfm_test hg' l hphi (hcode.trans hc), hins, tst_dwn, ← hnext]
        exact (ih (P.length - (p + 1)) (by omega) (p + 1) rfl hnx (by omega) _ pl (o2 hc)).add 1
      · have hnx := gp_next hg hp (by omega)
        obtain ⟨j1, j2, _⟩ := gp_jump hg hp hc
        have hl := hled p hp hc
        rw [rfm_jump hg l hp hc, rfm_jump hg' l hphi (hcode.trans hc), hins]
        have hj : jmpI (dwn f m (ins P p)) fl (phi f m p) = phi f m (jmpI (ins P p) fl p) := by
          unfold jmpI
          rw [hnum]
          by_cases ht : fl = decide ((ins P p).num = 1)
          · rw [if_pos ht, if_pos ht]
            unfold dwn phi
            by_cases hd : (f : Int) < (ins P p).dst
            · rw [if_pos ⟨hc, hd⟩, if_neg (by omega)]
              dsimp only
              omega
            · rw [if_neg (fun e => hd e.2), if_pos (by omega)]
          · rw [if_neg ht, if_neg ht, hnext]
        rw [hj]
        have hJ := jmp_in hg hp hc fl
        refine (ih (P.length - jmpI (ins P p) fl p) (by omega) _ rfl hJ.2 ?_ fl pl ?_).add 1
        · unfold jmpI
          split
          · by_cases hd : (f : Int) < (ins P p).dst
            · have := hl hd; omega
            · omega
          · omega
        · unfold jmpI
          split
          · exact (o3 hc).2
          · exact (o3 hc).1
      · have hnx := gp_next hg hp (by omega)
        rw [rfm_flip hg l hp hc, rfm_flip hg' l hphi (hcode.trans hc), ← hnext]
        exact (ih (P.length - (p + 1)) (by omega) (p + 1) rfl hnx (by omega) _ pl (o4 hc)).add 1
      · rw [rfm_end l hp hc, rfm_end l hphi (hcode.trans hc)]
        exact Btr.refl _

/-- a jump led on to where the next one leads -/
theorem led_sim {P : List Ins} (hg : gp P = true) (l : List Fld) {i : Nat} (hi : i < P.length) (hB : isB P i) :
    ∀ (n p : Nat), P.length - p = n → p < P.length → ∀ fl pl, Btr (rfm (ledOn P i) l fl pl p) (rfm P l fl pl p) := by
  obtain ⟨b1, b2, b3⟩ := hB
  have hg' := (gp_led hg hi ⟨b1, b2, b3⟩).1
  have hsame : ∀ p, p < P.length → p ≠ i → ins (ledOn P i) p = ins P p := by
    intro p hp hne
    refine ins_of ?_
    unfold ledOn
    rw [List.getElem?_set_ne (by omega), ins_get hp]
  have hat : ins (ledOn P i) i = ⟨(ins P i).code, (ins P i).kind, (ins P i).no, (ins P i).num, (ins P i).text, (ins P (ins P i).dst.toNat).dst⟩ := by
    refine ins_of ?_
    unfold ledOn
    rw [List.getElem?_set_self hi]
  intro n
  induction n using Nat.strongRecOn with
  | ind n ih =>
    intro p hn hp fl pl
    have hp' : p < (ledOn P i).length := by rw [ledOn_len]; exact hp
    by_cases hpi : p = i
    · subst hpi
      have hJ := jmp_in hg hp b1 fl
      obtain ⟨j1, j2, _⟩ := gp_jump hg hp b1
      rw [rfm_jump hg l hp b1, rfm_jump hg' l hp' (by rw [hat]; exact b1), hat]
      by_cases ht : fl = decide ((ins P p).num = 1)
      · have hd : (ins P p).dst.toNat < P.length := by omega
        have e1 : jmpI (ins P p) fl p = (ins P p).dst.toNat := by unfold jmpI; rw [if_pos ht]
        rw [e1, rfm_jump hg l hd b2]
        have hJ2 := jmp_in hg hd b2 fl
        have e2 : jmpI (ins P (ins P p).dst.toNat) fl (ins P p).dst.toNat = (ins P (ins P p).dst.toNat).dst.toNat := by unfold jmpI; rw [b3, if_pos ht]
        rw [e2] at hJ2 ⊢
        have e3 : jmpI ⟨(ins P p).code, (ins P p).kind, (ins P p).no, (ins P p).num, (ins P p).text, (ins P (ins P p).dst.toNat).dst⟩ fl p = (ins P (ins P p).dst.toNat).dst.toNat := by unfold jmpI; dsimp only; rw [if_pos ht]
        rw [e3]
        exact ((ih (P.length - (ins P (ins P p).dst.toNat).dst.toNat) (by omega) _ rfl hJ2.2 fl pl).less 1).add 1
      · have e1 : jmpI (ins P p) fl p = p + 1 := by unfold jmpI; rw [if_neg ht]
        have e3 : jmpI ⟨(ins P p).code, (ins P p).kind, (ins P p).no, (ins P p).num, (ins P p).text, (ins P (ins P p).dst.toNat).dst⟩ fl p = p + 1 := by unfold jmpI; dsimp only; rw [if_neg ht]
        rw [e1] at hJ ⊢
        rw [e3]
        exact (ih (P.length - (p + 1)) (by omega) _ rfl hJ.2 fl pl).add 1
    · have hins := hsame p hp hpi
      rcases gp_codes hg hp with hc | hc | hc | hc | hc
      · have hnx := gp_next hg hp (by omega)
        rw [rfm_seek hg l hp hc, rfm_seek hg' l hp' (by rw [hins]; exact hc), hins]
        exact (ih (P.length - (p + 1)) (by omega) _ rfl hnx _ _).add 1
      · have hnx := gp_next hg hp (by omega)
        rw [rfm_test hg l hp hc, rfm_test hg' l hp' (by rw [hins]; exact hc), hins]
        exact (ih (P.length - (p + 1)) (by omega) _ rfl hnx _ _).add 1
      · have hJ := jmp_in hg hp hc fl
        rw [rfm_jump hg l hp hc, rfm_jump hg' l hp' (by rw [hins]; exact hc), hins]
        exact (ih (P.length - jmpI (ins P p) fl p) (by omega) _ rfl hJ.2 _ _).add 1
      · have hnx := gp_next hg hp (by omega)
        rw [rfm_flip hg l hp hc, rfm_flip hg' l hp' (by rw [hins]; exact hc)]
        exact (ih (P.length - (p + 1)) (by omega) _ rfl hnx _ _).add 1
      · rw [rfm_end l hp hc, rfm_end l hp' (by rw [hins]; exact hc)]
        exact Btr.refl _

theorem bet_sim {T U : List Ins} (hg : gp T = true) (l : List Fld) {i : Nat} (hi : i < T.length) (h : bet T i = some U) : Btr (rfm U l false none 0) (rfm T l false none 0) ∧ U.length ≤ T.length := by
  have hgU := (bet_good hg hi h).1
  have h0 : 0 < T.length := by omega
  unfold bet at h
  split at h
  · rename_i hA
    obtain ⟨a1, a2, a3, a4⟩ := hA
    cases h
    have hn := gp_next hg a2 (by omega)
    refine ⟨?_, by rw [cutP_len T i 2 (by omega)]; omega⟩
    have := cut_sim hg l (f := i) (m := 2) (by omega) (by omega) hgU (fun _ _ => True)
      (fun p hp hc hto => by have := led_no a4 hp hc; omega)
      (fun fl pl _ => ⟨by
        rw [rfm_flip hg l hi a1, rfm_flip hg l a2 a3, Bool.not_not]
        unfold addS
        rfl, trivial⟩)
      (fun p pl _ _ _ => ⟨fun _ => trivial, fun _ => trivial, fun _ => trivial, fun _ => ⟨trivial, trivial⟩⟩)
      T.length 0 rfl h0 (.inl (by omega)) false none trivial
    exact this
  · split at h
    · rename_i _ hB
      cases h
      exact ⟨led_sim hg l hi hB T.length 0 rfl h0 false none, by rw [ledOn_len]; omega⟩
    · split at h
      · rename_i _ _ hC
        obtain ⟨c1, c2, c3, c4, c5, c6, c7⟩ := hC
        cases h
        have hn := gp_next hg c2 (by omega)
        refine ⟨?_, by rw [cutP_len T (i + 2) 1 (by omega)]; omega⟩
        have := cut_sim hg l (f := i + 2) (m := 1) (by omega) (by omega) hgU (fun p pl => (p = i + 1 ∨ p = i + 2) → pl = fby l (ins T i).no)
          (fun p hp hc hto => by omega)
          (fun fl pl hok => ⟨by
            have e := hok (.inr rfl)
            rw [rfm_seek hg l c2 c4, c5, ← e], fun h => by omega⟩)
          (fun p pl hp hin hok => ⟨fun hc h => by
              rcases h with h | h
              · have : p = i := by omega
                rw [this]
              · have : p = i + 1 := by omega
                rw [this] at hc
                omega, fun hc h => by
              rcases h with h | h
              · have : p = i := by omega
                rw [this] at hc
                omega
              · exact hok (.inl (by omega)), fun hc h => by
              rcases h with h | h
              · have : p = i := by omega
                rw [this] at hc
                omega
              · have : p = i + 1 := by omega
                rw [this] at hc
                omega, fun hc => ⟨fun h => by
              rcases h with h | h
              · have : p = i := by omega
                rw [this] at hc
                omega
              · have : p = i + 1 := by omega
                rw [this] at hc
                omega, fun h => by
              have l1 := led_no c6 hp hc
              have l2 := led_no c7 hp hc
              have := (gp_jump hg hp hc).1
              omega⟩⟩)
          T.length 0 rfl h0 (.inl (by omega)) false none (fun h => by omega)
        exact this
      · cases h

theorem peep_sim (l : List Fld) : ∀ (f : Nat) (T : List Ins), gp T = true → gp (peep f T) = true ∧ Btr (rfm (peep f T) l false none 0) (rfm T l false none 0) ∧ (peep f T).length ≤ T.length
  | 0, T, hg => ⟨hg, Btr.refl _, Nat.le_refl _⟩
  | f + 1, T, hg => by
    cases h : fstB T T.length 0 with
    | none => rw [peep_none h]; exact ⟨hg, Btr.refl _, Nat.le_refl _⟩
    | some U =>
      rw [peep_some h]
      obtain ⟨j, h1, h2, h3⟩ := fstB_some T U _ _ h
      have hj : j < T.length := by omega
      have hgU := (bet_good hg hj h3).1
      obtain ⟨b1, b2⟩ := bet_sim hg l hj h3
      obtain ⟨i1, i2, i3⟩ := peep_sim l f U hgU
      exact ⟨i1, i2.trans b1, by omega⟩

theorem peep_fix : ∀ (f : Nat) (T : List Ins), gp T = true → mea T ≤ f → fstB (peep f T) (peep f T).length 0 = none
  | 0, T, hg, h => by
    have := gp_len hg
    unfold mea at h
    omega
  | f + 1, T, hg, h => by
    cases h1 : fstB T T.length 0 with
    | none => rw [peep_none h1]; exact h1
    | some U =>
      rw [peep_some h1]
      obtain ⟨j, g1, g2, g3⟩ := fstB_some T U _ _ h1
      have := bet_good hg (by omega : j < T.length) g3
      exact peep_fix f U this.1 (by omega)

/-- a program made better: good, no longer, made better no more, and telling the same in no more steps -/
theorem peo_runs {T : List Ins} (hg : gp T = true) (s : ByteArray) : gp (peo T).1 = true ∧ (peo T).1.length ≤ T.length ∧ peo (peo T).1 = ((peo T).1, true) ∧ (rpo (peo T).1 s).1 = (rpo T s).1 ∧ (rpo (peo T).1 s).2.1 ≤ (rpo T s).2.1 ∧ (rpo (peo T).1 s).2.2 = (rpo T s).2.2 := by
  have e : (peo T).1 = peep (mea T) T := by unfold peo; rw [hg]; rfl
  obtain ⟨i1, i2, i3⟩ := peep_sim (rr s).1 (mea T) T hg
  have hfix := peep_fix (mea T) T hg (Nat.le_refl _)
  rw [e]
  refine ⟨i1, i3, ?_, ?_⟩
  · unfold peo
    rw [i1, peep_none hfix]
    rfl
  · unfold rpo
    rw [i1, hg]
    cases hs : (rr s).2 with
    | false => exact ⟨rfl, by show (0 : Int) ≤ 0; omega, rfl⟩
    | true =>
      have e1 : rn (peep (mea T) T) (rr s).1 (peep (mea T) T).length false none 0 0 = rfm (peep (mea T) T) (rr s).1 false none 0 := by unfold rfm; rw [Nat.sub_zero]
      have e2 : rn T (rr s).1 T.length false none 0 0 = rfm T (rr s).1 false none 0 := by unfold rfm; rw [Nat.sub_zero]
      show (rn _ _ _ _ _ _ _).1 = (rn _ _ _ _ _ _ _).1 ∧ ((rn _ _ _ _ _ _ _).2 : Int) ≤ ((rn _ _ _ _ _ _ _).2 : Int) ∧ true = true
      rw [e1, e2]
      exact ⟨i2.1, by have := i2.2; omega, rfl⟩

end Go.Proofs.YtmjpmmkjfimopaaDoor

namespace Go.Proofs.YtmjpmmkjfimopaaDoor
open Go.RowKit Plain Sch Wan Prg

theorem ins_mem30 {L : List Ins} (h : ∀ x ∈ L, x.text.size ≤ 30) {i : Nat} (hi : i < L.length) : (ins L i).text.size ≤ maxLen := by
  have h1 : ins L i ∈ L := by
    unfold ins
    rw [List.getD, List.getElem?_eq_getElem hi]
    exact List.getElem_mem hi
  have := h _ h1
  unfold maxLen
  omega

theorem ins_allK {w1 W : World} {B : Nat} {v : Value} {L : List Ins} (h : IRow w1 B v L) (ht : ∀ i, i < L.length → (ins L i).text.size ≤ maxLen) (hB : Below w1.heap.size w1 W) : ∀ W', Below W.heap.size W W' → InsAt W' W'.heap.size v L := fun W' hW => by
  have h1 : InsAt w1 w1.heap.size v L := InsAt.own h ht
  exact h1.below (hB.trans (hW.mono hB.size))

theorem peo_texts (T : List Ins) : ∀ i, i < (peo T).1.length → (ins (peo T).1 i).text.size ≤ maxLen := by
  intro i hi
  by_cases hg : gp T = true
  · exact ins_mem30 (gp_texts (peo_runs hg ⟨#[]⟩).1) hi
  · have e : (peo T).1 = [] := by unfold peo; rw [if_neg hg]
    rw [e] at hi
    simp at hi

theorem peo_len (T : List Ins) : (peo T).1.length ≤ T.length := by
  by_cases hg : gp T = true
  · exact (peo_runs hg ⟨#[]⟩).2.1
  · have e : (peo T).1 = [] := by unfold peo; rw [if_neg hg]
    rw [e]; simp

set_option maxRecDepth 100000 in
set_option maxHeartbeats 16000000 in
theorem walkFnPeephole (a0 : Option Addr) (len0 cap0 : Nat) (w : World) (hk : KR w) (h0 : len0 ≤ 1048576 → CodeAt w a0 len0) (y0 : len0 ≤ 140737488351232) :
    Calls Tryd.prog 4 #[.slice a0 len0 cap0] w fun e w' => e = .returned (.bool true) ∧ Below w.heap.size w w' := by
  by_cases hbig : 1048576 < len0
  · have hbig' : (1048576 : Int) < (len0 : Int) := by omega
    clear h0 hk
    go_enter Tryd.func4, Tryd.ntmps4
    go_wp2
    go_ret
    exact ⟨rfl, Below.refl _ _⟩
  have hbig' : (len0 : Int) ≤ 1048576 := by omega
  have hk0 := h0 (by omega)
  have HK : Hid (∀ W, Below w.heap.size w W → KR W) := fun W hW => hk.below hW hk.1
  clear h0 hbig hk
  go_enter Tryd.func4, Tryd.ntmps4
  go_wp2_with fail
  refine (drawRun_any a0 len0 cap0 w hk0).mono ?_
  rintro e w2 ⟨ao, cap, L, t, rfl, hL, ht⟩
  obtain ⟨hrL, hL42, htL, hb2⟩ := hL
  have htm : t.size ≤ maxLen := by unfold maxLen; omega
  obtain ⟨W3, hW3⟩ : ∃ W, W = w2.alloc (.cells #[.slice ao L.length cap] 30) := ⟨_, rfl⟩
  have hB3 : Below w2.heap.size w2 W3 := by rw [hW3]; exact (Below.refl _ w2).alloc (Nat.le_refl _) _
  have HS3 : Hid (W3.heap.size = w2.heap.size + 1) := by show _ = _; rw [hW3]; simp
  have HC3 : Hid (∀ W : World, Below W3.heap.size W3 W → W.cell? ⟨w2.heap.size, 0, none⟩ = some (.slice ao L.length cap) ∧ w2.heap.size < W.heap.size) := fun W hW => by
    have hs := HS3.out
    have h2 := hW.size
    refine ⟨(hW.cell (p := ⟨w2.heap.size, 0, none⟩) (by show w2.heap.size < _; omega)).trans ?_, by omega⟩
    rw [hW3]; go_simp
  have HTL : Hid (∀ W, Below W3.heap.size W3 W → InsAt W W.heap.size (.slice ao L.length cap) L) := ins_allK hrL (fun i hi => ins_mem30 htL hi) hB3
  have HB3 : Hid (Below w.heap.size w W3) := hb2.trans (hB3.mono hb2.size)
  have HK3 : Hid (∀ W, Below W3.heap.size W3 W → KR W) := fun W hW => HK.out W (HB3.out.trans (hW.mono HB3.out.size))
  have RI : Hid (∀ W, Below W3.heap.size W3 W → Calls Tryd.prog 10 #[.agg #[.slice ao L.length cap], .string t] W fun e w' => e = .returned (.tuple #[.bool (rpo L t).1, .int .i64 (rpo L t).2.1, .bool (rpo L t).2.2]) ∧ Below W.heap.size W w') := fun W hW => implRun L t _ W (HTL.out W hW) htm (HK3.out W hW)
  have RS : Hid (∀ W, Below W3.heap.size W3 W → Calls Tryd.prog 15 #[.agg #[.slice ao L.length cap], .string t] W fun e w' => e = .returned (.tuple #[.bool (rpo L t).1, .int .i64 (rpo L t).2.1, .bool (rpo L t).2.2]) ∧ Below W.heap.size W w') := fun W hW => specRun L t _ W (HTL.out W hW) htm
  have PI : Hid (∀ W, Below W3.heap.size W3 W → Calls Tryd.prog 16 #[.agg #[.slice ao L.length cap]] W fun e w' => OPro W w' e (peo L)) := fun W hW => implPeep L _ W (HTL.out W hW)
  have PS : Hid (∀ W, Below W3.heap.size W3 W → Calls Tryd.prog 17 #[.agg #[.slice ao L.length cap]] W fun e w' => OPro W w' e (peo L)) := fun W hW => specPeep L _ W (HTL.out W hW)
  have SI : Hid (∀ W, Below W3.heap.size W3 W → Calls Tryd.prog 11 #[.agg #[.slice ao L.length cap]] W fun e w' => e = .returned (.tuple #[.int .i64 (sto L).1, .bool (sto L).2]) ∧ Below W.heap.size W w') := fun W hW => implSteps L _ W (HTL.out W hW)
  have SS : Hid (∀ W, Below W3.heap.size W3 W → Calls Tryd.prog 18 #[.agg #[.slice ao L.length cap]] W fun e w' => e = .returned (.tuple #[.int .i64 (sto L).1, .bool (sto L).2]) ∧ Below W.heap.size W w') := fun W hW => specSteps L _ W (HTL.out W hW)
  have GI : Hid (∀ W, Below W3.heap.size W3 W → Calls Tryd.prog 12 #[.agg #[.slice ao L.length cap]] W fun e w' => e = .returned (.bool (gp L)) ∧ Below W.heap.size W w') := fun W hW => implGoodP L _ W (HTL.out W hW)
  have HTX : Hid (∀ i, i < (peo L).1.length → (ins (peo L).1 i).text.size ≤ maxLen) := peo_texts L
  have HPL := peo_len L
  have HGP : Hid (gp L = (peo L).2) := by show _ = _; unfold peo; cases gp L <;> rfl
  have HNO : Hid ((peo L).2 = false → (peo L).1.length = 0) := fun h => by
    have e : ¬ gp L = true := by rw [HGP.out, h]; simp
    unfold peo
    rw [if_neg e]
    rfl
  have HRUN : Hid ((peo L).2 = true → gp (peo L).1 = true ∧ peo (peo L).1 = ((peo L).1, true) ∧ (rpo (peo L).1 t).1 = (rpo L t).1 ∧ (rpo (peo L).1 t).2.1 ≤ (rpo L t).2.1 ∧ (rpo (peo L).1 t).2.2 = (rpo L t).2.2) := fun h => by
    have hg : gp L = true := by rw [HGP.out, h]
    obtain ⟨i1, _, i3, i4, i5, i6⟩ := peo_runs hg t
    exact ⟨i1, i3, i4, i5, i6⟩
  rw [HGP.out] at GI
  generalize (rpo L t).1 = r at RI RS HRUN
  generalize (rpo L t).2.1 = n at RI RS HRUN
  generalize (rpo L t).2.2 = ok at RI RS HRUN
  generalize (sto L).1 = k at SI SS
  generalize (sto L).2 = one at SI SS
  obtain ⟨Q, hQ⟩ : ∃ Q, Q = peo L := ⟨_, rfl⟩
  rw [← hQ] at PI PS GI HTX HPL HNO HRUN
  clear hQ HGP
  obtain ⟨P, is⟩ := Q
  dsimp only at GI HTX HPL HNO HRUN
  have HP42 : P.length ≤ 42 := by omega
  clear hrL hb2 hB3 hk0 htL HK
  go_wp2_with fail
  rw [← hW3]
  clear hW3
  refine (RI.out _ (Below.refl _ _)).mono ?_
  rintro e w4 ⟨rfl, hb4⟩
  obtain ⟨q4, z4⟩ := HC3.out _ hb4
  clear RI
  go_wp2_with fail
  refine (RS.out _ hb4).mono ?_
  rintro e w5 ⟨rfl, hb5⟩
  have hB5 : Below W3.heap.size W3 w5 := hb4.trans (hb5.mono hb4.size)
  obtain ⟨q5, z5⟩ := HC3.out _ hB5
  clear RS q4 z4 hb4 hb5
  go_wp2_with fail
  refine (PI.out _ hB5).mono ?_
  rintro e w6 ⟨rv6, rfl, hr6, hb6⟩
  dsimp only at hr6 ⊢
  obtain ⟨a6, c6, hrv6, _, _⟩ := hr6.slice
  subst hrv6
  have hB6 : Below W3.heap.size W3 w6 := hB5.trans (hb6.mono hB5.size)
  obtain ⟨q6, z6⟩ := HC3.out _ hB6
  obtain ⟨W7, hW7⟩ : ∃ W, W = w6.alloc (.cells #[.slice a6 P.length c6] 30) := ⟨_, rfl⟩
  have hB67 : Below w6.heap.size w6 W7 := by rw [hW7]; exact (Below.refl _ w6).alloc (Nat.le_refl _) _
  have HS7 : Hid (W7.heap.size = w6.heap.size + 1) := by show _ = _; rw [hW7]; simp
  have HC7 : Hid (∀ W : World, Below W7.heap.size W7 W → W.cell? ⟨w6.heap.size, 0, none⟩ = some (.slice a6 P.length c6) ∧ w6.heap.size < W.heap.size) := fun W hW => by
    have hs := HS7.out
    have h2 := hW.size
    refine ⟨(hW.cell (p := ⟨w6.heap.size, 0, none⟩) (by show w6.heap.size < _; omega)).trans ?_, by omega⟩
    rw [hW7]; go_simp
  have HTP : Hid (∀ W, Below W7.heap.size W7 W → InsAt W W.heap.size (.slice a6 P.length c6) P) := ins_allK hr6 HTX.out hB67
  have hB7 : Below W3.heap.size W3 W7 := hB6.trans (hB67.mono hB6.size)
  obtain ⟨p7, u7⟩ := HC3.out _ hB7
  clear hr6 hb6 hB67 PI q5 z5 hB5
  go_wp2_with fail
  rw [← hW7]
  clear hW7 q6 z6
  refine (PS.out _ hB7).mono ?_
  rintro e w8 ⟨rv8, rfl, hr8, hb8⟩
  dsimp only at hr8 ⊢
  obtain ⟨a8, c8, hrv8, _, _⟩ := hr8.slice
  subst hrv8
  obtain ⟨W9, hW9⟩ : ∃ W, W = w8.alloc (.cells #[.slice a8 P.length c8] 30) := ⟨_, rfl⟩
  have hB89 : Below w8.heap.size w8 W9 := by rw [hW9]; exact (Below.refl _ w8).alloc (Nat.le_refl _) _
  have HS9 : Hid (W9.heap.size = w8.heap.size + 1) := by show _ = _; rw [hW9]; simp
  have HC9 : Hid (∀ W : World, Below W9.heap.size W9 W → W.cell? ⟨w8.heap.size, 0, none⟩ = some (.slice a8 P.length c8) ∧ w8.heap.size < W.heap.size) := fun W hW => by
    have hs := HS9.out
    have h2 := hW.size
    refine ⟨(hW.cell (p := ⟨w8.heap.size, 0, none⟩) (by show w8.heap.size < _; omega)).trans ?_, by omega⟩
    rw [hW9]; go_simp
  have HTB : Hid (∀ W, Below W9.heap.size W9 W → InsAt W W.heap.size (.slice a8 P.length c8) P) := ins_allK hr8 HTX.out hB89
  have hB79 : Below W7.heap.size W7 W9 := hb8.trans (hB89.mono hb8.size)
  have hB39 : Below W3.heap.size W3 W9 := hB7.trans (hB79.mono hB7.size)
  obtain ⟨p8, u8⟩ := HC3.out _ (hB7.trans (hb8.mono hB7.size))
  obtain ⟨p9, u9⟩ := HC3.out _ hB39
  clear hr8 hb8 hB89 PS HTX
  go_wp2_with fail
  rw [← hW9]
  clear hW9 p7 u7 p8 u8
  refine (SI.out _ hB39).mono ?_
  rintro e w10 ⟨rfl, hb10⟩
  have hB10 : Below W9.heap.size W9 w10 := hb10
  have hC10 : Below W3.heap.size W3 w10 := hB39.trans (hb10.mono hB39.size)
  obtain ⟨p10, u10⟩ := HC3.out _ hC10
  clear SI p9 u9 hb10
  go_wp2_with fail
  refine (SS.out _ hC10).mono ?_
  rintro e w11 ⟨rfl, hb11⟩
  have hB11 : Below W9.heap.size W9 w11 := hB10.trans (hb11.mono hB10.size)
  clear SS p10 u10 hC10 hB10 hb11
  have hB711 : Below W7.heap.size W7 w11 := hB79.trans (hB11.mono hB79.size)
  have hB311 : Below W3.heap.size W3 w11 := hB39.trans (hB11.mono hB39.size)
  obtain ⟨q11, z11⟩ := HC7.out _ hB711
  obtain ⟨b11, y11⟩ := HC9.out _ hB11
  have n1 : (ok != ok) = false := by simp
  have n2 : (r != r) = false := by simp
  have n3 : (is != is) = false := by simp
  have n4 : (one != one) = false := by simp
  have HSP : Hid (Calls Tryd.prog 8 #[.agg #[.slice a6 P.length c6], .agg #[.slice a8 P.length c8]] w11 fun e w' => e = .returned (.bool true) ∧ Below w11.heap.size w11 w') := samePrograms_same P _ _ w11 (HTP.out _ hB711) (HTB.out _ hB11) (by omega)
  go_wp2_with fail
  refine HSP.out.mono ?_
  rintro e w12 ⟨rfl, hb12⟩
  have hB12 : Below W3.heap.size W3 w12 := hB311.trans (hb12.mono hB311.size)
  have hB712 : Below W7.heap.size W7 w12 := hB711.trans (hb12.mono hB711.size)
  obtain ⟨p12, u12⟩ := HC3.out _ hB12
  clear HSP hb12 q11 z11 b11 y11 HTB HC9 HS9 hB11 hB39 hB79 hB311 hB711
  go_wp2_with fail
  refine (GI.out _ hB12).mono ?_
  rintro e w13 ⟨rfl, hb13⟩
  have hB13 : Below W3.heap.size W3 w13 := hB12.trans (hb13.mono hB12.size)
  have hB713 : Below W7.heap.size W7 w13 := hB712.trans (hb13.mono hB712.size)
  obtain ⟨p13, u13⟩ := HC3.out _ hB13
  obtain ⟨q13, z13⟩ := HC7.out _ hB713
  have HBW : Hid (∀ W, Below W7.heap.size W7 W → Below w.heap.size w W) := fun W hW => HB3.out.trans ((hB7.trans (hW.mono hB7.size)).mono HB3.out.size)
  clear GI hb13 p12 u12 hB12 hB712
  cases is with
  | false =>
    have hPz := HNO.out rfl
    have hPz' : ((P.length : Int) == 0) = true := by rw [hPz]; rfl
    go_wp2
    go_ret
    exact ⟨rfl, HBW.out _ hB713⟩
  | true =>
    obtain ⟨r1, r2, r3, r4, r5⟩ := HRUN.out rfl
    have PQ : Hid (∀ W, Below W7.heap.size W7 W → Calls Tryd.prog 16 #[.agg #[.slice a6 P.length c6]] W fun e w' => OPro W w' e (P, true)) := fun W hW => by
      have h := implPeep P _ W (HTP.out W hW)
      rw [r2] at h
      exact h
    have GQ : Hid (∀ W, Below W7.heap.size W7 W → Calls Tryd.prog 12 #[.agg #[.slice a6 P.length c6]] W fun e w' => e = .returned (.bool true) ∧ Below W.heap.size W w') := fun W hW => by
      have h := implGoodP P _ W (HTP.out W hW)
      rw [r1] at h
      exact h
    have RQ : Hid (∀ W, Below W7.heap.size W7 W → Calls Tryd.prog 10 #[.agg #[.slice a6 P.length c6], .string t] W fun e w' => e = .returned (.tuple #[.bool r, .int .i64 (rpo P t).2.1, .bool ok]) ∧ Below W.heap.size W w') := fun W hW => by
      have h := implRun P t _ W (HTP.out W hW) htm (HK3.out _ (hB7.trans (hW.mono hB7.size)))
      rw [r3, r5] at h
      exact h
    generalize (rpo P t).2.1 = less at RQ r4
    have HR4 : Hid (less ≤ n) := r4
    have d4 : decide (n < less) = false := by simp; omega
    have hlnI : (P.length : Int) ≤ (L.length : Int) := by omega
    have HX : Hid (∀ W, Below W7.heap.size W7 W → Below W3.heap.size W3 W) := fun W hW => hB7.trans (hW.mono hB7.size)
    have HTX : Hid (∀ i, i < P.length → (ins P i).text.size ≤ maxLen) := fun i hi => ins_mem30 (gp_texts r1) hi
    clear r1 r2 r3 r5 HRUN HNO
    cases ok with
    | false =>
      clear RQ d4 HR4 r4
      go_wp2_with fail
      refine (PQ.out _ hB713).mono ?_
      rintro e w20 ⟨rv20, rfl, hr20, hb20⟩
      dsimp only at hr20 ⊢
      obtain ⟨a20, c20, hrv20, _, _⟩ := hr20.slice
      subst hrv20
      obtain ⟨W21, hW21⟩ : ∃ W, W = w20.alloc (.cells #[.slice a20 P.length c20] 30) := ⟨_, rfl⟩
      have hB21 : Below w20.heap.size w20 W21 := by rw [hW21]; exact (Below.refl _ w20).alloc (Nat.le_refl _) _
      have HC21 : W21.cell? ⟨w20.heap.size, 0, none⟩ = some (.slice a20 P.length c20) := by rw [hW21]; go_simp
      have hz21 : w20.heap.size < W21.heap.size := by rw [hW21]; simp
      have hB7z : Below W7.heap.size W7 W21 := (hB713.trans (hb20.mono hB713.size)).trans (hB21.mono (hB713.trans (hb20.mono hB713.size)).size)
      have hB720 : Below W7.heap.size W7 w20 := hB713.trans (hb20.mono hB713.size)
      obtain ⟨q20, z20⟩ := HC7.out _ hB720
      obtain ⟨q21, z21⟩ := HC7.out _ hB7z
      have HSP : Hid (Calls Tryd.prog 8 #[.agg #[.slice a20 P.length c20], .agg #[.slice a6 P.length c6]] W21 fun e w' => e = .returned (.bool true) ∧ Below W21.heap.size W21 w') := samePrograms_same P _ _ W21 (ins_allK hr20 HTX.out hB21 W21 (Below.refl _ _)) (HTP.out _ hB7z) (by omega)
      clear hr20 hb20 hB21 hB720 PQ
      go_wp2_with fail
      rw [← hW21]
      clear hW21 q20 z20
      refine HSP.out.mono ?_
      rintro e w22 ⟨rfl, hb22⟩
      have hB22 : Below W7.heap.size W7 w22 := hB7z.trans (hb22.mono hB7z.size)
      obtain ⟨q22, z22⟩ := HC7.out _ hB22
      obtain ⟨p22, u22⟩ := HC3.out _ (HX.out _ hB22)
      clear HSP hb22 q21 z21 HC21 hz21 hB7z
      go_wp2_with fail
      refine (GQ.out _ hB22).mono ?_
      rintro e w23 ⟨rfl, hb23⟩
      have hB23 : Below W7.heap.size W7 w23 := hB22.trans (hb23.mono hB22.size)
      clear GQ hb23 q22 z22 p22 u22
      go_wp2
      go_ret
      exact ⟨rfl, HBW.out _ hB23⟩
    | true =>
      go_wp2_with fail
      refine (RQ.out _ hB713).mono ?_
      rintro e w14 ⟨rfl, hb14⟩
      have hB714 : Below W7.heap.size W7 w14 := hB713.trans (hb14.mono hB713.size)
      clear RQ hb14 q13 z13 p13 u13 hB713 hB13
      obtain ⟨q14, z14⟩ := HC7.out _ hB714
      go_wp2_with fail
      refine (PQ.out _ hB714).mono ?_
      rintro e w20 ⟨rv20, rfl, hr20, hb20⟩
      dsimp only at hr20 ⊢
      obtain ⟨a20, c20, hrv20, _, _⟩ := hr20.slice
      subst hrv20
      obtain ⟨W21, hW21⟩ : ∃ W, W = w20.alloc (.cells #[.slice a20 P.length c20] 30) := ⟨_, rfl⟩
      have hB21 : Below w20.heap.size w20 W21 := by rw [hW21]; exact (Below.refl _ w20).alloc (Nat.le_refl _) _
      have HC21 : W21.cell? ⟨w20.heap.size, 0, none⟩ = some (.slice a20 P.length c20) := by rw [hW21]; go_simp
      have hz21 : w20.heap.size < W21.heap.size := by rw [hW21]; simp
      have hB7z : Below W7.heap.size W7 W21 := (hB714.trans (hb20.mono hB714.size)).trans (hB21.mono (hB714.trans (hb20.mono hB714.size)).size)
      have hB720 : Below W7.heap.size W7 w20 := hB714.trans (hb20.mono hB714.size)
      obtain ⟨q20, z20⟩ := HC7.out _ hB720
      obtain ⟨q21, z21⟩ := HC7.out _ hB7z
      have HSP : Hid (Calls Tryd.prog 8 #[.agg #[.slice a20 P.length c20], .agg #[.slice a6 P.length c6]] W21 fun e w' => e = .returned (.bool true) ∧ Below W21.heap.size W21 w') := samePrograms_same P _ _ W21 (ins_allK hr20 HTX.out hB21 W21 (Below.refl _ _)) (HTP.out _ hB7z) (by omega)
      clear hr20 hb20 hB21 hB720 PQ
      go_wp2_with fail
      rw [← hW21]
      clear hW21 q20 z20
      refine HSP.out.mono ?_
      rintro e w22 ⟨rfl, hb22⟩
      have hB22 : Below W7.heap.size W7 w22 := hB7z.trans (hb22.mono hB7z.size)
      obtain ⟨q22, z22⟩ := HC7.out _ hB22
      obtain ⟨p22, u22⟩ := HC3.out _ (HX.out _ hB22)
      clear HSP hb22 q21 z21 HC21 hz21 hB7z
      go_wp2_with fail
      refine (GQ.out _ hB22).mono ?_
      rintro e w23 ⟨rfl, hb23⟩
      have hB23 : Below W7.heap.size W7 w23 := hB22.trans (hb23.mono hB22.size)
      clear GQ hb23 q22 z22 p22 u22
      go_wp2
      go_ret
      exact ⟨rfl, HBW.out _ hB23⟩

end Go.Proofs.YtmjpmmkjfimopaaDoor

namespace Go.Proofs.YtmjpmmkjfimopaaDoor
open Go.RowKit

theorem code_of_cells {w : World} {x : Addr} {len : Nat} {zs : List Int} (hl : len ≤ zs.length) (hc : ∀ i, i < zs.length → w.cell? (x.add i) = some (.int .u8 (zs.getD i 0))) (hw : ∀ n ∈ zs, (Lit.int .u8 n).wf = true) (h : len ≤ 1048576) : CodeAt w (some x) len := by
  refine ⟨h, fun hz => ?_⟩
  obtain ⟨ab, o, sp⟩ := x
  have h0 := hc 0 (by omega)
  have hsp : sp = none := by simpa [Addr.add] using World.cell?_spot h0
  subst hsp
  refine ⟨ab, o, rfl, World.block_lt_of_cell? w _ h0, fun i hi => ?_⟩
  have hi' : i < zs.length := by omega
  have hci := hc i hi'
  have hmem : zs.getD i 0 ∈ zs := by rw [List.getD_eq_getElem?_getD, List.getElem?_eq_getElem hi']; exact List.getElem_mem hi'
  have hwf := hw _ hmem
  generalize zs.getD i 0 = n at hci hwf
  have hb : 0 ≤ n ∧ n ≤ 255 := bounds_u8 hwf
  obtain ⟨y, rfl⟩ := Int.eq_ofNat_of_zero_le hb.1
  refine ⟨y, by omega, ?_⟩
  by_cases h0 : i = 0
  · subst h0; simpa [Addr.add] using hci
  · simpa [Addr.add, h0] using hci

def IsRow (k : IntKind) (w : World) (a : Option Addr) (len cap : Nat) (zs : List Int) : Prop :=
  (a = none ∧ len = 0 ∧ cap = 0 ∧ zs = []) ∨
  ∃ x, a = some x ∧ len ≤ cap ∧ cap ≤ maxLen ∧ zs.length = cap ∧ (∀ i, i < zs.length → w.cell? (x.add i) = some (.int k (zs.getD i 0))) ∧ ∀ n ∈ zs, (Lit.int k n).wf = true

theorem code_of_row {w : World} {a : Option Addr} {len cap : Nat} {zs : List Int} (h : IsRow .u8 w a len cap zs) (hl : len ≤ 1048576) : CodeAt w a len := by
  rcases h with ⟨rfl, rfl, rfl, rfl⟩ | ⟨x, rfl, h1, h2, h3, h4, h5⟩
  · exact ⟨hl, fun hz => by omega⟩
  · exact code_of_cells (by omega) h4 h5 hl

end Go.Proofs.YtmjpmmkjfimopaaDoor
