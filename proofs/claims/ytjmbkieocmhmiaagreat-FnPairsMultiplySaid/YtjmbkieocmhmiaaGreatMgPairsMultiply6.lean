/- Texts that the claim needs, part 7. -/
import Derived.Test.YtjmbkieocmhmiaaGreatMgPairsMultiply5
import Derived.Deep.Cut
/-! WPairsMultiply -/
namespace Go.Proofs.YtjmbkieocmhmiaaGreat
open Go.RowKit

theorem pwN_red {b : Pr} : ∀ {k : Nat} {o : Pr}, pwN b k = some o → red o = o := by
  intro k
  induction k with
  | zero => intro o h; injection h with h; subst h; exact red_id
  | succ k ih =>
    intro o h
    rw [pwN] at h
    cases h1 : pwN b k with
    | none => rw [h1] at h; simp at h
    | some q =>
      rw [h1] at h
      obtain ⟨e, hc⟩ := limP_some (show limP (mulP q b) = some o from h)
      rw [e]
      exact mul_red _ _
theorem o_cases (o : Option Pr) : o.isSome = false ∨ ∃ m, o = some m ∧ pS1 o = m.1.str ∧ pS2 o = m.2.str ∧ o.isSome = true := by
  cases o with
  | none => exact .inl rfl
  | some m => exact .inr ⟨m, rfl, rfl, rfl, rfl⟩
theorem limP_le {p : Pr} (h : p.1.carets ≤ 8) : limP p = some p := by unfold limP; rw [if_pos h]
def MulG (a b u v M1 M2 : ByteArray) : Prop := ∃ U1 U2 V1 V2 N1 N2 R1 R2 : ByteArray,
  (∀ w, Calls Tryz.prog 9 #[.agg #[.string a, .string b]] w (Gives (.tuple #[.agg #[.string b, .string a], .bool true]) w)) ∧
  (∀ w, Calls Tryz.prog 9 #[.agg #[.string u, .string v]] w (Gives (.tuple #[.agg #[.string v, .string u], .bool true]) w)) ∧
  (∀ w, Calls Tryz.prog 7 #[.agg #[.string v, .string u], .agg #[.string b, .string a]] w (Gives (.tuple #[.agg #[.string M2, .string M1], .bool true]) w)) ∧
  (∀ w, Calls Tryz.prog 9 #[.agg #[.string M1, .string M2]] w (Gives (.tuple #[.agg #[.string M2, .string M1], .bool true]) w)) ∧
  (∀ w, Calls Tryz.prog 10 #[.agg #[.string a, .string b]] w (Gives (.tuple #[.agg #[.string U1, .string U2], .bool true]) w)) ∧
  (∀ w, Calls Tryz.prog 10 #[.agg #[.string u, .string v]] w (Gives (.tuple #[.agg #[.string V1, .string V2], .bool true]) w)) ∧
  (∀ w, Calls Tryz.prog 7 #[.agg #[.string U1, .string U2], .agg #[.string V1, .string V2]] w (Gives (.tuple #[.agg #[.string N1, .string N2], .bool true]) w)) ∧
  (∀ w, Calls Tryz.prog 10 #[.agg #[.string M1, .string M2]] w (Gives (.tuple #[.agg #[.string N1, .string N2], .bool true]) w)) ∧
  (∀ w, Calls Tryz.prog 11 #[.agg #[.string M1, .string M2]] w (Gives (.tuple #[.bool true, .bool true]) w)) ∧
  (∀ w, Calls Tryz.prog 7 #[.agg #[.string M1, .string M2], .agg #[.string v, .string u]] w (Gives (.tuple #[.agg #[.string R1, .string R2], .bool true]) w)) ∧
  (∀ w, Calls Tryz.prog 12 #[.agg #[.string R1, .string R2], .agg #[.string a, .string b]] w (Gives (.bool true) w))
theorem pr_cases {a b u v : ByteArray} {f : Pr → Pr → Option Pr} {m : Pr} (h : ((pairOf a b).bind fun p => (pairOf u v).bind fun q => f p q) = some m) : ∃ p q : Pr, a = p.1.str ∧ b = p.2.str ∧ u = q.1.str ∧ v = q.2.str ∧ okP p ∧ okP q ∧ p.1.carets ≤ 8 ∧ p.2.carets ≤ 8 ∧ q.1.carets ≤ 8 ∧ q.2.carets ≤ 8 ∧ f p q = some m := by
  cases hp : pairOf a b with
  | none => rw [hp] at h; simp at h
  | some p =>
    rw [hp] at h
    simp only [Option.bind_some] at h
    cases hq : pairOf u v with
    | none => rw [hq] at h; simp at h
    | some q =>
      rw [hq] at h
      simp only [Option.bind_some] at h
      obtain ⟨h1, h2, h3, h4, h5⟩ := pairOf_some hp
      obtain ⟨k1, k2, k3, k4, k5⟩ := pairOf_some hq
      exact ⟨p, q, h1, h2, k1, k2, h3, k3, h4, h5, k4, k5, h⟩
theorem prod_call {p q : Pr} (hp : okP p) (hq : okP q) (p1 : p.1.carets ≤ 8) (q1 : q.1.carets ≤ 8) : ∀ w, Calls Tryz.prog 7 #[.agg #[.string p.1.str, .string p.2.str], .agg #[.string q.1.str, .string q.2.str]] w (Gives (ansPr (limP (mulP p q))) w) := by
  intro w
  have s1 := p.1.str_size
  have s2 := p.2.str_size
  have s3 := q.1.str_size
  have s4 := q.2.str_size
  have hp' : p.1.carets = p.2.carets := hp
  have hq' : q.1.carets = q.2.carets := hq
  have := implProductPair_any p.1.str p.2.str q.1.str q.2.str w (by omega) (by omega) (by omega) (by omega)
  rw [pairOf_str hp p1, pairOf_str hq q1] at this
  exact this
theorem inv_call {p : Pr} (hp : okP p) (p1 : p.1.carets ≤ 8) : ∀ w, Calls Tryz.prog 9 #[.agg #[.string p.1.str, .string p.2.str]] w (Gives (.tuple #[.agg #[.string p.2.str, .string p.1.str], .bool true]) w) := by
  intro w
  have s1 := p.1.str_size
  have s2 := p.2.str_size
  have hp' : p.1.carets = p.2.carets := hp
  have := implInversePair_any p.1.str p.2.str w (by omega) (by omega)
  rw [pairOf_str hp p1] at this
  exact this
theorem mir_call {p : Pr} (hp : okP p) (p1 : p.1.carets ≤ 8) : ∀ w, Calls Tryz.prog 10 #[.agg #[.string p.1.str, .string p.2.str]] w (Gives (.tuple #[.agg #[.string p.1.mir.str, .string p.2.mir.str], .bool true]) w) := by
  intro w
  have s1 := p.1.str_size
  have s2 := p.2.str_size
  have hp' : p.1.carets = p.2.carets := hp
  have := implMirrorPair_any p.1.str p.2.str w (by omega) (by omega)
  rw [pairOf_str hp p1] at this
  exact this
theorem mul_calls {a b u v y1 y2 : ByteArray} {m : Pr} (h : ((pairOf a b).bind fun p => (pairOf u v).bind fun q => limP (mulP p q)) = some m) (hy1 : y1 = m.1.str) (hy2 : y2 = m.2.str) : MulG a b u v y1 y2 := by
  obtain ⟨p, q, rfl, rfl, rfl, rfl, hp, hq, p1, p2, q1, q2, h⟩ := pr_cases h
  obtain ⟨rfl, hm⟩ := limP_some h
  subst hy1; subst hy2
  have okm : okP (mulP p q) := mulP_ok hp hq
  have okm' : (mulP p q).1.carets = (mulP p q).2.carets := okm
  have s1 := (mulP p q).1.str_size
  have s2 := (mulP p q).2.str_size
  have e1 : mulP (invP q) (invP p) = invP (mulP p q) := (inv_mul p q).symm
  have e2 : mulP (mirP p) (mirP q) = mirP (mulP p q) := mul_mir hp hq
  have e3 : mulP (mulP p q) (invP q) = red p := by rw [mul_assoc hp hq (inv_ok hq), mul_inv hq, mul_id hp]
  have rc := redBy_carets p []
  have rc1 : (red p).1.carets ≤ p.1.carets := rc.1
  have rc2 : (red p).2.carets ≤ p.2.carets := rc.2.1
  have hrk : okP (red p) := red_ok hp []
  have t1 := p.1.str_size
  have t2 := p.2.str_size
  have t3 := (red p).1.str_size
  have t4 := (red p).2.str_size
  refine ⟨p.1.mir.str, p.2.mir.str, q.1.mir.str, q.2.mir.str, (mulP p q).1.mir.str, (mulP p q).2.mir.str, (red p).1.str, (red p).2.str, inv_call hp p1, inv_call hq q1, ?_, inv_call okm hm, mir_call hp p1, mir_call hq q1, ?_, mir_call okm hm, ?_, ?_, ?_⟩
  · have := prod_call (inv_ok hq) (inv_ok hp) (show (invP q).1.carets ≤ 8 from q2) (show (invP p).1.carets ≤ 8 from p2)
    rw [e1, limP_le (show (mulP p q).2.carets ≤ 8 by omega)] at this
    exact this
  · have := prod_call (mirP_ok hp) (mirP_ok hq) (show p.1.mir.carets ≤ 8 by rw [mir_carets]; exact p1) (show q.1.mir.carets ≤ 8 by rw [mir_carets]; exact q1)
    rw [e2, limP_le (show (mulP p q).1.mir.carets ≤ 8 by rw [mir_carets]; exact hm)] at this
    exact this
  · intro w
    have := implIsReduced_any (mulP p q).1.str (mulP p q).2.str w (by omega) (by omega)
    rw [pairOf_str okm hm] at this
    simp only [Option.bind_some, show both (mulP p q) = [] from red_both _ [], List.isEmpty_nil, ansB_some] at this
    exact this
  · have := prod_call okm (inv_ok hq) hm (show (invP q).1.carets ≤ 8 from q2)
    rw [e3, limP_le (show (red p).1.carets ≤ 8 by omega)] at this
    exact this
  · intro w
    exact sameMap_any _ _ _ _ w (red p) p (pairOf_str hrk (by omega)) (pairOf_str hp p1) (red_red p) (by omega) (by omega) (by omega) (by omega)
def PowG (a b : ByteArray) (k : Int) (y1 y2 : ByteArray) : Prop := ∃ (X1 X2 : ByteArray) (e : Bool) (Y1 Y2 : ByteArray) (t : Bool),
  (∀ (z : Int) (w : World), z = k + 1 → Calls Tryz.prog 14 #[.agg #[.string a, .string b], .int .i64 z] w (Gives (.tuple #[.agg #[.string X1, .string X2], .bool e]) w)) ∧
  (∀ w, Calls Tryz.prog 7 #[.agg #[.string y1, .string y2], .agg #[.string a, .string b]] w (Gives (.tuple #[.agg #[.string Y1, .string Y2], .bool t]) w)) ∧
  ((e = false ∧ (k == 0) = false) ∨ (e = true ∧ t = true ∧ X1 = Y1 ∧ X2 = Y2 ∧ (k == 0) = false) ∨ (e = true ∧ t = true ∧ X1 = Y1 ∧ X2 = Y2 ∧ k = 0 ∧ y1 = Tr.lf.str ∧ y2 = Tr.lf.str))
theorem pow_calls {a b y1 y2 : ByteArray} {k : Int} {m : Pr} (h : ((pairOf a b).bind fun p => powP p k) = some m) (hy1 : y1 = m.1.str) (hy2 : y2 = m.2.str) (b1 : -1000000 ≤ k) (b2 : k ≤ 1000000) : PowG a b k y1 y2 := by
  cases hp : pairOf a b with
  | none => rw [hp] at h; simp at h
  | some p =>
    have hpo := hp
    rw [hp] at h
    simp only [Option.bind_some] at h
    obtain ⟨rfl, rfl, hk, p1, p2⟩ := pairOf_some hp
    subst hy1; subst hy2
    have s1 := p.1.str_size
    have s2 := p.2.str_size
    have hpow : ∀ (z : Int) (w : World), z = k + 1 → Calls Tryz.prog 14 #[.agg #[.string p.1.str, .string p.2.str], .int .i64 z] w (Gives (ansPr (powP p (k + 1))) w) := by
      intro z w hz
      subst hz
      have := implPowerPair_any p.1.str p.2.str (k + 1) w (by omega) (by omega) (by omega) (by omega)
      rw [hpo] at this
      exact this
    unfold powP at h
    split at h
    · next hr =>
      split at h
      · next hneg =>
        obtain ⟨j, hj⟩ : ∃ j : Nat, (-k).toNat = j + 1 := ⟨(-k).toNat - 1, by omega⟩
        rw [hj, pwN] at h
        cases h1 : pwN (invP p) j with
        | none => rw [h1] at h; simp at h
        | some o =>
          rw [h1] at h
          obtain ⟨rfl, hm⟩ := limP_some (show limP (mulP o (invP p)) = some m from h)
          obtain ⟨ok1, ok2⟩ := pwN_ok (inv_ok hk) h1
          have hnext : powP p (k + 1) = some o := by
            unfold powP
            rw [if_pos (by omega)]
            by_cases h0 : k + 1 < 0
            · rw [if_pos h0, show (-(k + 1)).toNat = j by omega, h1]
            · rw [if_neg h0, show (k + 1).toNat = 0 by omega]
              obtain rfl : j = 0 := by omega
              exact h1
          have hown : mulP (mulP o (invP p)) p = o := by
            have := mul_inv (inv_ok hk)
            rw [mul_assoc ok1 (inv_ok hk) hk, show mulP (invP p) p = idP from this, mul_id ok1, pwN_red h1]
          rw [hnext] at hpow
          have hpr := prod_call (mulP_ok ok1 (inv_ok hk)) hk hm p1
          rw [hown, limP_le ok2] at hpr
          exact ⟨o.1.str, o.2.str, true, o.1.str, o.2.str, true, hpow, hpr, .inr (.inl ⟨rfl, rfl, rfl, rfl, by simp; omega⟩)⟩
      · next hneg =>
        obtain ⟨ok1, ok2⟩ := pwN_ok hk h
        have hpr := prod_call ok1 hk ok2 p1
        by_cases h9 : k + 1 ≤ 10
        · have hnext : powP p (k + 1) = limP (mulP m p) := by
            unfold powP
            rw [if_pos (by omega), if_neg (by omega), show (k + 1).toNat = k.toNat + 1 by omega, pwN, h]
            rfl
          rw [hnext] at hpow
          by_cases h0 : k = 0
          · subst h0
            obtain rfl : unitP = m := by injection h
            have e : mulP unitP p = red p := id_mul hk
            have rc1 : (red p).1.carets ≤ p.1.carets := (redBy_carets p []).1
            rw [e, limP_le (by omega)] at hpow hpr
            exact ⟨(red p).1.str, (red p).2.str, true, (red p).1.str, (red p).2.str, true, hpow, hpr, .inr (.inr ⟨rfl, rfl, rfl, rfl, rfl, rfl, rfl⟩)⟩
          · by_cases hc : (mulP m p).1.carets ≤ 8
            · rw [limP_le hc] at hpow hpr
              exact ⟨_, _, true, _, _, true, hpow, hpr, .inr (.inl ⟨rfl, rfl, rfl, rfl, by simp; omega⟩)⟩
            · rw [show limP (mulP m p) = none by unfold limP; rw [if_neg hc]] at hpow hpr
              exact ⟨_, _, false, _, _, false, hpow, hpr, .inl ⟨rfl, by simp; omega⟩⟩
        · rw [show powP p (k + 1) = none by unfold powP; rw [if_neg (by omega)]] at hpow
          exact ⟨_, _, false, _, _, _, hpow, hpr, .inl ⟨rfl, by simp; omega⟩⟩
    · cases h
def ComG (a b u v y1 y2 : ByteArray) : Prop := ∃ (X1 X2 : ByteArray) (e : Bool) (Y1 Y2 : ByteArray) (t : Bool),
  (∀ w, Calls Tryz.prog 7 #[.agg #[.string a, .string b], .agg #[.string u, .string v]] w (Gives (.tuple #[.agg #[.string X1, .string X2], .bool e]) w)) ∧
  (∀ w, Calls Tryz.prog 7 #[.agg #[.string u, .string v], .agg #[.string a, .string b]] w (Gives (.tuple #[.agg #[.string Y1, .string Y2], .bool t]) w)) ∧
  (∀ w, Calls Tryz.prog 20 #[.agg #[.string y1, .string y2]] w (Gives (.tuple #[.bool true, .bool true]) w)) ∧
  (e = false ∨ (e = true ∧ t = false) ∨ (e = true ∧ t = true ∧ X1 = Y1 ∧ X2 = Y2 ∧ y1 = Tr.lf.str ∧ y2 = Tr.lf.str) ∨
    (e = true ∧ t = true ∧ X1 = Y1 ∧ (X2.toList == Y2.toList) = false ∧ (y1.toList == Tr.lf.str.toList) = false) ∨
    (e = true ∧ t = true ∧ (X1.toList == Y1.toList) = false ∧ (y1.toList == Tr.lf.str.toList) = false))
theorem com_calls {a b u v y1 y2 : ByteArray} {m : Pr} (h : ((pairOf a b).bind fun p => (pairOf u v).bind fun q => limP (mulP (mulP (invP p) (invP q)) (mulP p q))) = some m) (hy1 : y1 = m.1.str) (hy2 : y2 = m.2.str) : ComG a b u v y1 y2 := by
  obtain ⟨p, q, rfl, rfl, rfl, rfl, hp, hq, p1, p2, q1, q2, h⟩ := pr_cases h
  obtain ⟨hme, hm⟩ := limP_some h
  have okm : okP m := by rw [hme]; exact mulP_ok (mulP_ok (inv_ok hp) (inv_ok hq)) (mulP_ok hp hq)
  rw [← hme] at hm
  have h1 := prod_call hp hq p1 q1
  have h2 := prod_call hq hp q1 p1
  have s1 := m.1.str_size
  have s2 := m.2.str_size
  have okm' : m.1.carets = m.2.carets := okm
  have hI : ∀ w, Calls Tryz.prog 20 #[.agg #[.string m.1.str, .string m.2.str]] w (Gives (.tuple #[.bool true, .bool true]) w) := by
    intro w
    have := implIsInner_any m.1.str m.2.str w (by omega) (by omega)
    have e1 : slD fdT m = 0 := by rw [hme]; exact com_ends hp hq fdT (·.headD .lf) fd_fill
    have e2 : slD edT m = 0 := by rw [hme]; exact com_ends hp hq edT (·.getLastD .lf) ed_fill
    rw [show innerO m.1.str m.2.str = some true by unfold innerO endsO; rw [pairOf_str okm hm]; show some _ = some true; dsimp only; rw [slopes_first okm, slopes_last okm, e1, e2]; rfl] at this
    exact this
  have hcom := com_id hp hq
  rw [← hme] at hcom
  subst hy1; subst hy2
  by_cases c1 : (mulP p q).1.carets ≤ 8
  · by_cases c2 : (mulP q p).1.carets ≤ 8
    · rw [limP_le c1] at h1
      rw [limP_le c2] at h2
      refine ⟨_, _, true, _, _, true, h1, h2, hI, ?_⟩
      by_cases he : m = idP
      · have := hcom.1 he
        exact .inr (.inr (.inl ⟨rfl, rfl, by show (mulP p q).1.str = (mulP q p).1.str; rw [this], by show (mulP p q).2.str = (mulP q p).2.str; rw [this], by rw [he]; rfl, by rw [he]; rfl⟩))
      · have hne : (m.1.str.toList == Tr.lf.str.toList) = false := by
          rw [beq_eq_false_iff_ne]
          intro hs
          have e1 : m.1 = Tr.lf := str_inj hs
          have e2 : m.2 = Tr.lf := by
            rw [e1] at okm'
            cases h2 : m.2 with
            | lf => rfl
            | nd l r => rw [h2] at okm'; simp [Tr.carets] at okm'
          exact he (Prod.ext e1 e2)
        have hx : ¬ mulP p q = mulP q p := fun e => he (hcom.2 e)
        rcases eq_cases (mulP p q) (mulP q p) with ⟨e, _⟩ | ⟨e, h3, _⟩ | ⟨h3, _⟩
        · exact absurd e hx
        · exact .inr (.inr (.inr (.inl ⟨rfl, rfl, by show (mulP p q).1.str = (mulP q p).1.str; rw [e], by rw [beq_eq_false_iff_ne]; exact h3, hne⟩)))
        · exact .inr (.inr (.inr (.inr ⟨rfl, rfl, by rw [beq_eq_false_iff_ne]; exact h3, hne⟩)))
    · rw [limP_le c1] at h1
      rw [show limP (mulP q p) = none by unfold limP; rw [if_neg c2]] at h2
      exact ⟨_, _, true, _, _, false, h1, h2, hI, .inr (.inl ⟨rfl, rfl⟩)⟩
  · rw [show limP (mulP p q) = none by unfold limP; rw [if_neg c1]] at h1
    exact ⟨_, _, false, _, _, _, h1, h2, hI, .inl rfl⟩

theorem list_range (N : Nat) (l : List Value) (h : l.length = N) : l = (List.range N).map fun n => (Array.mk l).getD n undef := by
  apply List.ext_getElem
  · simp [h]
  · intro i h1 h2
    simp [h1]
set_option maxRecDepth 100000 in
theorem frame308_0 (a : Act) (hs : a.tmps.size = 308) (hd : a.defers = []) {x0 : Value} (k0 : a.tmps.getD 0 undef = x0) {x1 : Value} (k1 : a.tmps.getD 1 undef = x1) {x247 : Value} (k247 : a.tmps.getD 247 undef = x247) : ∃ f : Nat → Value, a = { tmps := (x0 :: x1 :: f 2 :: f 3 :: f 4 :: f 5 :: f 6 :: f 7 :: f 8 :: f 9 :: f 10 :: f 11 :: f 12 :: f 13 :: f 14 :: f 15 :: f 16 :: f 17 :: f 18 :: f 19 :: f 20 :: f 21 :: f 22 :: f 23 :: f 24 :: f 25 :: f 26 :: f 27 :: f 28 :: f 29 :: f 30 :: f 31 :: f 32 :: f 33 :: f 34 :: f 35 :: f 36 :: f 37 :: f 38 :: f 39 :: f 40 :: f 41 :: f 42 :: f 43 :: f 44 :: f 45 :: f 46 :: f 47 :: f 48 :: f 49 :: f 50 :: f 51 :: f 52 :: f 53 :: f 54 :: f 55 :: f 56 :: f 57 :: f 58 :: f 59 :: f 60 :: f 61 :: f 62 :: f 63 :: f 64 :: f 65 :: f 66 :: f 67 :: f 68 :: f 69 :: f 70 :: f 71 :: f 72 :: f 73 :: f 74 :: f 75 :: f 76 :: f 77 :: f 78 :: f 79 :: f 80 :: f 81 :: f 82 :: f 83 :: f 84 :: f 85 :: f 86 :: f 87 :: f 88 :: f 89 :: f 90 :: f 91 :: f 92 :: f 93 :: f 94 :: f 95 :: f 96 :: f 97 :: f 98 :: f 99 :: f 100 :: f 101 :: f 102 :: f 103 :: f 104 :: f 105 :: f 106 :: f 107 :: f 108 :: f 109 :: f 110 :: f 111 :: f 112 :: f 113 :: f 114 :: f 115 :: f 116 :: f 117 :: f 118 :: f 119 :: f 120 :: f 121 :: f 122 :: f 123 :: f 124 :: f 125 :: f 126 :: f 127 :: f 128 :: f 129 :: f 130 :: f 131 :: f 132 :: f 133 :: f 134 :: f 135 :: f 136 :: f 137 :: f 138 :: f 139 :: f 140 :: f 141 :: f 142 :: f 143 :: f 144 :: f 145 :: f 146 :: f 147 :: f 148 :: f 149 :: f 150 :: f 151 :: f 152 :: f 153 :: f 154 :: f 155 :: f 156 :: f 157 :: f 158 :: f 159 :: f 160 :: f 161 :: f 162 :: f 163 :: f 164 :: f 165 :: f 166 :: f 167 :: f 168 :: f 169 :: f 170 :: f 171 :: f 172 :: f 173 :: f 174 :: f 175 :: f 176 :: f 177 :: f 178 :: f 179 :: f 180 :: f 181 :: f 182 :: f 183 :: f 184 :: f 185 :: f 186 :: f 187 :: f 188 :: f 189 :: f 190 :: f 191 :: f 192 :: f 193 :: f 194 :: f 195 :: f 196 :: f 197 :: f 198 :: f 199 :: f 200 :: f 201 :: f 202 :: f 203 :: f 204 :: f 205 :: f 206 :: f 207 :: f 208 :: f 209 :: f 210 :: f 211 :: f 212 :: f 213 :: f 214 :: f 215 :: f 216 :: f 217 :: f 218 :: f 219 :: f 220 :: f 221 :: f 222 :: f 223 :: f 224 :: f 225 :: f 226 :: f 227 :: f 228 :: f 229 :: f 230 :: f 231 :: f 232 :: f 233 :: f 234 :: f 235 :: f 236 :: f 237 :: f 238 :: f 239 :: f 240 :: f 241 :: f 242 :: f 243 :: f 244 :: f 245 :: f 246 :: x247 :: f 248 :: f 249 :: f 250 :: f 251 :: f 252 :: f 253 :: f 254 :: f 255 :: f 256 :: f 257 :: f 258 :: f 259 :: f 260 :: f 261 :: f 262 :: f 263 :: f 264 :: f 265 :: f 266 :: f 267 :: f 268 :: f 269 :: f 270 :: f 271 :: f 272 :: f 273 :: f 274 :: f 275 :: f 276 :: f 277 :: f 278 :: f 279 :: f 280 :: f 281 :: f 282 :: f 283 :: f 284 :: f 285 :: f 286 :: f 287 :: f 288 :: f 289 :: f 290 :: f 291 :: f 292 :: f 293 :: f 294 :: f 295 :: f 296 :: f 297 :: f 298 :: f 299 :: f 300 :: f 301 :: f 302 :: f 303 :: f 304 :: f 305 :: f 306 :: f 307 :: []).toArray, defers := [] } := by
  obtain ⟨⟨l⟩, d⟩ := a
  subst hd
  subst k0
  subst k1
  subst k247
  refine ⟨fun n => (Array.mk l).getD n undef, ?_⟩
  have e := list_range 308 l hs
  have e2 : ((List.range 308).map fun n => (Array.mk l).getD n undef).toArray = ((Array.mk l).getD 0 undef :: (Array.mk l).getD 1 undef :: (Array.mk l).getD 2 undef :: (Array.mk l).getD 3 undef :: (Array.mk l).getD 4 undef :: (Array.mk l).getD 5 undef :: (Array.mk l).getD 6 undef :: (Array.mk l).getD 7 undef :: (Array.mk l).getD 8 undef :: (Array.mk l).getD 9 undef :: (Array.mk l).getD 10 undef :: (Array.mk l).getD 11 undef :: (Array.mk l).getD 12 undef :: (Array.mk l).getD 13 undef :: (Array.mk l).getD 14 undef :: (Array.mk l).getD 15 undef :: (Array.mk l).getD 16 undef :: (Array.mk l).getD 17 undef :: (Array.mk l).getD 18 undef :: (Array.mk l).getD 19 undef :: (Array.mk l).getD 20 undef :: (Array.mk l).getD 21 undef :: (Array.mk l).getD 22 undef :: (Array.mk l).getD 23 undef :: (Array.mk l).getD 24 undef :: (Array.mk l).getD 25 undef :: (Array.mk l).getD 26 undef :: (Array.mk l).getD 27 undef :: (Array.mk l).getD 28 undef :: (Array.mk l).getD 29 undef :: (Array.mk l).getD 30 undef :: (Array.mk l).getD 31 undef :: (Array.mk l).getD 32 undef :: (Array.mk l).getD 33 undef :: (Array.mk l).getD 34 undef :: (Array.mk l).getD 35 undef :: (Array.mk l).getD 36 undef :: (Array.mk l).getD 37 undef :: (Array.mk l).getD 38 undef :: (Array.mk l).getD 39 undef :: (Array.mk l).getD 40 undef :: (Array.mk l).getD 41 undef :: (Array.mk l).getD 42 undef :: (Array.mk l).getD 43 undef :: (Array.mk l).getD 44 undef :: (Array.mk l).getD 45 undef :: (Array.mk l).getD 46 undef :: (Array.mk l).getD 47 undef :: (Array.mk l).getD 48 undef :: (Array.mk l).getD 49 undef :: (Array.mk l).getD 50 undef :: (Array.mk l).getD 51 undef :: (Array.mk l).getD 52 undef :: (Array.mk l).getD 53 undef :: (Array.mk l).getD 54 undef :: (Array.mk l).getD 55 undef :: (Array.mk l).getD 56 undef :: (Array.mk l).getD 57 undef :: (Array.mk l).getD 58 undef :: (Array.mk l).getD 59 undef :: (Array.mk l).getD 60 undef :: (Array.mk l).getD 61 undef :: (Array.mk l).getD 62 undef :: (Array.mk l).getD 63 undef :: (Array.mk l).getD 64 undef :: (Array.mk l).getD 65 undef :: (Array.mk l).getD 66 undef :: (Array.mk l).getD 67 undef :: (Array.mk l).getD 68 undef :: (Array.mk l).getD 69 undef :: (Array.mk l).getD 70 undef :: (Array.mk l).getD 71 undef :: (Array.mk l).getD 72 undef :: (Array.mk l).getD 73 undef :: (Array.mk l).getD 74 undef :: (Array.mk l).getD 75 undef :: (Array.mk l).getD 76 undef :: (Array.mk l).getD 77 undef :: (Array.mk l).getD 78 undef :: (Array.mk l).getD 79 undef :: (Array.mk l).getD 80 undef :: (Array.mk l).getD 81 undef :: (Array.mk l).getD 82 undef :: (Array.mk l).getD 83 undef :: (Array.mk l).getD 84 undef :: (Array.mk l).getD 85 undef :: (Array.mk l).getD 86 undef :: (Array.mk l).getD 87 undef :: (Array.mk l).getD 88 undef :: (Array.mk l).getD 89 undef :: (Array.mk l).getD 90 undef :: (Array.mk l).getD 91 undef :: (Array.mk l).getD 92 undef :: (Array.mk l).getD 93 undef :: (Array.mk l).getD 94 undef :: (Array.mk l).getD 95 undef :: (Array.mk l).getD 96 undef :: (Array.mk l).getD 97 undef :: (Array.mk l).getD 98 undef :: (Array.mk l).getD 99 undef :: (Array.mk l).getD 100 undef :: (Array.mk l).getD 101 undef :: (Array.mk l).getD 102 undef :: (Array.mk l).getD 103 undef :: (Array.mk l).getD 104 undef :: (Array.mk l).getD 105 undef :: (Array.mk l).getD 106 undef :: (Array.mk l).getD 107 undef :: (Array.mk l).getD 108 undef :: (Array.mk l).getD 109 undef :: (Array.mk l).getD 110 undef :: (Array.mk l).getD 111 undef :: (Array.mk l).getD 112 undef :: (Array.mk l).getD 113 undef :: (Array.mk l).getD 114 undef :: (Array.mk l).getD 115 undef :: (Array.mk l).getD 116 undef :: (Array.mk l).getD 117 undef :: (Array.mk l).getD 118 undef :: (Array.mk l).getD 119 undef :: (Array.mk l).getD 120 undef :: (Array.mk l).getD 121 undef :: (Array.mk l).getD 122 undef :: (Array.mk l).getD 123 undef :: (Array.mk l).getD 124 undef :: (Array.mk l).getD 125 undef :: (Array.mk l).getD 126 undef :: (Array.mk l).getD 127 undef :: (Array.mk l).getD 128 undef :: (Array.mk l).getD 129 undef :: (Array.mk l).getD 130 undef :: (Array.mk l).getD 131 undef :: (Array.mk l).getD 132 undef :: (Array.mk l).getD 133 undef :: (Array.mk l).getD 134 undef :: (Array.mk l).getD 135 undef :: (Array.mk l).getD 136 undef :: (Array.mk l).getD 137 undef :: (Array.mk l).getD 138 undef :: (Array.mk l).getD 139 undef :: (Array.mk l).getD 140 undef :: (Array.mk l).getD 141 undef :: (Array.mk l).getD 142 undef :: (Array.mk l).getD 143 undef :: (Array.mk l).getD 144 undef :: (Array.mk l).getD 145 undef :: (Array.mk l).getD 146 undef :: (Array.mk l).getD 147 undef :: (Array.mk l).getD 148 undef :: (Array.mk l).getD 149 undef :: (Array.mk l).getD 150 undef :: (Array.mk l).getD 151 undef :: (Array.mk l).getD 152 undef :: (Array.mk l).getD 153 undef :: (Array.mk l).getD 154 undef :: (Array.mk l).getD 155 undef :: (Array.mk l).getD 156 undef :: (Array.mk l).getD 157 undef :: (Array.mk l).getD 158 undef :: (Array.mk l).getD 159 undef :: (Array.mk l).getD 160 undef :: (Array.mk l).getD 161 undef :: (Array.mk l).getD 162 undef :: (Array.mk l).getD 163 undef :: (Array.mk l).getD 164 undef :: (Array.mk l).getD 165 undef :: (Array.mk l).getD 166 undef :: (Array.mk l).getD 167 undef :: (Array.mk l).getD 168 undef :: (Array.mk l).getD 169 undef :: (Array.mk l).getD 170 undef :: (Array.mk l).getD 171 undef :: (Array.mk l).getD 172 undef :: (Array.mk l).getD 173 undef :: (Array.mk l).getD 174 undef :: (Array.mk l).getD 175 undef :: (Array.mk l).getD 176 undef :: (Array.mk l).getD 177 undef :: (Array.mk l).getD 178 undef :: (Array.mk l).getD 179 undef :: (Array.mk l).getD 180 undef :: (Array.mk l).getD 181 undef :: (Array.mk l).getD 182 undef :: (Array.mk l).getD 183 undef :: (Array.mk l).getD 184 undef :: (Array.mk l).getD 185 undef :: (Array.mk l).getD 186 undef :: (Array.mk l).getD 187 undef :: (Array.mk l).getD 188 undef :: (Array.mk l).getD 189 undef :: (Array.mk l).getD 190 undef :: (Array.mk l).getD 191 undef :: (Array.mk l).getD 192 undef :: (Array.mk l).getD 193 undef :: (Array.mk l).getD 194 undef :: (Array.mk l).getD 195 undef :: (Array.mk l).getD 196 undef :: (Array.mk l).getD 197 undef :: (Array.mk l).getD 198 undef :: (Array.mk l).getD 199 undef :: (Array.mk l).getD 200 undef :: (Array.mk l).getD 201 undef :: (Array.mk l).getD 202 undef :: (Array.mk l).getD 203 undef :: (Array.mk l).getD 204 undef :: (Array.mk l).getD 205 undef :: (Array.mk l).getD 206 undef :: (Array.mk l).getD 207 undef :: (Array.mk l).getD 208 undef :: (Array.mk l).getD 209 undef :: (Array.mk l).getD 210 undef :: (Array.mk l).getD 211 undef :: (Array.mk l).getD 212 undef :: (Array.mk l).getD 213 undef :: (Array.mk l).getD 214 undef :: (Array.mk l).getD 215 undef :: (Array.mk l).getD 216 undef :: (Array.mk l).getD 217 undef :: (Array.mk l).getD 218 undef :: (Array.mk l).getD 219 undef :: (Array.mk l).getD 220 undef :: (Array.mk l).getD 221 undef :: (Array.mk l).getD 222 undef :: (Array.mk l).getD 223 undef :: (Array.mk l).getD 224 undef :: (Array.mk l).getD 225 undef :: (Array.mk l).getD 226 undef :: (Array.mk l).getD 227 undef :: (Array.mk l).getD 228 undef :: (Array.mk l).getD 229 undef :: (Array.mk l).getD 230 undef :: (Array.mk l).getD 231 undef :: (Array.mk l).getD 232 undef :: (Array.mk l).getD 233 undef :: (Array.mk l).getD 234 undef :: (Array.mk l).getD 235 undef :: (Array.mk l).getD 236 undef :: (Array.mk l).getD 237 undef :: (Array.mk l).getD 238 undef :: (Array.mk l).getD 239 undef :: (Array.mk l).getD 240 undef :: (Array.mk l).getD 241 undef :: (Array.mk l).getD 242 undef :: (Array.mk l).getD 243 undef :: (Array.mk l).getD 244 undef :: (Array.mk l).getD 245 undef :: (Array.mk l).getD 246 undef :: (Array.mk l).getD 247 undef :: (Array.mk l).getD 248 undef :: (Array.mk l).getD 249 undef :: (Array.mk l).getD 250 undef :: (Array.mk l).getD 251 undef :: (Array.mk l).getD 252 undef :: (Array.mk l).getD 253 undef :: (Array.mk l).getD 254 undef :: (Array.mk l).getD 255 undef :: (Array.mk l).getD 256 undef :: (Array.mk l).getD 257 undef :: (Array.mk l).getD 258 undef :: (Array.mk l).getD 259 undef :: (Array.mk l).getD 260 undef :: (Array.mk l).getD 261 undef :: (Array.mk l).getD 262 undef :: (Array.mk l).getD 263 undef :: (Array.mk l).getD 264 undef :: (Array.mk l).getD 265 undef :: (Array.mk l).getD 266 undef :: (Array.mk l).getD 267 undef :: (Array.mk l).getD 268 undef :: (Array.mk l).getD 269 undef :: (Array.mk l).getD 270 undef :: (Array.mk l).getD 271 undef :: (Array.mk l).getD 272 undef :: (Array.mk l).getD 273 undef :: (Array.mk l).getD 274 undef :: (Array.mk l).getD 275 undef :: (Array.mk l).getD 276 undef :: (Array.mk l).getD 277 undef :: (Array.mk l).getD 278 undef :: (Array.mk l).getD 279 undef :: (Array.mk l).getD 280 undef :: (Array.mk l).getD 281 undef :: (Array.mk l).getD 282 undef :: (Array.mk l).getD 283 undef :: (Array.mk l).getD 284 undef :: (Array.mk l).getD 285 undef :: (Array.mk l).getD 286 undef :: (Array.mk l).getD 287 undef :: (Array.mk l).getD 288 undef :: (Array.mk l).getD 289 undef :: (Array.mk l).getD 290 undef :: (Array.mk l).getD 291 undef :: (Array.mk l).getD 292 undef :: (Array.mk l).getD 293 undef :: (Array.mk l).getD 294 undef :: (Array.mk l).getD 295 undef :: (Array.mk l).getD 296 undef :: (Array.mk l).getD 297 undef :: (Array.mk l).getD 298 undef :: (Array.mk l).getD 299 undef :: (Array.mk l).getD 300 undef :: (Array.mk l).getD 301 undef :: (Array.mk l).getD 302 undef :: (Array.mk l).getD 303 undef :: (Array.mk l).getD 304 undef :: (Array.mk l).getD 305 undef :: (Array.mk l).getD 306 undef :: (Array.mk l).getD 307 undef :: []).toArray := by kernel_rfl
  show ({ tmps := l.toArray, defers := [] } : Act) = _
  refine congrArg (fun t : Array Value => ({ tmps := t, defers := [] } : Act)) ?_
  exact (congrArg List.toArray e).trans e2
set_option maxRecDepth 100000 in
theorem frame308_1 (a : Act) (hs : a.tmps.size = 308) (hd : a.defers = []) {x43 : Value} (k43 : a.tmps.getD 43 undef = x43) {x298 : Value} (k298 : a.tmps.getD 298 undef = x298) : ∃ f : Nat → Value, a = { tmps := (f 0 :: f 1 :: f 2 :: f 3 :: f 4 :: f 5 :: f 6 :: f 7 :: f 8 :: f 9 :: f 10 :: f 11 :: f 12 :: f 13 :: f 14 :: f 15 :: f 16 :: f 17 :: f 18 :: f 19 :: f 20 :: f 21 :: f 22 :: f 23 :: f 24 :: f 25 :: f 26 :: f 27 :: f 28 :: f 29 :: f 30 :: f 31 :: f 32 :: f 33 :: f 34 :: f 35 :: f 36 :: f 37 :: f 38 :: f 39 :: f 40 :: f 41 :: f 42 :: x43 :: f 44 :: f 45 :: f 46 :: f 47 :: f 48 :: f 49 :: f 50 :: f 51 :: f 52 :: f 53 :: f 54 :: f 55 :: f 56 :: f 57 :: f 58 :: f 59 :: f 60 :: f 61 :: f 62 :: f 63 :: f 64 :: f 65 :: f 66 :: f 67 :: f 68 :: f 69 :: f 70 :: f 71 :: f 72 :: f 73 :: f 74 :: f 75 :: f 76 :: f 77 :: f 78 :: f 79 :: f 80 :: f 81 :: f 82 :: f 83 :: f 84 :: f 85 :: f 86 :: f 87 :: f 88 :: f 89 :: f 90 :: f 91 :: f 92 :: f 93 :: f 94 :: f 95 :: f 96 :: f 97 :: f 98 :: f 99 :: f 100 :: f 101 :: f 102 :: f 103 :: f 104 :: f 105 :: f 106 :: f 107 :: f 108 :: f 109 :: f 110 :: f 111 :: f 112 :: f 113 :: f 114 :: f 115 :: f 116 :: f 117 :: f 118 :: f 119 :: f 120 :: f 121 :: f 122 :: f 123 :: f 124 :: f 125 :: f 126 :: f 127 :: f 128 :: f 129 :: f 130 :: f 131 :: f 132 :: f 133 :: f 134 :: f 135 :: f 136 :: f 137 :: f 138 :: f 139 :: f 140 :: f 141 :: f 142 :: f 143 :: f 144 :: f 145 :: f 146 :: f 147 :: f 148 :: f 149 :: f 150 :: f 151 :: f 152 :: f 153 :: f 154 :: f 155 :: f 156 :: f 157 :: f 158 :: f 159 :: f 160 :: f 161 :: f 162 :: f 163 :: f 164 :: f 165 :: f 166 :: f 167 :: f 168 :: f 169 :: f 170 :: f 171 :: f 172 :: f 173 :: f 174 :: f 175 :: f 176 :: f 177 :: f 178 :: f 179 :: f 180 :: f 181 :: f 182 :: f 183 :: f 184 :: f 185 :: f 186 :: f 187 :: f 188 :: f 189 :: f 190 :: f 191 :: f 192 :: f 193 :: f 194 :: f 195 :: f 196 :: f 197 :: f 198 :: f 199 :: f 200 :: f 201 :: f 202 :: f 203 :: f 204 :: f 205 :: f 206 :: f 207 :: f 208 :: f 209 :: f 210 :: f 211 :: f 212 :: f 213 :: f 214 :: f 215 :: f 216 :: f 217 :: f 218 :: f 219 :: f 220 :: f 221 :: f 222 :: f 223 :: f 224 :: f 225 :: f 226 :: f 227 :: f 228 :: f 229 :: f 230 :: f 231 :: f 232 :: f 233 :: f 234 :: f 235 :: f 236 :: f 237 :: f 238 :: f 239 :: f 240 :: f 241 :: f 242 :: f 243 :: f 244 :: f 245 :: f 246 :: f 247 :: f 248 :: f 249 :: f 250 :: f 251 :: f 252 :: f 253 :: f 254 :: f 255 :: f 256 :: f 257 :: f 258 :: f 259 :: f 260 :: f 261 :: f 262 :: f 263 :: f 264 :: f 265 :: f 266 :: f 267 :: f 268 :: f 269 :: f 270 :: f 271 :: f 272 :: f 273 :: f 274 :: f 275 :: f 276 :: f 277 :: f 278 :: f 279 :: f 280 :: f 281 :: f 282 :: f 283 :: f 284 :: f 285 :: f 286 :: f 287 :: f 288 :: f 289 :: f 290 :: f 291 :: f 292 :: f 293 :: f 294 :: f 295 :: f 296 :: f 297 :: x298 :: f 299 :: f 300 :: f 301 :: f 302 :: f 303 :: f 304 :: f 305 :: f 306 :: f 307 :: []).toArray, defers := [] } := by
  obtain ⟨⟨l⟩, d⟩ := a
  subst hd
  subst k43
  subst k298
  refine ⟨fun n => (Array.mk l).getD n undef, ?_⟩
  have e := list_range 308 l hs
  have e2 : ((List.range 308).map fun n => (Array.mk l).getD n undef).toArray = ((Array.mk l).getD 0 undef :: (Array.mk l).getD 1 undef :: (Array.mk l).getD 2 undef :: (Array.mk l).getD 3 undef :: (Array.mk l).getD 4 undef :: (Array.mk l).getD 5 undef :: (Array.mk l).getD 6 undef :: (Array.mk l).getD 7 undef :: (Array.mk l).getD 8 undef :: (Array.mk l).getD 9 undef :: (Array.mk l).getD 10 undef :: (Array.mk l).getD 11 undef :: (Array.mk l).getD 12 undef :: (Array.mk l).getD 13 undef :: (Array.mk l).getD 14 undef :: (Array.mk l).getD 15 undef :: (Array.mk l).getD 16 undef :: (Array.mk l).getD 17 undef :: (Array.mk l).getD 18 undef :: (Array.mk l).getD 19 undef :: (Array.mk l).getD 20 undef :: (Array.mk l).getD 21 undef :: (Array.mk l).getD 22 undef :: (Array.mk l).getD 23 undef :: (Array.mk l).getD 24 undef :: (Array.mk l).getD 25 undef :: (Array.mk l).getD 26 undef :: (Array.mk l).getD 27 undef :: (Array.mk l).getD 28 undef :: (Array.mk l).getD 29 undef :: (Array.mk l).getD 30 undef :: (Array.mk l).getD 31 undef :: (Array.mk l).getD 32 undef :: (Array.mk l).getD 33 undef :: (Array.mk l).getD 34 undef :: (Array.mk l).getD 35 undef :: (Array.mk l).getD 36 undef :: (Array.mk l).getD 37 undef :: (Array.mk l).getD 38 undef :: (Array.mk l).getD 39 undef :: (Array.mk l).getD 40 undef :: (Array.mk l).getD 41 undef :: (Array.mk l).getD 42 undef :: (Array.mk l).getD 43 undef :: (Array.mk l).getD 44 undef :: (Array.mk l).getD 45 undef :: (Array.mk l).getD 46 undef :: (Array.mk l).getD 47 undef :: (Array.mk l).getD 48 undef :: (Array.mk l).getD 49 undef :: (Array.mk l).getD 50 undef :: (Array.mk l).getD 51 undef :: (Array.mk l).getD 52 undef :: (Array.mk l).getD 53 undef :: (Array.mk l).getD 54 undef :: (Array.mk l).getD 55 undef :: (Array.mk l).getD 56 undef :: (Array.mk l).getD 57 undef :: (Array.mk l).getD 58 undef :: (Array.mk l).getD 59 undef :: (Array.mk l).getD 60 undef :: (Array.mk l).getD 61 undef :: (Array.mk l).getD 62 undef :: (Array.mk l).getD 63 undef :: (Array.mk l).getD 64 undef :: (Array.mk l).getD 65 undef :: (Array.mk l).getD 66 undef :: (Array.mk l).getD 67 undef :: (Array.mk l).getD 68 undef :: (Array.mk l).getD 69 undef :: (Array.mk l).getD 70 undef :: (Array.mk l).getD 71 undef :: (Array.mk l).getD 72 undef :: (Array.mk l).getD 73 undef :: (Array.mk l).getD 74 undef :: (Array.mk l).getD 75 undef :: (Array.mk l).getD 76 undef :: (Array.mk l).getD 77 undef :: (Array.mk l).getD 78 undef :: (Array.mk l).getD 79 undef :: (Array.mk l).getD 80 undef :: (Array.mk l).getD 81 undef :: (Array.mk l).getD 82 undef :: (Array.mk l).getD 83 undef :: (Array.mk l).getD 84 undef :: (Array.mk l).getD 85 undef :: (Array.mk l).getD 86 undef :: (Array.mk l).getD 87 undef :: (Array.mk l).getD 88 undef :: (Array.mk l).getD 89 undef :: (Array.mk l).getD 90 undef :: (Array.mk l).getD 91 undef :: (Array.mk l).getD 92 undef :: (Array.mk l).getD 93 undef :: (Array.mk l).getD 94 undef :: (Array.mk l).getD 95 undef :: (Array.mk l).getD 96 undef :: (Array.mk l).getD 97 undef :: (Array.mk l).getD 98 undef :: (Array.mk l).getD 99 undef :: (Array.mk l).getD 100 undef :: (Array.mk l).getD 101 undef :: (Array.mk l).getD 102 undef :: (Array.mk l).getD 103 undef :: (Array.mk l).getD 104 undef :: (Array.mk l).getD 105 undef :: (Array.mk l).getD 106 undef :: (Array.mk l).getD 107 undef :: (Array.mk l).getD 108 undef :: (Array.mk l).getD 109 undef :: (Array.mk l).getD 110 undef :: (Array.mk l).getD 111 undef :: (Array.mk l).getD 112 undef :: (Array.mk l).getD 113 undef :: (Array.mk l).getD 114 undef :: (Array.mk l).getD 115 undef :: (Array.mk l).getD 116 undef :: (Array.mk l).getD 117 undef :: (Array.mk l).getD 118 undef :: (Array.mk l).getD 119 undef :: (Array.mk l).getD 120 undef :: (Array.mk l).getD 121 undef :: (Array.mk l).getD 122 undef :: (Array.mk l).getD 123 undef :: (Array.mk l).getD 124 undef :: (Array.mk l).getD 125 undef :: (Array.mk l).getD 126 undef :: (Array.mk l).getD 127 undef :: (Array.mk l).getD 128 undef :: (Array.mk l).getD 129 undef :: (Array.mk l).getD 130 undef :: (Array.mk l).getD 131 undef :: (Array.mk l).getD 132 undef :: (Array.mk l).getD 133 undef :: (Array.mk l).getD 134 undef :: (Array.mk l).getD 135 undef :: (Array.mk l).getD 136 undef :: (Array.mk l).getD 137 undef :: (Array.mk l).getD 138 undef :: (Array.mk l).getD 139 undef :: (Array.mk l).getD 140 undef :: (Array.mk l).getD 141 undef :: (Array.mk l).getD 142 undef :: (Array.mk l).getD 143 undef :: (Array.mk l).getD 144 undef :: (Array.mk l).getD 145 undef :: (Array.mk l).getD 146 undef :: (Array.mk l).getD 147 undef :: (Array.mk l).getD 148 undef :: (Array.mk l).getD 149 undef :: (Array.mk l).getD 150 undef :: (Array.mk l).getD 151 undef :: (Array.mk l).getD 152 undef :: (Array.mk l).getD 153 undef :: (Array.mk l).getD 154 undef :: (Array.mk l).getD 155 undef :: (Array.mk l).getD 156 undef :: (Array.mk l).getD 157 undef :: (Array.mk l).getD 158 undef :: (Array.mk l).getD 159 undef :: (Array.mk l).getD 160 undef :: (Array.mk l).getD 161 undef :: (Array.mk l).getD 162 undef :: (Array.mk l).getD 163 undef :: (Array.mk l).getD 164 undef :: (Array.mk l).getD 165 undef :: (Array.mk l).getD 166 undef :: (Array.mk l).getD 167 undef :: (Array.mk l).getD 168 undef :: (Array.mk l).getD 169 undef :: (Array.mk l).getD 170 undef :: (Array.mk l).getD 171 undef :: (Array.mk l).getD 172 undef :: (Array.mk l).getD 173 undef :: (Array.mk l).getD 174 undef :: (Array.mk l).getD 175 undef :: (Array.mk l).getD 176 undef :: (Array.mk l).getD 177 undef :: (Array.mk l).getD 178 undef :: (Array.mk l).getD 179 undef :: (Array.mk l).getD 180 undef :: (Array.mk l).getD 181 undef :: (Array.mk l).getD 182 undef :: (Array.mk l).getD 183 undef :: (Array.mk l).getD 184 undef :: (Array.mk l).getD 185 undef :: (Array.mk l).getD 186 undef :: (Array.mk l).getD 187 undef :: (Array.mk l).getD 188 undef :: (Array.mk l).getD 189 undef :: (Array.mk l).getD 190 undef :: (Array.mk l).getD 191 undef :: (Array.mk l).getD 192 undef :: (Array.mk l).getD 193 undef :: (Array.mk l).getD 194 undef :: (Array.mk l).getD 195 undef :: (Array.mk l).getD 196 undef :: (Array.mk l).getD 197 undef :: (Array.mk l).getD 198 undef :: (Array.mk l).getD 199 undef :: (Array.mk l).getD 200 undef :: (Array.mk l).getD 201 undef :: (Array.mk l).getD 202 undef :: (Array.mk l).getD 203 undef :: (Array.mk l).getD 204 undef :: (Array.mk l).getD 205 undef :: (Array.mk l).getD 206 undef :: (Array.mk l).getD 207 undef :: (Array.mk l).getD 208 undef :: (Array.mk l).getD 209 undef :: (Array.mk l).getD 210 undef :: (Array.mk l).getD 211 undef :: (Array.mk l).getD 212 undef :: (Array.mk l).getD 213 undef :: (Array.mk l).getD 214 undef :: (Array.mk l).getD 215 undef :: (Array.mk l).getD 216 undef :: (Array.mk l).getD 217 undef :: (Array.mk l).getD 218 undef :: (Array.mk l).getD 219 undef :: (Array.mk l).getD 220 undef :: (Array.mk l).getD 221 undef :: (Array.mk l).getD 222 undef :: (Array.mk l).getD 223 undef :: (Array.mk l).getD 224 undef :: (Array.mk l).getD 225 undef :: (Array.mk l).getD 226 undef :: (Array.mk l).getD 227 undef :: (Array.mk l).getD 228 undef :: (Array.mk l).getD 229 undef :: (Array.mk l).getD 230 undef :: (Array.mk l).getD 231 undef :: (Array.mk l).getD 232 undef :: (Array.mk l).getD 233 undef :: (Array.mk l).getD 234 undef :: (Array.mk l).getD 235 undef :: (Array.mk l).getD 236 undef :: (Array.mk l).getD 237 undef :: (Array.mk l).getD 238 undef :: (Array.mk l).getD 239 undef :: (Array.mk l).getD 240 undef :: (Array.mk l).getD 241 undef :: (Array.mk l).getD 242 undef :: (Array.mk l).getD 243 undef :: (Array.mk l).getD 244 undef :: (Array.mk l).getD 245 undef :: (Array.mk l).getD 246 undef :: (Array.mk l).getD 247 undef :: (Array.mk l).getD 248 undef :: (Array.mk l).getD 249 undef :: (Array.mk l).getD 250 undef :: (Array.mk l).getD 251 undef :: (Array.mk l).getD 252 undef :: (Array.mk l).getD 253 undef :: (Array.mk l).getD 254 undef :: (Array.mk l).getD 255 undef :: (Array.mk l).getD 256 undef :: (Array.mk l).getD 257 undef :: (Array.mk l).getD 258 undef :: (Array.mk l).getD 259 undef :: (Array.mk l).getD 260 undef :: (Array.mk l).getD 261 undef :: (Array.mk l).getD 262 undef :: (Array.mk l).getD 263 undef :: (Array.mk l).getD 264 undef :: (Array.mk l).getD 265 undef :: (Array.mk l).getD 266 undef :: (Array.mk l).getD 267 undef :: (Array.mk l).getD 268 undef :: (Array.mk l).getD 269 undef :: (Array.mk l).getD 270 undef :: (Array.mk l).getD 271 undef :: (Array.mk l).getD 272 undef :: (Array.mk l).getD 273 undef :: (Array.mk l).getD 274 undef :: (Array.mk l).getD 275 undef :: (Array.mk l).getD 276 undef :: (Array.mk l).getD 277 undef :: (Array.mk l).getD 278 undef :: (Array.mk l).getD 279 undef :: (Array.mk l).getD 280 undef :: (Array.mk l).getD 281 undef :: (Array.mk l).getD 282 undef :: (Array.mk l).getD 283 undef :: (Array.mk l).getD 284 undef :: (Array.mk l).getD 285 undef :: (Array.mk l).getD 286 undef :: (Array.mk l).getD 287 undef :: (Array.mk l).getD 288 undef :: (Array.mk l).getD 289 undef :: (Array.mk l).getD 290 undef :: (Array.mk l).getD 291 undef :: (Array.mk l).getD 292 undef :: (Array.mk l).getD 293 undef :: (Array.mk l).getD 294 undef :: (Array.mk l).getD 295 undef :: (Array.mk l).getD 296 undef :: (Array.mk l).getD 297 undef :: (Array.mk l).getD 298 undef :: (Array.mk l).getD 299 undef :: (Array.mk l).getD 300 undef :: (Array.mk l).getD 301 undef :: (Array.mk l).getD 302 undef :: (Array.mk l).getD 303 undef :: (Array.mk l).getD 304 undef :: (Array.mk l).getD 305 undef :: (Array.mk l).getD 306 undef :: (Array.mk l).getD 307 undef :: []).toArray := by kernel_rfl
  show ({ tmps := l.toArray, defers := [] } : Act) = _
  refine congrArg (fun t : Array Value => ({ tmps := t, defers := [] } : Act)) ?_
  exact (congrArg List.toArray e).trans e2
set_option maxRecDepth 100000 in
theorem frame308_2 (a : Act) (hs : a.tmps.size = 308) (hd : a.defers = []) {x0 : Value} (k0 : a.tmps.getD 0 undef = x0) {x1 : Value} (k1 : a.tmps.getD 1 undef = x1) : ∃ f : Nat → Value, a = { tmps := (x0 :: x1 :: f 2 :: f 3 :: f 4 :: f 5 :: f 6 :: f 7 :: f 8 :: f 9 :: f 10 :: f 11 :: f 12 :: f 13 :: f 14 :: f 15 :: f 16 :: f 17 :: f 18 :: f 19 :: f 20 :: f 21 :: f 22 :: f 23 :: f 24 :: f 25 :: f 26 :: f 27 :: f 28 :: f 29 :: f 30 :: f 31 :: f 32 :: f 33 :: f 34 :: f 35 :: f 36 :: f 37 :: f 38 :: f 39 :: f 40 :: f 41 :: f 42 :: f 43 :: f 44 :: f 45 :: f 46 :: f 47 :: f 48 :: f 49 :: f 50 :: f 51 :: f 52 :: f 53 :: f 54 :: f 55 :: f 56 :: f 57 :: f 58 :: f 59 :: f 60 :: f 61 :: f 62 :: f 63 :: f 64 :: f 65 :: f 66 :: f 67 :: f 68 :: f 69 :: f 70 :: f 71 :: f 72 :: f 73 :: f 74 :: f 75 :: f 76 :: f 77 :: f 78 :: f 79 :: f 80 :: f 81 :: f 82 :: f 83 :: f 84 :: f 85 :: f 86 :: f 87 :: f 88 :: f 89 :: f 90 :: f 91 :: f 92 :: f 93 :: f 94 :: f 95 :: f 96 :: f 97 :: f 98 :: f 99 :: f 100 :: f 101 :: f 102 :: f 103 :: f 104 :: f 105 :: f 106 :: f 107 :: f 108 :: f 109 :: f 110 :: f 111 :: f 112 :: f 113 :: f 114 :: f 115 :: f 116 :: f 117 :: f 118 :: f 119 :: f 120 :: f 121 :: f 122 :: f 123 :: f 124 :: f 125 :: f 126 :: f 127 :: f 128 :: f 129 :: f 130 :: f 131 :: f 132 :: f 133 :: f 134 :: f 135 :: f 136 :: f 137 :: f 138 :: f 139 :: f 140 :: f 141 :: f 142 :: f 143 :: f 144 :: f 145 :: f 146 :: f 147 :: f 148 :: f 149 :: f 150 :: f 151 :: f 152 :: f 153 :: f 154 :: f 155 :: f 156 :: f 157 :: f 158 :: f 159 :: f 160 :: f 161 :: f 162 :: f 163 :: f 164 :: f 165 :: f 166 :: f 167 :: f 168 :: f 169 :: f 170 :: f 171 :: f 172 :: f 173 :: f 174 :: f 175 :: f 176 :: f 177 :: f 178 :: f 179 :: f 180 :: f 181 :: f 182 :: f 183 :: f 184 :: f 185 :: f 186 :: f 187 :: f 188 :: f 189 :: f 190 :: f 191 :: f 192 :: f 193 :: f 194 :: f 195 :: f 196 :: f 197 :: f 198 :: f 199 :: f 200 :: f 201 :: f 202 :: f 203 :: f 204 :: f 205 :: f 206 :: f 207 :: f 208 :: f 209 :: f 210 :: f 211 :: f 212 :: f 213 :: f 214 :: f 215 :: f 216 :: f 217 :: f 218 :: f 219 :: f 220 :: f 221 :: f 222 :: f 223 :: f 224 :: f 225 :: f 226 :: f 227 :: f 228 :: f 229 :: f 230 :: f 231 :: f 232 :: f 233 :: f 234 :: f 235 :: f 236 :: f 237 :: f 238 :: f 239 :: f 240 :: f 241 :: f 242 :: f 243 :: f 244 :: f 245 :: f 246 :: f 247 :: f 248 :: f 249 :: f 250 :: f 251 :: f 252 :: f 253 :: f 254 :: f 255 :: f 256 :: f 257 :: f 258 :: f 259 :: f 260 :: f 261 :: f 262 :: f 263 :: f 264 :: f 265 :: f 266 :: f 267 :: f 268 :: f 269 :: f 270 :: f 271 :: f 272 :: f 273 :: f 274 :: f 275 :: f 276 :: f 277 :: f 278 :: f 279 :: f 280 :: f 281 :: f 282 :: f 283 :: f 284 :: f 285 :: f 286 :: f 287 :: f 288 :: f 289 :: f 290 :: f 291 :: f 292 :: f 293 :: f 294 :: f 295 :: f 296 :: f 297 :: f 298 :: f 299 :: f 300 :: f 301 :: f 302 :: f 303 :: f 304 :: f 305 :: f 306 :: f 307 :: []).toArray, defers := [] } := by
  obtain ⟨⟨l⟩, d⟩ := a
  subst hd
  subst k0
  subst k1
  refine ⟨fun n => (Array.mk l).getD n undef, ?_⟩
  have e := list_range 308 l hs
  have e2 : ((List.range 308).map fun n => (Array.mk l).getD n undef).toArray = ((Array.mk l).getD 0 undef :: (Array.mk l).getD 1 undef :: (Array.mk l).getD 2 undef :: (Array.mk l).getD 3 undef :: (Array.mk l).getD 4 undef :: (Array.mk l).getD 5 undef :: (Array.mk l).getD 6 undef :: (Array.mk l).getD 7 undef :: (Array.mk l).getD 8 undef :: (Array.mk l).getD 9 undef :: (Array.mk l).getD 10 undef :: (Array.mk l).getD 11 undef :: (Array.mk l).getD 12 undef :: (Array.mk l).getD 13 undef :: (Array.mk l).getD 14 undef :: (Array.mk l).getD 15 undef :: (Array.mk l).getD 16 undef :: (Array.mk l).getD 17 undef :: (Array.mk l).getD 18 undef :: (Array.mk l).getD 19 undef :: (Array.mk l).getD 20 undef :: (Array.mk l).getD 21 undef :: (Array.mk l).getD 22 undef :: (Array.mk l).getD 23 undef :: (Array.mk l).getD 24 undef :: (Array.mk l).getD 25 undef :: (Array.mk l).getD 26 undef :: (Array.mk l).getD 27 undef :: (Array.mk l).getD 28 undef :: (Array.mk l).getD 29 undef :: (Array.mk l).getD 30 undef :: (Array.mk l).getD 31 undef :: (Array.mk l).getD 32 undef :: (Array.mk l).getD 33 undef :: (Array.mk l).getD 34 undef :: (Array.mk l).getD 35 undef :: (Array.mk l).getD 36 undef :: (Array.mk l).getD 37 undef :: (Array.mk l).getD 38 undef :: (Array.mk l).getD 39 undef :: (Array.mk l).getD 40 undef :: (Array.mk l).getD 41 undef :: (Array.mk l).getD 42 undef :: (Array.mk l).getD 43 undef :: (Array.mk l).getD 44 undef :: (Array.mk l).getD 45 undef :: (Array.mk l).getD 46 undef :: (Array.mk l).getD 47 undef :: (Array.mk l).getD 48 undef :: (Array.mk l).getD 49 undef :: (Array.mk l).getD 50 undef :: (Array.mk l).getD 51 undef :: (Array.mk l).getD 52 undef :: (Array.mk l).getD 53 undef :: (Array.mk l).getD 54 undef :: (Array.mk l).getD 55 undef :: (Array.mk l).getD 56 undef :: (Array.mk l).getD 57 undef :: (Array.mk l).getD 58 undef :: (Array.mk l).getD 59 undef :: (Array.mk l).getD 60 undef :: (Array.mk l).getD 61 undef :: (Array.mk l).getD 62 undef :: (Array.mk l).getD 63 undef :: (Array.mk l).getD 64 undef :: (Array.mk l).getD 65 undef :: (Array.mk l).getD 66 undef :: (Array.mk l).getD 67 undef :: (Array.mk l).getD 68 undef :: (Array.mk l).getD 69 undef :: (Array.mk l).getD 70 undef :: (Array.mk l).getD 71 undef :: (Array.mk l).getD 72 undef :: (Array.mk l).getD 73 undef :: (Array.mk l).getD 74 undef :: (Array.mk l).getD 75 undef :: (Array.mk l).getD 76 undef :: (Array.mk l).getD 77 undef :: (Array.mk l).getD 78 undef :: (Array.mk l).getD 79 undef :: (Array.mk l).getD 80 undef :: (Array.mk l).getD 81 undef :: (Array.mk l).getD 82 undef :: (Array.mk l).getD 83 undef :: (Array.mk l).getD 84 undef :: (Array.mk l).getD 85 undef :: (Array.mk l).getD 86 undef :: (Array.mk l).getD 87 undef :: (Array.mk l).getD 88 undef :: (Array.mk l).getD 89 undef :: (Array.mk l).getD 90 undef :: (Array.mk l).getD 91 undef :: (Array.mk l).getD 92 undef :: (Array.mk l).getD 93 undef :: (Array.mk l).getD 94 undef :: (Array.mk l).getD 95 undef :: (Array.mk l).getD 96 undef :: (Array.mk l).getD 97 undef :: (Array.mk l).getD 98 undef :: (Array.mk l).getD 99 undef :: (Array.mk l).getD 100 undef :: (Array.mk l).getD 101 undef :: (Array.mk l).getD 102 undef :: (Array.mk l).getD 103 undef :: (Array.mk l).getD 104 undef :: (Array.mk l).getD 105 undef :: (Array.mk l).getD 106 undef :: (Array.mk l).getD 107 undef :: (Array.mk l).getD 108 undef :: (Array.mk l).getD 109 undef :: (Array.mk l).getD 110 undef :: (Array.mk l).getD 111 undef :: (Array.mk l).getD 112 undef :: (Array.mk l).getD 113 undef :: (Array.mk l).getD 114 undef :: (Array.mk l).getD 115 undef :: (Array.mk l).getD 116 undef :: (Array.mk l).getD 117 undef :: (Array.mk l).getD 118 undef :: (Array.mk l).getD 119 undef :: (Array.mk l).getD 120 undef :: (Array.mk l).getD 121 undef :: (Array.mk l).getD 122 undef :: (Array.mk l).getD 123 undef :: (Array.mk l).getD 124 undef :: (Array.mk l).getD 125 undef :: (Array.mk l).getD 126 undef :: (Array.mk l).getD 127 undef :: (Array.mk l).getD 128 undef :: (Array.mk l).getD 129 undef :: (Array.mk l).getD 130 undef :: (Array.mk l).getD 131 undef :: (Array.mk l).getD 132 undef :: (Array.mk l).getD 133 undef :: (Array.mk l).getD 134 undef :: (Array.mk l).getD 135 undef :: (Array.mk l).getD 136 undef :: (Array.mk l).getD 137 undef :: (Array.mk l).getD 138 undef :: (Array.mk l).getD 139 undef :: (Array.mk l).getD 140 undef :: (Array.mk l).getD 141 undef :: (Array.mk l).getD 142 undef :: (Array.mk l).getD 143 undef :: (Array.mk l).getD 144 undef :: (Array.mk l).getD 145 undef :: (Array.mk l).getD 146 undef :: (Array.mk l).getD 147 undef :: (Array.mk l).getD 148 undef :: (Array.mk l).getD 149 undef :: (Array.mk l).getD 150 undef :: (Array.mk l).getD 151 undef :: (Array.mk l).getD 152 undef :: (Array.mk l).getD 153 undef :: (Array.mk l).getD 154 undef :: (Array.mk l).getD 155 undef :: (Array.mk l).getD 156 undef :: (Array.mk l).getD 157 undef :: (Array.mk l).getD 158 undef :: (Array.mk l).getD 159 undef :: (Array.mk l).getD 160 undef :: (Array.mk l).getD 161 undef :: (Array.mk l).getD 162 undef :: (Array.mk l).getD 163 undef :: (Array.mk l).getD 164 undef :: (Array.mk l).getD 165 undef :: (Array.mk l).getD 166 undef :: (Array.mk l).getD 167 undef :: (Array.mk l).getD 168 undef :: (Array.mk l).getD 169 undef :: (Array.mk l).getD 170 undef :: (Array.mk l).getD 171 undef :: (Array.mk l).getD 172 undef :: (Array.mk l).getD 173 undef :: (Array.mk l).getD 174 undef :: (Array.mk l).getD 175 undef :: (Array.mk l).getD 176 undef :: (Array.mk l).getD 177 undef :: (Array.mk l).getD 178 undef :: (Array.mk l).getD 179 undef :: (Array.mk l).getD 180 undef :: (Array.mk l).getD 181 undef :: (Array.mk l).getD 182 undef :: (Array.mk l).getD 183 undef :: (Array.mk l).getD 184 undef :: (Array.mk l).getD 185 undef :: (Array.mk l).getD 186 undef :: (Array.mk l).getD 187 undef :: (Array.mk l).getD 188 undef :: (Array.mk l).getD 189 undef :: (Array.mk l).getD 190 undef :: (Array.mk l).getD 191 undef :: (Array.mk l).getD 192 undef :: (Array.mk l).getD 193 undef :: (Array.mk l).getD 194 undef :: (Array.mk l).getD 195 undef :: (Array.mk l).getD 196 undef :: (Array.mk l).getD 197 undef :: (Array.mk l).getD 198 undef :: (Array.mk l).getD 199 undef :: (Array.mk l).getD 200 undef :: (Array.mk l).getD 201 undef :: (Array.mk l).getD 202 undef :: (Array.mk l).getD 203 undef :: (Array.mk l).getD 204 undef :: (Array.mk l).getD 205 undef :: (Array.mk l).getD 206 undef :: (Array.mk l).getD 207 undef :: (Array.mk l).getD 208 undef :: (Array.mk l).getD 209 undef :: (Array.mk l).getD 210 undef :: (Array.mk l).getD 211 undef :: (Array.mk l).getD 212 undef :: (Array.mk l).getD 213 undef :: (Array.mk l).getD 214 undef :: (Array.mk l).getD 215 undef :: (Array.mk l).getD 216 undef :: (Array.mk l).getD 217 undef :: (Array.mk l).getD 218 undef :: (Array.mk l).getD 219 undef :: (Array.mk l).getD 220 undef :: (Array.mk l).getD 221 undef :: (Array.mk l).getD 222 undef :: (Array.mk l).getD 223 undef :: (Array.mk l).getD 224 undef :: (Array.mk l).getD 225 undef :: (Array.mk l).getD 226 undef :: (Array.mk l).getD 227 undef :: (Array.mk l).getD 228 undef :: (Array.mk l).getD 229 undef :: (Array.mk l).getD 230 undef :: (Array.mk l).getD 231 undef :: (Array.mk l).getD 232 undef :: (Array.mk l).getD 233 undef :: (Array.mk l).getD 234 undef :: (Array.mk l).getD 235 undef :: (Array.mk l).getD 236 undef :: (Array.mk l).getD 237 undef :: (Array.mk l).getD 238 undef :: (Array.mk l).getD 239 undef :: (Array.mk l).getD 240 undef :: (Array.mk l).getD 241 undef :: (Array.mk l).getD 242 undef :: (Array.mk l).getD 243 undef :: (Array.mk l).getD 244 undef :: (Array.mk l).getD 245 undef :: (Array.mk l).getD 246 undef :: (Array.mk l).getD 247 undef :: (Array.mk l).getD 248 undef :: (Array.mk l).getD 249 undef :: (Array.mk l).getD 250 undef :: (Array.mk l).getD 251 undef :: (Array.mk l).getD 252 undef :: (Array.mk l).getD 253 undef :: (Array.mk l).getD 254 undef :: (Array.mk l).getD 255 undef :: (Array.mk l).getD 256 undef :: (Array.mk l).getD 257 undef :: (Array.mk l).getD 258 undef :: (Array.mk l).getD 259 undef :: (Array.mk l).getD 260 undef :: (Array.mk l).getD 261 undef :: (Array.mk l).getD 262 undef :: (Array.mk l).getD 263 undef :: (Array.mk l).getD 264 undef :: (Array.mk l).getD 265 undef :: (Array.mk l).getD 266 undef :: (Array.mk l).getD 267 undef :: (Array.mk l).getD 268 undef :: (Array.mk l).getD 269 undef :: (Array.mk l).getD 270 undef :: (Array.mk l).getD 271 undef :: (Array.mk l).getD 272 undef :: (Array.mk l).getD 273 undef :: (Array.mk l).getD 274 undef :: (Array.mk l).getD 275 undef :: (Array.mk l).getD 276 undef :: (Array.mk l).getD 277 undef :: (Array.mk l).getD 278 undef :: (Array.mk l).getD 279 undef :: (Array.mk l).getD 280 undef :: (Array.mk l).getD 281 undef :: (Array.mk l).getD 282 undef :: (Array.mk l).getD 283 undef :: (Array.mk l).getD 284 undef :: (Array.mk l).getD 285 undef :: (Array.mk l).getD 286 undef :: (Array.mk l).getD 287 undef :: (Array.mk l).getD 288 undef :: (Array.mk l).getD 289 undef :: (Array.mk l).getD 290 undef :: (Array.mk l).getD 291 undef :: (Array.mk l).getD 292 undef :: (Array.mk l).getD 293 undef :: (Array.mk l).getD 294 undef :: (Array.mk l).getD 295 undef :: (Array.mk l).getD 296 undef :: (Array.mk l).getD 297 undef :: (Array.mk l).getD 298 undef :: (Array.mk l).getD 299 undef :: (Array.mk l).getD 300 undef :: (Array.mk l).getD 301 undef :: (Array.mk l).getD 302 undef :: (Array.mk l).getD 303 undef :: (Array.mk l).getD 304 undef :: (Array.mk l).getD 305 undef :: (Array.mk l).getD 306 undef :: (Array.mk l).getD 307 undef :: []).toArray := by kernel_rfl
  show ({ tmps := l.toArray, defers := [] } : Act) = _
  refine congrArg (fun t : Array Value => ({ tmps := t, defers := [] } : Act)) ?_
  exact (congrArg List.toArray e).trans e2
set_option maxRecDepth 100000 in
set_option maxHeartbeats 20000000 in
theorem pairsMultiply_law (W : World) (c d : Bts) (hc : InB W c) (hd : InB W d) (hn : c.n + d.n ≤ 1048576) :
    Calls Tryz.prog 3 #[.slice c.a c.n c.cap, .slice d.a d.n d.cap] W (SaysTrue W) := by
  go_enter Tryz.func3, Tryz.ntmps3
  go_wp2_with fail
  refine (big_no c d _ hn).mono ?_; rintro e w1 ⟨rfl, rfl⟩
  have HB := Lib.hid (Below.refl W.heap.size W)
  go_wp2_with fail
  refine (drawProductPair_any c _ hc).mono ?_; rintro e w31 ⟨a, b, u, v, z1, z2, z3, z4, rfl, hb⟩
  replace HB := Lib.hid (nx HB.out hb)
  clear hb
  have Bp := Lib.hid (heap_alloc_at w31 (.cells #[.string a, .string b] 25 (0, 0)))
  replace HB := Lib.hid (nxAlloc HB.out (.cells #[.string a, .string b] 25 (0, 0)))
  replace Bp := Lib.hid (heap_keep (allocB (w31.alloc (.cells #[.string a, .string b] 25 (0, 0))) (.cells #[.string u, .string v] 25 (0, 0))) Bp.out)
  have bq := heap_alloc_at (w31.alloc (.cells #[.string a, .string b] 25 (0, 0))) (.cells #[.string u, .string v] 25 (0, 0))
  rw [show (w31.alloc (.cells #[.string a, .string b] 25 (0, 0))).heap.size = w31.heap.size + 1 by simp] at bq
  have Bq := Lib.hid bq
  clear bq
  replace HB := Lib.hid (nxAlloc HB.out (.cells #[.string u, .string v] 25 (0, 0)))
  have h1 := fun w => implProductPair_any a b u v w (by omega) (by omega) (by omega) (by omega)
  have h2 := fun w => specProductPair_any a b u v w (by omega) (by omega) (by omega) (by omega)
  have HE := Lib.hid (o_cases ((pairOf a b).bind fun p => (pairOf u v).bind fun q => limP (mulP p q)))
  simp only [ansPr] at h1 h2
  generalize pS1 ((pairOf a b).bind fun p => (pairOf u v).bind fun q => limP (mulP p q)) = y1 at *
  generalize pS2 ((pairOf a b).bind fun p => (pairOf u v).bind fun q => limP (mulP p q)) = y2 at *
  generalize Option.isSome ((pairOf a b).bind fun p => (pairOf u v).bind fun q => limP (mulP p q)) = y3 at *
  obtain ⟨fp1, fp2, fp3⟩ := two_facts Bp.out
  obtain ⟨fq1, fq2, fq3⟩ := two_facts Bq.out
  go_wp2_with fail
  refine (h1 _).mono ?_; rintro e w32 ⟨rfl, hb⟩
  clear fp1 fp2 fp3 fq1 fq2 fq3
  replace Bp := Lib.hid (heap_keep hb Bp.out)
  replace Bq := Lib.hid (heap_keep hb Bq.out)
  replace HB := Lib.hid (nx HB.out hb)
  clear hb
  replace Bp := Lib.hid (heap_keep (allocB w32 (.cells #[.string y1, .string y2] 25 (0, 0))) Bp.out)
  replace Bq := Lib.hid (heap_keep (allocB w32 (.cells #[.string y1, .string y2] 25 (0, 0))) Bq.out)
  have Bm := Lib.hid (heap_alloc_at w32 (.cells #[.string y1, .string y2] 25 (0, 0)))
  replace HB := Lib.hid (nxAlloc HB.out (.cells #[.string y1, .string y2] 25 (0, 0)))
  obtain ⟨fp1, fp2, fp3⟩ := two_facts Bp.out
  obtain ⟨fq1, fq2, fq3⟩ := two_facts Bq.out
  go_wp2_with fail
  refine (h2 _).mono ?_; rintro e w33 ⟨rfl, hb⟩
  clear fp1 fp2 fp3 fq1 fq2 fq3
  replace Bp := Lib.hid (heap_keep hb Bp.out)
  replace Bq := Lib.hid (heap_keep hb Bq.out)
  replace Bm := Lib.hid (heap_keep hb Bm.out)
  replace HB := Lib.hid (nx HB.out hb)
  clear hb
  replace Bp := Lib.hid (heap_keep (allocB w33 (.cells #[.string y1, .string y2] 25 (0, 0))) Bp.out)
  replace Bq := Lib.hid (heap_keep (allocB w33 (.cells #[.string y1, .string y2] 25 (0, 0))) Bq.out)
  replace Bm := Lib.hid (heap_keep (allocB w33 (.cells #[.string y1, .string y2] 25 (0, 0))) Bm.out)
  have Br := Lib.hid (heap_alloc_at w33 (.cells #[.string y1, .string y2] 25 (0, 0)))
  replace HB := Lib.hid (nxAlloc HB.out (.cells #[.string y1, .string y2] 25 (0, 0)))
  obtain ⟨fm1, fm2, fm3⟩ := two_facts Bm.out
  obtain ⟨fr1, fr2, fr3⟩ := two_facts Br.out
  go_upto_if 81 with fail
  refine wp_cut (fun (a : Act) (wx : World) => a.tmps.size = 308 ∧ a.defers = [] ∧ a.tmps.getD 0 undef = .slice c.a c.n c.cap ∧ a.tmps.getD 1 undef = .slice d.a d.n d.cap ∧ Hid (Below W.heap.size W wx)) ?rest4 ?first4
  case first4 =>
    intro JJ KK hJJ hKK
    rcases HE.out with rfl | ⟨m, ho, hy1, hy2, rfl⟩
    · clear HE
      go_wp2_with fail
      exact Met.intro (hJJ _ _ ⟨rfl, rfl, rfl, rfl, HB⟩)
    · clear HE
      obtain ⟨U1, U2, V1, V2, N1, N2, R1, R2, g1, g2, g3, g4, g5, g6, g7, g8, g9, g10, g11⟩ := mul_calls ho hy1 hy2
      clear ho hy1 hy2
      clear fm1 fm2 fm3 fr1 fr2 fr3
      clear Br
      obtain ⟨fp1, fp2, fp3⟩ := two_facts Bp.out
      go_wp2_with fail
      refine (g1 _).mono ?_; rintro e w34 ⟨rfl, hb⟩
      clear fp1 fp2 fp3
      replace Bp := Lib.hid (heap_keep hb Bp.out)
      replace Bq := Lib.hid (heap_keep hb Bq.out)
      replace Bm := Lib.hid (heap_keep hb Bm.out)
      replace HB := Lib.hid (nx HB.out hb)
      clear hb
      replace Bp := Lib.hid (heap_keep (allocB w34 (.cells #[.string b, .string a] 25 (0, 0))) Bp.out)
      replace Bq := Lib.hid (heap_keep (allocB w34 (.cells #[.string b, .string a] 25 (0, 0))) Bq.out)
      replace Bm := Lib.hid (heap_keep (allocB w34 (.cells #[.string b, .string a] 25 (0, 0))) Bm.out)
      have Bi := Lib.hid (heap_alloc_at w34 (.cells #[.string b, .string a] 25 (0, 0)))
      replace HB := Lib.hid (nxAlloc HB.out (.cells #[.string b, .string a] 25 (0, 0)))
      obtain ⟨fq1, fq2, fq3⟩ := two_facts Bq.out
      go_wp2_with fail
      refine (g2 _).mono ?_; rintro e w35 ⟨rfl, hb⟩
      clear fq1 fq2 fq3
      replace Bp := Lib.hid (heap_keep hb Bp.out)
      replace Bq := Lib.hid (heap_keep hb Bq.out)
      replace Bm := Lib.hid (heap_keep hb Bm.out)
      replace Bi := Lib.hid (heap_keep hb Bi.out)
      replace HB := Lib.hid (nx HB.out hb)
      clear hb
      replace Bp := Lib.hid (heap_keep (allocB w35 (.cells #[.string v, .string u] 25 (0, 0))) Bp.out)
      replace Bq := Lib.hid (heap_keep (allocB w35 (.cells #[.string v, .string u] 25 (0, 0))) Bq.out)
      replace Bm := Lib.hid (heap_keep (allocB w35 (.cells #[.string v, .string u] 25 (0, 0))) Bm.out)
      replace Bi := Lib.hid (heap_keep (allocB w35 (.cells #[.string v, .string u] 25 (0, 0))) Bi.out)
      have Bj := Lib.hid (heap_alloc_at w35 (.cells #[.string v, .string u] 25 (0, 0)))
      replace HB := Lib.hid (nxAlloc HB.out (.cells #[.string v, .string u] 25 (0, 0)))
      obtain ⟨fj1, fj2, fj3⟩ := two_facts Bj.out
      obtain ⟨fi1, fi2, fi3⟩ := two_facts Bi.out
      go_wp2_with fail
      refine (g3 _).mono ?_; rintro e w36 ⟨rfl, hb⟩
      clear fj1 fj2 fj3 fi1 fi2 fi3
      replace Bp := Lib.hid (heap_keep hb Bp.out)
      replace Bq := Lib.hid (heap_keep hb Bq.out)
      replace Bm := Lib.hid (heap_keep hb Bm.out)
      replace Bi := Lib.hid (heap_keep hb Bi.out)
      replace Bj := Lib.hid (heap_keep hb Bj.out)
      replace HB := Lib.hid (nx HB.out hb)
      clear hb
      replace Bp := Lib.hid (heap_keep (allocB w36 (.cells #[.string y2, .string y1] 25 (0, 0))) Bp.out)
      replace Bq := Lib.hid (heap_keep (allocB w36 (.cells #[.string y2, .string y1] 25 (0, 0))) Bq.out)
      replace Bm := Lib.hid (heap_keep (allocB w36 (.cells #[.string y2, .string y1] 25 (0, 0))) Bm.out)
      replace Bi := Lib.hid (heap_keep (allocB w36 (.cells #[.string y2, .string y1] 25 (0, 0))) Bi.out)
      replace Bj := Lib.hid (heap_keep (allocB w36 (.cells #[.string y2, .string y1] 25 (0, 0))) Bj.out)
      have Bt := Lib.hid (heap_alloc_at w36 (.cells #[.string y2, .string y1] 25 (0, 0)))
      replace HB := Lib.hid (nxAlloc HB.out (.cells #[.string y2, .string y1] 25 (0, 0)))
      obtain ⟨fm1, fm2, fm3⟩ := two_facts Bm.out
      go_wp2_with fail
      refine (g4 _).mono ?_; rintro e w37 ⟨rfl, hb⟩
      clear fm1 fm2 fm3
      replace Bp := Lib.hid (heap_keep hb Bp.out)
      replace Bq := Lib.hid (heap_keep hb Bq.out)
      replace Bm := Lib.hid (heap_keep hb Bm.out)
      replace Bi := Lib.hid (heap_keep hb Bi.out)
      replace Bj := Lib.hid (heap_keep hb Bj.out)
      replace Bt := Lib.hid (heap_keep hb Bt.out)
      replace HB := Lib.hid (nx HB.out hb)
      clear hb
      replace Bp := Lib.hid (heap_keep (allocB w37 (.cells #[.string y2, .string y1] 25 (0, 0))) Bp.out)
      replace Bq := Lib.hid (heap_keep (allocB w37 (.cells #[.string y2, .string y1] 25 (0, 0))) Bq.out)
      replace Bm := Lib.hid (heap_keep (allocB w37 (.cells #[.string y2, .string y1] 25 (0, 0))) Bm.out)
      replace Bi := Lib.hid (heap_keep (allocB w37 (.cells #[.string y2, .string y1] 25 (0, 0))) Bi.out)
      replace Bj := Lib.hid (heap_keep (allocB w37 (.cells #[.string y2, .string y1] 25 (0, 0))) Bj.out)
      replace Bt := Lib.hid (heap_keep (allocB w37 (.cells #[.string y2, .string y1] 25 (0, 0))) Bt.out)
      have Bn := Lib.hid (heap_alloc_at w37 (.cells #[.string y2, .string y1] 25 (0, 0)))
      replace HB := Lib.hid (nxAlloc HB.out (.cells #[.string y2, .string y1] 25 (0, 0)))
      obtain ⟨fp1, fp2, fp3⟩ := two_facts Bp.out
      go_wp2_with fail
      refine (g5 _).mono ?_; rintro e w38 ⟨rfl, hb⟩
      clear fp1 fp2 fp3
      replace Bp := Lib.hid (heap_keep hb Bp.out)
      replace Bq := Lib.hid (heap_keep hb Bq.out)
      replace Bm := Lib.hid (heap_keep hb Bm.out)
      replace Bi := Lib.hid (heap_keep hb Bi.out)
      replace Bj := Lib.hid (heap_keep hb Bj.out)
      replace Bt := Lib.hid (heap_keep hb Bt.out)
      replace Bn := Lib.hid (heap_keep hb Bn.out)
      replace HB := Lib.hid (nx HB.out hb)
      clear hb
      replace Bp := Lib.hid (heap_keep (allocB w38 (.cells #[.string U1, .string U2] 25 (0, 0))) Bp.out)
      replace Bq := Lib.hid (heap_keep (allocB w38 (.cells #[.string U1, .string U2] 25 (0, 0))) Bq.out)
      replace Bm := Lib.hid (heap_keep (allocB w38 (.cells #[.string U1, .string U2] 25 (0, 0))) Bm.out)
      replace Bi := Lib.hid (heap_keep (allocB w38 (.cells #[.string U1, .string U2] 25 (0, 0))) Bi.out)
      replace Bj := Lib.hid (heap_keep (allocB w38 (.cells #[.string U1, .string U2] 25 (0, 0))) Bj.out)
      replace Bt := Lib.hid (heap_keep (allocB w38 (.cells #[.string U1, .string U2] 25 (0, 0))) Bt.out)
      replace Bn := Lib.hid (heap_keep (allocB w38 (.cells #[.string U1, .string U2] 25 (0, 0))) Bn.out)
      have Bx := Lib.hid (heap_alloc_at w38 (.cells #[.string U1, .string U2] 25 (0, 0)))
      replace HB := Lib.hid (nxAlloc HB.out (.cells #[.string U1, .string U2] 25 (0, 0)))
      obtain ⟨fq1, fq2, fq3⟩ := two_facts Bq.out
      go_wp2_with fail
      refine (g6 _).mono ?_; rintro e w39 ⟨rfl, hb⟩
      clear fq1 fq2 fq3
      replace Bp := Lib.hid (heap_keep hb Bp.out)
      replace Bq := Lib.hid (heap_keep hb Bq.out)
      replace Bm := Lib.hid (heap_keep hb Bm.out)
      replace Bi := Lib.hid (heap_keep hb Bi.out)
      replace Bj := Lib.hid (heap_keep hb Bj.out)
      replace Bt := Lib.hid (heap_keep hb Bt.out)
      replace Bn := Lib.hid (heap_keep hb Bn.out)
      replace Bx := Lib.hid (heap_keep hb Bx.out)
      replace HB := Lib.hid (nx HB.out hb)
      clear hb
      replace Bp := Lib.hid (heap_keep (allocB w39 (.cells #[.string V1, .string V2] 25 (0, 0))) Bp.out)
      replace Bq := Lib.hid (heap_keep (allocB w39 (.cells #[.string V1, .string V2] 25 (0, 0))) Bq.out)
      replace Bm := Lib.hid (heap_keep (allocB w39 (.cells #[.string V1, .string V2] 25 (0, 0))) Bm.out)
      replace Bi := Lib.hid (heap_keep (allocB w39 (.cells #[.string V1, .string V2] 25 (0, 0))) Bi.out)
      replace Bj := Lib.hid (heap_keep (allocB w39 (.cells #[.string V1, .string V2] 25 (0, 0))) Bj.out)
      replace Bt := Lib.hid (heap_keep (allocB w39 (.cells #[.string V1, .string V2] 25 (0, 0))) Bt.out)
      replace Bn := Lib.hid (heap_keep (allocB w39 (.cells #[.string V1, .string V2] 25 (0, 0))) Bn.out)
      replace Bx := Lib.hid (heap_keep (allocB w39 (.cells #[.string V1, .string V2] 25 (0, 0))) Bx.out)
      have By := Lib.hid (heap_alloc_at w39 (.cells #[.string V1, .string V2] 25 (0, 0)))
      replace HB := Lib.hid (nxAlloc HB.out (.cells #[.string V1, .string V2] 25 (0, 0)))
      obtain ⟨fx1, fx2, fx3⟩ := two_facts Bx.out
      obtain ⟨fy1, fy2, fy3⟩ := two_facts By.out
      go_wp2_with fail
      refine (g7 _).mono ?_; rintro e w40 ⟨rfl, hb⟩
      clear fx1 fx2 fx3 fy1 fy2 fy3
      replace Bp := Lib.hid (heap_keep hb Bp.out)
      replace Bq := Lib.hid (heap_keep hb Bq.out)
      replace Bm := Lib.hid (heap_keep hb Bm.out)
      replace Bi := Lib.hid (heap_keep hb Bi.out)
      replace Bj := Lib.hid (heap_keep hb Bj.out)
      replace Bt := Lib.hid (heap_keep hb Bt.out)
      replace Bn := Lib.hid (heap_keep hb Bn.out)
      replace Bx := Lib.hid (heap_keep hb Bx.out)
      replace By := Lib.hid (heap_keep hb By.out)
      replace HB := Lib.hid (nx HB.out hb)
      clear hb
      replace Bp := Lib.hid (heap_keep (allocB w40 (.cells #[.string N1, .string N2] 25 (0, 0))) Bp.out)
      replace Bq := Lib.hid (heap_keep (allocB w40 (.cells #[.string N1, .string N2] 25 (0, 0))) Bq.out)
      replace Bm := Lib.hid (heap_keep (allocB w40 (.cells #[.string N1, .string N2] 25 (0, 0))) Bm.out)
      replace Bi := Lib.hid (heap_keep (allocB w40 (.cells #[.string N1, .string N2] 25 (0, 0))) Bi.out)
      replace Bj := Lib.hid (heap_keep (allocB w40 (.cells #[.string N1, .string N2] 25 (0, 0))) Bj.out)
      replace Bt := Lib.hid (heap_keep (allocB w40 (.cells #[.string N1, .string N2] 25 (0, 0))) Bt.out)
      replace Bn := Lib.hid (heap_keep (allocB w40 (.cells #[.string N1, .string N2] 25 (0, 0))) Bn.out)
      replace Bx := Lib.hid (heap_keep (allocB w40 (.cells #[.string N1, .string N2] 25 (0, 0))) Bx.out)
      replace By := Lib.hid (heap_keep (allocB w40 (.cells #[.string N1, .string N2] 25 (0, 0))) By.out)
      have Bk := Lib.hid (heap_alloc_at w40 (.cells #[.string N1, .string N2] 25 (0, 0)))
      replace HB := Lib.hid (nxAlloc HB.out (.cells #[.string N1, .string N2] 25 (0, 0)))
      obtain ⟨fm1, fm2, fm3⟩ := two_facts Bm.out
      go_wp2_with fail
      refine (g8 _).mono ?_; rintro e w41 ⟨rfl, hb⟩
      clear fm1 fm2 fm3
      replace Bp := Lib.hid (heap_keep hb Bp.out)
      replace Bq := Lib.hid (heap_keep hb Bq.out)
      replace Bm := Lib.hid (heap_keep hb Bm.out)
      replace Bi := Lib.hid (heap_keep hb Bi.out)
      replace Bj := Lib.hid (heap_keep hb Bj.out)
      replace Bt := Lib.hid (heap_keep hb Bt.out)
      replace Bn := Lib.hid (heap_keep hb Bn.out)
      replace Bx := Lib.hid (heap_keep hb Bx.out)
      replace By := Lib.hid (heap_keep hb By.out)
      replace Bk := Lib.hid (heap_keep hb Bk.out)
      replace HB := Lib.hid (nx HB.out hb)
      clear hb
      replace Bp := Lib.hid (heap_keep (allocB w41 (.cells #[.string N1, .string N2] 25 (0, 0))) Bp.out)
      replace Bq := Lib.hid (heap_keep (allocB w41 (.cells #[.string N1, .string N2] 25 (0, 0))) Bq.out)
      replace Bm := Lib.hid (heap_keep (allocB w41 (.cells #[.string N1, .string N2] 25 (0, 0))) Bm.out)
      replace Bi := Lib.hid (heap_keep (allocB w41 (.cells #[.string N1, .string N2] 25 (0, 0))) Bi.out)
      replace Bj := Lib.hid (heap_keep (allocB w41 (.cells #[.string N1, .string N2] 25 (0, 0))) Bj.out)
      replace Bt := Lib.hid (heap_keep (allocB w41 (.cells #[.string N1, .string N2] 25 (0, 0))) Bt.out)
      replace Bn := Lib.hid (heap_keep (allocB w41 (.cells #[.string N1, .string N2] 25 (0, 0))) Bn.out)
      replace Bx := Lib.hid (heap_keep (allocB w41 (.cells #[.string N1, .string N2] 25 (0, 0))) Bx.out)
      replace By := Lib.hid (heap_keep (allocB w41 (.cells #[.string N1, .string N2] 25 (0, 0))) By.out)
      replace Bk := Lib.hid (heap_keep (allocB w41 (.cells #[.string N1, .string N2] 25 (0, 0))) Bk.out)
      have Bl := Lib.hid (heap_alloc_at w41 (.cells #[.string N1, .string N2] 25 (0, 0)))
      replace HB := Lib.hid (nxAlloc HB.out (.cells #[.string N1, .string N2] 25 (0, 0)))
      obtain ⟨fm1, fm2, fm3⟩ := two_facts Bm.out
      go_wp2_with fail
      refine (g9 _).mono ?_; rintro e w42 ⟨rfl, hb⟩
      clear fm1 fm2 fm3
      replace Bp := Lib.hid (heap_keep hb Bp.out)
      replace Bq := Lib.hid (heap_keep hb Bq.out)
      replace Bm := Lib.hid (heap_keep hb Bm.out)
      replace Bi := Lib.hid (heap_keep hb Bi.out)
      replace Bj := Lib.hid (heap_keep hb Bj.out)
      replace Bt := Lib.hid (heap_keep hb Bt.out)
      replace Bn := Lib.hid (heap_keep hb Bn.out)
      replace Bx := Lib.hid (heap_keep hb Bx.out)
      replace By := Lib.hid (heap_keep hb By.out)
      replace Bk := Lib.hid (heap_keep hb Bk.out)
      replace Bl := Lib.hid (heap_keep hb Bl.out)
      replace HB := Lib.hid (nx HB.out hb)
      clear hb
      clear g1 g2 g3 g4 g5 g6 g7 g8 g9
      obtain ⟨ft1, ft2, ft3⟩ := two_facts Bt.out
      obtain ⟨fn1, fn2, fn3⟩ := two_facts Bn.out
      obtain ⟨fk1, fk2, fk3⟩ := two_facts Bk.out
      obtain ⟨fl1, fl2, fl3⟩ := two_facts Bl.out
      obtain ⟨fm1, fm2, fm3⟩ := two_facts Bm.out
      obtain ⟨fj1, fj2, fj3⟩ := two_facts Bj.out
      go_wp2_with fail
      refine (g10 _).mono ?_; rintro e w43 ⟨rfl, hb⟩
      clear ft1 ft2 ft3 fn1 fn2 fn3 fk1 fk2 fk3 fl1 fl2 fl3 fm1 fm2 fm3 fj1 fj2 fj3
      replace Bp := Lib.hid (heap_keep hb Bp.out)
      replace Bq := Lib.hid (heap_keep hb Bq.out)
      replace Bm := Lib.hid (heap_keep hb Bm.out)
      replace Bi := Lib.hid (heap_keep hb Bi.out)
      replace Bj := Lib.hid (heap_keep hb Bj.out)
      replace Bt := Lib.hid (heap_keep hb Bt.out)
      replace Bn := Lib.hid (heap_keep hb Bn.out)
      replace Bx := Lib.hid (heap_keep hb Bx.out)
      replace By := Lib.hid (heap_keep hb By.out)
      replace Bk := Lib.hid (heap_keep hb Bk.out)
      replace Bl := Lib.hid (heap_keep hb Bl.out)
      replace HB := Lib.hid (nx HB.out hb)
      clear hb
      replace Bp := Lib.hid (heap_keep (allocB w43 (.cells #[.string R1, .string R2] 25 (0, 0))) Bp.out)
      replace Bq := Lib.hid (heap_keep (allocB w43 (.cells #[.string R1, .string R2] 25 (0, 0))) Bq.out)
      replace Bm := Lib.hid (heap_keep (allocB w43 (.cells #[.string R1, .string R2] 25 (0, 0))) Bm.out)
      replace Bi := Lib.hid (heap_keep (allocB w43 (.cells #[.string R1, .string R2] 25 (0, 0))) Bi.out)
      replace Bj := Lib.hid (heap_keep (allocB w43 (.cells #[.string R1, .string R2] 25 (0, 0))) Bj.out)
      replace Bt := Lib.hid (heap_keep (allocB w43 (.cells #[.string R1, .string R2] 25 (0, 0))) Bt.out)
      replace Bn := Lib.hid (heap_keep (allocB w43 (.cells #[.string R1, .string R2] 25 (0, 0))) Bn.out)
      replace Bx := Lib.hid (heap_keep (allocB w43 (.cells #[.string R1, .string R2] 25 (0, 0))) Bx.out)
      replace By := Lib.hid (heap_keep (allocB w43 (.cells #[.string R1, .string R2] 25 (0, 0))) By.out)
      replace Bk := Lib.hid (heap_keep (allocB w43 (.cells #[.string R1, .string R2] 25 (0, 0))) Bk.out)
      replace Bl := Lib.hid (heap_keep (allocB w43 (.cells #[.string R1, .string R2] 25 (0, 0))) Bl.out)
      have Bz := Lib.hid (heap_alloc_at w43 (.cells #[.string R1, .string R2] 25 (0, 0)))
      replace HB := Lib.hid (nxAlloc HB.out (.cells #[.string R1, .string R2] 25 (0, 0)))
      obtain ⟨fz1, fz2, fz3⟩ := two_facts Bz.out
      obtain ⟨fp1, fp2, fp3⟩ := two_facts Bp.out
      go_wp2_with fail
      refine (g11 _).mono ?_; rintro e w44 ⟨rfl, hb⟩
      clear fz1 fz2 fz3 fp1 fp2 fp3
      replace Bp := Lib.hid (heap_keep hb Bp.out)
      replace Bq := Lib.hid (heap_keep hb Bq.out)
      replace Bm := Lib.hid (heap_keep hb Bm.out)
      replace Bi := Lib.hid (heap_keep hb Bi.out)
      replace Bj := Lib.hid (heap_keep hb Bj.out)
      replace Bt := Lib.hid (heap_keep hb Bt.out)
      replace Bn := Lib.hid (heap_keep hb Bn.out)
      replace Bx := Lib.hid (heap_keep hb Bx.out)
      replace By := Lib.hid (heap_keep hb By.out)
      replace Bk := Lib.hid (heap_keep hb Bk.out)
      replace Bl := Lib.hid (heap_keep hb Bl.out)
      replace Bz := Lib.hid (heap_keep hb Bz.out)
      replace HB := Lib.hid (nx HB.out hb)
      clear hb
      clear g10 g11
      go_wp2_with fail
      exact Met.intro (hJJ _ _ ⟨rfl, rfl, rfl, rfl, HB⟩)
  case rest4 =>
    intro a wc hcut
    obtain ⟨ks, kd, k0, k1, HC0⟩ := hcut
    obtain ⟨f, rfl⟩ := frame308_2 a ks kd k0 k1
    clear fm1 fm2 fm3 fr1 fr2 fr3 Bp Bq Bm Br HB h1 h2 HE z1 z2 z3 z4
    have HB := HC0
    clear HC0
    go_wp2_with fail
    refine (drawPowerPair_any d _ (hd.keep HB.out)).mono ?_; rintro e w45 ⟨a, b, k, z1, z2, b1, b2, rfl, hb⟩
    replace HB := Lib.hid (nx HB.out hb)
    clear hb
    have Bq := Lib.hid (heap_alloc_at w45 (.cells #[.string a, .string b] 25 (0, 0)))
    replace HB := Lib.hid (nxAlloc HB.out (.cells #[.string a, .string b] 25 (0, 0)))
    have h1 := fun w => implPowerPair_any a b k w (by omega) (by omega) (by omega) (by omega)
    have h2 := fun w => specPowerPair_any a b k w (by omega) (by omega) (by omega) (by omega)
    have HE := Lib.hid (o_cases ((pairOf a b).bind fun p => powP p k))
    simp only [ansPr] at h1 h2
    generalize pS1 ((pairOf a b).bind fun p => powP p k) = y1 at *
    generalize pS2 ((pairOf a b).bind fun p => powP p k) = y2 at *
    generalize Option.isSome ((pairOf a b).bind fun p => powP p k) = y3 at *
    obtain ⟨fq1, fq2, fq3⟩ := two_facts Bq.out
    go_wp2_with fail
    refine (h1 _).mono ?_; rintro e w46 ⟨rfl, hb⟩
    clear fq1 fq2 fq3
    replace Bq := Lib.hid (heap_keep hb Bq.out)
    replace HB := Lib.hid (nx HB.out hb)
    clear hb
    replace Bq := Lib.hid (heap_keep (allocB w46 (.cells #[.string y1, .string y2] 25 (0, 0))) Bq.out)
    have Bm := Lib.hid (heap_alloc_at w46 (.cells #[.string y1, .string y2] 25 (0, 0)))
    replace HB := Lib.hid (nxAlloc HB.out (.cells #[.string y1, .string y2] 25 (0, 0)))
    obtain ⟨fq1, fq2, fq3⟩ := two_facts Bq.out
    go_wp2_with fail
    refine (h2 _).mono ?_; rintro e w47 ⟨rfl, hb⟩
    clear fq1 fq2 fq3
    replace Bq := Lib.hid (heap_keep hb Bq.out)
    replace Bm := Lib.hid (heap_keep hb Bm.out)
    replace HB := Lib.hid (nx HB.out hb)
    clear hb
    replace Bq := Lib.hid (heap_keep (allocB w47 (.cells #[.string y1, .string y2] 25 (0, 0))) Bq.out)
    replace Bm := Lib.hid (heap_keep (allocB w47 (.cells #[.string y1, .string y2] 25 (0, 0))) Bm.out)
    have Br := Lib.hid (heap_alloc_at w47 (.cells #[.string y1, .string y2] 25 (0, 0)))
    replace HB := Lib.hid (nxAlloc HB.out (.cells #[.string y1, .string y2] 25 (0, 0)))
    obtain ⟨fm1, fm2, fm3⟩ := two_facts Bm.out
    obtain ⟨fr1, fr2, fr3⟩ := two_facts Br.out
    go_upto_if 215 with fail
    refine wp_cut (fun (a : Act) (wx : World) => a.tmps.size = 308 ∧ a.defers = [] ∧ a.tmps.getD 0 undef = .slice c.a c.n c.cap ∧ a.tmps.getD 1 undef = .slice d.a d.n d.cap ∧ Hid (Below W.heap.size W wx)) ?rest3 ?first3
    case first3 =>
      intro JJ KK hJJ hKK
      rcases HE.out with rfl | ⟨m, ho, hy1, hy2, rfl⟩
      · clear HE
        go_wp2_with fail
        exact Met.intro (hJJ _ _ ⟨rfl, rfl, rfl, rfl, HB⟩)
      · clear HE
        obtain ⟨X1, X2, e, Y1, Y2, t, g1, g2, hc⟩ := pow_calls ho hy1 hy2 b1 b2
        clear ho hy1 hy2
        clear fm1 fm2 fm3 fr1 fr2 fr3
        clear Br
        obtain ⟨fq1, fq2, fq3⟩ := two_facts Bq.out
        go_wp2_with fail
        refine (g1 _ _ (by first | omega | (unfold wrap64; omega))).mono ?_; rintro e w48 ⟨rfl, hb⟩
        clear fq1 fq2 fq3
        replace Bq := Lib.hid (heap_keep hb Bq.out)
        replace Bm := Lib.hid (heap_keep hb Bm.out)
        replace HB := Lib.hid (nx HB.out hb)
        clear hb
        replace Bq := Lib.hid (heap_keep (allocB w48 (.cells #[.string X1, .string X2] 25 (0, 0))) Bq.out)
        replace Bm := Lib.hid (heap_keep (allocB w48 (.cells #[.string X1, .string X2] 25 (0, 0))) Bm.out)
        have Bx := Lib.hid (heap_alloc_at w48 (.cells #[.string X1, .string X2] 25 (0, 0)))
        replace HB := Lib.hid (nxAlloc HB.out (.cells #[.string X1, .string X2] 25 (0, 0)))
        obtain ⟨fm1, fm2, fm3⟩ := two_facts Bm.out
        obtain ⟨fq1, fq2, fq3⟩ := two_facts Bq.out
        go_wp2_with fail
        refine (g2 _).mono ?_; rintro e w49 ⟨rfl, hb⟩
        clear fm1 fm2 fm3 fq1 fq2 fq3
        replace Bq := Lib.hid (heap_keep hb Bq.out)
        replace Bm := Lib.hid (heap_keep hb Bm.out)
        replace Bx := Lib.hid (heap_keep hb Bx.out)
        replace HB := Lib.hid (nx HB.out hb)
        clear hb
        replace Bq := Lib.hid (heap_keep (allocB w49 (.cells #[.string Y1, .string Y2] 25 (0, 0))) Bq.out)
        replace Bm := Lib.hid (heap_keep (allocB w49 (.cells #[.string Y1, .string Y2] 25 (0, 0))) Bm.out)
        replace Bx := Lib.hid (heap_keep (allocB w49 (.cells #[.string Y1, .string Y2] 25 (0, 0))) Bx.out)
        have By := Lib.hid (heap_alloc_at w49 (.cells #[.string Y1, .string Y2] 25 (0, 0)))
        replace HB := Lib.hid (nxAlloc HB.out (.cells #[.string Y1, .string Y2] 25 (0, 0)))
        clear g1 g2
        go_upto_region 31 with fail
        obtain ⟨m01, m02, m03⟩ := two_facts Bx.out
        obtain ⟨m11, m12, m13⟩ := two_facts By.out
        obtain ⟨m21, m22, m23⟩ := two_facts Bm.out
        refine wp_cut (fun (a : Act) (wx : World) => a.tmps.size = 308 ∧ a.defers = [] ∧ a.tmps.getD 0 undef = .slice c.a c.n c.cap ∧ a.tmps.getD 1 undef = .slice d.a d.n d.cap ∧ a.tmps.getD 247 undef = .bool false ∧ Hid (Below W.heap.size W wx)) ?rest1 ?first1
        case first1 =>
          intro JJ KK hJJ hKK
          rcases hc with ⟨rfl, hk⟩ | ⟨rfl, rfl, rfl, rfl, hk⟩ | ⟨rfl, rfl, rfl, rfl, rfl, rfl, rfl⟩
          · refine wp_region_held_drew (S := (fun (w' : World) => w'.cell? ⟨w48.heap.size, 0, none⟩ = some (.string X1) ∧ w'.cell? ⟨w48.heap.size, 1, none⟩ = some (.string X2) ∧ w'.cell? ⟨w49.heap.size, 0, none⟩ = some (.string Y1) ∧ w'.cell? ⟨w49.heap.size, 1, none⟩ = some (.string Y2) ∧ w'.cell? ⟨w46.heap.size, 0, none⟩ = some (.string y1) ∧ w'.cell? ⟨w46.heap.size, 1, none⟩ = some (.string y2))) (by kernel_rfl) ⟨m01, m02, m11, m12, m21, m22⟩ (fun hH0 => ?_)
            refine wpAnyH_take (i := 0) (oi := ?oi201) (v := ?vv201) ?hi201 ?hn201 ?hf201 ?hr201 ?hq201 (Or.inl ⟨?hg201, ?hy201⟩) hH0 ?rest201
            case hi201 => (simp only [List.getElem?_toArray, List.getElem?_cons_zero]; rfl)
            case hn201 => kernel_rfl
            case hf201 => kernel_rfl
            case hr201 => kernel_rfl
            case hg201 => rfl
            case hy201 => (intro w hSw; (try dsimp only at hSw); go_simp; first | done | with_reducible rfl)
            case hq201 => exact fun _ _ _ h => h
            try simp only [Act.put, List.setIfInBounds_toArray, List.set_cons_zero, List.set_cons_succ]
            refine wpAnyH_take (i := 1) (oi := ?oi202) (v := ?vv202) ?hi202 ?hn202 ?hf202 ?hr202 ?hq202 (Or.inl ⟨?hg202, ?hy202⟩) hH0 ?rest202
            case hi202 => (simp only [List.getElem?_toArray, List.getElem?_cons_succ, List.getElem?_cons_zero]; rfl)
            case hn202 => kernel_rfl
            case hf202 => kernel_rfl
            case hr202 => kernel_rfl
            case hg202 => rfl
            case hy202 => (intro w hSw; (try dsimp only at hSw); go_simp; first | done | with_reducible rfl)
            case hq202 => exact fun _ _ _ h => h
            try simp only [Act.put, List.setIfInBounds_toArray, List.set_cons_zero, List.set_cons_succ]
            refine wpAnyH_take (i := 2) (oi := ?oi203) (v := undef) ?hi203 ?hn203 ?hf203 ?hr203 ?hq203 (Or.inr ⟨?hg203, rfl⟩) hH0 ?rest203
            case hi203 => (simp only [List.getElem?_toArray, List.getElem?_cons_succ, List.getElem?_cons_zero]; rfl)
            case hn203 => kernel_rfl
            case hf203 => kernel_rfl
            case hr203 => kernel_rfl
            case hg203 => rfl
            case hq203 => exact fun _ _ _ h => h
            try simp only [Act.put, List.setIfInBounds_toArray, List.set_cons_zero, List.set_cons_succ]
            refine wpAnyH_take (i := 3) (oi := ?oi204) (v := undef) ?hi204 ?hn204 ?hf204 ?hr204 ?hq204 (Or.inr ⟨?hg204, rfl⟩) hH0 ?rest204
            case hi204 => (simp only [List.getElem?_toArray, List.getElem?_cons_succ, List.getElem?_cons_zero]; rfl)
            case hn204 => kernel_rfl
            case hf204 => kernel_rfl
            case hr204 => kernel_rfl
            case hg204 => rfl
            case hq204 => exact fun _ _ _ h => h
            try simp only [Act.put, List.setIfInBounds_toArray, List.set_cons_zero, List.set_cons_succ]
            refine wpAnyH_take (i := 4) (oi := ?oi205) (v := undef) ?hi205 ?hn205 ?hf205 ?hr205 ?hq205 (Or.inr ⟨?hg205, rfl⟩) hH0 ?rest205
            case hi205 => (simp only [List.getElem?_toArray, List.getElem?_cons_succ, List.getElem?_cons_zero]; rfl)
            case hn205 => kernel_rfl
            case hf205 => kernel_rfl
            case hr205 => kernel_rfl
            case hg205 => rfl
            case hq205 => exact fun _ _ _ h => h
            try simp only [Act.put, List.setIfInBounds_toArray, List.set_cons_zero, List.set_cons_succ]
            refine wpAnyH_take (i := 5) (oi := ?oi206) (v := undef) ?hi206 ?hn206 ?hf206 ?hr206 ?hq206 (Or.inr ⟨?hg206, rfl⟩) hH0 ?rest206
            case hi206 => (simp only [List.getElem?_toArray, List.getElem?_cons_succ, List.getElem?_cons_zero]; rfl)
            case hn206 => kernel_rfl
            case hf206 => kernel_rfl
            case hr206 => kernel_rfl
            case hg206 => rfl
            case hq206 => exact fun _ _ _ h => h
            try simp only [Act.put, List.setIfInBounds_toArray, List.set_cons_zero, List.set_cons_succ]
            refine wpAnyH_take (i := 6) (oi := ?oi207) (v := undef) ?hi207 ?hn207 ?hf207 ?hr207 ?hq207 (Or.inr ⟨?hg207, rfl⟩) hH0 ?rest207
            case hi207 => (simp only [List.getElem?_toArray, List.getElem?_cons_succ, List.getElem?_cons_zero]; rfl)
            case hn207 => kernel_rfl
            case hf207 => kernel_rfl
            case hr207 => kernel_rfl
            case hg207 => rfl
            case hq207 => exact fun _ _ _ h => h
            try simp only [Act.put, List.setIfInBounds_toArray, List.set_cons_zero, List.set_cons_succ]
            refine wpAnyH_take (i := 7) (oi := ?oi208) (v := undef) ?hi208 ?hn208 ?hf208 ?hr208 ?hq208 (Or.inr ⟨?hg208, rfl⟩) hH0 ?rest208
            case hi208 => (simp only [List.getElem?_toArray, List.getElem?_cons_succ, List.getElem?_cons_zero]; rfl)
            case hn208 => kernel_rfl
            case hf208 => kernel_rfl
            case hr208 => kernel_rfl
            case hg208 => rfl
            case hq208 => exact fun _ _ _ h => h
            try simp only [Act.put, List.setIfInBounds_toArray, List.set_cons_zero, List.set_cons_succ]
            refine wpAnyH_take (i := 8) (oi := ?oi209) (v := undef) ?hi209 ?hn209 ?hf209 ?hr209 ?hq209 (Or.inr ⟨?hg209, rfl⟩) hH0 ?rest209
            case hi209 => (simp only [List.getElem?_toArray, List.getElem?_cons_succ, List.getElem?_cons_zero]; rfl)
            case hn209 => kernel_rfl
            case hf209 => kernel_rfl
            case hr209 => kernel_rfl
            case hg209 => rfl
            case hq209 => exact fun _ _ _ h => h
            try simp only [Act.put, List.setIfInBounds_toArray, List.set_cons_zero, List.set_cons_succ]
            refine wpAnyH_take (i := 9) (oi := ?oi210) (v := ?vv210) ?hi210 ?hn210 ?hf210 ?hr210 ?hq210 (Or.inl ⟨?hg210, ?hy210⟩) hH0 ?rest210
            case hi210 => (simp only [List.getElem?_toArray, List.getElem?_cons_succ, List.getElem?_cons_zero]; rfl)
            case hn210 => kernel_rfl
            case hf210 => kernel_rfl
            case hr210 => kernel_rfl
            case hg210 => rfl
            case hy210 => (intro w hSw; (try dsimp only at hSw); go_simp; first | done | with_reducible rfl)
            case hq210 => exact fun _ _ _ h => h
            try simp only [Act.put, List.setIfInBounds_toArray, List.set_cons_zero, List.set_cons_succ]
            refine wpAnyH_take (i := 10) (oi := ?oi211) (v := ?vv211) ?hi211 ?hn211 ?hf211 ?hr211 ?hq211 (Or.inl ⟨?hg211, ?hy211⟩) hH0 ?rest211
            case hi211 => (simp only [List.getElem?_toArray, List.getElem?_cons_succ, List.getElem?_cons_zero]; rfl)
            case hn211 => kernel_rfl
            case hf211 => kernel_rfl
            case hr211 => kernel_rfl
            case hg211 => rfl
            case hy211 => (intro w hSw; (try dsimp only at hSw); go_simp; first | done | with_reducible rfl)
            case hq211 => exact fun _ _ _ h => h
            try simp only [Act.put, List.setIfInBounds_toArray, List.set_cons_zero, List.set_cons_succ]
            refine wpAnyH_take (i := 11) (oi := ?oi212) (v := ?vv212) ?hi212 ?hn212 ?hf212 ?hr212 ?hq212 (Or.inl ⟨?hg212, ?hy212⟩) hH0 ?rest212
            case hi212 => (simp only [List.getElem?_toArray, List.getElem?_cons_succ, List.getElem?_cons_zero]; rfl)
            case hn212 => kernel_rfl
            case hf212 => kernel_rfl
            case hr212 => kernel_rfl
            case hg212 => rfl
            case hy212 => (intro w hSw; (try dsimp only at hSw); go_simp; first | done | with_reducible rfl)
            case hq212 => exact fun _ _ _ h => h
            try simp only [Act.put, List.setIfInBounds_toArray, List.set_cons_zero, List.set_cons_succ]
            refine wpAnyH_take (i := 12) (oi := ?oi213) (v := ?vv213) ?hi213 ?hn213 ?hf213 ?hr213 ?hq213 (Or.inl ⟨?hg213, ?hy213⟩) hH0 ?rest213
            case hi213 => (simp only [List.getElem?_toArray, List.getElem?_cons_succ, List.getElem?_cons_zero]; rfl)
            case hn213 => kernel_rfl
            case hf213 => kernel_rfl
            case hr213 => kernel_rfl
            case hg213 => rfl
            case hy213 => (intro w hSw; (try dsimp only at hSw); go_simp; first | done | with_reducible rfl)
            case hq213 => exact fun _ _ _ h => h
            try simp only [Act.put, List.setIfInBounds_toArray, List.set_cons_zero, List.set_cons_succ]
            refine wpAnyH_take (i := 13) (oi := ?oi214) (v := ?vv214) ?hi214 ?hn214 ?hf214 ?hr214 ?hq214 (Or.inl ⟨?hg214, ?hy214⟩) hH0 ?rest214
            case hi214 => (simp only [List.getElem?_toArray, List.getElem?_cons_succ, List.getElem?_cons_zero]; rfl)
            case hn214 => kernel_rfl
            case hf214 => kernel_rfl
            case hr214 => kernel_rfl
            case hg214 => rfl
            case hy214 => (intro w hSw; (try dsimp only at hSw); go_simp; first | done | with_reducible rfl)
            case hq214 => exact fun _ _ _ h => h
            try simp only [Act.put, List.setIfInBounds_toArray, List.set_cons_zero, List.set_cons_succ]
            refine wpAnyH_take (i := 14) (oi := ?oi215) (v := undef) ?hi215 ?hn215 ?hf215 ?hr215 ?hq215 (Or.inr ⟨?hg215, rfl⟩) hH0 ?rest215
            case hi215 => (simp only [List.getElem?_toArray, List.getElem?_cons_succ, List.getElem?_cons_zero]; rfl)
            case hn215 => kernel_rfl
            case hf215 => kernel_rfl
            case hr215 => kernel_rfl
            case hg215 => rfl
            case hq215 => exact fun _ _ _ h => h
            try simp only [Act.put, List.setIfInBounds_toArray, List.set_cons_zero, List.set_cons_succ]
            refine wpAnyH_take (i := 15) (oi := ?oi216) (v := undef) ?hi216 ?hn216 ?hf216 ?hr216 ?hq216 (Or.inr ⟨?hg216, rfl⟩) hH0 ?rest216
            case hi216 => (simp only [List.getElem?_toArray, List.getElem?_cons_succ, List.getElem?_cons_zero]; rfl)
            case hn216 => kernel_rfl
            case hf216 => kernel_rfl
            case hr216 => kernel_rfl
            case hg216 => rfl
            case hq216 => exact fun _ _ _ h => h
            try simp only [Act.put, List.setIfInBounds_toArray, List.set_cons_zero, List.set_cons_succ]
            refine wpAnyH_take (i := 16) (oi := ?oi217) (v := undef) ?hi217 ?hn217 ?hf217 ?hr217 ?hq217 (Or.inr ⟨?hg217, rfl⟩) hH0 ?rest217
            case hi217 => (simp only [List.getElem?_toArray, List.getElem?_cons_succ, List.getElem?_cons_zero]; rfl)
            case hn217 => kernel_rfl
            case hf217 => kernel_rfl
            case hr217 => kernel_rfl
            case hg217 => rfl
            case hq217 => exact fun _ _ _ h => h
            try simp only [Act.put, List.setIfInBounds_toArray, List.set_cons_zero, List.set_cons_succ]
            refine wpAnyH_take (i := 17) (oi := ?oi218) (v := ?vv218) ?hi218 ?hn218 ?hf218 ?hr218 ?hq218 (Or.inl ⟨?hg218, ?hy218⟩) hH0 ?rest218
            case hi218 => (simp only [List.getElem?_toArray, List.getElem?_cons_succ, List.getElem?_cons_zero]; rfl)
            case hn218 => kernel_rfl
            case hf218 => kernel_rfl
            case hr218 => kernel_rfl
            case hg218 => rfl
            case hy218 => (intro w hSw; (try dsimp only at hSw); go_simp; first | done | with_reducible rfl)
            case hq218 => exact fun _ _ _ h => h
            try simp only [Act.put, List.setIfInBounds_toArray, List.set_cons_zero, List.set_cons_succ]
            refine wpAnyH_take (i := 18) (oi := ?oi219) (v := ?vv219) ?hi219 ?hn219 ?hf219 ?hr219 ?hq219 (Or.inl ⟨?hg219, ?hy219⟩) hH0 ?rest219
            case hi219 => (simp only [List.getElem?_toArray, List.getElem?_cons_succ, List.getElem?_cons_zero]; rfl)
            case hn219 => kernel_rfl
            case hf219 => kernel_rfl
            case hr219 => kernel_rfl
            case hg219 => rfl
            case hy219 => (intro w hSw; (try dsimp only at hSw); go_simp; first | done | with_reducible rfl)
            case hq219 => exact fun _ _ _ h => h
            try simp only [Act.put, List.setIfInBounds_toArray, List.set_cons_zero, List.set_cons_succ]
            refine wpAnyH_done (by kernel_rfl) ?_ _
            try simp only [List.setIfInBounds_toArray, List.set_cons_zero, List.set_cons_succ]
            go_wp2_with fail
            exact Met.intro (hJJ _ _ ⟨rfl, rfl, rfl, rfl, rfl, Lib.hid HB.out.drew⟩)
          · refine wp_region_held_drew (S := (fun (w' : World) => w'.cell? ⟨w48.heap.size, 0, none⟩ = some (.string X1) ∧ w'.cell? ⟨w48.heap.size, 1, none⟩ = some (.string X2) ∧ w'.cell? ⟨w49.heap.size, 0, none⟩ = some (.string X1) ∧ w'.cell? ⟨w49.heap.size, 1, none⟩ = some (.string X2) ∧ w'.cell? ⟨w46.heap.size, 0, none⟩ = some (.string y1) ∧ w'.cell? ⟨w46.heap.size, 1, none⟩ = some (.string y2))) (by kernel_rfl) ⟨m01, m02, m11, m12, m21, m22⟩ (fun hH0 => ?_)
            refine wpAnyH_take (i := 0) (oi := ?oi401) (v := ?vv401) ?hi401 ?hn401 ?hf401 ?hr401 ?hq401 (Or.inl ⟨?hg401, ?hy401⟩) hH0 ?rest401
            case hi401 => (simp only [List.getElem?_toArray, List.getElem?_cons_zero]; rfl)
            case hn401 => kernel_rfl
            case hf401 => kernel_rfl
            case hr401 => kernel_rfl
            case hg401 => rfl
            case hy401 => (intro w hSw; (try dsimp only at hSw); go_simp; first | done | with_reducible rfl)
            case hq401 => exact fun _ _ _ h => h
            try simp only [Act.put, List.setIfInBounds_toArray, List.set_cons_zero, List.set_cons_succ]
            refine wpAnyH_take (i := 1) (oi := ?oi402) (v := ?vv402) ?hi402 ?hn402 ?hf402 ?hr402 ?hq402 (Or.inl ⟨?hg402, ?hy402⟩) hH0 ?rest402
            case hi402 => (simp only [List.getElem?_toArray, List.getElem?_cons_succ, List.getElem?_cons_zero]; rfl)
            case hn402 => kernel_rfl
            case hf402 => kernel_rfl
            case hr402 => kernel_rfl
            case hg402 => rfl
            case hy402 => (intro w hSw; (try dsimp only at hSw); go_simp; first | done | with_reducible rfl)
            case hq402 => exact fun _ _ _ h => h
            try simp only [Act.put, List.setIfInBounds_toArray, List.set_cons_zero, List.set_cons_succ]
            refine wpAnyH_take (i := 2) (oi := ?oi403) (v := ?vv403) ?hi403 ?hn403 ?hf403 ?hr403 ?hq403 (Or.inl ⟨?hg403, ?hy403⟩) hH0 ?rest403
            case hi403 => (simp only [List.getElem?_toArray, List.getElem?_cons_succ, List.getElem?_cons_zero]; rfl)
            case hn403 => kernel_rfl
            case hf403 => kernel_rfl
            case hr403 => kernel_rfl
            case hg403 => rfl
            case hy403 => (intro w hSw; (try dsimp only at hSw); go_simp; first | done | with_reducible rfl)
            case hq403 => exact fun _ _ _ h => h
            try simp only [Act.put, List.setIfInBounds_toArray, List.set_cons_zero, List.set_cons_succ]
            refine wpAnyH_take (i := 3) (oi := ?oi404) (v := ?vv404) ?hi404 ?hn404 ?hf404 ?hr404 ?hq404 (Or.inl ⟨?hg404, ?hy404⟩) hH0 ?rest404
            case hi404 => (simp only [List.getElem?_toArray, List.getElem?_cons_succ, List.getElem?_cons_zero]; rfl)
            case hn404 => kernel_rfl
            case hf404 => kernel_rfl
            case hr404 => kernel_rfl
            case hg404 => rfl
            case hy404 => (intro w hSw; (try dsimp only at hSw); go_simp; first | done | with_reducible rfl)
            case hq404 => exact fun _ _ _ h => h
            try simp only [Act.put, List.setIfInBounds_toArray, List.set_cons_zero, List.set_cons_succ]
            refine wpAnyH_take (i := 4) (oi := ?oi405) (v := ?vv405) ?hi405 ?hn405 ?hf405 ?hr405 ?hq405 (Or.inl ⟨?hg405, ?hy405⟩) hH0 ?rest405
            case hi405 => (simp only [List.getElem?_toArray, List.getElem?_cons_succ, List.getElem?_cons_zero]; rfl)
            case hn405 => kernel_rfl
            case hf405 => kernel_rfl
            case hr405 => kernel_rfl
            case hg405 => rfl
            case hy405 => (intro w hSw; (try dsimp only at hSw); go_simp; first | done | with_reducible rfl)
            case hq405 => exact fun _ _ _ h => h
            try simp only [Act.put, List.setIfInBounds_toArray, List.set_cons_zero, List.set_cons_succ]
            refine wpAnyH_take (i := 5) (oi := ?oi406) (v := ?vv406) ?hi406 ?hn406 ?hf406 ?hr406 ?hq406 (Or.inl ⟨?hg406, ?hy406⟩) hH0 ?rest406
            case hi406 => (simp only [List.getElem?_toArray, List.getElem?_cons_succ, List.getElem?_cons_zero]; rfl)
            case hn406 => kernel_rfl
            case hf406 => kernel_rfl
            case hr406 => kernel_rfl
            case hg406 => rfl
            case hy406 => (intro w hSw; (try dsimp only at hSw); go_simp; first | done | with_reducible rfl)
            case hq406 => exact fun _ _ _ h => h
            try simp only [Act.put, List.setIfInBounds_toArray, List.set_cons_zero, List.set_cons_succ]
            refine wpAnyH_take (i := 6) (oi := ?oi407) (v := ?vv407) ?hi407 ?hn407 ?hf407 ?hr407 ?hq407 (Or.inl ⟨?hg407, ?hy407⟩) hH0 ?rest407
            case hi407 => (simp only [List.getElem?_toArray, List.getElem?_cons_succ, List.getElem?_cons_zero]; rfl)
            case hn407 => kernel_rfl
            case hf407 => kernel_rfl
            case hr407 => kernel_rfl
            case hg407 => rfl
            case hy407 => (intro w hSw; (try dsimp only at hSw); go_simp; first | done | with_reducible rfl)
            case hq407 => exact fun _ _ _ h => h
            try simp only [Act.put, List.setIfInBounds_toArray, List.set_cons_zero, List.set_cons_succ]
            refine wpAnyH_take (i := 7) (oi := ?oi408) (v := ?vv408) ?hi408 ?hn408 ?hf408 ?hr408 ?hq408 (Or.inl ⟨?hg408, ?hy408⟩) hH0 ?rest408
            case hi408 => (simp only [List.getElem?_toArray, List.getElem?_cons_succ, List.getElem?_cons_zero]; rfl)
            case hn408 => kernel_rfl
            case hf408 => kernel_rfl
            case hr408 => kernel_rfl
            case hg408 => rfl
            case hy408 => (intro w hSw; (try dsimp only at hSw); go_simp; first | done | with_reducible rfl)
            case hq408 => exact fun _ _ _ h => h
            try simp only [Act.put, List.setIfInBounds_toArray, List.set_cons_zero, List.set_cons_succ]
            refine wpAnyH_take (i := 8) (oi := ?oi409) (v := ?vv409) ?hi409 ?hn409 ?hf409 ?hr409 ?hq409 (Or.inl ⟨?hg409, ?hy409⟩) hH0 ?rest409
            case hi409 => (simp only [List.getElem?_toArray, List.getElem?_cons_succ, List.getElem?_cons_zero]; rfl)
            case hn409 => kernel_rfl
            case hf409 => kernel_rfl
            case hr409 => kernel_rfl
            case hg409 => rfl
            case hy409 => (intro w hSw; (try dsimp only at hSw); go_simp; first | done | with_reducible rfl)
            case hq409 => exact fun _ _ _ h => h
            try simp only [Act.put, List.setIfInBounds_toArray, List.set_cons_zero, List.set_cons_succ]
            refine wpAnyH_take (i := 9) (oi := ?oi410) (v := ?vv410) ?hi410 ?hn410 ?hf410 ?hr410 ?hq410 (Or.inl ⟨?hg410, ?hy410⟩) hH0 ?rest410
            case hi410 => (simp only [List.getElem?_toArray, List.getElem?_cons_succ, List.getElem?_cons_zero]; rfl)
            case hn410 => kernel_rfl
            case hf410 => kernel_rfl
            case hr410 => kernel_rfl
            case hg410 => rfl
            case hy410 => (intro w hSw; (try dsimp only at hSw); go_simp; first | done | with_reducible rfl)
            case hq410 => exact fun _ _ _ h => h
            try simp only [Act.put, List.setIfInBounds_toArray, List.set_cons_zero, List.set_cons_succ]
            refine wpAnyH_take (i := 10) (oi := ?oi411) (v := ?vv411) ?hi411 ?hn411 ?hf411 ?hr411 ?hq411 (Or.inl ⟨?hg411, ?hy411⟩) hH0 ?rest411
            case hi411 => (simp only [List.getElem?_toArray, List.getElem?_cons_succ, List.getElem?_cons_zero]; rfl)
            case hn411 => kernel_rfl
            case hf411 => kernel_rfl
            case hr411 => kernel_rfl
            case hg411 => rfl
            case hy411 => (intro w hSw; (try dsimp only at hSw); go_simp; first | done | with_reducible rfl)
            case hq411 => exact fun _ _ _ h => h
            try simp only [Act.put, List.setIfInBounds_toArray, List.set_cons_zero, List.set_cons_succ]
            refine wpAnyH_take (i := 11) (oi := ?oi412) (v := ?vv412) ?hi412 ?hn412 ?hf412 ?hr412 ?hq412 (Or.inl ⟨?hg412, ?hy412⟩) hH0 ?rest412
            case hi412 => (simp only [List.getElem?_toArray, List.getElem?_cons_succ, List.getElem?_cons_zero]; rfl)
            case hn412 => kernel_rfl
            case hf412 => kernel_rfl
            case hr412 => kernel_rfl
            case hg412 => rfl
            case hy412 => (intro w hSw; (try dsimp only at hSw); go_simp; first | done | with_reducible rfl)
            case hq412 => exact fun _ _ _ h => h
            try simp only [Act.put, List.setIfInBounds_toArray, List.set_cons_zero, List.set_cons_succ]
            refine wpAnyH_take (i := 12) (oi := ?oi413) (v := ?vv413) ?hi413 ?hn413 ?hf413 ?hr413 ?hq413 (Or.inl ⟨?hg413, ?hy413⟩) hH0 ?rest413
            case hi413 => (simp only [List.getElem?_toArray, List.getElem?_cons_succ, List.getElem?_cons_zero]; rfl)
            case hn413 => kernel_rfl
            case hf413 => kernel_rfl
            case hr413 => kernel_rfl
            case hg413 => rfl
            case hy413 => (intro w hSw; (try dsimp only at hSw); go_simp; first | done | with_reducible rfl)
            case hq413 => exact fun _ _ _ h => h
            try simp only [Act.put, List.setIfInBounds_toArray, List.set_cons_zero, List.set_cons_succ]
            refine wpAnyH_take (i := 13) (oi := ?oi414) (v := ?vv414) ?hi414 ?hn414 ?hf414 ?hr414 ?hq414 (Or.inl ⟨?hg414, ?hy414⟩) hH0 ?rest414
            case hi414 => (simp only [List.getElem?_toArray, List.getElem?_cons_succ, List.getElem?_cons_zero]; rfl)
            case hn414 => kernel_rfl
            case hf414 => kernel_rfl
            case hr414 => kernel_rfl
            case hg414 => rfl
            case hy414 => (intro w hSw; (try dsimp only at hSw); go_simp; first | done | with_reducible rfl)
            case hq414 => exact fun _ _ _ h => h
            try simp only [Act.put, List.setIfInBounds_toArray, List.set_cons_zero, List.set_cons_succ]
            refine wpAnyH_take (i := 14) (oi := ?oi415) (v := undef) ?hi415 ?hn415 ?hf415 ?hr415 ?hq415 (Or.inr ⟨?hg415, rfl⟩) hH0 ?rest415
            case hi415 => (simp only [List.getElem?_toArray, List.getElem?_cons_succ, List.getElem?_cons_zero]; rfl)
            case hn415 => kernel_rfl
            case hf415 => kernel_rfl
            case hr415 => kernel_rfl
            case hg415 => rfl
            case hq415 => exact fun _ _ _ h => h
            try simp only [Act.put, List.setIfInBounds_toArray, List.set_cons_zero, List.set_cons_succ]
            refine wpAnyH_take (i := 15) (oi := ?oi416) (v := undef) ?hi416 ?hn416 ?hf416 ?hr416 ?hq416 (Or.inr ⟨?hg416, rfl⟩) hH0 ?rest416
            case hi416 => (simp only [List.getElem?_toArray, List.getElem?_cons_succ, List.getElem?_cons_zero]; rfl)
            case hn416 => kernel_rfl
            case hf416 => kernel_rfl
            case hr416 => kernel_rfl
            case hg416 => rfl
            case hq416 => exact fun _ _ _ h => h
            try simp only [Act.put, List.setIfInBounds_toArray, List.set_cons_zero, List.set_cons_succ]
            refine wpAnyH_take (i := 16) (oi := ?oi417) (v := undef) ?hi417 ?hn417 ?hf417 ?hr417 ?hq417 (Or.inr ⟨?hg417, rfl⟩) hH0 ?rest417
            case hi417 => (simp only [List.getElem?_toArray, List.getElem?_cons_succ, List.getElem?_cons_zero]; rfl)
            case hn417 => kernel_rfl
            case hf417 => kernel_rfl
            case hr417 => kernel_rfl
            case hg417 => rfl
            case hq417 => exact fun _ _ _ h => h
            try simp only [Act.put, List.setIfInBounds_toArray, List.set_cons_zero, List.set_cons_succ]
            refine wpAnyH_take (i := 17) (oi := ?oi418) (v := ?vv418) ?hi418 ?hn418 ?hf418 ?hr418 ?hq418 (Or.inl ⟨?hg418, ?hy418⟩) hH0 ?rest418
            case hi418 => (simp only [List.getElem?_toArray, List.getElem?_cons_succ, List.getElem?_cons_zero]; rfl)
            case hn418 => kernel_rfl
            case hf418 => kernel_rfl
            case hr418 => kernel_rfl
            case hg418 => rfl
            case hy418 => (intro w hSw; (try dsimp only at hSw); go_simp; first | done | with_reducible rfl)
            case hq418 => exact fun _ _ _ h => h
            try simp only [Act.put, List.setIfInBounds_toArray, List.set_cons_zero, List.set_cons_succ]
            refine wpAnyH_take (i := 18) (oi := ?oi419) (v := ?vv419) ?hi419 ?hn419 ?hf419 ?hr419 ?hq419 (Or.inl ⟨?hg419, ?hy419⟩) hH0 ?rest419
            case hi419 => (simp only [List.getElem?_toArray, List.getElem?_cons_succ, List.getElem?_cons_zero]; rfl)
            case hn419 => kernel_rfl
            case hf419 => kernel_rfl
            case hr419 => kernel_rfl
            case hg419 => rfl
            case hy419 => (intro w hSw; (try dsimp only at hSw); go_simp; first | done | with_reducible rfl)
            case hq419 => exact fun _ _ _ h => h
            try simp only [Act.put, List.setIfInBounds_toArray, List.set_cons_zero, List.set_cons_succ]
            refine wpAnyH_done (by kernel_rfl) ?_ _
            try simp only [List.setIfInBounds_toArray, List.set_cons_zero, List.set_cons_succ]
            go_wp2_with fail
            exact Met.intro (hJJ _ _ ⟨rfl, rfl, rfl, rfl, rfl, Lib.hid HB.out.drew⟩)
          · refine wp_region_held_drew (S := (fun (w' : World) => w'.cell? ⟨w48.heap.size, 0, none⟩ = some (.string X1) ∧ w'.cell? ⟨w48.heap.size, 1, none⟩ = some (.string X2) ∧ w'.cell? ⟨w49.heap.size, 0, none⟩ = some (.string X1) ∧ w'.cell? ⟨w49.heap.size, 1, none⟩ = some (.string X2) ∧ w'.cell? ⟨w46.heap.size, 0, none⟩ = some (.string Tr.lf.str) ∧ w'.cell? ⟨w46.heap.size, 1, none⟩ = some (.string Tr.lf.str))) (by kernel_rfl) ⟨m01, m02, m11, m12, m21, m22⟩ (fun hH0 => ?_)
            refine wpAnyH_take (i := 0) (oi := ?oi601) (v := ?vv601) ?hi601 ?hn601 ?hf601 ?hr601 ?hq601 (Or.inl ⟨?hg601, ?hy601⟩) hH0 ?rest601
            case hi601 => (simp only [List.getElem?_toArray, List.getElem?_cons_zero]; rfl)
            case hn601 => kernel_rfl
            case hf601 => kernel_rfl
            case hr601 => kernel_rfl
            case hg601 => rfl
            case hy601 => (intro w hSw; (try dsimp only at hSw); go_simp; first | done | with_reducible rfl)
            case hq601 => exact fun _ _ _ h => h
            try simp only [Act.put, List.setIfInBounds_toArray, List.set_cons_zero, List.set_cons_succ]
            refine wpAnyH_take (i := 1) (oi := ?oi602) (v := ?vv602) ?hi602 ?hn602 ?hf602 ?hr602 ?hq602 (Or.inl ⟨?hg602, ?hy602⟩) hH0 ?rest602
            case hi602 => (simp only [List.getElem?_toArray, List.getElem?_cons_succ, List.getElem?_cons_zero]; rfl)
            case hn602 => kernel_rfl
            case hf602 => kernel_rfl
            case hr602 => kernel_rfl
            case hg602 => rfl
            case hy602 => (intro w hSw; (try dsimp only at hSw); go_simp; first | done | with_reducible rfl)
            case hq602 => exact fun _ _ _ h => h
            try simp only [Act.put, List.setIfInBounds_toArray, List.set_cons_zero, List.set_cons_succ]
            refine wpAnyH_take (i := 2) (oi := ?oi603) (v := ?vv603) ?hi603 ?hn603 ?hf603 ?hr603 ?hq603 (Or.inl ⟨?hg603, ?hy603⟩) hH0 ?rest603
            case hi603 => (simp only [List.getElem?_toArray, List.getElem?_cons_succ, List.getElem?_cons_zero]; rfl)
            case hn603 => kernel_rfl
            case hf603 => kernel_rfl
            case hr603 => kernel_rfl
            case hg603 => rfl
            case hy603 => (intro w hSw; (try dsimp only at hSw); go_simp; first | done | with_reducible rfl)
            case hq603 => exact fun _ _ _ h => h
            try simp only [Act.put, List.setIfInBounds_toArray, List.set_cons_zero, List.set_cons_succ]
            refine wpAnyH_take (i := 3) (oi := ?oi604) (v := ?vv604) ?hi604 ?hn604 ?hf604 ?hr604 ?hq604 (Or.inl ⟨?hg604, ?hy604⟩) hH0 ?rest604
            case hi604 => (simp only [List.getElem?_toArray, List.getElem?_cons_succ, List.getElem?_cons_zero]; rfl)
            case hn604 => kernel_rfl
            case hf604 => kernel_rfl
            case hr604 => kernel_rfl
            case hg604 => rfl
            case hy604 => (intro w hSw; (try dsimp only at hSw); go_simp; first | done | with_reducible rfl)
            case hq604 => exact fun _ _ _ h => h
            try simp only [Act.put, List.setIfInBounds_toArray, List.set_cons_zero, List.set_cons_succ]
            refine wpAnyH_take (i := 4) (oi := ?oi605) (v := ?vv605) ?hi605 ?hn605 ?hf605 ?hr605 ?hq605 (Or.inl ⟨?hg605, ?hy605⟩) hH0 ?rest605
            case hi605 => (simp only [List.getElem?_toArray, List.getElem?_cons_succ, List.getElem?_cons_zero]; rfl)
            case hn605 => kernel_rfl
            case hf605 => kernel_rfl
            case hr605 => kernel_rfl
            case hg605 => rfl
            case hy605 => (intro w hSw; (try dsimp only at hSw); go_simp; first | done | with_reducible rfl)
            case hq605 => exact fun _ _ _ h => h
            try simp only [Act.put, List.setIfInBounds_toArray, List.set_cons_zero, List.set_cons_succ]
            refine wpAnyH_take (i := 5) (oi := ?oi606) (v := ?vv606) ?hi606 ?hn606 ?hf606 ?hr606 ?hq606 (Or.inl ⟨?hg606, ?hy606⟩) hH0 ?rest606
            case hi606 => (simp only [List.getElem?_toArray, List.getElem?_cons_succ, List.getElem?_cons_zero]; rfl)
            case hn606 => kernel_rfl
            case hf606 => kernel_rfl
            case hr606 => kernel_rfl
            case hg606 => rfl
            case hy606 => (intro w hSw; (try dsimp only at hSw); go_simp; first | done | with_reducible rfl)
            case hq606 => exact fun _ _ _ h => h
            try simp only [Act.put, List.setIfInBounds_toArray, List.set_cons_zero, List.set_cons_succ]
            refine wpAnyH_take (i := 6) (oi := ?oi607) (v := ?vv607) ?hi607 ?hn607 ?hf607 ?hr607 ?hq607 (Or.inl ⟨?hg607, ?hy607⟩) hH0 ?rest607
            case hi607 => (simp only [List.getElem?_toArray, List.getElem?_cons_succ, List.getElem?_cons_zero]; rfl)
            case hn607 => kernel_rfl
            case hf607 => kernel_rfl
            case hr607 => kernel_rfl
            case hg607 => rfl
            case hy607 => (intro w hSw; (try dsimp only at hSw); go_simp; first | done | with_reducible rfl)
            case hq607 => exact fun _ _ _ h => h
            try simp only [Act.put, List.setIfInBounds_toArray, List.set_cons_zero, List.set_cons_succ]
            refine wpAnyH_take (i := 7) (oi := ?oi608) (v := ?vv608) ?hi608 ?hn608 ?hf608 ?hr608 ?hq608 (Or.inl ⟨?hg608, ?hy608⟩) hH0 ?rest608
            case hi608 => (simp only [List.getElem?_toArray, List.getElem?_cons_succ, List.getElem?_cons_zero]; rfl)
            case hn608 => kernel_rfl
            case hf608 => kernel_rfl
            case hr608 => kernel_rfl
            case hg608 => rfl
            case hy608 => (intro w hSw; (try dsimp only at hSw); go_simp; first | done | with_reducible rfl)
            case hq608 => exact fun _ _ _ h => h
            try simp only [Act.put, List.setIfInBounds_toArray, List.set_cons_zero, List.set_cons_succ]
            refine wpAnyH_take (i := 8) (oi := ?oi609) (v := ?vv609) ?hi609 ?hn609 ?hf609 ?hr609 ?hq609 (Or.inl ⟨?hg609, ?hy609⟩) hH0 ?rest609
            case hi609 => (simp only [List.getElem?_toArray, List.getElem?_cons_succ, List.getElem?_cons_zero]; rfl)
            case hn609 => kernel_rfl
            case hf609 => kernel_rfl
            case hr609 => kernel_rfl
            case hg609 => rfl
            case hy609 => (intro w hSw; (try dsimp only at hSw); go_simp; first | done | with_reducible rfl)
            case hq609 => exact fun _ _ _ h => h
            try simp only [Act.put, List.setIfInBounds_toArray, List.set_cons_zero, List.set_cons_succ]
            refine wpAnyH_take (i := 9) (oi := ?oi610) (v := ?vv610) ?hi610 ?hn610 ?hf610 ?hr610 ?hq610 (Or.inl ⟨?hg610, ?hy610⟩) hH0 ?rest610
            case hi610 => (simp only [List.getElem?_toArray, List.getElem?_cons_succ, List.getElem?_cons_zero]; rfl)
            case hn610 => kernel_rfl
            case hf610 => kernel_rfl
            case hr610 => kernel_rfl
            case hg610 => rfl
            case hy610 => (intro w hSw; (try dsimp only at hSw); go_simp; first | done | with_reducible rfl)
            case hq610 => exact fun _ _ _ h => h
            try simp only [Act.put, List.setIfInBounds_toArray, List.set_cons_zero, List.set_cons_succ]
            refine wpAnyH_take (i := 10) (oi := ?oi611) (v := ?vv611) ?hi611 ?hn611 ?hf611 ?hr611 ?hq611 (Or.inl ⟨?hg611, ?hy611⟩) hH0 ?rest611
            case hi611 => (simp only [List.getElem?_toArray, List.getElem?_cons_succ, List.getElem?_cons_zero]; rfl)
            case hn611 => kernel_rfl
            case hf611 => kernel_rfl
            case hr611 => kernel_rfl
            case hg611 => rfl
            case hy611 => (intro w hSw; (try dsimp only at hSw); go_simp; first | done | with_reducible rfl)
            case hq611 => exact fun _ _ _ h => h
            try simp only [Act.put, List.setIfInBounds_toArray, List.set_cons_zero, List.set_cons_succ]
            refine wpAnyH_take (i := 11) (oi := ?oi612) (v := ?vv612) ?hi612 ?hn612 ?hf612 ?hr612 ?hq612 (Or.inl ⟨?hg612, ?hy612⟩) hH0 ?rest612
            case hi612 => (simp only [List.getElem?_toArray, List.getElem?_cons_succ, List.getElem?_cons_zero]; rfl)
            case hn612 => kernel_rfl
            case hf612 => kernel_rfl
            case hr612 => kernel_rfl
            case hg612 => rfl
            case hy612 => (intro w hSw; (try dsimp only at hSw); go_simp; first | done | with_reducible rfl)
            case hq612 => exact fun _ _ _ h => h
            try simp only [Act.put, List.setIfInBounds_toArray, List.set_cons_zero, List.set_cons_succ]
            refine wpAnyH_take (i := 12) (oi := ?oi613) (v := ?vv613) ?hi613 ?hn613 ?hf613 ?hr613 ?hq613 (Or.inl ⟨?hg613, ?hy613⟩) hH0 ?rest613
            case hi613 => (simp only [List.getElem?_toArray, List.getElem?_cons_succ, List.getElem?_cons_zero]; rfl)
            case hn613 => kernel_rfl
            case hf613 => kernel_rfl
            case hr613 => kernel_rfl
            case hg613 => rfl
            case hy613 => (intro w hSw; (try dsimp only at hSw); go_simp; first | done | with_reducible rfl)
            case hq613 => exact fun _ _ _ h => h
            try simp only [Act.put, List.setIfInBounds_toArray, List.set_cons_zero, List.set_cons_succ]
            refine wpAnyH_take (i := 13) (oi := ?oi614) (v := ?vv614) ?hi614 ?hn614 ?hf614 ?hr614 ?hq614 (Or.inl ⟨?hg614, ?hy614⟩) hH0 ?rest614
            case hi614 => (simp only [List.getElem?_toArray, List.getElem?_cons_succ, List.getElem?_cons_zero]; rfl)
            case hn614 => kernel_rfl
            case hf614 => kernel_rfl
            case hr614 => kernel_rfl
            case hg614 => rfl
            case hy614 => (intro w hSw; (try dsimp only at hSw); go_simp; first | done | with_reducible rfl)
            case hq614 => exact fun _ _ _ h => h
            try simp only [Act.put, List.setIfInBounds_toArray, List.set_cons_zero, List.set_cons_succ]
            refine wpAnyH_take (i := 14) (oi := ?oi615) (v := ?vv615) ?hi615 ?hn615 ?hf615 ?hr615 ?hq615 (Or.inl ⟨?hg615, ?hy615⟩) hH0 ?rest615
            case hi615 => (simp only [List.getElem?_toArray, List.getElem?_cons_succ, List.getElem?_cons_zero]; rfl)
            case hn615 => kernel_rfl
            case hf615 => kernel_rfl
            case hr615 => kernel_rfl
            case hg615 => rfl
            case hy615 => (intro w hSw; (try dsimp only at hSw); go_simp; first | done | with_reducible rfl)
            case hq615 => exact fun _ _ _ h => h
            try simp only [Act.put, List.setIfInBounds_toArray, List.set_cons_zero, List.set_cons_succ]
            refine held_one 15 rfl (by kernel_rfl) (fun K hK => ?_)
            go_simp
            refine (identity_any (w49.alloc (.cells #[.string X1, .string X2] 25 (0, 0))).drew).mono ?_; rintro e w9 ⟨rfl, hb9⟩
            replace HB := Lib.hid (nx HB.out.drew hb9)
            go_wp2_with fail
            have hH1 : (fun (w' : World) => w'.cell? ⟨w48.heap.size, 0, none⟩ = some (.string X1) ∧ w'.cell? ⟨w48.heap.size, 1, none⟩ = some (.string X2) ∧ w'.cell? ⟨w49.heap.size, 0, none⟩ = some (.string X1) ∧ w'.cell? ⟨w49.heap.size, 1, none⟩ = some (.string X2) ∧ w'.cell? ⟨w46.heap.size, 0, none⟩ = some (.string Tr.lf.str) ∧ w'.cell? ⟨w46.heap.size, 1, none⟩ = some (.string Tr.lf.str)) _ := ⟨(hb9.cell (p := ⟨w48.heap.size, 0, none⟩) (World.block_lt_of_cell? _ _ m01)).trans m01, (hb9.cell (p := ⟨w48.heap.size, 1, none⟩) (World.block_lt_of_cell? _ _ m02)).trans m02, (hb9.cell (p := ⟨w49.heap.size, 0, none⟩) (World.block_lt_of_cell? _ _ m11)).trans m11, (hb9.cell (p := ⟨w49.heap.size, 1, none⟩) (World.block_lt_of_cell? _ _ m12)).trans m12, (hb9.cell (p := ⟨w46.heap.size, 0, none⟩) (World.block_lt_of_cell? _ _ m21)).trans m21, (hb9.cell (p := ⟨w46.heap.size, 1, none⟩) (World.block_lt_of_cell? _ _ m22)).trans m22⟩
            refine hK.out (fun (w' : World) => w'.cell? ⟨w48.heap.size, 0, none⟩ = some (.string X1) ∧ w'.cell? ⟨w48.heap.size, 1, none⟩ = some (.string X2) ∧ w'.cell? ⟨w49.heap.size, 0, none⟩ = some (.string X1) ∧ w'.cell? ⟨w49.heap.size, 1, none⟩ = some (.string X2) ∧ w'.cell? ⟨w46.heap.size, 0, none⟩ = some (.string Tr.lf.str) ∧ w'.cell? ⟨w46.heap.size, 1, none⟩ = some (.string Tr.lf.str)) _ _ (fun _ h => h) hH1 ?_
            clear hK K
            try simp only [Act.put, List.setIfInBounds_toArray, List.set_cons_zero, List.set_cons_succ]
            refine wpAnyH_take (i := 16) (oi := ?oi616) (v := ?vv616) ?hi616 ?hn616 ?hf616 ?hr616 ?hq616 (Or.inl ⟨?hg616, ?hy616⟩) hH1 ?rest616
            case hi616 => (simp only [List.getElem?_toArray, List.getElem?_cons_succ, List.getElem?_cons_zero]; rfl)
            case hn616 => kernel_rfl
            case hf616 => kernel_rfl
            case hr616 => kernel_rfl
            case hg616 => rfl
            case hy616 => (intro w hSw; (try dsimp only at hSw); go_simp; first | done | with_reducible rfl)
            case hq616 => exact fun _ _ _ h => h
            try simp only [Act.put, List.setIfInBounds_toArray, List.set_cons_zero, List.set_cons_succ]
            refine wpAnyH_take (i := 17) (oi := ?oi617) (v := ?vv617) ?hi617 ?hn617 ?hf617 ?hr617 ?hq617 (Or.inl ⟨?hg617, ?hy617⟩) hH1 ?rest617
            case hi617 => (simp only [List.getElem?_toArray, List.getElem?_cons_succ, List.getElem?_cons_zero]; rfl)
            case hn617 => kernel_rfl
            case hf617 => kernel_rfl
            case hr617 => kernel_rfl
            case hg617 => rfl
            case hy617 => (intro w hSw; (try dsimp only at hSw); go_simp; first | done | with_reducible rfl)
            case hq617 => exact fun _ _ _ h => h
            try simp only [Act.put, List.setIfInBounds_toArray, List.set_cons_zero, List.set_cons_succ]
            refine wpAnyH_take (i := 18) (oi := ?oi618) (v := ?vv618) ?hi618 ?hn618 ?hf618 ?hr618 ?hq618 (Or.inl ⟨?hg618, ?hy618⟩) hH1 ?rest618
            case hi618 => (simp only [List.getElem?_toArray, List.getElem?_cons_succ, List.getElem?_cons_zero]; rfl)
            case hn618 => kernel_rfl
            case hf618 => kernel_rfl
            case hr618 => kernel_rfl
            case hg618 => rfl
            case hy618 => (intro w hSw; (try dsimp only at hSw); go_simp; first | done | with_reducible rfl)
            case hq618 => exact fun _ _ _ h => h
            try simp only [Act.put, List.setIfInBounds_toArray, List.set_cons_zero, List.set_cons_succ]
            refine wpAnyH_done (by kernel_rfl) ?_ _
            try simp only [List.setIfInBounds_toArray, List.set_cons_zero, List.set_cons_succ]
            go_wp2_with fail
            exact Met.intro (hJJ _ _ ⟨rfl, rfl, rfl, rfl, rfl, HB⟩)
        case rest1 =>
          intro a wc hcut
          obtain ⟨ks, kd, k0, k1, k247, HC0⟩ := hcut
          obtain ⟨f, rfl⟩ := frame308_0 a ks kd k0 k1 k247
          clear HB hc Bq Bx By Bm m01 m02 m03 m11 m12 m13 m21 m22 m23
          have HB := HC0
          clear HC0
          go_wp2_with fail
          exact Met.intro (hJJ _ _ ⟨rfl, rfl, rfl, rfl, HB⟩)
    case rest3 =>
      intro a wc hcut
      obtain ⟨ks, kd, k0, k1, HC0⟩ := hcut
      obtain ⟨f, rfl⟩ := frame308_2 a ks kd k0 k1
      clear fm1 fm2 fm3 fr1 fr2 fr3 Bq Bm Br HB h1 h2 HE z1 z2 b1 b2
      have HB := HC0
      clear HC0
      go_wp2_with fail
      refine (drawCommutatorPair_any d _ (hd.keep HB.out)).mono ?_; rintro e w50 ⟨a, b, u, v, z1, z2, z3, z4, rfl, hb⟩
      replace HB := Lib.hid (nx HB.out hb)
      clear hb
      have Bp := Lib.hid (heap_alloc_at w50 (.cells #[.string a, .string b] 25 (0, 0)))
      replace HB := Lib.hid (nxAlloc HB.out (.cells #[.string a, .string b] 25 (0, 0)))
      replace Bp := Lib.hid (heap_keep (allocB (w50.alloc (.cells #[.string a, .string b] 25 (0, 0))) (.cells #[.string u, .string v] 25 (0, 0))) Bp.out)
      have bq := heap_alloc_at (w50.alloc (.cells #[.string a, .string b] 25 (0, 0))) (.cells #[.string u, .string v] 25 (0, 0))
      rw [show (w50.alloc (.cells #[.string a, .string b] 25 (0, 0))).heap.size = w50.heap.size + 1 by simp] at bq
      have Bq := Lib.hid bq
      clear bq
      replace HB := Lib.hid (nxAlloc HB.out (.cells #[.string u, .string v] 25 (0, 0)))
      have h1 := fun w => implCommutatorPair_any a b u v w (by omega) (by omega) (by omega) (by omega)
      have h2 := fun w => specCommutatorPair_any a b u v w (by omega) (by omega) (by omega) (by omega)
      have HE := Lib.hid (o_cases ((pairOf a b).bind fun p => (pairOf u v).bind fun q => limP (mulP (mulP (invP p) (invP q)) (mulP p q))))
      simp only [ansPr] at h1 h2
      generalize pS1 ((pairOf a b).bind fun p => (pairOf u v).bind fun q => limP (mulP (mulP (invP p) (invP q)) (mulP p q))) = y1 at *
      generalize pS2 ((pairOf a b).bind fun p => (pairOf u v).bind fun q => limP (mulP (mulP (invP p) (invP q)) (mulP p q))) = y2 at *
      generalize Option.isSome ((pairOf a b).bind fun p => (pairOf u v).bind fun q => limP (mulP (mulP (invP p) (invP q)) (mulP p q))) = y3 at *
      obtain ⟨fp1, fp2, fp3⟩ := two_facts Bp.out
      obtain ⟨fq1, fq2, fq3⟩ := two_facts Bq.out
      go_wp2_with fail
      refine (h1 _).mono ?_; rintro e w51 ⟨rfl, hb⟩
      clear fp1 fp2 fp3 fq1 fq2 fq3
      replace Bp := Lib.hid (heap_keep hb Bp.out)
      replace Bq := Lib.hid (heap_keep hb Bq.out)
      replace HB := Lib.hid (nx HB.out hb)
      clear hb
      replace Bp := Lib.hid (heap_keep (allocB w51 (.cells #[.string y1, .string y2] 25 (0, 0))) Bp.out)
      replace Bq := Lib.hid (heap_keep (allocB w51 (.cells #[.string y1, .string y2] 25 (0, 0))) Bq.out)
      have Bm := Lib.hid (heap_alloc_at w51 (.cells #[.string y1, .string y2] 25 (0, 0)))
      replace HB := Lib.hid (nxAlloc HB.out (.cells #[.string y1, .string y2] 25 (0, 0)))
      obtain ⟨fp1, fp2, fp3⟩ := two_facts Bp.out
      obtain ⟨fq1, fq2, fq3⟩ := two_facts Bq.out
      go_wp2_with fail
      refine (h2 _).mono ?_; rintro e w52 ⟨rfl, hb⟩
      clear fp1 fp2 fp3 fq1 fq2 fq3
      replace Bp := Lib.hid (heap_keep hb Bp.out)
      replace Bq := Lib.hid (heap_keep hb Bq.out)
      replace Bm := Lib.hid (heap_keep hb Bm.out)
      replace HB := Lib.hid (nx HB.out hb)
      clear hb
      replace Bp := Lib.hid (heap_keep (allocB w52 (.cells #[.string y1, .string y2] 25 (0, 0))) Bp.out)
      replace Bq := Lib.hid (heap_keep (allocB w52 (.cells #[.string y1, .string y2] 25 (0, 0))) Bq.out)
      replace Bm := Lib.hid (heap_keep (allocB w52 (.cells #[.string y1, .string y2] 25 (0, 0))) Bm.out)
      have Br := Lib.hid (heap_alloc_at w52 (.cells #[.string y1, .string y2] 25 (0, 0)))
      replace HB := Lib.hid (nxAlloc HB.out (.cells #[.string y1, .string y2] 25 (0, 0)))
      obtain ⟨fm1, fm2, fm3⟩ := two_facts Bm.out
      obtain ⟨fr1, fr2, fr3⟩ := two_facts Br.out
      go_upto_if 273 with fail
      rcases HE.out with rfl | ⟨m, ho, hy1, hy2, rfl⟩
      · clear HE
        go_wp2_with fail
        go_ret
        exact ⟨rfl, HB.out⟩
      · clear HE
        obtain ⟨X1, X2, e, Y1, Y2, t, g1, g2, g3, hc⟩ := com_calls ho hy1 hy2
        clear ho hy1 hy2
        clear fm1 fm2 fm3 fr1 fr2 fr3
        clear Br
        obtain ⟨fp1, fp2, fp3⟩ := two_facts Bp.out
        obtain ⟨fq1, fq2, fq3⟩ := two_facts Bq.out
        go_wp2_with fail
        refine (g1 _).mono ?_; rintro e w53 ⟨rfl, hb⟩
        clear fp1 fp2 fp3 fq1 fq2 fq3
        replace Bp := Lib.hid (heap_keep hb Bp.out)
        replace Bq := Lib.hid (heap_keep hb Bq.out)
        replace Bm := Lib.hid (heap_keep hb Bm.out)
        replace HB := Lib.hid (nx HB.out hb)
        clear hb
        replace Bp := Lib.hid (heap_keep (allocB w53 (.cells #[.string X1, .string X2] 25 (0, 0))) Bp.out)
        replace Bq := Lib.hid (heap_keep (allocB w53 (.cells #[.string X1, .string X2] 25 (0, 0))) Bq.out)
        replace Bm := Lib.hid (heap_keep (allocB w53 (.cells #[.string X1, .string X2] 25 (0, 0))) Bm.out)
        have Bx := Lib.hid (heap_alloc_at w53 (.cells #[.string X1, .string X2] 25 (0, 0)))
        replace HB := Lib.hid (nxAlloc HB.out (.cells #[.string X1, .string X2] 25 (0, 0)))
        obtain ⟨fq1, fq2, fq3⟩ := two_facts Bq.out
        obtain ⟨fp1, fp2, fp3⟩ := two_facts Bp.out
        go_wp2_with fail
        refine (g2 _).mono ?_; rintro e w54 ⟨rfl, hb⟩
        clear fq1 fq2 fq3 fp1 fp2 fp3
        replace Bp := Lib.hid (heap_keep hb Bp.out)
        replace Bq := Lib.hid (heap_keep hb Bq.out)
        replace Bm := Lib.hid (heap_keep hb Bm.out)
        replace Bx := Lib.hid (heap_keep hb Bx.out)
        replace HB := Lib.hid (nx HB.out hb)
        clear hb
        replace Bp := Lib.hid (heap_keep (allocB w54 (.cells #[.string Y1, .string Y2] 25 (0, 0))) Bp.out)
        replace Bq := Lib.hid (heap_keep (allocB w54 (.cells #[.string Y1, .string Y2] 25 (0, 0))) Bq.out)
        replace Bm := Lib.hid (heap_keep (allocB w54 (.cells #[.string Y1, .string Y2] 25 (0, 0))) Bm.out)
        replace Bx := Lib.hid (heap_keep (allocB w54 (.cells #[.string Y1, .string Y2] 25 (0, 0))) Bx.out)
        have By := Lib.hid (heap_alloc_at w54 (.cells #[.string Y1, .string Y2] 25 (0, 0)))
        replace HB := Lib.hid (nxAlloc HB.out (.cells #[.string Y1, .string Y2] 25 (0, 0)))
        clear g1 g2
        go_upto_region 41 with fail
        obtain ⟨m01, m02, m03⟩ := two_facts Bx.out
        obtain ⟨m11, m12, m13⟩ := two_facts By.out
        obtain ⟨m21, m22, m23⟩ := two_facts Bm.out
        refine wp_cut (fun (a : Act) (wx : World) => a.tmps.size = 308 ∧ a.defers = [] ∧ a.tmps.getD 43 undef = .pointer (some { block := w51.heap.size, off := 0 }) ∧ a.tmps.getD 298 undef = .bool false ∧ Hid (Below W.heap.size W wx)∧ Hid (wx.heap[w51.heap.size]? = some (.cells #[.string y1, .string y2] 25 (0, 0)))) ?rest2 ?first2
        case first2 =>
          intro JJ KK hJJ hKK
          rcases hc with rfl | ⟨rfl, rfl⟩ | ⟨rfl, rfl, rfl, rfl, rfl, rfl⟩ | ⟨rfl, rfl, rfl, hc1, hc2⟩ | ⟨rfl, rfl, hc1, hc2⟩
          · refine wp_region_held_drew (S := (fun (w' : World) => w'.cell? ⟨w53.heap.size, 0, none⟩ = some (.string X1) ∧ w'.cell? ⟨w53.heap.size, 1, none⟩ = some (.string X2) ∧ w'.cell? ⟨w54.heap.size, 0, none⟩ = some (.string Y1) ∧ w'.cell? ⟨w54.heap.size, 1, none⟩ = some (.string Y2) ∧ w'.cell? ⟨w51.heap.size, 0, none⟩ = some (.string y1) ∧ w'.cell? ⟨w51.heap.size, 1, none⟩ = some (.string y2))) (by kernel_rfl) ⟨m01, m02, m11, m12, m21, m22⟩ (fun hH0 => ?_)
            refine wpAnyH_take (i := 0) (oi := ?oi801) (v := ?vv801) ?hi801 ?hn801 ?hf801 ?hr801 ?hq801 (Or.inl ⟨?hg801, ?hy801⟩) hH0 ?rest801
            case hi801 => (simp only [List.getElem?_toArray, List.getElem?_cons_zero]; rfl)
            case hn801 => kernel_rfl
            case hf801 => kernel_rfl
            case hr801 => kernel_rfl
            case hg801 => rfl
            case hy801 => (intro w hSw; (try dsimp only at hSw); go_simp; first | done | with_reducible rfl)
            case hq801 => exact fun _ _ _ h => h
            try simp only [Act.put, List.setIfInBounds_toArray, List.set_cons_zero, List.set_cons_succ]
            refine wpAnyH_take (i := 1) (oi := ?oi802) (v := ?vv802) ?hi802 ?hn802 ?hf802 ?hr802 ?hq802 (Or.inl ⟨?hg802, ?hy802⟩) hH0 ?rest802
            case hi802 => (simp only [List.getElem?_toArray, List.getElem?_cons_succ, List.getElem?_cons_zero]; rfl)
            case hn802 => kernel_rfl
            case hf802 => kernel_rfl
            case hr802 => kernel_rfl
            case hg802 => rfl
            case hy802 => (intro w hSw; (try dsimp only at hSw); go_simp; first | done | with_reducible rfl)
            case hq802 => exact fun _ _ _ h => h
            try simp only [Act.put, List.setIfInBounds_toArray, List.set_cons_zero, List.set_cons_succ]
            refine wpAnyH_take (i := 2) (oi := ?oi803) (v := undef) ?hi803 ?hn803 ?hf803 ?hr803 ?hq803 (Or.inr ⟨?hg803, rfl⟩) hH0 ?rest803
            case hi803 => (simp only [List.getElem?_toArray, List.getElem?_cons_succ, List.getElem?_cons_zero]; rfl)
            case hn803 => kernel_rfl
            case hf803 => kernel_rfl
            case hr803 => kernel_rfl
            case hg803 => rfl
            case hq803 => exact fun _ _ _ h => h
            try simp only [Act.put, List.setIfInBounds_toArray, List.set_cons_zero, List.set_cons_succ]
            refine wpAnyH_take (i := 3) (oi := ?oi804) (v := ?vv804) ?hi804 ?hn804 ?hf804 ?hr804 ?hq804 (Or.inl ⟨?hg804, ?hy804⟩) hH0 ?rest804
            case hi804 => (simp only [List.getElem?_toArray, List.getElem?_cons_succ, List.getElem?_cons_zero]; rfl)
            case hn804 => kernel_rfl
            case hf804 => kernel_rfl
            case hr804 => kernel_rfl
            case hg804 => rfl
            case hy804 => (intro w hSw; (try dsimp only at hSw); go_simp; first | done | with_reducible rfl)
            case hq804 => exact fun _ _ _ h => h
            try simp only [Act.put, List.setIfInBounds_toArray, List.set_cons_zero, List.set_cons_succ]
            refine wpAnyH_take (i := 4) (oi := ?oi805) (v := ?vv805) ?hi805 ?hn805 ?hf805 ?hr805 ?hq805 (Or.inl ⟨?hg805, ?hy805⟩) hH0 ?rest805
            case hi805 => (simp only [List.getElem?_toArray, List.getElem?_cons_succ, List.getElem?_cons_zero]; rfl)
            case hn805 => kernel_rfl
            case hf805 => kernel_rfl
            case hr805 => kernel_rfl
            case hg805 => rfl
            case hy805 => (intro w hSw; (try dsimp only at hSw); go_simp; first | done | with_reducible rfl)
            case hq805 => exact fun _ _ _ h => h
            try simp only [Act.put, List.setIfInBounds_toArray, List.set_cons_zero, List.set_cons_succ]
            refine wpAnyH_take (i := 5) (oi := ?oi806) (v := undef) ?hi806 ?hn806 ?hf806 ?hr806 ?hq806 (Or.inr ⟨?hg806, rfl⟩) hH0 ?rest806
            case hi806 => (simp only [List.getElem?_toArray, List.getElem?_cons_succ, List.getElem?_cons_zero]; rfl)
            case hn806 => kernel_rfl
            case hf806 => kernel_rfl
            case hr806 => kernel_rfl
            case hg806 => rfl
            case hq806 => exact fun _ _ _ h => h
            try simp only [Act.put, List.setIfInBounds_toArray, List.set_cons_zero, List.set_cons_succ]
            refine wpAnyH_take (i := 6) (oi := ?oi807) (v := undef) ?hi807 ?hn807 ?hf807 ?hr807 ?hq807 (Or.inr ⟨?hg807, rfl⟩) hH0 ?rest807
            case hi807 => (simp only [List.getElem?_toArray, List.getElem?_cons_succ, List.getElem?_cons_zero]; rfl)
            case hn807 => kernel_rfl
            case hf807 => kernel_rfl
            case hr807 => kernel_rfl
            case hg807 => rfl
            case hq807 => exact fun _ _ _ h => h
            try simp only [Act.put, List.setIfInBounds_toArray, List.set_cons_zero, List.set_cons_succ]
            refine wpAnyH_take (i := 7) (oi := ?oi808) (v := undef) ?hi808 ?hn808 ?hf808 ?hr808 ?hq808 (Or.inr ⟨?hg808, rfl⟩) hH0 ?rest808
            case hi808 => (simp only [List.getElem?_toArray, List.getElem?_cons_succ, List.getElem?_cons_zero]; rfl)
            case hn808 => kernel_rfl
            case hf808 => kernel_rfl
            case hr808 => kernel_rfl
            case hg808 => rfl
            case hq808 => exact fun _ _ _ h => h
            try simp only [Act.put, List.setIfInBounds_toArray, List.set_cons_zero, List.set_cons_succ]
            refine wpAnyH_take (i := 8) (oi := ?oi809) (v := undef) ?hi809 ?hn809 ?hf809 ?hr809 ?hq809 (Or.inr ⟨?hg809, rfl⟩) hH0 ?rest809
            case hi809 => (simp only [List.getElem?_toArray, List.getElem?_cons_succ, List.getElem?_cons_zero]; rfl)
            case hn809 => kernel_rfl
            case hf809 => kernel_rfl
            case hr809 => kernel_rfl
            case hg809 => rfl
            case hq809 => exact fun _ _ _ h => h
            try simp only [Act.put, List.setIfInBounds_toArray, List.set_cons_zero, List.set_cons_succ]
            refine wpAnyH_take (i := 9) (oi := ?oi810) (v := undef) ?hi810 ?hn810 ?hf810 ?hr810 ?hq810 (Or.inr ⟨?hg810, rfl⟩) hH0 ?rest810
            case hi810 => (simp only [List.getElem?_toArray, List.getElem?_cons_succ, List.getElem?_cons_zero]; rfl)
            case hn810 => kernel_rfl
            case hf810 => kernel_rfl
            case hr810 => kernel_rfl
            case hg810 => rfl
            case hq810 => exact fun _ _ _ h => h
            try simp only [Act.put, List.setIfInBounds_toArray, List.set_cons_zero, List.set_cons_succ]
            refine wpAnyH_take (i := 10) (oi := ?oi811) (v := undef) ?hi811 ?hn811 ?hf811 ?hr811 ?hq811 (Or.inr ⟨?hg811, rfl⟩) hH0 ?rest811
            case hi811 => (simp only [List.getElem?_toArray, List.getElem?_cons_succ, List.getElem?_cons_zero]; rfl)
            case hn811 => kernel_rfl
            case hf811 => kernel_rfl
            case hr811 => kernel_rfl
            case hg811 => rfl
            case hq811 => exact fun _ _ _ h => h
            try simp only [Act.put, List.setIfInBounds_toArray, List.set_cons_zero, List.set_cons_succ]
            refine wpAnyH_take (i := 11) (oi := ?oi812) (v := undef) ?hi812 ?hn812 ?hf812 ?hr812 ?hq812 (Or.inr ⟨?hg812, rfl⟩) hH0 ?rest812
            case hi812 => (simp only [List.getElem?_toArray, List.getElem?_cons_succ, List.getElem?_cons_zero]; rfl)
            case hn812 => kernel_rfl
            case hf812 => kernel_rfl
            case hr812 => kernel_rfl
            case hg812 => rfl
            case hq812 => exact fun _ _ _ h => h
            try simp only [Act.put, List.setIfInBounds_toArray, List.set_cons_zero, List.set_cons_succ]
            refine wpAnyH_take (i := 12) (oi := ?oi813) (v := ?vv813) ?hi813 ?hn813 ?hf813 ?hr813 ?hq813 (Or.inl ⟨?hg813, ?hy813⟩) hH0 ?rest813
            case hi813 => (simp only [List.getElem?_toArray, List.getElem?_cons_succ, List.getElem?_cons_zero]; rfl)
            case hn813 => kernel_rfl
            case hf813 => kernel_rfl
            case hr813 => kernel_rfl
            case hg813 => rfl
            case hy813 => (intro w hSw; (try dsimp only at hSw); go_simp; first | done | with_reducible rfl)
            case hq813 => exact fun _ _ _ h => h
            try simp only [Act.put, List.setIfInBounds_toArray, List.set_cons_zero, List.set_cons_succ]
            refine wpAnyH_done (by kernel_rfl) ?_ _
            try simp only [List.setIfInBounds_toArray, List.set_cons_zero, List.set_cons_succ]
            go_wp2_with fail
            exact Met.intro (hJJ _ _ ⟨rfl, rfl, rfl, rfl, Lib.hid HB.out.drew, Lib.hid Bm.out⟩)
          · refine wp_region_held_drew (S := (fun (w' : World) => w'.cell? ⟨w53.heap.size, 0, none⟩ = some (.string X1) ∧ w'.cell? ⟨w53.heap.size, 1, none⟩ = some (.string X2) ∧ w'.cell? ⟨w54.heap.size, 0, none⟩ = some (.string Y1) ∧ w'.cell? ⟨w54.heap.size, 1, none⟩ = some (.string Y2) ∧ w'.cell? ⟨w51.heap.size, 0, none⟩ = some (.string y1) ∧ w'.cell? ⟨w51.heap.size, 1, none⟩ = some (.string y2))) (by kernel_rfl) ⟨m01, m02, m11, m12, m21, m22⟩ (fun hH0 => ?_)
            refine wpAnyH_take (i := 0) (oi := ?oi1001) (v := ?vv1001) ?hi1001 ?hn1001 ?hf1001 ?hr1001 ?hq1001 (Or.inl ⟨?hg1001, ?hy1001⟩) hH0 ?rest1001
            case hi1001 => (simp only [List.getElem?_toArray, List.getElem?_cons_zero]; rfl)
            case hn1001 => kernel_rfl
            case hf1001 => kernel_rfl
            case hr1001 => kernel_rfl
            case hg1001 => rfl
            case hy1001 => (intro w hSw; (try dsimp only at hSw); go_simp; first | done | with_reducible rfl)
            case hq1001 => exact fun _ _ _ h => h
            try simp only [Act.put, List.setIfInBounds_toArray, List.set_cons_zero, List.set_cons_succ]
            refine wpAnyH_take (i := 1) (oi := ?oi1002) (v := ?vv1002) ?hi1002 ?hn1002 ?hf1002 ?hr1002 ?hq1002 (Or.inl ⟨?hg1002, ?hy1002⟩) hH0 ?rest1002
            case hi1002 => (simp only [List.getElem?_toArray, List.getElem?_cons_succ, List.getElem?_cons_zero]; rfl)
            case hn1002 => kernel_rfl
            case hf1002 => kernel_rfl
            case hr1002 => kernel_rfl
            case hg1002 => rfl
            case hy1002 => (intro w hSw; (try dsimp only at hSw); go_simp; first | done | with_reducible rfl)
            case hq1002 => exact fun _ _ _ h => h
            try simp only [Act.put, List.setIfInBounds_toArray, List.set_cons_zero, List.set_cons_succ]
            refine wpAnyH_take (i := 2) (oi := ?oi1003) (v := ?vv1003) ?hi1003 ?hn1003 ?hf1003 ?hr1003 ?hq1003 (Or.inl ⟨?hg1003, ?hy1003⟩) hH0 ?rest1003
            case hi1003 => (simp only [List.getElem?_toArray, List.getElem?_cons_succ, List.getElem?_cons_zero]; rfl)
            case hn1003 => kernel_rfl
            case hf1003 => kernel_rfl
            case hr1003 => kernel_rfl
            case hg1003 => rfl
            case hy1003 => (intro w hSw; (try dsimp only at hSw); go_simp; first | done | with_reducible rfl)
            case hq1003 => exact fun _ _ _ h => h
            try simp only [Act.put, List.setIfInBounds_toArray, List.set_cons_zero, List.set_cons_succ]
            refine wpAnyH_take (i := 3) (oi := ?oi1004) (v := ?vv1004) ?hi1004 ?hn1004 ?hf1004 ?hr1004 ?hq1004 (Or.inl ⟨?hg1004, ?hy1004⟩) hH0 ?rest1004
            case hi1004 => (simp only [List.getElem?_toArray, List.getElem?_cons_succ, List.getElem?_cons_zero]; rfl)
            case hn1004 => kernel_rfl
            case hf1004 => kernel_rfl
            case hr1004 => kernel_rfl
            case hg1004 => rfl
            case hy1004 => (intro w hSw; (try dsimp only at hSw); go_simp; first | done | with_reducible rfl)
            case hq1004 => exact fun _ _ _ h => h
            try simp only [Act.put, List.setIfInBounds_toArray, List.set_cons_zero, List.set_cons_succ]
            refine wpAnyH_take (i := 4) (oi := ?oi1005) (v := ?vv1005) ?hi1005 ?hn1005 ?hf1005 ?hr1005 ?hq1005 (Or.inl ⟨?hg1005, ?hy1005⟩) hH0 ?rest1005
            case hi1005 => (simp only [List.getElem?_toArray, List.getElem?_cons_succ, List.getElem?_cons_zero]; rfl)
            case hn1005 => kernel_rfl
            case hf1005 => kernel_rfl
            case hr1005 => kernel_rfl
            case hg1005 => rfl
            case hy1005 => (intro w hSw; (try dsimp only at hSw); go_simp; first | done | with_reducible rfl)
            case hq1005 => exact fun _ _ _ h => h
            try simp only [Act.put, List.setIfInBounds_toArray, List.set_cons_zero, List.set_cons_succ]
            refine wpAnyH_take (i := 5) (oi := ?oi1006) (v := undef) ?hi1006 ?hn1006 ?hf1006 ?hr1006 ?hq1006 (Or.inr ⟨?hg1006, rfl⟩) hH0 ?rest1006
            case hi1006 => (simp only [List.getElem?_toArray, List.getElem?_cons_succ, List.getElem?_cons_zero]; rfl)
            case hn1006 => kernel_rfl
            case hf1006 => kernel_rfl
            case hr1006 => kernel_rfl
            case hg1006 => rfl
            case hq1006 => exact fun _ _ _ h => h
            try simp only [Act.put, List.setIfInBounds_toArray, List.set_cons_zero, List.set_cons_succ]
            refine wpAnyH_take (i := 6) (oi := ?oi1007) (v := undef) ?hi1007 ?hn1007 ?hf1007 ?hr1007 ?hq1007 (Or.inr ⟨?hg1007, rfl⟩) hH0 ?rest1007
            case hi1007 => (simp only [List.getElem?_toArray, List.getElem?_cons_succ, List.getElem?_cons_zero]; rfl)
            case hn1007 => kernel_rfl
            case hf1007 => kernel_rfl
            case hr1007 => kernel_rfl
            case hg1007 => rfl
            case hq1007 => exact fun _ _ _ h => h
            try simp only [Act.put, List.setIfInBounds_toArray, List.set_cons_zero, List.set_cons_succ]
            refine wpAnyH_take (i := 7) (oi := ?oi1008) (v := undef) ?hi1008 ?hn1008 ?hf1008 ?hr1008 ?hq1008 (Or.inr ⟨?hg1008, rfl⟩) hH0 ?rest1008
            case hi1008 => (simp only [List.getElem?_toArray, List.getElem?_cons_succ, List.getElem?_cons_zero]; rfl)
            case hn1008 => kernel_rfl
            case hf1008 => kernel_rfl
            case hr1008 => kernel_rfl
            case hg1008 => rfl
            case hq1008 => exact fun _ _ _ h => h
            try simp only [Act.put, List.setIfInBounds_toArray, List.set_cons_zero, List.set_cons_succ]
            refine wpAnyH_take (i := 8) (oi := ?oi1009) (v := undef) ?hi1009 ?hn1009 ?hf1009 ?hr1009 ?hq1009 (Or.inr ⟨?hg1009, rfl⟩) hH0 ?rest1009
            case hi1009 => (simp only [List.getElem?_toArray, List.getElem?_cons_succ, List.getElem?_cons_zero]; rfl)
            case hn1009 => kernel_rfl
            case hf1009 => kernel_rfl
            case hr1009 => kernel_rfl
            case hg1009 => rfl
            case hq1009 => exact fun _ _ _ h => h
            try simp only [Act.put, List.setIfInBounds_toArray, List.set_cons_zero, List.set_cons_succ]
            refine wpAnyH_take (i := 9) (oi := ?oi1010) (v := undef) ?hi1010 ?hn1010 ?hf1010 ?hr1010 ?hq1010 (Or.inr ⟨?hg1010, rfl⟩) hH0 ?rest1010
            case hi1010 => (simp only [List.getElem?_toArray, List.getElem?_cons_succ, List.getElem?_cons_zero]; rfl)
            case hn1010 => kernel_rfl
            case hf1010 => kernel_rfl
            case hr1010 => kernel_rfl
            case hg1010 => rfl
            case hq1010 => exact fun _ _ _ h => h
            try simp only [Act.put, List.setIfInBounds_toArray, List.set_cons_zero, List.set_cons_succ]
            refine wpAnyH_take (i := 10) (oi := ?oi1011) (v := undef) ?hi1011 ?hn1011 ?hf1011 ?hr1011 ?hq1011 (Or.inr ⟨?hg1011, rfl⟩) hH0 ?rest1011
            case hi1011 => (simp only [List.getElem?_toArray, List.getElem?_cons_succ, List.getElem?_cons_zero]; rfl)
            case hn1011 => kernel_rfl
            case hf1011 => kernel_rfl
            case hr1011 => kernel_rfl
            case hg1011 => rfl
            case hq1011 => exact fun _ _ _ h => h
            try simp only [Act.put, List.setIfInBounds_toArray, List.set_cons_zero, List.set_cons_succ]
            refine wpAnyH_take (i := 11) (oi := ?oi1012) (v := undef) ?hi1012 ?hn1012 ?hf1012 ?hr1012 ?hq1012 (Or.inr ⟨?hg1012, rfl⟩) hH0 ?rest1012
            case hi1012 => (simp only [List.getElem?_toArray, List.getElem?_cons_succ, List.getElem?_cons_zero]; rfl)
            case hn1012 => kernel_rfl
            case hf1012 => kernel_rfl
            case hr1012 => kernel_rfl
            case hg1012 => rfl
            case hq1012 => exact fun _ _ _ h => h
            try simp only [Act.put, List.setIfInBounds_toArray, List.set_cons_zero, List.set_cons_succ]
            refine wpAnyH_take (i := 12) (oi := ?oi1013) (v := ?vv1013) ?hi1013 ?hn1013 ?hf1013 ?hr1013 ?hq1013 (Or.inl ⟨?hg1013, ?hy1013⟩) hH0 ?rest1013
            case hi1013 => (simp only [List.getElem?_toArray, List.getElem?_cons_succ, List.getElem?_cons_zero]; rfl)
            case hn1013 => kernel_rfl
            case hf1013 => kernel_rfl
            case hr1013 => kernel_rfl
            case hg1013 => rfl
            case hy1013 => (intro w hSw; (try dsimp only at hSw); go_simp; first | done | with_reducible rfl)
            case hq1013 => exact fun _ _ _ h => h
            try simp only [Act.put, List.setIfInBounds_toArray, List.set_cons_zero, List.set_cons_succ]
            refine wpAnyH_done (by kernel_rfl) ?_ _
            try simp only [List.setIfInBounds_toArray, List.set_cons_zero, List.set_cons_succ]
            go_wp2_with fail
            exact Met.intro (hJJ _ _ ⟨rfl, rfl, rfl, rfl, Lib.hid HB.out.drew, Lib.hid Bm.out⟩)
          · refine wp_region_held_drew (S := (fun (w' : World) => w'.cell? ⟨w53.heap.size, 0, none⟩ = some (.string X1) ∧ w'.cell? ⟨w53.heap.size, 1, none⟩ = some (.string X2) ∧ w'.cell? ⟨w54.heap.size, 0, none⟩ = some (.string X1) ∧ w'.cell? ⟨w54.heap.size, 1, none⟩ = some (.string X2) ∧ w'.cell? ⟨w51.heap.size, 0, none⟩ = some (.string Tr.lf.str) ∧ w'.cell? ⟨w51.heap.size, 1, none⟩ = some (.string Tr.lf.str))) (by kernel_rfl) ⟨m01, m02, m11, m12, m21, m22⟩ (fun hH0 => ?_)
            refine wpAnyH_take (i := 0) (oi := ?oi1201) (v := ?vv1201) ?hi1201 ?hn1201 ?hf1201 ?hr1201 ?hq1201 (Or.inl ⟨?hg1201, ?hy1201⟩) hH0 ?rest1201
            case hi1201 => (simp only [List.getElem?_toArray, List.getElem?_cons_zero]; rfl)
            case hn1201 => kernel_rfl
            case hf1201 => kernel_rfl
            case hr1201 => kernel_rfl
            case hg1201 => rfl
            case hy1201 => (intro w hSw; (try dsimp only at hSw); go_simp; first | done | with_reducible rfl)
            case hq1201 => exact fun _ _ _ h => h
            try simp only [Act.put, List.setIfInBounds_toArray, List.set_cons_zero, List.set_cons_succ]
            refine wpAnyH_take (i := 1) (oi := ?oi1202) (v := ?vv1202) ?hi1202 ?hn1202 ?hf1202 ?hr1202 ?hq1202 (Or.inl ⟨?hg1202, ?hy1202⟩) hH0 ?rest1202
            case hi1202 => (simp only [List.getElem?_toArray, List.getElem?_cons_succ, List.getElem?_cons_zero]; rfl)
            case hn1202 => kernel_rfl
            case hf1202 => kernel_rfl
            case hr1202 => kernel_rfl
            case hg1202 => rfl
            case hy1202 => (intro w hSw; (try dsimp only at hSw); go_simp; first | done | with_reducible rfl)
            case hq1202 => exact fun _ _ _ h => h
            try simp only [Act.put, List.setIfInBounds_toArray, List.set_cons_zero, List.set_cons_succ]
            refine wpAnyH_take (i := 2) (oi := ?oi1203) (v := ?vv1203) ?hi1203 ?hn1203 ?hf1203 ?hr1203 ?hq1203 (Or.inl ⟨?hg1203, ?hy1203⟩) hH0 ?rest1203
            case hi1203 => (simp only [List.getElem?_toArray, List.getElem?_cons_succ, List.getElem?_cons_zero]; rfl)
            case hn1203 => kernel_rfl
            case hf1203 => kernel_rfl
            case hr1203 => kernel_rfl
            case hg1203 => rfl
            case hy1203 => (intro w hSw; (try dsimp only at hSw); go_simp; first | done | with_reducible rfl)
            case hq1203 => exact fun _ _ _ h => h
            try simp only [Act.put, List.setIfInBounds_toArray, List.set_cons_zero, List.set_cons_succ]
            refine wpAnyH_take (i := 3) (oi := ?oi1204) (v := ?vv1204) ?hi1204 ?hn1204 ?hf1204 ?hr1204 ?hq1204 (Or.inl ⟨?hg1204, ?hy1204⟩) hH0 ?rest1204
            case hi1204 => (simp only [List.getElem?_toArray, List.getElem?_cons_succ, List.getElem?_cons_zero]; rfl)
            case hn1204 => kernel_rfl
            case hf1204 => kernel_rfl
            case hr1204 => kernel_rfl
            case hg1204 => rfl
            case hy1204 => (intro w hSw; (try dsimp only at hSw); go_simp; first | done | with_reducible rfl)
            case hq1204 => exact fun _ _ _ h => h
            try simp only [Act.put, List.setIfInBounds_toArray, List.set_cons_zero, List.set_cons_succ]
            refine wpAnyH_take (i := 4) (oi := ?oi1205) (v := ?vv1205) ?hi1205 ?hn1205 ?hf1205 ?hr1205 ?hq1205 (Or.inl ⟨?hg1205, ?hy1205⟩) hH0 ?rest1205
            case hi1205 => (simp only [List.getElem?_toArray, List.getElem?_cons_succ, List.getElem?_cons_zero]; rfl)
            case hn1205 => kernel_rfl
            case hf1205 => kernel_rfl
            case hr1205 => kernel_rfl
            case hg1205 => rfl
            case hy1205 => (intro w hSw; (try dsimp only at hSw); go_simp; first | done | with_reducible rfl)
            case hq1205 => exact fun _ _ _ h => h
            try simp only [Act.put, List.setIfInBounds_toArray, List.set_cons_zero, List.set_cons_succ]
            refine wpAnyH_take (i := 5) (oi := ?oi1206) (v := ?vv1206) ?hi1206 ?hn1206 ?hf1206 ?hr1206 ?hq1206 (Or.inl ⟨?hg1206, ?hy1206⟩) hH0 ?rest1206
            case hi1206 => (simp only [List.getElem?_toArray, List.getElem?_cons_succ, List.getElem?_cons_zero]; rfl)
            case hn1206 => kernel_rfl
            case hf1206 => kernel_rfl
            case hr1206 => kernel_rfl
            case hg1206 => rfl
            case hy1206 => (intro w hSw; (try dsimp only at hSw); go_simp; first | done | with_reducible rfl)
            case hq1206 => exact fun _ _ _ h => h
            try simp only [Act.put, List.setIfInBounds_toArray, List.set_cons_zero, List.set_cons_succ]
            refine wpAnyH_take (i := 6) (oi := ?oi1207) (v := ?vv1207) ?hi1207 ?hn1207 ?hf1207 ?hr1207 ?hq1207 (Or.inl ⟨?hg1207, ?hy1207⟩) hH0 ?rest1207
            case hi1207 => (simp only [List.getElem?_toArray, List.getElem?_cons_succ, List.getElem?_cons_zero]; rfl)
            case hn1207 => kernel_rfl
            case hf1207 => kernel_rfl
            case hr1207 => kernel_rfl
            case hg1207 => rfl
            case hy1207 => (intro w hSw; (try dsimp only at hSw); go_simp; first | done | with_reducible rfl)
            case hq1207 => exact fun _ _ _ h => h
            try simp only [Act.put, List.setIfInBounds_toArray, List.set_cons_zero, List.set_cons_succ]
            refine wpAnyH_take (i := 7) (oi := ?oi1208) (v := ?vv1208) ?hi1208 ?hn1208 ?hf1208 ?hr1208 ?hq1208 (Or.inl ⟨?hg1208, ?hy1208⟩) hH0 ?rest1208
            case hi1208 => (simp only [List.getElem?_toArray, List.getElem?_cons_succ, List.getElem?_cons_zero]; rfl)
            case hn1208 => kernel_rfl
            case hf1208 => kernel_rfl
            case hr1208 => kernel_rfl
            case hg1208 => rfl
            case hy1208 => (intro w hSw; (try dsimp only at hSw); go_simp; first | done | with_reducible rfl)
            case hq1208 => exact fun _ _ _ h => h
            try simp only [Act.put, List.setIfInBounds_toArray, List.set_cons_zero, List.set_cons_succ]
            refine wpAnyH_take (i := 8) (oi := ?oi1209) (v := ?vv1209) ?hi1209 ?hn1209 ?hf1209 ?hr1209 ?hq1209 (Or.inl ⟨?hg1209, ?hy1209⟩) hH0 ?rest1209
            case hi1209 => (simp only [List.getElem?_toArray, List.getElem?_cons_succ, List.getElem?_cons_zero]; rfl)
            case hn1209 => kernel_rfl
            case hf1209 => kernel_rfl
            case hr1209 => kernel_rfl
            case hg1209 => rfl
            case hy1209 => (intro w hSw; (try dsimp only at hSw); go_simp; first | done | with_reducible rfl)
            case hq1209 => exact fun _ _ _ h => h
            try simp only [Act.put, List.setIfInBounds_toArray, List.set_cons_zero, List.set_cons_succ]
            refine held_one 9 rfl (by kernel_rfl) (fun K hK => ?_)
            go_simp
            refine (identity_any (w54.alloc (.cells #[.string X1, .string X2] 25 (0, 0))).drew).mono ?_; rintro e w9 ⟨rfl, hb9⟩
            replace HB := Lib.hid (nx HB.out.drew hb9)
            go_wp2_with fail
            have hH1 : (fun (w' : World) => w'.cell? ⟨w53.heap.size, 0, none⟩ = some (.string X1) ∧ w'.cell? ⟨w53.heap.size, 1, none⟩ = some (.string X2) ∧ w'.cell? ⟨w54.heap.size, 0, none⟩ = some (.string X1) ∧ w'.cell? ⟨w54.heap.size, 1, none⟩ = some (.string X2) ∧ w'.cell? ⟨w51.heap.size, 0, none⟩ = some (.string Tr.lf.str) ∧ w'.cell? ⟨w51.heap.size, 1, none⟩ = some (.string Tr.lf.str)) _ := ⟨(hb9.cell (p := ⟨w53.heap.size, 0, none⟩) (World.block_lt_of_cell? _ _ m01)).trans m01, (hb9.cell (p := ⟨w53.heap.size, 1, none⟩) (World.block_lt_of_cell? _ _ m02)).trans m02, (hb9.cell (p := ⟨w54.heap.size, 0, none⟩) (World.block_lt_of_cell? _ _ m11)).trans m11, (hb9.cell (p := ⟨w54.heap.size, 1, none⟩) (World.block_lt_of_cell? _ _ m12)).trans m12, (hb9.cell (p := ⟨w51.heap.size, 0, none⟩) (World.block_lt_of_cell? _ _ m21)).trans m21, (hb9.cell (p := ⟨w51.heap.size, 1, none⟩) (World.block_lt_of_cell? _ _ m22)).trans m22⟩
            refine hK.out (fun (w' : World) => w'.cell? ⟨w53.heap.size, 0, none⟩ = some (.string X1) ∧ w'.cell? ⟨w53.heap.size, 1, none⟩ = some (.string X2) ∧ w'.cell? ⟨w54.heap.size, 0, none⟩ = some (.string X1) ∧ w'.cell? ⟨w54.heap.size, 1, none⟩ = some (.string X2) ∧ w'.cell? ⟨w51.heap.size, 0, none⟩ = some (.string Tr.lf.str) ∧ w'.cell? ⟨w51.heap.size, 1, none⟩ = some (.string Tr.lf.str)) _ _ (fun _ h => h) hH1 ?_
            clear hK K
            try simp only [Act.put, List.setIfInBounds_toArray, List.set_cons_zero, List.set_cons_succ]
            refine wpAnyH_take (i := 10) (oi := ?oi1210) (v := ?vv1210) ?hi1210 ?hn1210 ?hf1210 ?hr1210 ?hq1210 (Or.inl ⟨?hg1210, ?hy1210⟩) hH1 ?rest1210
            case hi1210 => (simp only [List.getElem?_toArray, List.getElem?_cons_succ, List.getElem?_cons_zero]; rfl)
            case hn1210 => kernel_rfl
            case hf1210 => kernel_rfl
            case hr1210 => kernel_rfl
            case hg1210 => rfl
            case hy1210 => (intro w hSw; (try dsimp only at hSw); go_simp; first | done | with_reducible rfl)
            case hq1210 => exact fun _ _ _ h => h
            try simp only [Act.put, List.setIfInBounds_toArray, List.set_cons_zero, List.set_cons_succ]
            refine wpAnyH_take (i := 11) (oi := ?oi1211) (v := ?vv1211) ?hi1211 ?hn1211 ?hf1211 ?hr1211 ?hq1211 (Or.inl ⟨?hg1211, ?hy1211⟩) hH1 ?rest1211
            case hi1211 => (simp only [List.getElem?_toArray, List.getElem?_cons_succ, List.getElem?_cons_zero]; rfl)
            case hn1211 => kernel_rfl
            case hf1211 => kernel_rfl
            case hr1211 => kernel_rfl
            case hg1211 => rfl
            case hy1211 => (intro w hSw; (try dsimp only at hSw); go_simp; first | done | with_reducible rfl)
            case hq1211 => exact fun _ _ _ h => h
            try simp only [Act.put, List.setIfInBounds_toArray, List.set_cons_zero, List.set_cons_succ]
            refine wpAnyH_take (i := 12) (oi := ?oi1212) (v := ?vv1212) ?hi1212 ?hn1212 ?hf1212 ?hr1212 ?hq1212 (Or.inl ⟨?hg1212, ?hy1212⟩) hH1 ?rest1212
            case hi1212 => (simp only [List.getElem?_toArray, List.getElem?_cons_succ, List.getElem?_cons_zero]; rfl)
            case hn1212 => kernel_rfl
            case hf1212 => kernel_rfl
            case hr1212 => kernel_rfl
            case hg1212 => rfl
            case hy1212 => (intro w hSw; (try dsimp only at hSw); go_simp; first | done | with_reducible rfl)
            case hq1212 => exact fun _ _ _ h => h
            try simp only [Act.put, List.setIfInBounds_toArray, List.set_cons_zero, List.set_cons_succ]
            refine wpAnyH_done (by kernel_rfl) ?_ _
            try simp only [List.setIfInBounds_toArray, List.set_cons_zero, List.set_cons_succ]
            go_wp2_with fail
            exact Met.intro (hJJ _ _ ⟨rfl, rfl, rfl, rfl, HB, Lib.hid (heap_keep hb9 (show (w54.alloc (.cells #[.string X1, .string X2] 25 (0, 0))).drew.heap[w51.heap.size]? = _ from Bm.out))⟩)
          · refine wp_region_held_drew (S := (fun (w' : World) => w'.cell? ⟨w53.heap.size, 0, none⟩ = some (.string X1) ∧ w'.cell? ⟨w53.heap.size, 1, none⟩ = some (.string X2) ∧ w'.cell? ⟨w54.heap.size, 0, none⟩ = some (.string X1) ∧ w'.cell? ⟨w54.heap.size, 1, none⟩ = some (.string Y2) ∧ w'.cell? ⟨w51.heap.size, 0, none⟩ = some (.string y1) ∧ w'.cell? ⟨w51.heap.size, 1, none⟩ = some (.string y2))) (by kernel_rfl) ⟨m01, m02, m11, m12, m21, m22⟩ (fun hH0 => ?_)
            refine wpAnyH_take (i := 0) (oi := ?oi1401) (v := ?vv1401) ?hi1401 ?hn1401 ?hf1401 ?hr1401 ?hq1401 (Or.inl ⟨?hg1401, ?hy1401⟩) hH0 ?rest1401
            case hi1401 => (simp only [List.getElem?_toArray, List.getElem?_cons_zero]; rfl)
            case hn1401 => kernel_rfl
            case hf1401 => kernel_rfl
            case hr1401 => kernel_rfl
            case hg1401 => rfl
            case hy1401 => (intro w hSw; (try dsimp only at hSw); go_simp; first | done | with_reducible rfl)
            case hq1401 => exact fun _ _ _ h => h
            try simp only [Act.put, List.setIfInBounds_toArray, List.set_cons_zero, List.set_cons_succ]
            refine wpAnyH_take (i := 1) (oi := ?oi1402) (v := ?vv1402) ?hi1402 ?hn1402 ?hf1402 ?hr1402 ?hq1402 (Or.inl ⟨?hg1402, ?hy1402⟩) hH0 ?rest1402
            case hi1402 => (simp only [List.getElem?_toArray, List.getElem?_cons_succ, List.getElem?_cons_zero]; rfl)
            case hn1402 => kernel_rfl
            case hf1402 => kernel_rfl
            case hr1402 => kernel_rfl
            case hg1402 => rfl
            case hy1402 => (intro w hSw; (try dsimp only at hSw); go_simp; first | done | with_reducible rfl)
            case hq1402 => exact fun _ _ _ h => h
            try simp only [Act.put, List.setIfInBounds_toArray, List.set_cons_zero, List.set_cons_succ]
            refine wpAnyH_take (i := 2) (oi := ?oi1403) (v := ?vv1403) ?hi1403 ?hn1403 ?hf1403 ?hr1403 ?hq1403 (Or.inl ⟨?hg1403, ?hy1403⟩) hH0 ?rest1403
            case hi1403 => (simp only [List.getElem?_toArray, List.getElem?_cons_succ, List.getElem?_cons_zero]; rfl)
            case hn1403 => kernel_rfl
            case hf1403 => kernel_rfl
            case hr1403 => kernel_rfl
            case hg1403 => rfl
            case hy1403 => (intro w hSw; (try dsimp only at hSw); go_simp; first | done | with_reducible rfl)
            case hq1403 => exact fun _ _ _ h => h
            try simp only [Act.put, List.setIfInBounds_toArray, List.set_cons_zero, List.set_cons_succ]
            refine wpAnyH_take (i := 3) (oi := ?oi1404) (v := ?vv1404) ?hi1404 ?hn1404 ?hf1404 ?hr1404 ?hq1404 (Or.inl ⟨?hg1404, ?hy1404⟩) hH0 ?rest1404
            case hi1404 => (simp only [List.getElem?_toArray, List.getElem?_cons_succ, List.getElem?_cons_zero]; rfl)
            case hn1404 => kernel_rfl
            case hf1404 => kernel_rfl
            case hr1404 => kernel_rfl
            case hg1404 => rfl
            case hy1404 => (intro w hSw; (try dsimp only at hSw); go_simp; first | done | with_reducible rfl)
            case hq1404 => exact fun _ _ _ h => h
            try simp only [Act.put, List.setIfInBounds_toArray, List.set_cons_zero, List.set_cons_succ]
            refine wpAnyH_take (i := 4) (oi := ?oi1405) (v := ?vv1405) ?hi1405 ?hn1405 ?hf1405 ?hr1405 ?hq1405 (Or.inl ⟨?hg1405, ?hy1405⟩) hH0 ?rest1405
            case hi1405 => (simp only [List.getElem?_toArray, List.getElem?_cons_succ, List.getElem?_cons_zero]; rfl)
            case hn1405 => kernel_rfl
            case hf1405 => kernel_rfl
            case hr1405 => kernel_rfl
            case hg1405 => rfl
            case hy1405 => (intro w hSw; (try dsimp only at hSw); go_simp; first | done | with_reducible rfl)
            case hq1405 => exact fun _ _ _ h => h
            try simp only [Act.put, List.setIfInBounds_toArray, List.set_cons_zero, List.set_cons_succ]
            refine wpAnyH_take (i := 5) (oi := ?oi1406) (v := ?vv1406) ?hi1406 ?hn1406 ?hf1406 ?hr1406 ?hq1406 (Or.inl ⟨?hg1406, ?hy1406⟩) hH0 ?rest1406
            case hi1406 => (simp only [List.getElem?_toArray, List.getElem?_cons_succ, List.getElem?_cons_zero]; rfl)
            case hn1406 => kernel_rfl
            case hf1406 => kernel_rfl
            case hr1406 => kernel_rfl
            case hg1406 => rfl
            case hy1406 => (intro w hSw; (try dsimp only at hSw); go_simp; first | done | with_reducible rfl)
            case hq1406 => exact fun _ _ _ h => h
            try simp only [Act.put, List.setIfInBounds_toArray, List.set_cons_zero, List.set_cons_succ]
            refine wpAnyH_take (i := 6) (oi := ?oi1407) (v := ?vv1407) ?hi1407 ?hn1407 ?hf1407 ?hr1407 ?hq1407 (Or.inl ⟨?hg1407, ?hy1407⟩) hH0 ?rest1407
            case hi1407 => (simp only [List.getElem?_toArray, List.getElem?_cons_succ, List.getElem?_cons_zero]; rfl)
            case hn1407 => kernel_rfl
            case hf1407 => kernel_rfl
            case hr1407 => kernel_rfl
            case hg1407 => rfl
            case hy1407 => (intro w hSw; (try dsimp only at hSw); go_simp; first | done | with_reducible rfl)
            case hq1407 => exact fun _ _ _ h => h
            try simp only [Act.put, List.setIfInBounds_toArray, List.set_cons_zero, List.set_cons_succ]
            refine wpAnyH_take (i := 7) (oi := ?oi1408) (v := ?vv1408) ?hi1408 ?hn1408 ?hf1408 ?hr1408 ?hq1408 (Or.inl ⟨?hg1408, ?hy1408⟩) hH0 ?rest1408
            case hi1408 => (simp only [List.getElem?_toArray, List.getElem?_cons_succ, List.getElem?_cons_zero]; rfl)
            case hn1408 => kernel_rfl
            case hf1408 => kernel_rfl
            case hr1408 => kernel_rfl
            case hg1408 => rfl
            case hy1408 => (intro w hSw; (try dsimp only at hSw); go_simp; first | done | with_reducible rfl)
            case hq1408 => exact fun _ _ _ h => h
            try simp only [Act.put, List.setIfInBounds_toArray, List.set_cons_zero, List.set_cons_succ]
            refine wpAnyH_take (i := 8) (oi := ?oi1409) (v := ?vv1409) ?hi1409 ?hn1409 ?hf1409 ?hr1409 ?hq1409 (Or.inl ⟨?hg1409, ?hy1409⟩) hH0 ?rest1409
            case hi1409 => (simp only [List.getElem?_toArray, List.getElem?_cons_succ, List.getElem?_cons_zero]; rfl)
            case hn1409 => kernel_rfl
            case hf1409 => kernel_rfl
            case hr1409 => kernel_rfl
            case hg1409 => rfl
            case hy1409 => (intro w hSw; (try dsimp only at hSw); go_simp; first | done | with_reducible rfl)
            case hq1409 => exact fun _ _ _ h => h
            try simp only [Act.put, List.setIfInBounds_toArray, List.set_cons_zero, List.set_cons_succ]
            refine held_one 9 rfl (by kernel_rfl) (fun K hK => ?_)
            go_simp
            refine (identity_any (w54.alloc (.cells #[.string X1, .string Y2] 25 (0, 0))).drew).mono ?_; rintro e w9 ⟨rfl, hb9⟩
            replace HB := Lib.hid (nx HB.out.drew hb9)
            go_wp2_with fail
            have hH1 : (fun (w' : World) => w'.cell? ⟨w53.heap.size, 0, none⟩ = some (.string X1) ∧ w'.cell? ⟨w53.heap.size, 1, none⟩ = some (.string X2) ∧ w'.cell? ⟨w54.heap.size, 0, none⟩ = some (.string X1) ∧ w'.cell? ⟨w54.heap.size, 1, none⟩ = some (.string Y2) ∧ w'.cell? ⟨w51.heap.size, 0, none⟩ = some (.string y1) ∧ w'.cell? ⟨w51.heap.size, 1, none⟩ = some (.string y2)) _ := ⟨(hb9.cell (p := ⟨w53.heap.size, 0, none⟩) (World.block_lt_of_cell? _ _ m01)).trans m01, (hb9.cell (p := ⟨w53.heap.size, 1, none⟩) (World.block_lt_of_cell? _ _ m02)).trans m02, (hb9.cell (p := ⟨w54.heap.size, 0, none⟩) (World.block_lt_of_cell? _ _ m11)).trans m11, (hb9.cell (p := ⟨w54.heap.size, 1, none⟩) (World.block_lt_of_cell? _ _ m12)).trans m12, (hb9.cell (p := ⟨w51.heap.size, 0, none⟩) (World.block_lt_of_cell? _ _ m21)).trans m21, (hb9.cell (p := ⟨w51.heap.size, 1, none⟩) (World.block_lt_of_cell? _ _ m22)).trans m22⟩
            refine hK.out (fun (w' : World) => w'.cell? ⟨w53.heap.size, 0, none⟩ = some (.string X1) ∧ w'.cell? ⟨w53.heap.size, 1, none⟩ = some (.string X2) ∧ w'.cell? ⟨w54.heap.size, 0, none⟩ = some (.string X1) ∧ w'.cell? ⟨w54.heap.size, 1, none⟩ = some (.string Y2) ∧ w'.cell? ⟨w51.heap.size, 0, none⟩ = some (.string y1) ∧ w'.cell? ⟨w51.heap.size, 1, none⟩ = some (.string y2)) _ _ (fun _ h => h) hH1 ?_
            clear hK K
            try simp only [Act.put, List.setIfInBounds_toArray, List.set_cons_zero, List.set_cons_succ]
            refine wpAnyH_take (i := 10) (oi := ?oi1410) (v := ?vv1410) ?hi1410 ?hn1410 ?hf1410 ?hr1410 ?hq1410 (Or.inl ⟨?hg1410, ?hy1410⟩) hH1 ?rest1410
            case hi1410 => (simp only [List.getElem?_toArray, List.getElem?_cons_succ, List.getElem?_cons_zero]; rfl)
            case hn1410 => kernel_rfl
            case hf1410 => kernel_rfl
            case hr1410 => kernel_rfl
            case hg1410 => rfl
            case hy1410 => (intro w hSw; (try dsimp only at hSw); go_simp; first | done | with_reducible rfl)
            case hq1410 => exact fun _ _ _ h => h
            try simp only [Act.put, List.setIfInBounds_toArray, List.set_cons_zero, List.set_cons_succ]
            refine wpAnyH_take (i := 11) (oi := ?oi1411) (v := ?vv1411) ?hi1411 ?hn1411 ?hf1411 ?hr1411 ?hq1411 (Or.inl ⟨?hg1411, ?hy1411⟩) hH1 ?rest1411
            case hi1411 => (simp only [List.getElem?_toArray, List.getElem?_cons_succ, List.getElem?_cons_zero]; rfl)
            case hn1411 => kernel_rfl
            case hf1411 => kernel_rfl
            case hr1411 => kernel_rfl
            case hg1411 => rfl
            case hy1411 => (intro w hSw; (try dsimp only at hSw); go_simp; first | done | with_reducible rfl)
            case hq1411 => exact fun _ _ _ h => h
            try simp only [Act.put, List.setIfInBounds_toArray, List.set_cons_zero, List.set_cons_succ]
            refine wpAnyH_take (i := 12) (oi := ?oi1412) (v := ?vv1412) ?hi1412 ?hn1412 ?hf1412 ?hr1412 ?hq1412 (Or.inl ⟨?hg1412, ?hy1412⟩) hH1 ?rest1412
            case hi1412 => (simp only [List.getElem?_toArray, List.getElem?_cons_succ, List.getElem?_cons_zero]; rfl)
            case hn1412 => kernel_rfl
            case hf1412 => kernel_rfl
            case hr1412 => kernel_rfl
            case hg1412 => rfl
            case hy1412 => (intro w hSw; (try dsimp only at hSw); go_simp; first | done | with_reducible rfl)
            case hq1412 => exact fun _ _ _ h => h
            try simp only [Act.put, List.setIfInBounds_toArray, List.set_cons_zero, List.set_cons_succ]
            refine wpAnyH_done (by kernel_rfl) ?_ _
            try simp only [List.setIfInBounds_toArray, List.set_cons_zero, List.set_cons_succ]
            go_wp2_with fail
            exact Met.intro (hJJ _ _ ⟨rfl, rfl, rfl, rfl, HB, Lib.hid (heap_keep hb9 (show (w54.alloc (.cells #[.string X1, .string Y2] 25 (0, 0))).drew.heap[w51.heap.size]? = _ from Bm.out))⟩)
          · refine wp_region_held_drew (S := (fun (w' : World) => w'.cell? ⟨w53.heap.size, 0, none⟩ = some (.string X1) ∧ w'.cell? ⟨w53.heap.size, 1, none⟩ = some (.string X2) ∧ w'.cell? ⟨w54.heap.size, 0, none⟩ = some (.string Y1) ∧ w'.cell? ⟨w54.heap.size, 1, none⟩ = some (.string Y2) ∧ w'.cell? ⟨w51.heap.size, 0, none⟩ = some (.string y1) ∧ w'.cell? ⟨w51.heap.size, 1, none⟩ = some (.string y2))) (by kernel_rfl) ⟨m01, m02, m11, m12, m21, m22⟩ (fun hH0 => ?_)
            refine wpAnyH_take (i := 0) (oi := ?oi1601) (v := ?vv1601) ?hi1601 ?hn1601 ?hf1601 ?hr1601 ?hq1601 (Or.inl ⟨?hg1601, ?hy1601⟩) hH0 ?rest1601
            case hi1601 => (simp only [List.getElem?_toArray, List.getElem?_cons_zero]; rfl)
            case hn1601 => kernel_rfl
            case hf1601 => kernel_rfl
            case hr1601 => kernel_rfl
            case hg1601 => rfl
            case hy1601 => (intro w hSw; (try dsimp only at hSw); go_simp; first | done | with_reducible rfl)
            case hq1601 => exact fun _ _ _ h => h
            try simp only [Act.put, List.setIfInBounds_toArray, List.set_cons_zero, List.set_cons_succ]
            refine wpAnyH_take (i := 1) (oi := ?oi1602) (v := ?vv1602) ?hi1602 ?hn1602 ?hf1602 ?hr1602 ?hq1602 (Or.inl ⟨?hg1602, ?hy1602⟩) hH0 ?rest1602
            case hi1602 => (simp only [List.getElem?_toArray, List.getElem?_cons_succ, List.getElem?_cons_zero]; rfl)
            case hn1602 => kernel_rfl
            case hf1602 => kernel_rfl
            case hr1602 => kernel_rfl
            case hg1602 => rfl
            case hy1602 => (intro w hSw; (try dsimp only at hSw); go_simp; first | done | with_reducible rfl)
            case hq1602 => exact fun _ _ _ h => h
            try simp only [Act.put, List.setIfInBounds_toArray, List.set_cons_zero, List.set_cons_succ]
            refine wpAnyH_take (i := 2) (oi := ?oi1603) (v := ?vv1603) ?hi1603 ?hn1603 ?hf1603 ?hr1603 ?hq1603 (Or.inl ⟨?hg1603, ?hy1603⟩) hH0 ?rest1603
            case hi1603 => (simp only [List.getElem?_toArray, List.getElem?_cons_succ, List.getElem?_cons_zero]; rfl)
            case hn1603 => kernel_rfl
            case hf1603 => kernel_rfl
            case hr1603 => kernel_rfl
            case hg1603 => rfl
            case hy1603 => (intro w hSw; (try dsimp only at hSw); go_simp; first | done | with_reducible rfl)
            case hq1603 => exact fun _ _ _ h => h
            try simp only [Act.put, List.setIfInBounds_toArray, List.set_cons_zero, List.set_cons_succ]
            refine wpAnyH_take (i := 3) (oi := ?oi1604) (v := ?vv1604) ?hi1604 ?hn1604 ?hf1604 ?hr1604 ?hq1604 (Or.inl ⟨?hg1604, ?hy1604⟩) hH0 ?rest1604
            case hi1604 => (simp only [List.getElem?_toArray, List.getElem?_cons_succ, List.getElem?_cons_zero]; rfl)
            case hn1604 => kernel_rfl
            case hf1604 => kernel_rfl
            case hr1604 => kernel_rfl
            case hg1604 => rfl
            case hy1604 => (intro w hSw; (try dsimp only at hSw); go_simp; first | done | with_reducible rfl)
            case hq1604 => exact fun _ _ _ h => h
            try simp only [Act.put, List.setIfInBounds_toArray, List.set_cons_zero, List.set_cons_succ]
            refine wpAnyH_take (i := 4) (oi := ?oi1605) (v := ?vv1605) ?hi1605 ?hn1605 ?hf1605 ?hr1605 ?hq1605 (Or.inl ⟨?hg1605, ?hy1605⟩) hH0 ?rest1605
            case hi1605 => (simp only [List.getElem?_toArray, List.getElem?_cons_succ, List.getElem?_cons_zero]; rfl)
            case hn1605 => kernel_rfl
            case hf1605 => kernel_rfl
            case hr1605 => kernel_rfl
            case hg1605 => rfl
            case hy1605 => (intro w hSw; (try dsimp only at hSw); go_simp; first | done | with_reducible rfl)
            case hq1605 => exact fun _ _ _ h => h
            try simp only [Act.put, List.setIfInBounds_toArray, List.set_cons_zero, List.set_cons_succ]
            refine wpAnyH_take (i := 5) (oi := ?oi1606) (v := ?vv1606) ?hi1606 ?hn1606 ?hf1606 ?hr1606 ?hq1606 (Or.inl ⟨?hg1606, ?hy1606⟩) hH0 ?rest1606
            case hi1606 => (simp only [List.getElem?_toArray, List.getElem?_cons_succ, List.getElem?_cons_zero]; rfl)
            case hn1606 => kernel_rfl
            case hf1606 => kernel_rfl
            case hr1606 => kernel_rfl
            case hg1606 => rfl
            case hy1606 => (intro w hSw; (try dsimp only at hSw); go_simp; first | done | with_reducible rfl)
            case hq1606 => exact fun _ _ _ h => h
            try simp only [Act.put, List.setIfInBounds_toArray, List.set_cons_zero, List.set_cons_succ]
            refine wpAnyH_take (i := 6) (oi := ?oi1607) (v := ?vv1607) ?hi1607 ?hn1607 ?hf1607 ?hr1607 ?hq1607 (Or.inl ⟨?hg1607, ?hy1607⟩) hH0 ?rest1607
            case hi1607 => (simp only [List.getElem?_toArray, List.getElem?_cons_succ, List.getElem?_cons_zero]; rfl)
            case hn1607 => kernel_rfl
            case hf1607 => kernel_rfl
            case hr1607 => kernel_rfl
            case hg1607 => rfl
            case hy1607 => (intro w hSw; (try dsimp only at hSw); go_simp; first | done | with_reducible rfl)
            case hq1607 => exact fun _ _ _ h => h
            try simp only [Act.put, List.setIfInBounds_toArray, List.set_cons_zero, List.set_cons_succ]
            refine wpAnyH_take (i := 7) (oi := ?oi1608) (v := ?vv1608) ?hi1608 ?hn1608 ?hf1608 ?hr1608 ?hq1608 (Or.inl ⟨?hg1608, ?hy1608⟩) hH0 ?rest1608
            case hi1608 => (simp only [List.getElem?_toArray, List.getElem?_cons_succ, List.getElem?_cons_zero]; rfl)
            case hn1608 => kernel_rfl
            case hf1608 => kernel_rfl
            case hr1608 => kernel_rfl
            case hg1608 => rfl
            case hy1608 => (intro w hSw; (try dsimp only at hSw); go_simp; first | done | with_reducible rfl)
            case hq1608 => exact fun _ _ _ h => h
            try simp only [Act.put, List.setIfInBounds_toArray, List.set_cons_zero, List.set_cons_succ]
            refine wpAnyH_take (i := 8) (oi := ?oi1609) (v := ?vv1609) ?hi1609 ?hn1609 ?hf1609 ?hr1609 ?hq1609 (Or.inl ⟨?hg1609, ?hy1609⟩) hH0 ?rest1609
            case hi1609 => (simp only [List.getElem?_toArray, List.getElem?_cons_succ, List.getElem?_cons_zero]; rfl)
            case hn1609 => kernel_rfl
            case hf1609 => kernel_rfl
            case hr1609 => kernel_rfl
            case hg1609 => rfl
            case hy1609 => (intro w hSw; (try dsimp only at hSw); go_simp; first | done | with_reducible rfl)
            case hq1609 => exact fun _ _ _ h => h
            try simp only [Act.put, List.setIfInBounds_toArray, List.set_cons_zero, List.set_cons_succ]
            refine held_one 9 rfl (by kernel_rfl) (fun K hK => ?_)
            go_simp
            refine (identity_any (w54.alloc (.cells #[.string Y1, .string Y2] 25 (0, 0))).drew).mono ?_; rintro e w9 ⟨rfl, hb9⟩
            replace HB := Lib.hid (nx HB.out.drew hb9)
            go_wp2_with fail
            have hH1 : (fun (w' : World) => w'.cell? ⟨w53.heap.size, 0, none⟩ = some (.string X1) ∧ w'.cell? ⟨w53.heap.size, 1, none⟩ = some (.string X2) ∧ w'.cell? ⟨w54.heap.size, 0, none⟩ = some (.string Y1) ∧ w'.cell? ⟨w54.heap.size, 1, none⟩ = some (.string Y2) ∧ w'.cell? ⟨w51.heap.size, 0, none⟩ = some (.string y1) ∧ w'.cell? ⟨w51.heap.size, 1, none⟩ = some (.string y2)) _ := ⟨(hb9.cell (p := ⟨w53.heap.size, 0, none⟩) (World.block_lt_of_cell? _ _ m01)).trans m01, (hb9.cell (p := ⟨w53.heap.size, 1, none⟩) (World.block_lt_of_cell? _ _ m02)).trans m02, (hb9.cell (p := ⟨w54.heap.size, 0, none⟩) (World.block_lt_of_cell? _ _ m11)).trans m11, (hb9.cell (p := ⟨w54.heap.size, 1, none⟩) (World.block_lt_of_cell? _ _ m12)).trans m12, (hb9.cell (p := ⟨w51.heap.size, 0, none⟩) (World.block_lt_of_cell? _ _ m21)).trans m21, (hb9.cell (p := ⟨w51.heap.size, 1, none⟩) (World.block_lt_of_cell? _ _ m22)).trans m22⟩
            refine hK.out (fun (w' : World) => w'.cell? ⟨w53.heap.size, 0, none⟩ = some (.string X1) ∧ w'.cell? ⟨w53.heap.size, 1, none⟩ = some (.string X2) ∧ w'.cell? ⟨w54.heap.size, 0, none⟩ = some (.string Y1) ∧ w'.cell? ⟨w54.heap.size, 1, none⟩ = some (.string Y2) ∧ w'.cell? ⟨w51.heap.size, 0, none⟩ = some (.string y1) ∧ w'.cell? ⟨w51.heap.size, 1, none⟩ = some (.string y2)) _ _ (fun _ h => h) hH1 ?_
            clear hK K
            try simp only [Act.put, List.setIfInBounds_toArray, List.set_cons_zero, List.set_cons_succ]
            refine wpAnyH_take (i := 10) (oi := ?oi1610) (v := ?vv1610) ?hi1610 ?hn1610 ?hf1610 ?hr1610 ?hq1610 (Or.inl ⟨?hg1610, ?hy1610⟩) hH1 ?rest1610
            case hi1610 => (simp only [List.getElem?_toArray, List.getElem?_cons_succ, List.getElem?_cons_zero]; rfl)
            case hn1610 => kernel_rfl
            case hf1610 => kernel_rfl
            case hr1610 => kernel_rfl
            case hg1610 => rfl
            case hy1610 => (intro w hSw; (try dsimp only at hSw); go_simp; first | done | with_reducible rfl)
            case hq1610 => exact fun _ _ _ h => h
            try simp only [Act.put, List.setIfInBounds_toArray, List.set_cons_zero, List.set_cons_succ]
            refine wpAnyH_take (i := 11) (oi := ?oi1611) (v := ?vv1611) ?hi1611 ?hn1611 ?hf1611 ?hr1611 ?hq1611 (Or.inl ⟨?hg1611, ?hy1611⟩) hH1 ?rest1611
            case hi1611 => (simp only [List.getElem?_toArray, List.getElem?_cons_succ, List.getElem?_cons_zero]; rfl)
            case hn1611 => kernel_rfl
            case hf1611 => kernel_rfl
            case hr1611 => kernel_rfl
            case hg1611 => rfl
            case hy1611 => (intro w hSw; (try dsimp only at hSw); go_simp; first | done | with_reducible rfl)
            case hq1611 => exact fun _ _ _ h => h
            try simp only [Act.put, List.setIfInBounds_toArray, List.set_cons_zero, List.set_cons_succ]
            refine wpAnyH_take (i := 12) (oi := ?oi1612) (v := ?vv1612) ?hi1612 ?hn1612 ?hf1612 ?hr1612 ?hq1612 (Or.inl ⟨?hg1612, ?hy1612⟩) hH1 ?rest1612
            case hi1612 => (simp only [List.getElem?_toArray, List.getElem?_cons_succ, List.getElem?_cons_zero]; rfl)
            case hn1612 => kernel_rfl
            case hf1612 => kernel_rfl
            case hr1612 => kernel_rfl
            case hg1612 => rfl
            case hy1612 => (intro w hSw; (try dsimp only at hSw); go_simp; first | done | with_reducible rfl)
            case hq1612 => exact fun _ _ _ h => h
            try simp only [Act.put, List.setIfInBounds_toArray, List.set_cons_zero, List.set_cons_succ]
            refine wpAnyH_done (by kernel_rfl) ?_ _
            try simp only [List.setIfInBounds_toArray, List.set_cons_zero, List.set_cons_succ]
            go_wp2_with fail
            exact Met.intro (hJJ _ _ ⟨rfl, rfl, rfl, rfl, HB, Lib.hid (heap_keep hb9 (show (w54.alloc (.cells #[.string Y1, .string Y2] 25 (0, 0))).drew.heap[w51.heap.size]? = _ from Bm.out))⟩)
        case rest2 =>
          intro a wc hcut
          obtain ⟨ks, kd, k43, k298, HC0, HC1⟩ := hcut
          obtain ⟨f, rfl⟩ := frame308_1 a ks kd k43 k298
          clear HB Bp Bq Bx By Bm hc m01 m02 m03 m11 m12 m13 m21 m22 m23
          have HB := HC0
          have Bm := HC1
          clear HC0 HC1
          obtain ⟨fm1, fm2, fm3⟩ := two_facts Bm.out
          go_wp2_with fail
          refine (g3 _).mono ?_; rintro e w55 ⟨rfl, hb⟩
          clear fm1 fm2 fm3
          replace Bm := Lib.hid (heap_keep hb Bm.out)
          replace HB := Lib.hid (nx HB.out hb)
          clear hb
          go_wp2_with fail
          go_ret
          exact ⟨rfl, HB.out⟩
end Go.Proofs.YtjmbkieocmhmiaaGreat
