/- FnGeneratorsRelate: for every input the law returns true and leaves its arguments as they were. No conditions. -/
import Derived.Test.YtjmbkieocmhmiaaMgGeneratorsRelate2
import Derived.ProofKit
import Derived.OpenShut
import Derived.ShutString
import Derived.ChangeOld
import Derived.Below
/-! WGeneratorsRelate -/
namespace Go.Proofs.Ytjmbkieocmhmiaa
open Go.RowKit

theorem sumval {U P Q T : Nat} (h : T = U + P * Q) (_h1 : P ≤ 200) (_h2 : Q ≤ 50) (h3 : T ≤ 10000) : Value.int .i64 (wrap64 ((U : Int) + (P : Int) * (Q : Int))) = .int .i64 T := by
  have e : (P : Int) * (Q : Int) = ((P * Q : Nat) : Int) := (Int.natCast_mul P Q).symm
  rw [e]
  generalize P * Q = R at *
  congr 1
  unfold wrap64
  omega
def sumGN (n : Nat) : Nat → Nat
  | 0 => 0
  | k + 1 => sumGN n k + (crV k).toNat * listsN (k + 1) (n - k)
theorem sumG : ∀ n, n ≤ 4 → sumGN n (n + 1) = catN n * catN n := by decide +kernel
theorem sumG_bd : ∀ n, n ≤ 4 → ∀ k, k ≤ n → (crV k).toNat ≤ 200 ∧ listsN (k + 1) (n - k) ≤ 50 ∧ sumGN n (k + 1) ≤ 10000 := by decide +kernel
theorem rcombG_eq : ∀ n, rcombG n = rcomb n := by
  intro n
  induction n with
  | zero => rfl
  | succ n ih => rw [rcombG, rcomb, ih]
theorem genPG_eq (i : Nat) : genPG i = genP i := by
  unfold genPG genP
  rw [rcombG_eq, rcombG_eq]
  rfl
theorem gen_ok (i : Nat) (h : i ≤ 7) : (genP i).1.carets = i + 2 ∧ (genP i).2.carets = i + 2 ∧ (both (genP i)).isEmpty = true := by
  rw [← genPG_eq]; exact gen_okG i h
theorem gen_pair (i : Nat) (h : i ≤ 6) : pairOf (genP i).1.str (genP i).2.str = some (genP i) := by
  obtain ⟨h1, h2, _⟩ := gen_ok i (by omega)
  exact pairOf_str (by unfold okP; omega) (by omega)
/-- What a round of the law asks. -/
def RoundG (i k : Nat) (X1 X2 : ByteArray) : Prop :=
  ∃ Y1 Y2 : ByteArray, Y1.size ≤ 40 ∧ Y2.size ≤ 40 ∧ (∀ w, Calls Try.prog 6 #[.int .i64 k] w (Gives (.tuple #[.agg #[.string Y1, .string Y2], .bool true]) w)) ∧
  (∀ w, Calls Try.prog 8 #[.agg #[.string Y1, .string Y2]] w (Gives (.tuple #[.agg #[.string Y2, .string Y1], .bool true]) w)) ∧
  ((∃ F1 F2 G1 G2 : ByteArray, (∀ w, Calls Try.prog 9 #[.agg #[.string Y2, .string Y1], .agg #[.string X1, .string X2]] w (Gives (.tuple #[.agg #[.string F1, .string F2], .bool true]) w)) ∧
    (∀ w, Calls Try.prog 9 #[.agg #[.string F1, .string F2], .agg #[.string Y1, .string Y2]] w (Gives (.tuple #[.agg #[.string G1, .string G2], .bool true]) w)) ∧
    (∀ w, Calls Try.prog 6 #[.int .i64 ((i : Int) + 1)] w (Gives (.tuple #[.agg #[.string G1, .string G2], .bool true]) w))) ∨
   ∃ H1 H2 : ByteArray, ∃ b : Bool, (∀ w, Calls Try.prog 9 #[.agg #[.string Y2, .string Y1], .agg #[.string X1, .string X2]] w (Gives (.tuple #[.agg #[.string ⟨#[]⟩, .string ⟨#[]⟩], .bool false]) w)) ∧
    (∀ w, Calls Try.prog 9 #[.agg #[.string ⟨#[]⟩, .string ⟨#[]⟩], .agg #[.string Y1, .string Y2]] w (Gives (.tuple #[.agg #[.string ⟨#[]⟩, .string ⟨#[]⟩], .bool false]) w)) ∧
    (∀ w, Calls Try.prog 6 #[.int .i64 ((i : Int) + 1)] w (Gives (.tuple #[.agg #[.string H1, .string H2], .bool b]) w)))
theorem gen_calls (i k : Nat) (hi : i ≤ 6) (hk : k < i) : RoundG i k (genP i).1.str (genP i).2.str := by
  obtain ⟨a1, a2, a3⟩ := gen_ok i (by omega)
  obtain ⟨b1, b2, b3⟩ := gen_ok k (by omega)
  have s1 := (genP i).1.str_size
  have s2 := (genP i).2.str_size
  have s3 := (genP k).1.str_size
  have s4 := (genP k).2.str_size
  have pk := gen_pair k (by omega)
  have pi := gen_pair i hi
  have okk : okP (genP k) := by unfold okP; omega
  have oki : okP (genP i) := by unfold okP; omega
  have oki2 : okP (invP (genP k)) := by show (genP k).2.carets = (genP k).1.carets; omega
  have pinv : pairOf (genP k).2.str (genP k).1.str = some (invP (genP k)) := pairOf_str (p := invP (genP k)) oki2 (by show (genP k).2.carets ≤ 8; omega)
  refine ⟨(genP k).1.str, (genP k).2.str, by omega, by omega, fun w => ?_, fun w => ?_, ?_⟩
  · have := implGeneratorPair_any (k : Int) w (by omega) (by omega)
    rwa [show genO (k : Int) = some (genP k) by simp only [genO]; rw [if_pos (by omega), Int.toNat_natCast]] at this
  · have := implInversePair_any (genP k).1.str (genP k).2.str w (by omega) (by omega)
    rw [pk] at this
    exact this
  · by_cases h5 : i ≤ 5
    · left
      obtain ⟨e1, e2, e3, e4⟩ := gen_relG i h5 k hk
      rw [genPG_eq, genPG_eq] at e1 e2 e3 e4
      rw [genPG_eq] at e1 e2
      obtain ⟨F, hF⟩ : ∃ F, F = mulP (invP (genP k)) (genP i) := ⟨_, rfl⟩
      rw [← hF] at e1 e2 e3 e4
      have okF : okP F := by rw [hF]; exact mulP_ok oki2 oki
      have okF' : F.1.carets = F.2.carets := okF
      have f1 := F.1.str_size
      have f2 := F.2.str_size
      refine ⟨F.1.str, F.2.str, (genP (i + 1)).1.str, (genP (i + 1)).2.str, fun w => ?_, fun w => ?_, fun w => ?_⟩
      · have := implProductPair_any (genP k).2.str (genP k).1.str (genP i).1.str (genP i).2.str w (by omega) (by omega) (by omega) (by omega)
        rw [pinv, pi] at this
        simp only [Option.bind_some] at this
        rw [← hF, show limP F = some F by unfold limP; rw [if_pos e3]] at this
        exact this
      · have := implProductPair_any F.1.str F.2.str (genP k).1.str (genP k).2.str w (by omega) (by omega) (by omega) (by omega)
        rw [pairOf_str okF e3, pk] at this
        simp only [Option.bind_some] at this
        rw [show limP (mulP F (genP k)) = some (mulP F (genP k)) by unfold limP; rw [if_pos e4]] at this
        rw [← e1, ← e2]
        exact this
      · have := implGeneratorPair_any ((i : Int) + 1) w (by omega) (by omega)
        rwa [show genO ((i : Int) + 1) = some (genP (i + 1)) by simp only [genO]; rw [if_pos (by omega), show ((i : Int) + 1).toNat = i + 1 by omega]] at this
    · right
      obtain rfl : i = 6 := by omega
      have e3 := gen_lastG k hk
      rw [genPG_eq, genPG_eq] at e3
      refine ⟨⟨#[]⟩, ⟨#[]⟩, false, fun w => ?_, fun w => ?_, fun w => ?_⟩
      · have := implProductPair_any (genP k).2.str (genP k).1.str (genP 6).1.str (genP 6).2.str w (by omega) (by omega) (by omega) (by omega)
        rw [pinv, pi] at this
        simp only [Option.bind_some] at this
        rw [show limP (mulP (invP (genP k)) (genP 6)) = none by unfold limP; rw [if_neg (by omega)]] at this
        exact this
      · have := implProductPair_any ⟨#[]⟩ ⟨#[]⟩ (genP k).1.str (genP k).2.str w (by decide) (by decide) (by omega) (by omega)
        rw [show pairOf ⟨#[]⟩ ⟨#[]⟩ = none from rfl] at this
        exact this
      · have := implGeneratorPair_any ((6 : Nat) + 1 : Int) w (by omega) (by omega)
        rwa [show genO ((6 : Nat) + 1 : Int) = none from rfl] at this

set_option maxRecDepth 100000 in
set_option maxHeartbeats 8000000 in
theorem generatorsRelate_law (W : World) (c d : Bts) (hc : InB W c) (hd : InB W d) (hn : c.n + d.n ≤ 1048576) :
    Calls Try.prog 3 #[.slice c.a c.n c.cap, .slice d.a d.n d.cap] W (SaysTrue W) := by
  go_enter Try.func3, Try.ntmps3
  go_wp2_with fail
  refine (big_no c d _ hn).mono ?_; rintro e w1 ⟨rfl, rfl⟩
  have HB := Lib.hid (Below.refl W.heap.size W)
  go_wp2_with fail
  refine (drawGeneratorPair_any c _ hc).mono ?_; rintro e w31 ⟨i, hi1, hi2, rfl, hb⟩
  replace HB := Lib.hid (nx HB.out hb)
  clear hb
  go_wp2_with fail
  have h1 := fun w => implGeneratorPair_any i w (by omega) (by omega)
  have h2 := fun w => specGeneratorPair_any i w (by omega) (by omega)
  by_cases hin : 0 ≤ i ∧ i ≤ 6
  · obtain ⟨i, rfl⟩ : ∃ k : Nat, i = k := ⟨i.toNat, by omega⟩
    have hi6 : i ≤ 6 := by omega
    rw [show genO (i : Int) = some (genP i) by simp only [genO]; rw [if_pos hin, Int.toNat_natCast]] at h1 h2
    simp only [ansPr, pS1, pS2, Option.isSome_some] at h1 h2
    obtain ⟨X1, hX1⟩ : ∃ s, s = (genP i).1.str := ⟨_, rfl⟩
    obtain ⟨X2, hX2⟩ : ∃ s, s = (genP i).2.str := ⟨_, rfl⟩
    have hI := fun w => implIsReduced_any X1 X2 w (by rw [hX1, Tr.str_size]; have := (gen_ok i (by omega)).1; omega) (by rw [hX2, Tr.str_size]; have := (gen_ok i (by omega)).2.1; omega)
    rw [show pairOf X1 X2 = some (genP i) by rw [hX1, hX2]; exact gen_pair i hi6] at hI
    simp only [Option.bind_some, (gen_ok i (by omega)).2.2, ansB_some] at hI
    have HG := Lib.hid (fun k (hk : k < i) => gen_calls i k hi6 hk)
    rw [← hX1, ← hX2] at h1 h2
    rw [← hX1, ← hX2] at HG
    clear hX1 hX2
    refine (h1 _).mono ?_; rintro e w48 ⟨rfl, hb⟩
    replace HB := Lib.hid (nx HB.out hb)
    clear hb
    have Bx := Lib.hid (heap_alloc_at w48 (.cells #[.string X1, .string X2] 26 (0, 0)))
    replace HB := Lib.hid (nxAlloc HB.out (.cells #[.string X1, .string X2] 26 (0, 0)))
    go_wp2_with fail
    refine (h2 _).mono ?_; rintro e w49 ⟨rfl, hb⟩
    replace Bx := Lib.hid (heap_keep hb Bx.out)
    replace HB := Lib.hid (nx HB.out hb)
    clear hb
    clear h1 h2
    replace Bx := Lib.hid (heap_keep (allocB w49 (.cells #[.string X1, .string X2] 26 (0, 0))) Bx.out)
    have Br := Lib.hid (heap_alloc_at w49 (.cells #[.string X1, .string X2] 26 (0, 0)))
    replace HB := Lib.hid (nxAlloc HB.out (.cells #[.string X1, .string X2] 26 (0, 0)))
    obtain ⟨fx1, fx2, fx3⟩ := two_facts Bx.out
    obtain ⟨fr1, fr2, fr3⟩ := two_facts Br.out
    go_wp2_with fail
    clear fx1 fx2 fx3 fr1 fr2 fr3
    clear Br
    go_loopw [10] (fun j wr => ∃ k : Nat, k ≤ i ∧ j = .int .i64 k ∧ Hid (Below W.heap.size W wr) ∧ Hid (wr.heap[w48.heap.size]? = some (.cells #[.string X1, .string X2] 26 (0, 0)))) (fun j _ => i - (intOf j).toNat)
    case atStart => exact ⟨0, by omega, rfl, HB, Bx⟩
    case round =>
      clear HB Bx
      obtain ⟨k, hk, rfl, HB, Bx⟩ := hrel
      by_cases hlt : k < i
      · have hlt' : (k : Int) < (i : Int) := by omega
        obtain ⟨Y1, Y2, yz1, yz2, g1, g2, hr⟩ := HG.out k hlt
        rcases hr with ⟨F1, F2, G1, G2, g3, g4, g5⟩ | ⟨H1, H2, bb, g3, g4, g5⟩
        · go_wp2_with fail
          refine (g1 _).mono ?_; rintro e w50 ⟨rfl, hb⟩
          replace Bx := Lib.hid (heap_keep hb Bx.out)
          replace HB := Lib.hid (nx HB.out hb)
          clear hb
          replace Bx := Lib.hid (heap_keep (allocB w50 (.cells #[.string Y1, .string Y2] 26 (0, 0))) Bx.out)
          have By := Lib.hid (heap_alloc_at w50 (.cells #[.string Y1, .string Y2] 26 (0, 0)))
          replace HB := Lib.hid (nxAlloc HB.out (.cells #[.string Y1, .string Y2] 26 (0, 0)))
          obtain ⟨fy1, fy2, fy3⟩ := two_facts By.out
          go_wp2_with fail
          refine (g2 _).mono ?_; rintro e w51 ⟨rfl, hb⟩
          clear fy1 fy2 fy3
          replace Bx := Lib.hid (heap_keep hb Bx.out)
          replace By := Lib.hid (heap_keep hb By.out)
          replace HB := Lib.hid (nx HB.out hb)
          clear hb
          replace Bx := Lib.hid (heap_keep (allocB w51 (.cells #[.string Y2, .string Y1] 26 (0, 0))) Bx.out)
          replace By := Lib.hid (heap_keep (allocB w51 (.cells #[.string Y2, .string Y1] 26 (0, 0))) By.out)
          have Bv := Lib.hid (heap_alloc_at w51 (.cells #[.string Y2, .string Y1] 26 (0, 0)))
          replace HB := Lib.hid (nxAlloc HB.out (.cells #[.string Y2, .string Y1] 26 (0, 0)))
          obtain ⟨fv1, fv2, fv3⟩ := two_facts Bv.out
          obtain ⟨fx1, fx2, fx3⟩ := two_facts Bx.out
          go_wp2_with fail
          refine (g3 _).mono ?_; rintro e w52 ⟨rfl, hb⟩
          clear fv1 fv2 fv3 fx1 fx2 fx3
          replace Bx := Lib.hid (heap_keep hb Bx.out)
          replace By := Lib.hid (heap_keep hb By.out)
          replace Bv := Lib.hid (heap_keep hb Bv.out)
          replace HB := Lib.hid (nx HB.out hb)
          clear hb
          replace Bx := Lib.hid (heap_keep (allocB w52 (.cells #[.string F1, .string F2] 26 (0, 0))) Bx.out)
          replace By := Lib.hid (heap_keep (allocB w52 (.cells #[.string F1, .string F2] 26 (0, 0))) By.out)
          replace Bv := Lib.hid (heap_keep (allocB w52 (.cells #[.string F1, .string F2] 26 (0, 0))) Bv.out)
          have Bf := Lib.hid (heap_alloc_at w52 (.cells #[.string F1, .string F2] 26 (0, 0)))
          replace HB := Lib.hid (nxAlloc HB.out (.cells #[.string F1, .string F2] 26 (0, 0)))
          obtain ⟨ff1, ff2, ff3⟩ := two_facts Bf.out
          obtain ⟨fy1, fy2, fy3⟩ := two_facts By.out
          go_wp2_with fail
          refine (g4 _).mono ?_; rintro e w53 ⟨rfl, hb⟩
          clear ff1 ff2 ff3 fy1 fy2 fy3
          replace Bx := Lib.hid (heap_keep hb Bx.out)
          replace By := Lib.hid (heap_keep hb By.out)
          replace Bv := Lib.hid (heap_keep hb Bv.out)
          replace Bf := Lib.hid (heap_keep hb Bf.out)
          replace HB := Lib.hid (nx HB.out hb)
          clear hb
          replace Bx := Lib.hid (heap_keep (allocB w53 (.cells #[.string G1, .string G2] 26 (0, 0))) Bx.out)
          replace By := Lib.hid (heap_keep (allocB w53 (.cells #[.string G1, .string G2] 26 (0, 0))) By.out)
          replace Bv := Lib.hid (heap_keep (allocB w53 (.cells #[.string G1, .string G2] 26 (0, 0))) Bv.out)
          replace Bf := Lib.hid (heap_keep (allocB w53 (.cells #[.string G1, .string G2] 26 (0, 0))) Bf.out)
          have Bg := Lib.hid (heap_alloc_at w53 (.cells #[.string G1, .string G2] 26 (0, 0)))
          replace HB := Lib.hid (nxAlloc HB.out (.cells #[.string G1, .string G2] 26 (0, 0)))
          go_wp2_with fail
          refine (g5 _).mono ?_; rintro e w54 ⟨rfl, hb⟩
          replace Bx := Lib.hid (heap_keep hb Bx.out)
          replace By := Lib.hid (heap_keep hb By.out)
          replace Bv := Lib.hid (heap_keep hb Bv.out)
          replace Bf := Lib.hid (heap_keep hb Bf.out)
          replace Bg := Lib.hid (heap_keep hb Bg.out)
          replace HB := Lib.hid (nx HB.out hb)
          clear hb
          clear g1 g2 g3 g4 g5
          replace Bx := Lib.hid (heap_keep (allocB w54 (.cells #[.string G1, .string G2] 26 (0, 0))) Bx.out)
          replace By := Lib.hid (heap_keep (allocB w54 (.cells #[.string G1, .string G2] 26 (0, 0))) By.out)
          replace Bv := Lib.hid (heap_keep (allocB w54 (.cells #[.string G1, .string G2] 26 (0, 0))) Bv.out)
          replace Bf := Lib.hid (heap_keep (allocB w54 (.cells #[.string G1, .string G2] 26 (0, 0))) Bf.out)
          replace Bg := Lib.hid (heap_keep (allocB w54 (.cells #[.string G1, .string G2] 26 (0, 0))) Bg.out)
          have Bn := Lib.hid (heap_alloc_at w54 (.cells #[.string G1, .string G2] 26 (0, 0)))
          replace HB := Lib.hid (nxAlloc HB.out (.cells #[.string G1, .string G2] 26 (0, 0)))
          obtain ⟨fg1, fg2, fg3⟩ := two_facts Bg.out
          obtain ⟨fn1, fn2, fn3⟩ := two_facts Bn.out
          go_wp2_with fail
          clear fg1 fg2 fg3 fn1 fn2 fn3
          clear By
          clear Bv
          clear Bf
          clear Bg
          clear Bn
          go_roundw
          case rel => exact ⟨k + 1, by omega, by go_num, HB, Bx⟩
          case measure => simp [intOf]; omega
        · go_wp2_with fail
          refine (g1 _).mono ?_; rintro e w55 ⟨rfl, hb⟩
          replace Bx := Lib.hid (heap_keep hb Bx.out)
          replace HB := Lib.hid (nx HB.out hb)
          clear hb
          replace Bx := Lib.hid (heap_keep (allocB w55 (.cells #[.string Y1, .string Y2] 26 (0, 0))) Bx.out)
          have By := Lib.hid (heap_alloc_at w55 (.cells #[.string Y1, .string Y2] 26 (0, 0)))
          replace HB := Lib.hid (nxAlloc HB.out (.cells #[.string Y1, .string Y2] 26 (0, 0)))
          obtain ⟨fy1, fy2, fy3⟩ := two_facts By.out
          go_wp2_with fail
          refine (g2 _).mono ?_; rintro e w56 ⟨rfl, hb⟩
          clear fy1 fy2 fy3
          replace Bx := Lib.hid (heap_keep hb Bx.out)
          replace By := Lib.hid (heap_keep hb By.out)
          replace HB := Lib.hid (nx HB.out hb)
          clear hb
          replace Bx := Lib.hid (heap_keep (allocB w56 (.cells #[.string Y2, .string Y1] 26 (0, 0))) Bx.out)
          replace By := Lib.hid (heap_keep (allocB w56 (.cells #[.string Y2, .string Y1] 26 (0, 0))) By.out)
          have Bv := Lib.hid (heap_alloc_at w56 (.cells #[.string Y2, .string Y1] 26 (0, 0)))
          replace HB := Lib.hid (nxAlloc HB.out (.cells #[.string Y2, .string Y1] 26 (0, 0)))
          obtain ⟨fv1, fv2, fv3⟩ := two_facts Bv.out
          obtain ⟨fx1, fx2, fx3⟩ := two_facts Bx.out
          go_wp2_with fail
          refine (g3 _).mono ?_; rintro e w57 ⟨rfl, hb⟩
          clear fv1 fv2 fv3 fx1 fx2 fx3
          replace Bx := Lib.hid (heap_keep hb Bx.out)
          replace By := Lib.hid (heap_keep hb By.out)
          replace Bv := Lib.hid (heap_keep hb Bv.out)
          replace HB := Lib.hid (nx HB.out hb)
          clear hb
          replace Bx := Lib.hid (heap_keep (allocB w57 (.cells #[.string ⟨#[]⟩, .string ⟨#[]⟩] 26 (0, 0))) Bx.out)
          replace By := Lib.hid (heap_keep (allocB w57 (.cells #[.string ⟨#[]⟩, .string ⟨#[]⟩] 26 (0, 0))) By.out)
          replace Bv := Lib.hid (heap_keep (allocB w57 (.cells #[.string ⟨#[]⟩, .string ⟨#[]⟩] 26 (0, 0))) Bv.out)
          have Bf := Lib.hid (heap_alloc_at w57 (.cells #[.string ⟨#[]⟩, .string ⟨#[]⟩] 26 (0, 0)))
          replace HB := Lib.hid (nxAlloc HB.out (.cells #[.string ⟨#[]⟩, .string ⟨#[]⟩] 26 (0, 0)))
          obtain ⟨ff1, ff2, ff3⟩ := two_facts Bf.out
          obtain ⟨fy1, fy2, fy3⟩ := two_facts By.out
          go_wp2_with fail
          refine (g4 _).mono ?_; rintro e w58 ⟨rfl, hb⟩
          clear ff1 ff2 ff3 fy1 fy2 fy3
          replace Bx := Lib.hid (heap_keep hb Bx.out)
          replace By := Lib.hid (heap_keep hb By.out)
          replace Bv := Lib.hid (heap_keep hb Bv.out)
          replace Bf := Lib.hid (heap_keep hb Bf.out)
          replace HB := Lib.hid (nx HB.out hb)
          clear hb
          replace Bx := Lib.hid (heap_keep (allocB w58 (.cells #[.string ⟨#[]⟩, .string ⟨#[]⟩] 26 (0, 0))) Bx.out)
          replace By := Lib.hid (heap_keep (allocB w58 (.cells #[.string ⟨#[]⟩, .string ⟨#[]⟩] 26 (0, 0))) By.out)
          replace Bv := Lib.hid (heap_keep (allocB w58 (.cells #[.string ⟨#[]⟩, .string ⟨#[]⟩] 26 (0, 0))) Bv.out)
          replace Bf := Lib.hid (heap_keep (allocB w58 (.cells #[.string ⟨#[]⟩, .string ⟨#[]⟩] 26 (0, 0))) Bf.out)
          have Bg := Lib.hid (heap_alloc_at w58 (.cells #[.string ⟨#[]⟩, .string ⟨#[]⟩] 26 (0, 0)))
          replace HB := Lib.hid (nxAlloc HB.out (.cells #[.string ⟨#[]⟩, .string ⟨#[]⟩] 26 (0, 0)))
          go_wp2_with fail
          refine (g5 _).mono ?_; rintro e w59 ⟨rfl, hb⟩
          replace Bx := Lib.hid (heap_keep hb Bx.out)
          replace By := Lib.hid (heap_keep hb By.out)
          replace Bv := Lib.hid (heap_keep hb Bv.out)
          replace Bf := Lib.hid (heap_keep hb Bf.out)
          replace Bg := Lib.hid (heap_keep hb Bg.out)
          replace HB := Lib.hid (nx HB.out hb)
          clear hb
          clear g1 g2 g3 g4 g5
          replace Bx := Lib.hid (heap_keep (allocB w59 (.cells #[.string H1, .string H2] 26 (0, 0))) Bx.out)
          replace By := Lib.hid (heap_keep (allocB w59 (.cells #[.string H1, .string H2] 26 (0, 0))) By.out)
          replace Bv := Lib.hid (heap_keep (allocB w59 (.cells #[.string H1, .string H2] 26 (0, 0))) Bv.out)
          replace Bf := Lib.hid (heap_keep (allocB w59 (.cells #[.string H1, .string H2] 26 (0, 0))) Bf.out)
          replace Bg := Lib.hid (heap_keep (allocB w59 (.cells #[.string H1, .string H2] 26 (0, 0))) Bg.out)
          have Bn := Lib.hid (heap_alloc_at w59 (.cells #[.string H1, .string H2] 26 (0, 0)))
          replace HB := Lib.hid (nxAlloc HB.out (.cells #[.string H1, .string H2] 26 (0, 0)))
          obtain ⟨fg1, fg2, fg3⟩ := two_facts Bg.out
          obtain ⟨fn1, fn2, fn3⟩ := two_facts Bn.out
          go_wp2_with fail
          clear fg1 fg2 fg3 fn1 fn2 fn3
          clear By
          clear Bv
          clear Bf
          clear Bg
          clear Bn
          go_roundw
          case rel => exact ⟨k + 1, by omega, by go_num, HB, Bx⟩
          case measure => simp [intOf]; omega
      · obtain rfl : k = i := by omega
        obtain ⟨fx1, fx2, fx3⟩ := two_facts Bx.out
        go_wp2_with fail
        refine (hI _).mono ?_; rintro e w60 ⟨rfl, hb⟩
        clear fx1 fx2 fx3
        replace Bx := Lib.hid (heap_keep hb Bx.out)
        replace HB := Lib.hid (nx HB.out hb)
        clear hb
        clear hI
        go_wp2_with fail
        clear Bx
        refine (drawCountReduced_any d _ (hd.keep HB.out)).mono ?_; rintro e w61 ⟨n, hn1, hn2, rfl, hb⟩
        replace HB := Lib.hid (nx HB.out hb)
        clear hb
        go_wp2_with fail
        have h1 := fun w => implCountReduced_any n w (by omega) (by omega)
        have h2 := fun w => specCountReduced_any n w (by omega) (by omega)
        by_cases hin : 0 ≤ n ∧ n ≤ 4
        · obtain ⟨n, rfl⟩ : ∃ k : Nat, n = k := ⟨n.toNat, by omega⟩
          rw [show CountReduced_o (n : Int) = some (crV n).toNat by simp only [CountReduced_o]; rw [if_pos hin, Int.toNat_natCast]] at h1 h2
          have h3 := fun w => implCountTrees_any (n : Int) w (by omega) (by omega)
          rw [show countO (n : Int) = some (catN n) by simp only [countO]; rw [if_pos (by omega), Int.toNat_natCast]] at h3
          have hcb := catN_bd n (by omega)
          have hsum := sumG n (by omega)
          simp only [ansN, Option.getD_some, Option.isSome_some] at h1 h2 h3
          have HC : Hid (∀ k : Nat, k ≤ n → ∀ w, Calls Try.prog 12 #[.int .i64 k] w (Gives (.tuple #[.int .i64 (((crV k).toNat : Nat) : Int), .bool true]) w)) := fun k hk w => by
            have := implCountReduced_any (k : Int) w (by omega) (by omega)
            rwa [show CountReduced_o (k : Int) = some (crV k).toNat by simp only [CountReduced_o]; rw [if_pos (by omega), Int.toNat_natCast]] at this
          have HF : Hid (∀ k : Nat, k ≤ n → ∀ (r c : Int) w, r = (k : Int) + 1 → c = (n : Int) - (k : Int) → Calls Try.prog 15 #[.int .i64 r, .int .i64 c] w (Gives (.tuple #[.int .i64 (listsN (k + 1) (n - k)), .bool true]) w)) := fun k hk r c w hr hc => by
            subst hr; subst hc
            have := implCountForests_any ((k : Int) + 1) ((n : Int) - (k : Int)) w (by omega) (by omega) (by omega) (by omega)
            rwa [show forestsO ((k : Int) + 1) ((n : Int) - (k : Int)) = some (listsN (k + 1) (n - k)) by simp only [forestsO]; rw [if_pos (by omega), show ((k : Int) + 1).toNat = k + 1 by omega, show ((n : Int) - (k : Int)).toNat = n - k by omega]] at this
          have HSUM := Lib.hid hsum
          have hn4 : n ≤ 4 := by omega
          generalize (crV n).toNat = y3 at *
          obtain ⟨cN, hcN⟩ : ∃ q, q = catN n := ⟨_, rfl⟩
          rw [← hcN] at h3 hcb
          have HCN := Lib.hid hcN
          clear hsum hcN
          refine (h1 _).mono ?_; rintro e w62 ⟨rfl, hb⟩
          replace HB := Lib.hid (nx HB.out hb)
          clear hb
          go_wp2_with fail
          refine (h2 _).mono ?_; rintro e w63 ⟨rfl, hb⟩
          replace HB := Lib.hid (nx HB.out hb)
          clear hb
          go_wp2_with fail
          refine (h3 _).mono ?_; rintro e w64 ⟨rfl, hb⟩
          replace HB := Lib.hid (nx HB.out hb)
          clear hb
          clear h1 h2 h3
          go_wp2_with fail
          go_loopw [30, 31] (fun s i wr => ∃ k : Nat, k ≤ n + 1 ∧ i = .int .i64 k ∧ s = .int .i64 (sumGN n k) ∧ Hid (Below W.heap.size W wr)) (fun _ i _ => n + 1 - (intOf i).toNat)
          case atStart => exact ⟨0, by omega, rfl, rfl, HB⟩
          case round =>
            clear HB
            obtain ⟨k, hk, rfl, rfl, HB⟩ := hrel
            by_cases hlt : k < n + 1
            · have hlt' : (k : Int) ≤ (n : Int) := by omega
              have hC := HC.out k (by omega)
              have hF := fun r c => HF.out k (by omega) r c
              have hS : sumGN n (k + 1) = sumGN n k + (crV k).toNat * listsN (k + 1) (n - k) := rfl
              have hbd := sumG_bd n hn4 k (by omega)
              have HS := Lib.hid hS
              generalize (crV k).toNat = P at *
              generalize listsN (k + 1) (n - k) = Q at *
              generalize sumGN n k = U at *
              obtain ⟨hb1, hb2, hb3⟩ := hbd
              have hPQ := mulN_bd (a := (P : Int)) (b := Q) (by omega) (by omega) hb2
              obtain ⟨hPQ1, hPQ2⟩ := hPQ
              clear hS
              go_wp2_with fail
              refine (hC _).mono ?_; rintro e w65 ⟨rfl, hb⟩
              replace HB := Lib.hid (nx HB.out hb)
              clear hb
              go_wp2_with fail
              refine (hF _ _ _ (by first | rfl | omega) (by first | rfl | omega)).mono ?_; rintro e w66 ⟨rfl, hb⟩
              replace HB := Lib.hid (nx HB.out hb)
              clear hb
              clear hC hF
              go_wp2_with fail
              go_roundw
              case rel => exact ⟨k + 1, by omega, by go_num, sumval HS.out hb1 hb2 hb3, HB⟩
              case measure => simp [intOf]; omega
            · obtain rfl : k = n + 1 := by omega
              rw [HSUM.out, ← HCN.out]
              have hTB : cN * cN ≤ 2044900 := Nat.mul_le_mul hcb hcb
              have hTT : (cN : Int) * (cN : Int) = ((cN * cN : Nat) : Int) := (Int.natCast_mul cN cN).symm
              have hT1 : 0 ≤ (cN : Int) * (cN : Int) := by omega
              have hT2 : (cN : Int) * (cN : Int) ≤ 2044900 := by omega
              have HTT := Lib.hid hTT
              rw [← hTT]
              clear hTT
              go_wp2_with fail
              refine (drawCountForests_any d _ (hd.keep HB.out)).mono ?_; rintro e w67 ⟨r, q, hr1, hr2, hq1, hq2, rfl, hb⟩
              replace HB := Lib.hid (nx HB.out hb)
              clear hb
              go_wp2_with fail
              have h1 := fun w => implCountForests_any r q w (by omega) (by omega) (by omega) (by omega)
              have h2 := fun w => specCountForests_any r q w
              simp only [ansN] at h1 h2
              generalize (forestsO r q).getD 0 = y1 at *
              generalize (forestsO r q).isSome = y2 at *
              refine (h1 _).mono ?_; rintro e w68 ⟨rfl, hb⟩
              replace HB := Lib.hid (nx HB.out hb)
              clear hb
              go_wp2_with fail
              refine (h2 _).mono ?_; rintro e w69 ⟨rfl, hb⟩
              replace HB := Lib.hid (nx HB.out hb)
              clear hb
              go_wp2_with fail
              go_ret
              exact ⟨by simp, HB.out⟩
        · rw [show CountReduced_o n = none by simp only [CountReduced_o]; rw [if_neg hin]] at h1 h2
          simp only [ansN, Option.getD_none, Option.isSome_none] at h1 h2
          refine (h1 _).mono ?_; rintro e w70 ⟨rfl, hb⟩
          replace HB := Lib.hid (nx HB.out hb)
          clear hb
          go_wp2_with fail
          refine (h2 _).mono ?_; rintro e w71 ⟨rfl, hb⟩
          replace HB := Lib.hid (nx HB.out hb)
          clear hb
          go_wp2_with fail
          refine (drawCountForests_any d _ (hd.keep HB.out)).mono ?_; rintro e w72 ⟨r, q, hr1, hr2, hq1, hq2, rfl, hb⟩
          replace HB := Lib.hid (nx HB.out hb)
          clear hb
          go_wp2_with fail
          have h1 := fun w => implCountForests_any r q w (by omega) (by omega) (by omega) (by omega)
          have h2 := fun w => specCountForests_any r q w
          simp only [ansN] at h1 h2
          generalize (forestsO r q).getD 0 = y1 at *
          generalize (forestsO r q).isSome = y2 at *
          refine (h1 _).mono ?_; rintro e w73 ⟨rfl, hb⟩
          replace HB := Lib.hid (nx HB.out hb)
          clear hb
          go_wp2_with fail
          refine (h2 _).mono ?_; rintro e w74 ⟨rfl, hb⟩
          replace HB := Lib.hid (nx HB.out hb)
          clear hb
          go_wp2_with fail
          go_ret
          exact ⟨by simp, HB.out⟩
  · rw [show genO i = none by simp only [genO]; rw [if_neg hin]] at h1 h2
    simp only [ansPr, pS1, pS2, Option.isSome_none] at h1 h2
    refine (h1 _).mono ?_; rintro e w32 ⟨rfl, hb⟩
    replace HB := Lib.hid (nx HB.out hb)
    clear hb
    have Bx := Lib.hid (heap_alloc_at w32 (.cells #[.string ⟨#[]⟩, .string ⟨#[]⟩] 26 (0, 0)))
    replace HB := Lib.hid (nxAlloc HB.out (.cells #[.string ⟨#[]⟩, .string ⟨#[]⟩] 26 (0, 0)))
    go_wp2_with fail
    refine (h2 _).mono ?_; rintro e w33 ⟨rfl, hb⟩
    replace Bx := Lib.hid (heap_keep hb Bx.out)
    replace HB := Lib.hid (nx HB.out hb)
    clear hb
    clear h1 h2
    replace Bx := Lib.hid (heap_keep (allocB w33 (.cells #[.string ⟨#[]⟩, .string ⟨#[]⟩] 26 (0, 0))) Bx.out)
    have Br := Lib.hid (heap_alloc_at w33 (.cells #[.string ⟨#[]⟩, .string ⟨#[]⟩] 26 (0, 0)))
    replace HB := Lib.hid (nxAlloc HB.out (.cells #[.string ⟨#[]⟩, .string ⟨#[]⟩] 26 (0, 0)))
    obtain ⟨fx1, fx2, fx3⟩ := two_facts Bx.out
    obtain ⟨fr1, fr2, fr3⟩ := two_facts Br.out
    go_wp2_with fail
    clear fx1 fx2 fx3 fr1 fr2 fr3
    clear Bx
    clear Br
    refine (drawCountReduced_any d _ (hd.keep HB.out)).mono ?_; rintro e w34 ⟨n, hn1, hn2, rfl, hb⟩
    replace HB := Lib.hid (nx HB.out hb)
    clear hb
    go_wp2_with fail
    have h1 := fun w => implCountReduced_any n w (by omega) (by omega)
    have h2 := fun w => specCountReduced_any n w (by omega) (by omega)
    by_cases hin : 0 ≤ n ∧ n ≤ 4
    · obtain ⟨n, rfl⟩ : ∃ k : Nat, n = k := ⟨n.toNat, by omega⟩
      rw [show CountReduced_o (n : Int) = some (crV n).toNat by simp only [CountReduced_o]; rw [if_pos hin, Int.toNat_natCast]] at h1 h2
      have h3 := fun w => implCountTrees_any (n : Int) w (by omega) (by omega)
      rw [show countO (n : Int) = some (catN n) by simp only [countO]; rw [if_pos (by omega), Int.toNat_natCast]] at h3
      have hcb := catN_bd n (by omega)
      have hsum := sumG n (by omega)
      simp only [ansN, Option.getD_some, Option.isSome_some] at h1 h2 h3
      have HC : Hid (∀ k : Nat, k ≤ n → ∀ w, Calls Try.prog 12 #[.int .i64 k] w (Gives (.tuple #[.int .i64 (((crV k).toNat : Nat) : Int), .bool true]) w)) := fun k hk w => by
        have := implCountReduced_any (k : Int) w (by omega) (by omega)
        rwa [show CountReduced_o (k : Int) = some (crV k).toNat by simp only [CountReduced_o]; rw [if_pos (by omega), Int.toNat_natCast]] at this
      have HF : Hid (∀ k : Nat, k ≤ n → ∀ (r c : Int) w, r = (k : Int) + 1 → c = (n : Int) - (k : Int) → Calls Try.prog 15 #[.int .i64 r, .int .i64 c] w (Gives (.tuple #[.int .i64 (listsN (k + 1) (n - k)), .bool true]) w)) := fun k hk r c w hr hc => by
        subst hr; subst hc
        have := implCountForests_any ((k : Int) + 1) ((n : Int) - (k : Int)) w (by omega) (by omega) (by omega) (by omega)
        rwa [show forestsO ((k : Int) + 1) ((n : Int) - (k : Int)) = some (listsN (k + 1) (n - k)) by simp only [forestsO]; rw [if_pos (by omega), show ((k : Int) + 1).toNat = k + 1 by omega, show ((n : Int) - (k : Int)).toNat = n - k by omega]] at this
      have HSUM := Lib.hid hsum
      have hn4 : n ≤ 4 := by omega
      generalize (crV n).toNat = y3 at *
      obtain ⟨cN, hcN⟩ : ∃ q, q = catN n := ⟨_, rfl⟩
      rw [← hcN] at h3 hcb
      have HCN := Lib.hid hcN
      clear hsum hcN
      refine (h1 _).mono ?_; rintro e w35 ⟨rfl, hb⟩
      replace HB := Lib.hid (nx HB.out hb)
      clear hb
      go_wp2_with fail
      refine (h2 _).mono ?_; rintro e w36 ⟨rfl, hb⟩
      replace HB := Lib.hid (nx HB.out hb)
      clear hb
      go_wp2_with fail
      refine (h3 _).mono ?_; rintro e w37 ⟨rfl, hb⟩
      replace HB := Lib.hid (nx HB.out hb)
      clear hb
      clear h1 h2 h3
      go_wp2_with fail
      go_loopw [30, 31] (fun s i wr => ∃ k : Nat, k ≤ n + 1 ∧ i = .int .i64 k ∧ s = .int .i64 (sumGN n k) ∧ Hid (Below W.heap.size W wr)) (fun _ i _ => n + 1 - (intOf i).toNat)
      case atStart => exact ⟨0, by omega, rfl, rfl, HB⟩
      case round =>
        clear HB
        obtain ⟨k, hk, rfl, rfl, HB⟩ := hrel
        by_cases hlt : k < n + 1
        · have hlt' : (k : Int) ≤ (n : Int) := by omega
          have hC := HC.out k (by omega)
          have hF := fun r c => HF.out k (by omega) r c
          have hS : sumGN n (k + 1) = sumGN n k + (crV k).toNat * listsN (k + 1) (n - k) := rfl
          have hbd := sumG_bd n hn4 k (by omega)
          have HS := Lib.hid hS
          generalize (crV k).toNat = P at *
          generalize listsN (k + 1) (n - k) = Q at *
          generalize sumGN n k = U at *
          obtain ⟨hb1, hb2, hb3⟩ := hbd
          have hPQ := mulN_bd (a := (P : Int)) (b := Q) (by omega) (by omega) hb2
          obtain ⟨hPQ1, hPQ2⟩ := hPQ
          clear hS
          go_wp2_with fail
          refine (hC _).mono ?_; rintro e w38 ⟨rfl, hb⟩
          replace HB := Lib.hid (nx HB.out hb)
          clear hb
          go_wp2_with fail
          refine (hF _ _ _ (by first | rfl | omega) (by first | rfl | omega)).mono ?_; rintro e w39 ⟨rfl, hb⟩
          replace HB := Lib.hid (nx HB.out hb)
          clear hb
          clear hC hF
          go_wp2_with fail
          go_roundw
          case rel => exact ⟨k + 1, by omega, by go_num, sumval HS.out hb1 hb2 hb3, HB⟩
          case measure => simp [intOf]; omega
        · obtain rfl : k = n + 1 := by omega
          rw [HSUM.out, ← HCN.out]
          have hTB : cN * cN ≤ 2044900 := Nat.mul_le_mul hcb hcb
          have hTT : (cN : Int) * (cN : Int) = ((cN * cN : Nat) : Int) := (Int.natCast_mul cN cN).symm
          have hT1 : 0 ≤ (cN : Int) * (cN : Int) := by omega
          have hT2 : (cN : Int) * (cN : Int) ≤ 2044900 := by omega
          have HTT := Lib.hid hTT
          rw [← hTT]
          clear hTT
          go_wp2_with fail
          refine (drawCountForests_any d _ (hd.keep HB.out)).mono ?_; rintro e w40 ⟨r, q, hr1, hr2, hq1, hq2, rfl, hb⟩
          replace HB := Lib.hid (nx HB.out hb)
          clear hb
          go_wp2_with fail
          have h1 := fun w => implCountForests_any r q w (by omega) (by omega) (by omega) (by omega)
          have h2 := fun w => specCountForests_any r q w
          simp only [ansN] at h1 h2
          generalize (forestsO r q).getD 0 = y1 at *
          generalize (forestsO r q).isSome = y2 at *
          refine (h1 _).mono ?_; rintro e w41 ⟨rfl, hb⟩
          replace HB := Lib.hid (nx HB.out hb)
          clear hb
          go_wp2_with fail
          refine (h2 _).mono ?_; rintro e w42 ⟨rfl, hb⟩
          replace HB := Lib.hid (nx HB.out hb)
          clear hb
          go_wp2_with fail
          go_ret
          exact ⟨by simp, HB.out⟩
    · rw [show CountReduced_o n = none by simp only [CountReduced_o]; rw [if_neg hin]] at h1 h2
      simp only [ansN, Option.getD_none, Option.isSome_none] at h1 h2
      refine (h1 _).mono ?_; rintro e w43 ⟨rfl, hb⟩
      replace HB := Lib.hid (nx HB.out hb)
      clear hb
      go_wp2_with fail
      refine (h2 _).mono ?_; rintro e w44 ⟨rfl, hb⟩
      replace HB := Lib.hid (nx HB.out hb)
      clear hb
      go_wp2_with fail
      refine (drawCountForests_any d _ (hd.keep HB.out)).mono ?_; rintro e w45 ⟨r, q, hr1, hr2, hq1, hq2, rfl, hb⟩
      replace HB := Lib.hid (nx HB.out hb)
      clear hb
      go_wp2_with fail
      have h1 := fun w => implCountForests_any r q w (by omega) (by omega) (by omega) (by omega)
      have h2 := fun w => specCountForests_any r q w
      simp only [ansN] at h1 h2
      generalize (forestsO r q).getD 0 = y1 at *
      generalize (forestsO r q).isSome = y2 at *
      refine (h1 _).mono ?_; rintro e w46 ⟨rfl, hb⟩
      replace HB := Lib.hid (nx HB.out hb)
      clear hb
      go_wp2_with fail
      refine (h2 _).mono ?_; rintro e w47 ⟨rfl, hb⟩
      replace HB := Lib.hid (nx HB.out hb)
      clear hb
      go_wp2_with fail
      go_ret
      exact ⟨by simp, HB.out⟩
end Go.Proofs.Ytjmbkieocmhmiaa

/-! Lw2 -/
namespace Go.Proofs.Ytjmbkieocmhmiaa
open Go.RowKit

theorem rawB_nil (W : World) : RawB W ⟨none, 0, 0⟩ := ⟨by simp, .inl rfl⟩
theorem rawB_of {W : World} {x : Addr} {len cap : Nat} {zs : List Int} (h1 : len ≤ cap) (h2 : cap ≤ maxLen) (h3 : zs.length = cap) (h4 : ∀ i, i < zs.length → W.cell? (x.add i) = some (.int .u8 (zs.getD i 0))) (h5 : ∀ s ∈ zs, (Lit.int .u8 s).wf = true) :
    RawB W ⟨some x, len, cap⟩ := by
  unfold maxLen at h2
  refine ⟨by show (len : Int) ≤ _; omega, ?_⟩
  by_cases h0 : len = 0
  · exact .inl h0
  · right
    obtain ⟨b, off, spot⟩ := x
    have hc := h4 0 (by omega)
    have hspot : spot = none := by simpa [Addr.add] using World.cell?_spot hc
    subst hspot
    refine ⟨b, off, rfl, fun i hi => ?_⟩
    have hi2 : i < len := hi
    have := h4 i (by omega)
    have e : (⟨b, off, none⟩ : Addr).add i = ⟨b, off + i, none⟩ := by
      unfold Addr.add
      split
      · next h => rw [h]; simp
      · rfl
    rw [e] at this
    have hm : zs.getD i 0 ∈ zs := by
      rw [List.getD_eq_getElem?_getD, List.getElem?_eq_getElem (show i < zs.length by omega)]; exact List.getElem_mem _
    have hw := h5 _ hm
    have e1 : IntKind.u8.min = 0 := rfl
    have e2 : IntKind.u8.max = 255 := rfl
    simp only [Lit.wf, Bool.and_eq_true, decide_eq_true_eq] at hw
    refine ⟨(zs.getD i 0).toNat, by omega, ?_⟩
    rw [this, show (((zs.getD i 0).toNat : Nat) : Int) = zs.getD i 0 by omega]
end Go.Proofs.Ytjmbkieocmhmiaa

/-! LFnGeneratorsRelate -/
namespace Go.Proofs.Ytjmbkieocmhmiaa.fnGeneratorsRelate
open Go.ChangeShapes Go.WideShapes Go.ChangeAt Go.RowKit
open Go.ChangeMaps (open_string shut_string)
set_option linter.unusedVariables false

theorem own : ownKnob Try.prog.godebug = none := by kernel_rfl
theorem laidOut : laidOutB Try.prog = true := by kernel_rfl

set_option maxRecDepth 100000 in
theorem walked (W : World) (c d : Bts) (hc : RawB W c) (hd : RawB W d) : Calls Try.prog 3 #[.slice c.a c.n c.cap, .slice d.a d.n d.cap] W (SaysTrue W) := by
  by_cases hbig : c.n + d.n ≤ 1048576
  · exact generatorsRelate_law W c d ⟨by omega, hc.2⟩ ⟨by omega, hd.2⟩ hbig
  · go_enter Try.func3, Try.ntmps3
    go_wp2_with fail
    refine (big_yes c d _ hc.1 hd.1 (by omega)).mono ?_; rintro e w1 ⟨rfl, rfl⟩
    go_wp2_with fail
    go_ret
    exact ⟨rfl, Below.refl _ _⟩

set_option maxRecDepth 100000 in
theorem lifted (os : Os) (started : os.Started) (H : Type) (enc : TypeId × Value → H) :
    ReturnsInHanded {} Try.checked os 3 .any (Rows.fnGeneratorsRelateSpec.pre6 enc Try.prog Try.f3 Rows.fnGeneratorsRelateRow.domain false) (Rows.fnGeneratorsRelateSpec.post enc Try.prog Try.f3 false true false false) := by
  refine returnsInHanded_of_change (C := Try.checked) own started (by kernel_rfl) Try.func3
    (ChangeSpec.witness6 (enc := enc) (C := Try.checked) false ⟨#[], #[.slice none 0 0, .slice none 0 0], []⟩ 8 (by kernel_rfl) (by kernel_rfl) (by kernel_rfl) (by kernel_rfl)) ?_
  intro W base args ds gs before hval0 hW hcnd _
  have hval : ∀ (j : Nat) t v, Try.f3.params[j]? = some t → args[j]? = some v → Value.okWide Try.prog W .any base t v := hval0
  have hW' := hW
  obtain ⟨p, q, hA0, hV, rfl, hfz, hnd⟩ := hW
  have hA : DataW.TrodAll enc Try.prog W 0 (fun _ => true) true Try.f3.params.toList args.toList ds p := hA0
  rw [Try.params3] at hA hval
  obtain ⟨v0, vs0, d0, ds0, p0, q0, hargs, rfl, rfl, h0, r0⟩ := trodAll_cons hA
  obtain ⟨v1, vs1, d1, ds1, p1, q1, rfl, rfl, rfl, h1, r1⟩ := trodAll_cons r0
  obtain ⟨rfl, rfl, rfl⟩ := trodAll_nil r1
  obtain rfl : args = #[v0, v1] := by cases args; simp_all
  obtain ⟨rfl, rfl⟩ := trodVars_none hV
  obtain ⟨a0, len0, cap0, rfl⟩ := okWide_slice Try.underlying22 (hval 0 22 v0 rfl rfl)
  have k0 := h0
  have lt0 : ∀ x ∈ p0, x.block < W.heap.size := by obtain ⟨m, hm⟩ := k0; exact DataW.trod_lt m _ _ _ hm
  have w0 : RawB W ⟨a0, len0, cap0⟩ := by
    obtain ⟨fuel, hf⟩ := h0
    rcases open_ints Try.underlying22 Try.underlying5 (by kernel_rfl) hf with ⟨hcs, _⟩ | ⟨x, l, c, zs, hcs, _, hl, hm, hz, _, hcell, hwz⟩
    · simp [Value.cells] at hcs
      obtain ⟨rfl, rfl, rfl⟩ := hcs
      exact rawB_nil W
    · simp [Value.cells] at hcs
      obtain ⟨rfl, rfl, rfl⟩ := hcs
      exact rawB_of hl hm (by simpa using hz) hcell hwz
  obtain ⟨a1, len1, cap1, rfl⟩ := okWide_slice Try.underlying22 (hval 1 22 v1 rfl rfl)
  have k1 := h1
  have lt1 : ∀ x ∈ p1, x.block < W.heap.size := by obtain ⟨m, hm⟩ := k1; exact DataW.trod_lt m _ _ _ hm
  have w1 : RawB W ⟨a1, len1, cap1⟩ := by
    obtain ⟨fuel, hf⟩ := h1
    rcases open_ints Try.underlying22 Try.underlying5 (by kernel_rfl) hf with ⟨hcs, _⟩ | ⟨x, l, c, zs, hcs, _, hl, hm, hz, _, hcell, hwz⟩
    · simp [Value.cells] at hcs
      obtain ⟨rfl, rfl, rfl⟩ := hcs
      exact rawB_nil W
    · simp [Value.cells] at hcs
      obtain ⟨rfl, rfl, rfl⟩ := hcs
      exact rawB_of hl hm (by simpa using hz) hcell hwz
  clear hA0 hval0
  simp only [List.append_nil] at hW'
  refine (walked W ⟨a0, len0, cap0⟩ ⟨a1, len1, cap1⟩ w0 w1).mono fun e W' ⟨he, bel⟩ => ?_
  subst he
  exact ⟨_, rfl, _, _, _, [], _, [], hW', trodAll_mk1 (shut_bool Try.underlying4 _), (trodAll_cons_mk (Below.trod laidOut (by kernel_rfl) (of_decide_eq_true (by kernel_rfl)) k0 bel lt0) (trodAll_cons_mk (Below.trod laidOut (by kernel_rfl) (of_decide_eq_true (by kernel_rfl)) k1 bel lt1) trodAll_mk0)), rfl, bel.frame _, fun h => by cases h⟩

theorem over : Rows.fnGeneratorsRelateRow.holds Try.pinned (OpenSpec.ofChange Rows.fnGeneratorsRelateSpec) :=
  OpenClaim.holds_of_wide 3 Try.f3 rfl rfl rfl rfl rfl rfl rfl ⟨rfl, rfl, rfl, rfl, rfl⟩ rfl rfl rfl rfl rfl (by kernel_rfl) Try.func3 (by kernel_rfl)
    (of_decide_eq_true (by kernel_rfl)) (by unfold Func.isWrapper; first | (rw [if_pos (by decide +kernel)]; kernel_rfl) | (rw [if_neg (by decide +kernel)]; exact ⟨rfl, rfl⟩))
    (fun os started H enc _ => lifted os started H enc)

theorem proved : Rows.FnGeneratorsRelateSaid := over
#print axioms proved
end Go.Proofs.Ytjmbkieocmhmiaa.fnGeneratorsRelate
