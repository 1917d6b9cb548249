/- The walk of laws.FnExactRuleStep. -/
import Derived.Test.YtlcepokenaiggabRu6
import Derived.Test.YtlcepokenaiggabRu4
import Derived.Test.YtlcepokenaiggabWd3
import Derived.Test.YtlcepokenaiggabArgI
import Derived.Test.YtlcepokenaiggabTail
namespace Go.Proofs.Ytlcepokenaiggab
open Go.RowKit

def RuleStep_o (L : List Int) : Option (List Int) := if goodW L = true then (stepO L).bind ifW else none
theorem stepO_length : ∀ (L r : List Int), stepO L = some r → r.length ≤ L.length := by
  intro L
  induction L with
  | nil => intro r h; simp [stepO] at h
  | cons x l ih =>
    intro r h
    cases l with
    | nil => simp [stepO] at h
    | cons y q =>
      rw [stepO] at h
      split at h
      · next b hb =>
        injection h with h
        subst h
        have hl : b.length ≤ 2 := by
          unfold ruleO at hb
          repeat (split at hb; · (injection hb with hb; subst hb; simp))
          cases hb
        simp; omega
      · cases hs : stepO (y :: q) with
        | none => rw [hs] at h; cases h
        | some s =>
          rw [hs] at h
          injection h with h
          subst h
          have := ih s hs
          simp at this ⊢; omega
theorem RuleStep_len (L : List Int) : ((RuleStep_o L).getD []).length ≤ 1000000000 := by
  unfold RuleStep_o
  by_cases hg : goodW L = true
  · rw [if_pos hg]
    cases hs : stepO L with
    | none => simp
    | some r =>
      have := stepO_length L r hs
      have := (goodW_iff.1 hg).1
      show ((ifW r).getD []).length ≤ _
      unfold ifW
      split
      · show r.length ≤ _; omega
      · simp
  · rw [if_neg hg]; simp

set_option maxRecDepth 100000 in
set_option maxHeartbeats 1000000 in
theorem specRuleStep_any (v : Value) (b1 : Nat) (L : List Int) (w : World) (hv : CellsI b1 w v L) (_hz : ∀ s ∈ L, -9223372036854775808 ≤ s ∧ s ≤ 9223372036854775807) :
    Calls Try.prog 10 #[v] w (AnsIs (RuleStep_o L) w) := by
  have hG := wdGood_any v b1 L w hv
  unfold RuleStep_o
  cases hg : goodW L with
  | false =>
    rw [hg] at hG
    rw [if_neg (by simp)]
    clear hg hv _hz
    go_enter Try.func10, Try.ntmps10
    go_wp2_with fail
    refine hG.mono ?_; rintro e w1 ⟨rfl, rfl⟩
    go_wp2_with fail
    go_ret2
    exact ⟨_, OwnI.nil _ _, Below.refl _ _, rfl⟩
  | true =>
    rw [hg] at hG
    rw [if_pos rfl]
    have hg2 := goodW_iff.1 hg
    have hS := wdStep_any v b1 L w hv (by omega) (fun x hx => by have := hg2.2 x hx; omega)
    cases hs : stepO L with
    | none =>
      rw [hs] at hS
      have HS := Lib.hid hS
      clear hg hg2 hv _hz hs hS
      go_enter Try.func10, Try.ntmps10
      go_wp2_with fail
      refine hG.mono ?_; rintro e w1 ⟨rfl, rfl⟩
      clear hG
      go_wp2_with fail
      refine HS.out.mono ?_; rintro e w2 ⟨hb2, rfl⟩
      go_wp2_with fail
      go_ret2
      exact ⟨_, OwnI.nil _ _, hb2, rfl⟩
    | some r =>
      rw [hs] at hS
      have HS := Lib.hid hS
      clear hg hg2 hv _hz hs hS
      show Calls _ _ _ _ (AnsIs (ifW r) w)
      go_enter Try.func10, Try.ntmps10
      go_wp2_with fail
      refine hG.mono ?_; rintro e w1 ⟨rfl, rfl⟩
      clear hG
      go_wp2_with fail
      refine HS.out.mono ?_; rintro e w2 ⟨hb2, u, own, rfl⟩
      go_wp2_with fail
      refine (wdIf_own _ _ _ _ own).mono ?_; rintro e w3 ⟨u2, rfl, ho2, rfl⟩
      go_wp2_with fail
      go_ret2
      exact ⟨_, ho2, hb2, rfl⟩

set_option maxRecDepth 100000 in
set_option maxHeartbeats 1000000 in
theorem implRuleStep_any (v : Value) (b1 : Nat) (L : List Int) (w : World) (hv : CellsI b1 w v L) (_hz : ∀ s ∈ L, -9223372036854775808 ≤ s ∧ s ≤ 9223372036854775807) :
    Calls Try.prog 11 #[v] w (AnsIs (RuleStep_o L) w) := by
  have hG := implIsWord_any v b1 L w hv
  unfold RuleStep_o
  cases hg : goodW L with
  | false =>
    rw [hg] at hG
    rw [if_neg (by simp)]
    clear hg hv _hz
    go_enter Try.func11, Try.ntmps11
    go_wp2_with fail
    refine hG.mono ?_; rintro e w1 ⟨rfl, rfl⟩
    go_wp2_with fail
    go_ret2
    exact ⟨_, OwnI.nil _ _, Below.refl _ _, rfl⟩
  | true =>
    rw [hg] at hG
    rw [if_pos rfl]
    have hg2 := goodW_iff.1 hg
    have hS := behindFirstRule_any v b1 L w hv (by omega) (fun x hx => by have := hg2.2 x hx; omega)
    cases hs : stepO L with
    | none =>
      rw [hs] at hS
      have HS := Lib.hid hS
      clear hg hg2 hv _hz hs hS
      go_enter Try.func11, Try.ntmps11
      go_wp2_with fail
      refine hG.mono ?_; rintro e w1 ⟨rfl, rfl⟩
      clear hG
      go_wp2_with fail
      refine HS.out.mono ?_; rintro e w2 ⟨hb2, rfl⟩
      go_wp2_with fail
      go_ret2
      exact ⟨_, OwnI.nil _ _, hb2, rfl⟩
    | some r =>
      rw [hs] at hS
      have HS := Lib.hid hS
      clear hg hg2 hv _hz hs hS
      show Calls _ _ _ _ (AnsIs (ifW r) w)
      go_enter Try.func11, Try.ntmps11
      go_wp2_with fail
      refine hG.mono ?_; rintro e w1 ⟨rfl, rfl⟩
      clear hG
      go_wp2_with fail
      refine HS.out.mono ?_; rintro e w2 ⟨hb2, u, own, rfl⟩
      go_wp2_with fail
      refine (wordWithinLimits_own _ _ _ _ own).mono ?_; rintro e w3 ⟨u2, rfl, ho2, rfl⟩
      go_wp2_with fail
      go_ret2
      exact ⟨_, ho2, hb2, rfl⟩

set_option maxRecDepth 100000 in
set_option maxHeartbeats 2000000 in
theorem fnExactRuleStep_law (w : World) (oa : Option Addr) (n cap : Nat) (L : List Int) (hl : L.length = n) (hl2 : (n : Int) ≤ 9223372036854775807) (_hz : ∀ s ∈ L, -9223372036854775808 ≤ s ∧ s ≤ 9223372036854775807) (hin : InI w oa L) :
    Calls Try.prog 4 #[.slice oa n cap] w fun e w' => e = .returned (.bool true) ∧ Below w.heap.size w w' := by
  have HI := Lib.hid hin
  have HL := Lib.hid hl
  clear hin hl
  by_cases hbig : (1048576 : Int) < n
  · clear _hz
    go_enter Try.func4, Try.ntmps4
    go_wp2_with fail
    go_ret
    exact ⟨rfl, Below.refl _ _⟩
  have hS := fun v b w h => specRuleStep_any v b L w h _hz
  have hI := fun v b w h => implRuleStep_any v b L w h _hz
  have hn9 := RuleStep_len L
  obtain ⟨o, ho⟩ : ∃ o, o = RuleStep_o L := ⟨_, rfl⟩
  rw [← ho] at hn9
  simp only [← ho] at hS hI
  clear ho
  obtain ⟨xs, ok, hx, hk⟩ : ∃ xs ok, xs = o.getD [] ∧ ok = o.isSome := ⟨_, _, rfl, rfl⟩
  have hS' : ∀ v b w, CellsI b w v L → Calls Try.prog 10 #[v] w (AnsI2 xs ok w) := by rw [hx, hk]; exact hS
  have hI' : ∀ v b w, CellsI b w v L → Calls Try.prog 11 #[v] w (AnsI2 xs ok w) := by rw [hx, hk]; exact hI
  rw [← hx] at hn9
  clear hS hI hx hk
  have hT := fun w h => toIntS_any oa cap n L w HL.out (by omega) h
  clear _hz
  go_enter Try.func4, Try.ntmps4
  go_wp2_with fail
  refine (hT _ HI.out).mono ?_; rintro e w1 ⟨pg, po, hb1, rfl⟩
  go_wp2_with fail
  refine (hS' _ _ _ po.cells).mono ?_; rintro e w2 ⟨v0, own0, hb2, rfl⟩
  have hbw2 := nx hb1 hb2
  have hs2 := hbw2.size
  clear po hb1 hb2
  go_wp2_with fail
  refine (hT _ (HI.out.keep hbw2)).mono ?_; rintro e w3 ⟨qg, qo, hb3, rfl⟩
  have hqg := qo.lt
  go_wp2_with fail
  refine (hI' _ _ _ qo.cells).mono ?_; rintro e w4 ⟨v1, own1, hb4, rfl⟩
  have hB4 := nx hb3 hb4
  replace qo := qo.keep hb4
  clear hb4
  go_wp2_with fail
  refine (eqIntS_any _ _ v1 v0 xs _ own1.cells (own0.keep hB4).cells).mono ?_; rintro e w5 ⟨rfl, d5, hw5⟩
  have hb5 : Below w4.heap.size w4 w5 := by rw [hw5]; exact drewB (Below.refl _ _) d5
  clear hw5
  have hB5 := nx hB4 hb5
  replace qo := qo.keep hb5
  replace own1 := own1.keep hb5
  clear hb5 hB4
  go_wp2_with fail
  refine (hT _ (HI.out.keep (nx hbw2 hB5))).mono ?_; rintro e w6 ⟨rg, ro, hb6, rfl⟩
  have hB6 := nx hB5 hb6
  replace qo := qo.keep hb6
  replace own1 := own1.keep hb6
  clear hb6 hB5
  go_wp2_with fail
  refine (eqIntS_any _ _ _ _ L _ qo.cells ro.cells).mono ?_; rintro e w7 ⟨rfl, d7, hw7⟩
  have hb7 : Below w6.heap.size w6 w7 := by rw [hw7]; exact drewB (Below.refl _ _) d7
  clear hw7 ro
  have hB7 := nx hB6 hb7
  replace qo := qo.keep hb7
  replace own1 := own1.keep hb7
  clear hb7 hB6
  go_wp2_with fail
  refine (markIntS_one w2.heap.size qg n n L HL.out 1 _ (by omega) (by omega) (by omega) qo).mono ?_; rintro e w8 ⟨rfl, _, hg8⟩
  have hB8 := hB7.trans (grown_below hg8 hB7.size hqg.1)
  replace own1 := own1.kept hg8 hqg.2
  clear hB7 hg8 qo
  go_wp2_with fail
  refine (eqIntS_any _ _ v1 v0 xs _ own1.cells (own0.keep hB8).cells).mono ?_; rintro e w9 ⟨rfl, d9, hw9⟩
  have hb9 : Below w8.heap.size w8 w9 := by rw [hw9]; exact drewB (Below.refl _ _) d9
  clear hw9
  have hB9 := nx hB8 hb9
  replace own1 := own1.keep hb9
  clear hb9 hB8
  go_wp2_with fail
  refine (markIntS_any w3.heap.size v1 xs xs.length rfl 1 _ (by omega) (by omega) hn9 own1).mono ?_; rintro e w10 ⟨rfl, own10, hb10⟩
  have hB10 := hB9.trans (hb10.mono hb3.size)
  clear hB9 hb10 own1
  go_wp2_with fail
  refine (heldIntS_any w3.heap.size v1 xs.length 1 _ (by omega) (by omega) hn9 own10.cells).mono ?_; rintro e w11 ⟨rfl, d11, hw11⟩
  have hb11 : Below w10.heap.size w10 w11 := by rw [hw11]; exact drewB (Below.refl _ _) d11
  clear hw11
  have hB11 := nx hB10 hb11
  replace own10 := own10.keep hb11
  clear hb11 hB10
  go_wp2_with fail
  refine (hT _ (HI.out.keep (nx hbw2 hB11))).mono ?_; rintro e w12 ⟨sg, so, hb12, rfl⟩
  have hB12 := nx hB11 hb12
  replace own10 := own10.keep hb12
  clear hb12 hB11
  go_wp2_with fail
  refine (hI' _ _ _ so.cells).mono ?_; rintro e w13 ⟨v2, own2, hb13, rfl⟩
  have hB13 := nx hB12 hb13
  replace own10 := own10.keep hb13
  clear hb13 hB12 so
  go_wp2_with fail
  refine (eqIntS_any _ _ v2 v0 xs _ own2.cells (own0.keep hB13).cells).mono ?_; rintro e w14 ⟨rfl, d14, hw14⟩
  have hb14 : Below w13.heap.size w13 w14 := by rw [hw14]; exact drewB (Below.refl _ _) d14
  clear hw14
  have hB14 := nx hB13 hb14
  replace own10 := own10.keep hb14
  clear hb14 hB13
  go_wp2_with fail
  refine (heldIntS_any w3.heap.size v1 xs.length 1 _ (by omega) (by omega) hn9 own10.cells).mono ?_; rintro e w15 ⟨rfl, d15, hw15⟩
  have hb15 : Below w14.heap.size w14 w15 := by rw [hw15]; exact drewB (Below.refl _ _) d15
  clear hw15
  go_wp2_with fail
  go_ret
  exact ⟨rfl, nx (nx hbw2 hB14) hb15⟩

theorem fnExactRuleStep_walk (W : World) (a : Option Addr) (len cap : Nat) (z : List Int) (h : IsInts W a len cap z) :
    Calls Try.prog 4 #[.slice a len cap] W fun e w' => e = .returned (.bool true) ∧ Below W.heap.size W w' := by
  obtain ⟨h1, h2, h3, h4⟩ := h.inI
  exact fnExactRuleStep_law W a len cap (z.take len) h2 h3 h4 h1
end Go.Proofs.Ytlcepokenaiggab
