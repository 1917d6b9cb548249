/- Walks: the pair of two leaves; powers. -/
import Derived.Test.YtbeailflcinilaaLimP
namespace Go.Proofs.Ytbeailflcinilaa
open Go.RowKit

/-- The pair of two leaves. -/
def unitP : Pr := (.lf, .lf)
/-- The product of so many, if none on the way is too great. -/
def pwN (b : Pr) : Nat → Option Pr
  | 0 => some unitP
  | k + 1 => (pwN b k).bind fun o => limP (mulP o b)
def powP (p : Pr) (k : Int) : Option Pr := if -10 ≤ k ∧ k ≤ 10 then (if k < 0 then pwN (invP p) (-k).toNat else pwN p k.toNat) else none

theorem limP_some {p q : Pr} (h : limP p = some q) : q = p ∧ p.1.carets ≤ 8 := by
  unfold limP at h
  split at h
  · next hc => injection h with h; exact ⟨h.symm, hc⟩
  · simp at h
theorem pwN_ok {b : Pr} (hb : okP b) : ∀ {k : Nat} {o : Pr}, pwN b k = some o → okP o ∧ o.1.carets ≤ 8 := by
  intro k
  induction k with
  | zero => intro o h; injection h with h; subst h; exact ⟨rfl, by decide⟩
  | succ k ih =>
    intro o h
    rw [pwN] at h
    cases h1 : pwN b k with
    | none => rw [h1] at h; simp at h
    | some q =>
      rw [h1] at h
      obtain ⟨e, hc⟩ := limP_some (show limP (mulP q b) = some o from h)
      rw [e]
      exact ⟨mulP_ok (ih h1).1 hb, hc⟩
theorem pwN_none {b : Pr} {k : Nat} (h : pwN b k = none) : ∀ j, k ≤ j → pwN b j = none := by
  intro j hj
  induction j with
  | zero => have : k = 0 := by omega
            subst this; exact h
  | succ j ih =>
    by_cases e : k = j + 1
    · rw [← e]; exact h
    · rw [pwN, ih (by omega)]; rfl

theorem prUnit_any (w : World) : Calls Try.prog 72 #[] w (Gives (.agg #[.string Tr.lf.str, .string Tr.lf.str]) w) := by
  go_enter Try.func72, Try.ntmps72
  go_wp2
  refine bodyPost_ret (v := .agg #[.string Tr.lf.str, .string Tr.lf.str]) (by simp [results, Try.results72, go_sem]; rfl) rfl ⟨rfl, ?_⟩
  exact nxAlloc (Below.refl _ _) _

theorem identity_any (w : World) : Calls Try.prog 73 #[] w (Gives (.agg #[.string Tr.lf.str, .string Tr.lf.str]) w) := by
  go_enter Try.func73, Try.ntmps73
  go_wp2
  refine bodyPost_ret (v := .agg #[.string Tr.lf.str, .string Tr.lf.str]) (by simp [results, Try.results73, go_sem]; rfl) rfl ⟨rfl, ?_⟩
  exact nxAlloc (Below.refl _ _) _
end Go.Proofs.Ytbeailflcinilaa
