/- Addresses of a tree's leaves. No program is named here. -/
import Derived.Test.YtkoebmdocenlkabDoorTrFn
namespace Go.Proofs.YtkoebmdocenlkabDoor
def Tr.addrs : Tr → ByteArray → List ByteArray
  | .lf, here => [here]
  | .nd l r, here => l.addrs (here ++ ⟨#[48]⟩) ++ r.addrs (here ++ ⟨#[49]⟩)
theorem addrs_length (t : Tr) : ∀ here, (t.addrs here).length = t.carets + 1 := by
  induction t with
  | lf => intro here; rfl
  | nd l r ihl ihr => intro here; simp [Tr.addrs, Tr.carets, ihl, ihr]; omega
theorem addrs_size (t : Tr) : ∀ here, ∀ s ∈ t.addrs here, here.size ≤ s.size ∧ s.size ≤ here.size + t.carets := by
  induction t with
  | lf => intro here s hs; simp [Tr.addrs] at hs; subst hs; simp [Tr.carets]
  | nd l r ihl ihr =>
    intro here s hs
    rw [Tr.addrs, List.mem_append] at hs
    rcases hs with hs | hs
    · have := ihl _ s hs
      have e0 : ∀ c : UInt8, (here ++ (⟨#[c]⟩ : ByteArray)).size = here.size + 1 := fun c => ByteArray.size_append
      rw [e0] at this
      simp only [Tr.carets]; omega
    · have := ihr _ s hs
      have e0 : ∀ c : UInt8, (here ++ (⟨#[c]⟩ : ByteArray)).size = here.size + 1 := fun c => ByteArray.size_append
      rw [e0] at this
      simp only [Tr.carets]; omega
end Go.Proofs.YtkoebmdocenlkabDoor
