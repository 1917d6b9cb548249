/- Walks: impl.ExponentsOf, by exponentsIn. -/
import Derived.Test.YtkoebmdocenlkabDoorExpK
import Derived.Test.YtkoebmdocenlkabDoorRead
namespace Go.Proofs.YtkoebmdocenlkabDoor
open Go.RowKit

set_option maxHeartbeats 1000000 in
theorem implExponentsOf_any (a : ByteArray) (w : World) (ha : a.size ≤ 9223372036854775806) :
    Calls Tryd.prog 14 #[.string a] w (AnsIs (ExponentsOf_o a) w) := by
  cases h : treeOf a with
  | some t =>
    obtain ⟨rfl, hc⟩ := treeOf_some h
    rw [show ExponentsOf_o t.str = some (ints t.expR) by simp [ExponentsOf_o, h]]
    have hT : ∀ w, Calls Tryd.prog 28 #[.string t.str] w (Gives (.bool true) w) := fun w => (implIsTree_yes t w hc).mono fun _ _ ⟨h1, h2⟩ => ⟨h2, h1⟩
    have hX := fun w => exponentsIn_any t w (by omega)
    generalize ints t.expR = xs at *
    clear h hc
    go_enter Tryd.func14, Tryd.ntmps14
    go_wp2_with fail
    refine (hT _).mono ?_; rintro e w1 ⟨rfl, hb1⟩
    go_wp2_with fail
    refine (hX _).mono ?_; rintro e w2 ⟨v, own, hb2, rfl⟩
    have OWN := Lib.hid own
    clear own
    go_wp2_with fail
    go_ret2
    exact ⟨_, OWN.out.mono hb1.size, nx hb1 hb2, rfl⟩
  | none =>
    rw [show ExponentsOf_o a = none by simp [ExponentsOf_o, h]]
    have hT : ∀ w, Calls Tryd.prog 28 #[.string a] w (Gives (.bool false) w) := fun w => (implIsTree_no a w ha h).mono fun _ _ ⟨h1, h2⟩ => ⟨h2, h1⟩
    clear h
    go_enter Tryd.func14, Tryd.ntmps14
    go_wp2_with fail
    refine (hT _).mono ?_; rintro e w1 ⟨rfl, hb1⟩
    go_wp2_with fail
    go_ret2
    exact ⟨_, OwnI.nil _ _, hb1, rfl⟩
end Go.Proofs.YtkoebmdocenlkabDoor
