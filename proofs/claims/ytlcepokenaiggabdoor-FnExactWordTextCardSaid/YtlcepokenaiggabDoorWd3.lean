/- Walks: a word, if it is one; ShiftWord of both sides. -/
import Derived.Test.YtlcepokenaiggabDoorWd2
namespace Go.Proofs.YtlcepokenaiggabDoor
open Go.RowKit


theorem wordWithinLimits_yes (v : Value) (b1 : Nat) (L : List Int) (w : World) (hv : CellsI b1 w v L) (hg : goodW L = true) :
    Calls Tryd.prog 22 #[v] w fun e w' => e = .returned (.tuple #[v, .bool true]) ∧ w = w' := by
  have hG := implIsWord_any v b1 L w hv
  rw [hg] at hG
  clear hg hv
  go_enter Tryd.func22, Tryd.ntmps22
  go_wp2_with fail
  refine hG.mono ?_; rintro e w1 ⟨rfl, rfl⟩
  go_wp2_with fail
  go_ret2
  exact ⟨rfl, rfl⟩

theorem wordWithinLimits_no (v : Value) (b1 : Nat) (L : List Int) (w : World) (hv : CellsI b1 w v L) (hg : goodW L = false) :
    Calls Tryd.prog 22 #[v] w fun e w' => e = .returned (.tuple #[.slice none 0 0, .bool false]) ∧ w = w' := by
  have hG := implIsWord_any v b1 L w hv
  rw [hg] at hG
  clear hg hv
  go_enter Tryd.func22, Tryd.ntmps22
  go_wp2_with fail
  refine hG.mono ?_; rintro e w1 ⟨rfl, rfl⟩
  go_wp2_with fail
  go_ret2
  exact ⟨rfl, rfl⟩

/-- Of a slice of the call's own. -/
theorem wordWithinLimits_own (v : Value) (base : Nat) (L : List Int) (w : World) (hv : OwnI base w v L) :
    Calls Tryd.prog 22 #[v] w fun e w' => ∃ u, e = .returned (.tuple #[u, .bool (ifW L).isSome]) ∧ OwnI base w u ((ifW L).getD []) ∧ w = w' := by
  unfold ifW
  cases hg : goodW L with
  | false => exact (wordWithinLimits_no v base L w hv.cells hg).mono fun e w' ⟨he, hw⟩ => ⟨_, he, OwnI.nil _ _, hw⟩
  | true => exact (wordWithinLimits_yes v base L w hv.cells hg).mono fun e w' ⟨he, hw⟩ => ⟨_, he, hv, hw⟩

theorem up_take {k : Int} {L : List Int} {j : Nat} (h : j < L.length) : upW k (L.take (j + 1)) = upW k (L.take j) ++ [up k (L.getD j 0)] := by
  unfold upW
  rw [List.take_succ_eq_append_getElem h, List.map_append]
  simp [h]

def ShiftWord_o (L : List Int) (q : Int) : Option (List Int) := if goodW L = true then if 0 ≤ q ∧ q ≤ 20 then ifW (upW q L) else none else none
theorem ShiftWord_len (L : List Int) (q : Int) : ((ShiftWord_o L q).getD []).length ≤ 1000000000 := by
  unfold ShiftWord_o ifW
  split
  · next h =>
    have := (goodW_iff.1 h).1
    split
    · split
      · simp [upW]; omega
      · simp
    · simp
  · simp
theorem up_pos {q x : Int} (h : 0 < x) : up q x = x + q := by unfold up; rw [if_neg (by omega)]
theorem up_neg {q x : Int} (h : ¬ 0 < x) (h0 : x ≠ 0) : up q x = x - q := by unfold up; rw [if_pos (by omega)]

end Go.Proofs.YtlcepokenaiggabDoor
