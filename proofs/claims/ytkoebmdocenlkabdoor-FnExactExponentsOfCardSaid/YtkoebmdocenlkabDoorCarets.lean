/- Walks: spec.trCarets, spec.trIs, spec.IsTree, spec.CaretsOf. -/
import Derived.Test.YtkoebmdocenlkabDoorEnd
namespace Go.Proofs.YtkoebmdocenlkabDoor
open Go.RowKit

set_option maxHeartbeats 400000 in
theorem carets_any (s : ByteArray) (w : World) (hs : s.size ≤ 9223372036854775806) :
    Calls Tryd.prog 32 #[.string s] w fun e w' => e = .returned (.int .i64 (cnt s s.size)) ∧ w = w' := by
  go_enter Tryd.func32, Tryd.ntmps32
  go_wp2
  go_loop [3, 4] (fun n i => ∃ k : Nat, k ≤ s.size ∧ i = .int .i64 k ∧ n = .int .i64 (cnt s k)) (fun _ i => s.size - (intOf i).toNat)
  case atStart => exact ⟨0, Nat.zero_le _, rfl, rfl⟩
  case round =>
    obtain ⟨k, hk, rfl, rfl⟩ := hrel
    have hc := cnt_le s k
    by_cases hlt : k < s.size
    · have e1 : Hid (byteAt s k = ((s[k]'hlt).toNat : Int)) := byteAt_eq s k hlt
      go_wp2
      all_goals
        go_round
        case rel => exact ⟨k + 1, by omega, by go_num, by rw [cnt, e1.out]; first | rw [if_pos (by simpa using ‹(_ == (40:Int)) = true›)] | (rw [if_neg (by simpa using ‹(_ == (40:Int)) = false›)]; go_num)⟩
        case measure => simp [intOf]; omega
    · obtain rfl : k = s.size := by omega
      go_wp2
      go_ret
      exact ⟨rfl, rfl⟩
set_option maxHeartbeats 400000 in
theorem trIs_any (s : ByteArray) (w : World) (hs : s.size ≤ 9223372036854775806) :
    Calls Tryd.prog 26 #[.string s] w fun e w' => e = .returned (.bool (isTreeB s)) ∧ w = w' := by
  have hc := cnt_le s s.size
  have he := endI_le 61 s 0 (by omega)
  by_cases a : (s.size : Int) ≤ 33 <;> by_cases b : cnt s s.size ≤ 8
  all_goals
    go_enter Tryd.func26, Tryd.ntmps26
    go_wp2_with (first | (go_at_call 32; refine (carets_any s _ hs).mono ?_; rintro e w' ⟨rfl, rfl⟩) | (go_at_call 52; refine (end_any 61 s _ _ _ hs (by omega) (by omega) (by omega)).mono ?_; rintro e w' ⟨rfl, rfl⟩))
    go_ret
    exact ⟨ret_bool (by unfold isTreeB; rw [Bool.eq_iff_iff]; simp; try omega), rfl⟩

end Go.Proofs.YtkoebmdocenlkabDoor
