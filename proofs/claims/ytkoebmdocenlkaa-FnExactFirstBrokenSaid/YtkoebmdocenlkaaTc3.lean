/- Walks: brBroken. -/
import Derived.Test.YtkoebmdocenlkaaTc2
namespace Go.Proofs.Ytkoebmdocenlkaa
open Go.RowKit

theorem chB3 {T : List (List Int)} {n i j k : Nat} (hn : T.length = n) (hi : i < n) (hj : j < n) (hk : k < n) : chB T (lcomb 2) (rcomb 2) ((i * n + j) * n + k) = (prd T (prd T i j) k != prd T i (prd T j k)) := by
  have e : digN T.length ((lcomb 2).carets + 1) ((i * n + j) * n + k) = [(i : Int), (j : Int), (k : Int)] := by rw [hn]; exact dig3 hi hj hk
  unfold chB
  rw [e]
  rfl
theorem ownI_three (a b c : Int) (w : World) : OwnI w.heap.size (w.alloc (.cells #[.int .i64 a, .int .i64 b, .int .i64 c] 3)) (.slice (some ⟨w.heap.size, 0, none⟩) 3 3) [a, b, c] := by
  unfold OwnI
  refine ⟨by simp, .inr ⟨w.heap.size, 3, #[.int .i64 a, .int .i64 b, .int .i64 c], rfl, Nat.le_refl _, ?_, Nat.le_refl _, by unfold maxLen; omega, by simp, by simp⟩⟩
  show (w.heap.push _)[w.heap.size]? = _
  simp

set_option maxRecDepth 100000 in
set_option maxHeartbeats 4000000 in
theorem brBroken_any (gT cT : Nat) (gs : List Nat) (T : List (List Int)) (hT : tabB T = true) (n : Nat) (hn : T.length = n) (w : World) (hTa : TabAt w gT gs T) :
    Calls Try.prog 78 #[.slice (some ⟨gT, 0, none⟩) n cT] w (Brk T (lcomb 2) (rcomb 2) w) := by
  have hT4 := tabB_len hT
  have hn4 : n ≤ 4 := by omega
  have hn1 : 1 ≤ n := by omega
  have HTB := Lib.hid hT
  have HTA := Lib.hid hTa
  have HN := Lib.hid hn
  clear hT hTa hn hT4
  go_enter Try.func78, Try.ntmps78
  go_wp2_with fail
  go_loopw [9] (fun v wr => ∃ i d : Nat, v = .int .i64 i ∧ i ≤ n ∧ wr = w.drewN d ∧ Hid (∀ c, c < i * n * n → chB T (lcomb 2) (rcomb 2) c = false)) (fun v _ => n - (intOf v).toNat)
  case atStart => exact ⟨0, 0, rfl, Nat.zero_le _, rfl, fun c hc => absurd hc (by rw [Nat.zero_mul, Nat.zero_mul]; exact Nat.not_lt_zero c)⟩
  case round =>
    obtain ⟨i, d, rfl, hi, rfl, hbi⟩ := hrel
    by_cases hin : i < n
    rotate_left
    · obtain rfl : i = n := by omega
      have HF : Hid (firstC T (lcomb 2) (rcomb 2) = none) := by
        show _ = _
        refine firstC_none fun c hc => hbi.out c ?_
        rw [HN.out] at hc
        rw [Nat.mul_assoc]
        have e : i ^ ((lcomb 2).carets + 1) = i * (i * i) := by
          show i ^ (2 + 1) = _
          rw [Nat.pow_succ, Nat.pow_succ, Nat.pow_one, Nat.mul_assoc]
        omega
      clear hbi
      go_wp2_with fail
      go_ret2
      show Brk T (lcomb 2) (rcomb 2) w _ _
      unfold Brk
      rw [HF.out]
      exact ⟨rfl, drewB (Below.refl _ _) _⟩
    have hin' : (i : Int) < (n : Int) := by omega
    have HB0 : Hid (∀ c, c < (i * n + 0) * n → chB T (lcomb 2) (rcomb 2) c = false) := by
      show ∀ c, _
      rw [Nat.add_zero]; exact hbi.out
    clear hbi
    go_wp2_with fail
    go_loopw [14] (fun v wr => ∃ j d : Nat, v = .int .i64 j ∧ j ≤ n ∧ wr = w.drewN d ∧ Hid (∀ c, c < (i * n + j) * n → chB T (lcomb 2) (rcomb 2) c = false)) (fun v _ => n - (intOf v).toNat)
    case atStart => exact ⟨0, d, rfl, Nat.zero_le _, rfl, HB0⟩
    case round =>
      obtain ⟨j, d, rfl, hj, rfl, hbj⟩ := hrel
      by_cases hjn : j < n
      rotate_left
      · obtain rfl : j = n := by omega
        have HB1 : Hid (∀ c, c < (i + 1) * j * j → chB T (lcomb 2) (rcomb 2) c = false) := by
          show ∀ c, _
          rw [Nat.succ_mul]; exact hbj.out
        clear hbj HB0
        go_wp2_with fail
        go_roundw
        case rel => exact ⟨i + 1, _, by go_num, by omega, rfl, HB1⟩
        case measure => simp [intOf]; omega
      have hjn' : (j : Int) < (n : Int) := by omega
      have HB1 : Hid (∀ c, c < (i * n + j) * n + 0 → chB T (lcomb 2) (rcomb 2) c = false) := hbj.out
      clear hbj
      go_wp2_with fail
      go_loopw [19] (fun v wr => ∃ k d : Nat, v = .int .i64 k ∧ k ≤ n ∧ wr = w.drewN d ∧ Hid (∀ c, c < (i * n + j) * n + k → chB T (lcomb 2) (rcomb 2) c = false)) (fun v _ => n - (intOf v).toNat)
      case atStart => exact ⟨0, d, rfl, Nat.zero_le _, rfl, HB1⟩
      case round =>
        obtain ⟨k, d, rfl, hk, rfl, hbk⟩ := hrel
        by_cases hkn : k < n
        rotate_left
        · obtain rfl : k = n := by omega
          have HB2 : Hid (∀ c, c < (i * k + (j + 1)) * k → chB T (lcomb 2) (rcomb 2) c = false) := by
            show ∀ c, _
            rw [← Nat.add_assoc, Nat.succ_mul]; exact hbk.out
          clear hbk HB0 HB1
          go_wp2_with fail
          go_roundw
          case rel => exact ⟨j + 1, _, by go_num, by omega, rfl, HB2⟩
          case measure => simp [intOf]; omega
        have hkn' : (k : Int) < (n : Int) := by omega
        have htl := HN.out
        obtain ⟨a, ha⟩ : ∃ a : Nat, prd T i j = (a : Int) := ⟨(prd T i j).toNat, by have := prd_in HTB.out (i := (i : Int)) (j := (j : Int)) (by omega) (by omega); omega⟩
        obtain ⟨b, hb⟩ : ∃ b : Nat, prd T j k = (b : Int) := ⟨(prd T j k).toNat, by have := prd_in HTB.out (i := (j : Int)) (j := (k : Int)) (by omega) (by omega); omega⟩
        have ha1 : a < n := by have := prd_in HTB.out (i := (i : Int)) (j := (j : Int)) (by omega) (by omega); omega
        have hb1 : b < n := by have := prd_in HTB.out (i := (j : Int)) (j := (k : Int)) (by omega) (by omega); omega
        have hch := chB3 (T := T) HN.out hin hjn hkn
        rw [ha, hb] at hch
        have c1 := (HTA.out.prod HTB.out (i := i) (j := j) (by omega) (by omega)).1
        have c5 := (HTA.out.prod HTB.out (i := i) (j := j) (by omega) (by omega)).2
        have c2 := (HTA.out.prod HTB.out (i := j) (j := k) (by omega) (by omega)).1
        have c3 := (HTA.out.prod HTB.out (i := j) (j := k) (by omega) (by omega)).2
        have c4 := (HTA.out.prod HTB.out (i := i) (j := b) (by omega) (by omega)).2
        have c6 := (HTA.out.prod HTB.out (i := a) (j := k) (by omega) (by omega)).1
        have c7 := (HTA.out.prod HTB.out (i := a) (j := k) (by omega) (by omega)).2
        rw [ha] at c5
        rw [hb] at c3
        rw [htl] at c1 c2 c6
        clear ha hb htl
        generalize gs.getD i 0 = gi at *
        generalize gs.getD j 0 = gj at *
        generalize gs.getD a 0 = ga at *
        obtain ⟨x, hx⟩ : ∃ x, x = prd T i b := ⟨_, rfl⟩
        obtain ⟨y, hy⟩ : ∃ y, y = prd T a k := ⟨_, rfl⟩
        rw [← hx] at c4 hch
        rw [← hy] at c7 hch
        clear hx hy
        have ha' : (a : Int) < (n : Int) := by omega
        have hb' : (b : Int) < (n : Int) := by omega
        cases hcb : chB T (lcomb 2) (rcomb 2) ((i * n + j) * n + k) with
        | true =>
          have HF : Hid (firstC T (lcomb 2) (rcomb 2) = some ((i * n + j) * n + k) ∧ digN T.length ((lcomb 2).carets + 1) ((i * n + j) * n + k) = [(i : Int), (j : Int), (k : Int)]) := by
            refine ⟨firstC_some ?_ hcb hbk.out, by rw [HN.out]; exact dig3 hin hjn hkn⟩
            rw [HN.out]
            have e : n ^ ((lcomb 2).carets + 1) = n * n * n := by
              show n ^ (2 + 1) = _
              rw [Nat.pow_succ, Nat.pow_succ, Nat.pow_one]
            rw [e]
            have h1 : (i * n + j) + 1 ≤ n * n := by
              have : i * n + n ≤ n * n := by rw [← Nat.succ_mul]; exact Nat.mul_le_mul_right _ hin
              omega
            have h2 : (i * n + j) * n + n ≤ n * n * n := by rw [← Nat.succ_mul]; exact Nat.mul_le_mul_right _ h1
            omega
          rw [hcb] at hch
          have hxy : (x != y) = true := by rw [bne_comm]; exact hch.symm
          clear hch hcb hbk HB0 HB1
          go_wp2_with fail
          go_region
          go_wp2_with fail
          go_ret2
          show Brk T (lcomb 2) (rcomb 2) w _ _
          unfold Brk
          rw [HF.out.1]
          show ∃ g : Nat, _
          rw [HF.out.2]
          exact ⟨_, ownI_three i j k _, nxAlloc (drewB (Below.refl _ _) _) _, rfl⟩
        | false =>
          have HB2 : Hid (∀ c, c < (i * n + j) * n + (k + 1) → chB T (lcomb 2) (rcomb 2) c = false) := by
            show ∀ c, _
            intro c hc
            by_cases h : c = (i * n + j) * n + k
            · subst h; exact hcb
            · exact hbk.out c (by omega)
          rw [hcb] at hch
          have hxy : (x != y) = false := by rw [bne_comm]; exact hch.symm
          clear hch hcb hbk HB0 HB1
          go_wp2_with fail
          go_region
          go_wp2_with fail
          go_roundw
          case rel => exact ⟨k + 1, _, by go_num, by omega, rfl, HB2⟩
          case measure => simp [intOf]; omega
end Go.Proofs.Ytkoebmdocenlkaa
