/- Walk: impl.lettersOfTwo. -/
import Derived.Test.YtgmjchpcpocpoabCat
import Derived.Test.YtgmjchpcpocpoabRep
import Derived.Test.YtgmjchpcpocpoabWdR
import Derived.Test.YtgmjchpcpocpoabWd4n
import Derived.Test.YtgmjchpcpocpoabWd3
namespace Go.Proofs.Ytgmjchpcpocpoab
open Go.RowKit

theorem OwnI.lone (w : World) (s : Int) : OwnI w.heap.size (w.alloc (.cells #[.int .i64 s] 3 (0, 0))) (.slice (some ⟨w.heap.size, 0, none⟩) 1 1) [s] := by
  refine ⟨rfl, .inr ⟨w.heap.size, 1, #[.int .i64 s], rfl, Nat.le_refl _, ?_, Nat.le_refl _, by unfold maxLen; omega, rfl, rfl⟩⟩
  show (w.heap.push _)[w.heap.size]? = _
  simp
theorem cell_new1 (w : World) (v : Value) (e : TypeId) : (w.alloc (.cells #[v] e)).cell? ⟨w.heap.size, 0, none⟩ = some v := by
  have h := new1 w v e 0 v rfl
  rwa [addr_add] at h
theorem src_own {base g n cap : Nat} {w : World} {xs : List Int} (h : OwnI base w (.slice (some ⟨g, 0, none⟩) n cap) xs) (hn : xs.length = n) : SrcI w (.slice (some ⟨g, 0, none⟩) n cap) xs := by
  subst hn
  refine SrcI.of ?_
  have h' := src_take h xs.length (Nat.le_refl _) cap
  rwa [List.take_of_length_le (by simp)] at h'
theorem src_one (w : World) (m : Int) : SrcI (w.alloc (.cells #[.int .i64 m] 3)) (.slice (some ⟨w.heap.size, 0, none⟩) 1 1) [m] :=
  SrcI.of (.inr ⟨_, 1, rfl, new1 _ _ _⟩)
theorem parts3 (w : World) (t : TypeId) (a b c : Value) (A B C : List Int) (ha : SrcI w a A) (hb : SrcI w b B) (hc : SrcI w c C) : Parts (w.alloc (.cells #[a, b, c] t)) w.heap.size [a, b, c] [A, B, C] := by
  have hk : Below w.heap.size w (w.alloc (.cells #[a, b, c] t)) := (Below.refl _ w).alloc (Nat.le_refl _) _
  have hc0 : ∀ (j : Nat) (u : Value), [a, b, c][j]? = some u → (w.alloc (.cells #[a, b, c] t)).cell? ⟨w.heap.size, j, none⟩ = some u := by
    intro j u hj
    unfold World.cell?
    rw [show (w.alloc (.cells #[a, b, c] t)).heap[w.heap.size]? = some (.cells #[a, b, c] t (0, 0)) by show (w.heap.push _)[w.heap.size]? = _; simp]
    simpa using hj
  refine ⟨by simp, rfl, fun i hi => ?_⟩
  have hi' : i < 3 := hi
  match i, hi' with
  | 0, _ => exact ⟨hc0 0 a rfl, ha.keep hk⟩
  | 1, _ => exact ⟨hc0 1 b rfl, hb.keep hk⟩
  | 2, _ => exact ⟨hc0 2 c rfl, hc.keep hk⟩

set_option maxRecDepth 100000 in
set_option maxHeartbeats 1000000 in
theorem lettersOfTwo_any (x : Int) (w : World) (h0 : x ≠ 0) (h1 : -21 ≤ x) (h2 : x ≤ 21) :
    Calls Try.prog 36 #[.int .i64 x] w (GivesInts (twoL x) w) := by
  have hN := fun w => numberOf_any x w (by omega) (by omega)
  by_cases hs : num x ≤ 1
  · have hn0 : 0 ≤ num x := by unfold num; split <;> omega
    have hv : twoL x = [x] := by
      unfold twoL
      by_cases hz : num x = 0
      · rw [if_pos hz]
      · rw [if_neg hz]
        have e0 : (num x - 1).toNat = 0 := by omega
        rw [e0]
        have e1 : (if 0 < x then (2 : Int) else -2) = x := by unfold num at hs hz; split at hs <;> split <;> omega
        rw [e1]
        rfl
    rw [hv]
    generalize num x = y at *
    clear hv
    go_enter Try.func36, Try.ntmps36
    go_wp2_with fail
    refine (hN _).mono ?_; rintro e w1 ⟨rfl, rfl⟩
    go_wp2_with fail
    go_ret
    exact ⟨_, OwnI.lone _ _, nxAlloc (Below.refl _ _) _, rfl⟩
  · obtain ⟨k, hk⟩ : ∃ k : Nat, num x = (k : Int) + 1 := ⟨(num x - 1).toNat, by omega⟩
    have hk1 : 1 ≤ k := by omega
    have hk2 : k ≤ 19 := by unfold num at hk; split at hk <;> omega
    obtain ⟨M, hM⟩ : ∃ M : Int, M = if 0 < x then 2 else -2 := ⟨_, rfl⟩
    have hv : twoL x = [List.replicate k (-1), [M], List.replicate k (1 : Int)].flatten := by
      unfold twoL
      rw [if_neg (by omega), hk, ← hM]
      have : ((k : Int) + 1 - 1).toNat = k := by omega
      rw [this]
      simp
    rw [hv]
    obtain ⟨Z, hZ⟩ : ∃ Z, Z = [List.replicate k (-1), [M], List.replicate k (1 : Int)].flatten := ⟨_, rfl⟩
    have hZl : [List.replicate k (-1), [M], List.replicate k (1 : Int)].flatten.length ≤ 10000 := by simp; omega
    have HC := fun g us w h => concat_any g 3 us [List.replicate k (-1), [M], List.replicate k (1 : Int)] w h rfl (by omega) hZl
    rw [← hZ] at HC ⊢
    have P1 := fun g w hc => repeat_any (-1) k g 1 w (by omega) hk1 hc
    have P2 := fun g w hc => repeat_any 1 k g 1 w (by omega) hk1 hc
    clear hZ hZl
    have hR := fun w => raised_any x (-(k : Int)) w (by omega) (by omega) (by omega) (by omega)
    have hu : up (-(k : Int)) x = M := by rw [hM]; unfold up; unfold num at hk; split at hk <;> split <;> split <;> omega
    rw [hu] at hR
    rw [hk] at hN
    clear hv hu hM hk hs
    go_enter Try.func36, Try.ntmps36
    go_wp2_with fail
    refine (hN _).mono ?_; rintro e w1 ⟨rfl, rfl⟩
    go_wp2_with fail
    refine (hR _).mono ?_; rintro e w1 ⟨rfl, rfl⟩
    go_wp2_with fail
    refine (P1 _ _ ?_).mono ?_
    · exact cell_new1 _ _ _
    rintro e w1 ⟨ga, owna, hb1, rfl⟩
    have hbw1 := nxAlloc (Below.refl w.heap.size w) (.cells #[.int .i64 (-1)] 3)
    replace hbw1 := nx hbw1 hb1
    go_wp2_with fail
    refine (P2 _ _ ?_).mono ?_
    · simp
    rintro e w2 ⟨gb, ownb, hb2, rfl⟩
    have hs1 : SrcI w2 (.slice (some ⟨ga, 0, none⟩) k k) (List.replicate k (-1)) := (src_own owna (by simp)).keep (nx (nxAlloc (nxAlloc (Below.refl _ w1) _) _) hb2)
    have hs2 : SrcI w2 (.slice (some ⟨w1.heap.size, 0, none⟩) 1 1) [M] := ((src_one w1 M).keep ((Below.refl _ _).alloc (Nat.le_refl _) _)).keep hb2
    have hs3 : SrcI w2 (.slice (some ⟨gb, 0, none⟩) k k) (List.replicate k 1) := src_own ownb (by simp)
    have hbw2 : Below w.heap.size w w2 := nx (nxAlloc (nxAlloc hbw1 _) _) hb2
    clear owna ownb hb1 hb2 hbw1 P1 P2
    go_wp2_with fail
    refine (HC _ _ _ (parts3 w2 _ _ _ _ _ _ _ hs1 hs2 hs3)).mono ?_
    rintro e w3 ⟨v, own, hb3, rfl⟩
    go_wp2_with fail
    go_ret
    exact ⟨_, own.mono (nxAlloc hbw2 _).size, nx (nxAlloc hbw2 _) hb3, rfl⟩
end Go.Proofs.Ytgmjchpcpocpoab
