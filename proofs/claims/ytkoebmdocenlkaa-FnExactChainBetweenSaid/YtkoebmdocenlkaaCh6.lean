/- Walks: slices.Reverse of links. -/
import Derived.Test.YtkoebmdocenlkaaCh4
import Derived.Test.YtkoebmdocenlkaaRvP
namespace Go.Proofs.Ytkoebmdocenlkaa
open Go.RowKit

theorem grown_transB {a b c : World} {r : Option Nat} (h : a.grownBy b r) (k : b.grownBy c r) : a.grownBy c r :=
  ⟨k.os.trans h.os, k.tape.trans h.tape, k.output.trans h.output, Nat.le_trans h.size k.size, fun i hi hn => (k.block i (Nat.lt_of_lt_of_le hi h.size) hn).trans (h.block i hi hn)⟩
theorem ptrs_set (L : List Nat) (i x : Nat) : (L.map ptrB).set i (ptrB x) = (L.set i x).map ptrB := by rw [List.map_set]
theorem frozenL {base : Nat} {w : World} {g n cap : Nat} {L : List Nat} (h : w.ownsRow base 73 1 (.slice (some ⟨g, 0, none⟩) n cap) n (L.map ptrB)) (i : Nat) : w.frozen? ⟨g, i, none⟩ = false := World.ownsRow.frozenAt h i
theorem cellL {base : Nat} {w : World} {g n cap : Nat} {L : List Nat} (h : w.ownsRow base 73 1 (.slice (some ⟨g, 0, none⟩) n cap) n (L.map ptrB)) (hn : L.length = n) {i : Nat} (hi : i < n) : w.cell? ⟨g, i, none⟩ = some (ptrB (L.getD i 0)) := by
  rw [World.ownsRow.cellAt h i (by omega)]
  simp [List.getElem?_eq_getElem (show i < L.length by omega)]

set_option maxRecDepth 100000 in
set_option maxHeartbeats 2000000 in
theorem reverseL_any (base g n cap : Nat) (L : List Nat) (w : World) (hn : L.length = n) (hn1 : 1 ≤ n) (hn9 : n ≤ 1000) (h : OwnL base w (.slice (some ⟨g, 0, none⟩) n cap) L) :
    Calls Try.prog 70 #[.slice (some ⟨g, 0, none⟩) n cap] w (fun e w' => OwnL base w' (.slice (some ⟨g, 0, none⟩) n cap) L.reverse ∧ w.grownBy w' (some g) ∧ e = .returned (.tuple #[])) := by
  have hr : w.ownsRow base 73 1 (.slice (some ⟨g, 0, none⟩) n cap) n ((revI L 0).map ptrB) := by
    rw [revI_zero]
    unfold OwnL at h
    rw [hn] at h
    exact h
  have hr0 := Lib.hid hr
  have HN := Lib.hid hn
  clear h hr hn
  go_enter Try.func70, Try.ntmps70
  go_wp2_with fail
  go_loopw [2, 3] (fun a b wr => ∃ i : Nat, a = .int .i64 i ∧ b = .int .i64 ((n : Int) - 1 - i) ∧ 2 * i ≤ n ∧ Hid (wr.ownsRow base 73 1 (.slice (some ⟨g, 0, none⟩) n cap) n ((revI L i).map ptrB)) ∧ w.grownBy wr (some g)) (fun a _ _ => n - (intOf a).toNat)
  case atStart => exact ⟨0, rfl, by go_num, by omega, hr0, ⟨rfl, rfl, rfl, Nat.le_refl _, fun _ _ _ => rfl⟩⟩
  case round =>
    obtain ⟨i, rfl, rfl, hi, hown, hgr⟩ := hrel
    by_cases hlt : 2 * i + 1 < n
    · have hlt' : (i : Int) < (n : Int) - 1 - i := by omega
      have hlen : (revI L i).length = n := by rw [revI_length]; exact HN.out
      obtain ⟨j, hj⟩ : ∃ j : Nat, j = n - 1 - i := ⟨_, rfl⟩
      have hjn : j < n := by omega
      have hin : i < n := by omega
      have hij : ¬ i = j := by omega
      have hj2 : (n : Int) - 1 - i = (j : Int) := by omega
      have c1 := cellL hown.out hlen hin
      have c2 := cellL hown.out hlen hjn
      have f1 := frozenL hown.out i
      have f2 := frozenL hown.out j
      have hst := revI_step L (i := i) (by have := HN.out; omega)
      rw [show L.length - 1 - i = j by have := HN.out; omega] at hst
      obtain ⟨x, hx⟩ : ∃ x, x = (revI L i).getD i 0 := ⟨_, rfl⟩
      obtain ⟨y, hy⟩ : ∃ y, y = (revI L i).getD j 0 := ⟨_, rfl⟩
      rw [← hx] at c1 hst
      rw [← hy] at c2 hst
      have HST := Lib.hid hst
      unfold ptrB at c1 c2
      rw [hj2] at hlt' ⊢
      have HJ := Lib.hid hj
      have HJ2 := Lib.hid hj2
      clear hx hy hst hj hj2
      have hr1 := World.ownsRow.stored hown.out i (.pointer (some ⟨y, 0, none⟩))
      have hr2 := World.ownsRow.stored hr1.1 j (.pointer (some ⟨x, 0, none⟩))
      have hnext : (((wr.setCell ⟨g, i, none⟩ (.pointer (some ⟨y, 0, none⟩))).setCell ⟨g, j, none⟩ (.pointer (some ⟨x, 0, none⟩))).drew).ownsRow base 73 1 (.slice (some ⟨g, 0, none⟩) n cap) n ((revI L (i + 1)).map ptrB) := by
        have h9 := hr2.1
        rw [← HST.out, ← ptrs_set, ← ptrs_set]
        exact h9
      have HNX := Lib.hid hnext
      have HG : Hid (w.grownBy (((wr.setCell ⟨g, i, none⟩ (.pointer (some ⟨y, 0, none⟩))).setCell ⟨g, j, none⟩ (.pointer (some ⟨x, 0, none⟩))).drew) (some g)) := by
        have h9 := grown_transB hgr (grown_transB hr1.2 hr2.2)
        exact ⟨h9.os, h9.tape, h9.output, h9.size, h9.block⟩
      clear hr1 hr2 hnext
      go_wp2_with fail
      go_region
      go_wp2_with fail
      go_roundw
      case rel => exact ⟨i + 1, by go_num, by have := HJ2.out; go_num, by omega, HNX, HG.out⟩
      case measure => simp [intOf]; omega
    · have hge : ¬ ((i : Int) < (n : Int) - 1 - i) := by omega
      have hfin : OwnL base wr (.slice (some ⟨g, 0, none⟩) n cap) L.reverse := by
        have h9 := hown.out
        rw [revI_end L (by have := HN.out; omega)] at h9
        unfold OwnL
        rw [List.length_reverse, HN.out]
        exact h9
      have HF := Lib.hid hfin
      clear hfin hown
      go_wp2_with fail
      refine bodyPost_end (v := .tuple #[]) (by simp [results, Try.results70, go_sem]) rfl ⟨HF.out, hgr, rfl⟩
end Go.Proofs.Ytkoebmdocenlkaa
