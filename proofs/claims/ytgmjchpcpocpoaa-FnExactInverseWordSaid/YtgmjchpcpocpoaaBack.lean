/- Walks: slices.Backward; the inverses of a word, backwards. -/
import Derived.RangeFuncBox
import Derived.RangeFuncLeaves
import Derived.Shelf.Abstract
import Derived.WalkKit
import Derived.OwnWalkIn
import Derived.TacticsInMore
import Derived.LoopNIn
import Derived.LoopIn
import Derived.Maps.AppendAt
import Derived.Test.YtgmjchpcpocpoaaForm
namespace Go.Proofs.Ytgmjchpcpocpoaa
open Go.RowKit Go.Shelf

attribute [local go_sem] Oper.semAt_some

/-- An index with the small integer that stands there. -/
abbrev IxI := { p : Nat × Int // -100 ≤ p.2 ∧ p.2 ≤ 100 }
theorem getD_small {L : List Int} (h : ∀ x ∈ L, -100 ≤ x ∧ x ≤ 100) (k : Nat) : -100 ≤ L[k]?.getD 0 ∧ L[k]?.getD 0 ≤ 100 := by
  by_cases hk : k < L.length
  · rw [List.getElem?_eq_getElem hk]; exact h _ (List.getElem_mem _)
  · rw [List.getElem?_eq_none (by omega)]; simp
/-- What comes in the round number k. -/
def bkAt (L : List Int) (h : ∀ x ∈ L, -100 ≤ x ∧ x ≤ 100) (k : Nat) : IxI := ⟨(L.length - 1 - k, L[L.length - 1 - k]?.getD 0), getD_small h _⟩
def bkTo (L : List Int) (h : ∀ x ∈ L, -100 ≤ x ∧ x ≤ 100) (k : Nat) : List IxI := (List.range k).map (bkAt L h)
theorem bkTo_succ (L : List Int) (h : ∀ x ∈ L, -100 ≤ x ∧ x ≤ 100) (k : Nat) : bkTo L h (k + 1) = bkTo L h k ++ [bkAt L h k] := by simp [bkTo, List.range_succ]
theorem bkTo_length (L : List Int) (h : ∀ x ∈ L, -100 ≤ x ∧ x ≤ 100) (k : Nat) : (bkTo L h k).length = k := by simp [bkTo]
def negs (l : List IxI) : List Int := l.map fun p => -p.1.2
theorem negs_snoc (l : List IxI) (p : IxI) : negs (l ++ [p]) = negs l ++ [-p.1.2] := by simp [negs]
theorem negs_length (l : List IxI) : (negs l).length = l.length := by simp [negs]
theorem negs_all (L : List Int) (h : ∀ x ∈ L, -100 ≤ x ∧ x ≤ 100) : negs (bkTo L h L.length) = L.reverse.map fun x => -x := by
  apply List.ext_getElem
  · simp [negs, bkTo]
  · intro i h1 h2
    have hi : i < L.length := by simpa using h2
    have hj : L.length - 1 - i < L.length := by omega
    simp [negs, bkTo, bkAt, List.getElem?_eq_getElem hj]

/-- What the body of the loop must keep: what lay below n₀, and the slice's own box. -/
def KpB (n₀ Bs : Nat) (W W' : World) : Prop := Below n₀ W W' ∧ ∀ v, Boxed W Bs 22 v → Boxed W' Bs 22 v
theorem KpB.refl (n₀ Bs : Nat) (W : World) : KpB n₀ Bs W W := ⟨Below.refl _ _, fun _ h => h⟩
theorem KpB.trans {n₀ Bs : Nat} {A B C : World} (h : KpB n₀ Bs A B) (k : KpB n₀ Bs B C) : KpB n₀ Bs A C := ⟨h.1.trans k.1, fun v hv => k.2 v (h.2 v hv)⟩
theorem KpB.put {n₀ Bs : Nat} {w : World} (hn : n₀ ≤ w.heap.size) (W : World) (l : Nat) (o o' : Obj) (hl : w.heap.size ≤ l) (h : W.heap[l]? = some o) (hc : o.isCells = false) (hw : o.isWalk = false) : KpB n₀ Bs W (W.putObj l o') :=
  ⟨belowK_b hn W l o o' hl h hc hw, fun v hv => hv.kept (grownBy_putObj' W l o') (fun e => by
    cases e
    rw [show W.heap[Bs]? = _ from hv] at h
    cases h; cases hc)⟩

set_option maxRecDepth 100000 in
set_option maxHeartbeats 2000000 in
/-- The closure of slices.Backward, at a slice with cells. -/
theorem back1_in (F : Fence) (n : Nat) (hf : F.fn 76) (hro : F.round = none) (hn : 1 ≤ n) (l Bs n₀ b cap : Nat) (L : List Int) (hz : ∀ x ∈ L, -100 ≤ x ∧ x ≤ 100) (hL : L.length ≤ 1000) (hb : b < n₀) (J Jx : List IxI → World → Prop)
    (hY : ∀ pre x W, J pre W → pre.length < L.length → YieldAt F (n - 1) Try.prog l #[.int .i64 (x.1.1 : Int), .int .i64 x.1.2] W fun e W' =>
      (e = .returned (.bool true) ∧ J (pre ++ [x]) W' ∧ KpB n₀ Bs W W') ∨ (e = .returned (.bool false) ∧ Jx (pre ++ [x]) W'))
    (W : World) (hBs : Boxed W Bs 22 (.slice (some ⟨b, 0, none⟩) L.length cap)) (hc : ∀ j, j < L.length → W.cell? ⟨b, j, none⟩ = some (.int .i64 (L[j]?.getD 0))) (h0 : J [] W) :
    CallsIn F n Try.prog 76 #[.func (.yield l) #[] #[], .pointer (some ⟨Bs, 0, none⟩)] W fun e W' => (∃ v, e = .returned v) ∧
      ((∃ ys, ys = bkTo L hz L.length ∧ J ys W') ∨ (∃ pre, (∃ k, k ≤ L.length ∧ pre = bkTo L hz k) ∧ Jx pre W')) := by
  refine callsIn_of_wp Try.func76 rfl hf ?_ hro
  simp only [Try.ntmps76, List.size_toArray, List.length_cons, List.length_nil, Nat.reduceAdd, Nat.reduceSub, Array.replicate_succ, Array.replicate_zero, List.push_toArray, List.append_toArray, List.nil_append, List.cons_append]
  have hB0 := hBs.cell
  gi_wp2
  gi_loopw [3] (fun i wr => ∃ m : Nat, m ≤ L.length ∧ i = .int .i64 ((m : Int) - 1) ∧ J (bkTo L hz (L.length - m)) wr ∧ KpB n₀ Bs W wr)
    (fun i _ => (intOf i + 1).toNat)
  case atStart => exact ⟨L.length, Nat.le_refl _, rfl, by rw [Nat.sub_self]; exact h0, KpB.refl _ _ _⟩
  case round =>
    obtain ⟨m, hm, rfl, hJs, hnx⟩ := hrel
    have hBx := (hnx.2 _ hBs).cell
    cases m with
    | zero =>
      have e0 : ((0 : Nat) : Int) - 1 = -1 := by omega
      rw [e0]
      gi_wp2
      go_end0
      exact ⟨⟨_, rfl⟩, .inl ⟨_, rfl, hJs⟩⟩
    | succ m =>
      have e1 : ((m + 1 : Nat) : Int) - 1 = (m : Int) := by omega
      rw [e1]
      have hcx : wr.cell? ⟨b, m, none⟩ = some (.int .i64 (L[m]?.getD 0)) := (hnx.1.cell (p := ⟨b, m, none⟩) hb).trans (hc m (by omega))
      obtain ⟨fn, tmps, assign, body, hy, hR⟩ := hY _ (bkAt L hz (L.length - (m + 1))) wr hJs (by rw [bkTo_length]; omega)
      have e2 : L.length - 1 - (L.length - (m + 1)) = m := by omega
      simp only [bkAt, e2] at hy
      gi_wp2
      refine hR.mono ?_
      rintro e W3 (⟨rfl, hJ3, hk3⟩ | ⟨rfl, hJx3⟩)
      · gi_wp2
        go_roundw
        case rel => exact ⟨m, by omega, by go_num, by rw [show L.length - m = (L.length - (m + 1)) + 1 by omega, bkTo_succ]; exact hJ3, hnx.trans hk3⟩
        case measure => simp [intOf]
      · gi_wp2
        refine bodyPost_ret (results_none rfl _ _ _) rfl ?_
        exact ⟨⟨_, rfl⟩, .inr ⟨_, ⟨L.length - (m + 1) + 1, by omega, (bkTo_succ _ _ _).symm⟩, hJx3⟩⟩

set_option maxRecDepth 100000 in
set_option maxHeartbeats 2000000 in
/-- .. at a slice of none: no round. -/
theorem back1_nil_in (F : Fence) (n : Nat) (hf : F.fn 76) (hro : F.round = none) (l Bs cap : Nat) (oa : Option Addr) (J : List IxI → World → Prop) (W : World) (hBs : W.cell? ⟨Bs, 0, none⟩ = some (.slice oa 0 cap)) (h0 : J [] W) :
    CallsIn F n Try.prog 76 #[.func (.yield l) #[] #[], .pointer (some ⟨Bs, 0, none⟩)] W fun e W' => (∃ v, e = .returned v) ∧ J [] W' := by
  refine callsIn_of_wp Try.func76 rfl hf ?_ hro
  simp only [Try.ntmps76, List.size_toArray, List.length_cons, List.length_nil, Nat.reduceAdd, Nat.reduceSub, Array.replicate_succ, Array.replicate_zero, List.push_toArray, List.append_toArray, List.nil_append, List.cons_append]
  gi_wp2
  gi_loopw [3] (fun i wr => i = .int .i64 (-1) ∧ J [] wr) (fun _ _ => 0)
  case atStart => exact ⟨rfl, h0⟩
  case round =>
    obtain ⟨rfl, hJs⟩ := hrel
    gi_wp2
    go_end0
    exact ⟨⟨_, rfl⟩, hJs⟩

set_option maxHeartbeats 1000000 in
/-- slices.Backward: the slice is boxed. -/
theorem back_in (F : Fence) (n : Nat) (hf : F.fn 63) (hro : F.round = none) (a : Option Addr) (len cap : Nat) (w : World) :
    CallsIn F n Try.prog 63 #[.slice a len cap] w fun e w' => e = .returned (.func (.func 76) #[] #[.pointer (some ⟨w.heap.size, 0, none⟩)]) ∧ w' = w.alloc (.cells #[.slice a len cap] 22) := by
  refine callsIn_of_wp Try.func63 rfl hf ?_ hro
  simp only [Try.ntmps63, List.size_toArray, List.length_cons, List.length_nil, Nat.reduceAdd, Nat.reduceSub, Array.replicate_succ, Array.replicate_zero, List.push_toArray, List.append_toArray, List.nil_append, List.cons_append]
  gi_wp2
  go_ret
  exact ⟨rfl, rfl⟩

/-- What comes of slices.Backward. -/
theorem back_stops (F : Fence) (n : Nat) (hf : F.fn 76) (hro : F.round = none) (hn : 1 ≤ n) (Bs n₀ cap : Nat) (oa : Option Addr) (L : List Int) (hz : ∀ x ∈ L, -100 ≤ x ∧ x ≤ 100) (hL : L.length ≤ 1000) (w : World) (hn₁ : n₀ ≤ w.heap.size)
    (hc : Boxed w Bs 22 (.slice oa L.length cap)) (hI : ∀ i, i < L.length → ∃ g, oa = some ⟨g, 0, none⟩ ∧ g < n₀ ∧ w.cell? ⟨g, i, none⟩ = some (.int .i64 (L[i]?.getD 0))) :
    SeqStopsK F n Try.prog 76 #[.pointer (some ⟨Bs, 0, none⟩)] (fun x : IxI => #[Value.int .i64 (x.1.1 : Int), Value.int .i64 x.1.2]) (KpB n₀ Bs) (fun ys => ys = bkTo L hz L.length)
      (fun pre => ∃ k, k ≤ L.length ∧ pre = bkTo L hz k) L.length w := fun l J Jx W hW _ _ hY h0 => by
  have hc' : Boxed W Bs 22 (.slice oa L.length cap) := (hW.block Bs hc.lt).trans hc
  by_cases h : L.length = 0
  · have hc2 := hc'.cell
    rw [h] at hc2
    exact (back1_nil_in F n hf hro l Bs cap oa J W hc2 h0).mono fun e W' ⟨he, hj⟩ => ⟨he, .inl ⟨_, by rw [h]; rfl, hj⟩⟩
  · obtain ⟨g, rfl, hg, _⟩ := hI 0 (by omega)
    refine back1_in F n hf hro hn l Bs n₀ g cap L hz hL hg J Jx hY W hc' (fun i hi => ?_) h0
    obtain ⟨g', e, hg', c⟩ := hI i hi
    cases e
    exact (hW.cell (p := ⟨g, i, none⟩) (by show g < _; omega)).trans c

end Go.Proofs.Ytgmjchpcpocpoaa
