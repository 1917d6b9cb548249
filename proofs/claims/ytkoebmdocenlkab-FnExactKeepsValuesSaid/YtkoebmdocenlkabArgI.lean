/- Slices of integers that came in; toIntS. -/
import Derived.Test.YtkoebmdocenlkabTail
import Derived.Test.YtkoebmdocenlkabRowS
namespace Go.Proofs.Ytkoebmdocenlkab
open Go.RowKit

/-- A slice of integers that came in: it is nil, or leads to a row of 'cap' cells, the first 'len' of which are its elements. -/
def IsInts (w : World) (a : Option Addr) (len cap : Nat) (ss : List Int) : Prop :=
  (a = none ∧ len = 0 ∧ cap = 0 ∧ ss = []) ∨
  ∃ x, a = some x ∧ len ≤ cap ∧ cap ≤ maxLen ∧ ss.length = cap ∧ (∀ i, i < ss.length → w.cell? (x.add i) = some (.int .i64 (ss.getD i 0))) ∧ ∀ s ∈ ss, (Lit.int .i64 s).wf = true

/-- What can be read of a slice of integers: the cells from an address on. -/
def ReadI (w : World) (g off : Nat) (ss : List Int) : Prop := ∀ i, i < ss.length → w.cell? ⟨g, off + i, none⟩ = some (.int .i64 (ss.getD i 0))

theorem ReadI.keep {w w' : World} {g off : Nat} {ss : List Int} (h : ReadI w g off ss) (hb : Below w.heap.size w w') : ReadI w' g off ss := by
  intro i hi
  have := h i hi
  exact (hb.cell (p := ⟨g, off + i, none⟩) (World.block_lt_of_cell? w _ this)).trans this

/-- The slice as the walks take it: empty, or readable from an address on. -/
def InI (w : World) (a : Option Addr) (ss : List Int) : Prop := ss = [] ∨ ∃ g off, a = some ⟨g, off, none⟩ ∧ ReadI w g off ss

theorem IsInts.inI {w : World} {a : Option Addr} {len cap : Nat} {ss : List Int} (h : IsInts w a len cap ss) : InI w a (ss.take len) ∧ (ss.take len).length = len ∧ (len : Int) ≤ 9223372036854775807 ∧ ∀ s ∈ ss.take len, -9223372036854775808 ≤ s ∧ s ≤ 9223372036854775807 := by
  rcases h with ⟨rfl, rfl, rfl, rfl⟩ | ⟨x, rfl, h1, h2, h3, h4, h5⟩
  · exact ⟨.inl rfl, rfl, by omega, by simp⟩
  · have hl : (ss.take len).length = len := by rw [List.length_take]; omega
    unfold maxLen at h2
    refine ⟨?_, hl, by omega, fun s hs => i64_bounds (h5 s (List.mem_of_mem_take hs))⟩
    by_cases h0 : len = 0
    · left; subst h0; rfl
    · right
      obtain ⟨b, off, spot⟩ := x
      have hc := h4 0 (by omega)
      have hspot : spot = none := by simpa [Addr.add] using World.cell?_spot hc
      subst hspot
      refine ⟨b, off, rfl, fun i hi => ?_⟩
      rw [hl] at hi
      have := h4 i (by omega)
      have e : (⟨b, off, none⟩ : Addr).add i = ⟨b, off + i, none⟩ := by
        unfold Addr.add
        split
        · next h => rw [h]; simp
        · rfl
      rw [e] at this
      rw [this]
      simp [List.getD_eq_getElem?_getD, hi]

theorem InI.keep {w w' : World} {a : Option Addr} {ss : List Int} (h : InI w a ss) (hb : Below w.heap.size w w') : InI w' a ss := by
  rcases h with h | ⟨g, off, rfl, hr⟩
  · exact .inl h
  · exact .inr ⟨g, off, rfl, hr.keep hb⟩

/-- A call that hands back a copy, in new memory. -/
def CopyOfI (ss : List Int) (n : Nat) (w : World) (e : Ending) (w' : World) : Prop :=
  ∃ g : Nat, OwnI w.heap.size w' (.slice (some ⟨g, 0, none⟩) n n) ss ∧ Below w.heap.size w w' ∧ e = .returned (.slice (some ⟨g, 0, none⟩) n n)

theorem madeCells_int (n : Nat) : (madeCells (Value.int .i64 0).cells (n * 1)).toList = (List.replicate n (0 : Int)).map (Value.int .i64) := by
  rw [List.map_replicate, Nat.mul_one]
  exact toList_madeCells_one _ _

set_option maxHeartbeats 1000000 in
theorem toIntS_any (a : Option Addr) (cap n : Nat) (ss : List Int) (w : World) (hn : ss.length = n) (hn1 : n ≤ 1048576) (h : InI w a ss) :
    Calls Try.prog 46 #[.slice a n cap] w (CopyOfI ss n w) := by
  obtain ⟨i0, hi, hz0, hz1, hz2⟩ := info_parts info_int
  have HN := Lib.hid hn
  have HI := Lib.hid h
  clear hn h
  go_enter Try.func46, Try.ntmps46
  go_wp2_with (at_make; refine wpList_make_full _ rfl _ _ 47 rfl w.heap.size 3 i0 (.int .i64 0) 1 Try.underlying47 hi hz0 hz1 .i64 .i64 _ _ n rfl rfl rfl rfl (by rw [hz2]; omega) (by unfold maxLen; omega) (Nat.le_refl _) ?_; intro w0 hown0 hgrow0)
  rw [madeCells_int] at hown0
  have hb0 : Below w.heap.size w w0 := (Below.refl _ _).grown hgrow0 (Nat.le_refl _) (fun k hk => by cases hk)
  have hO : OwnI w.heap.size w0 (.slice (some ⟨w.heap.size, 0, none⟩) n n) (List.replicate n (0 : Int)) := by
    unfold OwnI; rw [List.length_replicate]; exact hown0
  have HO := Lib.hid hO
  clear hown0 hgrow0 hO
  go_wp2_with fail
  go_loopw [4] (fun i wr => ∃ k : Nat, k ≤ n ∧ i = .int .i64 k ∧ Hid (OwnI w.heap.size wr (.slice (some ⟨w.heap.size, 0, none⟩) n n) (ss.take k ++ List.replicate (n - k) (0 : Int))) ∧ Below w.heap.size w wr) (fun i _ => n - (intOf i).toNat)
  case atStart => exact ⟨0, Nat.zero_le _, rfl, HO, hb0⟩
  case round =>
    obtain ⟨k, hk, rfl, hown, hbw⟩ := hrel
    have hlen : (ss.take k ++ List.replicate (n - k) (0 : Int)).length = n := by have := HN.out; simp; omega
    by_cases hlt : k < n
    · have hlt' : (k : Int) < (n : Int) := by omega
      have hlk : k < ss.length := by have := HN.out; omega
      rcases HI.out with h0 | ⟨g, off, ha, hr⟩
      · exfalso; rw [h0] at hlk; simp at hlk
      · have c1 := (hr.keep hbw) k hlk
        have hset := OwnI.set hlen hown.out k (ss.getD k 0)
        have hnext : (ss.take k ++ List.replicate (n - k) (0 : Int)).set k (ss.getD k 0) = ss.take (k + 1) ++ List.replicate (n - (k + 1)) (0 : Int) := by
          have e : n - k = (n - (k + 1)) + 1 := by omega
          rw [List.set_append_right _ _ (by simp; omega), e, List.replicate_succ]
          have e2 : k - (ss.take k).length = 0 := by simp; omega
          rw [e2, List.set_cons_zero, List.take_succ_eq_append_getElem hlk, List.append_assoc]
          simp [hlk]
        rw [hnext] at hset
        have hfz : wr.frozen? ⟨w.heap.size, k, none⟩ = false := World.ownsRow.frozenAt (by have := hown.out; unfold OwnI at this; rw [hlen] at this; exact this) k
        obtain ⟨x, hcell⟩ : ∃ x, wr.cell? ⟨w.heap.size, k, none⟩ = some x := by
          have h1 := hown.out
          unfold OwnI at h1
          rw [hlen] at h1
          have := World.ownsRow.cellAt h1 k (by omega)
          rw [this]
          exact ⟨_, List.getElem?_eq_getElem (by rw [List.length_map, hlen]; exact hlt)⟩
        obtain ⟨s, hs⟩ : ∃ s, s = ss.getD k 0 := ⟨_, rfl⟩
        rw [← hs] at c1 hset
        have hbw' : Below w.heap.size w (wr.setCell ⟨w.heap.size, k, none⟩ (.int .i64 s)) := hbw.setCell (Nat.le_refl _) _
        have HSET := Lib.hid hset
        clear hset hs hnext hlk
        subst ha
        go_wp2_with fail
        go_roundw
        case rel => exact ⟨k + 1, by omega, by go_num, HSET, hbw'⟩
        case measure => simp [intOf]; omega
    · obtain rfl : k = n := by omega
      have hend : Hid (OwnI w.heap.size wr (.slice (some ⟨w.heap.size, 0, none⟩) k k) ss) := by
        have h1 := hown.out
        rw [Nat.sub_self, List.replicate_zero, List.append_nil, List.take_of_length_le (by have := HN.out; omega)] at h1
        exact h1
      go_wp2_with fail
      go_ret
      exact ⟨_, hend.out, hbw, rfl⟩
end Go.Proofs.Ytkoebmdocenlkab
