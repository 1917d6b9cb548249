/- Slices of texts that came in; szStringS, toStringS. -/
import Derived.Test.YtplmbdljhgicfaaTailS
namespace Go.Proofs.Ytplmbdljhgicfaa
open Go.RowKit

/-- A slice of texts that came in: it is nil, or leads to a row of 'cap' cells, the first 'len' of which are its elements. -/
def IsStrs (w : World) (a : Option Addr) (len cap : Nat) (ss : List ByteArray) : Prop :=
  (a = none ∧ len = 0 ∧ cap = 0 ∧ ss = []) ∨
  ∃ x, a = some x ∧ len ≤ cap ∧ cap ≤ maxLen ∧ ss.length = cap ∧ (∀ i, i < ss.length → w.cell? (x.add i) = some (.string (ss.getD i ByteArray.empty))) ∧ ∀ s ∈ ss, s.size ≤ maxLen

/-- What can be read of a slice of texts: the cells from an address on. -/
def ReadS (w : World) (g off : Nat) (ss : List ByteArray) : Prop := ∀ i, i < ss.length → w.cell? ⟨g, off + i, none⟩ = some (.string (ss.getD i ⟨#[]⟩))

theorem ReadS.keep {w w' : World} {g off : Nat} {ss : List ByteArray} (h : ReadS w g off ss) (hb : Below w.heap.size w w') : ReadS w' g off ss := by
  intro i hi
  have := h i hi
  exact (hb.cell (p := ⟨g, off + i, none⟩) (World.block_lt_of_cell? w _ this)).trans this

/-- The slice as the walks take it: empty, or readable from an address on. -/
def InS (w : World) (a : Option Addr) (ss : List ByteArray) : Prop := ss = [] ∨ ∃ g off, a = some ⟨g, off, none⟩ ∧ ReadS w g off ss

theorem IsStrs.inS {w : World} {a : Option Addr} {len cap : Nat} {ss : List ByteArray} (h : IsStrs w a len cap ss) : InS w a (ss.take len) ∧ (ss.take len).length = len ∧ (len : Int) ≤ 9223372036854775807 ∧ ∀ s ∈ ss.take len, (s.size : Int) ≤ 9223372036854775807 := by
  rcases h with ⟨rfl, rfl, rfl, rfl⟩ | ⟨x, rfl, h1, h2, h3, h4, h5⟩
  · exact ⟨.inl rfl, rfl, by omega, by simp⟩
  · have hl : (ss.take len).length = len := by rw [List.length_take]; omega
    unfold maxLen at h2 h5
    refine ⟨?_, hl, by omega, fun s hs => by have := h5 s (List.mem_of_mem_take hs); omega⟩
    by_cases h0 : len = 0
    · left; subst h0; rfl
    · right
      obtain ⟨b, off, spot⟩ := x
      have hc := h4 0 (by omega)
      have hspot : spot = none := by simpa [Addr.add] using World.cell?_spot hc
      subst hspot
      refine ⟨b, off, rfl, fun i hi => ?_⟩
      rw [hl] at hi
      have := h4 i (by omega)
      have e : (⟨b, off, none⟩ : Addr).add i = ⟨b, off + i, none⟩ := by
        unfold Addr.add
        split
        · next h => rw [h]; simp
        · rfl
      rw [e] at this
      rw [this]
      simp [List.getD_eq_getElem?_getD, hi]
      rfl

def SizeOk (ss : List ByteArray) (w : World) (e : Ending) (w' : World) : Prop :=
  ∃ r : Int, e = .returned (.int .i64 r) ∧ w = w' ∧ Hid (0 ≤ r → ss.length ≤ 1048576 ∧ ∀ s ∈ ss, s.size ≤ 1048576)

set_option maxHeartbeats 1000000 in
theorem szStringS_any (a : Option Addr) (cap n : Nat) (ss : List ByteArray) (w : World) (hn : ss.length = n) (hn1 : (n : Int) ≤ 9223372036854775807) (hz : ∀ s ∈ ss, (s.size : Int) ≤ 9223372036854775807) (h : InS w a ss) :
    Calls Try.prog 13 #[.slice a n cap, .int .i64 1048576] w (SizeOk ss w) := by
  by_cases hbig : (1048576 : Int) < n
  · have HN : Hid ((0 : Int) ≤ -1 → ss.length ≤ 1048576 ∧ ∀ s ∈ ss, s.size ≤ 1048576) := fun h => absurd h (by omega)
    clear h hz hn
    go_enter Try.func13, Try.ntmps13
    go_wp2_with fail
    go_ret
    exact ⟨_, rfl, rfl, HN⟩
  · have HZ := Lib.hid hz
    have HN := Lib.hid hn
    clear hz hn
    rcases h with h0 | ⟨g, off, rfl, hr⟩
    · subst h0
      have hn0 : n = 0 := HN.out.symm
      subst hn0
      go_enter Try.func13, Try.ntmps13
      go_wp2_with fail
      go_loopw [1, 5] (fun v i wr => v = .int .i64 1048576 ∧ i = .int .i64 0 ∧ wr = w) (fun _ _ _ => 0)
      case atStart => exact ⟨rfl, rfl, rfl⟩
      case round =>
        obtain ⟨rfl, rfl, rfl⟩ := hrel
        go_wp2_with fail
        go_ret
        exact ⟨_, rfl, rfl, fun _ => ⟨by simp, by simp⟩⟩
    · have HR := Lib.hid hr
      clear hr
      go_enter Try.func13, Try.ntmps13
      go_wp2_with fail
      go_loopw [1, 5] (fun v i wr => ∃ (k : Nat) (r : Int), k ≤ n ∧ i = .int .i64 k ∧ v = .int .i64 r ∧ 0 ≤ r ∧ r ≤ 1048576 ∧ wr = w ∧ Hid (∀ s ∈ ss.take k, s.size ≤ 1048576)) (fun _ i _ => n - (intOf i).toNat)
      case atStart => exact ⟨0, _, Nat.zero_le _, rfl, rfl, by omega, by omega, rfl, fun s hs => by simp at hs⟩
      case round =>
        obtain ⟨k, r, hk, rfl, rfl, hr0, hr1, rfl, hall⟩ := hrel
        by_cases hlt : k < n
        · have hlt' : (k : Int) < (n : Int) := by omega
          have hlk : k < ss.length := by have := HN.out; omega
          have c1 := HR.out k hlk
          have hz1 := HZ.out (ss.getD k ⟨#[]⟩) (by rw [List.getD_eq_getElem?_getD, List.getElem?_eq_getElem hlk]; exact List.getElem_mem hlk)
          have htk : ss.take (k + 1) = ss.take k ++ [ss.getD k ⟨#[]⟩] := by rw [List.take_succ_eq_append_getElem hlk]; simp [hlk]
          obtain ⟨s, hs⟩ : ∃ s, s = ss.getD k ⟨#[]⟩ := ⟨_, rfl⟩
          rw [← hs] at c1 hz1 htk
          have HT := Lib.hid htk
          clear hs htk hlk
          by_cases hneg : r - s.size < 0
          · have HNN : Hid ((0 : Int) ≤ -1 → ss.length ≤ 1048576 ∧ ∀ s ∈ ss, s.size ≤ 1048576) := fun h => absurd h (by omega)
            go_wp2_with fail
            go_ret
            exact ⟨_, rfl, rfl, HNN⟩
          · go_wp2_with fail
            go_roundw
            case rel =>
              refine ⟨k + 1, r - s.size, by omega, by go_num, rfl, by omega, by omega, trivial, ?_⟩
              show ∀ s ∈ ss.take (k + 1), s.size ≤ 1048576
              rw [HT.out]
              intro x hx
              rw [List.mem_append] at hx
              rcases hx with hx | hx
              · exact hall.out x hx
              · simp at hx; subst hx; omega
            case measure => simp [intOf]; omega
        · obtain rfl : k = n := by omega
          have hfin : Hid (0 ≤ r → ss.length ≤ 1048576 ∧ ∀ s ∈ ss, s.size ≤ 1048576) := by
            intro _
            have h1 := hall.out
            rw [List.take_of_length_le (by have := HN.out; omega)] at h1
            exact ⟨by have := HN.out; omega, h1⟩
          go_wp2_with fail
          go_ret
          exact ⟨_, rfl, rfl, hfin⟩

theorem InS.keep {w w' : World} {a : Option Addr} {ss : List ByteArray} (h : InS w a ss) (hb : Below w.heap.size w w') : InS w' a ss := by
  rcases h with h | ⟨g, off, rfl, hr⟩
  · exact .inl h
  · exact .inr ⟨g, off, rfl, hr.keep hb⟩

/-- A call that hands back a copy, in new memory. -/
def CopyOf (ss : List ByteArray) (n : Nat) (w : World) (e : Ending) (w' : World) : Prop :=
  ∃ g : Nat, OwnS w.heap.size w' (.slice (some ⟨g, 0, none⟩) n n) ss ∧ Below w.heap.size w w' ∧ e = .returned (.slice (some ⟨g, 0, none⟩) n n)

theorem madeCells_str (n : Nat) : (madeCells (Value.string ⟨#[]⟩).cells (n * 1)).toList = (List.replicate n (⟨#[]⟩ : ByteArray)).map Value.string := by
  rw [List.map_replicate, Nat.mul_one]
  exact toList_madeCells_one _ _

set_option maxHeartbeats 1000000 in
theorem toStringS_any (a : Option Addr) (cap n : Nat) (ss : List ByteArray) (w : World) (hn : ss.length = n) (hn1 : n ≤ 1048576) (h : InS w a ss) :
    Calls Try.prog 15 #[.slice a n cap] w (CopyOf ss n w) := by
  obtain ⟨i0, hi, hz0, hz1, hz2⟩ := info_parts info_str
  have HN := Lib.hid hn
  have HI := Lib.hid h
  clear hn h
  go_enter Try.func15, Try.ntmps15
  go_wp2_with (at_make; refine wpList_make_full _ rfl _ _ 22 rfl w.heap.size 9 i0 (.string ⟨#[]⟩) 1 Try.underlying22 hi hz0 hz1 .i64 .i64 _ _ n rfl rfl rfl rfl (by rw [hz2]; omega) (by unfold maxLen; omega) (Nat.le_refl _) ?_; intro w0 hown0 hgrow0)
  rw [madeCells_str] at hown0
  have hb0 : Below w.heap.size w w0 := (Below.refl _ _).grown hgrow0 (Nat.le_refl _) (fun k hk => by cases hk)
  have hO : OwnS w.heap.size w0 (.slice (some ⟨w.heap.size, 0, none⟩) n n) (List.replicate n (⟨#[]⟩ : ByteArray)) := by
    unfold OwnS; rw [List.length_replicate]; exact hown0
  have HO := Lib.hid hO
  clear hown0 hgrow0 hO
  go_wp2_with fail
  go_loopw [4] (fun i wr => ∃ k : Nat, k ≤ n ∧ i = .int .i64 k ∧ Hid (OwnS w.heap.size wr (.slice (some ⟨w.heap.size, 0, none⟩) n n) (ss.take k ++ List.replicate (n - k) (⟨#[]⟩ : ByteArray))) ∧ Below w.heap.size w wr) (fun i _ => n - (intOf i).toNat)
  case atStart => exact ⟨0, Nat.zero_le _, rfl, HO, hb0⟩
  case round =>
    obtain ⟨k, hk, rfl, hown, hbw⟩ := hrel
    have hlen : (ss.take k ++ List.replicate (n - k) (⟨#[]⟩ : ByteArray)).length = n := by have := HN.out; simp; omega
    by_cases hlt : k < n
    · have hlt' : (k : Int) < (n : Int) := by omega
      have hlk : k < ss.length := by have := HN.out; omega
      rcases HI.out with h0 | ⟨g, off, ha, hr⟩
      · exfalso; rw [h0] at hlk; simp at hlk
      · have c1 := (hr.keep hbw) k hlk
        have hset := OwnS.set hlen hown.out k (ss.getD k ⟨#[]⟩)
        have hnext : (ss.take k ++ List.replicate (n - k) (⟨#[]⟩ : ByteArray)).set k (ss.getD k ⟨#[]⟩) = ss.take (k + 1) ++ List.replicate (n - (k + 1)) (⟨#[]⟩ : ByteArray) := by
          have e : n - k = (n - (k + 1)) + 1 := by omega
          rw [List.set_append_right _ _ (by simp; omega), e, List.replicate_succ]
          have e2 : k - (ss.take k).length = 0 := by simp; omega
          rw [e2, List.set_cons_zero, List.take_succ_eq_append_getElem hlk, List.append_assoc]
          simp [hlk]
        rw [hnext] at hset
        have hfz : wr.frozen? ⟨w.heap.size, k, none⟩ = false := World.ownsRow.frozenAt (by have := hown.out; unfold OwnS at this; rw [hlen] at this; exact this) k
        obtain ⟨x, hcell⟩ : ∃ x, wr.cell? ⟨w.heap.size, k, none⟩ = some x := by
          have h1 := hown.out
          unfold OwnS at h1
          rw [hlen] at h1
          have := World.ownsRow.cellAt h1 k (by omega)
          rw [this]
          exact ⟨_, List.getElem?_eq_getElem (by rw [List.length_map, hlen]; exact hlt)⟩
        obtain ⟨s, hs⟩ : ∃ s, s = ss.getD k ⟨#[]⟩ := ⟨_, rfl⟩
        rw [← hs] at c1 hset
        have hbw' : Below w.heap.size w (wr.setCell ⟨w.heap.size, k, none⟩ (.string s)) := hbw.setCell (Nat.le_refl _) _
        have HSET := Lib.hid hset
        clear hset hs hnext hlk
        subst ha
        go_wp2_with fail
        go_roundw
        case rel => exact ⟨k + 1, by omega, by go_num, HSET, hbw'⟩
        case measure => simp [intOf]; omega
    · obtain rfl : k = n := by omega
      have hend : Hid (OwnS w.heap.size wr (.slice (some ⟨w.heap.size, 0, none⟩) k k) ss) := by
        have h1 := hown.out
        rw [Nat.sub_self, List.replicate_zero, List.append_nil, List.take_of_length_le (by have := HN.out; omega)] at h1
        exact h1
      go_wp2_with fail
      go_ret
      exact ⟨_, hend.out, hbw, rfl⟩
end Go.Proofs.Ytplmbdljhgicfaa
