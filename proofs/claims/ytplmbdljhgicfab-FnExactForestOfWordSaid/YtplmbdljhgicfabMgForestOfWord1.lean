/- Texts that the claim needs, part 2. -/
import Derived.Test.YtplmbdljhgicfabMgForestOfWord0
import Derived.Lib.Bytealg
import Derived.Test.YtplmbdljhgicfabRows
import Derived.WalkKit
import Derived.Deep.Light
import Derived.Maps.AppendAt
import Derived.Laws.AppendOwnNone
import Derived.Deep.RegionHeld3
import Derived.StillTail
import Derived.Deep.QuietTactic
import Derived.BigQuiet
import Derived.Lib.SmallJoins
import Derived.IntWalk
import Derived.RangeFuncBox
import Derived.RangeFuncLeaves
import Derived.Shelf.Abstract
import Derived.OwnWalkIn
import Derived.TacticsInMore
import Derived.LoopNIn
import Derived.LoopIn
import Derived.RangeFuncNested
import Derived.Deep.RegionWith
/-! MarkG -/
namespace Go.Proofs.Ytplmbdljhgicfab
open Go.RowKit

/-- A call that hands back a number, and leaves the slice in block g with other numbers; no other block turns. -/
def MarkedG (base : Nat) (g : Nat) (r : Int) (v : Value) (xs : List Int) (w : World) (e : Ending) (w' : World) : Prop := e = .returned (.int .i64 r) ∧ OwnI base w' v xs ∧ w.grownBy w' (some g)

theorem grown_refl (w : World) (r : Option Nat) : w.grownBy w r := ⟨rfl, rfl, rfl, Nat.le_refl _, fun _ _ _ => rfl⟩
theorem grown_trans {a b c : World} {r : Option Nat} (h : a.grownBy b r) (k : b.grownBy c r) : a.grownBy c r :=
  ⟨k.os.trans h.os, k.tape.trans h.tape, k.output.trans h.output, Nat.le_trans h.size k.size, fun i hi hn => (k.block i (Nat.lt_of_lt_of_le hi h.size) hn).trans (h.block i hi hn)⟩
theorem OwnI.kept {base : Nat} {w w' : World} {v : Value} {xs : List Int} {g : Nat} (h : OwnI base w v xs) (hg : w.grownBy w' (some g)) (hne : g < base) : OwnI base w' v xs := by
  refine World.ownsRow.kept h hg ?_
  rcases h.2 with ⟨hv, _⟩ | ⟨g', cap, cur, hv, hb, _⟩
  · subst hv; exact .inl rfl
  · subst hv; right; simp only [Value.ownBlock]; intro e; injection e with e; omega
theorem OwnI.lt {base : Nat} {w : World} {g n cap : Nat} {xs : List Int} (h : OwnI base w (.slice (some ⟨g, 0, none⟩) n cap) xs) : base ≤ g ∧ g < w.heap.size := World.ownsRow.lt h g rfl
theorem grown_below {w w' : World} {g B : Nat} (h : w.grownBy w' (some g)) (hB : B ≤ w.heap.size) (hg : B ≤ g) : Below B w w' := (Below.refl _ _).grown h hB (fun k hk => by injection hk with hk; omega)
theorem OwnI.up {base : Nat} {w : World} {g n cap : Nat} {xs : List Int} (h : OwnI base w (.slice (some ⟨g, 0, none⟩) n cap) xs) : OwnI g w (.slice (some ⟨g, 0, none⟩) n cap) xs := by
  refine ⟨h.1, ?_⟩
  rcases h.2 with ⟨hv, hn⟩ | ⟨g', cap', cur, hv, hb, r⟩
  · cases hv
  · cases hv
    exact .inr ⟨g, cap, cur, rfl, Nat.le_refl _, r⟩

set_option maxHeartbeats 1000000 in
theorem markIntS_one (base : Nat) (g cap n : Nat) (xs : List Int) (hn : xs.length = n) (k : Int) (w : World) (hk0 : 0 ≤ k) (hk1 : k ≤ 1000000000) (hn9 : n ≤ 1000000000) (h : OwnI base w (.slice (some ⟨g, 0, none⟩) n cap) xs) :
    Calls Try.prog 24 #[.slice (some ⟨g, 0, none⟩) n cap, .int .i64 k] w (MarkedG base g (k + n) (.slice (some ⟨g, 0, none⟩) n cap) (marks k n) w) := by
  have hb0 := grown_refl w (some g)
  have H := Lib.hid h
  have HN := Lib.hid hn
  clear h hn
  go_enter Try.func24, Try.ntmps24
  go_wp2_with fail
  go_loopw [1, 5] (fun v i wr => ∃ j : Nat, j ≤ n ∧ i = .int .i64 j ∧ v = .int .i64 (k + j) ∧ Hid (OwnI base wr (.slice (some ⟨g, 0, none⟩) n cap) (marks k j ++ xs.drop j)) ∧ w.grownBy wr (some g)) (fun _ i _ => n - (intOf i).toNat)
  case atStart => exact ⟨0, Nat.zero_le _, rfl, by simp, by simpa [marks] using H, hb0⟩
  case round =>
    obtain ⟨j, hj, rfl, rfl, hown, hbw⟩ := hrel
    have hlen : (marks k j ++ xs.drop j).length = n := by have := HN.out; rw [List.length_append, marks_length, List.length_drop]; omega
    by_cases hlt : j < n
    · have hlt' : (j : Int) < (n : Int) := by omega
      have hset := OwnI.set hlen hown.out j (k + j)
      rw [marks_set k xs j (by rw [HN.out]; exact hlt)] at hset
      have hrow := hown.out
      unfold OwnI at hrow
      rw [hlen] at hrow
      have hfz : wr.frozen? ⟨g, j, none⟩ = false := World.ownsRow.frozenAt hrow j
      obtain ⟨x, hcell⟩ : ∃ x, wr.cell? ⟨g, j, none⟩ = some x := by
        have := World.ownsRow.cellAt hrow j (by omega)
        rw [this]
        exact ⟨_, List.getElem?_eq_getElem (by rw [List.length_map, hlen]; exact hlt)⟩
      have hbw' : w.grownBy (wr.setCell ⟨g, j, none⟩ (.int .i64 (k + j))) (some g) := grown_trans hbw (World.ownsRow.stored hrow j _).2
      have HSET := Lib.hid hset
      clear hset hrow
      go_wp2_with fail
      go_roundw
      case rel => exact ⟨j + 1, by omega, by go_num, by go_num, HSET, hbw'⟩
      case measure => simp [intOf]; omega
    · obtain rfl : j = n := by omega
      have hend : Hid (OwnI base wr (.slice (some ⟨g, 0, none⟩) j cap) (marks k j)) := by
        have h1 := hown.out
        rw [List.drop_of_length_le (by rw [HN.out]; exact Nat.le_refl _), List.append_nil] at h1
        exact h1
      go_wp2_with fail
      go_ret
      exact ⟨rfl, hend.out, hbw⟩
end Go.Proofs.Ytplmbdljhgicfab

/-! MarkS -/
namespace Go.Proofs.Ytplmbdljhgicfab
open Go.RowKit

/-- A slice that came in is a slice with these cells. -/
theorem OwnS.up {base : Nat} {w : World} {g n cap : Nat} {xs : List ByteArray} (h : OwnS base w (.slice (some ⟨g, 0, none⟩) n cap) xs) : OwnS g w (.slice (some ⟨g, 0, none⟩) n cap) xs := by
  refine ⟨h.1, ?_⟩
  rcases h.2 with ⟨hv, hn⟩ | ⟨g', cap', cur, hv, hb, r⟩
  · cases hv
  · cases hv
    exact .inr ⟨g, cap, cur, rfl, Nat.le_refl _, r⟩
theorem OwnS.lt {base : Nat} {w : World} {g n cap : Nat} {xs : List ByteArray} (h : OwnS base w (.slice (some ⟨g, 0, none⟩) n cap) xs) : base ≤ g ∧ g < w.heap.size := World.ownsRow.lt h g rfl
theorem OwnS.kept {base : Nat} {w w' : World} {v : Value} {xs : List ByteArray} {g : Nat} (h : OwnS base w v xs) (hg : w.grownBy w' (some g)) (hne : g < base) : OwnS base w' v xs := by
  refine World.ownsRow.kept h hg ?_
  rcases h.2 with ⟨hv, _⟩ | ⟨g', cap, cur, hv, hb, _⟩
  · subst hv; exact .inl rfl
  · subst hv; right; simp only [Value.ownBlock]; intro e; injection e with e; omega
theorem below_grown {w w' : World} (h : Below w.heap.size w w') (r : Option Nat) : w.grownBy w' r := ⟨h.os, h.tape, h.output, h.size, fun i hi _ => h.block i hi⟩

/-- A call that hands back a number, and leaves the slice in block g with other texts; no other block turns. -/
def MarkedGS (base : Nat) (g : Nat) (r : Int) (v : Value) (xs : List ByteArray) (w : World) (e : Ending) (w' : World) : Prop := e = .returned (.int .i64 r) ∧ OwnS base w' v xs ∧ w.grownBy w' (some g)

set_option maxHeartbeats 1000000 in
theorem markStringS_one (base : Nat) (g cap n : Nat) (xs : List ByteArray) (hn : xs.length = n) (k : Nat) (w : World) (hk0 : 0 < k) (hk1 : k ≤ 1000000000) (hn9 : n ≤ 1000000000) (h : OwnS base w (.slice (some ⟨g, 0, none⟩) n cap) xs) :
    Calls Try.prog 15 #[.slice (some ⟨g, 0, none⟩) n cap, .int .i64 k] w (MarkedGS base g ((k + n : Nat) : Int) (.slice (some ⟨g, 0, none⟩) n cap) (marksS k n) w) := by
  have hb0 := grown_refl w (some g)
  have H := Lib.hid h
  have HN := Lib.hid hn
  clear h hn
  go_enter Try.func15, Try.ntmps15
  go_wp2_with fail
  go_loopw [1, 5] (fun v i wr => ∃ j : Nat, j ≤ n ∧ i = .int .i64 j ∧ v = .int .i64 ((k + j : Nat) : Int) ∧ Hid (OwnS base wr (.slice (some ⟨g, 0, none⟩) n cap) (marksS k j ++ xs.drop j)) ∧ w.grownBy wr (some g)) (fun _ i _ => n - (intOf i).toNat)
  case atStart => exact ⟨0, Nat.zero_le _, rfl, by simp, by simpa [marksS] using H, hb0⟩
  case round =>
    obtain ⟨j, hj, rfl, rfl, hown, hbw⟩ := hrel
    have hlen : (marksS k j ++ xs.drop j).length = n := by have := HN.out; rw [List.length_append, marksS_length, List.length_drop]; omega
    by_cases hlt : j < n
    · have hlt' : (j : Int) < (n : Int) := by omega
      have hmt := fun w => markText_any (k + j) w (by omega) (by omega)
      go_wp2_with fail
      refine (hmt _).mono ?_; rintro e w1 ⟨rfl, hbm⟩
      have hown1 := hown.out.keep hbm
      have hset := OwnS.set hlen hown1 j (markT (k + j))
      rw [marksS_set k xs j (by rw [HN.out]; exact hlt)] at hset
      have hrow := hown1
      unfold OwnS at hrow
      rw [hlen] at hrow
      have hfz : w1.frozen? ⟨g, j, none⟩ = false := World.ownsRow.frozenAt hrow j
      obtain ⟨x, hcell⟩ : ∃ x, w1.cell? ⟨g, j, none⟩ = some x := by
        have := World.ownsRow.cellAt hrow j (by omega)
        rw [this]
        exact ⟨_, List.getElem?_eq_getElem (by rw [List.length_map, hlen]; exact hlt)⟩
      have hbw' : w.grownBy (w1.setCell ⟨g, j, none⟩ (.string (markT (k + j)))) (some g) := grown_trans (grown_trans hbw (below_grown hbm _)) (World.ownsRow.stored hrow j _).2
      have HSET := Lib.hid hset
      clear hset hrow hown1
      go_wp2_with fail
      go_roundw
      case rel => exact ⟨j + 1, by omega, by go_num, by go_num, HSET, hbw'⟩
      case measure => simp [intOf]; omega
    · obtain rfl : j = n := by omega
      have hend : Hid (OwnS base wr (.slice (some ⟨g, 0, none⟩) j cap) (marksS k j)) := by
        have h1 := hown.out
        rw [List.drop_of_length_le (by rw [HN.out]; exact Nat.le_refl _), List.append_nil] at h1
        exact h1
      go_wp2_with fail
      go_ret
      exact ⟨ret_int (by simp), hend.out, hbw⟩

theorem markStringS_one1 (base : Nat) (g cap n : Nat) (xs : List ByteArray) (hn : xs.length = n) (w : World) (hn9 : n ≤ 1000000000) (h : OwnS base w (.slice (some ⟨g, 0, none⟩) n cap) xs) :
    Calls Try.prog 15 #[.slice (some ⟨g, 0, none⟩) n cap, .int .i64 1] w (MarkedGS base g ((1 + n : Nat) : Int) (.slice (some ⟨g, 0, none⟩) n cap) (marksS 1 n) w) :=
  markStringS_one base g cap n xs hn 1 w (by omega) (by omega) hn9 h

/-- The number that is left is known to be none or at most so much. -/
def SizeAt (ss : List ByteArray) (w : World) (e : Ending) (w' : World) : Prop :=
  ∃ r : Int, e = .returned (.int .i64 r) ∧ w = w' ∧ Hid (r ≤ 1048576) ∧ Hid (0 ≤ r → ss.length ≤ 1048576 ∧ ∀ s ∈ ss, s.size ≤ 1048576)

set_option maxHeartbeats 1000000 in
theorem szStringS_at (a : Option Addr) (cap n : Nat) (ss : List ByteArray) (left : Int) (w : World) (hl0 : 0 ≤ left) (hl1 : left ≤ 1048576) (hn : ss.length = n) (hn1 : (n : Int) ≤ 9223372036854775807) (hz : ∀ s ∈ ss, (s.size : Int) ≤ 9223372036854775807) (h : InS w a ss) :
    Calls Try.prog 10 #[.slice a n cap, .int .i64 left] w (SizeAt ss w) := by
  by_cases hbig : left < n
  · have HN : Hid ((0 : Int) ≤ -1 → ss.length ≤ 1048576 ∧ ∀ s ∈ ss, s.size ≤ 1048576) := fun h => absurd h (by omega)
    have HM : Hid ((-1 : Int) ≤ 1048576) := by show (-1 : Int) ≤ 1048576; omega
    clear h hz hn
    go_enter Try.func10, Try.ntmps10
    go_wp2_with fail
    go_ret
    exact ⟨_, rfl, rfl, HM, HN⟩
  · have HZ := Lib.hid hz
    have HN := Lib.hid hn
    clear hz hn
    rcases h with h0 | ⟨g, off, rfl, hr⟩
    · subst h0
      have hn0 : n = 0 := HN.out.symm
      subst hn0
      have HM : Hid (left ≤ 1048576) := hl1
      go_enter Try.func10, Try.ntmps10
      go_wp2_with fail
      go_loopw [1, 5] (fun v i wr => v = .int .i64 left ∧ i = .int .i64 0 ∧ wr = w) (fun _ _ _ => 0)
      case atStart => exact ⟨by go_num, rfl, rfl⟩
      case round =>
        obtain ⟨rfl, rfl, rfl⟩ := hrel
        go_wp2_with fail
        go_ret
        exact ⟨_, rfl, rfl, HM, fun _ => ⟨by simp, by simp⟩⟩
    · have HR := Lib.hid hr
      clear hr
      go_enter Try.func10, Try.ntmps10
      go_wp2_with fail
      go_loopw [1, 5] (fun v i wr => ∃ (k : Nat) (r : Int), k ≤ n ∧ i = .int .i64 k ∧ v = .int .i64 r ∧ 0 ≤ r ∧ r ≤ 1048576 ∧ wr = w ∧ Hid (∀ s ∈ ss.take k, s.size ≤ 1048576)) (fun _ i _ => n - (intOf i).toNat)
      case atStart => exact ⟨0, _, Nat.zero_le _, rfl, rfl, by omega, by omega, rfl, fun s hs => by simp at hs⟩
      case round =>
        obtain ⟨k, r, hk, rfl, rfl, hr0, hr1, rfl, hall⟩ := hrel
        by_cases hlt : k < n
        · have hlt' : (k : Int) < (n : Int) := by omega
          have hlk : k < ss.length := by have := HN.out; omega
          have c1 := HR.out k hlk
          have hz1 := HZ.out (ss.getD k ⟨#[]⟩) (by rw [List.getD_eq_getElem?_getD, List.getElem?_eq_getElem hlk]; exact List.getElem_mem hlk)
          have htk : ss.take (k + 1) = ss.take k ++ [ss.getD k ⟨#[]⟩] := by rw [List.take_succ_eq_append_getElem hlk]; simp [hlk]
          obtain ⟨s, hs⟩ : ∃ s, s = ss.getD k ⟨#[]⟩ := ⟨_, rfl⟩
          rw [← hs] at c1 hz1 htk
          have HT := Lib.hid htk
          clear hs htk hlk
          by_cases hneg : r - s.size < 0
          · have HNN : Hid ((0 : Int) ≤ -1 → ss.length ≤ 1048576 ∧ ∀ s ∈ ss, s.size ≤ 1048576) := fun h => absurd h (by omega)
            have HM : Hid ((-1 : Int) ≤ 1048576) := by show (-1 : Int) ≤ 1048576; omega
            go_wp2_with fail
            go_ret
            exact ⟨_, rfl, rfl, HM, HNN⟩
          · go_wp2_with fail
            go_roundw
            case rel =>
              refine ⟨k + 1, r - s.size, by omega, by go_num, rfl, by omega, by omega, trivial, ?_⟩
              show ∀ s ∈ ss.take (k + 1), s.size ≤ 1048576
              rw [HT.out]
              intro x hx
              rw [List.mem_append] at hx
              rcases hx with hx | hx
              · exact hall.out x hx
              · simp at hx; subst hx; omega
            case measure => simp [intOf]; omega
        · obtain rfl : k = n := by omega
          have HM : Hid (r ≤ 1048576) := hr1
          have hfin : Hid (0 ≤ r → ss.length ≤ 1048576 ∧ ∀ s ∈ ss, s.size ≤ 1048576) := by
            intro _
            have h1 := hall.out
            rw [List.take_of_length_le (by have := HN.out; omega)] at h1
            exact ⟨by have := HN.out; omega, h1⟩
          go_wp2_with fail
          go_ret
          exact ⟨_, rfl, rfl, HM, hfin⟩
end Go.Proofs.Ytplmbdljhgicfab

/-! Form -/
namespace Go.Proofs.Ytplmbdljhgicfab
open Go.RowKit

theorem CellsI.form {b1 : Nat} {w : World} {v : Value} {xs : List Int} (h : CellsI b1 w v xs) :
    ∃ oa cap, v = .slice oa xs.length cap ∧ xs.length ≤ cap ∧ cap ≤ maxLen ∧ ∀ i, i < xs.length → ∃ g, oa = some ⟨g, 0, none⟩ ∧ b1 ≤ g ∧ g < w.heap.size ∧ w.cell? ⟨g, i, none⟩ = some (.int .i64 (xs.getD i 0)) := by
  rcases h with ⟨rfl, rfl⟩ | ⟨g, cap, rfl, h1, h2, h3, h4, h5, _⟩
  · exact ⟨none, 0, rfl, Nat.le_refl _, Nat.zero_le _, fun i hi => by simp at hi⟩
  · exact ⟨some ⟨g, 0, none⟩, cap, rfl, h3, h4, fun i hi => ⟨g, rfl, h1, h2, h5 i hi⟩⟩

end Go.Proofs.Ytplmbdljhgicfab

/-! Cut -/
namespace Go.Proofs.Ytplmbdljhgicfab
open Go.RowKit


theorem hasPrefix_one (s : ByteArray) (c : UInt8) (w : World) (hs : s.size ≤ 9223372036854775806) :
    Calls Try.prog 173 #[.string s, .string ⟨#[c]⟩] w fun e w' => e = .returned (.bool (s.data.toList.head? == some c)) ∧ w = w' := by
  by_cases h : 1 ≤ s.size
  all_goals
    go_enter Try.func173, Try.ntmps173
    go_wp2
    go_ret
  · refine ⟨ret_bool ?_, rfl⟩
    rw [Lib.extract_toList]
    cases hl : s.data.toList <;> simp
  · refine ⟨ret_bool ?_, rfl⟩
    have : s.data.toList.length = 0 := by rw [← Lib.size_eq]; omega
    rw [List.length_eq_zero_iff.1 this]
    rfl

def CutOk (s : ByteArray) (r : List UInt8) (w : World) (e : Ending) (w' : World) : Prop :=
  ∃ s' : ByteArray, s'.data.toList = r ∧ s'.size < s.size ∧ e = .returned (.tuple #[.string s', .bool true]) ∧ w = w'

theorem stringsliteCut_yes (s : ByteArray) (c : UInt8) (r : List UInt8) (w : World) (hs : s.size ≤ 9223372036854775806) (h : s.data.toList = c :: r) :
    Calls Try.prog 157 #[.string s, .string ⟨#[c]⟩] w (CutOk s r w) := by
  have hz : 1 ≤ s.size := by rw [Lib.size_eq, h]; simp
  have hb : (s.data.toList.head? == some c) = true := by simp [h]
  have H := Lib.hid h
  clear h
  go_enter Try.func157, Try.ntmps157
  go_wp2_with (go_at_call 173; refine (hasPrefix_one s c _ hs).mono ?_; rintro e w' ⟨rfl, rfl⟩)
  go_ret2
  refine ⟨_, ?_, ?_, rfl, rfl⟩
  · rw [Lib.extract_data, H.out, List.take_of_length_le]
    · rfl
    · rw [Lib.size_eq, H.out]; simp
  · rw [Lib.size_eq, Lib.extract_data, Lib.size_eq, H.out]; simp

theorem stringsliteCut_no (s : ByteArray) (c : UInt8) (w : World) (hs : s.size ≤ 9223372036854775806) (h : (s.data.toList.head? == some c) = false) :
    Calls Try.prog 157 #[.string s, .string ⟨#[c]⟩] w fun e w' => e = .returned (.tuple #[.string s, .bool false]) ∧ w = w' := by
  go_enter Try.func157, Try.ntmps157
  go_wp2_with (go_at_call 173; refine (hasPrefix_one s c _ hs).mono ?_; rintro e w' ⟨rfl, rfl⟩)
  go_ret2
  exact ⟨rfl, rfl⟩

theorem cut_yes (s : ByteArray) (c : UInt8) (r : List UInt8) (w : World) (hs : s.size ≤ 9223372036854775806) (h : s.data.toList = c :: r) :
    Calls Try.prog 135 #[.string s, .string ⟨#[c]⟩] w (CutOk s r w) := by
  have H := Lib.hid h
  clear h
  go_enter Try.func135, Try.ntmps135
  go_wp2_with (go_at_call 157; refine (stringsliteCut_yes s c r _ hs H.out).mono ?_; rintro e w' ⟨s', h1, h2, rfl, rfl⟩; have H1 := Lib.hid h1; clear h1)
  go_ret2
  exact ⟨_, H1.out, h2, rfl, rfl⟩

theorem cut_no (s : ByteArray) (c : UInt8) (w : World) (hs : s.size ≤ 9223372036854775806) (h : (s.data.toList.head? == some c) = false) :
    Calls Try.prog 135 #[.string s, .string ⟨#[c]⟩] w fun e w' => e = .returned (.tuple #[.string s, .bool false]) ∧ w = w' := by
  go_enter Try.func135, Try.ntmps135
  go_wp2_with (go_at_call 157; refine (stringsliteCut_no s c _ hs h).mono ?_; rintro e w' ⟨rfl, rfl⟩)
  go_ret2
  exact ⟨rfl, rfl⟩
end Go.Proofs.Ytplmbdljhgicfab

/-! Node -/
namespace Go.Proofs.Ytplmbdljhgicfab
open Go.RowKit

/-- Block b is a node of the tree, and so on down. -/
def NodeAt (w : World) : Tr → Nat → Prop
  | .lf, b => w.heap[b]? = some (.cells #[.pointer none, .pointer none] 103 (0, 0))
  | .nd l r, b => ∃ bl br, w.heap[b]? = some (.cells #[.pointer (some ⟨bl, 0, none⟩), .pointer (some ⟨br, 0, none⟩)] 103 (0, 0)) ∧ NodeAt w l bl ∧ NodeAt w r br

theorem NodeAt.lt {w : World} {t : Tr} {b : Nat} (h : NodeAt w t b) : b < w.heap.size := by
  cases t with
  | lf => exact lt_of_block h
  | nd l r => obtain ⟨_, _, h, _⟩ := h; exact lt_of_block h

theorem NodeAt.keep {w w' : World} (hb : Below w.heap.size w w') : ∀ {t : Tr} {b : Nat}, NodeAt w t b → NodeAt w' t b := by
  intro t
  induction t with
  | lf => intro b h; exact (hb.block b h.lt).trans h
  | nd l r ihl ihr =>
    intro b h
    have hl := h.lt
    obtain ⟨bl, br, h, h1, h2⟩ := h
    exact ⟨bl, br, (hb.block b hl).trans h, ihl h1, ihr h2⟩

theorem two_left {w : World} {b : Nat} {u v : Value} {t : TypeId} (h : w.heap[b]? = some (.cells #[u, v] t (0, 0))) : w.cell? ⟨b, 0, none⟩ = some u := by simp [World.cell?, h]
theorem two_right {w : World} {b : Nat} {u v : Value} {t : TypeId} (h : w.heap[b]? = some (.cells #[u, v] t (0, 0))) : w.cell? ⟨b, 1, none⟩ = some v := by simp [World.cell?, h]

theorem heap_alloc_at (w : World) (o : Obj) : (w.alloc o).heap[w.heap.size]? = some o := by
  show (w.heap.push o)[w.heap.size]? = _
  simp

theorem node_new {w1 w2 : World} {l r : Tr} {b1 b2 : Nat} (h1 : NodeAt w1 l b1) (hb : Below w1.heap.size w1 w2) (h2 : NodeAt w2 r b2) :
    NodeAt (w2.alloc (.cells #[.pointer (some ⟨b1, 0, none⟩), .pointer (some ⟨b2, 0, none⟩)] 103 (0, 0))) (.nd l r) w2.heap.size := by
  have hb3 : Below w2.heap.size w2 (w2.alloc (.cells #[.pointer (some ⟨b1, 0, none⟩), .pointer (some ⟨b2, 0, none⟩)] 103 (0, 0))) := (Below.refl _ _).alloc (Nat.le_refl _) _
  exact ⟨b1, b2, heap_alloc_at _ _, (h1.keep hb).keep hb3, h2.keep hb3⟩

/-- What readPlace leaves where there is a tree. -/
def PlaceOk (t : Tr) (r : List UInt8) (s : ByteArray) (w : World) (e : Ending) (w' : World) : Prop :=
  ∃ (b : Nat) (s' : ByteArray), s'.data.toList = r ∧ s'.size < s.size ∧ NodeAt w' t b ∧ Below w.heap.size w w' ∧ e = .returned (.tuple #[.pointer (some ⟨b, 0, none⟩), .string s'])
def PlaceNo (w : World) (e : Ending) (w' : World) : Prop :=
  Below w.heap.size w w' ∧ e = .returned (.tuple #[.pointer none, .string ⟨#[]⟩])
def PlacePost (o : Option (Tr × List UInt8)) (s : ByteArray) (w : World) (e : Ending) (w' : World) : Prop :=
  match o with
  | some (t, r) => PlaceOk t r s w e w'
  | none => PlaceNo w e w'

end Go.Proofs.Ytplmbdljhgicfab

/-! Place -/
namespace Go.Proofs.Ytplmbdljhgicfab
open Go.RowKit

theorem head_of {l : List UInt8} {c : UInt8} (h : (l.head? == some c) = true) : ∃ r, l = c :: r := by
  cases l with
  | nil => simp at h
  | cons a r => simp at h; exact ⟨r, by rw [h]⟩

set_option maxHeartbeats 1000000 in
theorem place_any (k : Nat) : ∀ (s : ByteArray) (w : World), s.size < k → s.size ≤ 9223372036854775806 →
    Calls Try.prog 100 #[.string s] w (PlacePost (parseN k s.data.toList) s w) := by
  induction k with
  | zero => intro s w h; omega
  | succ k ih =>
    intro s w hk hs
    have ih_no : ∀ (s : ByteArray) (w : World), s.size < k → s.size ≤ 9223372036854775806 → parseN k s.data.toList = none → Calls Try.prog 100 #[.string s] w (PlaceNo w) := by
      intro s w h1 h2 h3
      have := ih s w h1 h2
      rw [h3] at this
      exact this
    have ih_yes : ∀ (s : ByteArray) (w : World) (t : Tr) (r : List UInt8), s.size < k → s.size ≤ 9223372036854775806 → parseN k s.data.toList = some (t, r) → Calls Try.prog 100 #[.string s] w (PlaceOk t r s w) := by
      intro s w t r h1 h2 h3
      have := ih s w h1 h2
      rw [h3] at this
      exact this
    clear ih
    cases h46 : (s.data.toList.head? == some 46) with
    | true =>
      obtain ⟨r, hr⟩ := head_of h46
      have HP : parseN (k + 1) s.data.toList = some (.lf, r) := by rw [hr, parseN, if_pos rfl]
      rw [HP]
      show Calls _ _ _ _ (PlaceOk .lf r s w)
      have HR := Lib.hid hr
      clear hr HP h46
      go_enter Try.func100, Try.ntmps100
      go_wp2_with (go_at_call 135; refine (cut_yes s _ r _ hs HR.out).mono ?_; rintro e w' ⟨s', h1, h2, rfl, rfl⟩; have H1 := Lib.hid h1; clear h1)
      go_ret2
      exact ⟨_, _, H1.out, h2, heap_alloc_at _ _, (Below.refl _ _).alloc (Nat.le_refl _) _, rfl⟩
    | false =>
      cases h40 : (s.data.toList.head? == some 40) with
      | false =>
        have HP : parseN (k + 1) s.data.toList = none := by
          cases hl : s.data.toList with
          | nil => rfl
          | cons c r =>
            rw [hl] at h46 h40
            have h1 : ¬ c = 46 := by simpa using h46
            have h2 : ¬ c = 40 := by simpa using h40
            rw [parseN, if_neg h1, if_neg h2]
        rw [HP]
        show Calls _ _ _ _ (PlaceNo w)
        go_enter Try.func100, Try.ntmps100
        go_wp2_with fail
        refine (cut_no s 46 _ hs h46).mono ?_; rintro e w' ⟨rfl, rfl⟩
        go_wp2_with fail
        refine (cut_no s 40 _ hs h40).mono ?_; rintro e w' ⟨rfl, rfl⟩
        go_wp2_with fail
        go_ret2
        exact ⟨Below.refl _ _, rfl⟩
      | true =>
        obtain ⟨r, hr⟩ := head_of h40
        have HR := Lib.hid hr
        have hz : s.size = r.length + 1 := by rw [Lib.size_eq, hr]; rfl
        have HZ := Lib.hid hz
        clear h40 hz
        cases hp1 : parseN k r with
        | none =>
          have HP : parseN (k + 1) s.data.toList = none := by rw [hr, parseN, if_neg (by decide), if_pos rfl, hp1]
          rw [HP]
          show Calls _ _ _ _ (PlaceNo w)
          have H1 := Lib.hid hp1
          clear HP hr hp1
          go_enter Try.func100, Try.ntmps100
          go_wp2_with fail
          refine (cut_no s 46 _ hs h46).mono ?_; rintro e w' ⟨rfl, rfl⟩
          go_wp2_with fail
          refine (cut_yes s 40 r _ hs HR.out).mono ?_; rintro e w' ⟨s1, hs1, hz1, rfl, rfl⟩; have HS1 := Lib.hid hs1; clear hs1
          go_wp2_with fail
          refine (ih_no s1 _ (by omega) (by omega) (by rw [HS1.out]; exact H1.out)).mono ?_; rintro e w1 ⟨hb1, rfl⟩
          go_wp2_with fail
          go_ret2
          exact ⟨hb1, rfl⟩
        | some p1 =>
          obtain ⟨t1, r1⟩ := p1
          have hl1 := parseN_len hp1
          cases hp2 : parseN k r1 with
          | none =>
            have HP : parseN (k + 1) s.data.toList = none := by rw [hr, parseN, if_neg (by decide), if_pos rfl, hp1]; show (match parseN k r1 with | none => none | some (t2, r2) => _) = _; rw [hp2]
            rw [HP]
            show Calls _ _ _ _ (PlaceNo w)
            have H1 := Lib.hid hp1
            have H2 := Lib.hid hp2
            clear HP hr hp1 hp2
            go_enter Try.func100, Try.ntmps100
            go_wp2_with fail
            refine (cut_no s 46 _ hs h46).mono ?_; rintro e w' ⟨rfl, rfl⟩
            go_wp2_with fail
            refine (cut_yes s 40 r _ hs HR.out).mono ?_; rintro e w' ⟨s1, hs1, hz1, rfl, rfl⟩; have HS1 := Lib.hid hs1; clear hs1
            go_wp2_with fail
            refine (ih_yes s1 _ _ _ (by omega) (by omega) (by rw [HS1.out]; exact H1.out)).mono ?_; rintro e w1 ⟨b1, s2, hs2, hz2, hn1, hb1, rfl⟩; have HS2 := Lib.hid hs2; clear hs2
            go_wp2_with fail
            refine (ih_no s2 _ (by omega) (by omega) (by rw [HS2.out]; exact H2.out)).mono ?_; rintro e w2 ⟨hb2, rfl⟩
            go_wp2_with fail
            go_ret2
            exact ⟨hb1.trans (hb2.mono hb1.size), rfl⟩
          | some p2 =>
            obtain ⟨t2, r2⟩ := p2
            have hl2 := parseN_len hp2
            cases h41 : (r2.head? == some 41) with
            | false =>
              have HP : parseN (k + 1) s.data.toList = none := by
                rw [hr, parseN, if_neg (by decide), if_pos rfl, hp1]
                show (match parseN k r1 with | none => none | some (t2, r2) => _) = _
                rw [hp2]
                cases r2 with
                | nil => rfl
                | cons c r3 =>
                  have h1 : ¬ c = 41 := by simpa using h41
                  simp [h1]
              rw [HP]
              show Calls _ _ _ _ (PlaceNo w)
              have H1 := Lib.hid hp1
              have H2 := Lib.hid hp2
              have H3 := Lib.hid h41
              clear HP hr hp1 hp2 h41
              go_enter Try.func100, Try.ntmps100
              go_wp2_with fail
              refine (cut_no s 46 _ hs h46).mono ?_; rintro e w' ⟨rfl, rfl⟩
              go_wp2_with fail
              refine (cut_yes s 40 r _ hs HR.out).mono ?_; rintro e w' ⟨s1, hs1, hz1, rfl, rfl⟩; have HS1 := Lib.hid hs1; clear hs1
              go_wp2_with fail
              refine (ih_yes s1 _ _ _ (by omega) (by omega) (by rw [HS1.out]; exact H1.out)).mono ?_; rintro e w1 ⟨b1, s2, hs2, hz2, hn1, hb1, rfl⟩; have HS2 := Lib.hid hs2; clear hs2
              go_wp2_with fail
              refine (ih_yes s2 _ _ _ (by omega) (by omega) (by rw [HS2.out]; exact H2.out)).mono ?_; rintro e w2 ⟨b2, s3, hs3, hz3, hn2, hb2, rfl⟩; have HS3 := Lib.hid hs3; clear hs3
              go_wp2_with fail
              refine (cut_no s3 41 _ (by omega) (by rw [HS3.out]; exact H3.out)).mono ?_; rintro e w' ⟨rfl, rfl⟩
              go_wp2_with fail
              go_ret2
              exact ⟨hb1.trans (hb2.mono hb1.size), rfl⟩
            | true =>
              obtain ⟨r3, hr3⟩ := head_of h41
              have HP : parseN (k + 1) s.data.toList = some (.nd t1 t2, r3) := by
                rw [hr, parseN, if_neg (by decide), if_pos rfl, hp1]
                show (match parseN k r1 with | none => none | some (t2, r2) => _) = _
                rw [hp2, hr3]
                simp
              rw [HP]
              show Calls _ _ _ _ (PlaceOk (.nd t1 t2) r3 s w)
              have H1 := Lib.hid hp1
              have H2 := Lib.hid hp2
              have H3 := Lib.hid hr3
              clear HP hr hp1 hp2 h41 hr3
              go_enter Try.func100, Try.ntmps100
              go_wp2_with fail
              refine (cut_no s 46 _ hs h46).mono ?_; rintro e w' ⟨rfl, rfl⟩
              go_wp2_with fail
              refine (cut_yes s 40 r _ hs HR.out).mono ?_; rintro e w' ⟨s1, hs1, hz1, rfl, rfl⟩; have HS1 := Lib.hid hs1; clear hs1
              go_wp2_with fail
              refine (ih_yes s1 _ _ _ (by omega) (by omega) (by rw [HS1.out]; exact H1.out)).mono ?_; rintro e w1 ⟨b1, s2, hs2, hz2, hn1, hb1, rfl⟩; have HS2 := Lib.hid hs2; clear hs2
              go_wp2_with fail
              refine (ih_yes s2 _ _ _ (by omega) (by omega) (by rw [HS2.out]; exact H2.out)).mono ?_; rintro e w2 ⟨b2, s3, hs3, hz3, hn2, hb2, rfl⟩; have HS3 := Lib.hid hs3; clear hs3
              go_wp2_with fail
              refine (cut_yes s3 41 r3 _ (by omega) (by rw [HS3.out]; exact H3.out)).mono ?_; rintro e w' ⟨s4, hs4, hz4, rfl, rfl⟩; have HS4 := Lib.hid hs4; clear hs4
              go_wp2_with fail
              go_ret2
              have hb3 : Below w2.heap.size w2 (w2.alloc (.cells #[.pointer (some ⟨b1, 0, none⟩), .pointer (some ⟨b2, 0, none⟩)] 103 (0, 0))) := (Below.refl _ _).alloc (Nat.le_refl _) _
              exact ⟨_, _, HS4.out, by omega, ⟨b1, b2, heap_alloc_at _ _, (hn1.keep hb2).keep hb3, hn2.keep hb3⟩, (hb1.trans (hb2.mono hb1.size)).trans (hb3.mono (Nat.le_trans hb1.size hb2.size)), rfl⟩
end Go.Proofs.Ytplmbdljhgicfab

/-! Read -/
namespace Go.Proofs.Ytplmbdljhgicfab
open Go.RowKit

def ReadOk (t : Tr) (w : World) (e : Ending) (w' : World) : Prop :=
  ∃ b : Nat, NodeAt w' t b ∧ Below w.heap.size w w' ∧ e = .returned (.tuple #[.pointer (some ⟨b, 0, none⟩), .bool true])
def ReadNo (w : World) (e : Ending) (w' : World) : Prop :=
  Below w.heap.size w w' ∧ e = .returned (.tuple #[.pointer none, .bool false])

theorem treeOf_of_parse {s : ByteArray} {t : Tr} (h : parseN (s.size + 1) s.data.toList = some (t, [])) (hz : s.size ≤ 25) : treeOf s = some t := by
  have e := str_of_list (show s.data.toList = t.text by simpa using parseN_sound _ _ _ _ h)
  subst e
  exact treeOf_str t (by rw [Tr.str_size] at hz; omega)

theorem read_yes (t : Tr) (w : World) (h : t.carets ≤ 8) :
    Calls Try.prog 140 #[.string t.str] w (ReadOk t w) := by
  have hz := t.str_size
  have hp := place_any (t.str.size + 1) t.str
  rw [parse_str t _ (by have := t.text_len; omega)] at hp
  have hp' : ∀ w, Calls Try.prog 100 #[.string t.str] w (PlaceOk t [] t.str w) := fun w => hp w (by omega) (by omega)
  have hz' : t.str.size ≤ 25 := by omega
  clear hz hp
  go_enter Try.func140, Try.ntmps140
  go_wp2_with fail
  refine (hp' _).mono ?_; rintro e w1 ⟨b1, s1, hs1, hz1, hn1, hb1, rfl⟩; have e1 : s1.toList.isEmpty = true := by rw [Lib.toList_data, hs1]; rfl
  have e2 : s1.toList = [] := by rw [Lib.toList_data, hs1]
  clear hs1
  go_wp2_with fail
  go_ret2
  exact ⟨b1, hn1, hb1, rfl⟩

theorem read_no (s : ByteArray) (w : World) (hs : s.size ≤ 9223372036854775806) (h : treeOf s = none) :
    Calls Try.prog 140 #[.string s] w (ReadNo w) := by
  by_cases hz : (s.size : Int) ≤ 25
  · have hp := place_any (s.size + 1) s
    cases hq : parseN (s.size + 1) s.data.toList with
    | none =>
      rw [hq] at hp
      have hp' : ∀ w, Calls Try.prog 100 #[.string s] w (PlaceNo w) := fun w => hp w (by omega) hs
      clear hp h hq
      go_enter Try.func140, Try.ntmps140
      go_wp2_with fail
      refine (hp' _).mono ?_; rintro e w1 ⟨hb1, rfl⟩
      go_wp2_with fail
      go_ret2
      exact ⟨hb1, rfl⟩
    | some p =>
      obtain ⟨t, r⟩ := p
      rw [hq] at hp
      have hp' : ∀ w, Calls Try.prog 100 #[.string s] w (PlaceOk t r s w) := fun w => hp w (by omega) hs
      cases r with
      | nil => rw [treeOf_of_parse hq (by omega)] at h; simp at h
      | cons c r =>
        clear hp h hq
        go_enter Try.func140, Try.ntmps140
        go_wp2_with fail
        refine (hp' _).mono ?_; rintro e w1 ⟨b1, s1, hs1, hz1, hn1, hb1, rfl⟩; have e1 : s1.toList.isEmpty = false := by rw [Lib.toList_data, hs1]; rfl
        clear hs1
        go_wp2_with fail
        go_ret2
        exact ⟨hb1, rfl⟩
  · clear h
    go_enter Try.func140, Try.ntmps140
    go_wp2_with fail
    go_ret2
    exact ⟨Below.refl _ _, rfl⟩

theorem implIsTree_yes (t : Tr) (w : World) (h : t.carets ≤ 8) :
    Calls Try.prog 108 #[.string t.str] w fun e w' => Below w.heap.size w w' ∧ e = .returned (.bool true) := by
  go_enter Try.func108, Try.ntmps108
  go_wp2_with fail
  refine (read_yes t _ h).mono ?_; rintro e w1 ⟨b1, hn1, hb1, rfl⟩
  go_wp2_with fail
  go_ret
  exact ⟨hb1, rfl⟩

theorem implIsTree_no (s : ByteArray) (w : World) (hs : s.size ≤ 9223372036854775806) (h : treeOf s = none) :
    Calls Try.prog 108 #[.string s] w fun e w' => Below w.heap.size w w' ∧ e = .returned (.bool false) := by
  have H := Lib.hid h
  clear h
  go_enter Try.func108, Try.ntmps108
  go_wp2_with fail
  refine (read_no s _ hs H.out).mono ?_; rintro e w1 ⟨hb1, rfl⟩
  go_wp2_with fail
  go_ret
  exact ⟨hb1, rfl⟩

end Go.Proofs.Ytplmbdljhgicfab

/-! Count -/
namespace Go.Proofs.Ytplmbdljhgicfab
open Go.RowKit

set_option maxHeartbeats 1000000 in
set_option maxRecDepth 100000 in
theorem count_any (s : ByteArray) (w : World) :
    Calls Try.prog 147 #[.string s, .string ⟨#[40]⟩] w fun e w' => e = .returned (.int .i64 (Lib.countByte s.data.toList 40 : Nat)) ∧ w = w' := by
  go_enter Try.func147, Try.ntmps147
  go_wp2
  rw [run_callFunc_extern Try.func168 (by kernel_rfl) (by kernel_rfl) (by kernel_rfl) (e := Extern.BytealgCount.count) (by kernel_rfl), Lib.run_countString]
  simp only [Result.andThen]
  rw [Oper.upon_value]
  go_wp2
  go_ret
  exact ⟨rfl, rfl⟩

theorem countCarets_any (t : Tr) (w : World) (_h : t.carets ≤ 1000) :
    Calls Try.prog 116 #[.string t.str] w (Gives (.int .i64 t.carets) w) := by
  have e : Hid (Lib.countByte t.str.data.toList 40 = t.carets) := by rw [show Hid _ = _ from rfl, Tr.str_list, ← text_count]; rfl
  go_enter Try.func116, Try.ntmps116
  go_wp2_with fail
  refine (count_any t.str _).mono ?_; rintro _ w1 ⟨rfl, rfl⟩
  rw [e.out]
  go_wp2_with fail
  go_ret
  exact ⟨rfl, Below.refl _ _⟩
end Go.Proofs.Ytplmbdljhgicfab

/-! End -/
namespace Go.Proofs.Ytplmbdljhgicfab
open Go.RowKit


set_option maxHeartbeats 400000 in
theorem end_any (k : Nat) : ∀ (s : ByteArray) (a d : Int) (w : World), s.size ≤ 9223372036854775806 → 0 ≤ d → d + k = 61 → 0 ≤ a →
    Calls Try.prog 133 #[.string s, .int .i64 a, .int .i64 d] w fun e w' => e = .returned (.int .i64 (endI k s a)) ∧ w = w' := by
  induction k with
  | zero =>
    intro s a d w hs hd0 hd ha
    by_cases h : a < s.size
    all_goals
      go_enter Try.func133, Try.ntmps133
      go_wp2_with fail
      go_ret
      exact ⟨rfl, rfl⟩
  | succ k ih =>
    intro s a d w hs hd0 hd ha
    have b1 := endI_le k s (a + 1) (by omega)
    have b2 := fun h => endI_le k s (endI k s (a + 1)) h
    by_cases h : a < s.size
    · go_enter Try.func133, Try.ntmps133
      go_wp2_with (go_at_call 133; refine (ih s _ _ _ hs (by omega) (by omega) (by omega)).mono ?_; rintro e w' ⟨rfl, rfl⟩)
      all_goals
        go_ret
        refine ⟨ret_int ?_, rfl⟩
        go_light
        clear ih b2
        have e1 := byteAt_eq s a (by omega)
        have e2 := byteAt_eq s (endI k s (endI k s (a + 1)))
        simp only [beq_iff_eq, beq_eq_false_iff_ne, ne_eq, bne_iff_ne, bne_eq_false_iff_eq] at *
        rw [endI]
        repeat' split
        all_goals first | omega | (have := e2 (by omega); omega)
    · go_enter Try.func133, Try.ntmps133
      go_wp2_with fail
      go_ret
      exact ⟨ret_int (by rw [endI, if_neg (by omega)]), rfl⟩
end Go.Proofs.Ytplmbdljhgicfab

/-! Carets -/
namespace Go.Proofs.Ytplmbdljhgicfab
open Go.RowKit

set_option maxHeartbeats 400000 in
theorem carets_any (s : ByteArray) (w : World) (hs : s.size ≤ 9223372036854775806) :
    Calls Try.prog 89 #[.string s] w fun e w' => e = .returned (.int .i64 (cnt s s.size)) ∧ w = w' := by
  go_enter Try.func89, Try.ntmps89
  go_wp2
  go_loop [3, 4] (fun n i => ∃ k : Nat, k ≤ s.size ∧ i = .int .i64 k ∧ n = .int .i64 (cnt s k)) (fun _ i => s.size - (intOf i).toNat)
  case atStart => exact ⟨0, Nat.zero_le _, rfl, rfl⟩
  case round =>
    obtain ⟨k, hk, rfl, rfl⟩ := hrel
    have hc := cnt_le s k
    by_cases hlt : k < s.size
    · have e1 : Hid (byteAt s k = ((s[k]'hlt).toNat : Int)) := byteAt_eq s k hlt
      go_wp2
      all_goals
        go_round
        case rel => exact ⟨k + 1, by omega, by go_num, by rw [cnt, e1.out]; first | rw [if_pos (by simpa using ‹(_ == (40:Int)) = true›)] | (rw [if_neg (by simpa using ‹(_ == (40:Int)) = false›)]; go_num)⟩
        case measure => simp [intOf]; omega
    · obtain rfl : k = s.size := by omega
      go_wp2
      go_ret
      exact ⟨rfl, rfl⟩
set_option maxHeartbeats 400000 in
theorem trIs_any (s : ByteArray) (w : World) (hs : s.size ≤ 9223372036854775806) :
    Calls Try.prog 88 #[.string s] w fun e w' => e = .returned (.bool (isTreeB s)) ∧ w = w' := by
  have hc := cnt_le s s.size
  have he := endI_le 61 s 0 (by omega)
  by_cases a : (s.size : Int) ≤ 33 <;> by_cases b : cnt s s.size ≤ 8
  all_goals
    go_enter Try.func88, Try.ntmps88
    go_wp2_with (first | (go_at_call 89; refine (carets_any s _ hs).mono ?_; rintro e w' ⟨rfl, rfl⟩) | (go_at_call 133; refine (end_any 61 s _ _ _ hs (by omega) (by omega) (by omega)).mono ?_; rintro e w' ⟨rfl, rfl⟩))
    go_ret
    exact ⟨ret_bool (by unfold isTreeB; rw [Bool.eq_iff_iff]; simp; try omega), rfl⟩

end Go.Proofs.Ytplmbdljhgicfab

/-! SpecTr -/
namespace Go.Proofs.Ytplmbdljhgicfab
open Go.RowKit

theorem isLf_eq (t : Tr) : (t.str.toList == [46]) = t.isLf := by
  rw [Lib.toList_data, Tr.str_list]
  cases t <;> simp [Tr.text, Tr.isLf]

theorem str_lf : Tr.lf.str = ⟨#[46]⟩ := rfl
theorem str_nd (l r : Tr) : (Tr.nd l r).str = ⟨#[40]⟩ ++ l.str ++ r.str ++ ⟨#[41]⟩ := by
  apply ba_ext
  simp [Tr.str, Tr.text]

theorem trLeaf_any (t : Tr) (w : World) :
    Calls Try.prog 87 #[.string t.str] w fun e w' => e = .returned (.bool t.isLf) ∧ w = w' := by
  go_enter Try.func87, Try.ntmps87
  go_wp2_with fail
  go_ret
  exact ⟨ret_bool (isLf_eq t), rfl⟩

theorem trOf_any (l r : Tr) (w : World) (h : l.carets + r.carets ≤ 3000000) :
    Calls Try.prog 134 #[.string l.str, .string r.str] w fun e w' => e = .returned (.string (Tr.nd l r).str) ∧ w = w' := by
  have h1 := l.str_size
  have h2 := r.str_size
  go_enter Try.func134, Try.ntmps134
  go_wp2_with fail
  go_ret
  exact ⟨by rw [str_nd]; rfl, rfl⟩

theorem ret_str2 {a b c d : ByteArray} (h : a = c) (k : b = d) : Ending.returned (.tuple #[.string a, .string b]) = .returned (.tuple #[.string c, .string d]) := by rw [h, k]

theorem side_left (l r : Tr) (e : Nat) (he : e = 3 * l.carets + 2) : (Tr.nd l r).str.extract 1 e = l.str := by
  apply ba_ext
  rw [Lib.extract_data, Tr.str_list, Tr.str_list]
  have : e - 1 = l.text.length := by rw [l.text_len]; omega
  rw [this]
  simp [Tr.text]

theorem side_right (l r : Tr) (e f : Nat) (he : e = 3 * l.carets + 2) (hf : f = 3 * l.carets + 3 * r.carets + 3) : (Tr.nd l r).str.extract e f = r.str := by
  apply ba_ext
  rw [Lib.extract_data, Tr.str_list, Tr.str_list]
  have h1 : e = l.text.length + 1 := by rw [l.text_len]; omega
  have h2 : f - e = r.text.length := by rw [r.text_len]; omega
  rw [h2, h1]
  show ((40 :: (l.text ++ (r.text ++ [41]))).drop (l.text.length + 1)).take _ = _
  rw [List.drop_succ_cons, List.drop_left, List.take_left]

theorem trSides_any (l r : Tr) (w : World) (h : l.carets + r.carets ≤ 60) :
    Calls Try.prog 91 #[.string (Tr.nd l r).str] w fun e w' => e = .returned (.tuple #[.string l.str, .string r.str]) ∧ Below w.heap.size w w' := by
  have h1 := (Tr.nd l r).str_size
  simp only [Tr.carets] at h1
  have he := endI_complete l 61 (Tr.nd l r).str 1 (r.text ++ [41]) (by omega) (by rw [Tr.str_list]; rfl)
  have hl := l.text_len
  have he' : endI 61 (Tr.nd l r).str 1 = (3 * l.carets + 2 : Nat) := by
    have : ((1 : Nat) : Int) = 1 := rfl
    rw [this] at he; rw [he]; omega
  have HE := Lib.hid he'
  clear he he' hl
  go_enter Try.func91, Try.ntmps91
  go_wp2_with fail
  refine (end_any 61 (Tr.nd l r).str _ _ _ (by omega) (by omega) (by omega) (by omega)).mono ?_; rintro e w' ⟨rfl, rfl⟩
  rw [HE.out]
  go_wp2_with fail
  go_region
  all_goals (try go_wp2_with fail)
  all_goals go_ret2
  exact ⟨ret_str2 (side_left l r _ (by omega)) (side_right l r _ _ (by omega) (by omega)), (Below.refl _ _).drew⟩
end Go.Proofs.Ytplmbdljhgicfab

/-! SpecMir -/
namespace Go.Proofs.Ytplmbdljhgicfab
open Go.RowKit

set_option maxHeartbeats 400000 in
theorem trJoin_any (a : Tr) : ∀ (b : Tr) (w : World), a.carets ≤ 60 → b.carets ≤ 60 →
    Calls Try.prog 90 #[.string a.str, .string b.str] w (Gives (.string (a.join b).str) w) := by
  induction a with
  | lf =>
    intro b w ha hb
    go_enter Try.func90, Try.ntmps90
    go_wp2_with fail
    refine (trLeaf_any .lf _).mono ?_; rintro e w1 ⟨rfl, rfl⟩
    simp only [Tr.isLf]
    go_wp2_with fail
    go_ret
    exact ⟨rfl, Below.refl _ _⟩
  | nd l r ihl ihr =>
    intro b w ha hb
    have h' : l.carets + r.carets + 1 ≤ 60 := ha
    cases b with
    | lf =>
      go_enter Try.func90, Try.ntmps90
      go_wp2_with fail
      refine (trLeaf_any (.nd l r) _).mono ?_; rintro e w1 ⟨rfl, rfl⟩
      simp only [Tr.isLf]
      go_wp2_with fail
      refine (trLeaf_any .lf _).mono ?_; rintro e w1 ⟨rfl, rfl⟩
      simp only [Tr.isLf]
      go_wp2_with fail
      go_ret
      exact ⟨rfl, Below.refl _ _⟩
    | nd p q =>
      have h2 : p.carets + q.carets + 1 ≤ 60 := hb
      have ml := join_carets l p
      have mr := join_carets r q
      go_enter Try.func90, Try.ntmps90
      go_wp2_with fail
      refine (trLeaf_any (.nd l r) _).mono ?_; rintro e w1 ⟨rfl, rfl⟩
      simp only [Tr.isLf]
      go_wp2_with fail
      refine (trLeaf_any (.nd p q) _).mono ?_; rintro e w1 ⟨rfl, rfl⟩
      simp only [Tr.isLf]
      go_wp2_with fail
      refine (trSides_any l r _ (by omega)).mono ?_; rintro e w1 ⟨rfl, hb1⟩
      go_wp2_with fail
      refine (trSides_any p q _ (by omega)).mono ?_; rintro e w2 ⟨rfl, hb2⟩
      go_wp2_with fail
      refine (ihl p _ (by omega) (by omega)).mono ?_; rintro e w3 ⟨rfl, hb3⟩
      go_wp2_with fail
      refine (ihr q _ (by omega) (by omega)).mono ?_; rintro e w4 ⟨rfl, hb4⟩
      go_wp2_with fail
      refine (trOf_any (l.join p) (r.join q) _ (by omega)).mono ?_; rintro e w5 ⟨rfl, rfl⟩
      go_wp2_with fail
      go_ret
      exact ⟨rfl, nx (nx (nx hb1 hb2) hb3) hb4⟩

end Go.Proofs.Ytplmbdljhgicfab

/-! Ans -/
namespace Go.Proofs.Ytplmbdljhgicfab
open Go.RowKit

def trS : Option Tr → ByteArray
  | some t => t.str
  | none => ⟨#[]⟩
def trB : Option Tr → Bool
  | some _ => true
  | none => false
/-- An answer of a text and a bool. -/
def ansV (o : Option Tr) : Value := .tuple #[.string (trS o), .bool (trB o)]
/-- A tree, if it has no more carets than allowed. -/
def lim (t : Tr) : Option Tr := if t.carets ≤ 8 then some t else none

theorem trIs_yes (t : Tr) (w : World) (h : t.carets ≤ 8) : Calls Try.prog 88 #[.string t.str] w fun e w' => e = .returned (.bool true) ∧ w = w' := by
  have := trIs_any t.str w (by have := t.str_size; omega)
  rwa [isTreeB_str t h] at this
theorem trIs_no (s : ByteArray) (w : World) (hs : s.size ≤ 9223372036854775806) (h : treeOf s = none) : Calls Try.prog 88 #[.string s] w fun e w' => e = .returned (.bool false) ∧ w = w' := by
  have := trIs_any s w hs
  rwa [isTreeB_eq, h] at this
theorem carets_str (t : Tr) (w : World) (h : t.carets ≤ 1000) : Calls Try.prog 89 #[.string t.str] w fun e w' => e = .returned (.int .i64 t.carets) ∧ w = w' := by
  have := carets_any t.str w (by have := t.str_size; omega)
  rwa [cnt_str] at this

theorem limit_yes (t : Tr) (w : World) (h : t.carets ≤ 8) : Calls Try.prog 110 #[.string t.str] w fun e w' => e = .returned (.tuple #[.string t.str, .bool true]) ∧ w = w' := by
  have hz := t.str_size
  have hz' : t.str.size ≤ 25 := by omega
  clear hz
  go_enter Try.func110, Try.ntmps110
  go_wp2_with fail
  go_ret2
  exact ⟨rfl, rfl⟩
theorem limit_no (t : Tr) (w : World) (h : 8 < t.carets) : Calls Try.prog 110 #[.string t.str] w fun e w' => e = .returned (.tuple #[.string ⟨#[]⟩, .bool false]) ∧ w = w' := by
  have hz := t.str_size
  have hz' : 25 < t.str.size := by omega
  clear hz
  go_enter Try.func110, Try.ntmps110
  go_wp2_with fail
  go_ret2
  exact ⟨rfl, rfl⟩
theorem limit_any (t : Tr) (w : World) : Calls Try.prog 110 #[.string t.str] w fun e w' => e = .returned (ansV (lim t)) ∧ w = w' := by
  by_cases h : t.carets ≤ 8
  · have := limit_yes t w h
    rw [show ansV (lim t) = .tuple #[.string t.str, .bool true] by simp [lim, h, ansV, trS, trB]]
    exact this
  · have := limit_no t w (by omega)
    rw [show ansV (lim t) = .tuple #[.string ⟨#[]⟩, .bool false] by simp [lim, h, ansV, trS, trB]]
    exact this

def TreesOk (t u : Tr) (w : World) (e : Ending) (w' : World) : Prop :=
  ∃ b c : Nat, NodeAt w' t b ∧ NodeAt w' u c ∧ Below w.heap.size w w' ∧ e = .returned (.tuple #[.pointer (some ⟨b, 0, none⟩), .pointer (some ⟨c, 0, none⟩), .bool true])
def TreesNo (w : World) (e : Ending) (w' : World) : Prop :=
  Below w.heap.size w w' ∧ e = .returned (.tuple #[.pointer none, .pointer none, .bool false])

end Go.Proofs.Ytplmbdljhgicfab

/-! Src -/
namespace Go.Proofs.Ytplmbdljhgicfab
open Go.RowKit

theorem CellsS.form0 {b1 : Nat} {w : World} {v : Value} {xs : List ByteArray} (h : CellsS b1 w v xs) :
    ∃ oa cap, v = .slice oa xs.length cap ∧ xs.length ≤ cap ∧ cap ≤ maxLen ∧ ∀ i, i < xs.length → ∃ g, oa = some ⟨g, 0, none⟩ ∧ b1 ≤ g ∧ g < w.heap.size ∧ w.cell? ⟨g, i, none⟩ = some (.string (xs.getD i ⟨#[]⟩)) := by
  rcases h with ⟨rfl, rfl⟩ | ⟨g, cap, rfl, h1, h2, h3, h4, h5, _⟩
  · exact ⟨none, 0, rfl, Nat.le_refl _, Nat.zero_le _, fun i hi => by simp at hi⟩
  · exact ⟨some ⟨g, 0, none⟩, cap, rfl, h3, h4, fun i hi => ⟨g, rfl, h1, h2, h5 i hi⟩⟩

theorem CellsS.at1 {b1 : Nat} {w : World} {g n cap : Nat} {ss : List ByteArray} (h : CellsS b1 w (.slice (some ⟨g, 0, none⟩) n cap) ss) {i : Nat} {t : ByteArray} (hi : ss[i]? = some t) : w.cell? ⟨g, i, none⟩ = some (.string t) := by
  rcases h with ⟨h, _⟩ | ⟨g', cap', h, _, _, _, _, hc, _⟩
  · cases h
  · cases h
    have hl := (List.getElem?_eq_some_iff.1 hi).1
    rw [hc i hl]
    simp [List.getD_eq_getElem?_getD, hi]

/-- A slice value from which the cells ys can be read. -/
def SrcV (w : World) (u : Value) (ys : List Value) : Prop :=
  (u = .slice none 0 0 ∧ ys = []) ∨ ∃ ad c, u = .slice (some ad) ys.length c ∧ ∀ j x, ys[j]? = some x → w.cell? (ad.add j) = some x

theorem SrcV.keep {w w' : World} {u : Value} {ys : List Value} (h : SrcV w u ys) (hb : Below w.heap.size w w') : SrcV w' u ys := by
  rcases h with h | ⟨ad, c, h1, h2⟩
  · exact .inl h
  · refine .inr ⟨ad, c, h1, fun j x hj => ?_⟩
    have hc := h2 j x hj
    exact (hb.cell (World.block_lt_of_cell? w _ hc)).trans hc

theorem wpList_appSrc {P : Program} {w : World} {ops : Array Oper} {rest : List Oper} {o : Oper} {a : Act} {Q : Exit → Act → World → Prop} (hgd : o.guard = none) (s x : Operand) (t : TypeId)
    (ho : o.op = .call { callee := .builtin .append, args := #[s, x], argTypes := #[t, t] })
    (base : Nat) (e : TypeId) (i : TypeInfo) (z : Value) (bytes : Nat) (ht : P.underlying t = some (.slice e)) (hi : P.info? e = some i) (hz : i.zero = some z)
    (hsize : i.size = 1) (hby : i.bytes = bytes) (hzs : z.cells.size = 1)
    (v : Value) (n : Nat) (xs : List Value) (hs : a.eval s = v) (hown : w.ownsRow base e 1 v n xs)
    (u : Value) (ys : List Value) (hx : a.eval x = u) (hsrc : SrcV w u ys) (h1 : ∀ y ∈ ys, y.oneCell' = true)
    (h63 : n + ys.length ≤ maxLen) (hbytes : (n + ys.length) * bytes ≤ 140737488355328) (hbase : base ≤ w.heap.size)
    (h : ∀ v' w', w'.ownsRow base e 1 v' (n + ys.length) (xs ++ ys) → Below base w w' → (v' = .slice none 0 0 → v = .slice none 0 0) → wpList P ops Q rest (a.put o.dst v') w') : wpList P ops Q (o :: rest) a w := by
  rcases hsrc with ⟨rfl, rfl⟩ | ⟨ad, c, rfl, hc⟩
  · refine wpList_append_own_none hgd s x t ho base e i 1 ht hi v n xs hs hown hx ?_
    exact h v w (by simpa using hown) (Below.refl _ _) id
  · refine wpList_append_own w hgd s x t ho base e i z 1 bytes ht hi hz hsize hby hzs (by decide) v n xs hs hown ad ys.length c ys hx (by simp) hc h1 h63 hbytes hbase ?_
    intro v' w' hown' hg hn
    exact h v' w' hown' ((Below.refl base w).grown hg hbase (fun k hk => ownsRow_ge hown k hk)) (fun e => (hn.1 e).1)

theorem row_shape {w : World} {base : Nat} {e : TypeId} {size : Nat} {v : Value} {n : Nat} {xs : List Value} (h : w.ownsRow base e size v n xs) (hn : v ≠ .slice none 0 0) : ∃ g cap, v = .slice (some ⟨g, 0, none⟩) n cap ∧ base ≤ g := by
  rcases h.2 with ⟨hv, _⟩ | ⟨g, cap, cur, hv, hb, _⟩
  · exact absurd hv hn
  · exact ⟨g, cap, hv, hb⟩

/-- An empty slice in a block of its own. -/
theorem ownsRow_empty (w : World) (e : TypeId) : (w.alloc (.cells #[] e (0, 0))).ownsRow w.heap.size e 1 (.slice (some ⟨w.heap.size, 0, none⟩) 0 0) 0 [] :=
  World.ownsRow_made w #[] 0 (Nat.le_refl _) (Nat.zero_le _) rfl

/-- The parts of a slice of the call's own, as sources. -/
theorem src_take {base : Nat} {w : World} {e : TypeId} {g n cap : Nat} {xs : List Value} (h : w.ownsRow base e 1 (.slice (some ⟨g, 0, none⟩) n cap) n xs) (k : Nat) (hk : k ≤ n) (c : Nat) : SrcV w (.slice (some ⟨g, 0, none⟩) k c) (xs.take k) := by
  have hl := h.1
  refine .inr ⟨_, c, by rw [List.length_take]; congr 1; omega, fun j x hj => ?_⟩
  have hj' := (List.getElem?_eq_some_iff.1 hj).1
  rw [List.length_take] at hj'
  rw [List.getElem?_take_of_lt (by omega)] at hj
  rw [addr_add, World.ownsRow.cellAt h j (by omega)]
  exact hj
theorem src_drop {base : Nat} {w : World} {e : TypeId} {g n cap : Nat} {xs : List Value} (h : w.ownsRow base e 1 (.slice (some ⟨g, 0, none⟩) n cap) n xs) (k : Nat) (hk : k ≤ n) (c : Nat) : SrcV w (.slice (some ⟨g, k, none⟩) (n - k) c) (xs.drop k) := by
  have hl := h.1
  refine .inr ⟨_, c, by rw [List.length_drop]; congr 1; omega, fun j x hj => ?_⟩
  have hj' := (List.getElem?_eq_some_iff.1 hj).1
  rw [List.length_drop] at hj'
  rw [List.getElem?_drop] at hj
  have ea : (⟨g, k, none⟩ : Addr).add j = ⟨g, k + j, none⟩ := by
    unfold Addr.add
    split
    · next h0 => rw [h0]; simp
    · rfl
  rw [ea, World.ownsRow.cellAt h (k + j) (by omega)]
  exact hj
theorem src_cells {b1 : Nat} {w : World} {g n cap : Nat} {xs : List ByteArray} (h : CellsS b1 w (.slice (some ⟨g, 0, none⟩) n cap) xs) (k : Nat) (hk : k ≤ xs.length) (c : Nat) : SrcV w (.slice (some ⟨g, 0, none⟩) k c) ((xs.take k).map Value.string) := by
  rcases h with ⟨h, _⟩ | ⟨g', cap', h, _, _, _, _, hc, _⟩
  · cases h
  · cases h
    refine .inr ⟨_, c, by rw [List.length_map, List.length_take]; congr 1; omega, fun j x hj => ?_⟩
    have hj' := (List.getElem?_eq_some_iff.1 hj).1
    rw [List.length_map, List.length_take] at hj'
    rw [List.getElem?_map, List.getElem?_take_of_lt (by omega), List.getElem?_eq_getElem (by omega)] at hj
    have hx := hc j (by omega)
    rw [List.getD_eq_getElem?_getD, List.getElem?_eq_getElem (by omega)] at hx
    rw [addr_add, hx]
    exact hj
theorem src_end {w : World} (a : Option Addr) (c : Nat) (h : a = none → c = 0) : SrcV w (.slice a 0 c) [] := by
  cases a with
  | none => rw [h rfl]; exact .inl ⟨rfl, rfl⟩
  | some ad => exact .inr ⟨ad, c, rfl, fun j x hj => by simp at hj⟩
end Go.Proofs.Ytplmbdljhgicfab

/-! Pair -/
namespace Go.Proofs.Ytplmbdljhgicfab
open Go.RowKit

/-- A pair of texts as a value. -/
abbrev pv (a b : ByteArray) : Value := .agg #[.string a, .string b]

theorem toPair_any (a b : ByteArray) (w : World) :
    Calls Try.prog 27 #[.agg #[.string a, .string b]] w (Gives (.agg #[.string a, .string b]) w) := by
  go_enter Try.func27, Try.ntmps27
  go_wp2
  refine bodyPost_ret (v := .agg #[.string a, .string b]) (by simp [results, Try.results27, go_sem]) rfl ⟨rfl, ?_⟩
  exact nxAlloc (nxAlloc (nxAlloc (Below.refl _ _) _) _) _

theorem szPair_any (a b : ByteArray) (w : World) (ha : a.size ≤ 9223372036854775807) (hb : b.size ≤ 9223372036854775807) (n : Int) (h0 : 0 ≤ n) (h1 : n ≤ 1048576) :
    Calls Try.prog 25 #[.agg #[.string a, .string b], .int .i64 n] w (Gives (.int .i64 (if (a.size : Int) + b.size ≤ n then n - a.size - b.size else -1)) w) := by
  by_cases h2 : n - a.size < 0
  · rw [if_neg (by omega)]
    go_enter Try.func25, Try.ntmps25
    go_wp2
    go_ret
    exact ⟨rfl, (Below.refl _ _).alloc (Nat.le_refl _) _⟩
  · by_cases h3 : n - a.size - b.size < 0
    · rw [if_neg (by omega)]
      go_enter Try.func25, Try.ntmps25
      go_wp2
      go_ret
      exact ⟨rfl, (Below.refl _ _).alloc (Nat.le_refl _) _⟩
    · rw [if_pos (by omega)]
      go_enter Try.func25, Try.ntmps25
      go_wp2
      go_ret
      exact ⟨rfl, (Below.refl _ _).alloc (Nat.le_refl _) _⟩

theorem eqPair_same (a b : ByteArray) (w : World) :
    Calls Try.prog 19 #[.agg #[.string a, .string b], .agg #[.string a, .string b]] w (Gives (.bool true) w) := by
  go_enter Try.func19, Try.ntmps19
  go_wp2
  go_ret
  exact ⟨rfl, ((Below.refl _ _).alloc (Nat.le_refl _) _).alloc (by simp) _⟩

theorem pairOf_isSome (a b : ByteArray) (t u : Tr) (ha : treeOf a = some t) (hb : treeOf b = some u) : (pairOf a b).isSome = ((t.carets : Int) == (u.carets : Int)) := by
  unfold pairOf
  rw [ha, hb, Bool.eq_iff_iff, beq_iff_eq]
  by_cases h : t.carets = u.carets
  · simp [h]
  · simp only [h, if_false]; simp; omega

set_option maxRecDepth 100000 in
set_option maxHeartbeats 1000000 in
theorem prGood_any (a b : ByteArray) (w : World) (ha : a.size ≤ 9223372036854775806) (hb : b.size ≤ 9223372036854775806) :
    Calls Try.prog 68 #[.agg #[.string a, .string b]] w (Gives (.bool (pairOf a b).isSome) w) := by
  cases h : treeOf a with
  | none =>
    have e : (pairOf a b).isSome = false := by unfold pairOf; rw [h]; rfl
    rw [e]
    have T := fun w => trIs_no a w ha h
    clear h e
    go_enter Try.func68, Try.ntmps68
    go_wp2_with fail
    go_quiet ((go_at_call 88; with_reducible exact quiet_eq (T _)))
    go_wp2_with fail
    go_ret
    exact ⟨rfl, drewB (nxAlloc (Below.refl _ _) _) _⟩
  | some t =>
    cases k : treeOf b with
    | none =>
      have e : (pairOf a b).isSome = false := by unfold pairOf; rw [h, k]; rfl
      rw [e]
      obtain ⟨rfl, hc⟩ := treeOf_some h
      have T := fun w => trIs_yes t w hc
      have U := fun w => trIs_no b w hb k
      clear h k e
      go_enter Try.func68, Try.ntmps68
      go_wp2_with fail
      go_quiet ((go_at_call 88; first | (with_reducible exact quiet_eq (T _)) | (with_reducible exact quiet_eq (U _))))
      go_wp2_with fail
      go_ret
      exact ⟨rfl, drewB (nxAlloc (Below.refl _ _) _) _⟩
    | some u =>
      rw [pairOf_isSome a b t u h k]
      obtain ⟨rfl, hc⟩ := treeOf_some h
      obtain ⟨rfl, hd⟩ := treeOf_some k
      have T := fun w => trIs_yes t w hc
      have U := fun w => trIs_yes u w hd
      have C := fun w => carets_str t w (by omega)
      have D := fun w => carets_str u w (by omega)
      clear h k
      go_enter Try.func68, Try.ntmps68
      go_wp2_with fail
      go_quiet ((first | (go_at_call 88; first | (with_reducible exact quiet_eq (T _)) | (with_reducible exact quiet_eq (U _))) | (go_at_call 89; first | (with_reducible exact quiet_eq (C _)) | (with_reducible exact quiet_eq (D _)))))
      go_wp2_with fail
      go_ret
      exact ⟨rfl, drewB (nxAlloc (Below.refl _ _) _) _⟩
end Go.Proofs.Ytplmbdljhgicfab

/-! RegT -/
namespace Go.Proofs.Ytplmbdljhgicfab
open Go.RowKit

section
variable {P : Program} {ops : Array Oper} {md : Region.Mode} {C : World → Prop}

/-- Whatever order is drawn for the first n operations. -/
def headQ (P : Program) (md : Region.Mode) (ops : Array Oper) (C : World → Prop) (n : Nat) (L : Array Bool → Act → Prop) : Nat → Array Bool → Act → Prop
  | 0, listed, a => L listed a
  | f + 1, listed, a => Region.ready md ops listed ≠ [] ∧ ∀ i ∈ Region.ready md ops listed, i < n ∧ qOp P ops C i (headQ P md ops C n L f (listed.setIfInBounds i true)) a

theorem any_of_headQ {n g : Nat} {L : Array Bool → Act → Prop} {Q' : Exit → Act → World → Prop} (hL : ∀ listed a w, C w → L listed a → wpAny P md ops Q' g listed a w) :
    ∀ (f : Nat) (listed : Array Bool) (a : Act) (w : World), C w → headQ P md ops C n L f listed a → wpAny P md ops Q' (f + g) listed a w
  | 0, listed, a, w, hw, h => by rw [Nat.zero_add]; exact hL _ _ _ hw h
  | f + 1, listed, a, w, hw, h => by
    rw [Nat.add_right_comm]
    exact ⟨fun h0 => absurd h0 h.1, fun i hi => wpOp_of_qOp hw (fun a' w' hw' h' => any_of_headQ hL f _ a' w' hw' h') (h.2 i hi).2⟩

theorem headQ_first {n i : Nat} {oi : Oper} {v : Value} {L : Array Bool → Act → Prop} (hi : ops[i]? = some oi) (hsel : ∀ (j : Nat) (o : Oper) cs b, ops[j]? = some o → o.op ≠ .select cs b)
    (hs : Region.sinkB md ops n = true) (hc : Region.chainB md ops n = true) (hn : n < ops.size) (hin : i < n)
    (hdone : ∀ listed a, L listed a → ∀ j ∈ Region.ready md ops listed, n ≤ j) :
    ∀ (f : Nat) (listed : Array Bool) (a : Act), HeadInv md ops n listed →
      (∀ j oj, ops[j]? = some oj → j ≠ i → listed.getD j true = false → (∀ e ∈ oj.after, Region.binds md e = true → e.on ≠ i) → oi.apart ops oj = true) →
      i ∈ Region.ready md ops listed → YieldsIn P ops C oi v a →
      headQ P md ops C n L f (listed.setIfInBounds i true) (a.put oi.dst v) → headQ P md ops C n L (f + 1) listed a := by
  intro f
  induction f with
  | zero =>
    intro listed a inv _ hr hy H
    have hun := (mem_ready.1 hr).1
    refine ⟨(List.ne_nil_of_mem hr), fun j hj => ?_⟩
    have hjn : j < n := Nat.lt_of_not_le fun h => tail_waits hs hc hn inv _ i rfl hin hun j h hj
    refine ⟨hjn, ?_⟩
    by_cases hji : j = i
    · subst hji; exact hy.qOp hi H
    · have := hdone _ _ H j (ready_mono hj hji)
      omega
  | succ f ih =>
    intro listed a inv hfree hr hy H
    have hun := (mem_ready.1 hr).1
    refine ⟨(List.ne_nil_of_mem hr), fun j hj => ?_⟩
    have hjn : j < n := Nat.lt_of_not_le fun h => tail_waits hs hc hn inv _ i rfl hin hun j h hj
    refine ⟨hjn, ?_⟩
    by_cases hji : j = i
    · subst hji; exact hy.qOp hi H
    · have k1 := (H.2 j (ready_mono hj hji)).2
      obtain ⟨hjun, oj, hoj, hall⟩ := mem_ready.1 hj
      have hnot : ∀ e ∈ oj.after, Region.binds md e = true → e.on ≠ i := by
        intro e he hb heq
        have k2 := hall e he hb
        rw [heq, getD_both hun] at k2
        cases k2
      have k3 := qOp_put hoj (hfree j oj hoj hji hjun hnot) (fun cs b => hsel i oi cs b hi) (fun cs b => hsel j oj cs b hoj) hy k1
      refine qOp_mono (fun a' k4 => ih (listed.setIfInBounds j true) a' (inv.set hj hjn) ?_ (ready_mono hr (Ne.symm hji)) k4.1 ?_) k3
      · intro k ok hk hki hunk hno
        refine hfree k ok hk hki ?_ hno
        by_cases hjk : j = k
        · subst hjk; exact hjun
        · rw [getD_set_ne true hjk] at hunk; exact hunk
      · rw [Array.setIfInBounds_comm _ _ hji]
        exact k4.2

theorem headQ_lex {n g : Nat} {Lq : Act → Prop} (hsel : Region.noSelect ops = true) (hs : Region.sinkB md ops n = true) (hc : Region.chainB md ops n = true) (hn : n < ops.size) :
    ∀ (l : List Oper) (k : Nat) (listed : Array Bool) (a : Act), (∀ j, j < l.length → l[j]? = ops[k + j]?) → k + l.length = n → HeadInv md ops n listed →
    Region.lexHead md ops g l.length k listed = true → wpQuiet P ops C Lq l a →
    headQ P md ops C n (fun listed' a' => Region.seqB md ops g n listed' = true ∧ Lq a') l.length listed a
  | [], k, listed, a, _, hk, _, hB, h => by
    obtain rfl : k = n := by simpa using hk
    exact ⟨by simpa [Region.lexHead] using hB, h⟩
  | o :: l, k, listed, a, hl, hk, inv, hB, h => by
    have h0 : ops[k]? = some o := by simpa using (hl 0 (by simp)).symm
    simp only [List.length_cons, Region.lexHead, Bool.and_eq_true] at hB
    obtain ⟨⟨hr, hf⟩, hB'⟩ := hB
    have hkn : k < n := by simp only [List.length_cons] at hk; omega
    have hr' : k ∈ Region.ready md ops listed := by simpa using hr
    have hst : qOp P ops C k (wpQuiet P ops C Lq l) a := by unfold qOp; simp only [h0]; exact h
    obtain ⟨v, hy, hK⟩ := yieldsIn_of_qOp h0 hst
    refine headQ_first h0 (Region.noSelect_spec hsel) hs hc hn hkn (fun listed' a' hL => seqB_ready hL.1) l.length listed a inv (Region.free_spec h0 hf) hr' hy ?_
    refine headQ_lex hsel hs hc hn l (k + 1) _ _ (fun j hj => ?_) (by simp only [List.length_cons] at hk; omega) (inv.set hr' hkn) hB' hK
    have := hl (j + 1) (by simp; omega)
    simpa [Nat.add_assoc, Nat.add_comm 1 j] using this

/-- The first n operations are quiet in the class; the rest is walked in each of its worlds. -/
theorem wp_region_headQ {id : Nat} {Q : Exit → Act → World → Prop} {a : Act} {w : World} {l : List Oper} (n : Nat) (hm : P.follows .mixedOrders = true) (hB : Region.lexTailB .any l.toArray n = true) (hC : C w.drew)
    (h : wpQuiet P l.toArray C (fun a' => ∀ w', C w' → wpList P l.toArray Q (l.drop n) a' w') (l.take n) a) : (Code.region id l.toArray true).wp P Q a w := by
  simp only [Region.lexTailB, Bool.and_eq_true, decide_eq_true_eq] at hB
  obtain ⟨⟨⟨⟨hsel, hn⟩, hs⟩, hc⟩, hlex⟩ := hB
  have hn' : n < l.length := by simpa using hn
  have htl : (l.take n).length = n := by simp; omega
  have hdl : (l.drop n).length = l.toArray.size - n := by simp
  have inv0 : HeadInv .any l.toArray n (Array.replicate l.toArray.size false) := by
    refine ⟨by simp, fun j oj _ hl => ?_, fun t _ ht => getD_in (by simpa using ht) (getD_replicate_false _ _)⟩
    rw [getD_replicate_false] at hl; cases hl
  have H := headQ_lex (md := .any) (C := C) (g := l.toArray.size - n) hsel hs hc hn (l.take n) 0 _ a (fun j hj => by
    have hj' : j < n := by rw [htl] at hj; exact hj
    simp [hj']) (by simpa using htl) inv0 (by rw [htl]; exact hlex) h
  refine wp_region_any hm ?_
  have := any_of_headQ (Q' := Q) (g := l.toArray.size - n) (fun listed a' w' hw' hL => by
    have := wpAny_of_seq (md := .any) (Q' := Q) (l.drop n) n listed a' w' (fun j => by simp [List.getElem?_drop]) (by rw [hdl]; exact hL.1) (hL.2 w' hw')
    rwa [hdl] at this) _ _ _ _ hC H
  rw [htl, show n + (l.toArray.size - n) = l.toArray.size by omega] at this
  exact this
end

/-- The worlds that leave what was there. -/
def Cls (w w' : World) : Prop := Below w.heap.size w w'
theorem Cls.cell {w w' : World} (h : Cls w w') {g i : Nat} {v : Value} (hg : g < w.heap.size) (hc : w.cell? ⟨g, i, none⟩ = some v) : w'.cell? ⟨g, i, none⟩ = some v := (Below.cell h (p := ⟨g, i, none⟩) hg).trans hc
theorem Cls.call {P : Program} {f : FuncId} {args : Array Value} {w w' : World} {v : Value} (h : Cls w w') (k : Calls P f args w' (Gives v w')) : Calls P f args w' fun e w'' => e = .returned v ∧ Cls w w'' :=
  k.mono fun _ _ ⟨he, hb⟩ => ⟨he, nx h hb⟩

theorem wp_region_cls {P : Program} {id : Nat} {Q : Exit → Act → World → Prop} {a : Act} {w : World} {l : List Oper} (hm : P.follows .mixedOrders = true) (hB : Region.lexB .any l.toArray = true)
    (h : wpQuiet P l.toArray (Cls w) (fun a' => ∀ w', Cls w w' → Q .normal a' w') l a) : (Code.region id l.toArray true).wp P Q a w :=
  wp_region_quiet (C := Cls w) hm hB ((Below.refl _ _).drew) (by simpa using h)

theorem wp_region_clsT {P : Program} {id : Nat} {Q : Exit → Act → World → Prop} {a : Act} {w : World} {l : List Oper} (n : Nat) (hm : P.follows .mixedOrders = true) (hB : Region.lexTailB .any l.toArray n = true)
    (h : wpQuiet P l.toArray (Cls w) (fun a' => ∀ w', Cls w w' → wpList P l.toArray Q (l.drop n) a' w') (l.take n) a) : (Code.region id l.toArray true).wp P Q a w :=
  wp_region_headQ n hm hB ((Below.refl _ _).drew) h
end Go.Proofs.Ytplmbdljhgicfab

/-! PairK -/
namespace Go.Proofs.Ytplmbdljhgicfab
open Go.RowKit

theorem two_cells {w : World} {g : Nat} {u v : Value} {t : TypeId} (h : w.heap[g]? = some (.cells #[u, v] t (0, 0))) : w.cell? ⟨g, 0, none⟩ = some u ∧ w.cell? ⟨g, 1, none⟩ = some v := by
  simp [World.cell?, h]
theorem two_facts {w : World} {g : Nat} {u v : Value} {t : TypeId} (h : w.heap[g]? = some (.cells #[u, v] t (0, 0))) : w.cell? ⟨g, 0, none⟩ = some u ∧ w.cell? ⟨g, 1, none⟩ = some v ∧ g < w.heap.size :=
  ⟨(two_cells h).1, (two_cells h).2, lt_of_block h⟩
theorem keep_two {w w' : World} {g : Nat} {u v : Value} (hb : Below w.heap.size w w') (hg : g < w.heap.size) (h : w.cell? ⟨g, 0, none⟩ = some u ∧ w.cell? ⟨g, 1, none⟩ = some v) : w'.cell? ⟨g, 0, none⟩ = some u ∧ w'.cell? ⟨g, 1, none⟩ = some v :=
  ⟨(hb.cell (p := ⟨g, 0, none⟩) hg).trans h.1, (hb.cell (p := ⟨g, 1, none⟩) hg).trans h.2⟩


theorem two_frozen {w : World} {g : Nat} {u v : Value} {t : TypeId} (h : w.heap[g]? = some (.cells #[u, v] t (0, 0))) : w.frozen? ⟨g, 0, none⟩ = false ∧ w.frozen? ⟨g, 1, none⟩ = false := by
  simp [World.frozen?, h]
theorem set_first {w : World} {g : Nat} {u v u' : Value} {t : TypeId} (h : w.heap[g]? = some (.cells #[u, v] t (0, 0))) : (w.setCell ⟨g, 0, none⟩ u').heap[g]? = some (.cells #[u', v] t (0, 0)) := Joins.block_setCell h u'
theorem set_second {w : World} {g : Nat} {u v v' : Value} {t : TypeId} (h : w.heap[g]? = some (.cells #[u, v] t (0, 0))) : (w.setCell ⟨g, 1, none⟩ v').heap[g]? = some (.cells #[u, v'] t (0, 0)) := Joins.block_setCell h v'
theorem set_two {w : World} {g : Nat} {u v : Value} (u' v' : Value) {t : TypeId} (h : w.heap[g]? = some (.cells #[u, v] t (0, 0))) : ((w.setCell ⟨g, 0, none⟩ u').setCell ⟨g, 1, none⟩ v').heap[g]? = some (.cells #[u', v'] t (0, 0)) := set_second (set_first h)
theorem heap_keep {w w' : World} {g : Nat} {o : Obj} (hb : Below w.heap.size w w') (h : w.heap[g]? = some o) : w'.heap[g]? = some o := (hb.block g (lt_of_block h)).trans h


def pS1 (o : Option Pr) : ByteArray := match o with
  | some p => p.1.str
  | none => ⟨#[]⟩
def pS2 (o : Option Pr) : ByteArray := match o with
  | some p => p.2.str
  | none => ⟨#[]⟩
/-- An answer of a pair and a bool. -/
def ansPr (o : Option Pr) : Value := .tuple #[.agg #[.string (pS1 o), .string (pS2 o)], .bool o.isSome]
end Go.Proofs.Ytplmbdljhgicfab

/-! IsPair -/
namespace Go.Proofs.Ytplmbdljhgicfab
open Go.RowKit

theorem isTree_yes' (t : Tr) (w : World) (h : t.carets ≤ 8) : Calls Try.prog 108 #[.string t.str] w (Gives (.bool true) w) := (implIsTree_yes t w h).mono fun _ _ ⟨h1, h2⟩ => ⟨h2, h1⟩
theorem isTree_no' (s : ByteArray) (w : World) (hs : s.size ≤ 9223372036854775806) (h : treeOf s = none) : Calls Try.prog 108 #[.string s] w (Gives (.bool false) w) := (implIsTree_no s w hs h).mono fun _ _ ⟨h1, h2⟩ => ⟨h2, h1⟩

set_option maxRecDepth 100000 in
set_option maxHeartbeats 2000000 in
theorem isPair_any (a b : ByteArray) (w : World) (ha : a.size ≤ 9223372036854775806) (hb : b.size ≤ 9223372036854775806) :
    Calls Try.prog 71 #[.agg #[.string a, .string b]] w (Gives (.bool (pairOf a b).isSome) w) := by
  cases h : treeOf a with
  | none =>
    have e : (pairOf a b).isSome = false := by unfold pairOf; rw [h]; rfl
    rw [e]
    have T := fun w => isTree_no' a w ha h
    clear h e
    go_enter Try.func71, Try.ntmps71
    go_wp2_with fail
    have hb0 : Below w.heap.size w (w.alloc (.cells #[.string a, .string b] 29 (0, 0))) := nxAlloc (Below.refl _ _) _
    have hc := two_cells (heap_alloc_at w (.cells #[.string a, .string b] 29 (0, 0)))
    have hs : w.heap.size < (w.alloc (.cells #[.string a, .string b] 29 (0, 0))).heap.size := by simp
    generalize w.alloc (.cells #[.string a, .string b] 29 (0, 0)) = w0 at *
    refine wp_region_cls (by kernel_rfl) (by kernel_rfl) ?_
    repeat (
      refine wpQuiet_step (fun K hK => ?_)
      go_simp
      first
        | (refine hK _ ?_; clear hK K)
        | (refine ⟨_, fun _ _ => rfl, hK _ ?_⟩; clear hK K)
        | (apply Exists.intro
           refine ⟨fun w' hw' => ?_, hK _ ?_⟩
           · first
               | (rw [hw'.cell hs hc.1]; exact ⟨rfl, rfl⟩)
               | (rw [hw'.cell hs hc.2]; exact ⟨rfl, rfl⟩)
               | (go_at_call 108; exact hw'.call (T _))
           clear hK K))
    refine wpQuiet_nil ?_
    intro w' hw'
    go_wp2_with fail
    go_ret
    exact ⟨rfl, nx hb0 hw'⟩
  | some t =>
    cases k : treeOf b with
    | none =>
      have e : (pairOf a b).isSome = false := by unfold pairOf; rw [h, k]; rfl
      rw [e]
      obtain ⟨rfl, hc⟩ := treeOf_some h
      have T := fun w => isTree_yes' t w hc
      have U := fun w => isTree_no' b w hb k
      clear h k e hc
      go_enter Try.func71, Try.ntmps71
      go_wp2_with fail
      have hb0 : Below w.heap.size w (w.alloc (.cells #[.string t.str, .string b] 29 (0, 0))) := nxAlloc (Below.refl _ _) _
      have hc := two_cells (heap_alloc_at w (.cells #[.string t.str, .string b] 29 (0, 0)))
      have hs : w.heap.size < (w.alloc (.cells #[.string t.str, .string b] 29 (0, 0))).heap.size := by simp
      generalize w.alloc (.cells #[.string t.str, .string b] 29 (0, 0)) = w0 at *
      refine wp_region_cls (by kernel_rfl) (by kernel_rfl) ?_
      repeat (
        refine wpQuiet_step (fun K hK => ?_)
        go_simp
        first
          | (refine hK _ ?_; clear hK K)
          | (refine ⟨_, fun _ _ => rfl, hK _ ?_⟩; clear hK K)
          | (apply Exists.intro
             refine ⟨fun w' hw' => ?_, hK _ ?_⟩
             · first
                 | (rw [hw'.cell hs hc.1]; exact ⟨rfl, rfl⟩)
                 | (rw [hw'.cell hs hc.2]; exact ⟨rfl, rfl⟩)
                 | (go_at_call 108; first | (with_reducible exact hw'.call (T _)) | (with_reducible exact hw'.call (U _)))
             clear hK K))
      refine wpQuiet_nil ?_
      intro w' hw'
      go_wp2_with fail
      go_ret
      exact ⟨rfl, nx hb0 hw'⟩
    | some u =>
      rw [pairOf_isSome a b t u h k]
      obtain ⟨rfl, hc⟩ := treeOf_some h
      obtain ⟨rfl, hd⟩ := treeOf_some k
      have T := fun w => isTree_yes' t w hc
      have U := fun w => isTree_yes' u w hd
      have C := fun w => countCarets_any t w (by omega)
      have D := fun w => countCarets_any u w (by omega)
      clear h k hc hd
      go_enter Try.func71, Try.ntmps71
      go_wp2_with fail
      have hb0 : Below w.heap.size w (w.alloc (.cells #[.string t.str, .string u.str] 29 (0, 0))) := nxAlloc (Below.refl _ _) _
      have hc := two_cells (heap_alloc_at w (.cells #[.string t.str, .string u.str] 29 (0, 0)))
      have hs : w.heap.size < (w.alloc (.cells #[.string t.str, .string u.str] 29 (0, 0))).heap.size := by simp
      generalize w.alloc (.cells #[.string t.str, .string u.str] 29 (0, 0)) = w0 at *
      refine wp_region_cls (by kernel_rfl) (by kernel_rfl) ?_
      repeat (
        refine wpQuiet_step (fun K hK => ?_)
        go_simp
        first
          | (refine hK _ ?_; clear hK K)
          | (refine ⟨_, fun _ _ => rfl, hK _ ?_⟩; clear hK K)
          | (apply Exists.intro
             refine ⟨fun w' hw' => ?_, hK _ ?_⟩
             · first
                 | (rw [hw'.cell hs hc.1]; exact ⟨rfl, rfl⟩)
                 | (rw [hw'.cell hs hc.2]; exact ⟨rfl, rfl⟩)
                 | (go_at_call 108; first | (with_reducible exact hw'.call (T _)) | (with_reducible exact hw'.call (U _)))
                 | (go_at_call 116; first | (with_reducible exact hw'.call (C _)) | (with_reducible exact hw'.call (D _)))
             clear hK K))
      refine wpQuiet_nil ?_
      intro w' hw'
      go_wp2_with fail
      go_ret
      exact ⟨rfl, nx hb0 hw'⟩
end Go.Proofs.Ytplmbdljhgicfab

/-! ParseI -/
namespace Go.Proofs.Ytplmbdljhgicfab
open Go.RowKit

/-- The index of the first byte c from an index on. -/
def idxB (s : ByteArray) (c : UInt8) : Int := Lib.indexByte s.data.toList c

set_option maxRecDepth 100000 in
set_option maxHeartbeats 1000000 in
theorem indexByteS_any (s : ByteArray) (c : UInt8) (w : World) :
    Calls Try.prog 179 #[.string s, .int .u8 c.toNat] w fun e w' => e = .returned (.int .i64 (idxB s c)) ∧ w = w' := by
  go_enter Try.func179, Try.ntmps179
  go_wp2
  rw [run_callFunc_extern Try.func183 (by kernel_rfl) (by kernel_rfl) (by kernel_rfl) (e := Extern.BytealgIndexByte.indexByte) (by kernel_rfl), Lib.run_indexByteString]
  simp only [Result.andThen]
  rw [Oper.upon_value]
  go_wp2
  go_ret
  refine ⟨ret_int ?_, rfl⟩
  unfold idxB
  simp

set_option maxRecDepth 100000 in
set_option maxHeartbeats 1000000 in
theorem index62_any (s : ByteArray) (w : World) :
    Calls Try.prog 177 #[.string s, .string ⟨#[62]⟩] w fun e w' => e = .returned (.int .i64 (idxB s 62)) ∧ w = w' := by
  have hI := fun w => indexByteS_any s 62 w
  have gz : ((⟨#[62]⟩ : ByteArray)[0]'(by decide)).toNat = 62 := rfl
  have ez : ((62 : UInt8).toNat : Int) = 62 := rfl
  rw [ez] at hI
  cases hq : ([62] == s.toList) with
  | true =>
    have h0 : idxB s 62 = 0 := by
      unfold idxB
      rw [← Lib.toList_data, ← (beq_iff_eq.1 hq)]
      rfl
    rw [h0]
    clear hI h0 ez
    go_enter Try.func177, Try.ntmps177
    go_wp2_with fail
    go_ret
    exact ⟨rfl, rfl⟩
  | false =>
    generalize idxB s 62 = z at *
    clear ez
    go_enter Try.func177, Try.ntmps177
    go_wp2_with fail
    refine (hI _).mono ?_; rintro e w1 ⟨rfl, rfl⟩
    go_wp2_with fail
    go_ret
    exact ⟨rfl, rfl⟩

theorem idx_spec (l : List UInt8) (c : UInt8) : (Lib.indexByte l c = -1 ∧ ∀ j : Nat, l[j]? ≠ some c) ∨ ∃ k : Nat, Lib.indexByte l c = k ∧ k < l.length ∧ l[k]? = some c ∧ ∀ j, j < k → l[j]? ≠ some c := by
  induction l with
  | nil => exact .inl ⟨rfl, fun j => by simp⟩
  | cons a l ih =>
    unfold Lib.indexByte
    by_cases h : (a == c) = true
    · rw [if_pos h]
      have : a = c := by simpa using h
      exact .inr ⟨0, rfl, by simp, by simp [this], fun j hj => by omega⟩
    · rw [if_neg h]
      have hne : a ≠ c := by simpa using h
      rcases ih with ⟨h1, h2⟩ | ⟨k, h1, h2, h3, h4⟩
      · left
        refine ⟨by rw [h1]; rfl, fun j => ?_⟩
        cases j with
        | zero => simpa using hne
        | succ j => simpa using h2 j
      · right
        refine ⟨k + 1, ?_, by simp; omega, by simpa using h3, fun j hj => ?_⟩
        · rw [h1]
          have : (((k : Nat) : Int) == -1) = false := by rw [beq_eq_false_iff_ne]; omega
          rw [this]
          simp
        · cases j with
          | zero => simpa using hne
          | succ j => simpa using h4 j (by omega)
theorem idxB_spec (s : ByteArray) (c : UInt8) : (idxB s c = -1 ∧ ∀ j : Nat, s.data.toList[j]? ≠ some c) ∨ ∃ k : Nat, idxB s c = k ∧ k < s.size ∧ s.data.toList[k]? = some c ∧ ∀ j, j < k → s.data.toList[j]? ≠ some c := by
  have := idx_spec s.data.toList c
  rw [← Lib.size_eq] at this
  exact this

def CutV (s : ByteArray) : Value := if 0 ≤ idxB s 62 then .tuple #[.string (s.extract 0 (idxB s 62).toNat), .string (s.extract ((idxB s 62).toNat + 1) s.size), .bool true] else .tuple #[.string s, .string ⟨#[]⟩, .bool false]

/-- The pieces of a text between the bytes 62, from an index on (fuel: what is left). -/
def pcs (s : ByteArray) : Nat → Nat → Nat → List ByteArray
  | 0, a, _ => [s.extract a s.size]
  | k + 1, a, i => if s.data.toList[i]? = some 62 then s.extract a i :: pcs s k (i + 1) (i + 1) else pcs s k a (i + 1)

theorem oneS1 (m : ByteArray) : ∀ u ∈ [Value.string m], u.oneCell' = true := by intro u hu; simp at hu; subst hu; rfl
theorem OwnS.snoc {base : Nat} {w : World} {v : Value} {xs : List ByteArray} {m : ByteArray} (h : w.ownsRow base 9 1 v (xs.length + 1) (xs.map Value.string ++ [Value.string m])) : OwnS base w v (xs ++ [m]) := by
  unfold OwnS; rw [List.length_append, List.map_append]; exact h

end Go.Proofs.Ytplmbdljhgicfab

/-! In0 -/
namespace Go.Proofs.Ytplmbdljhgicfab
open Go.RowKit

theorem l1In_yes (n lo hi : Int) (w : World) (h1 : lo ≤ n) (h2 : n ≤ hi) :
    Calls Try.prog 118 #[.int .i64 n, .int .i64 lo, .int .i64 hi] w fun e w' => e = .returned (.bool true) ∧ w = w' := by
  go_enter Try.func118, Try.ntmps118
  go_wp2_with fail
  go_ret
  exact ⟨rfl, rfl⟩
theorem l1In_no (n lo hi : Int) (w : World) (h : n < lo ∨ hi < n) :
    Calls Try.prog 118 #[.int .i64 n, .int .i64 lo, .int .i64 hi] w fun e w' => e = .returned (.bool false) ∧ w = w' := by
  by_cases h1 : n < lo
  · clear h
    go_enter Try.func118, Try.ntmps118
    go_wp2_with fail
    go_ret
    exact ⟨rfl, rfl⟩
  · have h1' : lo ≤ n := by omega
    have h2 : hi < n := by omega
    clear h h1
    go_enter Try.func118, Try.ntmps118
    go_wp2_with fail
    go_ret
    exact ⟨ret_bool (by simp; omega), rfl⟩

end Go.Proofs.Ytplmbdljhgicfab

/-! TeS -/
namespace Go.Proofs.Ytplmbdljhgicfab
open Go.RowKit

theorem comb_all (s : List Tr) : (combT s).carets = sumT s + s.length := by
  induction s with
  | nil => rfl
  | cons t s ih => rw [combT, sumT_cons, List.length_cons]; simp only [Tr.carets]; omega
theorem sumT_drop (s : List Tr) (k : Nat) : sumT (s.drop k) ≤ sumT s := by
  have := sumT_app (s.take k) (s.drop k)
  rw [List.take_append_drop] at this; omega
def strs (s : List Tr) : List ByteArray := s.map Tr.str
theorem strs_length (s : List Tr) : (strs s).length = s.length := by simp [strs]
theorem oneStrs (ys : List ByteArray) : ∀ u ∈ ys.map Value.string, u.oneCell' = true := by
  intro u hu
  obtain ⟨x, _, rfl⟩ := List.mem_map.1 hu
  rfl

set_option maxRecDepth 100000 in
set_option maxHeartbeats 2000000 in
theorem wdComb_any (v : Value) (b1 : Nat) (ts : List Tr) (w : World) (hv : CellsS b1 w v (strs ts)) (hs : sumT ts + ts.length ≤ 1000) :
    Calls Try.prog 104 #[v] w (Gives (.string (combT ts).str) w) := by
  obtain ⟨oa, cap, rfl, hcl, hcm, hcc⟩ := hv.form0
  rw [strs_length] at *
  unfold maxLen at hcm
  clear hv
  have HC := Lib.hid hcc
  have HSUM := Lib.hid hs
  have hl : ts.length ≤ 1000 := by omega
  clear hcc hs
  go_enter Try.func104, Try.ntmps104
  go_wp2_with fail
  go_loop [3, 4] (fun t i => ∃ k : Nat, i = .int .i64 ((k : Int) - 1) ∧ k ≤ ts.length ∧ t = .string (combT (ts.drop k)).str) (fun _ i => (intOf i + 1).toNat)
  case atStart => exact ⟨ts.length, rfl, Nat.le_refl _, by rw [List.drop_length]; rfl⟩
  case round =>
    obtain ⟨k, rfl, hk, rfl⟩ := hrel
    cases k with
    | zero =>
      rw [show ((0 : Nat) : Int) - 1 = -1 from rfl]
      go_wp2_with fail
      go_ret
      exact ⟨rfl, Below.refl _ _⟩
    | succ k =>
      rw [show ((k + 1 : Nat) : Int) - 1 = (k : Int) by omega]
      have hlt' : (k : Int) < (ts.length : Int) := by omega
      obtain ⟨g, rfl, _, _, c1⟩ := HC.out k (by omega)
      obtain ⟨t, ht⟩ : ∃ t, ts[k]? = some t := ⟨_, List.getElem?_eq_getElem (by omega)⟩
      rw [show (strs ts).getD k ⟨#[]⟩ = t.str by simp [strs, List.getD_eq_getElem?_getD, ht]] at c1
      have hdrop : ts.drop k = t :: ts.drop (k + 1) := by
        obtain ⟨hk', rfl⟩ := List.getElem?_eq_some_iff.1 ht
        exact List.drop_eq_getElem_cons hk'
      have hcb : (combT (ts.drop k)).carets ≤ 1000 := by
        have h1 := comb_all (ts.drop k)
        have h2 := sumT_drop ts k
        have h3 := HSUM.out
        rw [h1, List.length_drop]; omega
      rw [hdrop] at hcb
      have hO := fun w => trOf_any t (combT (ts.drop (k + 1))) w (by simp only [combT, Tr.carets] at hcb; omega)
      have HD : Hid (combT (ts.drop k) = .nd t (combT (ts.drop (k + 1)))) := by show _ = _; rw [hdrop]; rfl
      clear ht hdrop hcb
      go_wp2_with fail
      refine (hO _).mono ?_; rintro e w1 ⟨rfl, rfl⟩
      go_wp2_with fail
      go_round
      case rel => exact ⟨k, by go_num, by omega, by rw [HD.out]⟩
      case measure => first | (simp [intOf]; done) | (simp [intOf]; omega)

set_option maxRecDepth 100000 in
set_option maxHeartbeats 2000000 in
theorem wdShort_any (b1 g cap : Nat) (ts : List Tr) (w : World) (hv : CellsS b1 w (.slice (some ⟨g, 0, none⟩) ts.length cap) (strs ts)) (hl : ts.length ≤ 1000) :
    Calls Try.prog 92 #[.slice (some ⟨g, 0, none⟩) ts.length cap] w (GivesTexts (strs (stripT ts)) w) := by
  obtain ⟨i0, hi, hz0, hz1, hz2⟩ := info_parts info_str
  have HV := Lib.hid hv
  obtain ⟨oa, cap', he, hcl, hcm, hcc⟩ := hv.form0
  injection he with he1 he2 he3
  subst he1 he3
  rw [strs_length] at hcl hcc
  clear he2
  unfold maxLen at hcm
  clear hv
  have HC := Lib.hid hcc
  clear hcc
  have hown0 := ownsRow_empty w 9
  go_enter Try.func92, Try.ntmps92
  go_wp2_with fail
  go_loop [3] (fun i => ∃ k : Nat, i = .int .i64 k ∧ k ≤ ts.length ∧ Hid (stripT ts = stripT (ts.take k))) (fun i => (intOf i).toNat)
  case atStart => exact ⟨ts.length, rfl, Nat.le_refl _, by show _ = _; rw [List.take_length]⟩
  case round =>
    obtain ⟨k, rfl, hk, he⟩ := hrel
    have hsrc := (src_cells HV.out k (by rw [strs_length]; exact hk) cap).keep (nxAlloc (Below.refl w.heap.size w) (.cells #[] 9 (0, 0)))
    have hyl : (((strs ts).take k).map Value.string).length = k := by simp [strs_length]; omega
    have HS := Lib.hid hsrc
    have HY := Lib.hid hyl
    have hone := oneStrs ((strs ts).take k)
    have hb0 := nxAlloc (Below.refl w.heap.size w) (.cells #[] 9 (0, 0))
    have hkb : k ≤ cap := by omega
    clear hsrc
    cases k with
    | zero =>
      have HX : Hid (strs (stripT ts) = (strs ts).take 0) := by show _ = _; rw [he.out]; rfl
      clear he
      go_wp2_with (at_builtin; refine wpList_appSrc rfl (.tmp 18) (.tmp 21) 22 rfl w.heap.size 9 i0 (.string ⟨#[]⟩) 16 Try.underlying22 hi hz0 hz1 hz2 rfl _ 0 _ rfl hown0 _ _ rfl HS.out hone (by unfold maxLen; omega) (by omega) (by simp) ?_; intro w1v w1 w1o w1b w1n)
      obtain ⟨g9, cap9, rfl, _⟩ := row_shape w1o (fun h => by have := w1n h; cases this)
      have hz9 : (strs (stripT ts)).length = 0 + ((List.take 0 (strs ts)).map Value.string).length := by rw [HX.out]; simp
      have hfin : GivesTexts (strs (stripT ts)) w (.returned (.slice (some ⟨g9, 0, none⟩) (0 + ((List.take 0 (strs ts)).map Value.string).length) cap9)) w1 := ⟨g9, cap9, by unfold OwnS; rw [hz9, HX.out]; simpa using w1o, hb0.trans w1b, by rw [hz9]⟩
      have HF := Lib.hid hfin
      clear hfin w1o w1b w1n hz9 HX
      go_wp2_with fail
      go_ret
      exact HF.out
    | succ k =>
      obtain ⟨t, ht⟩ : ∃ t, ts[k]? = some t := ⟨_, List.getElem?_eq_getElem (by omega)⟩
      obtain ⟨g2, hg2, _, _, c1⟩ := HC.out k (by omega)
      injection hg2 with hg2
      injection hg2 with hg2
      subst hg2
      rw [show (strs ts).getD k ⟨#[]⟩ = t.str by simp [strs, List.getD_eq_getElem?_getD, ht]] at c1
      have hT := fun w => trLeaf_any t w
      have hd1 : (0 : Int) ≤ (k : Int) := by omega
      cases hl : t.isLf with
      | true =>
        have HN : Hid (stripT ts = stripT (ts.take k)) := by show _ = _; rw [he.out]; exact stripT_take ht hl
        rw [hl] at hT
        clear he ht hl
        go_wp2_with fail
        refine (hT _).mono ?_; rintro e w9 ⟨rfl, rfl⟩
        go_wp2_with fail
        go_round
        case rel => exact ⟨k, by go_num, by omega, HN⟩
        case measure => first | (simp [intOf]; done) | (simp [intOf]; omega)
      | false =>
        have HX : Hid (strs (stripT ts) = (strs ts).take (k + 1)) := by show _ = _; rw [he.out, stripT_stop ht hl]; simp [strs]
        rw [hl] at hT
        clear he ht hl
        go_wp2_with fail
        refine (hT _).mono ?_; rintro e w9 ⟨rfl, rfl⟩
        go_wp2_with (at_builtin; refine wpList_appSrc rfl (.tmp 18) (.tmp 21) 22 rfl w.heap.size 9 i0 (.string ⟨#[]⟩) 16 Try.underlying22 hi hz0 hz1 hz2 rfl _ 0 _ rfl hown0 _ _ rfl HS.out hone (by unfold maxLen; omega) (by omega) (by simp) ?_; intro w1v w1 w1o w1b w1n)
        obtain ⟨g9, cap9, rfl, _⟩ := row_shape w1o (fun h => by have := w1n h; cases this)
        have hz9 : (strs (stripT ts)).length = 0 + ((List.take (k + 1) (strs ts)).map Value.string).length := by rw [HX.out]; simp
        have hfin : GivesTexts (strs (stripT ts)) w (.returned (.slice (some ⟨g9, 0, none⟩) (0 + ((List.take (k + 1) (strs ts)).map Value.string).length) cap9)) w1 := ⟨g9, cap9, by unfold OwnS; rw [hz9, HX.out]; simpa using w1o, hb0.trans w1b, by rw [hz9]⟩
        have HF := Lib.hid hfin
        clear hfin w1o w1b w1n hz9 HX
        go_wp2_with fail
        go_ret
        exact HF.out
end Go.Proofs.Ytplmbdljhgicfab

/-! Ff1 -/
namespace Go.Proofs.Ytplmbdljhgicfab
open Go.RowKit

theorem info_bool : (Try.prog.info? 4).map (fun i => (i.zero, i.size, i.bytes)) = some (some (.bool false), 1, 1) := by kernel_rfl
/-- Slices of truths that a call has made. -/
def OwnB (base : Nat) (w : World) (v : Value) (xs : List Bool) : Prop := w.ownsRow base 4 1 v xs.length (xs.map Value.bool)
theorem OwnB.keep {base : Nat} {w w' : World} {v : Value} {xs : List Bool} (h : OwnB base w v xs) (hb : Below w.heap.size w w') : OwnB base w' v xs := ownsRow_keep h hb
theorem OwnB.nil (base : Nat) (w : World) : OwnB base w (.slice none 0 0) [] := World.ownsRow_nil _ _ _ _
def CellsB (base : Nat) (w : World) (v : Value) (xs : List Bool) : Prop :=
  ∃ oa cap, v = .slice oa xs.length cap ∧ xs.length ≤ cap ∧ cap ≤ maxLen ∧ ∀ i, i < xs.length → ∃ g, oa = some ⟨g, 0, none⟩ ∧ base ≤ g ∧ g < w.heap.size ∧ w.cell? ⟨g, i, none⟩ = some (.bool (xs.getD i false))
theorem OwnB.cells {base : Nat} {w : World} {v : Value} {xs : List Bool} (h : OwnB base w v xs) : CellsB base w v xs := by
  rcases h.2 with ⟨hv, hn⟩ | ⟨g, cap, cur, hv, hb, hr⟩
  · exact ⟨none, 0, by rw [hv, hn], by omega, by unfold maxLen; omega, fun i hi => by omega⟩
  · subst hv
    have hlt := World.ownsRow.lt h g rfl
    have hc := fun i (hi : i < xs.length) => World.ownsRow.cellAt h i (by omega)
    refine ⟨some ⟨g, 0, none⟩, cap, rfl, ?_, ?_, fun i hi => ⟨g, rfl, hlt.1, hlt.2, ?_⟩⟩
    · exact hr.2.1
    · exact hr.2.2.1
    · rw [hc i hi]; simp [List.getElem?_eq_getElem hi]
theorem oneB1 (b : Bool) : ∀ u ∈ [Value.bool b], u.oneCell' = true := by intro u hu; simp at hu; subst hu; rfl
theorem OwnB.snoc {base : Nat} {w : World} {v : Value} {xs : List Bool} {b : Bool} (h : w.ownsRow base 4 1 v (xs.length + 1) (xs.map Value.bool ++ [Value.bool b])) : OwnB base w v (xs ++ [b]) := by
  unfold OwnB; rw [List.length_append, List.map_append]; exact h

theorem implIsTree_b (s : ByteArray) (w : World) (hs : s.size ≤ 9223372036854775806) :
    Calls Try.prog 108 #[.string s] w (Gives (.bool (treeOf s).isSome) w) := by
  cases h : treeOf s with
  | none => exact (implIsTree_no s w hs h).mono fun e w' ⟨hb, he⟩ => ⟨he, hb⟩
  | some t =>
    obtain ⟨rfl, hc⟩ := treeOf_some h
    exact (implIsTree_yes t w hc).mono fun e w' ⟨hb, he⟩ => ⟨he, hb⟩

def okTs (L : List ByteArray) : List Bool := L.map fun s => (treeOf s).isSome
theorem okTs_snoc {L : List ByteArray} {k : Nat} (h : k < L.length) : okTs (L.take (k + 1)) = okTs (L.take k) ++ [(treeOf (L.getD k ⟨#[]⟩)).isSome] := by
  unfold okTs
  rw [List.take_succ_eq_append_getElem h, List.map_append]
  simp [h]
/-- A call that hands back truths of its own. -/
def GivesB (xs : List Bool) (w : World) (e : Ending) (w' : World) : Prop := ∃ v, OwnB w.heap.size w' v xs ∧ Below w.heap.size w w' ∧ e = .returned v

set_option maxRecDepth 100000 in
set_option maxHeartbeats 2000000 in
theorem listOfTree_any (v : Value) (b : Nat) (L : List ByteArray) (w : World) (h : CellsS b w v L) (hz : ∀ s ∈ L, s.size ≤ 1048576) (hn : L.length ≤ 8)
    (hcall : ∀ (args : Array Value) (w : World), (callFunc 108 args).run Try.prog w = .ok (.enter 108 args) w) :
    Calls Try.prog 107 #[v, .func (Fn.func 108) #[] #[]] w (GivesB (okTs L) w) := by
  obtain ⟨i0, hi, hz0, hz1, hz2⟩ := info_parts info_bool
  obtain ⟨oa, cap, rfl, hcl, hcm, hcc⟩ := h.form0
  unfold maxLen at hcm
  have HC := Lib.hid hcc
  have HZ := Lib.hid hz
  clear h hcc hz
  go_enter Try.func107, Try.ntmps107
  go_wp2_with fail
  go_loopw [5, 10] (fun v i wr => ∃ k : Nat, k ≤ L.length ∧ i = .int .i64 k ∧ OwnB w.heap.size wr v (okTs (L.take k)) ∧ Below w.heap.size w wr) (fun _ i _ => L.length - (intOf i).toNat)
  case atStart => exact ⟨0, Nat.zero_le _, rfl, OwnB.nil _ _, Below.refl _ _⟩
  case round =>
    obtain ⟨k, hk, rfl, hown, hbw⟩ := hrel
    by_cases hlt : k < L.length
    · have hlt' : (k : Int) < (L.length : Int) := by omega
      have hlen : (okTs (L.take k)).length = k := by simp [okTs]; omega
      obtain ⟨g, rfl, _, hgl, c0⟩ := HC.out k hlt
      have c1 := (hbw.cell (p := ⟨g, k, none⟩) hgl).trans c0
      have hsz := HZ.out (L.getD k ⟨#[]⟩) (by rw [List.getD_eq_getElem?_getD, List.getElem?_eq_getElem hlt]; exact List.getElem_mem hlt)
      have hnext := okTs_snoc hlt
      obtain ⟨xs, hxs⟩ : ∃ xs, xs = okTs (L.take k) := ⟨_, rfl⟩
      rw [← hxs] at hown hlen hnext
      have hT := fun w => implIsTree_b (L.getD k ⟨#[]⟩) w (by omega)
      generalize L.getD k ⟨#[]⟩ = s at *
      generalize (treeOf s).isSome = x at *
      have HN := Lib.hid hnext
      have hxl : xs.length ≤ 8 := by omega
      unfold OwnB at hown
      clear hnext hxs hlen hsz c0
      go_wp2_with fail
      refine (hT _).mono ?_; rintro e w3 ⟨rfl, hb3⟩
      have hown3 := ownsRow_keep hown hb3
      have hbw3 := nx hbw hb3
      clear hown hbw hb3
      go_wp2_with (at_builtin; refine wpList_append_own _ rfl _ _ 120 rfl w.heap.size 4 i0 (.bool false) 1 1 Try.underlying120 hi hz0 hz1 hz2 rfl (by decide) _ _ _ rfl (hown3.alloc _) ⟨w3.heap.size, 0, none⟩ 1 1 [.bool x] rfl rfl (new1 _ _ _) (oneB1 _) (by unfold maxLen; omega) (by omega) (size_al hbw3 _) ?_; intro v' w9 hown' hgrow hnn)
      have hbw9 := below_app hbw3 hown3 (Nat.le_refl _) hgrow
      have hown1 := OwnB.snoc hown'
      clear hown3 hown' hgrow hbw3 hnn
      go_wp2_with fail
      go_roundw
      case rel => exact ⟨k + 1, by omega, by go_num, by rw [HN.out]; exact hown1, hbw9⟩
      case measure => simp [intOf]; omega
    · obtain rfl : k = L.length := by omega
      rw [List.take_of_length_le (Nat.le_refl _)] at hown
      go_wp2_with fail
      go_ret
      exact ⟨_, hown, hbw, rfl⟩

/-- A place, or -1 where there is none. -/
def IndexB (xs : List Bool) (w : World) (e : Ending) (w' : World) : Prop := ∃ r : Int, e = .returned (.int .i64 r) ∧ -1 ≤ r ∧ r ≤ 8 ∧ Hid (decide (0 ≤ r) = xs.contains false) ∧ w = w'
theorem contains_take {xs : List Bool} {k : Nat} (h : k < xs.length) (hx : xs.getD k false = true) (hp : (xs.take k).contains false = false) : (xs.take (k + 1)).contains false = false := by
  rw [List.take_succ_eq_append_getElem h]
  rw [List.getD_eq_getElem?_getD, List.getElem?_eq_getElem h, Option.getD_some] at hx
  rw [hx]
  simpa using hp

set_option maxRecDepth 100000 in
set_option maxHeartbeats 2000000 in
theorem indexB_any (v : Value) (b : Nat) (xs : List Bool) (w : World) (h : CellsB b w v xs) (hn : xs.length ≤ 8) :
    Calls Try.prog 139 #[v, .bool false] w (IndexB xs w) := by
  obtain ⟨oa, cap, rfl, hcl, hcm, hcc⟩ := h
  unfold maxLen at hcm
  have HC := Lib.hid hcc
  clear hcc
  go_enter Try.func139, Try.ntmps139
  go_wp2_with fail
  go_loopw [8] (fun i wr => ∃ j : Nat, j ≤ xs.length ∧ i = .int .i64 j ∧ Hid ((xs.take j).contains false = false) ∧ wr = w) (fun i _ => xs.length - (intOf i).toNat)
  case atStart => exact ⟨0, by omega, rfl, by show (List.take 0 xs).contains false = false; simp, rfl⟩
  case round =>
    obtain ⟨j, hj, rfl, hp, rfl⟩ := hrel
    by_cases hlt : j < xs.length
    · have hlt' : (j : Int) < (xs.length : Int) := by omega
      obtain ⟨g, rfl, _, hgl, c1⟩ := HC.out j hlt
      cases hx : xs.getD j false with
      | true =>
        have HN : Hid ((xs.take (j + 1)).contains false = false) := contains_take hlt hx hp.out
        rw [hx] at c1
        clear hx hp
        go_wp2_with fail
        go_roundw
        case rel => exact ⟨j + 1, by omega, by go_num, HN, trivial⟩
        case measure => simp [intOf]; omega
      | false =>
        have HE : Hid (decide (0 ≤ (j : Int)) = xs.contains false) := by
          have hm : false ∈ xs := by
            rw [List.getD_eq_getElem?_getD, List.getElem?_eq_getElem hlt, Option.getD_some] at hx
            rw [← hx]; exact List.getElem_mem hlt
          show decide (0 ≤ (j : Int)) = xs.contains false
          rw [decide_eq_true (by omega)]
          simpa using hm
        rw [hx] at c1
        clear hx hp
        go_wp2_with fail
        go_ret
        exact ⟨_, rfl, by omega, by omega, HE, rfl⟩
    · obtain rfl : j = xs.length := by omega
      have HE : Hid (decide (0 ≤ (-1 : Int)) = xs.contains false) := by
        have h1 := hp.out
        rw [List.take_of_length_le (Nat.le_refl _)] at h1
        show decide (0 ≤ (-1 : Int)) = xs.contains false
        rw [h1]; decide
      clear hp
      go_wp2_with fail
      go_ret
      exact ⟨_, rfl, by omega, by omega, HE, rfl⟩

set_option maxRecDepth 100000 in
theorem containsB_any (v : Value) (b : Nat) (xs : List Bool) (w : World) (h : CellsB b w v xs) (hn : xs.length ≤ 8) :
    Calls Try.prog 106 #[v, .bool false] w fun e w' => e = .returned (.bool (xs.contains false)) ∧ w = w' := by
  have hi := indexB_any v b xs w h hn
  obtain ⟨oa, cap, rfl, _⟩ := h
  go_enter Try.func106, Try.ntmps106
  go_wp2_with fail
  refine hi.mono ?_; rintro e w1 ⟨r, rfl, h1, h2, hr, rfl⟩
  clear hi
  go_wp2_with fail
  go_ret
  exact ⟨ret_bool hr.out, rfl⟩

set_option maxRecDepth 100000 in
set_option maxHeartbeats 2000000 in
theorem caretsIn_any (v : Value) (b : Nat) (us : List Tr) (w : World) (h : CellsS b w v (strs us)) (hs : sumT us ≤ 1000) (_hn : us.length ≤ 1000) :
    Calls Try.prog 109 #[v] w (Gives (.int .i64 (sumT us)) w) := by
  obtain ⟨oa, cap, rfl, hcl, hcm, hcc⟩ := h.form0
  unfold maxLen at hcm
  rw [strs_length] at *
  have HC := Lib.hid hcc
  have HS := Lib.hid hs
  clear h hcc hs
  go_enter Try.func109, Try.ntmps109
  go_wp2_with fail
  go_loopw [3, 8] (fun c i wr => ∃ k n : Nat, k ≤ us.length ∧ i = .int .i64 k ∧ c = .int .i64 n ∧ Hid (n = sumT (us.take k)) ∧ n ≤ 1000 ∧ Below w.heap.size w wr) (fun _ i _ => us.length - (intOf i).toNat)
  case atStart => exact ⟨0, 0, Nat.zero_le _, rfl, rfl, rfl, by omega, Below.refl _ _⟩
  case round =>
    obtain ⟨k, n, hk, rfl, rfl, he, hnn, hbw⟩ := hrel
    by_cases hlt : k < us.length
    · have hlt' : (k : Int) < (us.length : Int) := by omega
      obtain ⟨g, rfl, _, hgl, c0⟩ := HC.out k hlt
      have c1 := (hbw.cell (p := ⟨g, k, none⟩) hgl).trans c0
      have hstep : sumT (us.take (k + 1)) = sumT (us.take k) + (us.getD k .lf).carets := by
        rw [List.take_succ_eq_append_getElem hlt, sumT_app]
        simp [sumT, hlt]
      have hle : sumT (us.take (k + 1)) ≤ sumT us := by
        have := sumT_app (us.take (k + 1)) (us.drop (k + 1))
        rw [List.take_append_drop] at this; omega
      rw [show (strs us).getD k ⟨#[]⟩ = (us.getD k .lf).str from map_getD us k hlt] at c1
      generalize us.getD k .lf = t at *
      have hsum := HS.out
      have hnew : n + t.carets = sumT (us.take (k + 1)) := by have := he.out; omega
      have HN := Lib.hid hnew
      have hct : t.carets ≤ 1000 := by omega
      have hnt : n + t.carets ≤ 1000 := by omega
      have hC := fun w => countCarets_any t w hct
      clear hstep hle hsum hnew he c0
      go_wp2_with fail
      refine (hC _).mono ?_; rintro e w3 ⟨rfl, hb3⟩
      go_wp2_with fail
      go_roundw
      case rel => exact ⟨k + 1, n + t.carets, by omega, by go_num, by go_num, HN, by omega, nx hbw hb3⟩
      case measure => simp [intOf]; omega
    · obtain rfl : k = us.length := by omega
      have h1 := he.out
      rw [List.take_of_length_le (Nat.le_refl _)] at h1
      have HE := Lib.hid h1
      clear he h1
      go_wp2_with fail
      go_ret
      exact ⟨by rw [HE.out]; rfl, hbw⟩
end Go.Proofs.Ytplmbdljhgicfab

/-! Ff3 -/
namespace Go.Proofs.Ytplmbdljhgicfab
open Go.RowKit

theorem okTs_contains {L : List ByteArray} : (okTs L).contains false = (treesOf L).isNone := by
  induction L with
  | nil => rfl
  | cons s L ih =>
    show ((treeOf s).isSome :: okTs L).contains false = _
    rw [List.contains_cons, ih, treesOf]
    cases treeOf s with
    | none => rfl
    | some t => cases treesOf L <;> rfl

set_option maxRecDepth 100000 in
set_option maxHeartbeats 400000 in
theorem implIsForest_b (v : Value) (b : Nat) (L : List ByteArray) (w : World) (h : CellsS b w v L) (hz : ∀ s ∈ L, s.size ≤ 1048576) (_hn : L.length ≤ 1048576) :
    Calls Try.prog 56 #[v] w (Gives (.bool (forOf L).isSome) w) := by
  have hcall : ∀ (args : Array Value) (w : World), (callFunc 108 args).run Try.prog w = .ok (.enter 108 args) w := by intro args w; rfl
  have HH := Lib.hid h
  obtain ⟨oa, cap, rfl, hcl, hcm, hcc⟩ := h.form0
  unfold maxLen at hcm
  have HC := Lib.hid hcc
  clear h hcc
  by_cases h8 : (8 : Int) < L.length
  · rw [forOf_long (L := L) (by omega)]
    show Calls _ _ _ _ (Gives (.bool false) w)
    clear hz
    go_enter Try.func56, Try.ntmps56
    go_wp2_with fail
    go_ret
    exact ⟨rfl, Below.refl _ _⟩
  · have hl8 : L.length ≤ 8 := by omega
    have hL := fun w h => listOfTree_any (.slice oa L.length cap) b L w h hz hl8 hcall
    have hlen : (okTs L).length ≤ 8 := by simp [okTs]; omega
    have hcon := okTs_contains (L := L)
    cases ht : treesOf L with
    | none =>
      rw [show forOf L = none by unfold forOf; rw [ht]; rfl]
      rw [ht] at hcon
      show Calls _ _ _ _ (Gives (.bool false) w)
      generalize okTs L = xs at hL hlen hcon
      have HX := Lib.hid hcon
      clear hcon ht hz hcall
      go_enter Try.func56, Try.ntmps56
      go_wp2_with fail
      refine (hL _ HH.out).mono ?_; rintro e w1 ⟨v1, own1, hb1, rfl⟩
      go_wp2_with fail
      refine (containsB_any v1 _ xs _ own1.cells hlen).mono ?_; rintro e w2 ⟨rfl, rfl⟩
      rw [HX.out]
      go_wp2_with fail
      go_ret
      exact ⟨rfl, hb1⟩
    | some us =>
      have hus := (treesOf_some L us ht).1
      have hul := treesOf_length ht
      have hcar : ∀ u ∈ us, u.carets ≤ 8 := (treesOf_some L us ht).2
      have hsum : sumT us ≤ 8 * us.length := by
        clear hus hul ht
        induction us with
        | nil => simp [sumT]
        | cons u us ih =>
          have h1 := hcar u (by simp)
          have h2 := ih (fun x hx => hcar x (by simp [hx]))
          rw [sumT_cons, List.length_cons]; omega
      rw [ht] at hcon
      have hC := fun w h => caretsIn_any (.slice oa L.length cap) b us w h (by omega) (by omega)
      have hcs : ∀ w, CellsS b w (.slice oa L.length cap) L → CellsS b w (.slice oa L.length cap) (strs us) := fun w h => by rw [show strs us = L from hus.symm]; exact h
      have hres : L.length = 0 ∨ ((L.getD (L.length - 1) ⟨#[]⟩).toList == [46]) = false → (forOf L).isSome = decide (sumT us ≤ 8) := fun k => forOf_of ht hl8 k
      have hdot : 0 < L.length → ((L.getD (L.length - 1) ⟨#[]⟩).toList == [46]) = true → forOf L = none := fun a b => forOf_dot a b
      have hsb : sumT us ≤ 1000 := by omega
      have HR := Lib.hid hres
      have HD := Lib.hid hdot
      have HSC := Lib.hid hcs
      generalize okTs L = xs at hL hlen hcon
      generalize sumT us = n at *
      have HX := Lib.hid hcon
      clear hcon ht hz hcall hus hul hcar hsum hres hdot hcs
      by_cases hn8 : (n : Int) ≤ 8
      rotate_left
      · have HF : Hid ((forOf L).isSome = false) := by
          show (forOf L).isSome = false
          by_cases h0 : L.length = 0
          · rw [HR.out (.inl h0)]; simp; omega
          · cases hx : ((L.getD (L.length - 1) ⟨#[]⟩).toList == [46]) with
            | true => rw [HD.out (by omega) hx]; rfl
            | false => rw [HR.out (.inr hx)]; simp; omega
        clear HR HD HC
        go_enter Try.func56, Try.ntmps56
        go_wp2_with fail
        refine (hL _ HH.out).mono ?_; rintro e w1 ⟨v1, own1, hb1, rfl⟩
        go_wp2_with fail
        refine (containsB_any v1 _ xs _ own1.cells hlen).mono ?_; rintro e w2 ⟨rfl, rfl⟩
        rw [HX.out]
        go_wp2_with fail
        refine (hC _ (HSC.out _ (HH.out.keep hb1))).mono ?_; rintro e w3 ⟨rfl, hb3⟩
        go_wp2_with fail
        go_ret
        exact ⟨by rw [HF.out]; rfl, nx hb1 hb3⟩
      by_cases h0 : L.length = 0
      · have HF : Hid ((forOf L).isSome = true) := by show (forOf L).isSome = true; rw [HR.out (.inl h0)]; simp; omega
        have hd0 : ((L.length : Int) == 0) = true := by simp [h0]
        clear HR HD HC h0
        go_enter Try.func56, Try.ntmps56
        go_wp2_with fail
        refine (hL _ HH.out).mono ?_; rintro e w1 ⟨v1, own1, hb1, rfl⟩
        go_wp2_with fail
        refine (containsB_any v1 _ xs _ own1.cells hlen).mono ?_; rintro e w2 ⟨rfl, rfl⟩
        rw [HX.out]
        go_wp2_with fail
        refine (hC _ (HSC.out _ (HH.out.keep hb1))).mono ?_; rintro e w3 ⟨rfl, hb3⟩
        go_wp2_with fail
        go_ret
        exact ⟨by rw [HF.out]; rfl, nx hb1 hb3⟩
      · have hp0 : 0 < L.length := by omega
        have hd0 : ((L.length : Int) == 0) = false := by rw [beq_eq_false_iff_ne]; omega
        obtain ⟨g, rfl, _, hgl, c0⟩ := HC.out (L.length - 1) (by omega)
        have ei : (L.length : Int) - 1 = ((L.length - 1 : Nat) : Int) := by omega
        have hi9 : L.length - 1 < L.length := by omega
        have HRR := HR.out
        have HDD := HD.out
        generalize L.getD (L.length - 1) ⟨#[]⟩ = x at *
        obtain ⟨m, hm⟩ : ∃ m, m = L.length - 1 := ⟨_, rfl⟩
        rw [← hm] at c0 ei hi9
        have HM := Lib.hid hm
        clear hm HR HD HC h0
        have hd1 : (0 : Int) ≤ (m : Int) := by omega
        have hd2 : (m : Int) < (L.length : Int) := by omega
        cases hx : (x.toList == [46]) with
        | true =>
          have HF : Hid ((forOf L).isSome = false) := by show (forOf L).isSome = false; rw [HDD hp0 hx]; rfl
          clear HRR HDD
          go_enter Try.func56, Try.ntmps56
          go_wp2_with fail
          refine (hL _ HH.out).mono ?_; rintro e w1 ⟨v1, own1, hb1, rfl⟩
          go_wp2_with fail
          refine (containsB_any v1 _ xs _ own1.cells hlen).mono ?_; rintro e w2 ⟨rfl, rfl⟩
          rw [HX.out]
          go_wp2_with fail
          refine (hC _ (HSC.out _ (HH.out.keep hb1))).mono ?_; rintro e w3 ⟨rfl, hb3⟩
          have c1 := ((nx hb1 hb3).cell (p := ⟨g, m, none⟩) hgl).trans c0
          go_wp2_with fail
          go_ret
          exact ⟨by rw [HF.out]; rfl, nx hb1 hb3⟩
        | false =>
          have HF : Hid ((forOf L).isSome = true) := by show (forOf L).isSome = true; rw [HRR (.inr hx)]; simp; omega
          clear HRR HDD
          go_enter Try.func56, Try.ntmps56
          go_wp2_with fail
          refine (hL _ HH.out).mono ?_; rintro e w1 ⟨v1, own1, hb1, rfl⟩
          go_wp2_with fail
          refine (containsB_any v1 _ xs _ own1.cells hlen).mono ?_; rintro e w2 ⟨rfl, rfl⟩
          rw [HX.out]
          go_wp2_with fail
          refine (hC _ (HSC.out _ (HH.out.keep hb1))).mono ?_; rintro e w3 ⟨rfl, hb3⟩
          have c1 := ((nx hb1 hb3).cell (p := ⟨g, m, none⟩) hgl).trans c0
          go_wp2_with fail
          go_ret
          exact ⟨by rw [HF.out]; rfl, nx hb1 hb3⟩

/-- The trees of a forest, and what of a list that is none. -/
theorem forOf_none_or (L : List ByteArray) : forOf L = none ∨ ∃ us, forOf L = some us := by
  cases forOf L with
  | none => exact .inl rfl
  | some us => exact .inr ⟨us, rfl⟩

theorem trLeaf_raw (s : ByteArray) (w : World) : Calls Try.prog 87 #[.string s] w fun e w' => e = .returned (.bool (s.toList == [46])) ∧ w = w' := by
  go_enter Try.func87, Try.ntmps87
  go_wp2_with fail
  go_ret
  exact ⟨rfl, rfl⟩

set_option maxRecDepth 100000 in
set_option maxHeartbeats 2000000 in
theorem foGood_any (v : Value) (b : Nat) (L : List ByteArray) (w : World) (h : CellsS b w v L) (hz : ∀ s ∈ L, s.size ≤ 1048576) (_hn : L.length ≤ 1048576) :
    Calls Try.prog 39 #[v] w (Gives (.bool (forOf L).isSome) w) := by
  obtain ⟨oa, cap, rfl, hcl, hcm, hcc⟩ := h.form0
  unfold maxLen at hcm
  have HC := Lib.hid hcc
  have HZ := Lib.hid hz
  clear h hcc hz
  by_cases h8 : (8 : Int) < L.length
  · rw [forOf_long (L := L) (by omega)]
    show Calls _ _ _ _ (Gives (.bool false) w)
    go_enter Try.func39, Try.ntmps39
    go_wp2_with fail
    go_ret
    exact ⟨rfl, Below.refl _ _⟩
  · by_cases h0 : L.length = 0
    · obtain rfl := List.length_eq_zero_iff.1 h0
      rw [show (forOf []).isSome = true from rfl]
      clear HC HZ h0
      go_enter Try.func39, Try.ntmps39
      go_wp2_with fail
      go_loopw [3, 25] (fun c i wr => c = .int .i64 0 ∧ i = .int .i64 0 ∧ wr = w) (fun _ _ _ => 0)
      case atStart => exact ⟨rfl, rfl, rfl⟩
      case round =>
        obtain ⟨rfl, rfl, rfl⟩ := hrel
        go_wp2_with fail
        go_ret
        exact ⟨rfl, Below.refl _ _⟩
    · obtain ⟨g, rfl, _, hgl, c0⟩ := HC.out (L.length - 1) (by omega)
      have hp0 : (0 : Int) < (L.length : Int) := by omega
      have ei : (L.length : Int) - 1 = ((L.length - 1 : Nat) : Int) := by omega
      have hi9 : L.length - 1 < L.length := by omega
      have HDOT : ((L.getD (L.length - 1) ⟨#[]⟩).toList == [46]) = true → forOf L = none := fun hh => forOf_dot (by omega) hh
      have HOK : ∀ us, treesOf L = some us → ((L.getD (L.length - 1) ⟨#[]⟩).toList == [46]) = false → (forOf L).isSome = decide (sumT us ≤ 8) := fun us h1 h2 => forOf_of h1 (by omega) (.inr h2)
      have hT := fun w => trLeaf_raw (L.getD (L.length - 1) ⟨#[]⟩) w
      generalize L.getD (L.length - 1) ⟨#[]⟩ = x at *
      obtain ⟨m, hm⟩ : ∃ m, m = L.length - 1 := ⟨_, rfl⟩
      rw [← hm] at c0 ei hi9
      have hd1 : (0 : Int) ≤ (m : Int) := by omega
      have hd2 : (m : Int) < (L.length : Int) := by omega
      clear hm h0
      cases hx : (x.toList == [46]) with
      | true =>
        have HF : Hid (forOf L = none) := HDOT hx
        rw [hx] at hT
        clear HDOT HOK HC hx
        go_enter Try.func39, Try.ntmps39
        go_wp2_with fail
        refine (hT _).mono ?_; rintro e w1 ⟨rfl, rfl⟩
        go_wp2_with fail
        go_ret
        exact ⟨by rw [HF.out]; rfl, Below.refl _ _⟩
      | false =>
        rw [hx] at hT HOK
        have HK := Lib.hid HOK
        clear HDOT HOK hx
        go_enter Try.func39, Try.ntmps39
        go_wp2_with fail
        refine (hT _).mono ?_; rintro e w1 ⟨rfl, rfl⟩
        clear c0 hT
        go_wp2_with fail
        go_loopw [3, 25] (fun c i wr => ∃ (k n : Nat) (us : List Tr), k ≤ L.length ∧ i = .int .i64 k ∧ c = .int .i64 n ∧ Hid (treesOf (L.take k) = some us ∧ n = sumT us) ∧ n ≤ 8 * k ∧ wr = w) (fun _ i _ => L.length - (intOf i).toNat)
        case atStart => exact ⟨0, 0, [], Nat.zero_le _, rfl, rfl, ⟨rfl, rfl⟩, by omega, rfl⟩
        case round =>
          obtain ⟨k, n, us, hk, rfl, rfl, he, hnn, rfl⟩ := hrel
          by_cases hlt : k < L.length
          · have hlt' : (k : Int) < (L.length : Int) := by omega
            obtain ⟨g', eg, _, _, c1⟩ := HC.out k hlt
            obtain rfl : g = g' := by simpa using eg
            clear eg
            have hmem : L.getD k ⟨#[]⟩ ∈ L := by rw [List.getD_eq_getElem?_getD, List.getElem?_eq_getElem hlt]; exact List.getElem_mem hlt
            have hsz := HZ.out _ hmem
            have htk : L.take (k + 1) = L.take k ++ [L.getD k ⟨#[]⟩] := by rw [List.take_succ_eq_append_getElem hlt]; simp [hlt]
            have hbad : treeOf (L.getD k ⟨#[]⟩) = none → forOf L = none := fun hh => forOf_bad hmem hh
            generalize L.getD k ⟨#[]⟩ = s at *
            have hTR := fun w => trIs_any s w (by omega)
            rw [isTreeB_eq] at hTR
            cases ht : treeOf s with
            | none =>
              have HF : Hid (forOf L = none) := hbad ht
              rw [ht] at hTR
              have hTR' : ∀ w, Calls Try.prog 88 #[.string s] w fun e w' => e = .returned (.bool false) ∧ w = w' := hTR
              clear hTR hbad ht htk hmem he
              go_wp2_with fail
              refine (hTR' _).mono ?_; rintro e w2 ⟨rfl, rfl⟩
              go_wp2_with fail
              go_ret
              exact ⟨by rw [HF.out]; rfl, Below.refl _ _⟩
            | some t =>
              obtain ⟨rfl, hct⟩ := treeOf_some ht
              rw [ht] at hTR
              have hTR' : ∀ w, Calls Try.prog 88 #[.string t.str] w fun e w' => e = .returned (.bool true) ∧ w = w' := hTR
              have hnext := treesOf_snoc _ _ _ _ he.out.1 ht
              rw [← htk] at hnext
              have hsum : n + t.carets = sumT (us ++ [t]) := by rw [sumT_app, ← he.out.2]; simp [sumT]
              have HN : Hid (treesOf (L.take (k + 1)) = some (us ++ [t]) ∧ n + t.carets = sumT (us ++ [t])) := ⟨hnext, hsum⟩
              have hCT := fun w => carets_str t w (by omega)
              clear hTR hbad ht htk hmem he hnext hsum hsz
              go_wp2_with fail
              refine (hTR' _).mono ?_; rintro e w2 ⟨rfl, rfl⟩
              go_wp2_with fail
              refine (hCT _).mono ?_; rintro e w2 ⟨rfl, rfl⟩
              go_wp2_with fail
              go_roundw
              case rel => exact ⟨k + 1, n + t.carets, _, by omega, by go_num, by go_num, HN, by omega, trivial⟩
              case measure => simp [intOf]; omega
          · obtain rfl : k = L.length := by omega
            have h1 := he.out
            rw [List.take_of_length_le (Nat.le_refl _)] at h1
            have h2 := HK.out us h1.1 trivial
            rw [← h1.2] at h2
            have HF := Lib.hid h2
            clear h1 h2 he
            go_wp2_with fail
            go_ret
            exact ⟨ret_bool (by rw [HF.out]; exact decide_eq_decide.2 (by omega)), Below.refl _ _⟩
end Go.Proofs.Ytplmbdljhgicfab

/-! FfQ -/
namespace Go.Proofs.Ytplmbdljhgicfab

/-- The right comb. -/
def combR : Nat → Tr
  | 0 => .lf
  | n + 1 => .nd .lf (combR n)
theorem combR_carets (n : Nat) : (combR n).carets = n := by induction n with | zero => rfl | succ n ih => simp [combR, Tr.carets, ih]
theorem combR_exps (n : Nat) : ∀ m x : Int, x ∈ (combR n).exps m → x + 2 = m + (combR n).leaves := by
  induction n with
  | zero => intro m x h; simp [combR, Tr.exps] at h
  | succ n ih =>
    intro m x h
    rw [combR, Tr.exps] at h
    rw [combR, leaves_nd]
    simp only [List.mem_append] at h
    have hl : (Tr.lf).leaves = 1 := rfl
    rcases h with h | h | h
    · cases n with
      | zero => simp [combR, Tr.isLf] at h; subst h; simp [combR, Tr.leaves, Tr.carets]
      | succ n => simp [combR, Tr.isLf] at h
    · simp [Tr.exps] at h
    · have := ih _ _ h
      rw [hl] at this ⊢
      push_cast at this ⊢
      omega
theorem combT_exps (us : List Tr) : lastB us = true → ∀ m x : Int, x ∈ (combT us).exps m → x + 2 < m + (combT us).leaves := by
  induction us with
  | nil => intro _ m x h; simp [combT, Tr.exps] at h
  | cons u us ih =>
    intro h m x hx
    rw [combT, Tr.exps] at hx
    rw [combT, leaves_nd]
    simp only [List.mem_append] at hx
    by_cases hu : us = []
    · subst hu
      rw [lastB_one] at h
      have hlf : u.isLf = false := by simpa using h
      have hl : (combT []).leaves = 1 := rfl
      rcases hx with hx | hx | hx
      · simp [hlf] at hx
      · have := exps_range u _ _ hx; rw [hl]; omega
      · simp [combT, Tr.exps] at hx
    · rw [lastB_cons u hu] at h
      have h2 : 2 ≤ (combT us).leaves := by
        cases us with
        | nil => exact absurd rfl hu
        | cons v vs => rw [combT, leaves_nd]; have := leaves_pos v; have := leaves_pos (combT vs); omega
      have hnl : (combT us).isLf = false := by
        cases us with
        | nil => exact absurd rfl hu
        | cons v vs => rfl
      rcases hx with hx | hx | hx
      · simp [hnl] at hx
      · have := exps_range u _ _ hx; omega
      · have := ih h _ _ hx
        push_cast
        omega
/-- The pair of a forest. -/
def pairF (us : List Tr) : Pr := (combT us, combR (combT us).carets)
theorem pairF_ok (us : List Tr) : okP (pairF us) := by unfold okP pairF; rw [combR_carets]
theorem pairF_both (us : List Tr) (h : lastB us = true) : both (pairF us) = [] := by
  rw [List.eq_nil_iff_forall_not_mem]
  intro x hx
  obtain ⟨h1, h2⟩ := mem_both.1 hx
  have h3 := combT_exps us h _ _ h1
  have h4 := combR_exps _ _ _ h2
  unfold pairF at h2 h3
  have h5 : (combR (combT us).carets).leaves = (combT us).leaves := by unfold Tr.leaves; rw [combR_carets]
  omega
theorem pairF_red (us : List Tr) (h : lastB us = true) : red (pairF us) = pairF us := (red_self _).2 (pairF_both us h)
theorem combT_carets (us : List Tr) : (combT us).carets = sumT us + us.length := by
  induction us with
  | nil => rfl
  | cons u us ih => rw [combT, Tr.carets, ih, sumT_cons, List.length_cons]; omega

/-- The leaves of a forest's trees. -/
def leavesL (us : List Tr) : Nat := sumT us + us.length
theorem fillR_rest (t : Tr) : ∀ us : List Tr, (t.fillR us).2 = us.drop t.leaves := by
  induction t with
  | lf => intro us; cases us <;> rfl
  | nd l r ihl ihr => intro us; rw [Tr.fillR, leaves_nd]; show (r.fillR (l.fillR us).2).2 = _; rw [ihr, ihl, List.drop_drop]
theorem fillR_app (t : Tr) : ∀ (A B : List Tr), t.leaves ≤ A.length → (t.fillR (A ++ B)).1 = (t.fillR A).1 := by
  induction t with
  | lf => intro A B h; cases A with | nil => simp [Tr.leaves] at h | cons a A => rfl
  | nd l r ihl ihr =>
    intro A B h
    rw [leaves_nd] at h
    rw [Tr.fillR, Tr.fillR]
    show Tr.nd _ _ = Tr.nd _ _
    rw [ihl A B (by omega), fillR_rest, fillR_rest, List.drop_append_of_le_length (by omega), ihr _ B (by rw [List.length_drop]; omega)]
theorem fillR_lfs (t : Tr) : ∀ m : Nat, (t.fillR (List.replicate m .lf)).1 = t := by
  induction t with
  | lf => intro m; cases m <;> rfl
  | nd l r ihl ihr =>
    intro m
    rw [Tr.fillR]
    show Tr.nd _ _ = _
    rw [ihl, fillR_rest, List.drop_replicate, ihr]
theorem fillR_pad (t : Tr) : ∀ (us : List Tr) (m : Nat), (t.fillR (us ++ List.replicate m .lf)).1 = (t.fillR us).1 := by
  induction t with
  | lf => intro us m; cases us with | nil => cases m <;> rfl | cons u us => rfl
  | nd l r ihl ihr =>
    intro us m
    rw [Tr.fillR, Tr.fillR]
    show Tr.nd _ _ = Tr.nd _ _
    rw [ihl, fillR_rest, fillR_rest, List.drop_append, List.drop_replicate, ihr]
/-- The trees of a list with others in place of their leaves, in order. -/
def fillLs : List Tr → List Tr → List Tr
  | [], _ => []
  | u :: us, vs => (u.fillR vs).1 :: fillLs us (vs.drop u.leaves)
theorem fillLs_length (us : List Tr) : ∀ vs : List Tr, (fillLs us vs).length = us.length := by
  induction us with
  | nil => intro vs; rfl
  | cons u us ih => intro vs; simp [fillLs, ih]
theorem leavesL_cons (u : Tr) (us : List Tr) : leavesL (u :: us) = u.leaves + leavesL us := by
  unfold leavesL Tr.leaves; rw [sumT_cons, List.length_cons]; omega
theorem fillLs_app (us : List Tr) : ∀ (A B : List Tr), leavesL us ≤ A.length → fillLs us (A ++ B) = fillLs us A := by
  induction us with
  | nil => intro A B _; rfl
  | cons u us ih =>
    intro A B h
    rw [leavesL_cons] at h
    rw [fillLs, fillLs, fillR_app u A B (by omega), List.drop_append_of_le_length (by omega), ih _ B (by rw [List.length_drop]; omega)]
theorem fillLs_pad (us : List Tr) : ∀ (vs : List Tr) (m : Nat), fillLs us (vs ++ List.replicate m .lf) = fillLs us vs := by
  induction us with
  | nil => intro vs m; rfl
  | cons u us ih => intro vs m; rw [fillLs, fillLs, fillR_pad, List.drop_append, List.drop_replicate, ih]
theorem fillLs_take (us vs : List Tr) : fillLs us (vs.take (leavesL us)) = fillLs us vs := by
  by_cases h : leavesL us ≤ vs.length
  · have h1 := fillLs_app us (vs.take (leavesL us)) (vs.drop (leavesL us)) (by rw [List.length_take]; omega)
    rw [List.take_append_drop] at h1
    exact h1.symm
  · rw [List.take_of_length_le (by omega)]
/-- f with g stacked. -/
def stackF (us vs : List Tr) : List Tr := stripT (fillLs us vs ++ vs.drop (leavesL us))
/-- The tree with trees at the left sides of its right side, and another one at the end. -/
def combE (us : List Tr) (e : Tr) : Tr := us.foldr Tr.nd e
theorem combE_lf (us : List Tr) : combE us .lf = combT us := by
  induction us with
  | nil => rfl
  | cons u us ih => show Tr.nd u (combE us .lf) = _; rw [ih]; rfl
theorem sides_combE (us : List Tr) (e : Tr) : sidesT (combE us e) = us ++ sidesT e := by
  induction us with
  | nil => rfl
  | cons u us ih => show u :: sidesT (combE us e) = _; rw [ih]; rfl
theorem fillR_comb (us : List Tr) : ∀ vs : List Tr, ((combT us).fillR vs).1 = combE (fillLs us vs) ((vs.drop (leavesL us)).headD .lf) := by
  induction us with
  | nil => intro vs; cases vs <;> rfl
  | cons u us ih =>
    intro vs
    rw [combT, Tr.fillR, leavesL_cons]
    show Tr.nd _ _ = Tr.nd (u.fillR vs).1 _
    rw [ih, fillR_rest, List.drop_drop]
    rfl
/-- What hangs in the tree of f with the trees of g in place of its leaves. -/
theorem stack_hang (us vs : List Tr) (c : Nat) (hc : c = min (leavesL us) vs.length) :
    hangT ((combT us).fill (vs.take c ++ (List.replicate (leavesL us - c) .lf ++ [combT (vs.drop c)]))) = stackF us vs := by
  have hlen : (vs.take c ++ List.replicate (leavesL us - c) Tr.lf).length = leavesL us := by simp; omega
  unfold hangT stackF Tr.fill
  rw [← List.append_assoc, fillR_comb, fillLs_app us _ _ (by omega), fillLs_pad, List.drop_append_of_le_length (by omega), List.drop_of_length_le (by omega)]
  show stripT (sidesT (combE _ (combT (vs.drop c)))) = _
  rw [sides_combE, sides_comb]
  by_cases h : leavesL us ≤ vs.length
  · obtain rfl : c = leavesL us := by omega
    rw [fillLs_take]
  · obtain rfl : c = vs.length := by omega
    rw [List.take_of_length_le (by omega), List.drop_of_length_le (by omega), List.drop_of_length_le (by omega)]

/-- What the trees of h have at the leaves of those of f. -/
def quoF : List Tr → List Tr → List Tr
  | [], vs => vs
  | u :: us, [] => u.subs .lf ++ quoF us []
  | u :: us, v :: vs => u.subs v ++ quoF us vs
theorem subs_comb (us : List Tr) : ∀ vs : List Tr, lastB us = true → partF us vs = true → ∃ A E, (combT us).subs (combT vs) = A ++ [E] ∧ A ++ sidesT E = quoF us vs := by
  induction us with
  | nil => intro vs _ _; exact ⟨[], combT vs, by cases vs <;> rfl, by rw [sides_comb]; rfl⟩
  | cons u us ih =>
    intro vs h k
    cases vs with
    | nil => rw [partF_nil _ h (by simp)] at k; cases k
    | cons v vs =>
      rw [partF, Bool.and_eq_true] at k
      have hl : lastB us = true := by
        by_cases hu : us = []
        · subst hu; rfl
        · rwa [lastB_cons u hu] at h
      obtain ⟨A, E, h1, h2⟩ := ih vs hl k.2
      refine ⟨u.subs v ++ A, E, ?_, ?_⟩
      · show u.subs v ++ (combT us).subs (combT vs) = _
        rw [h1, List.append_assoc]
      · rw [List.append_assoc, h2]; rfl
end Go.Proofs.Ytplmbdljhgicfab

/-! Ff4 -/
namespace Go.Proofs.Ytplmbdljhgicfab
open Go.RowKit

def natO (o : Option (List Tr)) (f : List Tr → Nat) : Value := .tuple #[.int .i64 (match o with | some us => (f us : Int) | none => 0), .bool o.isSome]
theorem forOf_strs {L : List ByteArray} {us : List Tr} (h : forOf L = some us) : L = strs us ∧ us.length ≤ 8 ∧ sumT us ≤ 8 ∧ lastB us = true := forOf_some h

set_option maxRecDepth 100000 in
theorem leavesIn_any (v : Value) (b : Nat) (us : List Tr) (w : World) (h : CellsS b w v (strs us)) (hs : sumT us ≤ 1000) (hn : us.length ≤ 1000) :
    Calls Try.prog 119 #[v] w (Gives (.int .i64 (leavesL us)) w) := by
  have hC := fun w h => caretsIn_any v b us w h hs hn
  have HH := Lib.hid h
  obtain ⟨oa, cap, rfl, hcl, hcm, _⟩ := h.form0
  unfold maxLen at hcm
  rw [strs_length] at *
  clear h
  have hN : ∀ n : Nat, Hid (n = sumT us) → Hid ((n : Int) + us.length = (leavesL us : Nat)) := fun n h => by have := h.out; show (n : Int) + us.length = (leavesL us : Nat); unfold leavesL; omega
  have HN := hN _ (Lib.hid rfl)
  clear hN
  generalize leavesL us = m at *
  generalize sumT us = n at *
  go_enter Try.func119, Try.ntmps119
  go_wp2_with fail
  refine (hC _ HH.out).mono ?_; rintro e w1 ⟨rfl, hb1⟩
  go_wp2_with fail
  go_ret
  exact ⟨ret_int HN.out, hb1⟩

theorem implIsForest_any (v : Value) (b : Nat) (L : List ByteArray) (w : World) (h : CellsS b w v L) (hz : ∀ s ∈ L, s.size ≤ 1048576) (hn : L.length ≤ 1048576) :
    Calls Try.prog 56 #[v] w (Gives (.bool (forOf L).isSome) w) := implIsForest_b v b L w h hz hn
end Go.Proofs.Ytplmbdljhgicfab

/-! BackS -/
namespace Go.Proofs.Ytplmbdljhgicfab
open Go.RowKit Go.Shelf

attribute [local go_sem] Oper.semAt_some

/-- An index with the short text that stands there. -/
abbrev IxS := { p : Nat × ByteArray // p.2.size ≤ 1000 }
theorem getD_short {L : List ByteArray} (h : ∀ x ∈ L, x.size ≤ 1000) (k : Nat) : (L[k]?.getD ⟨#[]⟩).size ≤ 1000 := by
  by_cases hk : k < L.length
  · rw [List.getElem?_eq_getElem hk]; exact h _ (List.getElem_mem _)
  · rw [List.getElem?_eq_none (by omega)]; exact Nat.zero_le _
/-- What comes in the round number k. -/
def bkAtS (L : List ByteArray) (h : ∀ x ∈ L, x.size ≤ 1000) (k : Nat) : IxS := ⟨(L.length - 1 - k, L[L.length - 1 - k]?.getD ⟨#[]⟩), getD_short h _⟩
def bkToS (L : List ByteArray) (h : ∀ x ∈ L, x.size ≤ 1000) (k : Nat) : List IxS := (List.range k).map (bkAtS L h)
theorem bkToS_succ (L : List ByteArray) (h : ∀ x ∈ L, x.size ≤ 1000) (k : Nat) : bkToS L h (k + 1) = bkToS L h k ++ [bkAtS L h k] := by simp [bkToS, List.range_succ]
theorem bkToS_length (L : List ByteArray) (h : ∀ x ∈ L, x.size ≤ 1000) (k : Nat) : (bkToS L h k).length = k := by simp [bkToS]

/-- What the body of the loop must keep: what lay below n₀, and the slice's own box. -/
def KpS (n₀ Bs : Nat) (W W' : World) : Prop := Below n₀ W W' ∧ ∀ v, Boxed W Bs 22 v → Boxed W' Bs 22 v
theorem KpS.refl (n₀ Bs : Nat) (W : World) : KpS n₀ Bs W W := ⟨Below.refl _ _, fun _ h => h⟩
theorem KpS.trans {n₀ Bs : Nat} {A B C : World} (h : KpS n₀ Bs A B) (k : KpS n₀ Bs B C) : KpS n₀ Bs A C := ⟨h.1.trans k.1, fun v hv => k.2 v (h.2 v hv)⟩
theorem KpS.put {n₀ Bs : Nat} {w : World} (hn : n₀ ≤ w.heap.size) (W : World) (l : Nat) (o o' : Obj) (hl : w.heap.size ≤ l) (h : W.heap[l]? = some o) (hc : o.isCells = false) (hw : o.isWalk = false) : KpS n₀ Bs W (W.putObj l o') :=
  ⟨belowK_b hn W l o o' hl h hc hw, fun v hv => hv.kept (grownBy_putObj' W l o') (fun e => by
    cases e
    rw [show W.heap[Bs]? = _ from hv] at h
    cases h; cases hc)⟩

set_option maxRecDepth 100000 in
set_option maxHeartbeats 2000000 in
/-- The closure of slices.Backward, at a slice with cells. -/
theorem back1S_in (F : Fence) (n : Nat) (hf : F.fn 136) (hro : F.round = none) (hn : 1 ≤ n) (l Bs n₀ b cap : Nat) (L : List ByteArray) (hz : ∀ x ∈ L, x.size ≤ 1000) (hL : L.length ≤ 1000) (hb : b < n₀) (J Jx : List IxS → World → Prop)
    (hY : ∀ pre x W, J pre W → pre.length < L.length → YieldAt F (n - 1) Try.prog l #[.int .i64 (x.1.1 : Int), .string x.1.2] W fun e W' =>
      (e = .returned (.bool true) ∧ J (pre ++ [x]) W' ∧ KpS n₀ Bs W W') ∨ (e = .returned (.bool false) ∧ Jx (pre ++ [x]) W'))
    (W : World) (hBs : Boxed W Bs 22 (.slice (some ⟨b, 0, none⟩) L.length cap)) (hc : ∀ j, j < L.length → W.cell? ⟨b, j, none⟩ = some (.string (L[j]?.getD ⟨#[]⟩))) (h0 : J [] W) :
    CallsIn F n Try.prog 136 #[.func (.yield l) #[] #[], .pointer (some ⟨Bs, 0, none⟩)] W fun e W' => (∃ v, e = .returned v) ∧
      ((∃ ys, ys = bkToS L hz L.length ∧ J ys W') ∨ (∃ pre, (∃ k, k ≤ L.length ∧ pre = bkToS L hz k) ∧ Jx pre W')) := by
  refine callsIn_of_wp Try.func136 rfl hf ?_ hro
  simp only [Try.ntmps136, List.size_toArray, List.length_cons, List.length_nil, Nat.reduceAdd, Nat.reduceSub, Array.replicate_succ, Array.replicate_zero, List.push_toArray, List.append_toArray, List.nil_append, List.cons_append]
  have hB0 := hBs.cell
  gi_wp2
  gi_loopw [3] (fun i wr => ∃ m : Nat, m ≤ L.length ∧ i = .int .i64 ((m : Int) - 1) ∧ J (bkToS L hz (L.length - m)) wr ∧ KpS n₀ Bs W wr)
    (fun i _ => (intOf i + 1).toNat)
  case atStart => exact ⟨L.length, Nat.le_refl _, rfl, by rw [Nat.sub_self]; exact h0, KpS.refl _ _ _⟩
  case round =>
    obtain ⟨m, hm, rfl, hJs, hnx⟩ := hrel
    have hBx := (hnx.2 _ hBs).cell
    cases m with
    | zero =>
      have e0 : ((0 : Nat) : Int) - 1 = -1 := by omega
      rw [e0]
      gi_wp2
      go_end0
      exact ⟨⟨_, rfl⟩, .inl ⟨_, rfl, hJs⟩⟩
    | succ m =>
      have e1 : ((m + 1 : Nat) : Int) - 1 = (m : Int) := by omega
      rw [e1]
      have hcx : wr.cell? ⟨b, m, none⟩ = some (.string (L[m]?.getD ⟨#[]⟩)) := (hnx.1.cell (p := ⟨b, m, none⟩) hb).trans (hc m (by omega))
      obtain ⟨fn, tmps, assign, body, hy, hR⟩ := hY _ (bkAtS L hz (L.length - (m + 1))) wr hJs (by rw [bkToS_length]; omega)
      have e2 : L.length - 1 - (L.length - (m + 1)) = m := by omega
      simp only [bkAtS, e2] at hy
      gi_wp2
      refine hR.mono ?_
      rintro e W3 (⟨rfl, hJ3, hk3⟩ | ⟨rfl, hJx3⟩)
      · gi_wp2
        go_roundw
        case rel => exact ⟨m, by omega, by go_num, by rw [show L.length - m = (L.length - (m + 1)) + 1 by omega, bkToS_succ]; exact hJ3, hnx.trans hk3⟩
        case measure => simp [intOf]
      · gi_wp2
        refine bodyPost_ret (results_none rfl _ _ _) rfl ?_
        exact ⟨⟨_, rfl⟩, .inr ⟨_, ⟨L.length - (m + 1) + 1, by omega, (bkToS_succ _ _ _).symm⟩, hJx3⟩⟩

set_option maxRecDepth 100000 in
set_option maxHeartbeats 2000000 in
/-- .. at a slice of none: no round. -/
theorem back1S_nil_in (F : Fence) (n : Nat) (hf : F.fn 136) (hro : F.round = none) (l Bs cap : Nat) (oa : Option Addr) (J : List IxS → World → Prop) (W : World) (hBs : W.cell? ⟨Bs, 0, none⟩ = some (.slice oa 0 cap)) (h0 : J [] W) :
    CallsIn F n Try.prog 136 #[.func (.yield l) #[] #[], .pointer (some ⟨Bs, 0, none⟩)] W fun e W' => (∃ v, e = .returned v) ∧ J [] W' := by
  refine callsIn_of_wp Try.func136 rfl hf ?_ hro
  simp only [Try.ntmps136, List.size_toArray, List.length_cons, List.length_nil, Nat.reduceAdd, Nat.reduceSub, Array.replicate_succ, Array.replicate_zero, List.push_toArray, List.append_toArray, List.nil_append, List.cons_append]
  gi_wp2
  gi_loopw [3] (fun i wr => i = .int .i64 (-1) ∧ J [] wr) (fun _ _ => 0)
  case atStart => exact ⟨rfl, h0⟩
  case round =>
    obtain ⟨rfl, hJs⟩ := hrel
    gi_wp2
    go_end0
    exact ⟨⟨_, rfl⟩, hJs⟩

set_option maxHeartbeats 1000000 in
/-- slices.Backward: the slice is boxed. -/
theorem backS_in (F : Fence) (n : Nat) (hf : F.fn 101) (hro : F.round = none) (a : Option Addr) (len cap : Nat) (w : World) :
    CallsIn F n Try.prog 101 #[.slice a len cap] w fun e w' => e = .returned (.func (.func 136) #[] #[.pointer (some ⟨w.heap.size, 0, none⟩)]) ∧ w' = w.alloc (.cells #[.slice a len cap] 22) := by
  refine callsIn_of_wp Try.func101 rfl hf ?_ hro
  simp only [Try.ntmps101, List.size_toArray, List.length_cons, List.length_nil, Nat.reduceAdd, Nat.reduceSub, Array.replicate_succ, Array.replicate_zero, List.push_toArray, List.append_toArray, List.nil_append, List.cons_append]
  gi_wp2
  go_ret
  exact ⟨rfl, rfl⟩

/-- What comes of slices.Backward. -/
theorem backS_stops (F : Fence) (n : Nat) (hf : F.fn 136) (hro : F.round = none) (hn : 1 ≤ n) (Bs n₀ cap : Nat) (oa : Option Addr) (L : List ByteArray) (hz : ∀ x ∈ L, x.size ≤ 1000) (hL : L.length ≤ 1000) (w : World) (hn₁ : n₀ ≤ w.heap.size)
    (hc : Boxed w Bs 22 (.slice oa L.length cap)) (hI : ∀ i, i < L.length → ∃ g, oa = some ⟨g, 0, none⟩ ∧ g < n₀ ∧ w.cell? ⟨g, i, none⟩ = some (.string (L[i]?.getD ⟨#[]⟩))) :
    SeqStopsK F n Try.prog 136 #[.pointer (some ⟨Bs, 0, none⟩)] (fun x : IxS => #[Value.int .i64 (x.1.1 : Int), Value.string x.1.2]) (KpS n₀ Bs) (fun ys => ys = bkToS L hz L.length)
      (fun pre => ∃ k, k ≤ L.length ∧ pre = bkToS L hz k) L.length w := fun l J Jx W hW _ _ hY h0 => by
  have hc' : Boxed W Bs 22 (.slice oa L.length cap) := (hW.block Bs hc.lt).trans hc
  by_cases h : L.length = 0
  · have hc2 := hc'.cell
    rw [h] at hc2
    exact (back1S_nil_in F n hf hro l Bs cap oa J W hc2 h0).mono fun e W' ⟨he, hj⟩ => ⟨he, .inl ⟨_, by rw [h]; rfl, hj⟩⟩
  · obtain ⟨g, rfl, hg, _⟩ := hI 0 (by omega)
    refine back1S_in F n hf hro hn l Bs n₀ g cap L hz hL hg J Jx hY W hc' (fun i hi => ?_) h0
    obtain ⟨g', e, hg', c⟩ := hI i hi
    cases e
    exact (hW.cell (p := ⟨g, i, none⟩) (by show g < _; omega)).trans c

end Go.Proofs.Ytplmbdljhgicfab

/-! Ff2 -/
namespace Go.Proofs.Ytplmbdljhgicfab
open Go.RowKit Go.Shelf

attribute [local go_sem] Oper.semAt_some

/-- What stands behind the rounds so far. -/
def hangS (e : ByteArray) (pre : List IxS) : ByteArray := pre.foldl (fun acc x => (⟨#[40]⟩ : ByteArray) ++ x.1.2 ++ acc ++ ⟨#[41]⟩) e
theorem hangS_snoc (e : ByteArray) (pre : List IxS) (x : IxS) : hangS e (pre ++ [x]) = (⟨#[40]⟩ : ByteArray) ++ x.1.2 ++ hangS e pre ++ ⟨#[41]⟩ := by simp [hangS]
theorem s40 : (⟨#[40]⟩ : ByteArray).size = 1 := rfl
theorem s41 : (⟨#[41]⟩ : ByteArray).size = 1 := rfl
theorem hangS_size (e : ByteArray) : ∀ n : Nat, ∀ pre : List IxS, pre.length = n → (hangS e pre).size ≤ e.size + 1002 * n := by
  intro n
  induction n with
  | zero => intro pre h; obtain rfl := List.length_eq_zero_iff.1 h; exact Nat.le_refl _
  | succ n ih =>
    intro pre h
    rcases List.eq_nil_or_concat pre with rfl | ⟨p, x, rfl⟩
    · simp at h
    · rw [List.concat_eq_append] at h ⊢
      rw [hangS_snoc, ByteArray.size_append, ByteArray.size_append, ByteArray.size_append, s40, s41]
      have h1 := ih p (by simpa using h)
      have h2 := x.2
      omega
theorem short_strs {us : List Tr} (h : sumT us ≤ 300) : ∀ x ∈ strs us, x.size ≤ 1000 := by
  intro x hx
  obtain ⟨u, hu, rfl⟩ := List.mem_map.1 hx
  have := sumT_mem hu
  rw [u.str_size]; omega
theorem hangS_back (us : List Tr) (t : Tr) (hz : ∀ x ∈ strs us, x.size ≤ 1000) : ∀ k, k ≤ us.length → hangS t.str (bkToS (strs us) hz k) = (combE (us.drop (us.length - k)) t).str := by
  intro k
  induction k with
  | zero => intro _; rw [Nat.sub_zero, List.drop_length]; rfl
  | succ k ih =>
    intro h
    rw [bkToS_succ, hangS_snoc, ih (by omega)]
    have e1 : us.length - k = us.length - (k + 1) + 1 := by omega
    have e2 : (strs us).length - 1 - k = us.length - (k + 1) := by rw [strs_length]; omega
    have hlt : us.length - (k + 1) < us.length := by omega
    rw [List.drop_eq_getElem_cons hlt, e1]
    show _ = (Tr.nd _ (combE _ t)).str
    rw [str_nd]
    show (⟨#[40]⟩ : ByteArray) ++ (strs us)[(strs us).length - 1 - k]?.getD ⟨#[]⟩ ++ _ ++ _ = _
    rw [e2]
    simp [strs, hlt]

set_option maxRecDepth 100000 in
set_option maxHeartbeats 2000000 in
theorem hungAbove_in (F : Fence) (n : Nat) (h3 : F.fn 50) (h5 : F.fn 101) (h7 : F.fn 136) (hro : F.round = none) (hn : 3 ≤ n) (oa : Option Addr) (cap : Nat) (E : ByteArray) (hE : E.size ≤ 1000000) (L : List ByteArray) (hz : ∀ x ∈ L, x.size ≤ 1000) (hL : L.length ≤ 1000) (w : World)
    (hI : ∀ i, i < L.length → ∃ g, oa = some ⟨g, 0, none⟩ ∧ g < w.heap.size ∧ w.cell? ⟨g, i, none⟩ = some (.string (L[i]?.getD ⟨#[]⟩))) :
    CallsIn F n Try.prog 50 #[.string E, .slice oa L.length cap] w fun e W' => e = .returned (.string (hangS E (bkToS L hz L.length))) ∧ Below w.heap.size w W' := by
  have h1 : 1 ≤ n := by omega
  refine callsIn_of_wp_marks Try.func50 rfl h3 ?_ hro
  simp only [Try.ntmps50, List.size_toArray, List.length_cons, List.length_nil, Nat.reduceAdd, Nat.reduceSub, Array.replicate_succ, Array.replicate_zero, List.push_toArray, List.append_toArray, List.nil_append, List.cons_append]
  gi_wp2_with (gi_at_call 101; refine (backS_in F (n - 1) h5 hro _ _ _ _).mono ?_; rintro e w' ⟨rfl, rfl⟩)
  have bO := Boxed.new w 9 (.string E)
  have bN := Boxed.new (w.alloc (.cells #[.string E] 9)) 22 (.slice oa L.length cap)
  rw [World.size_alloc] at bN
  have hB0 : Below w.heap.size w ((w.alloc (.cells #[.string E] 9)).alloc (.cells #[.slice oa L.length cap] 22)) := ((Below.refl _ w).alloc (Nat.le_refl _) _).alloc (by simp) _
  refine wpIn_rangeFunc_ownG hro h1 (gf := 136) (lb := #[.pointer (some ⟨w.heap.size + 1, 0, none⟩)]) rfl h7 (enters_of Try.func136 (by kernel_rfl) rfl)
    (backS_stops F (n - 1) h7 hro (by omega) (w.heap.size + 1) w.heap.size cap oa L hz hL _ (by simp; omega) bN (fun i hi => by
      obtain ⟨g, e, hg, c⟩ := hI i hi
      exact ⟨g, e, hg, (hB0.cell (p := ⟨g, i, none⟩) hg).trans c⟩)) KpS.trans (KpS.put (by simp; omega)) (Below.refl _ _) (fun _ => rfl)
    (fun pre W => Boxed W w.heap.size 9 (.string (hangS E pre)) ∧ Below w.heap.size w W)
    (fun _ _ _ => False)
    (OwnFrom.and (Own.from (boxed_own w.heap.size 9 (fun pre => .string (hangS E pre))) _) (ownFrom_below (Nat.le_refl _) (by simp; omega)))
    (fun _ _ _ _ _ hs _ _ => hs)
    ⟨bO.alloc _, hB0⟩
    (fun x => { tmps := #[.string E, .slice oa L.length cap, .pointer (some ⟨w.heap.size, 0, none⟩), undef, .string ⟨#[]⟩, undef, .string x.1.2, .slice oa L.length cap, .func (.func 136) #[] #[.pointer (some ⟨w.heap.size + 1, 0, none⟩)], .int .i64 (x.1.1 : Int), .string x.1.2, undef, undef, undef, undef, undef, undef], defers := [] }) ?assign ?body ?done ?stop
  case assign =>
    intro l x W K hK
    gi_wp2
    exact hK
  case body =>
    rintro l pre x W ⟨hv, hB⟩ hlt
    have hc := hv.cell
    have hf := hv.frozen
    have hx := x.2
    have hps := hangS_size E pre.length pre rfl
    have hnx := hangS_snoc E pre x
    generalize hangS E pre = T at *
    have HNX := Lib.hid hnx
    clear hnx
    have hTs : T.size ≤ 2100000 := by omega
    have a1 : ¬ (9223372036854775807 < (⟨#[40]⟩ : ByteArray).size + x.1.2.size) := by rw [s40]; omega
    have a1' : ¬ (9223372036854775807 < 1 + x.1.2.size) := by omega
    have a2' : ¬ (9223372036854775807 < 1 + x.1.2.size + T.size) := by omega
    have a3' : ¬ (9223372036854775807 < 1 + x.1.2.size + T.size + 1) := by omega
    gi_wp2
    have hb2 : Below w.heap.size W (W.setCell ⟨w.heap.size, 0, none⟩ (.string ((⟨#[40]⟩ : ByteArray) ++ x.1.2 ++ T ++ ⟨#[41]⟩))) := (Below.refl w.heap.size W).setCell (Nat.le_refl _) _
    refine ⟨(KeepsOthers.setCell W _ _).from _, ⟨hb2, fun u hu => hu.other (by omega) _⟩, ?_, hB.trans hb2⟩
    show Boxed _ w.heap.size 9 (.string (hangS E (pre ++ [x])))
    rw [HNX.out]
    exact hv.set _
  case done =>
    rintro D ys W hD rfl ⟨hv, hB⟩ hK
    have hc := hv.cell
    gi_wp2
    refine ⟨by simp, .inl ⟨_, _, rfl, run_takeDeferred hK, ?_⟩⟩
    exact ⟨_, results_tmp rfl _ _ _, rfl, hB.trans (belowK_b (w := w) (Nat.le_refl _) W D _ _ (by simp at hD; omega) hK rfl rfl)⟩
  case stop =>
    rintro D c pre W _ _ h _
    exact h.elim

theorem hungAbove_any (v : Value) (b : Nat) (us : List Tr) (t : Tr) (w : World) (hv : CellsS b w v (strs us)) (hs : sumT us ≤ 300) (ht : t.carets ≤ 1000) (hl : us.length ≤ 1000) :
    Calls Try.prog 50 #[.string t.str, v] w (Gives (.string (combE us t).str) w) := by
  obtain ⟨oa, cap, rfl, hcl, hcm, hcc⟩ := hv.form0
  have hz := short_strs hs
  have hE : t.str.size ≤ 1000000 := by rw [t.str_size]; omega
  have hb := hangS_back us t hz us.length (Nat.le_refl _)
  rw [Nat.sub_self, List.drop_zero] at hb
  refine callsIn_wide.1 ((hungAbove_in Fence.wide 3 trivial trivial trivial rfl (Nat.le_refl _) oa cap t.str hE (strs us) hz (by rw [strs_length]; exact hl) w (fun i hi => ?_)).mono ?_)
  · obtain ⟨g, e, _, hg, c⟩ := hcc i hi
    exact ⟨g, e, hg, by rw [← List.getD_eq_getElem?_getD]; exact c⟩
  · rintro e w' ⟨he, hbw⟩
    rw [strs_length, hb] at he
    exact ⟨he, hbw⟩

theorem hung_any (v : Value) (b : Nat) (us : List Tr) (w : World) (hv : CellsS b w v (strs us)) (hs : sumT us ≤ 300) (hl : us.length ≤ 1000) :
    Calls Try.prog 93 #[v] w (Gives (.string (combT us).str) w) := by
  have h := hungAbove_any v b us .lf w hv hs (by simp [Tr.carets]) hl
  rw [combE_lf] at h
  have h' : Calls Try.prog 50 #[.string ⟨#[46]⟩, v] w (Gives (.string (combT us).str) w) := h
  obtain ⟨oa, cap, rfl, _⟩ := hv.form0
  clear h hv
  go_enter Try.func93, Try.ntmps93
  go_wp2_with fail
  refine h'.mono ?_; rintro e w1 ⟨rfl, hb1⟩
  go_wp2_with fail
  go_ret
  exact ⟨rfl, hb1⟩
end Go.Proofs.Ytplmbdljhgicfab

/-! Text -/
namespace Go.Proofs.Ytplmbdljhgicfab
open Go.RowKit

theorem isLeaf_any (t : Tr) (b : Nat) (w : World) (h : NodeAt w t b) :
    Calls Try.prog 94 #[.pointer (some ⟨b, 0, none⟩)] w fun e w' => e = .returned (.bool t.isLf) ∧ w = w' := by
  cases t with
  | lf =>
    have h1 := two_left h
    have H := Lib.hid h
    clear h
    go_enter Try.func94, Try.ntmps94
    go_wp2_with fail
    go_ret
    exact ⟨rfl, rfl⟩
  | nd l r =>
    obtain ⟨bl, br, h, hl, hr⟩ := h
    have h1 := two_left h
    have H := Lib.hid h
    clear h
    go_enter Try.func94, Try.ntmps94
    go_wp2_with fail
    go_ret
    exact ⟨rfl, rfl⟩

theorem NodeAt.heap {w w' : World} (e : w'.heap = w.heap) : ∀ {t : Tr} {b : Nat}, NodeAt w t b → NodeAt w' t b := by
  intro t
  induction t with
  | lf => intro b h; unfold NodeAt at *; rw [e]; exact h
  | nd l r ihl ihr =>
    intro b h
    obtain ⟨bl, br, h, h1, h2⟩ := h
    exact ⟨bl, br, by rw [e]; exact h, ihl h1, ihr h2⟩
theorem NodeAt.drewN {w : World} (n : Nat) {t : Tr} {b : Nat} (h : NodeAt w t b) : NodeAt (w.drewN n) t b := NodeAt.heap (w := w) (w' := w.drewN n) rfl h

set_option maxHeartbeats 400000 in
theorem text_any (t : Tr) : ∀ (b : Nat) (w : World), NodeAt w t b → t.carets ≤ 1000 →
    Calls Try.prog 95 #[.pointer (some ⟨b, 0, none⟩)] w (Quietly (.string t.str) w) := by
  induction t with
  | lf =>
    intro b w h hc
    have H := Lib.hid h
    clear h
    go_enter Try.func95, Try.ntmps95
    go_wp2_with fail
    refine (isLeaf_any .lf b _ H.out).mono ?_; rintro e w1 ⟨rfl, rfl⟩
    simp only [Tr.isLf]
    go_wp2_with fail
    go_ret
    exact ⟨rfl, 0, rfl⟩
  | nd l r ihl ihr =>
    intro b w h hc
    have hc' : l.carets + r.carets + 1 ≤ 1000 := hc
    have sl := l.str_size
    have sr := r.str_size
    have H := Lib.hid h
    obtain ⟨bl, br, h, hl, hr⟩ := h
    have h1 := two_left h
    have h2 := two_right h
    clear h
    go_enter Try.func95, Try.ntmps95
    go_wp2_with fail
    refine (isLeaf_any (.nd l r) b _ H.out).mono ?_; rintro e w1 ⟨rfl, rfl⟩
    simp only [Tr.isLf]
    go_wp2_with fail
    go_quiet ((go_at_call 95; first | exact Calls.quiet_of (ihl _ _ (hl.drewN _) (by omega)) | exact Calls.quiet_of (ihr _ _ (hr.drewN _) (by omega))))
    go_wp2_with fail
    go_ret
    exact ⟨by rw [str_nd]; rfl, _, rfl⟩
end Go.Proofs.Ytplmbdljhgicfab

/-! Mir -/
namespace Go.Proofs.Ytplmbdljhgicfab
open Go.RowKit

/-- A call that hands back a node of a tree. -/
def GivesNode (t : Tr) (w : World) (e : Ending) (w' : World) : Prop :=
  ∃ b : Nat, NodeAt w' t b ∧ Below w.heap.size w w' ∧ e = .returned (.pointer (some ⟨b, 0, none⟩))

theorem below_two {w w1 : World} {b : Nat} {u v : Value} (hb : Below w.heap.size w w1) (h1 : w.cell? ⟨b, 0, none⟩ = some u) (h2 : w.cell? ⟨b, 1, none⟩ = some v) :
    w1.cell? ⟨b, 0, none⟩ = some u ∧ w1.cell? ⟨b, 1, none⟩ = some v := by
  have hl := World.block_lt_of_cell? w _ h1
  exact ⟨(hb.cell (p := ⟨b, 0, none⟩) hl).trans h1, (hb.cell (p := ⟨b, 1, none⟩) hl).trans h2⟩

end Go.Proofs.Ytplmbdljhgicfab
