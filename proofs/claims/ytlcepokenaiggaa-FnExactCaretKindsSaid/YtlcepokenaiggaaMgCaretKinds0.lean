/- Texts that the claim needs, part 1. -/
import Derived.Test.YtlcepokenaiggaaRows
import Derived.WalkKit
import Derived.WalkSpells
import Derived.Lib.Strings
import Derived.Lib.Hide
import Derived.Deep.Light
import Derived.Deep.Draws
import Derived.Deep.QuietTactic
import Derived.BigQuiet
import Derived.Deep.RegionHeld3
import Derived.Maps.AppendAt
import Derived.Laws.AppendOwnNone
import Derived.Deep.AppendLies
import Derived.Lib.Bytealg
import Derived.Lib.SmallJoins
import Derived.Deep.RegionWith
/-! Base -/
namespace Go.Proofs.Ytlcepokenaiggaa
open Go.RowKit

theorem ret_int {k : IntKind} {a b : Int} (h : a = b) : Ending.returned (.int k a) = .returned (.int k b) := by rw [h]
theorem ret_bool {a b : Bool} (h : a = b) : Ending.returned (.bool a) = .returned (.bool b) := by rw [h]
theorem ret_str {a b : ByteArray} (h : a = b) : Ending.returned (.string a) = .returned (.string b) := by rw [h]

theorem i64_bounds {n : Int} (h : (Lit.int .i64 n).wf = true) : -9223372036854775808 ≤ n ∧ n ≤ 9223372036854775807 := by
  simpa [Lit.wf, IntKind.min, IntKind.max, IntKind.signed, IntKind.bits] using h

theorem nx {w w1 w2 : World} (h : Below w.heap.size w w1) (k : Below w1.heap.size w1 w2) : Below w.heap.size w w2 := h.trans (k.mono h.size)
theorem nxAlloc {w w1 : World} (h : Below w.heap.size w w1) (o : Obj) : Below w.heap.size w (w1.alloc o) := nx h ((Below.refl _ _).alloc (Nat.le_refl _) o)

theorem drewB {w w1 : World} (h : Below w.heap.size w w1) (n : Nat) : Below w.heap.size w (w1.drewN n) := ⟨h.os, h.tape, h.output, h.size, h.block⟩

/-- Calls that hand back a value and leave what was there. -/
def Gives (v : Value) (w : World) (e : Ending) (w' : World) : Prop := e = .returned v ∧ Below w.heap.size w w'

end Go.Proofs.Ytlcepokenaiggaa

/-! Row -/
namespace Go.Proofs.Ytlcepokenaiggaa
open Go.RowKit

theorem info_int : (Try.prog.info? 3).map (fun i => (i.zero, i.size, i.bytes)) = some (some (.int .i64 0), 1, 8) := by kernel_rfl

/-- v is a slice of the integers xs, in a block from base on that the call has made. -/
def OwnI (base : Nat) (w : World) (v : Value) (xs : List Int) : Prop := w.ownsRow base 3 1 v xs.length (xs.map (Value.int .i64))

theorem ownsRow_keep {w w' : World} {base : Nat} {e : TypeId} {size : Nat} {v : Value} {n : Nat} {xs : List Value} (h : w.ownsRow base e size v n xs) (hb : Below w.heap.size w w') : w'.ownsRow base e size v n xs := by
  obtain ⟨h1, h2⟩ := h
  refine ⟨h1, ?_⟩
  rcases h2 with h2 | ⟨g, cap, cur, hv, hg, hh, r⟩
  · exact .inl h2
  · exact .inr ⟨g, cap, cur, hv, hg, (hb.block g (lt_of_block hh)).trans hh, r⟩

theorem OwnI.keep {base : Nat} {w w' : World} {v : Value} {xs : List Int} (h : OwnI base w v xs) (hb : Below w.heap.size w w') : OwnI base w' v xs := ownsRow_keep h hb

theorem OwnI.nil (base : Nat) (w : World) : OwnI base w (.slice none 0 0) [] := World.ownsRow_nil _ _ _ _

/-- What can be read of such a slice. -/
def CellsI (base : Nat) (w : World) (v : Value) (xs : List Int) : Prop :=
  (v = .slice none 0 0 ∧ xs = []) ∨ ∃ g cap : Nat, v = .slice (some ⟨g, 0, none⟩) xs.length cap ∧ base ≤ g ∧ g < w.heap.size ∧ xs.length ≤ cap ∧ cap ≤ maxLen ∧
    (∀ i, i < xs.length → w.cell? ⟨g, i, none⟩ = some (.int .i64 (xs.getD i 0))) ∧ ∀ i, w.frozen? ⟨g, i, none⟩ = false

theorem OwnI.cells {base : Nat} {w : World} {v : Value} {xs : List Int} (h : OwnI base w v xs) : CellsI base w v xs := by
  have h0 := h
  obtain ⟨h1, h2⟩ := h
  rcases h2 with ⟨hv, hn⟩ | ⟨g, cap, cur, hv, hg, hh, r1, r2, r3⟩
  · exact .inl ⟨hv, List.length_eq_zero_iff.1 hn⟩
  · subst hv
    refine .inr ⟨g, cap, rfl, hg, lt_of_block hh, r1, r2, fun i hi => ?_, fun i => World.ownsRow.frozenAt h0 i⟩
    have := World.ownsRow.cellAt h0 i (by omega)
    rw [this]
    simp [List.getElem?_eq_getElem hi]

/-! What an append of one integer to such a slice asks and leaves. -/
theorem new1 (w : World) (v : Value) (e : TypeId) : ∀ (j : Nat) (u : Value), [v][j]? = some u → (w.alloc (.cells #[v] e)).cell? ((⟨w.heap.size, 0, none⟩ : Addr).add j) = some u := by
  intro j u hj
  match j, hj with
  | 0, hj => simp at hj; subst hj; simp [Addr.add]
  | j + 1, hj => simp at hj
theorem one1 (m : Int) : ∀ u ∈ [Value.int .i64 m], u.oneCell' = true := by intro u hu; simp at hu; subst hu; rfl
theorem size_al {w w1 : World} (h : Below w.heap.size w w1) (o : Obj) : w.heap.size ≤ (w1.alloc o).heap.size := by have := h.size; simp; omega

theorem ownsRow_ge {w : World} {base : Nat} {e : TypeId} {size : Nat} {v : Value} {n : Nat} {xs : List Value} (h : w.ownsRow base e size v n xs) : ∀ k, v.ownBlock = some k → base ≤ k := by
  intro k hk
  rcases h.2 with ⟨hv, _⟩ | ⟨g, cap, cur, hv, hg, _⟩
  · subst hv; simp [Value.ownBlock] at hk
  · subst hv; simp [Value.ownBlock] at hk; omega

theorem OwnI.snoc {base : Nat} {w : World} {v : Value} {xs : List Int} {m : Int} (h : w.ownsRow base 3 1 v (xs.length + 1) (xs.map (Value.int .i64) ++ [Value.int .i64 m])) : OwnI base w v (xs ++ [m]) := by
  unfold OwnI; rw [List.length_append, List.map_append]; exact h

theorem below_app {w wr w1 : World} {base : Nat} {e e2 : TypeId} {size : Nat} {v u : Value} {n : Nat} {xs : List Value} (h : Below w.heap.size w wr) (hown : wr.ownsRow base e size v n xs) (hbase : w.heap.size ≤ base)
    (hg : (wr.alloc (.cells #[u] e2)).grownBy w1 v.ownBlock) : Below w.heap.size w w1 :=
  (nxAlloc h (.cells #[u] e2)).grown hg (size_al h _) (fun k hk => Nat.le_trans hbase (ownsRow_ge hown k hk))

/-- A call that hands back a slice of integers of its own. -/
def GivesInts (xs : List Int) (w : World) (e : Ending) (w' : World) : Prop :=
  ∃ v, OwnI w.heap.size w' v xs ∧ Below w.heap.size w w' ∧ e = .returned v

/-- An answer of a slice of the call's own and a bool. -/
def AnsI2 (xs : List Int) (ok : Bool) (w : World) (e : Ending) (w' : World) : Prop :=
  ∃ v, OwnI w.heap.size w' v xs ∧ Below w.heap.size w w' ∧ e = .returned (.tuple #[v, .bool ok])
def AnsIs (o : Option (List Int)) (w : World) (e : Ending) (w' : World) : Prop := AnsI2 (o.getD []) o.isSome w e w'

end Go.Proofs.Ytlcepokenaiggaa

/-! RowS -/
namespace Go.Proofs.Ytlcepokenaiggaa
open Go.RowKit

theorem info_str : (Try.prog.info? 9).map (fun i => (i.zero, i.size, i.bytes)) = some (some (.string ⟨#[]⟩), 1, 16) := by kernel_rfl

/-- v is a slice of the texts ss, in a block from base on that the call has made. -/
def OwnS (base : Nat) (w : World) (v : Value) (ss : List ByteArray) : Prop := w.ownsRow base 9 1 v ss.length (ss.map Value.string)

theorem OwnS.keep {base : Nat} {w w' : World} {v : Value} {ss : List ByteArray} (h : OwnS base w v ss) (hb : Below w.heap.size w w') : OwnS base w' v ss := ownsRow_keep h hb
theorem OwnS.nil (base : Nat) (w : World) : OwnS base w (.slice none 0 0) [] := World.ownsRow_nil _ _ _ _

theorem ownsRow_mono {w : World} {base base' : Nat} {e : TypeId} {size : Nat} {v : Value} {n : Nat} {xs : List Value} (h : w.ownsRow base e size v n xs) (hb : base' ≤ base) : w.ownsRow base' e size v n xs := by
  obtain ⟨h1, h2⟩ := h
  refine ⟨h1, ?_⟩
  rcases h2 with h2 | ⟨g, cap, cur, hv, hg, r⟩
  · exact .inl h2
  · exact .inr ⟨g, cap, cur, hv, Nat.le_trans hb hg, r⟩
theorem OwnS.mono {base base' : Nat} {w : World} {v : Value} {ss : List ByteArray} (h : OwnS base w v ss) (hb : base' ≤ base) : OwnS base' w v ss := ownsRow_mono h hb
theorem OwnI.mono {base base' : Nat} {w : World} {v : Value} {xs : List Int} (h : OwnI base w v xs) (hb : base' ≤ base) : OwnI base' w v xs := ownsRow_mono h hb

/-- What can be read of such a slice. -/
def CellsS (base : Nat) (w : World) (v : Value) (ss : List ByteArray) : Prop :=
  (v = .slice none 0 0 ∧ ss = []) ∨ ∃ g cap : Nat, v = .slice (some ⟨g, 0, none⟩) ss.length cap ∧ base ≤ g ∧ g < w.heap.size ∧ ss.length ≤ cap ∧ cap ≤ maxLen ∧
    (∀ i, i < ss.length → w.cell? ⟨g, i, none⟩ = some (.string (ss.getD i ⟨#[]⟩))) ∧ ∀ i, w.frozen? ⟨g, i, none⟩ = false

theorem OwnS.cells {base : Nat} {w : World} {v : Value} {ss : List ByteArray} (h : OwnS base w v ss) : CellsS base w v ss := by
  have h0 := h
  obtain ⟨h1, h2⟩ := h
  rcases h2 with ⟨hv, hn⟩ | ⟨g, cap, cur, hv, hg, hh, r1, r2, r3⟩
  · exact .inl ⟨hv, List.length_eq_zero_iff.1 hn⟩
  · subst hv
    refine .inr ⟨g, cap, rfl, hg, lt_of_block hh, r1, r2, fun i hi => ?_, fun i => World.ownsRow.frozenAt h0 i⟩
    have := World.ownsRow.cellAt h0 i (by omega)
    rw [this]
    simp [List.getElem?_eq_getElem hi]

theorem OwnS.shape {base : Nat} {w : World} {v : Value} {ss : List ByteArray} (h : OwnS base w v ss) (hn : 0 < ss.length) : ∃ g cap, v = .slice (some ⟨g, 0, none⟩) ss.length cap := by
  rcases h.2 with ⟨_, h2⟩ | ⟨g, cap, cur, hv, _⟩
  · omega
  · exact ⟨g, cap, hv⟩

/-- One text in a new block. -/
theorem OwnS.one (w : World) (s : ByteArray) : OwnS w.heap.size (w.alloc (.cells #[.string s] 9 (0, 0))) (.slice (some ⟨w.heap.size, 0, none⟩) 1 1) [s] := by
  refine ⟨rfl, .inr ⟨w.heap.size, 1, #[.string s], rfl, Nat.le_refl _, ?_, Nat.le_refl _, by unfold maxLen; omega, rfl, rfl⟩⟩
  show (w.heap.push _)[w.heap.size]? = _
  simp

theorem addr_add (g j : Nat) : (⟨g, 0, none⟩ : Addr).add j = ⟨g, j, none⟩ := by
  unfold Addr.add
  split
  · next h => rw [h]
  · simp

theorem OwnS.news {base : Nat} {w : World} {g cap n : Nat} {ss : List ByteArray} (h : OwnS base w (.slice (some ⟨g, 0, none⟩) n cap) ss) (hn : ss.length = n) :
    ∀ (j : Nat) (u : Value), (ss.map Value.string)[j]? = some u → w.cell? ((⟨g, 0, none⟩ : Addr).add j) = some u := by
  intro j u hj
  subst hn
  have hlt : j < ss.length := by
    rcases Nat.lt_or_ge j ss.length with h | h
    · exact h
    · rw [List.getElem?_eq_none (by simpa using h)] at hj; simp at hj
  have := World.ownsRow.cellAt h j (by omega)
  rw [addr_add, this, hj]
theorem oneS (ss : List ByteArray) : ∀ u ∈ ss.map Value.string, u.oneCell' = true := by
  intro u hu
  rw [List.mem_map] at hu
  obtain ⟨s, _, rfl⟩ := hu
  rfl
theorem OwnS.app {base : Nat} {w : World} {v : Value} {A B : List ByteArray} (h : w.ownsRow base 9 1 v (A.length + B.length) (A.map Value.string ++ B.map Value.string)) : OwnS base w v (A ++ B) := by
  unfold OwnS; rw [List.length_append, List.map_append]; exact h

theorem below_app0 {w wr w1 : World} {base : Nat} {e : TypeId} {size : Nat} {v : Value} {n : Nat} {xs : List Value} (h : Below w.heap.size w wr) (hown : wr.ownsRow base e size v n xs) (hbase : w.heap.size ≤ base)
    (hg : wr.grownBy w1 v.ownBlock) : Below w.heap.size w w1 :=
  h.grown hg h.size (fun k hk => Nat.le_trans hbase (ownsRow_ge hown k hk))

/-- A call that hands back a slice of texts of its own, not empty. -/
def GivesTexts (ss : List ByteArray) (w : World) (e : Ending) (w' : World) : Prop :=
  ∃ g cap : Nat, OwnS w.heap.size w' (.slice (some ⟨g, 0, none⟩) ss.length cap) ss ∧ Below w.heap.size w w' ∧ e = .returned (.slice (some ⟨g, 0, none⟩) ss.length cap)

/-- An answer of a slice of texts of the call's own and a bool. -/
def AnsS2 (ss : List ByteArray) (ok : Bool) (w : World) (e : Ending) (w' : World) : Prop :=
  ∃ v, OwnS w.heap.size w' v ss ∧ Below w.heap.size w w' ∧ e = .returned (.tuple #[v, .bool ok])
def AnsSs (o : Option (List ByteArray)) (w : World) (e : Ending) (w' : World) : Prop := AnsS2 (o.getD []) o.isSome w e w'
end Go.Proofs.Ytlcepokenaiggaa

/-! Quiet -/
namespace Go.Proofs.Ytlcepokenaiggaa
open Go.RowKit

theorem quiet_eq {P : Program} {f : FuncId} {args : Array Value} {w : World} {n : Nat} {v : Value} (h : Calls P f args (w.drewN n) fun e w' => e = .returned v ∧ w.drewN n = w') :
    Calls P f args (w.drewN n) fun e w'' => e = .returned v ∧ ∃ m, w'' = w.drewN m :=
  h.mono fun _ _ ⟨he, hm⟩ => ⟨he, n, hm.symm⟩

def Quietly (v : Value) (w : World) (e : Ending) (w' : World) : Prop := e = .returned v ∧ ∃ n, w' = w.drewN n
end Go.Proofs.Ytlcepokenaiggaa

/-! Mark -/
namespace Go.Proofs.Ytlcepokenaiggaa
open Go.RowKit

/-- One byte as a text. -/
def oneB (c : Int) : ByteArray := strOfNums [c]
theorem oneB_size (c : Int) : (oneB c).size = 1 := rfl

/-- 'string([]byte{c})'. -/
theorem conv_one (w : World) (c : Int) : (convert 64 9 (.slice (some ⟨w.heap.size, 0, none⟩) 1 1)).run Try.prog (w.alloc (.cells #[.int .u8 c] 5)) = .ok (.string (oneB c)) (w.alloc (.cells #[.int .u8 c] 5)) := by
  refine run_convert_bytes_arg _ 64 5 Try.underlying64 Try.underlying5 w.heap.size 0 1 1 [c] rfl ?_ 9 Try.underlying9
  intro i hi
  obtain rfl : i = 0 := by omega
  have : (w.alloc (.cells #[.int .u8 c] 5)).heap[w.heap.size]? = some (.cells #[.int .u8 c] 5) := by
    show (w.heap.push _)[w.heap.size]? = _
    simp
  exact cell_of_one this

/-- The digits of a number ahead of a text. -/
def digs (j : Nat) (acc : ByteArray) : ByteArray := if 0 < j then digs (j / 10) (oneB (48 + (j : Int) % 10) ++ acc) else acc
termination_by j
decreasing_by omega

def markT (k : Nat) : ByteArray := ⟨#[109]⟩ ++ digs k ⟨#[]⟩

set_option maxRecDepth 100000 in
set_option maxHeartbeats 1000000 in
theorem markText_any (k : Nat) (w : World) (hk : 0 < k) (hk2 : k ≤ 2000000000) :
    Calls Try.prog 21 #[.int .i64 k] w (Gives (.string (markT k)) w) := by
  have hconv := conv_one
  go_enter Try.func21, Try.ntmps21
  go_wp2_with fail
  go_loopw [0, 3] (fun i t wr => ∃ (j : Nat) (acc : ByteArray), i = .int .i64 j ∧ t = .string acc ∧ acc.size + j ≤ k ∧ Below w.heap.size w wr ∧ Hid (digs k ⟨#[]⟩ = digs j acc)) (fun i _ _ => (intOf i).toNat)
  case atStart => exact ⟨k, ⟨#[]⟩, rfl, rfl, by simp [ByteArray.size], Below.refl _ _, rfl⟩
  case round =>
    obtain ⟨j, acc, rfl, rfl, hz, hbw, he⟩ := hrel
    by_cases hlt : (0 : Int) < j
    · have he' := he.out
      rw [digs.eq_def j, if_pos (by omega)] at he'
      have HE := Lib.hid he'
      have hob := oneB_size (48 + (j : Int) % 10)
      clear he he'
      go_wp2_with fail
      go_roundw
      case rel => exact ⟨j / 10, _, by go_num, rfl, by rw [ByteArray.size_append, hob]; omega, nxAlloc hbw _, HE⟩
      case measure => simp [intOf]; omega
    · obtain rfl : j = 0 := by omega
      have he' := he.out
      rw [digs.eq_def 0, if_neg (by omega)] at he'
      have HE := Lib.hid he'
      clear he he'
      go_wp2_with fail
      go_ret
      exact ⟨ret_str (by unfold markT; rw [HE.out]), hbw⟩
end Go.Proofs.Ytlcepokenaiggaa

/-! TailS -/
namespace Go.Proofs.Ytlcepokenaiggaa
open Go.RowKit

theorem CellsS.len {base : Nat} {w : World} {v : Value} {ss : List ByteArray} (h : CellsS base w v ss) : (ss.length : Int) ≤ 9223372036854775807 := by
  rcases h with ⟨_, rfl⟩ | ⟨g, cap, _, _, _, h1, h2, _⟩
  · simp
  · unfold maxLen at h2; omega

set_option maxHeartbeats 1000000 in
theorem eqStringS_any (b1 b2 : Nat) (v1 v2 : Value) (xs : List ByteArray) (w : World) (h1 : CellsS b1 w v1 xs) (h2 : CellsS b2 w v2 xs) :
    Calls Try.prog 8 #[v1, v2] w (Quietly (.bool true) w) := by
  have hl := h1.len
  rcases h1 with ⟨rfl, rfl⟩ | ⟨g, cap, rfl, hb1, hg1, hc1, hm1, hx1, _⟩
  · rcases h2 with ⟨rfl, _⟩ | ⟨g, cap, rfl, hb1, hg1, hc1, hm1, hx1, _⟩
    all_goals
      go_enter Try.func8, Try.ntmps8
      go_wp2_with fail
      go_loopw [5] (fun i wr => i = .int .i64 0 ∧ wr = w) (fun _ _ => 0)
      case atStart => exact ⟨rfl, rfl⟩
      case round =>
        obtain ⟨rfl, rfl⟩ := hrel
        go_wp2_with fail
        go_ret
        exact ⟨rfl, 0, rfl⟩
  · rcases h2 with ⟨rfl, rfl⟩ | ⟨g2, cap2, rfl, hb2, hg2, hc2, hm2, hx2, _⟩
    · go_enter Try.func8, Try.ntmps8
      go_wp2_with fail
      go_loopw [5] (fun i wr => i = .int .i64 0 ∧ wr = w) (fun _ _ => 0)
      case atStart => exact ⟨rfl, rfl⟩
      case round =>
        obtain ⟨rfl, rfl⟩ := hrel
        go_wp2_with fail
        go_ret
        exact ⟨rfl, 0, rfl⟩
    · have HX1 := Lib.hid hx1
      have HX2 := Lib.hid hx2
      clear hx1 hx2
      go_enter Try.func8, Try.ntmps8
      go_wp2_with fail
      go_loopw [5] (fun i wr => ∃ k d : Nat, k ≤ xs.length ∧ i = .int .i64 k ∧ wr = w.drewN d) (fun i _ => xs.length - (intOf i).toNat)
      case atStart => exact ⟨0, 0, Nat.zero_le _, rfl, rfl⟩
      case round =>
        obtain ⟨k, d, hk, rfl, rfl⟩ := hrel
        by_cases hlt : k < xs.length
        · have hlt' : (k : Int) < (xs.length : Int) := by omega
          have c1 := HX1.out k hlt
          have c2 := HX2.out k hlt
          obtain ⟨x, hx⟩ : ∃ x, x = xs.getD k ⟨#[]⟩ := ⟨_, rfl⟩
          rw [← hx] at c1 c2
          clear hx
          go_wp2_with fail
          go_quiet (fail)
          go_wp2_with fail
          go_roundw
          case rel => exact ⟨k + 1, _, by omega, by go_num, rfl⟩
          case measure => simp [intOf]; omega
        · obtain rfl : k = xs.length := by omega
          go_wp2_with fail
          go_ret
          exact ⟨rfl, _, rfl⟩

/-- The marks from k on: n texts. -/
def marksS (k n : Nat) : List ByteArray := (List.range n).map fun i => markT (k + i)
theorem marksS_length (k n : Nat) : (marksS k n).length = n := by simp [marksS]
theorem marksS_getD (k : Nat) {n i : Nat} (h : i < n) : (marksS k n).getD i ⟨#[]⟩ = markT (k + i) := by simp [marksS, h]

theorem CellsS.keep {base : Nat} {w w' : World} {v : Value} {ss : List ByteArray} (h : CellsS base w v ss) (hb : Below w.heap.size w w') : CellsS base w' v ss := by
  rcases h with h | ⟨g, cap, h1, h2, h3, h4, h5, h6, h7⟩
  · exact .inl h
  · exact .inr ⟨g, cap, h1, h2, Nat.lt_of_lt_of_le h3 hb.size, h4, h5, fun i hi => (hb.cell (p := ⟨g, i, none⟩) h3).trans (h6 i hi), fun i => (hb.frozen (p := ⟨g, i, none⟩) h3).trans (h7 i)⟩

set_option maxHeartbeats 1000000 in
theorem heldStringS_any (b1 : Nat) (v1 : Value) (n k : Nat) (w : World) (hk0 : 0 < k) (hk1 : k ≤ 1000000000) (hn9 : n ≤ 1000000000) (h1 : CellsS b1 w v1 (marksS k n)) :
    Calls Try.prog 10 #[v1, .int .i64 k] w (Gives (.int .i64 (k + n)) w) := by
  have hb0 := Below.refl w.heap.size w
  rcases h1 with ⟨rfl, hn⟩ | ⟨g, cap, rfl, hb1, hg1, hc1, hm1, hx1, _⟩
  · have hn0 : n = 0 := by have := congrArg List.length hn; simpa [marksS_length] using this
    subst hn0
    clear hn
    go_enter Try.func10, Try.ntmps10
    go_wp2_with fail
    go_loopw [1, 5] (fun v i wr => v = .int .i64 k ∧ i = .int .i64 0 ∧ wr = w) (fun _ _ _ => 0)
    case atStart => exact ⟨rfl, rfl, rfl⟩
    case round =>
      obtain ⟨rfl, rfl, rfl⟩ := hrel
      go_wp2_with fail
      go_ret
      exact ⟨ret_int (by simp), hb0⟩
  · rw [marksS_length] at hx1 hc1 ⊢
    have HX1 := Lib.hid hx1
    clear hx1
    go_enter Try.func10, Try.ntmps10
    go_wp2_with fail
    go_loopw [1, 5] (fun v i wr => ∃ j : Nat, j ≤ n ∧ i = .int .i64 j ∧ v = .int .i64 ((k + j : Nat) : Int) ∧ Below w.heap.size w wr) (fun _ i _ => n - (intOf i).toNat)
    case atStart => exact ⟨0, Nat.zero_le _, rfl, by simp, hb0⟩
    case round =>
      obtain ⟨j, hj, rfl, rfl, hbw⟩ := hrel
      by_cases hlt : j < n
      · have hlt' : (j : Int) < (n : Int) := by omega
        have c1 := (hbw.cell (p := ⟨g, j, none⟩) hg1).trans (HX1.out j hlt)
        rw [marksS_getD k hlt] at c1
        have hmt := fun w => markText_any (k + j) w (by omega) (by omega)
        obtain ⟨T, hT⟩ : ∃ T, T = markT (k + j) := ⟨_, rfl⟩
        rw [← hT] at c1 hmt
        clear hT
        have hgr : g < wr.heap.size := Nat.lt_of_lt_of_le hg1 hbw.size
        go_wp2_with fail
        go_region_held3 (fun w' => w'.cell? ⟨g, j, none⟩ = some (.string T))
          (first | exact c1 | exact c2)
          (first | (go_at_call 21; refine (hmt _).mono ?_; rintro e w1 ⟨rfl, hb1'⟩; have hb2' := nx (Below.refl wr.heap.size wr).drew hb1'; have c2 := (hb2'.cell (p := ⟨g, j, none⟩) hgr).trans c1))
        go_wp2_with fail
        go_roundw
        case rel => exact ⟨j + 1, by omega, by go_num, by go_num, nx hbw hb2'⟩
        case measure => simp [intOf]; omega
      · obtain rfl : j = n := by omega
        go_wp2_with fail
        go_ret
        exact ⟨ret_int (by simp), hbw⟩

theorem marksS_set (k : Nat) (xs : List ByteArray) (j : Nat) (h : j < xs.length) : (marksS k j ++ xs.drop j).set j (markT (k + j)) = marksS k (j + 1) ++ xs.drop (j + 1) := by
  have hm := marksS_length k j
  have e1 : marksS k (j + 1) = marksS k j ++ [markT (k + j)] := by simp [marksS, List.range_succ]
  rw [List.set_append_right _ _ (by omega), hm, Nat.sub_self, e1, List.append_assoc]
  congr 1
  rw [List.drop_eq_getElem_cons h]
  rfl

theorem OwnS.set {base : Nat} {w : World} {g cap : Nat} {xs : List ByteArray} {n : Nat} (hn : xs.length = n) (h : OwnS base w (.slice (some ⟨g, 0, none⟩) n cap) xs) (j : Nat) (m : ByteArray) :
    OwnS base (w.setCell ⟨g, j, none⟩ (.string m)) (.slice (some ⟨g, 0, none⟩) n cap) (xs.set j m) := by
  unfold OwnS at *
  subst hn
  rw [List.length_set, List.map_set]
  exact (World.ownsRow.stored h j _).1

/-- A call that hands back a number, and leaves the slice v with other texts. -/
def MarkedS (base : Nat) (r : Int) (v : Value) (xs : List ByteArray) (w : World) (e : Ending) (w' : World) : Prop := e = .returned (.int .i64 r) ∧ OwnS base w' v xs ∧ Below base w w'

set_option maxHeartbeats 1000000 in
theorem markStringS_any (base : Nat) (v : Value) (xs : List ByteArray) (n : Nat) (hn : xs.length = n) (k : Nat) (w : World) (hk0 : 0 < k) (hk1 : k ≤ 1000000000) (hn9 : n ≤ 1000000000) (hbase : base ≤ w.heap.size) (h : OwnS base w v xs) :
    Calls Try.prog 9 #[v, .int .i64 k] w (MarkedS base (k + n) v (marksS k n) w) := by
  have hb0 := Below.refl base w
  rcases h.cells with ⟨rfl, rfl⟩ | ⟨g, cap, rfl, hb1, hg1, hc1, hm1, hx1, hf1⟩
  · obtain rfl : n = 0 := hn.symm
    have H := Lib.hid h
    clear h hn
    go_enter Try.func9, Try.ntmps9
    go_wp2_with fail
    go_loopw [1, 5] (fun v i wr => v = .int .i64 k ∧ i = .int .i64 0 ∧ wr = w) (fun _ _ _ => 0)
    case atStart => exact ⟨rfl, rfl, rfl⟩
    case round =>
      obtain ⟨rfl, rfl, rfl⟩ := hrel
      go_wp2_with fail
      go_ret
      exact ⟨ret_int (by simp), H.out, hb0⟩
  · rw [hn] at hc1 h ⊢
    clear hx1 hf1
    have H := Lib.hid h
    have HN := Lib.hid hn
    clear h hn
    go_enter Try.func9, Try.ntmps9
    go_wp2_with fail
    go_loopw [1, 5] (fun v i wr => ∃ j : Nat, j ≤ n ∧ i = .int .i64 j ∧ v = .int .i64 ((k + j : Nat) : Int) ∧ Hid (OwnS base wr (.slice (some ⟨g, 0, none⟩) n cap) (marksS k j ++ xs.drop j)) ∧ Below base w wr) (fun _ i _ => n - (intOf i).toNat)
    case atStart => exact ⟨0, Nat.zero_le _, rfl, by simp, by simpa [marksS] using H, hb0⟩
    case round =>
      obtain ⟨j, hj, rfl, rfl, hown, hbw⟩ := hrel
      have hlen : (marksS k j ++ xs.drop j).length = n := by have := HN.out; rw [List.length_append, marksS_length, List.length_drop]; omega
      by_cases hlt : j < n
      · have hlt' : (j : Int) < (n : Int) := by omega
        have hmt := fun w => markText_any (k + j) w (by omega) (by omega)
        have HSZ := hbw.size
        go_wp2_with fail
        refine (hmt _).mono ?_; rintro e w1 ⟨rfl, hbm⟩
        have hown1 := hown.out.keep hbm
        have hset := OwnS.set hlen hown1 j (markT (k + j))
        rw [marksS_set k xs j (by rw [HN.out]; exact hlt)] at hset
        have hfz : w1.frozen? ⟨g, j, none⟩ = false := World.ownsRow.frozenAt (by have := hown1; unfold OwnS at this; rw [hlen] at this; exact this) j
        obtain ⟨x, hcell⟩ : ∃ x, w1.cell? ⟨g, j, none⟩ = some x := by
          have h1 := hown1
          unfold OwnS at h1
          rw [hlen] at h1
          have := World.ownsRow.cellAt h1 j (by omega)
          rw [this]
          exact ⟨_, List.getElem?_eq_getElem (by rw [List.length_map, hlen]; exact hlt)⟩
        have hbw' : Below base w (w1.setCell ⟨g, j, none⟩ (.string (markT (k + j)))) := (hbw.trans (hbm.mono (by omega))).setCell (by exact hb1) _
        have HSET := Lib.hid hset
        clear hset hown1
        go_wp2_with fail
        go_roundw
        case rel => exact ⟨j + 1, by omega, by go_num, by go_num, HSET, hbw'⟩
        case measure => simp [intOf]; omega
      · obtain rfl : j = n := by omega
        have hend : Hid (OwnS base wr (.slice (some ⟨g, 0, none⟩) j cap) (marksS k j)) := by
          have h1 := hown.out
          rw [List.drop_of_length_le (by rw [HN.out]; exact Nat.le_refl _), List.append_nil] at h1
          exact h1
        go_wp2_with fail
        go_ret
        exact ⟨ret_int (by simp), hend.out, hbw⟩

theorem heldStringS_1 (b1 : Nat) (v1 : Value) (n : Nat) (w : World) (hn9 : n ≤ 1000000000) (h1 : CellsS b1 w v1 (marksS 1 n)) :
    Calls Try.prog 10 #[v1, .int .i64 1] w (Gives (.int .i64 (1 + n)) w) :=
  heldStringS_any b1 v1 n 1 w (by omega) (by omega) hn9 h1
theorem markStringS_1 (base : Nat) (v : Value) (xs : List ByteArray) (w : World) (hn9 : xs.length ≤ 1000000000) (hbase : base ≤ w.heap.size) (h : OwnS base w v xs) :
    Calls Try.prog 9 #[v, .int .i64 1] w (MarkedS base (1 + xs.length) v (marksS 1 xs.length) w) :=
  markStringS_any base v xs xs.length rfl 1 w (by omega) (by omega) hn9 hbase h
end Go.Proofs.Ytlcepokenaiggaa

/-! Pure -/
namespace Go.Proofs.Ytlcepokenaiggaa

/-- The byte at an index of a text (0 behind its end). -/
def byteAt (s : ByteArray) (a : Int) : Int := if h : a.toNat < s.size then ((s[a.toNat]'h).toNat : Int) else 0

theorem byteAt_eq (s : ByteArray) (a : Int) (h : a.toNat < s.size) : byteAt s a = ((s[a.toNat]'h).toNat : Int) := by unfold byteAt; rw [dif_pos h]

/-- The index behind the tree at an index, or -1 (k: the depth that is left). -/
def endI : Nat → ByteArray → Int → Int
  | 0, _, _ => -1
  | k + 1, s, a =>
    if a < s.size then
      if byteAt s a = 46 then a + 1
      else if byteAt s a ≠ 40 then -1
      else if endI k s (a + 1) < 0 then -1
      else if endI k s (endI k s (a + 1)) < 0 then -1
      else if (s.size : Int) ≤ endI k s (endI k s (a + 1)) then -1
      else if byteAt s (endI k s (endI k s (a + 1))) ≠ 41 then -1
      else endI k s (endI k s (a + 1)) + 1
    else -1

theorem endI_le (k : Nat) : ∀ (s : ByteArray) (a : Int), 0 ≤ a → -1 ≤ endI k s a ∧ endI k s a ≤ s.size := by
  induction k with
  | zero => intro s a _; simp [endI]
  | succ k ih =>
    intro s a ha
    have h1 := ih s (a + 1) (by omega)
    have h2 := fun h => ih s (endI k s (a + 1)) h
    rw [endI]
    repeat' split
    all_goals first | omega | (have := h2 (by omega); omega)

/-- How many of the first k bytes are carets' beginnings. -/
def cnt (s : ByteArray) : Nat → Int
  | 0 => 0
  | k + 1 => cnt s k + if byteAt s k = 40 then 1 else 0

theorem cnt_le (s : ByteArray) (k : Nat) : 0 ≤ cnt s k ∧ cnt s k ≤ k := by
  induction k with
  | zero => simp [cnt]
  | succ k ih => rw [cnt]; split <;> omega

/-- The text is a tree, as the spec tells it. -/
def isTreeB (s : ByteArray) : Bool := decide ((s.size : Int) ≤ 33) && decide (cnt s s.size ≤ 8) && endI 61 s 0 == (s.size : Int)

theorem isTreeB_size {s : ByteArray} (h : isTreeB s = true) : s.size ≤ 33 := by
  unfold isTreeB at h; simp at h; omega

end Go.Proofs.Ytlcepokenaiggaa

/-! Tr -/
namespace Go.Proofs.Ytlcepokenaiggaa

inductive Tr where
  | lf
  | nd (l r : Tr)

namespace Tr
def text : Tr → List UInt8
  | lf => [46]
  | nd l r => 40 :: (l.text ++ (r.text ++ [41]))
def carets : Tr → Nat
  | lf => 0
  | nd l r => l.carets + r.carets + 1
def str (t : Tr) : ByteArray := ⟨t.text.toArray⟩
end Tr

theorem Tr.text_len (t : Tr) : t.text.length = 3 * t.carets + 1 := by
  induction t with
  | lf => rfl
  | nd l r ihl ihr => simp [Tr.text, Tr.carets, ihl, ihr]; omega

theorem Tr.str_list (t : Tr) : t.str.data.toList = t.text := by simp [Tr.str]
theorem Tr.str_size (t : Tr) : t.str.size = 3 * t.carets + 1 := by
  rw [← Tr.text_len]; show t.str.data.size = _; simp [Tr.str]
theorem ba_ext {a b : ByteArray} (h : a.data.toList = b.data.toList) : a = b := by
  cases a; cases b; simpa using h

/-- Reading a tree at the beginning of a text. -/
def parseN : Nat → List UInt8 → Option (Tr × List UInt8)
  | 0, _ => none
  | _ + 1, [] => none
  | k + 1, c :: r =>
    if c = 46 then some (.lf, r)
    else if c = 40 then
      match parseN k r with
      | none => none
      | some (t1, r1) =>
        match parseN k r1 with
        | none => none
        | some (t2, r2) =>
          match r2 with
          | [] => none
          | d :: r3 => if d = 41 then some (.nd t1 t2, r3) else none
    else none

theorem parseN_sound (k : Nat) : ∀ (l : List UInt8) (t : Tr) (r : List UInt8), parseN k l = some (t, r) → l = t.text ++ r := by
  induction k with
  | zero => intro l t r h; simp [parseN] at h
  | succ k ih =>
    intro l t r h
    match l with
    | [] => simp [parseN] at h
    | c :: l' =>
      rw [parseN] at h
      split at h
      · next hc => simp at h; obtain ⟨rfl, rfl⟩ := h; simp [Tr.text, hc]
      · split at h
        · next hc =>
          split at h
          · simp at h
          · next t1 r1 h1 =>
            split at h
            · simp at h
            · next t2 r2 h2 =>
              split at h
              · simp at h
              · next d r3 =>
                split at h
                · next hd =>
                  simp at h
                  obtain ⟨rfl, rfl⟩ := h
                  rw [ih _ _ _ h1, ih _ _ _ h2, hc, hd]
                  simp [Tr.text]
                · simp at h
        · simp at h

theorem parseN_complete (t : Tr) : ∀ (k : Nat) (r : List UInt8), t.text.length ≤ k → parseN k (t.text ++ r) = some (t, r) := by
  induction t with
  | lf => intro k r h; cases k with | zero => simp [Tr.text] at h | succ k => simp [Tr.text, parseN]
  | nd a b iha ihb =>
    intro k r h
    cases k with
    | zero => simp [Tr.text] at h
    | succ k =>
      have h' : a.text.length + b.text.length + 2 ≤ k + 1 := by simp [Tr.text] at h; omega
      show parseN (k + 1) (40 :: (a.text ++ (b.text ++ [41])) ++ r) = _
      have e : (40 : UInt8) :: (a.text ++ (b.text ++ [41])) ++ r = 40 :: (a.text ++ (b.text ++ (41 :: r))) := by simp
      rw [e, parseN, if_neg (by decide), if_pos rfl, iha k _ (by omega)]
      show (match parseN k (b.text ++ (41 :: r)) with | none => none | some (t2, r2) => _) = _
      rw [ihb k _ (by omega)]
      simp

theorem Tr.text_inj {t u : Tr} {r q : List UInt8} (h : t.text ++ r = u.text ++ q) : t = u ∧ r = q := by
  have h1 := parseN_complete t (t.text.length + u.text.length) r (by omega)
  have h2 := parseN_complete u (t.text.length + u.text.length) q (by omega)
  rw [h, h2] at h1
  simp at h1
  exact ⟨h1.1.symm, h1.2.symm⟩

theorem parseN_len {k : Nat} {l : List UInt8} {t : Tr} {r : List UInt8} (h : parseN k l = some (t, r)) : r.length + 1 ≤ l.length := by
  have := parseN_sound k l t r h
  have := t.text_len
  subst l; simp; omega

end Go.Proofs.Ytlcepokenaiggaa

/-! TrOf -/
namespace Go.Proofs.Ytlcepokenaiggaa

theorem ext_end (s : ByteArray) (k : Nat) : (s.extract k s.size).data.toList = s.data.toList.drop k := by
  rw [Lib.extract_data]
  exact List.take_of_length_le (by rw [List.length_drop, ← Lib.size_eq]; exact Nat.le_refl _)

theorem byteAt_drop {s : ByteArray} {a : Nat} {c : UInt8} {r : List UInt8} (h : s.data.toList.drop a = c :: r) : a < s.size ∧ byteAt s a = c.toNat := by
  have hl : a < s.data.toList.length := by
    have := congrArg List.length h
    simp at this
    simp; omega
  have hz : a < s.size := by rw [Lib.size_eq]; exact hl
  refine ⟨hz, ?_⟩
  rw [byteAt_eq s a (by simpa using hz)]
  have hc : s.data.toList[a] = c := by
    rw [List.drop_eq_getElem_cons hl] at h
    injection h
  have : (s[((a : Int)).toNat]'(by simpa using hz)) = s.data.toList[a] := by simp; rfl
  rw [this, hc]

theorem drop_of_byteAt {s : ByteArray} {a : Nat} (h : a < s.size) : ∃ c r, s.data.toList.drop a = c :: r ∧ byteAt s a = (c.toNat : Int) ∧ s.data.toList.drop (a + 1) = r := by
  have hl : a < s.data.toList.length := by rw [← Lib.size_eq]; exact h
  have e := List.drop_eq_getElem_cons hl
  exact ⟨_, _, e, (byteAt_drop e).2, rfl⟩

theorem u8_eq {c : UInt8} {n : Nat} (hn : n < 256) (h : (c.toNat : Int) = (n : Int)) : c = UInt8.ofNat n := by
  have h : c.toNat = n := by omega
  subst h; simp

theorem drop_succ {l r : List UInt8} {a : Nat} {c : UInt8} (h : l.drop a = c :: r) : l.drop (a + 1) = r := by
  rw [← List.drop_drop, h]; rfl

theorem drop_add_of {l x y : List UInt8} {a : Nat} (h : l.drop a = x ++ y) : l.drop (a + x.length) = y := by
  rw [← List.drop_drop, h]; simp

theorem endI_complete (t : Tr) : ∀ (k : Nat) (s : ByteArray) (a : Nat) (r : List UInt8), t.carets < k → s.data.toList.drop a = t.text ++ r → endI k s a = a + t.text.length := by
  induction t with
  | lf =>
    intro k s a r hk h
    cases k with
    | zero => omega
    | succ k =>
      have hb := byteAt_drop (show s.data.toList.drop a = 46 :: r from h)
      rw [endI, if_pos (by omega), if_pos (by rw [hb.2]; rfl)]
      rfl
  | nd l rr ihl ihr =>
    intro k s a q hk h
    cases k with
    | zero => omega
    | succ k =>
      have hk' : l.carets < k ∧ rr.carets < k := by simp [Tr.carets] at hk; omega
      have h0 : s.data.toList.drop a = 40 :: (l.text ++ (rr.text ++ (41 :: q))) := by rw [h]; simp [Tr.text]
      have hb := byteAt_drop h0
      have h1 := drop_succ h0
      have e1 := ihl k s (a + 1) _ hk'.1 h1
      have h2 := drop_add_of h1
      have e2 := ihr k s (a + 1 + l.text.length) _ hk'.2 h2
      have h3 := drop_add_of h2
      have hb3 := byteAt_drop h3
      have c1 : endI k s ((a : Int) + 1) = ((a + 1 + l.text.length : Nat) : Int) := by
        have : ((a : Int) + 1) = ((a + 1 : Nat) : Int) := by omega
        rw [this, e1]; omega
      have c2 : endI k s ((a + 1 + l.text.length : Nat) : Int) = ((a + 1 + l.text.length + rr.text.length : Nat) : Int) := by
        rw [e2]; omega
      rw [endI, if_pos (by omega), if_neg (by rw [hb.2]; decide), if_neg (by rw [hb.2]; decide), c1, if_neg (by omega), c2, if_neg (by omega), if_neg (by omega), if_neg (by rw [hb3.2]; decide)]
      simp [Tr.text]; omega

theorem endI_sound (k : Nat) : ∀ (s : ByteArray) (a : Nat), 0 ≤ endI k s a → ∃ t : Tr, ∃ r, s.data.toList.drop a = t.text ++ r ∧ endI k s a = a + t.text.length := by
  induction k with
  | zero => intro s a h; simp [endI] at h
  | succ k ih =>
    intro s a h
    rw [endI] at h ⊢
    split at h
    · next hlt =>
      obtain ⟨c, r, hd, hb, hd1⟩ := drop_of_byteAt (s := s) (a := a) (by omega)
      split at h
      · next h46 =>
        rw [hb] at h46
        have := u8_eq (n := 46) (by omega) h46
        refine ⟨.lf, r, ?_, ?_⟩
        · rw [hd, this]; rfl
        · rw [if_pos hlt, if_pos (by rw [hb]; exact h46)]; rfl
      · next h46 =>
        split at h
        · omega
        · next h40 =>
          split at h
          · omega
          · next hl =>
            have cast1 : ((a : Int) + 1) = ((a + 1 : Nat) : Int) := by omega
            have hl' : 0 ≤ endI k s ((a + 1 : Nat) : Int) := by rw [← cast1]; omega
            obtain ⟨t1, r1, e1, f1⟩ := ih s (a + 1) hl'
            have g1 : endI k s ((a : Int) + 1) = ((a + 1 + t1.text.length : Nat) : Int) := by rw [cast1, f1]; omega
            split at h
            · omega
            · next hr =>
              rw [g1] at hr
              obtain ⟨t2, r2, e2, f2⟩ := ih s (a + 1 + t1.text.length) (by omega)
              have g2 : endI k s (endI k s ((a : Int) + 1)) = ((a + 1 + t1.text.length + t2.text.length : Nat) : Int) := by rw [g1, f2]; omega
              split at h
              · omega
              · next hz =>
                split at h
                · omega
                · next h41 =>
                  rw [g2] at hz h41
                  obtain ⟨d, q, e3, b3, _⟩ := drop_of_byteAt (s := s) (a := a + 1 + t1.text.length + t2.text.length) (by omega)
                  have hd41 := u8_eq (n := 41) (by omega) (show ((d.toNat : Int)) = ((41 : Nat) : Int) by rw [← b3]; simpa using h41)
                  have hc40 := u8_eq (n := 40) (by omega) (show ((c.toNat : Int)) = ((40 : Nat) : Int) by rw [← hb]; simpa using h40)
                  refine ⟨.nd t1 t2, q, ?_, ?_⟩
                  · have x2 := drop_add_of e1
                    rw [e2] at x2
                    have x3 := drop_add_of e2
                    rw [e3] at x3
                    rw [hd, hc40]
                    have : r = t1.text ++ (t2.text ++ (41 :: q)) := by
                      rw [← hd1, e1, ← x2, ← x3, hd41]; rfl
                    rw [this]; simp [Tr.text]
                  · rw [if_pos hlt, if_neg h46, if_neg h40, if_neg hl, if_neg (by omega), if_neg (by omega), if_neg (by rw [g2]; exact h41), g2]
                    simp [Tr.text]; omega
    · omega

theorem text_count (t : Tr) : t.text.count 40 = t.carets := by
  induction t with
  | lf => rfl
  | nd l r ihl ihr => simp [Tr.text, Tr.carets, List.count_append, ihl, ihr]

theorem cnt_count (s : ByteArray) (k : Nat) (hk : k ≤ s.size) : cnt s k = ((s.data.toList.take k).count 40 : Nat) := by
  induction k with
  | zero => simp [cnt]
  | succ k ih =>
    obtain ⟨c, r, hd, hb, _⟩ := drop_of_byteAt (s := s) (a := k) (by omega)
    have hl : k < s.data.toList.length := by rw [← Lib.size_eq]; omega
    have hc : s.data.toList[k] = c := by
      rw [List.drop_eq_getElem_cons hl] at hd
      injection hd
    rw [cnt, ih (by omega), hb, List.take_succ_eq_append_getElem hl, hc, List.count_append]
    by_cases h : c = 40
    · subst h; simp
    · have h' : ¬ ((c.toNat : Int) = 40) := fun e => h (u8_eq (n := 40) (by omega) e)
      rw [if_neg h']
      simp [h]

theorem cnt_str (t : Tr) : cnt t.str t.str.size = t.carets := by
  rw [cnt_count _ _ (Nat.le_refl _), ← text_count, ← Tr.str_list, List.take_of_length_le]
  rw [Lib.size_eq]; exact Nat.le_refl _

/-- The tree of a text, if it is one. -/
def treeOf (s : ByteArray) : Option Tr :=
  match parseN (s.size + 1) s.data.toList with
  | some (t, []) => if t.carets ≤ 8 then some t else none
  | _ => none

theorem str_of_list {s : ByteArray} {t : Tr} (h : s.data.toList = t.text) : s = t.str := ba_ext (by rw [h, Tr.str_list])

theorem treeOf_some {s : ByteArray} {t : Tr} (h : treeOf s = some t) : s = t.str ∧ t.carets ≤ 8 := by
  unfold treeOf at h
  split at h
  · next u hp =>
    split at h
    · next hc =>
      injection h with h
      subst h
      have := parseN_sound _ _ _ _ hp
      exact ⟨str_of_list (by simpa using this), hc⟩
    · simp at h
  · simp at h

theorem parse_str (t : Tr) (k : Nat) (h : t.text.length ≤ k) : parseN k t.str.data.toList = some (t, []) := by
  have := parseN_complete t k [] h
  rwa [List.append_nil, ← Tr.str_list] at this

theorem treeOf_str (t : Tr) (h : t.carets ≤ 8) : treeOf t.str = some t := by
  unfold treeOf
  rw [parse_str t _ (by have := t.str_size; have := t.text_len; omega)]
  simp [h]

theorem endI_str (t : Tr) (h : t.carets ≤ 8) : endI 61 t.str 0 = t.str.size := by
  have := endI_complete t 61 t.str 0 [] (by omega) (by rw [Tr.str_list]; simp)
  rw [Tr.str_size, ← Tr.text_len]
  simpa using this

theorem isTreeB_str (t : Tr) (h : t.carets ≤ 8) : isTreeB t.str = true := by
  unfold isTreeB
  rw [cnt_str, endI_str t h, Tr.str_size]
  simp; omega

theorem treeOf_of_isTreeB {s : ByteArray} (h : isTreeB s = true) : ∃ t : Tr, s = t.str ∧ t.carets ≤ 8 := by
  unfold isTreeB at h
  simp at h
  obtain ⟨⟨h1, h2⟩, h3⟩ := h
  obtain ⟨t, r, e, f⟩ := endI_sound 61 s 0 (by rw [show ((0 : Nat) : Int) = 0 from rfl, h3]; omega)
  have hz : s.size = t.text.length := by
    rw [show ((0 : Nat) : Int) = 0 from rfl] at f
    omega
  have hr : r = [] := by
    have := congrArg List.length e
    simp only [List.drop_zero, List.length_append, ← Lib.size_eq] at this
    exact List.length_eq_zero_iff.1 (by omega)
  have hs : s = t.str := str_of_list (by rw [hr] at e; simpa using e)
  refine ⟨t, hs, ?_⟩
  rw [hs, cnt_str] at h2
  omega

theorem isTreeB_eq (s : ByteArray) : isTreeB s = (treeOf s).isSome := by
  cases h : treeOf s with
  | some t =>
    obtain ⟨rfl, hc⟩ := treeOf_some h
    exact isTreeB_str t hc
  | none =>
    cases hb : isTreeB s with
    | false => rfl
    | true =>
      obtain ⟨t, rfl, hc⟩ := treeOf_of_isTreeB hb
      rw [treeOf_str t hc] at h
      simp at h

end Go.Proofs.Ytlcepokenaiggaa

/-! TrFn -/
namespace Go.Proofs.Ytlcepokenaiggaa
namespace Tr
def mir : Tr → Tr
  | lf => lf
  | nd l r => nd r.mir l.mir
def join : Tr → Tr → Tr
  | lf, b => b
  | nd l r, lf => nd l r
  | nd l r, nd p q => nd (join l p) (join r q)
def com : Tr → Tr → Tr
  | lf, _ => lf
  | nd _ _, lf => lf
  | nd l r, nd p q => nd (com l p) (com r q)
def part : Tr → Tr → Bool
  | lf, _ => true
  | nd _ _, lf => false
  | nd l r, nd p q => part l p && part r q
def isLf : Tr → Bool
  | lf => true
  | nd _ _ => false
end Tr

theorem mir_carets (t : Tr) : t.mir.carets = t.carets := by
  induction t with
  | lf => rfl
  | nd l r ihl ihr => simp [Tr.mir, Tr.carets, ihl, ihr]; omega

theorem join_carets (a : Tr) : ∀ b : Tr, (a.join b).carets ≤ a.carets + b.carets := by
  induction a with
  | lf => intro b; simp [Tr.join]
  | nd l r ihl ihr =>
    intro b
    cases b with
    | lf => simp [Tr.join]
    | nd p q => have := ihl p; have := ihr q; simp [Tr.join, Tr.carets]; omega

theorem com_carets (a : Tr) : ∀ b : Tr, (a.com b).carets ≤ a.carets := by
  induction a with
  | lf => intro b; simp [Tr.com]
  | nd l r ihl ihr =>
    intro b
    cases b with
    | lf => simp [Tr.com, Tr.carets]
    | nd p q => have := ihl p; have := ihr q; simp [Tr.com, Tr.carets]; omega

theorem com_eq_part (a : Tr) : ∀ b : Tr, a.com b = a ↔ a.part b = true := by
  induction a with
  | lf => intro b; simp [Tr.com, Tr.part]
  | nd l r ihl ihr =>
    intro b
    cases b with
    | lf => simp [Tr.com, Tr.part]
    | nd p q => simp [Tr.com, Tr.part, ihl, ihr]

end Go.Proofs.Ytlcepokenaiggaa

/-! KiP -/
namespace Go.Proofs.Ytlcepokenaiggaa

def sL0 : ByteArray := ⟨#[76, 48]⟩
def sLL : ByteArray := ⟨#[76, 76]⟩
def sR0 : ByteArray := ⟨#[82, 48]⟩
def sRI : ByteArray := ⟨#[82, 73]⟩
def sRN : ByteArray := ⟨#[82, 78]⟩
def sI0 : ByteArray := ⟨#[73, 48]⟩
def sIR : ByteArray := ⟨#[73, 82]⟩
def sR : ByteArray := ⟨#[82]⟩

/-- The kind of a caret on neither side. -/
def inK (b : Bool) : ByteArray := if b then sI0 else sIR
namespace Tr
def inn : Tr → List ByteArray
  | lf => []
  | nd l r => l.inn ++ inK r.isLf :: r.inn
def lft : Tr → List ByteArray
  | lf => []
  | nd l r => l.lft ++ sLL :: r.inn
def rgt : Tr → List ByteArray
  | lf => []
  | nd l r => l.inn ++ sR :: r.rgt
def raw : Tr → List ByteArray
  | lf => []
  | nd l r => l.lft ++ sLL :: r.rgt
end Tr

/-- Whether a kind is that of a caret on neither side. -/
def isNe (s : ByteArray) : Bool := s = sI0 || s = sIR
/-- The kinds on the right side told, from behind: with whether all are on it. -/
def finF : List ByteArray → List ByteArray × Bool
  | [] => ([], true)
  | x :: r =>
    if x = sR then
      if (finF r).2 then (sR0 :: (finF r).1, true)
      else if isNe ((finF r).1.headD ⟨#[]⟩) then (sRI :: (finF r).1, false)
      else (sRN :: (finF r).1, false)
    else (x :: (finF r).1, false)
/-- The first caret is L0. -/
def firstK : List ByteArray → List ByteArray
  | [] => []
  | _ :: r => sL0 :: r
def Tr.kinds (t : Tr) : List ByteArray := (finF (firstK t.raw)).1

theorem finF_length (l : List ByteArray) : (finF l).1.length = l.length := by
  induction l with
  | nil => rfl
  | cons x r ih =>
    rw [finF]
    split
    · split
      · simp [ih]
      · split <;> simp [ih]
    · simp [ih]
theorem firstK_length (l : List ByteArray) : (firstK l).length = l.length := by cases l <;> rfl
theorem inn_length (t : Tr) : t.inn.length = t.carets := by
  induction t with
  | lf => rfl
  | nd l r ihl ihr => simp [Tr.inn, Tr.carets, ihl, ihr]; omega
theorem lft_length (t : Tr) : t.lft.length = t.carets := by
  induction t with
  | lf => rfl
  | nd l r ihl ihr => simp [Tr.lft, Tr.carets, ihl, inn_length]; omega
theorem rgt_length (t : Tr) : t.rgt.length = t.carets := by
  induction t with
  | lf => rfl
  | nd l r ihl ihr => simp [Tr.rgt, Tr.carets, ihr, inn_length]; omega
theorem raw_length (t : Tr) : t.raw.length = t.carets := by
  cases t with
  | lf => rfl
  | nd l r => simp [Tr.raw, Tr.carets, lft_length, rgt_length]; omega
theorem kinds_length (t : Tr) : t.kinds.length = t.carets := by
  unfold Tr.kinds
  rw [finF_length, firstK_length, raw_length]

/-- One step of the loop from behind. -/
theorem finF_step (x : ByteArray) (r : List ByteArray) : finF (x :: r) = if x = sR then
      if (finF r).2 then (sR0 :: (finF r).1, true)
      else if isNe ((finF r).1.headD ⟨#[]⟩) then (sRI :: (finF r).1, false)
      else (sRN :: (finF r).1, false)
    else (x :: (finF r).1, false) := rfl
theorem finF_late (l : List ByteArray) (h : (finF l).2 = false) : l ≠ [] := by
  intro e
  rw [e] at h
  simp [finF] at h

/-- The carets of a tree: their addresses, and whether their right sides are leaves. -/
def Tr.cars : Tr → ByteArray → List (ByteArray × Bool)
  | .lf, _ => []
  | .nd l r, here => l.cars (here ++ ⟨#[48]⟩) ++ (here, r.isLf) :: r.cars (here ++ ⟨#[49]⟩)
theorem cars_length (t : Tr) : ∀ here, (t.cars here).length = t.carets := by
  induction t with
  | lf => intro here; rfl
  | nd l r ihl ihr => intro here; simp [Tr.cars, Tr.carets, ihl, ihr]; omega
theorem cars_size (t : Tr) : ∀ here, ∀ x ∈ t.cars here, x.1.size ≤ here.size + t.carets := by
  induction t with
  | lf => intro here x hx; simp [Tr.cars] at hx
  | nd l r ihl ihr =>
    intro here x hx
    simp only [Tr.cars, List.mem_append, List.mem_cons] at hx
    have e : (Tr.nd l r).carets = l.carets + r.carets + 1 := rfl
    have s0 : (here ++ (⟨#[48]⟩ : ByteArray)).size = here.size + 1 := ByteArray.size_append
    have s1 : (here ++ (⟨#[49]⟩ : ByteArray)).size = here.size + 1 := ByteArray.size_append
    rcases hx with hx | rfl | hx
    · have := ihl _ x hx; omega
    · show here.size ≤ _; omega
    · have := ihr _ x hx; omega
def hasB (s : ByteArray) (c : UInt8) : Bool := s.data.toList.contains c
/-- The kind of a caret by its address: sR on the right side. -/
def codeK (x : ByteArray × Bool) : ByteArray :=
  if hasB x.1 49 = false then sLL else if hasB x.1 48 = false then sR else inK x.2
theorem hasB_append (a b : ByteArray) (c : UInt8) : hasB (a ++ b) c = (hasB a c || hasB b c) := by
  have e : (a ++ b).data.toList = a.data.toList ++ b.data.toList := by simp [ByteArray.data_append]
  unfold hasB
  rw [e]
  induction a.data.toList with
  | nil => simp
  | cons x l ih => simp only [List.cons_append, List.contains_cons, ih, Bool.or_assoc]
theorem cars_inn (t : Tr) : ∀ here, hasB here 48 = true → hasB here 49 = true → (t.cars here).map codeK = t.inn := by
  induction t with
  | lf => intro here h k; rfl
  | nd l r ihl ihr =>
    intro here h k
    simp only [Tr.cars, Tr.inn, List.map_append, List.map_cons]
    rw [ihl _ (by rw [hasB_append, h]; rfl) (by rw [hasB_append, k]; rfl), ihr _ (by rw [hasB_append, h]; rfl) (by rw [hasB_append, k]; rfl)]
    congr 2
    simp [codeK, h, k]
theorem cars_lft (t : Tr) : ∀ here, hasB here 48 = true → hasB here 49 = false → (t.cars here).map codeK = t.lft := by
  induction t with
  | lf => intro here h k; rfl
  | nd l r ihl ihr =>
    intro here h k
    simp only [Tr.cars, Tr.lft, List.map_append, List.map_cons]
    rw [ihl _ (by rw [hasB_append, h]; rfl) (by rw [hasB_append, k]; rfl), cars_inn r _ (by rw [hasB_append, h]; rfl) (by rw [hasB_append, k]; rfl)]
    congr 2
    simp [codeK, k]
theorem cars_rgt (t : Tr) : ∀ here, hasB here 48 = false → hasB here 49 = true → (t.cars here).map codeK = t.rgt := by
  induction t with
  | lf => intro here h k; rfl
  | nd l r ihl ihr =>
    intro here h k
    simp only [Tr.cars, Tr.rgt, List.map_append, List.map_cons]
    rw [cars_inn l _ (by rw [hasB_append, h]; rfl) (by rw [hasB_append, k]; rfl), ihr _ (by rw [hasB_append, h]; rfl) (by rw [hasB_append, k]; rfl)]
    congr 2
    simp [codeK, h, k]
theorem cars_raw (t : Tr) : (t.cars ⟨#[]⟩).map codeK = t.raw := by
  cases t with
  | lf => rfl
  | nd l r =>
    simp only [Tr.cars, Tr.raw, List.map_append, List.map_cons]
    rw [cars_lft l _ rfl rfl, cars_rgt r _ rfl rfl]
    rfl

/-- The kind of a caret on the right side, by those behind it. -/
def korK (later : List ByteArray) : ByteArray :=
  if later.any isNe = false then sR0 else if isNe (later.headD ⟨#[]⟩) then sRI else sRN
def kindK (i : Nat) (x : ByteArray) (later : List ByteArray) : ByteArray :=
  if i = 0 then sL0 else if x = sLL then sLL else if x = sR then korK later else x
/-- The kinds from a place on. -/
def kindsFrom : Nat → List ByteArray → List ByteArray
  | _, [] => []
  | i, x :: r => kindK i x r :: kindsFrom (i + 1) r

theorem isNe_LL : isNe sLL = false := by decide
theorem isNe_R : isNe sR = false := by decide
/-- Codes: behind one on the right side none is on the left side. -/
def okC : List ByteArray → Prop
  | [] => True
  | x :: r => (x = sLL ∨ x = sR ∨ isNe x = true) ∧ (x = sR → sLL ∉ r) ∧ okC r
theorem okC_any {r : List ByteArray} (h : okC r) (k : sLL ∉ r) : (finF r).2 = !(r.any isNe) := by
  induction r with
  | nil => rfl
  | cons x r ih =>
    obtain ⟨h1, _, h3⟩ := h
    have hx : x ≠ sLL := fun e => k (by rw [e]; exact List.mem_cons_self)
    have kr : sLL ∉ r := fun e => k (List.mem_cons_of_mem _ e)
    have := ih h3 kr
    rw [finF_step]
    rcases h1 with h1 | h1 | h1
    · exact absurd h1 hx
    · rw [if_pos h1, List.any_cons, h1, isNe_R, Bool.false_or]
      cases hf : (finF r).2 with
      | true => rw [hf] at this; simp [← this]
      | false =>
        rw [hf] at this
        simp only [Bool.false_eq_true, if_false]
        split <;> exact this
    · have : x ≠ sR := by intro e; rw [e, isNe_R] at h1; cases h1
      rw [if_neg this]
      simp [h1]
theorem headD_finF (r : List ByteArray) (h : okC r) : isNe ((finF r).1.headD ⟨#[]⟩) = isNe (r.headD ⟨#[]⟩) := by
  cases r with
  | nil => rfl
  | cons x r =>
    rw [finF_step]
    by_cases hx : x = sR
    · rw [if_pos hx]
      show _ = isNe x
      rw [hx, isNe_R]
      split
      · rfl
      · split <;> rfl
    · rw [if_neg hx]
      rfl
theorem finF_kinds (r : List ByteArray) (h : okC r) : ∀ i, 0 < i → (finF r).1 = kindsFrom i r := by
  induction r with
  | nil => intro i hi; rfl
  | cons x r ih =>
    intro i hi
    have hh := h
    obtain ⟨h1, h2, h3⟩ := h
    rw [finF_step, kindsFrom, kindK, if_neg (show ¬ i = 0 by omega), ← ih h3 (i + 1) (by omega)]
    by_cases hx : x = sR
    · have hx2 : x ≠ sLL := by rw [hx]; decide
      have ha := okC_any h3 (h2 hx)
      have hd := headD_finF r h3
      rw [if_pos hx, if_pos hx, if_neg hx2]
      unfold korK
      rw [hd, ha]
      cases r.any isNe with
      | false => rfl
      | true =>
        simp only [Bool.not_true, Bool.false_eq_true, if_false, reduceCtorEq]
        split <;> rfl
    · rw [if_neg hx, if_neg hx]
      split
      · next hl => rw [hl]
      · rfl
theorem inK_ne (b : Bool) : isNe (inK b) = true := by cases b <;> decide
theorem inn_all (t : Tr) : ∀ x ∈ t.inn, isNe x = true := by
  induction t with
  | lf => intro x hx; simp [Tr.inn] at hx
  | nd l r ihl ihr =>
    intro x hx
    simp only [Tr.inn, List.mem_append, List.mem_cons] at hx
    rcases hx with hx | rfl | hx
    · exact ihl x hx
    · exact inK_ne _
    · exact ihr x hx
theorem rgt_all (t : Tr) : ∀ x ∈ t.rgt, x = sR ∨ isNe x = true := by
  induction t with
  | lf => intro x hx; simp [Tr.rgt] at hx
  | nd l r ihl ihr =>
    intro x hx
    simp only [Tr.rgt, List.mem_append, List.mem_cons] at hx
    rcases hx with hx | rfl | hx
    · exact .inr (inn_all l x hx)
    · exact .inl rfl
    · exact ihr x hx
theorem lft_all (t : Tr) : ∀ x ∈ t.lft, x = sLL ∨ isNe x = true := by
  induction t with
  | lf => intro x hx; simp [Tr.lft] at hx
  | nd l r ihl ihr =>
    intro x hx
    simp only [Tr.lft, List.mem_append, List.mem_cons] at hx
    rcases hx with hx | rfl | hx
    · exact ihl x hx
    · exact .inl rfl
    · exact .inr (inn_all r x hx)
theorem okC_rgt (l : List ByteArray) (h : ∀ x ∈ l, x = sR ∨ isNe x = true) : okC l := by
  induction l with
  | nil => trivial
  | cons x r ih =>
    refine ⟨.inr (h x List.mem_cons_self), fun _ hm => ?_, ih fun y hy => h y (List.mem_cons_of_mem _ hy)⟩
    rcases h _ (List.mem_cons_of_mem _ hm) with e | e
    · exact absurd e (by decide)
    · rw [isNe_LL] at e; cases e
theorem okC_front (l m : List ByteArray) (h : ∀ x ∈ l, x = sLL ∨ isNe x = true) (hm : okC m) : okC (l ++ m) := by
  induction l with
  | nil => exact hm
  | cons x r ih =>
    refine ⟨?_, fun e => ?_, ih fun y hy => h y (List.mem_cons_of_mem _ hy)⟩
    · rcases h x List.mem_cons_self with e | e
      · exact .inl e
      · exact .inr (.inr e)
    · rcases h x List.mem_cons_self with k | k
      · rw [e] at k; exact absurd k (by decide)
      · rw [e, isNe_R] at k; cases k
theorem okC_raw (t : Tr) : okC t.raw := by
  cases t with
  | lf => trivial
  | nd l r =>
    exact okC_front _ _ (lft_all l) ⟨.inl rfl, fun e => absurd e (by decide), okC_rgt _ (rgt_all r)⟩
theorem kinds_from (t : Tr) : t.kinds = kindsFrom 0 t.raw := by
  have h := okC_raw t
  unfold Tr.kinds
  cases hr : t.raw with
  | nil => rfl
  | cons x r =>
    rw [hr] at h
    show (finF (sL0 :: r)).1 = _
    rw [finF_step, if_neg (by decide), kindsFrom, kindK, if_pos rfl, finF_kinds r h.2.2 1 (by omega)]
end Go.Proofs.Ytlcepokenaiggaa

/-! Cut -/
namespace Go.Proofs.Ytlcepokenaiggaa
open Go.RowKit


theorem hasPrefix_one (s : ByteArray) (c : UInt8) (w : World) (hs : s.size ≤ 9223372036854775806) :
    Calls Try.prog 92 #[.string s, .string ⟨#[c]⟩] w fun e w' => e = .returned (.bool (s.data.toList.head? == some c)) ∧ w = w' := by
  by_cases h : 1 ≤ s.size
  all_goals
    go_enter Try.func92, Try.ntmps92
    go_wp2
    go_ret
  · refine ⟨ret_bool ?_, rfl⟩
    rw [Lib.extract_toList]
    cases hl : s.data.toList <;> simp
  · refine ⟨ret_bool ?_, rfl⟩
    have : s.data.toList.length = 0 := by rw [← Lib.size_eq]; omega
    rw [List.length_eq_zero_iff.1 this]
    rfl

def CutOk (s : ByteArray) (r : List UInt8) (w : World) (e : Ending) (w' : World) : Prop :=
  ∃ s' : ByteArray, s'.data.toList = r ∧ s'.size < s.size ∧ e = .returned (.tuple #[.string s', .bool true]) ∧ w = w'

theorem stringsliteCut_yes (s : ByteArray) (c : UInt8) (r : List UInt8) (w : World) (hs : s.size ≤ 9223372036854775806) (h : s.data.toList = c :: r) :
    Calls Try.prog 86 #[.string s, .string ⟨#[c]⟩] w (CutOk s r w) := by
  have hz : 1 ≤ s.size := by rw [Lib.size_eq, h]; simp
  have hb : (s.data.toList.head? == some c) = true := by simp [h]
  have H := Lib.hid h
  clear h
  go_enter Try.func86, Try.ntmps86
  go_wp2_with (go_at_call 92; refine (hasPrefix_one s c _ hs).mono ?_; rintro e w' ⟨rfl, rfl⟩)
  go_ret2
  refine ⟨_, ?_, ?_, rfl, rfl⟩
  · rw [Lib.extract_data, H.out, List.take_of_length_le]
    · rfl
    · rw [Lib.size_eq, H.out]; simp
  · rw [Lib.size_eq, Lib.extract_data, Lib.size_eq, H.out]; simp

theorem stringsliteCut_no (s : ByteArray) (c : UInt8) (w : World) (hs : s.size ≤ 9223372036854775806) (h : (s.data.toList.head? == some c) = false) :
    Calls Try.prog 86 #[.string s, .string ⟨#[c]⟩] w fun e w' => e = .returned (.tuple #[.string s, .bool false]) ∧ w = w' := by
  go_enter Try.func86, Try.ntmps86
  go_wp2_with (go_at_call 92; refine (hasPrefix_one s c _ hs).mono ?_; rintro e w' ⟨rfl, rfl⟩)
  go_ret2
  exact ⟨rfl, rfl⟩

theorem cut_yes (s : ByteArray) (c : UInt8) (r : List UInt8) (w : World) (hs : s.size ≤ 9223372036854775806) (h : s.data.toList = c :: r) :
    Calls Try.prog 73 #[.string s, .string ⟨#[c]⟩] w (CutOk s r w) := by
  have H := Lib.hid h
  clear h
  go_enter Try.func73, Try.ntmps73
  go_wp2_with (go_at_call 86; refine (stringsliteCut_yes s c r _ hs H.out).mono ?_; rintro e w' ⟨s', h1, h2, rfl, rfl⟩; have H1 := Lib.hid h1; clear h1)
  go_ret2
  exact ⟨_, H1.out, h2, rfl, rfl⟩

theorem cut_no (s : ByteArray) (c : UInt8) (w : World) (hs : s.size ≤ 9223372036854775806) (h : (s.data.toList.head? == some c) = false) :
    Calls Try.prog 73 #[.string s, .string ⟨#[c]⟩] w fun e w' => e = .returned (.tuple #[.string s, .bool false]) ∧ w = w' := by
  go_enter Try.func73, Try.ntmps73
  go_wp2_with (go_at_call 86; refine (stringsliteCut_no s c _ hs h).mono ?_; rintro e w' ⟨rfl, rfl⟩)
  go_ret2
  exact ⟨rfl, rfl⟩
end Go.Proofs.Ytlcepokenaiggaa

/-! End -/
namespace Go.Proofs.Ytlcepokenaiggaa
open Go.RowKit


set_option maxHeartbeats 400000 in
theorem end_any (k : Nat) : ∀ (s : ByteArray) (a d : Int) (w : World), s.size ≤ 9223372036854775806 → 0 ≤ d → d + k = 61 → 0 ≤ a →
    Calls Try.prog 31 #[.string s, .int .i64 a, .int .i64 d] w fun e w' => e = .returned (.int .i64 (endI k s a)) ∧ w = w' := by
  induction k with
  | zero =>
    intro s a d w hs hd0 hd ha
    by_cases h : a < s.size
    all_goals
      go_enter Try.func31, Try.ntmps31
      go_wp2_with fail
      go_ret
      exact ⟨rfl, rfl⟩
  | succ k ih =>
    intro s a d w hs hd0 hd ha
    have b1 := endI_le k s (a + 1) (by omega)
    have b2 := fun h => endI_le k s (endI k s (a + 1)) h
    by_cases h : a < s.size
    · go_enter Try.func31, Try.ntmps31
      go_wp2_with (go_at_call 31; refine (ih s _ _ _ hs (by omega) (by omega) (by omega)).mono ?_; rintro e w' ⟨rfl, rfl⟩)
      all_goals
        go_ret
        refine ⟨ret_int ?_, rfl⟩
        go_light
        clear ih b2
        have e1 := byteAt_eq s a (by omega)
        have e2 := byteAt_eq s (endI k s (endI k s (a + 1)))
        simp only [beq_iff_eq, beq_eq_false_iff_ne, ne_eq, bne_iff_ne, bne_eq_false_iff_eq] at *
        rw [endI]
        repeat' split
        all_goals first | omega | (have := e2 (by omega); omega)
    · go_enter Try.func31, Try.ntmps31
      go_wp2_with fail
      go_ret
      exact ⟨ret_int (by rw [endI, if_neg (by omega)]), rfl⟩
end Go.Proofs.Ytlcepokenaiggaa

/-! Carets -/
namespace Go.Proofs.Ytlcepokenaiggaa
open Go.RowKit

set_option maxHeartbeats 400000 in
theorem carets_any (s : ByteArray) (w : World) (hs : s.size ≤ 9223372036854775806) :
    Calls Try.prog 30 #[.string s] w fun e w' => e = .returned (.int .i64 (cnt s s.size)) ∧ w = w' := by
  go_enter Try.func30, Try.ntmps30
  go_wp2
  go_loop [3, 4] (fun n i => ∃ k : Nat, k ≤ s.size ∧ i = .int .i64 k ∧ n = .int .i64 (cnt s k)) (fun _ i => s.size - (intOf i).toNat)
  case atStart => exact ⟨0, Nat.zero_le _, rfl, rfl⟩
  case round =>
    obtain ⟨k, hk, rfl, rfl⟩ := hrel
    have hc := cnt_le s k
    by_cases hlt : k < s.size
    · have e1 : Hid (byteAt s k = ((s[k]'hlt).toNat : Int)) := byteAt_eq s k hlt
      go_wp2
      all_goals
        go_round
        case rel => exact ⟨k + 1, by omega, by go_num, by rw [cnt, e1.out]; first | rw [if_pos (by simpa using ‹(_ == (40:Int)) = true›)] | (rw [if_neg (by simpa using ‹(_ == (40:Int)) = false›)]; go_num)⟩
        case measure => simp [intOf]; omega
    · obtain rfl : k = s.size := by omega
      go_wp2
      go_ret
      exact ⟨rfl, rfl⟩
set_option maxHeartbeats 400000 in
theorem trIs_any (s : ByteArray) (w : World) (hs : s.size ≤ 9223372036854775806) :
    Calls Try.prog 17 #[.string s] w fun e w' => e = .returned (.bool (isTreeB s)) ∧ w = w' := by
  have hc := cnt_le s s.size
  have he := endI_le 61 s 0 (by omega)
  by_cases a : (s.size : Int) ≤ 33 <;> by_cases b : cnt s s.size ≤ 8
  all_goals
    go_enter Try.func17, Try.ntmps17
    go_wp2_with (first | (go_at_call 30; refine (carets_any s _ hs).mono ?_; rintro e w' ⟨rfl, rfl⟩) | (go_at_call 31; refine (end_any 61 s _ _ _ hs (by omega) (by omega) (by omega)).mono ?_; rintro e w' ⟨rfl, rfl⟩))
    go_ret
    exact ⟨ret_bool (by unfold isTreeB; rw [Bool.eq_iff_iff]; simp; try omega), rfl⟩

end Go.Proofs.Ytlcepokenaiggaa

/-! SpecTr -/
namespace Go.Proofs.Ytlcepokenaiggaa
open Go.RowKit

theorem isLf_eq (t : Tr) : (t.str.toList == [46]) = t.isLf := by
  rw [Lib.toList_data, Tr.str_list]
  cases t <;> simp [Tr.text, Tr.isLf]

theorem str_lf : Tr.lf.str = ⟨#[46]⟩ := rfl
theorem str_nd (l r : Tr) : (Tr.nd l r).str = ⟨#[40]⟩ ++ l.str ++ r.str ++ ⟨#[41]⟩ := by
  apply ba_ext
  simp [Tr.str, Tr.text]

theorem trLeaf_any (t : Tr) (w : World) :
    Calls Try.prog 32 #[.string t.str] w fun e w' => e = .returned (.bool t.isLf) ∧ w = w' := by
  go_enter Try.func32, Try.ntmps32
  go_wp2_with fail
  go_ret
  exact ⟨ret_bool (isLf_eq t), rfl⟩

theorem trOf_any (l r : Tr) (w : World) (h : l.carets + r.carets ≤ 3000000) :
    Calls Try.prog 76 #[.string l.str, .string r.str] w fun e w' => e = .returned (.string (Tr.nd l r).str) ∧ w = w' := by
  have h1 := l.str_size
  have h2 := r.str_size
  go_enter Try.func76, Try.ntmps76
  go_wp2_with fail
  go_ret
  exact ⟨by rw [str_nd]; rfl, rfl⟩

theorem ret_str2 {a b c d : ByteArray} (h : a = c) (k : b = d) : Ending.returned (.tuple #[.string a, .string b]) = .returned (.tuple #[.string c, .string d]) := by rw [h, k]

theorem side_left (l r : Tr) (e : Nat) (he : e = 3 * l.carets + 2) : (Tr.nd l r).str.extract 1 e = l.str := by
  apply ba_ext
  rw [Lib.extract_data, Tr.str_list, Tr.str_list]
  have : e - 1 = l.text.length := by rw [l.text_len]; omega
  rw [this]
  simp [Tr.text]

theorem side_right (l r : Tr) (e f : Nat) (he : e = 3 * l.carets + 2) (hf : f = 3 * l.carets + 3 * r.carets + 3) : (Tr.nd l r).str.extract e f = r.str := by
  apply ba_ext
  rw [Lib.extract_data, Tr.str_list, Tr.str_list]
  have h1 : e = l.text.length + 1 := by rw [l.text_len]; omega
  have h2 : f - e = r.text.length := by rw [r.text_len]; omega
  rw [h2, h1]
  show ((40 :: (l.text ++ (r.text ++ [41]))).drop (l.text.length + 1)).take _ = _
  rw [List.drop_succ_cons, List.drop_left, List.take_left]

theorem trSides_any (l r : Tr) (w : World) (h : l.carets + r.carets ≤ 60) :
    Calls Try.prog 33 #[.string (Tr.nd l r).str] w fun e w' => e = .returned (.tuple #[.string l.str, .string r.str]) ∧ Below w.heap.size w w' := by
  have h1 := (Tr.nd l r).str_size
  simp only [Tr.carets] at h1
  have he := endI_complete l 61 (Tr.nd l r).str 1 (r.text ++ [41]) (by omega) (by rw [Tr.str_list]; rfl)
  have hl := l.text_len
  have he' : endI 61 (Tr.nd l r).str 1 = (3 * l.carets + 2 : Nat) := by
    have : ((1 : Nat) : Int) = 1 := rfl
    rw [this] at he; rw [he]; omega
  have HE := Lib.hid he'
  clear he he' hl
  go_enter Try.func33, Try.ntmps33
  go_wp2_with fail
  refine (end_any 61 (Tr.nd l r).str _ _ _ (by omega) (by omega) (by omega) (by omega)).mono ?_; rintro e w' ⟨rfl, rfl⟩
  rw [HE.out]
  go_wp2_with fail
  go_region
  all_goals (try go_wp2_with fail)
  all_goals go_ret2
  exact ⟨ret_str2 (side_left l r _ (by omega)) (side_right l r _ _ (by omega) (by omega)), (Below.refl _ _).drew⟩
end Go.Proofs.Ytlcepokenaiggaa

/-! Src -/
namespace Go.Proofs.Ytlcepokenaiggaa
open Go.RowKit

theorem CellsS.form0 {b1 : Nat} {w : World} {v : Value} {xs : List ByteArray} (h : CellsS b1 w v xs) :
    ∃ oa cap, v = .slice oa xs.length cap ∧ xs.length ≤ cap ∧ cap ≤ maxLen ∧ ∀ i, i < xs.length → ∃ g, oa = some ⟨g, 0, none⟩ ∧ b1 ≤ g ∧ g < w.heap.size ∧ w.cell? ⟨g, i, none⟩ = some (.string (xs.getD i ⟨#[]⟩)) := by
  rcases h with ⟨rfl, rfl⟩ | ⟨g, cap, rfl, h1, h2, h3, h4, h5, _⟩
  · exact ⟨none, 0, rfl, Nat.le_refl _, Nat.zero_le _, fun i hi => by simp at hi⟩
  · exact ⟨some ⟨g, 0, none⟩, cap, rfl, h3, h4, fun i hi => ⟨g, rfl, h1, h2, h5 i hi⟩⟩

theorem CellsS.at1 {b1 : Nat} {w : World} {g n cap : Nat} {ss : List ByteArray} (h : CellsS b1 w (.slice (some ⟨g, 0, none⟩) n cap) ss) {i : Nat} {t : ByteArray} (hi : ss[i]? = some t) : w.cell? ⟨g, i, none⟩ = some (.string t) := by
  rcases h with ⟨h, _⟩ | ⟨g', cap', h, _, _, _, _, hc, _⟩
  · cases h
  · cases h
    have hl := (List.getElem?_eq_some_iff.1 hi).1
    rw [hc i hl]
    simp [List.getD_eq_getElem?_getD, hi]

/-- A slice value from which the cells ys can be read. -/
def SrcV (w : World) (u : Value) (ys : List Value) : Prop :=
  (u = .slice none 0 0 ∧ ys = []) ∨ ∃ ad c, u = .slice (some ad) ys.length c ∧ ∀ j x, ys[j]? = some x → w.cell? (ad.add j) = some x

theorem SrcV.keep {w w' : World} {u : Value} {ys : List Value} (h : SrcV w u ys) (hb : Below w.heap.size w w') : SrcV w' u ys := by
  rcases h with h | ⟨ad, c, h1, h2⟩
  · exact .inl h
  · refine .inr ⟨ad, c, h1, fun j x hj => ?_⟩
    have hc := h2 j x hj
    exact (hb.cell (World.block_lt_of_cell? w _ hc)).trans hc

theorem wpList_appSrc {P : Program} {w : World} {ops : Array Oper} {rest : List Oper} {o : Oper} {a : Act} {Q : Exit → Act → World → Prop} (hgd : o.guard = none) (s x : Operand) (t : TypeId)
    (ho : o.op = .call { callee := .builtin .append, args := #[s, x], argTypes := #[t, t] })
    (base : Nat) (e : TypeId) (i : TypeInfo) (z : Value) (bytes : Nat) (ht : P.underlying t = some (.slice e)) (hi : P.info? e = some i) (hz : i.zero = some z)
    (hsize : i.size = 1) (hby : i.bytes = bytes) (hzs : z.cells.size = 1)
    (v : Value) (n : Nat) (xs : List Value) (hs : a.eval s = v) (hown : w.ownsRow base e 1 v n xs)
    (u : Value) (ys : List Value) (hx : a.eval x = u) (hsrc : SrcV w u ys) (h1 : ∀ y ∈ ys, y.oneCell' = true)
    (h63 : n + ys.length ≤ maxLen) (hbytes : (n + ys.length) * bytes ≤ 140737488355328) (hbase : base ≤ w.heap.size)
    (h : ∀ v' w', w'.ownsRow base e 1 v' (n + ys.length) (xs ++ ys) → Below base w w' → (v' = .slice none 0 0 → v = .slice none 0 0) → wpList P ops Q rest (a.put o.dst v') w') : wpList P ops Q (o :: rest) a w := by
  rcases hsrc with ⟨rfl, rfl⟩ | ⟨ad, c, rfl, hc⟩
  · refine wpList_append_own_none hgd s x t ho base e i 1 ht hi v n xs hs hown hx ?_
    exact h v w (by simpa using hown) (Below.refl _ _) id
  · refine wpList_append_own w hgd s x t ho base e i z 1 bytes ht hi hz hsize hby hzs (by decide) v n xs hs hown ad ys.length c ys hx (by simp) hc h1 h63 hbytes hbase ?_
    intro v' w' hown' hg hn
    exact h v' w' hown' ((Below.refl base w).grown hg hbase (fun k hk => ownsRow_ge hown k hk)) (fun e => (hn.1 e).1)

theorem row_shape {w : World} {base : Nat} {e : TypeId} {size : Nat} {v : Value} {n : Nat} {xs : List Value} (h : w.ownsRow base e size v n xs) (hn : v ≠ .slice none 0 0) : ∃ g cap, v = .slice (some ⟨g, 0, none⟩) n cap ∧ base ≤ g := by
  rcases h.2 with ⟨hv, _⟩ | ⟨g, cap, cur, hv, hb, _⟩
  · exact absurd hv hn
  · exact ⟨g, cap, hv, hb⟩

/-- An empty slice in a block of its own. -/
theorem ownsRow_empty (w : World) (e : TypeId) : (w.alloc (.cells #[] e (0, 0))).ownsRow w.heap.size e 1 (.slice (some ⟨w.heap.size, 0, none⟩) 0 0) 0 [] :=
  World.ownsRow_made w #[] 0 (Nat.le_refl _) (Nat.zero_le _) rfl

/-- The parts of a slice of the call's own, as sources. -/
theorem src_take {base : Nat} {w : World} {e : TypeId} {g n cap : Nat} {xs : List Value} (h : w.ownsRow base e 1 (.slice (some ⟨g, 0, none⟩) n cap) n xs) (k : Nat) (hk : k ≤ n) (c : Nat) : SrcV w (.slice (some ⟨g, 0, none⟩) k c) (xs.take k) := by
  have hl := h.1
  refine .inr ⟨_, c, by rw [List.length_take]; congr 1; omega, fun j x hj => ?_⟩
  have hj' := (List.getElem?_eq_some_iff.1 hj).1
  rw [List.length_take] at hj'
  rw [List.getElem?_take_of_lt (by omega)] at hj
  rw [addr_add, World.ownsRow.cellAt h j (by omega)]
  exact hj
theorem src_drop {base : Nat} {w : World} {e : TypeId} {g n cap : Nat} {xs : List Value} (h : w.ownsRow base e 1 (.slice (some ⟨g, 0, none⟩) n cap) n xs) (k : Nat) (hk : k ≤ n) (c : Nat) : SrcV w (.slice (some ⟨g, k, none⟩) (n - k) c) (xs.drop k) := by
  have hl := h.1
  refine .inr ⟨_, c, by rw [List.length_drop]; congr 1; omega, fun j x hj => ?_⟩
  have hj' := (List.getElem?_eq_some_iff.1 hj).1
  rw [List.length_drop] at hj'
  rw [List.getElem?_drop] at hj
  have ea : (⟨g, k, none⟩ : Addr).add j = ⟨g, k + j, none⟩ := by
    unfold Addr.add
    split
    · next h0 => rw [h0]; simp
    · rfl
  rw [ea, World.ownsRow.cellAt h (k + j) (by omega)]
  exact hj
theorem src_cells {b1 : Nat} {w : World} {g n cap : Nat} {xs : List ByteArray} (h : CellsS b1 w (.slice (some ⟨g, 0, none⟩) n cap) xs) (k : Nat) (hk : k ≤ xs.length) (c : Nat) : SrcV w (.slice (some ⟨g, 0, none⟩) k c) ((xs.take k).map Value.string) := by
  rcases h with ⟨h, _⟩ | ⟨g', cap', h, _, _, _, _, hc, _⟩
  · cases h
  · cases h
    refine .inr ⟨_, c, by rw [List.length_map, List.length_take]; congr 1; omega, fun j x hj => ?_⟩
    have hj' := (List.getElem?_eq_some_iff.1 hj).1
    rw [List.length_map, List.length_take] at hj'
    rw [List.getElem?_map, List.getElem?_take_of_lt (by omega), List.getElem?_eq_getElem (by omega)] at hj
    have hx := hc j (by omega)
    rw [List.getD_eq_getElem?_getD, List.getElem?_eq_getElem (by omega)] at hx
    rw [addr_add, hx]
    exact hj
theorem src_end {w : World} (a : Option Addr) (c : Nat) (h : a = none → c = 0) : SrcV w (.slice a 0 c) [] := by
  cases a with
  | none => rw [h rfl]; exact .inl ⟨rfl, rfl⟩
  | some ad => exact .inr ⟨ad, c, rfl, fun j x hj => by simp at hj⟩
end Go.Proofs.Ytlcepokenaiggaa

/-! Ln3 -/
namespace Go.Proofs.Ytlcepokenaiggaa
open Go.RowKit

def GivesS (ss : List ByteArray) (w : World) (e : Ending) (w' : World) : Prop :=
  ∃ v, OwnS w.heap.size w' v ss ∧ Below w.heap.size w w' ∧ e = .returned v
theorem OwnS.src {base : Nat} {w : World} {v : Value} {L : List ByteArray} (h : OwnS base w v L) : SrcV w v (L.map Value.string) := by
  rcases h.cells with ⟨rfl, rfl⟩ | ⟨g, cap, rfl, _, _, _, _, hx, _⟩
  · exact .inl ⟨rfl, rfl⟩
  · refine .inr ⟨⟨g, 0, none⟩, cap, by simp, fun j x hj => ?_⟩
    have hj' : j < L.length := by have := (List.getElem?_eq_some_iff.1 hj).1; simpa using this
    rw [addr_add, hx j hj', ← hj]
    simp [hj']
theorem one_strs (L : List ByteArray) : ∀ y ∈ L.map Value.string, y.oneCell' = true := by
  intro y hy
  rw [List.mem_map] at hy
  obtain ⟨k, _, rfl⟩ := hy
  rfl
theorem one_str1 (m : ByteArray) : ∀ u ∈ [Value.string m], u.oneCell' = true := by
  intro u hu
  simp at hu
  subst hu
  rfl
theorem OwnS.snoc1 {base : Nat} {w : World} {v : Value} {xs : List ByteArray} {m : ByteArray} (h : w.ownsRow base 9 1 v (xs.length + 1) (xs.map Value.string ++ [Value.string m])) : OwnS base w v (xs ++ [m]) := by
  unfold OwnS
  rw [List.length_append, List.map_append]
  exact h
theorem OwnS.app1 {base : Nat} {w : World} {v : Value} {A B : List ByteArray} (h : w.ownsRow base 9 1 v (A.length + (B.map Value.string).length) (A.map Value.string ++ B.map Value.string)) : OwnS base w v (A ++ B) := by
  unfold OwnS
  rw [List.length_append, List.map_append]
  rw [List.length_map] at h
  exact h

set_option maxRecDepth 100000 in
set_option maxHeartbeats 2000000 in
theorem lnInner_any (t : Tr) : ∀ (w : World), t.carets ≤ 60 →
    Calls Try.prog 53 #[.string t.str] w (GivesS t.inn w) := by
  obtain ⟨i0, hi, hz0, hz1, hz2⟩ := info_parts info_str
  induction t with
  | lf =>
    intro w ht
    go_enter Try.func53, Try.ntmps53
    go_wp2_with fail
    refine (trLeaf_any .lf _).mono ?_; rintro e w1 ⟨rfl, rfl⟩
    simp only [Tr.isLf]
    go_wp2_with fail
    go_ret
    exact ⟨_, OwnS.nil _ _, Below.refl _ _, rfl⟩
  | nd l r ihl ihr =>
    intro w ht
    have ht' : l.carets + r.carets + 1 ≤ 60 := ht
    have jl := fun w => ihl w (by omega)
    have jr := fun w => ihr w (by omega)
    have ll : (l.inn).length = l.carets := inn_length l
    have lr : (r.inn).length = r.carets := inn_length r
    obtain ⟨A, hA⟩ : ∃ A, A = l.inn := ⟨_, rfl⟩
    obtain ⟨B, hB⟩ : ∃ B, B = r.inn := ⟨_, rfl⟩
    have hC : (Tr.nd l r).inn = (A ++ [inK r.isLf]) ++ B := by rw [hA, hB]; simp [Tr.inn]
    rw [← hA] at ll jl
    rw [← hB] at lr jr
    rw [hC]
    clear ihl ihr hA hB hC
    cases hk : r.isLf with
    | true =>
      show Calls _ _ _ _ (GivesS ((A ++ [(⟨#[73, 48]⟩ : ByteArray)]) ++ B) w)
      go_enter Try.func53, Try.ntmps53
      go_wp2_with fail
      refine (trLeaf_any (.nd l r) _).mono ?_; rintro e w1 ⟨rfl, rfl⟩
      simp only [Tr.isLf]
      go_wp2_with fail
      refine (trSides_any l r _ (by omega)).mono ?_; rintro e w2 ⟨rfl, hb2⟩
      go_wp2_with fail
      refine (trLeaf_any r _).mono ?_; rintro e w1 ⟨rfl, rfl⟩
      simp only [hk]
      go_wp2_with fail
      refine (jl _).mono ?_; rintro e w3 ⟨v3, own3, hb3, rfl⟩
      have hs3 := hb3.size
      go_wp2_with (at_builtin; refine wpList_append_own _ rfl _ _ 22 rfl w2.heap.size 9 i0 (.string ⟨#[]⟩) 1 16 Try.underlying22 hi hz0 hz1 hz2 rfl (by decide) _ _ _ rfl (own3.alloc _) ⟨w3.heap.size, 0, none⟩ 1 1 [.string (⟨#[73, 48]⟩ : ByteArray)] rfl rfl (new1 _ _ _) (one_str1 _) (by unfold maxLen; omega) (by omega) (by simp; omega) ?_; intro v' w9 hown' hgrow hnn)
      have hbw9 := (nxAlloc hb3 (.cells #[.string (⟨#[73, 48]⟩ : ByteArray)] 9 (0, 0))).grown hgrow (by simp; omega) (fun k hk => ownsRow_ge own3 k hk)
      have own9 := OwnS.snoc1 hown'
      clear own3 hown' hgrow hnn hb3
      go_wp2_with fail
      refine (jr _).mono ?_; rintro e w4 ⟨v4, own4, hb4, rfl⟩
      have hbw4 := nx hbw9 hb4
      have own94 := own9.keep hb4
      have hs4 := hbw4.size
      have e94 : (A ++ [(⟨#[73, 48]⟩ : ByteArray)]).length = A.length + 1 := by simp
      unfold OwnS at own94
      rw [e94] at own94
      clear own9 hbw9 hb4
      go_wp2_with (at_builtin; refine wpList_appSrc rfl _ _ 22 rfl w2.heap.size 9 i0 (.string ⟨#[]⟩) 16 Try.underlying22 hi hz0 hz1 hz2 rfl _ _ _ rfl own94 _ _ rfl own4.src (one_strs _) (by rw [List.length_map]; unfold maxLen; omega) (by rw [List.length_map]; omega) hs4 ?_; intro v8 w8 hown8 hb8 hnn8)
      have hbw8 := hbw4.trans hb8
      rw [← e94] at hown8
      have own8 := OwnS.app1 hown8
      clear own94 hown8 hnn8 own4 hb8
      go_wp2_with fail
      go_ret
      exact ⟨_, own8.mono hb2.size, nx hb2 hbw8, rfl⟩
    | false =>
      show Calls _ _ _ _ (GivesS ((A ++ [(⟨#[73, 82]⟩ : ByteArray)]) ++ B) w)
      go_enter Try.func53, Try.ntmps53
      go_wp2_with fail
      refine (trLeaf_any (.nd l r) _).mono ?_; rintro e w1 ⟨rfl, rfl⟩
      simp only [Tr.isLf]
      go_wp2_with fail
      refine (trSides_any l r _ (by omega)).mono ?_; rintro e w2 ⟨rfl, hb2⟩
      go_wp2_with fail
      refine (trLeaf_any r _).mono ?_; rintro e w1 ⟨rfl, rfl⟩
      simp only [hk]
      go_wp2_with fail
      refine (jl _).mono ?_; rintro e w3 ⟨v3, own3, hb3, rfl⟩
      have hs3 := hb3.size
      go_wp2_with (at_builtin; refine wpList_append_own _ rfl _ _ 22 rfl w2.heap.size 9 i0 (.string ⟨#[]⟩) 1 16 Try.underlying22 hi hz0 hz1 hz2 rfl (by decide) _ _ _ rfl (own3.alloc _) ⟨w3.heap.size, 0, none⟩ 1 1 [.string (⟨#[73, 82]⟩ : ByteArray)] rfl rfl (new1 _ _ _) (one_str1 _) (by unfold maxLen; omega) (by omega) (by simp; omega) ?_; intro v' w9 hown' hgrow hnn)
      have hbw9 := (nxAlloc hb3 (.cells #[.string (⟨#[73, 82]⟩ : ByteArray)] 9 (0, 0))).grown hgrow (by simp; omega) (fun k hk => ownsRow_ge own3 k hk)
      have own9 := OwnS.snoc1 hown'
      clear own3 hown' hgrow hnn hb3
      go_wp2_with fail
      refine (jr _).mono ?_; rintro e w4 ⟨v4, own4, hb4, rfl⟩
      have hbw4 := nx hbw9 hb4
      have own94 := own9.keep hb4
      have hs4 := hbw4.size
      have e94 : (A ++ [(⟨#[73, 82]⟩ : ByteArray)]).length = A.length + 1 := by simp
      unfold OwnS at own94
      rw [e94] at own94
      clear own9 hbw9 hb4
      go_wp2_with (at_builtin; refine wpList_appSrc rfl _ _ 22 rfl w2.heap.size 9 i0 (.string ⟨#[]⟩) 16 Try.underlying22 hi hz0 hz1 hz2 rfl _ _ _ rfl own94 _ _ rfl own4.src (one_strs _) (by rw [List.length_map]; unfold maxLen; omega) (by rw [List.length_map]; omega) hs4 ?_; intro v8 w8 hown8 hb8 hnn8)
      have hbw8 := hbw4.trans hb8
      rw [← e94] at hown8
      have own8 := OwnS.app1 hown8
      clear own94 hown8 hnn8 own4 hb8
      go_wp2_with fail
      go_ret
      exact ⟨_, own8.mono hb2.size, nx hb2 hbw8, rfl⟩

set_option maxRecDepth 100000 in
set_option maxHeartbeats 2000000 in
theorem lnLeft_any (t : Tr) : ∀ (w : World), t.carets ≤ 60 →
    Calls Try.prog 34 #[.string t.str] w (GivesS t.lft w) := by
  obtain ⟨i0, hi, hz0, hz1, hz2⟩ := info_parts info_str
  induction t with
  | lf =>
    intro w ht
    go_enter Try.func34, Try.ntmps34
    go_wp2_with fail
    refine (trLeaf_any .lf _).mono ?_; rintro e w1 ⟨rfl, rfl⟩
    simp only [Tr.isLf]
    go_wp2_with fail
    go_ret
    exact ⟨_, OwnS.nil _ _, Below.refl _ _, rfl⟩
  | nd l r ihl ihr =>
    intro w ht
    have ht' : l.carets + r.carets + 1 ≤ 60 := ht
    have jl := fun w => ihl w (by omega)
    have jr := fun w => lnInner_any r w (by omega)
    have ll : (l.lft).length = l.carets := lft_length l
    have lr : (r.inn).length = r.carets := inn_length r
    obtain ⟨A, hA⟩ : ∃ A, A = l.lft := ⟨_, rfl⟩
    obtain ⟨B, hB⟩ : ∃ B, B = r.inn := ⟨_, rfl⟩
    have hC : (Tr.nd l r).lft = (A ++ [sLL]) ++ B := by rw [hA, hB]; simp [Tr.lft]
    rw [← hA] at ll jl
    rw [← hB] at lr jr
    rw [hC]
    clear ihl ihr hA hB hC
    show Calls _ _ _ _ (GivesS ((A ++ [(⟨#[76, 76]⟩ : ByteArray)]) ++ B) w)
    go_enter Try.func34, Try.ntmps34
    go_wp2_with fail
    refine (trLeaf_any (.nd l r) _).mono ?_; rintro e w1 ⟨rfl, rfl⟩
    simp only [Tr.isLf]
    go_wp2_with fail
    refine (trSides_any l r _ (by omega)).mono ?_; rintro e w2 ⟨rfl, hb2⟩
    go_wp2_with fail
    refine (jl _).mono ?_; rintro e w3 ⟨v3, own3, hb3, rfl⟩
    have hs3 := hb3.size
    go_wp2_with (at_builtin; refine wpList_append_own _ rfl _ _ 22 rfl w2.heap.size 9 i0 (.string ⟨#[]⟩) 1 16 Try.underlying22 hi hz0 hz1 hz2 rfl (by decide) _ _ _ rfl (own3.alloc _) ⟨w3.heap.size, 0, none⟩ 1 1 [.string (⟨#[76, 76]⟩ : ByteArray)] rfl rfl (new1 _ _ _) (one_str1 _) (by unfold maxLen; omega) (by omega) (by simp; omega) ?_; intro v' w9 hown' hgrow hnn)
    have hbw9 := (nxAlloc hb3 (.cells #[.string (⟨#[76, 76]⟩ : ByteArray)] 9 (0, 0))).grown hgrow (by simp; omega) (fun k hk => ownsRow_ge own3 k hk)
    have own9 := OwnS.snoc1 hown'
    clear own3 hown' hgrow hnn hb3
    go_wp2_with fail
    refine (jr _).mono ?_; rintro e w4 ⟨v4, own4, hb4, rfl⟩
    have hbw4 := nx hbw9 hb4
    have own94 := own9.keep hb4
    have hs4 := hbw4.size
    have e94 : (A ++ [(⟨#[76, 76]⟩ : ByteArray)]).length = A.length + 1 := by simp
    unfold OwnS at own94
    rw [e94] at own94
    clear own9 hbw9 hb4
    go_wp2_with (at_builtin; refine wpList_appSrc rfl _ _ 22 rfl w2.heap.size 9 i0 (.string ⟨#[]⟩) 16 Try.underlying22 hi hz0 hz1 hz2 rfl _ _ _ rfl own94 _ _ rfl own4.src (one_strs _) (by rw [List.length_map]; unfold maxLen; omega) (by rw [List.length_map]; omega) hs4 ?_; intro v8 w8 hown8 hb8 hnn8)
    have hbw8 := hbw4.trans hb8
    rw [← e94] at hown8
    have own8 := OwnS.app1 hown8
    clear own94 hown8 hnn8 own4 hb8
    go_wp2_with fail
    go_ret
    exact ⟨_, own8.mono hb2.size, nx hb2 hbw8, rfl⟩

set_option maxRecDepth 100000 in
set_option maxHeartbeats 2000000 in
theorem lnRight_any (t : Tr) : ∀ (w : World), t.carets ≤ 60 →
    Calls Try.prog 35 #[.string t.str] w (GivesS t.rgt w) := by
  obtain ⟨i0, hi, hz0, hz1, hz2⟩ := info_parts info_str
  induction t with
  | lf =>
    intro w ht
    go_enter Try.func35, Try.ntmps35
    go_wp2_with fail
    refine (trLeaf_any .lf _).mono ?_; rintro e w1 ⟨rfl, rfl⟩
    simp only [Tr.isLf]
    go_wp2_with fail
    go_ret
    exact ⟨_, OwnS.nil _ _, Below.refl _ _, rfl⟩
  | nd l r ihl ihr =>
    intro w ht
    have ht' : l.carets + r.carets + 1 ≤ 60 := ht
    have jl := fun w => lnInner_any l w (by omega)
    have jr := fun w => ihr w (by omega)
    have ll : (l.inn).length = l.carets := inn_length l
    have lr : (r.rgt).length = r.carets := rgt_length r
    obtain ⟨A, hA⟩ : ∃ A, A = l.inn := ⟨_, rfl⟩
    obtain ⟨B, hB⟩ : ∃ B, B = r.rgt := ⟨_, rfl⟩
    have hC : (Tr.nd l r).rgt = (A ++ [sR]) ++ B := by rw [hA, hB]; simp [Tr.rgt]
    rw [← hA] at ll jl
    rw [← hB] at lr jr
    rw [hC]
    clear ihl ihr hA hB hC
    show Calls _ _ _ _ (GivesS ((A ++ [(⟨#[82]⟩ : ByteArray)]) ++ B) w)
    go_enter Try.func35, Try.ntmps35
    go_wp2_with fail
    refine (trLeaf_any (.nd l r) _).mono ?_; rintro e w1 ⟨rfl, rfl⟩
    simp only [Tr.isLf]
    go_wp2_with fail
    refine (trSides_any l r _ (by omega)).mono ?_; rintro e w2 ⟨rfl, hb2⟩
    go_wp2_with fail
    refine (jl _).mono ?_; rintro e w3 ⟨v3, own3, hb3, rfl⟩
    have hs3 := hb3.size
    go_wp2_with (at_builtin; refine wpList_append_own _ rfl _ _ 22 rfl w2.heap.size 9 i0 (.string ⟨#[]⟩) 1 16 Try.underlying22 hi hz0 hz1 hz2 rfl (by decide) _ _ _ rfl (own3.alloc _) ⟨w3.heap.size, 0, none⟩ 1 1 [.string (⟨#[82]⟩ : ByteArray)] rfl rfl (new1 _ _ _) (one_str1 _) (by unfold maxLen; omega) (by omega) (by simp; omega) ?_; intro v' w9 hown' hgrow hnn)
    have hbw9 := (nxAlloc hb3 (.cells #[.string (⟨#[82]⟩ : ByteArray)] 9 (0, 0))).grown hgrow (by simp; omega) (fun k hk => ownsRow_ge own3 k hk)
    have own9 := OwnS.snoc1 hown'
    clear own3 hown' hgrow hnn hb3
    go_wp2_with fail
    refine (jr _).mono ?_; rintro e w4 ⟨v4, own4, hb4, rfl⟩
    have hbw4 := nx hbw9 hb4
    have own94 := own9.keep hb4
    have hs4 := hbw4.size
    have e94 : (A ++ [(⟨#[82]⟩ : ByteArray)]).length = A.length + 1 := by simp
    unfold OwnS at own94
    rw [e94] at own94
    clear own9 hbw9 hb4
    go_wp2_with (at_builtin; refine wpList_appSrc rfl _ _ 22 rfl w2.heap.size 9 i0 (.string ⟨#[]⟩) 16 Try.underlying22 hi hz0 hz1 hz2 rfl _ _ _ rfl own94 _ _ rfl own4.src (one_strs _) (by rw [List.length_map]; unfold maxLen; omega) (by rw [List.length_map]; omega) hs4 ?_; intro v8 w8 hown8 hb8 hnn8)
    have hbw8 := hbw4.trans hb8
    rw [← e94] at hown8
    have own8 := OwnS.app1 hown8
    clear own94 hown8 hnn8 own4 hb8
    go_wp2_with fail
    go_ret
    exact ⟨_, own8.mono hb2.size, nx hb2 hbw8, rfl⟩
end Go.Proofs.Ytlcepokenaiggaa

/-! Ln4 -/
namespace Go.Proofs.Ytlcepokenaiggaa
open Go.RowKit

theorem take_snoc {L : List ByteArray} {k : Nat} (h : k < L.length) (F : List ByteArray) : L.take (k + 1) ++ F = L.take k ++ L.getD k ⟨#[]⟩ :: F := by
  rw [List.take_succ_eq_append_getElem h, List.append_assoc]
  simp [h]
theorem set_mid {L : List ByteArray} {k : Nat} (h : k < L.length) (x y : ByteArray) (F : List ByteArray) : (L.take k ++ x :: F).set k y = L.take k ++ y :: F := by
  rw [List.set_append_right _ _ (by rw [List.length_take]; omega), List.length_take]
  have : k - min k L.length = 0 := by omega
  rw [this]
  rfl
theorem mid_len {L F : List ByteArray} {k : Nat} (h : k < L.length) (x : ByteArray) (hF : F.length = L.length - (k + 1)) : (L.take k ++ x :: F).length = L.length := by
  rw [List.length_append, List.length_take, List.length_cons, hF]
  omega
theorem mid_get {L F : List ByteArray} {k : Nat} (h : k < L.length) (x : ByteArray) : (L.take k ++ x :: F).getD k ⟨#[]⟩ = x := by
  have hl : (L.take k).length = k := by rw [List.length_take]; omega
  rw [List.getD_eq_getElem?_getD, List.getElem?_append_right (by omega), hl, Nat.sub_self]; rfl
theorem mid_next {L F : List ByteArray} {k : Nat} (h : k < L.length) (x : ByteArray) : (L.take k ++ x :: F).getD (k + 1) ⟨#[]⟩ = F.headD ⟨#[]⟩ := by
  have hl : (L.take k).length = k := by rw [List.length_take]; omega
  rw [List.getD_eq_getElem?_getD, List.getElem?_append_right (by omega), hl, show k + 1 - k = 1 by omega]
  cases F <;> rfl
/-- One caret more. -/
theorem finF_drop {L : List ByteArray} {k : Nat} (h : k < L.length) : finF (L.drop k) = finF (L.getD k ⟨#[]⟩ :: L.drop (k + 1)) := by
  rw [List.drop_eq_getElem_cons h]
  simp [h]
theorem finF_dlen (L : List ByteArray) (k : Nat) : (finF (L.drop k)).1.length = L.length - k := by rw [finF_length, List.length_drop]
theorem toL_ne {x : ByteArray} {s : ByteArray} {l : List UInt8} (hs : s.data.toList = l) (h : x ≠ s) : (x.toList == l) = false := by
  rw [beq_eq_false_iff_ne, Lib.toList_data]
  intro e
  exact h (ba_ext (by rw [e, hs]))

set_option maxRecDepth 100000 in
set_option maxHeartbeats 4000000 in
theorem lnKinds_any (t : Tr) (w : World) (ht : t.carets ≤ 60) :
    Calls Try.prog 18 #[.string t.str] w (GivesS t.kinds w) := by
  obtain ⟨i0, hi, hz0, hz1, hz2⟩ := info_parts info_str
  cases t with
  | lf =>
    go_enter Try.func18, Try.ntmps18
    go_wp2_with fail
    refine (trLeaf_any .lf _).mono ?_; rintro e w1 ⟨rfl, rfl⟩
    simp only [Tr.isLf]
    go_wp2_with fail
    go_ret
    exact ⟨_, OwnS.nil _ _, Below.refl _ _, rfl⟩
  | nd l r =>
    have ht' : l.carets + r.carets + 1 ≤ 60 := ht
    have jl := fun w => lnLeft_any l w (by omega)
    have jr := fun w => lnRight_any r w (by omega)
    have ll := lft_length l
    have lr := rgt_length r
    have hfin : (Tr.nd l r).kinds = (finF (firstK (Tr.nd l r).raw)).1 := rfl
    obtain ⟨A, hA⟩ : ∃ A, A = l.lft := ⟨_, rfl⟩
    obtain ⟨B, hB⟩ : ∃ B, B = r.rgt := ⟨_, rfl⟩
    have hC : (Tr.nd l r).raw = (A ++ [sLL]) ++ B := by rw [hA, hB]; simp [Tr.raw]
    rw [← hA] at ll jl
    rw [← hB] at lr jr
    rw [hC] at hfin
    have HFIN := Lib.hid hfin
    clear hA hB hC hfin
    go_enter Try.func18, Try.ntmps18
    go_wp2_with fail
    refine (trLeaf_any (.nd l r) _).mono ?_; rintro e w1 ⟨rfl, rfl⟩
    simp only [Tr.isLf]
    go_wp2_with fail
    refine (trSides_any l r _ (by omega)).mono ?_; rintro e w2 ⟨rfl, hb2⟩
    go_wp2_with fail
    refine (jl _).mono ?_; rintro e w3 ⟨v3, own3, hb3, rfl⟩
    have hs3 := hb3.size
    go_wp2_with (at_builtin; refine wpList_append_own _ rfl _ _ 22 rfl w2.heap.size 9 i0 (.string ⟨#[]⟩) 1 16 Try.underlying22 hi hz0 hz1 hz2 rfl (by decide) _ _ _ rfl (own3.alloc _) ⟨w3.heap.size, 0, none⟩ 1 1 [.string (⟨#[76, 76]⟩ : ByteArray)] rfl rfl (new1 _ _ _) (one_str1 _) (by unfold maxLen; omega) (by omega) (by simp; omega) ?_; intro v' w9 hown' hgrow hnn)
    have hbw9 := (nxAlloc hb3 (.cells #[.string (⟨#[76, 76]⟩ : ByteArray)] 9 (0, 0))).grown hgrow (by simp; omega) (fun k hk => ownsRow_ge own3 k hk)
    have own9 := OwnS.snoc1 hown'
    clear own3 hown' hgrow hnn hb3
    go_wp2_with fail
    refine (jr _).mono ?_; rintro e w4 ⟨v4, own4, hb4, rfl⟩
    have hbw4 := nx hbw9 hb4
    have own94 := own9.keep hb4
    have hs4 := hbw4.size
    have e94 : (A ++ [(⟨#[76, 76]⟩ : ByteArray)]).length = A.length + 1 := by simp
    unfold OwnS at own94
    rw [e94] at own94
    clear own9 hbw9 hb4
    go_wp2_with (at_builtin; refine wpList_appSrc rfl _ _ 22 rfl w2.heap.size 9 i0 (.string ⟨#[]⟩) 16 Try.underlying22 hi hz0 hz1 hz2 rfl _ _ _ rfl own94 _ _ rfl own4.src (one_strs _) (by rw [List.length_map]; unfold maxLen; omega) (by rw [List.length_map]; omega) hs4 ?_; intro v8 w8 hown8 hb8 hnn8)
    have hbw8 := hbw4.trans hb8
    rw [← e94] at hown8
    have own8 := OwnS.app1 hown8
    clear own94 hown8 hnn8 own4 hb8

    have hraw : ((A ++ [(⟨#[76, 76]⟩ : ByteArray)]) ++ B).length = l.carets + r.carets + 1 := by rw [List.length_append, List.length_append, ll, lr]; show l.carets + 1 + r.carets = _; omega
    obtain ⟨g, cap, hv⟩ := own8.shape (by omega)
    subst hv
    have hL9 : firstK ((A ++ [sLL]) ++ B) = ((A ++ [(⟨#[76, 76]⟩ : ByteArray)]) ++ B).set 0 sL0 := by
      show firstK ((A ++ [(⟨#[76, 76]⟩ : ByteArray)]) ++ B) = _
      cases hq : (A ++ [(⟨#[76, 76]⟩ : ByteArray)]) ++ B with
      | nil => rw [hq] at hraw; simp at hraw
      | cons x q => rfl
    have hset := OwnS.set rfl own8 0 sL0
    rw [← hL9] at hset
    have hLl : (firstK ((A ++ [sLL]) ++ B)).length = l.carets + r.carets + 1 := by rw [firstK_length]; exact hraw
    rw [hraw] at hset ⊢
    have hrow := own8
    unfold OwnS at hrow
    have hfz : w8.frozen? ⟨g, 0, none⟩ = false := World.ownsRow.frozenAt hrow 0
    obtain ⟨x0, hc0⟩ : ∃ x, w8.cell? ⟨g, 0, none⟩ = some x := by
      have := World.ownsRow.cellAt hrow 0 (by omega)
      rw [this]
      exact ⟨_, List.getElem?_eq_getElem (by rw [List.length_map]; omega)⟩
    have hgb : w2.heap.size ≤ g := ownsRow_ge own8 g rfl
    have hgB : w.heap.size ≤ g := Nat.le_trans hb2.size hgb
    have hbw : Below w.heap.size w (w8.setCell ⟨g, 0, none⟩ (.string sL0)) := (nx hb2 hbw8).setCell hgB _
    have hb2s := hb2.size
    clear hrow own8 hbw8 hb2 hL9 jl jr
    obtain ⟨L, hL⟩ : ∃ L, L = firstK ((A ++ [sLL]) ++ B) := ⟨_, rfl⟩
    rw [← hL] at hset hLl
    have hfin := HFIN.out
    rw [← hL] at hfin
    have HF2 := Lib.hid hfin
    clear HFIN hfin hL ll lr hraw
    obtain ⟨n, hn⟩ : ∃ n, n = l.carets + r.carets + 1 := ⟨_, rfl⟩
    rw [← hn] at hset hLl ⊢
    have hn9 : n ≤ 60 := by omega
    have hn0 : 0 < n := by omega
    have HSET := Lib.hid hset
    have HLL := Lib.hid hLl
    clear hn ht ht' hset hLl e94
    unfold sL0 at HSET hbw
    have hn0' : (0 : Int) < (n : Int) := by omega
    have hwn : IntKind.i64.wrap ((n : Int) - 1) = (n : Int) - 1 := by rw [IntKind.wrap_i64]; omega
    go_simp
    go_wp2_with fail
    generalize w8.setCell ⟨g, 0, none⟩ (.string ⟨#[76, 48]⟩) = w10 at *
    clear hc0 hfz
    go_loopw [6, 7] (fun b i wr => ∃ j : Nat, j ≤ n ∧ i = .int .i64 ((j : Int) - 1) ∧ Hid (b = .bool (finF (L.drop j)).2) ∧ Hid (OwnS w2.heap.size wr (.slice (some ⟨g, 0, none⟩) n cap) (L.take j ++ (finF (L.drop j)).1)) ∧ Below w.heap.size w wr) (fun _ i _ => (intOf i + 1).toNat)
    case atStart =>
      have hl := HLL.out
      refine ⟨n, Nat.le_refl _, rfl, ?_, ?_, hbw⟩
      · rw [List.drop_of_length_le (by omega)]; exact Lib.hid rfl
      · have := HSET.out
        rw [List.drop_of_length_le (by omega), List.take_of_length_le (by omega)]
        show OwnS _ _ _ (L ++ [])
        rw [List.append_nil]
        exact this
    case round =>
      obtain ⟨j, hj, rfl, hlate, hownH, hbw⟩ := hrel
      by_cases hlt : 0 < j
      · obtain ⟨k, rfl⟩ : ∃ k, j = k + 1 := ⟨j - 1, by omega⟩
        have hkL : k < L.length := by rw [HLL.out]; omega
        have hd := finF_drop hkL
        have hfl := finF_dlen L (k + 1)
        have hLl := HLL.out
        have hown := hownH.out
        clear hownH
        rw [take_snoc hkL] at hown
        have hl0 : (finF (L.drop (k + 1))).2 = false → 0 < (finF (L.drop (k + 1))).1.length := by
          intro h
          have := finF_late _ h
          rw [finF_length]
          exact List.length_pos_iff.2 this
        rw [finF_step] at hd
        have hlt' := hlate.out
        subst hlt'
        have e0 : ((k + 1 : Nat) : Int) - 1 = (k : Int) := by omega
        rw [e0]
        have hk0 : 0 ≤ (k : Int) := by omega
        have hkn : (k : Int) < (n : Int) := by omega
        generalize L.getD k ⟨#[]⟩ = x at *
        have hFl : (finF (L.drop (k + 1))).1.length = L.length - (k + 1) := hfl
        have HD := Lib.hid hd
        clear hd hlate
        generalize finF (L.drop (k + 1)) = P at *
        obtain ⟨F, b⟩ := P
        dsimp only at hown hl0 hFl hfl
        have hmid := mid_len (L := L) hkL x hFl
        rcases hown.cells with ⟨h0, _⟩ | ⟨g', cap', hv', hbase, hgs, hcn, hcm, hcells, hfz⟩
        · simp at h0
        simp only [Value.slice.injEq, Option.some.injEq, Addr.mk.injEq, and_true] at hv'
        obtain ⟨rfl, _, rfl⟩ := hv'
        have c1 := hcells k (by omega)
        rw [mid_get hkL] at c1
        have hrow := hown
        unfold OwnS at hrow
        rw [hmid, hLl] at hrow
        have hfz : wr.frozen? ⟨g, k, none⟩ = false := World.ownsRow.frozenAt hrow k
        by_cases hx : x = sR
        · subst hx
          cases b with
          | true =>
            have hd := HD.out
            rw [if_pos rfl, if_pos rfl] at hd
            have HD2 := Lib.hid hd
            clear HD hd hfl hl0 hrow
            unfold sR at c1
            have hset := OwnS.set (hmid.trans hLl) hown k sR0
            rw [set_mid hkL] at hset
            have hbw' : Below w.heap.size w (wr.setCell ⟨g, k, none⟩ (.string sR0)) := hbw.setCell hgB _
            have HS := Lib.hid hset
            clear hset hown hcells e0 hFl hmid hLl hwn hs3 hs4 hgs hbase hcn hcm
            unfold sR0 at HS hbw'
            go_wp2_with fail
            go_roundw
            case rel => exact ⟨k, by omega, by go_num, by rw [HD2.out]; exact Lib.hid rfl, by rw [HD2.out]; exact HS, hbw'⟩
            case measure => simp [intOf]
          | false =>
            have hF0 := hl0 rfl
            have hk1 : k + 1 < n := by omega
            have hk1' : (k : Int) + 1 < (n : Int) := by omega
            have hk10 : 0 ≤ (k : Int) + 1 := by omega
            have hwk : IntKind.i64.wrap ((k : Int) + 1) = (k : Int) + 1 := by rw [IntKind.wrap_i64]; omega
            have htk : ((k : Int) + 1).toNat = k + 1 := by omega
            have c2 := hcells (k + 1) (by omega)
            rw [mid_next hkL] at c2
            have hd := HD.out
            rw [if_pos rfl, if_neg (by simp)] at hd
            dsimp only at hd
            generalize F.headD ⟨#[]⟩ = y at *
            unfold sR at c1
            by_cases hy1 : y = sI0
            · subst hy1
              rw [if_pos (by decide)] at hd
              have HD2 := Lib.hid hd
              clear HD hd hfl hl0 hrow
              unfold sI0 at c2
              have hset := OwnS.set (hmid.trans hLl) hown k sRI
              rw [set_mid hkL] at hset
              have hbw' : Below w.heap.size w (wr.setCell ⟨g, k, none⟩ (.string sRI)) := hbw.setCell hgB _
              have HS := Lib.hid hset
              clear hset hown hcells e0 hFl hmid hLl hwn hs3 hs4 hgs hbase hcn hcm
              unfold sRI at HS hbw'
              go_wp2_with fail
              go_roundw
              case rel => exact ⟨k, by omega, by go_num, by rw [HD2.out]; exact Lib.hid rfl, by rw [HD2.out]; exact HS, hbw'⟩
              case measure => simp [intOf]
            · have hz1 := toL_ne (x := y) (s := sI0) (l := [73, 48]) rfl hy1
              by_cases hy2 : y = sIR
              · subst hy2
                rw [if_pos (by decide)] at hd
                have HD2 := Lib.hid hd
                clear HD hd hfl hl0 hrow hy1
                unfold sIR at c2 hz1
                have hset := OwnS.set (hmid.trans hLl) hown k sRI
                rw [set_mid hkL] at hset
                have hbw' : Below w.heap.size w (wr.setCell ⟨g, k, none⟩ (.string sRI)) := hbw.setCell hgB _
                have HS := Lib.hid hset
                clear hset hown hcells e0 hFl hmid hLl hwn hs3 hs4 hgs hbase hcn hcm
                unfold sRI at HS hbw'
                go_wp2_with fail
                go_roundw
                case rel => exact ⟨k, by omega, by go_num, by rw [HD2.out]; exact Lib.hid rfl, by rw [HD2.out]; exact HS, hbw'⟩
                case measure => simp [intOf]
              · have hz2 := toL_ne (x := y) (s := sIR) (l := [73, 82]) rfl hy2
                rw [if_neg (by simp [isNe, hy1, hy2])] at hd
                have HD2 := Lib.hid hd
                clear HD hd hfl hl0 hrow hy1 hy2
                have hset := OwnS.set (hmid.trans hLl) hown k sRN
                rw [set_mid hkL] at hset
                have hbw' : Below w.heap.size w (wr.setCell ⟨g, k, none⟩ (.string sRN)) := hbw.setCell hgB _
                have HS := Lib.hid hset
                clear hset hown hcells e0 hFl hmid hLl hwn hs3 hs4 hgs hbase hcn hcm
                unfold sRN at HS hbw'
                go_wp2_with fail
                go_roundw
                case rel => exact ⟨k, by omega, by go_num, by rw [HD2.out]; exact Lib.hid rfl, by rw [HD2.out]; exact HS, hbw'⟩
                case measure => simp [intOf]
        · have hz := toL_ne (x := x) (s := sR) (l := [82]) rfl hx
          have hd := HD.out
          rw [if_neg hx] at hd
          have HD2 := Lib.hid hd
          have HS := Lib.hid hown
          clear HD hd hfl hl0 hrow hx hown hcells e0 hFl hmid hLl hwn hs3 hs4 hgs hbase hcn hcm
          go_wp2_with fail
          go_roundw
          case rel => exact ⟨k, by omega, by go_num, by rw [HD2.out]; exact Lib.hid rfl, by rw [HD2.out]; exact HS, hbw⟩
          case measure => simp [intOf]
      · obtain rfl : j = 0 := by omega
        have hown := hownH.out
        clear hownH
        rw [List.take_zero, List.nil_append, List.drop_zero, ← HF2.out] at hown
        have HO := Lib.hid hown
        clear hlate hown
        go_wp2_with fail
        go_ret
        exact ⟨_, HO.out.mono hb2s, hbw, rfl⟩
end Go.Proofs.Ytlcepokenaiggaa

/-! Cont -/
namespace Go.Proofs.Ytlcepokenaiggaa
open Go.RowKit
/-- The index of the first byte c from an index on. -/
def idxC (s : ByteArray) (c : UInt8) : Int := Lib.indexByte s.data.toList c
theorem idxC_neg (l : List UInt8) (c : UInt8) : (Lib.indexByte l c = -1 ∧ ¬ c ∈ l) ∨ (0 ≤ Lib.indexByte l c ∧ c ∈ l) := by
  induction l with
  | nil => exact .inl ⟨rfl, by simp⟩
  | cons a l ih =>
    unfold Lib.indexByte
    by_cases h : (a == c) = true
    · rw [if_pos h]
      have : a = c := by simpa using h
      exact .inr ⟨by omega, by simp [this]⟩
    · rw [if_neg h]
      have hne : a ≠ c := by simpa using h
      rcases ih with ⟨h1, h2⟩ | ⟨h1, h2⟩
      · exact .inl ⟨by rw [h1]; rfl, by simp [h2, Ne.symm hne]⟩
      · right
        have : (Lib.indexByte l c == -1) = false := by rw [beq_eq_false_iff_ne]; omega
        simp only [this]
        exact ⟨by simp; omega, by simp [h2]⟩

set_option maxRecDepth 100000 in
set_option maxHeartbeats 1000000 in
theorem indexByteC_any (s : ByteArray) (c : UInt8) (w : World) :
    Calls Try.prog 107 #[.string s, .int .u8 c.toNat] w fun e w' => e = .returned (.int .i64 (idxC s c)) ∧ w = w' := by
  go_enter Try.func107, Try.ntmps107
  go_wp2
  rw [run_callFunc_extern Try.func116 (by kernel_rfl) (by kernel_rfl) (by kernel_rfl) (e := Extern.BytealgIndexByte.indexByte) (by kernel_rfl), Lib.run_indexByteString]
  simp only [Result.andThen]
  rw [Oper.upon_value]
  go_wp2
  go_ret
  refine ⟨ret_int ?_, rfl⟩
  unfold idxC
  simp

set_option maxRecDepth 100000 in
set_option maxHeartbeats 1000000 in
theorem idxA48_any (s : ByteArray) (w : World) :
    Calls Try.prog 99 #[.string s, .string ⟨#[48]⟩] w fun e w' => e = .returned (.int .i64 (idxC s 48)) ∧ w = w' := by
  have hI := fun w => indexByteC_any s 48 w
  have gz : ((⟨#[48]⟩ : ByteArray)[0]'(by decide)).toNat = 48 := rfl
  have ez : ((48 : UInt8).toNat : Int) = 48 := rfl
  rw [ez] at hI
  cases hq : ([48] == s.toList) with
  | true =>
    have h0 : idxC s 48 = 0 := by
      unfold idxC
      rw [← Lib.toList_data, ← (beq_iff_eq.1 hq)]
      rfl
    rw [h0]
    clear hI h0 ez
    go_enter Try.func99, Try.ntmps99
    go_wp2_with fail
    go_ret
    exact ⟨rfl, rfl⟩
  | false =>
    generalize idxC s 48 = z at *
    clear ez
    go_enter Try.func99, Try.ntmps99
    go_wp2_with fail
    refine (hI _).mono ?_; rintro e w1 ⟨rfl, rfl⟩
    go_wp2_with fail
    go_ret
    exact ⟨rfl, rfl⟩

theorem idxB48_any (s : ByteArray) (w : World) :
    Calls Try.prog 87 #[.string s, .string ⟨#[48]⟩] w fun e w' => e = .returned (.int .i64 (idxC s 48)) ∧ w = w' := by
  have hI := fun w => idxA48_any s w
  generalize idxC s 48 = z at *
  go_enter Try.func87, Try.ntmps87
  go_wp2_with fail
  refine (hI _).mono ?_; rintro e w1 ⟨rfl, rfl⟩
  go_wp2_with fail
  go_ret
  exact ⟨rfl, rfl⟩
theorem cont48_any (s : ByteArray) (w : World) :
    Calls Try.prog 74 #[.string s, .string ⟨#[48]⟩] w fun e w' => e = .returned (.bool (decide ((48 : UInt8) ∈ s.data.toList))) ∧ w = w' := by
  have hI := fun w => idxB48_any s w
  have hs := idxC_neg s.data.toList 48
  rw [show Lib.indexByte s.data.toList 48 = idxC s 48 from rfl] at hs
  generalize idxC s 48 = z at *
  rcases hs with ⟨rfl, h⟩ | ⟨h1, h⟩
  · rw [decide_eq_false h]
    clear h
    go_enter Try.func74, Try.ntmps74
    go_wp2_with fail
    refine (hI _).mono ?_; rintro e w1 ⟨rfl, rfl⟩
    go_wp2_with fail
    go_ret
    exact ⟨rfl, rfl⟩
  · rw [decide_eq_true h]
    clear h
    go_enter Try.func74, Try.ntmps74
    go_wp2_with fail
    refine (hI _).mono ?_; rintro e w1 ⟨rfl, rfl⟩
    go_wp2_with fail
    go_ret
    exact ⟨rfl, rfl⟩

set_option maxRecDepth 100000 in
set_option maxHeartbeats 1000000 in
theorem idxA49_any (s : ByteArray) (w : World) :
    Calls Try.prog 99 #[.string s, .string ⟨#[49]⟩] w fun e w' => e = .returned (.int .i64 (idxC s 49)) ∧ w = w' := by
  have hI := fun w => indexByteC_any s 49 w
  have gz : ((⟨#[49]⟩ : ByteArray)[0]'(by decide)).toNat = 49 := rfl
  have ez : ((49 : UInt8).toNat : Int) = 49 := rfl
  rw [ez] at hI
  cases hq : ([49] == s.toList) with
  | true =>
    have h0 : idxC s 49 = 0 := by
      unfold idxC
      rw [← Lib.toList_data, ← (beq_iff_eq.1 hq)]
      rfl
    rw [h0]
    clear hI h0 ez
    go_enter Try.func99, Try.ntmps99
    go_wp2_with fail
    go_ret
    exact ⟨rfl, rfl⟩
  | false =>
    generalize idxC s 49 = z at *
    clear ez
    go_enter Try.func99, Try.ntmps99
    go_wp2_with fail
    refine (hI _).mono ?_; rintro e w1 ⟨rfl, rfl⟩
    go_wp2_with fail
    go_ret
    exact ⟨rfl, rfl⟩

theorem idxB49_any (s : ByteArray) (w : World) :
    Calls Try.prog 87 #[.string s, .string ⟨#[49]⟩] w fun e w' => e = .returned (.int .i64 (idxC s 49)) ∧ w = w' := by
  have hI := fun w => idxA49_any s w
  generalize idxC s 49 = z at *
  go_enter Try.func87, Try.ntmps87
  go_wp2_with fail
  refine (hI _).mono ?_; rintro e w1 ⟨rfl, rfl⟩
  go_wp2_with fail
  go_ret
  exact ⟨rfl, rfl⟩
theorem cont49_any (s : ByteArray) (w : World) :
    Calls Try.prog 74 #[.string s, .string ⟨#[49]⟩] w fun e w' => e = .returned (.bool (decide ((49 : UInt8) ∈ s.data.toList))) ∧ w = w' := by
  have hI := fun w => idxB49_any s w
  have hs := idxC_neg s.data.toList 49
  rw [show Lib.indexByte s.data.toList 49 = idxC s 49 from rfl] at hs
  generalize idxC s 49 = z at *
  rcases hs with ⟨rfl, h⟩ | ⟨h1, h⟩
  · rw [decide_eq_false h]
    clear h
    go_enter Try.func74, Try.ntmps74
    go_wp2_with fail
    refine (hI _).mono ?_; rintro e w1 ⟨rfl, rfl⟩
    go_wp2_with fail
    go_ret
    exact ⟨rfl, rfl⟩
  · rw [decide_eq_true h]
    clear h
    go_enter Try.func74, Try.ntmps74
    go_wp2_with fail
    refine (hI _).mono ?_; rintro e w1 ⟨rfl, rfl⟩
    go_wp2_with fail
    go_ret
    exact ⟨rfl, rfl⟩


theorem has48_any (s : ByteArray) (w : World) : Calls Try.prog 74 #[.string s, .string ⟨#[48]⟩] w fun e w' => e = .returned (.bool (hasB s 48)) ∧ w = w' := by
  have := cont48_any s w
  rw [show decide ((48 : UInt8) ∈ s.data.toList) = hasB s 48 by unfold hasB; simp] at this
  exact this
theorem has49_any (s : ByteArray) (w : World) : Calls Try.prog 74 #[.string s, .string ⟨#[49]⟩] w fun e w' => e = .returned (.bool (hasB s 49)) ∧ w = w' := by
  have := cont49_any s w
  rw [show decide ((49 : UInt8) ∈ s.data.toList) = hasB s 49 by unfold hasB; simp] at this
  exact this
end Go.Proofs.Ytlcepokenaiggaa

/-! Node -/
namespace Go.Proofs.Ytlcepokenaiggaa
open Go.RowKit

/-- Block b is a node of the tree, and so on down. -/
def NodeAt (w : World) : Tr → Nat → Prop
  | .lf, b => w.heap[b]? = some (.cells #[.pointer none, .pointer none] 81 (0, 0))
  | .nd l r, b => ∃ bl br, w.heap[b]? = some (.cells #[.pointer (some ⟨bl, 0, none⟩), .pointer (some ⟨br, 0, none⟩)] 81 (0, 0)) ∧ NodeAt w l bl ∧ NodeAt w r br

theorem NodeAt.lt {w : World} {t : Tr} {b : Nat} (h : NodeAt w t b) : b < w.heap.size := by
  cases t with
  | lf => exact lt_of_block h
  | nd l r => obtain ⟨_, _, h, _⟩ := h; exact lt_of_block h

theorem NodeAt.keep {w w' : World} (hb : Below w.heap.size w w') : ∀ {t : Tr} {b : Nat}, NodeAt w t b → NodeAt w' t b := by
  intro t
  induction t with
  | lf => intro b h; exact (hb.block b h.lt).trans h
  | nd l r ihl ihr =>
    intro b h
    have hl := h.lt
    obtain ⟨bl, br, h, h1, h2⟩ := h
    exact ⟨bl, br, (hb.block b hl).trans h, ihl h1, ihr h2⟩

theorem two_left {w : World} {b : Nat} {u v : Value} {t : TypeId} (h : w.heap[b]? = some (.cells #[u, v] t (0, 0))) : w.cell? ⟨b, 0, none⟩ = some u := by simp [World.cell?, h]
theorem two_right {w : World} {b : Nat} {u v : Value} {t : TypeId} (h : w.heap[b]? = some (.cells #[u, v] t (0, 0))) : w.cell? ⟨b, 1, none⟩ = some v := by simp [World.cell?, h]

theorem heap_alloc_at (w : World) (o : Obj) : (w.alloc o).heap[w.heap.size]? = some o := by
  show (w.heap.push o)[w.heap.size]? = _
  simp

theorem node_new {w1 w2 : World} {l r : Tr} {b1 b2 : Nat} (h1 : NodeAt w1 l b1) (hb : Below w1.heap.size w1 w2) (h2 : NodeAt w2 r b2) :
    NodeAt (w2.alloc (.cells #[.pointer (some ⟨b1, 0, none⟩), .pointer (some ⟨b2, 0, none⟩)] 81 (0, 0))) (.nd l r) w2.heap.size := by
  have hb3 : Below w2.heap.size w2 (w2.alloc (.cells #[.pointer (some ⟨b1, 0, none⟩), .pointer (some ⟨b2, 0, none⟩)] 81 (0, 0))) := (Below.refl _ _).alloc (Nat.le_refl _) _
  exact ⟨b1, b2, heap_alloc_at _ _, (h1.keep hb).keep hb3, h2.keep hb3⟩

/-- What readPlace leaves where there is a tree. -/
def PlaceOk (t : Tr) (r : List UInt8) (s : ByteArray) (w : World) (e : Ending) (w' : World) : Prop :=
  ∃ (b : Nat) (s' : ByteArray), s'.data.toList = r ∧ s'.size < s.size ∧ NodeAt w' t b ∧ Below w.heap.size w w' ∧ e = .returned (.tuple #[.pointer (some ⟨b, 0, none⟩), .string s'])
def PlaceNo (w : World) (e : Ending) (w' : World) : Prop :=
  Below w.heap.size w w' ∧ e = .returned (.tuple #[.pointer none, .string ⟨#[]⟩])
def PlacePost (o : Option (Tr × List UInt8)) (s : ByteArray) (w : World) (e : Ending) (w' : World) : Prop :=
  match o with
  | some (t, r) => PlaceOk t r s w e w'
  | none => PlaceNo w e w'

end Go.Proofs.Ytlcepokenaiggaa

/-! Dots -/
namespace Go.Proofs.Ytlcepokenaiggaa

/-- The index of the leaf n in a text that begins at 'off', or -1. -/
def posFrom : List UInt8 → Nat → Int → Int
  | [], _, _ => -1
  | c :: r, off, n => if c = 46 then (if n = 0 then off else posFrom r (off + 1) (n - 1)) else posFrom r (off + 1) n

theorem posFrom_range : ∀ (l : List UInt8) (off : Nat) (n : Int), posFrom l off n = -1 ∨ (off ≤ posFrom l off n ∧ posFrom l off n < off + l.length) := by
  intro l
  induction l with
  | nil => intro off n; exact .inl rfl
  | cons c r ih =>
    intro off n
    rw [posFrom]
    have h1 := ih (off + 1) n
    have h2 := ih (off + 1) (n - 1)
    simp only [List.length_cons]
    repeat' split
    all_goals omega

theorem posFrom_neg : ∀ (l : List UInt8) (off : Nat) (n : Int), n < 0 → posFrom l off n = -1 := by
  intro l
  induction l with
  | nil => intro off n _; rfl
  | cons c r ih =>
    intro off n h
    rw [posFrom, ih _ _ h, ih _ (n - 1) (by omega)]
    have h0 : ¬ n = 0 := by omega
    simp [h0]

theorem posFrom_big : ∀ (l : List UInt8) (off : Nat) (n : Int), (l.count 46 : Int) ≤ n → posFrom l off n = -1 := by
  intro l
  induction l with
  | nil => intro off n _; rfl
  | cons c r ih =>
    intro off n h
    rw [posFrom]
    rw [List.count_cons] at h
    split
    · next hc => rw [if_neg (by simp [hc] at h; omega)]; exact ih _ _ (by simp [hc] at h; omega)
    · next hc => exact ih _ _ (by simp [hc] at h; omega)

theorem posFrom_in : ∀ (l : List UInt8) (off : Nat) (n : Int), 0 ≤ n → n < (l.count 46 : Int) → off ≤ posFrom l off n := by
  intro l
  induction l with
  | nil => intro off n h k; simp at k; omega
  | cons c r ih =>
    intro off n h k
    rw [posFrom]
    rw [List.count_cons] at k
    split
    · next hc =>
      split
      · omega
      · have := ih (off + 1) (n - 1) (by omega) (by simp [hc] at k; omega); omega
    · next hc => have := ih (off + 1) n h (by simp [hc] at k; omega); omega

theorem text_dots (t : Tr) : t.text.count 46 = t.carets + 1 := by
  induction t with
  | lf => rfl
  | nd l r ihl ihr => simp [Tr.text, Tr.carets, List.count_append, ihl, ihr]; omega

/-- The text of a tree with another text in place of a leaf. -/
def graftS (s : ByteArray) (n : Int) (o : ByteArray) : ByteArray :=
  s.extract 0 (posFrom s.data.toList 0 n).toNat ++ o ++ s.extract ((posFrom s.data.toList 0 n).toNat + 1) s.size

theorem pos_str (t : Tr) (n : Int) : (0 ≤ n ∧ n ≤ t.carets ∧ 0 ≤ posFrom t.str.data.toList 0 n ∧ posFrom t.str.data.toList 0 n < t.str.size) ∨ ((n < 0 ∨ t.carets < n) ∧ posFrom t.str.data.toList 0 n = -1) := by
  rw [Tr.str_list]
  have hr := posFrom_range t.text 0 n
  have hz := t.str_size
  have hl := t.text_len
  have hd := text_dots t
  by_cases h1 : n < 0
  · exact .inr ⟨.inl h1, posFrom_neg _ _ _ h1⟩
  · by_cases h2 : (t.carets : Int) < n
    · exact .inr ⟨.inr h2, posFrom_big _ _ _ (by rw [hd]; omega)⟩
    · have := posFrom_in t.text 0 n (by omega) (by rw [hd]; omega)
      exact .inl (by omega)

theorem graft_size (t : Tr) (n : Int) (o : ByteArray) (h : 0 ≤ posFrom t.str.data.toList 0 n) (k : posFrom t.str.data.toList 0 n < t.str.size) : (graftS t.str n o).size = t.str.size - 1 + o.size := by
  unfold graftS
  simp only [ByteArray.size_append, ByteArray.size_extract]
  omega

end Go.Proofs.Ytlcepokenaiggaa

/-! ExpoP -/
namespace Go.Proofs.Ytlcepokenaiggaa

/-- Does a text begin with an exposed caret? -/
def expB (l : List UInt8) : Bool := l.take 4 == [40, 46, 46, 41]

/-- The left leaves of the exposed carets of a text, n leaves being in front of it. -/
def exL : List UInt8 → Int → List Int
  | [], _ => []
  | c :: r, n => (if expB (c :: r) then [n] else []) ++ exL r (if c = 46 then n + 1 else n)

theorem exL_length : ∀ (l : List UInt8) (n : Int), (exL l n).length ≤ l.length := by
  intro l
  induction l with
  | nil => intro n; simp [exL]
  | cons c r ih => intro n; have := ih (if c = 46 then n + 1 else n); rw [exL]; simp only [List.length_append, List.length_cons]; split <;> simp <;> omega

/-- What the spec's scan, which looks one byte back, has still to tell at index k. -/
def pend (l : List UInt8) (k : Nat) (n : Int) : List Int := if 0 < k ∧ expB (l.drop (k - 1)) = true then [n] else []

theorem expB_cons {c : UInt8} {r : List UInt8} (h : expB (c :: r) = true) : c = 40 ∧ 3 ≤ r.length := by
  unfold expB at h
  simp only [beq_iff_eq] at h
  have h1 := congrArg List.length h
  have h2 := congrArg List.head? h
  simp at h1 h2
  exact ⟨h2, by omega⟩

theorem exL_step {l r : List UInt8} {k : Nat} {c : UInt8} {n : Int} (h : l.drop k = c :: r) :
    exL (l.drop k) n = pend l (k + 1) (if c = 46 then n + 1 else n) ++ exL (l.drop (k + 1)) (if c = 46 then n + 1 else n) := by
  have hr : l.drop (k + 1) = r := drop_succ h
  rw [hr, h, exL]
  congr 1
  unfold pend
  rw [Nat.add_sub_cancel, h]
  cases hb : expB (c :: r) with
  | false => simp
  | true =>
    have := (expB_cons hb).1
    subst this
    simp

theorem expB_extract (s : ByteArray) (k : Nat) (h : 0 < k) : expB (s.data.toList.drop (k - 1)) = ((s.extract (k - 1) (k + 3)).toList == [40, 46, 46, 41]) := by
  unfold expB
  rw [Lib.extract_toList]
  have : k + 3 - (k - 1) = 4 := by omega
  rw [this]

theorem expB_here (s : ByteArray) (k : Nat) : expB (s.data.toList.drop k) = ((s.data.toList.drop k).take 4 == [40, 46, 46, 41]) := rfl

theorem expB_drop {l : List UInt8} {k : Nat} (h : expB (l.drop k) = true) : k + 4 ≤ l.length := by
  cases hd : l.drop k with
  | nil => rw [hd] at h; simp [expB] at h
  | cons c r =>
    rw [hd] at h
    have := (expB_cons h).2
    have := congrArg List.length hd
    simp at this
    omega

theorem pend_zero (l : List UInt8) (n : Int) : pend l 0 n = [] := by simp [pend]

end Go.Proofs.Ytlcepokenaiggaa

/-! DropP -/
namespace Go.Proofs.Ytlcepokenaiggaa

theorem posFrom_shift : ∀ (l : List UInt8) (off : Nat) (q : Int), posFrom l off q = if posFrom l 0 q = -1 then -1 else posFrom l 0 q + off := by
  intro l
  induction l with
  | nil => intro off q; rfl
  | cons c r ih =>
    intro off q
    have h1 := ih (off + 1) (q - 1)
    have h2 := ih (0 + 1) (q - 1)
    have h3 := ih (off + 1) q
    have h4 := ih (0 + 1) q
    have r1 := posFrom_range r 0 (q - 1)
    have r2 := posFrom_range r 0 q
    rw [posFrom, posFrom, h1, h2, h3, h4]
    repeat' split
    all_goals omega

/-- The leaf q is the left one of an exposed caret. -/
def dropB (l : List UInt8) (q : Int) : Bool := decide (1 ≤ posFrom l 0 q) && expB (l.drop ((posFrom l 0 q).toNat - 1))

theorem expB_two {c : UInt8} {r : List UInt8} (h : expB (c :: r) = true) : ∃ r', r = 46 :: r' := by
  unfold expB at h
  simp only [beq_iff_eq] at h
  match r with
  | [] => simp at h
  | d :: r' =>
    simp at h
    exact ⟨r', by rw [h.2.1]⟩

theorem mem_exL : ∀ (l : List UInt8) (n m : Int), n ∈ exL l m ↔ dropB l (n - m) = true := by
  intro l
  induction l with
  | nil => intro n m; simp [exL, dropB, posFrom]
  | cons c r ih =>
    intro n m
    have ih0 := ih n m
    have ih1 := ih n (m + 1)
    have e1 : n - (m + 1) = n - m - 1 := by omega
    rw [e1] at ih1
    rw [exL, List.mem_append]
    by_cases hc : c = 46
    · have hx : expB (c :: r) = false := by
        cases h : expB (c :: r) with
        | false => rfl
        | true => have := (expB_cons h).1; rw [hc] at this; exact absurd this (by decide)
      rw [hx, if_pos hc, ih1]
      simp only [Bool.false_eq_true, if_false, List.not_mem_nil, false_or]
      unfold dropB
      rw [posFrom, if_pos hc]
      by_cases hz : n - m = 0
      · rw [if_pos hz, posFrom_neg r 0 (n - m - 1) (by omega)]
        simp
      · rw [if_neg hz, posFrom_shift r (0 + 1)]
        have hr := posFrom_range r 0 (n - m - 1)
        by_cases h1 : posFrom r 0 (n - m - 1) = -1
        · rw [if_pos h1, h1]; simp
        · rw [if_neg h1]
          by_cases h0 : posFrom r 0 (n - m - 1) = 0
          · rw [h0]
            simp [hx]
          · have h2 : 1 ≤ posFrom r 0 (n - m - 1) := by omega
            obtain ⟨p, hp⟩ : ∃ p : Nat, posFrom r 0 (n - m - 1) = (p : Int) + 1 := ⟨(posFrom r 0 (n - m - 1)).toNat - 1, by omega⟩
            rw [hp]
            have t1 : ((p : Int) + 1 + ((0 + 1 : Nat) : Int)).toNat - 1 = p + 1 := by omega
            have t2 : ((p : Int) + 1).toNat - 1 = p := by omega
            rw [t1, t2, List.drop_succ_cons]
            have d1 : decide (1 ≤ (p : Int) + 1) = true := decide_eq_true (by omega)
            have d2 : decide (1 ≤ (p : Int) + 1 + ((0 + 1 : Nat) : Int)) = true := decide_eq_true (by omega)
            rw [d1, d2]
    · rw [if_neg hc, ih0]
      unfold dropB
      rw [posFrom, if_neg hc, posFrom_shift r (0 + 1)]
      have hr := posFrom_range r 0 (n - m)
      have hzero : expB (c :: r) = true → posFrom r 0 (n - m) = 0 → n = m := by
        intro h h'
        obtain ⟨r', rfl⟩ := expB_two h
        rw [posFrom, if_pos rfl] at h'
        by_cases hz : n - m = 0
        · omega
        · rw [if_neg hz, posFrom_shift r' (0 + 1)] at h'
          have := posFrom_range r' 0 (n - m - 1)
          split at h' <;> omega
      have hzero' : expB (c :: r) = true → n = m → posFrom r 0 (n - m) = 0 := by
        intro h h'
        obtain ⟨r', rfl⟩ := expB_two h
        rw [posFrom, if_pos rfl, if_pos (by omega)]; rfl
      by_cases h1 : posFrom r 0 (n - m) = -1
      · rw [if_pos h1, h1]
        simp only [show decide ((1 : Int) ≤ -1) = false from rfl, Bool.false_and, Bool.false_eq_true, or_false, iff_false]
        intro h
        split at h
        · next he =>
          have := hzero' he (by simpa using h)
          omega
        · simp at h
      · rw [if_neg h1]
        by_cases h0 : posFrom r 0 (n - m) = 0
        · rw [h0]
          simp only [show decide ((1 : Int) ≤ 0) = false from rfl, Bool.false_and, Bool.false_eq_true, or_false]
          have t1 : ((0 : Int) + ((0 + 1 : Nat) : Int)).toNat - 1 = 0 := by omega
          rw [t1, List.drop_zero]
          have d2 : decide (1 ≤ (0 : Int) + ((0 + 1 : Nat) : Int)) = true := decide_eq_true (by omega)
          rw [d2]
          cases he : expB (c :: r) with
          | false => simp
          | true => simp; exact hzero he h0
        · obtain ⟨p, hp⟩ : ∃ p : Nat, posFrom r 0 (n - m) = (p : Int) + 1 := ⟨(posFrom r 0 (n - m)).toNat - 1, by omega⟩
          rw [hp]
          have t1 : ((p : Int) + 1 + ((0 + 1 : Nat) : Int)).toNat - 1 = p + 1 := by omega
          have t2 : ((p : Int) + 1).toNat - 1 = p := by omega
          rw [t1, t2, List.drop_succ_cons]
          have d1 : decide (1 ≤ (p : Int) + 1) = true := decide_eq_true (by omega)
          have d2 : decide (1 ≤ (p : Int) + 1 + ((0 + 1 : Nat) : Int)) = true := decide_eq_true (by omega)
          rw [d1, d2]
          constructor
          · rintro (h | h)
            · split at h
              · next he =>
                have := hzero' he (by simpa using h)
                omega
              · simp at h
            · exact h
          · exact .inr

/-- The text of a tree with a leaf in place of the exposed caret that begins at index q. -/
def dropS (s : ByteArray) (q : Nat) : ByteArray := s.extract 0 q ++ ⟨#[46]⟩ ++ s.extract (q + 4) s.size

/-- Of a text, the answer of DropExposed. -/
def dropO (s : ByteArray) (n : Int) : Option ByteArray :=
  if dropB s.data.toList n = true then some (dropS s ((posFrom s.data.toList 0 n).toNat - 1)) else none

theorem dropB_true {s : ByteArray} {n : Int} (h : dropB s.data.toList n = true) : ∃ q : Nat, posFrom s.data.toList 0 n = (q : Int) + 1 ∧ q + 4 ≤ s.size ∧ expB (s.data.toList.drop q) = true ∧ 0 ≤ n := by
  unfold dropB at h
  simp only [Bool.and_eq_true, decide_eq_true_eq] at h
  obtain ⟨h1, h2⟩ := h
  refine ⟨(posFrom s.data.toList 0 n).toNat - 1, by omega, ?_, h2, ?_⟩
  · have := expB_drop h2; rw [← Lib.size_eq] at this; exact this
  · rcases Int.lt_or_le n 0 with hn | hn
    · rw [posFrom_neg _ _ _ hn] at h1; omega
    · exact hn
end Go.Proofs.Ytlcepokenaiggaa

/-! PrT -/
namespace Go.Proofs.Ytlcepokenaiggaa
namespace Tr
def leaves (t : Tr) : Nat := t.carets + 1
/-- The left leaves of the exposed carets, n leaves being in front. -/
def exps : Tr → Int → List Int
  | lf, _ => []
  | nd l r, n => (if l.isLf && r.isLf then [n] else []) ++ (l.exps n ++ r.exps (n + l.leaves))
/-- The tree with a leaf in place of the exposed caret with the left leaf n. -/
def dropAt : Tr → Int → Tr
  | lf, _ => lf
  | nd l r, n => if l.isLf && r.isLf then lf else if n < l.leaves then nd (l.dropAt n) r else nd l (r.dropAt (n - l.leaves))
/-- The tree with u in place of the leaf n. -/
def graft : Tr → Int → Tr → Tr
  | lf, _, u => u
  | nd l r, n, u => if n < l.leaves then nd (l.graft n u) r else nd l (r.graft (n - l.leaves) u)
end Tr

theorem leaves_nd (l r : Tr) : (Tr.nd l r).leaves = l.leaves + r.leaves := by simp [Tr.leaves, Tr.carets]; omega
theorem leaves_pos (t : Tr) : 1 ≤ t.leaves := by simp [Tr.leaves]
theorem isLf_iff (t : Tr) : t.isLf = true ↔ t = .lf := by cases t <;> simp [Tr.isLf]
theorem both_lf {l r : Tr} (h : (l.isLf && r.isLf) = true) : l = .lf ∧ r = .lf := by
  simp only [Bool.and_eq_true, isLf_iff] at h; exact h

theorem expB_len {l : List UInt8} (h : l.length < 4) : expB l = false := by
  unfold expB
  rw [beq_eq_false_iff_ne]
  intro e
  have := congrArg List.length e
  simp at this
  omega

theorem text_head (t : Tr) : (t = .lf ∧ t.text = [46]) ∨ ∃ r, t.text = 40 :: r := by
  cases t with
  | lf => exact .inl ⟨rfl, rfl⟩
  | nd l r => exact .inr ⟨_, rfl⟩

theorem expB_nd (l r : Tr) (q : List UInt8) : expB (40 :: (l.text ++ (r.text ++ (41 :: q)))) = (l.isLf && r.isLf) := by
  cases l with
  | lf =>
    cases r with
    | lf => rfl
    | nd a b => simp [expB, Tr.text, Tr.isLf]
  | nd a b => simp [expB, Tr.text, Tr.isLf]

theorem exL_text (t : Tr) : ∀ (q : List UInt8) (m : Int), exL (t.text ++ q) m = t.exps m ++ exL q (m + t.leaves) := by
  induction t with
  | lf => intro q m; simp [Tr.text, exL, Tr.exps, expB, Tr.leaves, Tr.carets]
  | nd l r ihl ihr =>
    intro q m
    have e : (Tr.nd l r).text ++ q = 40 :: (l.text ++ (r.text ++ (41 :: q))) := by simp [Tr.text]
    rw [e, exL, expB_nd, if_neg (show ¬ (40 : UInt8) = 46 by decide), ihl, ihr, exL, if_neg (show ¬ (41 : UInt8) = 46 by decide)]
    have h41 : expB (41 :: q) = false := by
      cases h : expB (41 :: q) with
      | false => rfl
      | true => exact absurd (expB_cons h).1 (by decide)
    rw [h41]
    have e2 : m + (l.leaves : Int) + (r.leaves : Int) = m + ((Tr.nd l r).leaves : Int) := by rw [leaves_nd]; omega
    rw [e2]
    simp [Tr.exps]

theorem exps_text (t : Tr) (m : Int) : exL t.text m = t.exps m := by
  have := exL_text t [] m
  simpa [exL] using this

theorem exps_range (t : Tr) : ∀ (n m : Int), m ∈ t.exps n → n ≤ m ∧ m + 1 < n + t.leaves := by
  induction t with
  | lf => intro n m h; simp [Tr.exps] at h
  | nd l r ihl ihr =>
    intro n m h
    have h1 := leaves_pos l
    have h2 := leaves_pos r
    rw [Tr.exps, List.mem_append, List.mem_append] at h
    rw [leaves_nd]
    rcases h with h | h | h
    · split at h
      · simp at h; omega
      · simp at h
    · have := ihl _ _ h; omega
    · have := ihr _ _ h; omega

theorem exps_shift (t : Tr) : ∀ (n d : Int), t.exps (n + d) = (t.exps n).map (· + d) := by
  induction t with
  | lf => intro n d; rfl
  | nd l r ihl ihr =>
    intro n d
    have e : n + d + (l.leaves : Int) = n + (l.leaves : Int) + d := by omega
    rw [Tr.exps, Tr.exps, ihl n d, e, ihr, List.map_append, List.map_append]
    split <;> simp

theorem exps_shift_mem (t : Tr) (n m : Int) : m ∈ t.exps n ↔ m - n ∈ t.exps 0 := by
  have := exps_shift t 0 n
  rw [Int.zero_add] at this
  rw [this, List.mem_map]
  constructor
  · rintro ⟨a, ha, rfl⟩; have : a + n - n = a := by omega
    rw [this]; exact ha
  · intro h; exact ⟨m - n, h, by omega⟩

theorem exps_length (t : Tr) : ∀ n, (t.exps n).length ≤ t.carets := by
  induction t with
  | lf => intro n; simp [Tr.exps]
  | nd l r ihl ihr =>
    intro n
    have h1 := ihl n
    have h2 := ihr (n + l.leaves)
    rw [Tr.exps]
    simp only [List.length_append, Tr.carets]
    split <;> simp <;> omega

/-- An exposed caret in a text: what is in front of it and behind it. -/
theorem exps_split (t : Tr) : ∀ n : Int, n ∈ t.exps 0 → ∃ x y : List UInt8, t.text = x ++ (40 :: 46 :: 46 :: 41 :: y) ∧ ((x.count 46 : Nat) : Int) = n ∧ (t.dropAt n).text = x ++ (46 :: y) := by
  induction t with
  | lf => intro n h; simp [Tr.exps] at h
  | nd l r ihl ihr =>
    intro n h
    rw [Tr.exps, List.mem_append, List.mem_append] at h
    cases hb : l.isLf && r.isLf with
    | true =>
      obtain ⟨rfl, rfl⟩ := both_lf hb
      simp [Tr.exps, Tr.isLf] at h
      subst h
      exact ⟨[], [], rfl, rfl, rfl⟩
    | false =>
      rw [hb] at h
      rcases h with h | h | h
      · simp at h
      · have hr := exps_range l _ _ h
        obtain ⟨x, y, e1, e2, e3⟩ := ihl n h
        refine ⟨40 :: x, y ++ (r.text ++ [41]), ?_, ?_, ?_⟩
        · simp [Tr.text, e1]
        · simp [e2]
        · rw [Tr.dropAt, hb, if_neg (by decide), if_pos (by omega)]
          simp [Tr.text, e3]
      · have hr := exps_range r _ _ h
        rw [Int.zero_add] at h hr
        obtain ⟨x, y, e1, e2, e3⟩ := ihr (n - l.leaves) ((exps_shift_mem r _ _).1 h)
        refine ⟨40 :: (l.text ++ x), y ++ [41], ?_, ?_, ?_⟩
        · simp [Tr.text, e1]
        · have := text_dots l
          simp only [List.count_cons, List.count_append]
          simp [Tr.leaves] at *
          omega
        · rw [Tr.dropAt, hb, if_neg (by decide), if_neg (by omega)]
          simp [Tr.text, e3]

/-- A leaf in a text. -/
theorem leaf_split (t : Tr) : ∀ n : Int, 0 ≤ n → n < t.leaves → ∃ x y : List UInt8, t.text = x ++ (46 :: y) ∧ ((x.count 46 : Nat) : Int) = n ∧ ∀ u : Tr, (t.graft n u).text = x ++ (u.text ++ y) := by
  induction t with
  | lf =>
    intro n h k
    simp [Tr.leaves, Tr.carets] at k
    obtain rfl : n = 0 := by omega
    exact ⟨[], [], rfl, rfl, fun u => by simp [Tr.graft]⟩
  | nd l r ihl ihr =>
    intro n h k
    rw [leaves_nd] at k
    by_cases hl : n < l.leaves
    · obtain ⟨x, y, e1, e2, e3⟩ := ihl n h hl
      refine ⟨40 :: x, y ++ (r.text ++ [41]), ?_, ?_, fun u => ?_⟩
      · simp [Tr.text, e1]
      · simp [e2]
      · rw [Tr.graft, if_pos hl]; simp [Tr.text, e3]
    · obtain ⟨x, y, e1, e2, e3⟩ := ihr (n - l.leaves) (by omega) (by omega)
      refine ⟨40 :: (l.text ++ x), y ++ [41], ?_, ?_, fun u => ?_⟩
      · simp [Tr.text, e1]
      · have := text_dots l
        simp only [List.count_cons, List.count_append]
        simp [Tr.leaves] at *
        omega
      · rw [Tr.graft, if_neg hl]; simp [Tr.text, e3]

theorem posFrom_count : ∀ (x y : List UInt8) (off : Nat), posFrom (x ++ 46 :: y) off (x.count 46 : Nat) = ((off + x.length : Nat) : Int) := by
  intro x
  induction x with
  | nil => intro y off; simp [posFrom]
  | cons c r ih =>
    intro y off
    rw [List.cons_append, posFrom]
    by_cases hc : c = 46
    · subst hc
      have hcount : ((List.count 46 (46 :: r) : Nat) : Int) = (r.count 46 : Nat) + 1 := by simp
      rw [if_pos rfl, hcount, if_neg (by omega), Int.add_sub_cancel, ih]
      simp; omega
    · have hcount : List.count 46 (c :: r) = r.count 46 := by rw [List.count_cons]; simp [hc]
      rw [if_neg hc, hcount, ih]
      simp; omega

theorem dropS_list (s : ByteArray) (q : Nat) : (dropS s q).data.toList = s.data.toList.take q ++ (46 :: s.data.toList.drop (q + 4)) := by
  unfold dropS
  simp only [ByteArray.data_append, Array.toList_append]
  rw [ext_end, Lib.extract_data]
  simp

theorem drop_str (t : Tr) (n : Int) (h : n ∈ t.exps 0) : 1 ≤ posFrom t.str.data.toList 0 n ∧ dropS t.str ((posFrom t.str.data.toList 0 n).toNat - 1) = (t.dropAt n).str := by
  obtain ⟨x, y, e1, e2, e3⟩ := exps_split t n h
  have e1' : t.text = (x ++ [40]) ++ 46 :: (46 :: 41 :: y) := by simp [e1]
  have hp : posFrom t.str.data.toList 0 n = ((x.length + 1 : Nat) : Int) := by
    have := posFrom_count (x ++ [40]) (46 :: 41 :: y) 0
    rw [← e1'] at this
    rw [Tr.str_list, ← e2]
    simpa using this
  rw [hp]
  refine ⟨by omega, ba_ext ?_⟩
  rw [dropS_list, Tr.str_list, Tr.str_list, e3, e1]
  have : ((x.length + 1 : Nat) : Int).toNat - 1 = x.length := by omega
  rw [this]
  have e4 : x ++ 40 :: 46 :: 46 :: 41 :: y = (x ++ [40, 46, 46, 41]) ++ y := by simp
  rw [List.take_left, e4, List.drop_left' (by simp)]

theorem dropB_str (t : Tr) (n : Int) : dropB t.str.data.toList n = true ↔ n ∈ t.exps 0 := by
  rw [← exps_text, mem_exL, Tr.str_list]; simp

theorem graft_str (t u : Tr) (n : Int) (h : 0 ≤ n) (k : n < t.leaves) : graftS t.str n u.str = (t.graft n u).str := by
  obtain ⟨x, y, e1, e2, e3⟩ := leaf_split t n h k
  have hp : posFrom t.str.data.toList 0 n = ((x.length : Nat) : Int) := by
    have := posFrom_count x y 0
    rw [← e1] at this
    rw [Tr.str_list, ← e2]
    simpa using this
  refine ba_ext ?_
  unfold graftS
  rw [hp]
  simp only [ByteArray.data_append, Array.toList_append]
  rw [ext_end, Lib.extract_data]
  simp only [Tr.str_list, e3, e1]
  have e4 : x ++ 46 :: y = (x ++ [46]) ++ y := by simp
  simp only [Int.toNat_natCast, Nat.sub_zero, List.drop_zero, List.take_left]
  rw [e4, List.drop_left' (by simp)]
  simp

theorem dropAt_carets (t : Tr) : ∀ n : Int, n ∈ t.exps 0 → (t.dropAt n).carets + 1 = t.carets := by
  intro n h
  obtain ⟨x, y, e1, e2, e3⟩ := exps_split t n h
  have h1 := t.text_len
  have h2 := (t.dropAt n).text_len
  have := congrArg List.length e1
  have := congrArg List.length e3
  simp at *
  omega

theorem graft_carets (t u : Tr) (n : Int) (h : 0 ≤ n) (k : n < t.leaves) : (t.graft n u).carets = t.carets + u.carets := by
  obtain ⟨x, y, e1, e2, e3⟩ := leaf_split t n h k
  have e3 := e3 u
  have h1 := t.text_len
  have h2 := (t.graft n u).text_len
  have h3 := u.text_len
  have := congrArg List.length e1
  have := congrArg List.length e3
  simp at *
  omega
end Go.Proofs.Ytlcepokenaiggaa

/-! PrP -/
namespace Go.Proofs.Ytlcepokenaiggaa

/-- A pair of trees. -/
abbrev Pr := Tr × Tr

/-- The left leaves with which both trees have exposed carets. -/
def both (p : Pr) : List Int := (p.1.exps 0).filter fun n => (p.2.exps 0).contains n

/-- Both carets dropped. -/
def dropP (p : Pr) (n : Int) : Pr := (p.1.dropAt n, p.2.dropAt n)

/-- Which of so many a step takes: the first choice modulo their number, or the first one. -/
def pickI (cs : List Int) (k : Nat) : Nat := match cs with
  | [] => 0
  | c :: _ => (c % k).toNat

/-- The reduced pair by choices (fuel: the number of steps that are left at most). -/
def redF : Nat → Pr → List Int → Pr
  | 0, p, _ => p
  | k + 1, p, cs => match both p with
    | [] => p
    | n :: ns => redF k (dropP p ((n :: ns).getD (pickI cs (ns.length + 1)) 0)) cs.tail
def redBy (p : Pr) (cs : List Int) : Pr := redF p.1.carets p cs
def red (p : Pr) : Pr := redBy p []

theorem mem_both {p : Pr} {n : Int} : n ∈ both p ↔ n ∈ p.1.exps 0 ∧ n ∈ p.2.exps 0 := by
  simp [both]

theorem both_length (p : Pr) : (both p).length ≤ p.1.carets :=
  Nat.le_trans (List.length_filter_le _ _) (exps_length _ _)

theorem both_empty {p : Pr} (h : p.1.carets = 0) : both p = [] := by
  have := both_length p
  exact List.length_eq_zero_iff.1 (by omega)

theorem pickI_lt (cs : List Int) (k : Nat) (h : 0 < k) : pickI cs k < k := by
  unfold pickI
  split
  · exact h
  · next c _ =>
    have h1 := Int.emod_lt_of_pos c (show (0 : Int) < k by omega)
    have h2 := Int.emod_nonneg c (show (k : Int) ≠ 0 by omega)
    omega

theorem pick_mem {p : Pr} {n : Int} {ns : List Int} (h : both p = n :: ns) (cs : List Int) : (n :: ns).getD (pickI cs (ns.length + 1)) 0 ∈ both p := by
  rw [h]
  have := pickI_lt cs (ns.length + 1) (by omega)
  rw [List.getD_eq_getElem?_getD, List.getElem?_eq_getElem (by simpa using this)]
  exact List.getElem_mem _

theorem dropP_carets {p : Pr} {n : Int} (h : n ∈ both p) : (dropP p n).1.carets + 1 = p.1.carets ∧ (dropP p n).2.carets + 1 = p.2.carets :=
  ⟨dropAt_carets _ _ (mem_both.1 h).1, dropAt_carets _ _ (mem_both.1 h).2⟩

/-- One step. -/
theorem redBy_step {p : Pr} {n : Int} {ns : List Int} (h : both p = n :: ns) (cs : List Int) :
    redBy p cs = redBy (dropP p ((n :: ns).getD (pickI cs (ns.length + 1)) 0)) cs.tail := by
  have hc := (dropP_carets (pick_mem h cs)).1
  unfold redBy
  obtain ⟨k, hk⟩ : ∃ k, p.1.carets = k + 1 := ⟨p.1.carets - 1, by omega⟩
  rw [hk, redF, h]
  have : (dropP p ((n :: ns).getD (pickI cs (ns.length + 1)) 0)).1.carets = k := by omega
  rw [this]
theorem redBy_end {p : Pr} (h : both p = []) (cs : List Int) : redBy p cs = p := by
  unfold redBy
  cases hk : p.1.carets with
  | zero => rfl
  | succ k => rw [redF, h]

theorem redF_carets (k : Nat) : ∀ (p : Pr) (cs : List Int), (redF k p cs).1.carets ≤ p.1.carets ∧ (redF k p cs).2.carets ≤ p.2.carets ∧ (redF k p cs).1.carets + p.2.carets = (redF k p cs).2.carets + p.1.carets := by
  induction k with
  | zero => intro p cs; simp [redF]; omega
  | succ k ih =>
    intro p cs
    rw [redF]
    split
    · refine ⟨Nat.le_refl _, Nat.le_refl _, by omega⟩
    · next n ns h =>
      have h1 := dropP_carets (pick_mem h cs)
      have h2 := ih (dropP p ((n :: ns).getD (pickI cs (ns.length + 1)) 0)) cs.tail
      omega
theorem redBy_carets (p : Pr) (cs : List Int) : (redBy p cs).1.carets ≤ p.1.carets ∧ (redBy p cs).2.carets ≤ p.2.carets ∧ (redBy p cs).1.carets + p.2.carets = (redBy p cs).2.carets + p.1.carets := redF_carets _ p cs

theorem redF_both (k : Nat) : ∀ (p : Pr) (cs : List Int), p.1.carets ≤ k → both (redF k p cs) = [] := by
  induction k with
  | zero => intro p cs h; rw [redF]; exact both_empty (by omega)
  | succ k ih =>
    intro p cs hk
    rw [redF]
    split
    · next h => exact h
    · next n ns h =>
      have h1 := dropP_carets (pick_mem h cs)
      exact ih _ _ (by omega)
theorem red_both (p : Pr) (cs : List Int) : both (redBy p cs) = [] := redF_both _ p cs (Nat.le_refl _)

/-- A pair is what is left of it just if it is reduced. -/
theorem red_self (p : Pr) : red p = p ↔ both p = [] := by
  constructor
  · intro h; rw [← h]; exact red_both p []
  · exact fun h => redBy_end h []

namespace Tr
/-- What a greater tree has at the leaves of one that is part of it. -/
def subs : Tr → Tr → List Tr
  | lf, g => [g]
  | nd l r, nd p q => l.subs p ++ r.subs q
  | nd _ _, lf => []
/-- A tree with others in place of its leaves, and those that are left. -/
def fillR : Tr → List Tr → Tr × List Tr
  | lf, [] => (lf, [])
  | lf, u :: us => (u, us)
  | nd l r, us => (nd (l.fillR us).1 (r.fillR (l.fillR us).2).1, (r.fillR (l.fillR us).2).2)
def fill (t : Tr) (us : List Tr) : Tr := (t.fillR us).1
end Tr

theorem below_length (a : Tr) : ∀ b : Tr, (a.subs (a.join b)).length = a.leaves := by
  induction a with
  | lf => intro b; rfl
  | nd l r ihl ihr =>
    intro b
    cases b with
    | lf =>
      have h1 := ihl .lf
      have h2 := ihr .lf
      rw [leaves_nd]
      have j : ∀ t : Tr, t.join .lf = t := fun t => by cases t <;> rfl
      rw [j] at h1 h2
      show ((Tr.nd l r).subs (.nd l r)).length = _
      simp [Tr.subs, h1, h2]
    | nd p q =>
      rw [leaves_nd]
      simp [Tr.join, Tr.subs, ihl p, ihr q]

theorem join_comm (a : Tr) : ∀ b : Tr, a.join b = b.join a := by
  induction a with
  | lf => intro b; cases b <;> rfl
  | nd l r ihl ihr =>
    intro b
    cases b with
    | lf => rfl
    | nd p q => simp [Tr.join, ihl p, ihr q]

/-- a is part of g, whose texts below a are told. -/
def sumC (us : List Tr) : Nat := (us.map Tr.carets).sum

theorem sumC_cons (u : Tr) (us : List Tr) : sumC (u :: us) = u.carets + sumC us := by simp [sumC]
theorem sumC_append (us vs : List Tr) : sumC (us ++ vs) = sumC us + sumC vs := by simp [sumC]

theorem below_carets (a : Tr) : ∀ g : Tr, a.part g = true → a.carets + sumC (a.subs g) = g.carets ∧ (a.subs g).length = a.leaves := by
  induction a with
  | lf => intro g _; simp [Tr.subs, sumC, Tr.carets, Tr.leaves]
  | nd l r ihl ihr =>
    intro g h
    cases g with
    | lf => simp [Tr.part] at h
    | nd p q =>
      simp [Tr.part] at h
      have h1 := ihl p h.1
      have h2 := ihr q h.2
      rw [leaves_nd]
      simp only [Tr.subs, sumC_append, Tr.carets, List.length_append]
      omega

theorem part_refl (a : Tr) : a.part a = true := by
  induction a with
  | lf => rfl
  | nd l r ihl ihr => simp [Tr.part, ihl, ihr]

theorem part_join (a : Tr) : ∀ b : Tr, a.part (a.join b) = true := by
  induction a with
  | lf => intro b; rfl
  | nd l r ihl ihr =>
    intro b
    cases b with
    | lf => show (Tr.nd l r).part (.nd l r) = true; exact part_refl _
    | nd p q => simp [Tr.join, Tr.part, ihl p, ihr q]
theorem part_join' (a b : Tr) : b.part (a.join b) = true := by rw [join_comm]; exact part_join b a

theorem fillR_carets (t : Tr) : ∀ us : List Tr, t.leaves ≤ us.length → (t.fillR us).1.carets + sumC (t.fillR us).2 = t.carets + sumC us ∧ (t.fillR us).2.length + t.leaves = us.length := by
  induction t with
  | lf =>
    intro us h
    cases us with
    | nil => simp [Tr.leaves] at h
    | cons u us => simp [Tr.fillR, sumC_cons, Tr.carets, Tr.leaves]
  | nd l r ihl ihr =>
    intro us h
    rw [leaves_nd] at *
    have h1 := ihl us (by omega)
    have h2 := ihr (l.fillR us).2 (by omega)
    simp only [Tr.fillR, Tr.carets]
    omega

theorem fill_carets (t : Tr) (us : List Tr) (h : us.length = t.leaves) : (t.fill us).carets = t.carets + sumC us := by
  have h1 := fillR_carets t us (by omega)
  have : (t.fillR us).2 = [] := List.length_eq_zero_iff.1 (by omega)
  rw [this] at h1
  have h2 := h1.1
  show (t.fillR us).1.carets = _
  simp [sumC] at h2 ⊢
  exact h2

/-- The text of a tree with texts in place of its leaves: the texts that are left. -/
def fillL : List UInt8 → List ByteArray → List UInt8
  | [], _ => []
  | c :: r, us => if c = 46 then (us.getD 0 ⟨#[]⟩).data.toList ++ fillL r us.tail else c :: fillL r us

theorem fillL_text (t : Tr) : ∀ (us : List Tr) (q : List UInt8), t.leaves ≤ us.length → fillL (t.text ++ q) (us.map Tr.str) = (t.fillR us).1.text ++ fillL q ((t.fillR us).2.map Tr.str) := by
  induction t with
  | lf =>
    intro us q h
    cases us with
    | nil => simp [Tr.leaves] at h
    | cons u us => simp [Tr.fillR, Tr.text, fillL, Tr.str_list]
  | nd l r ihl ihr =>
    intro us q h
    rw [leaves_nd] at h
    have e : (Tr.nd l r).text ++ q = 40 :: (l.text ++ (r.text ++ (41 :: q))) := by simp [Tr.text]
    have h1 := fillR_carets l us (by omega)
    rw [e, fillL, if_neg (by decide), ihl us _ (by omega), ihr _ _ (by omega), fillL, if_neg (by decide)]
    simp [Tr.fillR, Tr.text]

theorem fill_text (t : Tr) (us : List Tr) (h : us.length = t.leaves) : fillL t.text (us.map Tr.str) = (t.fill us).text := by
  have := fillL_text t us [] (by omega)
  show _ = (t.fillR us).1.text
  simpa [fillL] using this

/-- The product, before it is reduced. -/
def rawP (p q : Pr) : Pr := (p.1.fill (p.2.subs (p.2.join q.1)), q.2.fill (q.1.subs (p.2.join q.1)))
/-- The product. -/
def mulP (p q : Pr) : Pr := red (rawP p q)
def invP (p : Pr) : Pr := (p.2, p.1)
/-- A pair: as many leaves. -/
def okP (p : Pr) : Prop := p.1.carets = p.2.carets

theorem rawP_carets {p q : Pr} (hp : okP p) (hq : okP q) : (rawP p q).1.carets = (p.2.join q.1).carets ∧ (rawP p q).2.carets = (p.2.join q.1).carets := by
  unfold okP at *
  have h1 := below_carets p.2 _ (part_join p.2 q.1)
  have h2 := below_carets q.1 _ (part_join' p.2 q.1)
  have f1 := fill_carets p.1 (p.2.subs (p.2.join q.1)) (by rw [h1.2]; simp [Tr.leaves, hp])
  have f2 := fill_carets q.2 (q.1.subs (p.2.join q.1)) (by rw [h2.2]; simp [Tr.leaves, hq])
  show (p.1.fill _).carets = _ ∧ (q.2.fill _).carets = _
  omega
theorem rawP_ok {p q : Pr} (hp : okP p) (hq : okP q) : okP (rawP p q) := by
  have := rawP_carets hp hq; unfold okP; omega
theorem red_ok {p : Pr} (hp : okP p) (cs : List Int) : okP (redBy p cs) := by
  have := redBy_carets p cs; unfold okP at *; omega
theorem mulP_ok {p q : Pr} (hp : okP p) (hq : okP q) : okP (mulP p q) := red_ok (rawP_ok hp hq) []
theorem mulP_carets {p q : Pr} (hp : okP p) (hq : okP q) : (mulP p q).1.carets ≤ p.2.carets + q.1.carets := by
  have h1 := rawP_carets hp hq
  have h2 := redBy_carets (rawP p q) []
  have h3 := join_carets p.2 q.1
  show (redBy _ _).1.carets ≤ _
  omega
end Go.Proofs.Ytlcepokenaiggaa

/-! PairOf -/
namespace Go.Proofs.Ytlcepokenaiggaa

/-- The pair of two texts, if they are one. -/
def pairOf (a b : ByteArray) : Option Pr :=
  match treeOf a, treeOf b with
  | some t, some u => if t.carets = u.carets then some (t, u) else none
  | _, _ => none

theorem pairOf_some {a b : ByteArray} {p : Pr} (h : pairOf a b = some p) : a = p.1.str ∧ b = p.2.str ∧ okP p ∧ p.1.carets ≤ 8 ∧ p.2.carets ≤ 8 := by
  unfold pairOf at h
  split at h
  · next t u ht hu =>
    split at h
    · next hc =>
      injection h with h
      subst h
      obtain ⟨rfl, h1⟩ := treeOf_some ht
      obtain ⟨rfl, h2⟩ := treeOf_some hu
      exact ⟨rfl, rfl, hc, h1, h2⟩
    · simp at h
  · simp at h

theorem pairOf_str {p : Pr} (h : okP p) (k : p.1.carets ≤ 8) : pairOf p.1.str p.2.str = some p := by
  unfold pairOf
  rw [treeOf_str p.1 k, treeOf_str p.2 (by unfold okP at h; omega)]
  simp [show p.1.carets = p.2.carets from h]

/-- The texts are no pair: why. -/
theorem pairOf_none {a b : ByteArray} (h : pairOf a b = none) : treeOf a = none ∨ (∃ t : Tr, a = t.str ∧ t.carets ≤ 8 ∧ treeOf b = none) ∨ ∃ t u : Tr, a = t.str ∧ b = u.str ∧ t.carets ≤ 8 ∧ u.carets ≤ 8 ∧ ¬ t.carets = u.carets := by
  cases ha : treeOf a with
  | none => exact .inl rfl
  | some t =>
    obtain ⟨rfl, h1⟩ := treeOf_some ha
    cases hb : treeOf b with
    | none => exact .inr (.inl ⟨t, rfl, h1, rfl⟩)
    | some u =>
      obtain ⟨rfl, h2⟩ := treeOf_some hb
      refine .inr (.inr ⟨t, u, rfl, rfl, h1, h2, ?_⟩)
      intro e
      unfold pairOf at h
      rw [ha, hb] at h
      simp [e] at h
end Go.Proofs.Ytlcepokenaiggaa

/-! PairK -/
namespace Go.Proofs.Ytlcepokenaiggaa
open Go.RowKit

theorem two_cells {w : World} {g : Nat} {u v : Value} {t : TypeId} (h : w.heap[g]? = some (.cells #[u, v] t (0, 0))) : w.cell? ⟨g, 0, none⟩ = some u ∧ w.cell? ⟨g, 1, none⟩ = some v := by
  simp [World.cell?, h]
theorem two_facts {w : World} {g : Nat} {u v : Value} {t : TypeId} (h : w.heap[g]? = some (.cells #[u, v] t (0, 0))) : w.cell? ⟨g, 0, none⟩ = some u ∧ w.cell? ⟨g, 1, none⟩ = some v ∧ g < w.heap.size :=
  ⟨(two_cells h).1, (two_cells h).2, lt_of_block h⟩
theorem keep_two {w w' : World} {g : Nat} {u v : Value} (hb : Below w.heap.size w w') (hg : g < w.heap.size) (h : w.cell? ⟨g, 0, none⟩ = some u ∧ w.cell? ⟨g, 1, none⟩ = some v) : w'.cell? ⟨g, 0, none⟩ = some u ∧ w'.cell? ⟨g, 1, none⟩ = some v :=
  ⟨(hb.cell (p := ⟨g, 0, none⟩) hg).trans h.1, (hb.cell (p := ⟨g, 1, none⟩) hg).trans h.2⟩


theorem two_frozen {w : World} {g : Nat} {u v : Value} {t : TypeId} (h : w.heap[g]? = some (.cells #[u, v] t (0, 0))) : w.frozen? ⟨g, 0, none⟩ = false ∧ w.frozen? ⟨g, 1, none⟩ = false := by
  simp [World.frozen?, h]
theorem set_first {w : World} {g : Nat} {u v u' : Value} {t : TypeId} (h : w.heap[g]? = some (.cells #[u, v] t (0, 0))) : (w.setCell ⟨g, 0, none⟩ u').heap[g]? = some (.cells #[u', v] t (0, 0)) := Joins.block_setCell h u'
theorem set_second {w : World} {g : Nat} {u v v' : Value} {t : TypeId} (h : w.heap[g]? = some (.cells #[u, v] t (0, 0))) : (w.setCell ⟨g, 1, none⟩ v').heap[g]? = some (.cells #[u, v'] t (0, 0)) := Joins.block_setCell h v'
theorem set_two {w : World} {g : Nat} {u v : Value} (u' v' : Value) {t : TypeId} (h : w.heap[g]? = some (.cells #[u, v] t (0, 0))) : ((w.setCell ⟨g, 0, none⟩ u').setCell ⟨g, 1, none⟩ v').heap[g]? = some (.cells #[u', v'] t (0, 0)) := set_second (set_first h)
theorem heap_keep {w w' : World} {g : Nat} {o : Obj} (hb : Below w.heap.size w w') (h : w.heap[g]? = some o) : w'.heap[g]? = some o := (hb.block g (lt_of_block h)).trans h


def pS1 (o : Option Pr) : ByteArray := match o with
  | some p => p.1.str
  | none => ⟨#[]⟩
def pS2 (o : Option Pr) : ByteArray := match o with
  | some p => p.2.str
  | none => ⟨#[]⟩
/-- An answer of a pair and a bool. -/
def ansPr (o : Option Pr) : Value := .tuple #[.agg #[.string (pS1 o), .string (pS2 o)], .bool o.isSome]
end Go.Proofs.Ytlcepokenaiggaa

/-! Text -/
namespace Go.Proofs.Ytlcepokenaiggaa
open Go.RowKit

theorem isLeaf_any (t : Tr) (b : Nat) (w : World) (h : NodeAt w t b) :
    Calls Try.prog 55 #[.pointer (some ⟨b, 0, none⟩)] w fun e w' => e = .returned (.bool t.isLf) ∧ w = w' := by
  cases t with
  | lf =>
    have h1 := two_left h
    have H := Lib.hid h
    clear h
    go_enter Try.func55, Try.ntmps55
    go_wp2_with fail
    go_ret
    exact ⟨rfl, rfl⟩
  | nd l r =>
    obtain ⟨bl, br, h, hl, hr⟩ := h
    have h1 := two_left h
    have H := Lib.hid h
    clear h
    go_enter Try.func55, Try.ntmps55
    go_wp2_with fail
    go_ret
    exact ⟨rfl, rfl⟩

theorem NodeAt.heap {w w' : World} (e : w'.heap = w.heap) : ∀ {t : Tr} {b : Nat}, NodeAt w t b → NodeAt w' t b := by
  intro t
  induction t with
  | lf => intro b h; unfold NodeAt at *; rw [e]; exact h
  | nd l r ihl ihr =>
    intro b h
    obtain ⟨bl, br, h, h1, h2⟩ := h
    exact ⟨bl, br, by rw [e]; exact h, ihl h1, ihr h2⟩
theorem NodeAt.drewN {w : World} (n : Nat) {t : Tr} {b : Nat} (h : NodeAt w t b) : NodeAt (w.drewN n) t b := NodeAt.heap (w := w) (w' := w.drewN n) rfl h

set_option maxHeartbeats 400000 in
theorem text_any (t : Tr) : ∀ (b : Nat) (w : World), NodeAt w t b → t.carets ≤ 1000 →
    Calls Try.prog 106 #[.pointer (some ⟨b, 0, none⟩)] w (Quietly (.string t.str) w) := by
  induction t with
  | lf =>
    intro b w h hc
    have H := Lib.hid h
    clear h
    go_enter Try.func106, Try.ntmps106
    go_wp2_with fail
    refine (isLeaf_any .lf b _ H.out).mono ?_; rintro e w1 ⟨rfl, rfl⟩
    simp only [Tr.isLf]
    go_wp2_with fail
    go_ret
    exact ⟨rfl, 0, rfl⟩
  | nd l r ihl ihr =>
    intro b w h hc
    have hc' : l.carets + r.carets + 1 ≤ 1000 := hc
    have sl := l.str_size
    have sr := r.str_size
    have H := Lib.hid h
    obtain ⟨bl, br, h, hl, hr⟩ := h
    have h1 := two_left h
    have h2 := two_right h
    clear h
    go_enter Try.func106, Try.ntmps106
    go_wp2_with fail
    refine (isLeaf_any (.nd l r) b _ H.out).mono ?_; rintro e w1 ⟨rfl, rfl⟩
    simp only [Tr.isLf]
    go_wp2_with fail
    go_quiet ((go_at_call 106; first | exact Calls.quiet_of (ihl _ _ (hl.drewN _) (by omega)) | exact Calls.quiet_of (ihr _ _ (hr.drewN _) (by omega))))
    go_wp2_with fail
    go_ret
    exact ⟨by rw [str_nd]; rfl, _, rfl⟩
end Go.Proofs.Ytlcepokenaiggaa

/-! Mir -/
namespace Go.Proofs.Ytlcepokenaiggaa
open Go.RowKit

/-- A call that hands back a node of a tree. -/
def GivesNode (t : Tr) (w : World) (e : Ending) (w' : World) : Prop :=
  ∃ b : Nat, NodeAt w' t b ∧ Below w.heap.size w w' ∧ e = .returned (.pointer (some ⟨b, 0, none⟩))

theorem below_two {w w1 : World} {b : Nat} {u v : Value} (hb : Below w.heap.size w w1) (h1 : w.cell? ⟨b, 0, none⟩ = some u) (h2 : w.cell? ⟨b, 1, none⟩ = some v) :
    w1.cell? ⟨b, 0, none⟩ = some u ∧ w1.cell? ⟨b, 1, none⟩ = some v := by
  have hl := World.block_lt_of_cell? w _ h1
  exact ⟨(hb.cell (p := ⟨b, 0, none⟩) hl).trans h1, (hb.cell (p := ⟨b, 1, none⟩) hl).trans h2⟩

end Go.Proofs.Ytlcepokenaiggaa
