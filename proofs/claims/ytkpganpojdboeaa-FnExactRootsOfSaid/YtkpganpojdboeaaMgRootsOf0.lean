/- Texts that the claim needs, part 1. -/
import Derived.Test.YtkpganpojdboeaaRows
import Derived.WalkKit
import Derived.WalkSpells
import Derived.Lib.Strings
import Derived.Lib.Hide
import Derived.Deep.Light
import Derived.Deep.Draws
import Derived.Deep.QuietTactic
import Derived.BigQuiet
import Derived.Lib.SmallJoins
import Derived.Lib.Bytealg
import Derived.Deep.RegionHeld3
import Derived.StillTail
/-! Base -/
namespace Go.Proofs.Ytkpganpojdboeaa
open Go.RowKit

theorem ret_int {k : IntKind} {a b : Int} (h : a = b) : Ending.returned (.int k a) = .returned (.int k b) := by rw [h]
theorem ret_bool {a b : Bool} (h : a = b) : Ending.returned (.bool a) = .returned (.bool b) := by rw [h]
theorem ret_str {a b : ByteArray} (h : a = b) : Ending.returned (.string a) = .returned (.string b) := by rw [h]

theorem i64_bounds {n : Int} (h : (Lit.int .i64 n).wf = true) : -9223372036854775808 ≤ n ∧ n ≤ 9223372036854775807 := by
  simpa [Lit.wf, IntKind.min, IntKind.max, IntKind.signed, IntKind.bits] using h

theorem nx {w w1 w2 : World} (h : Below w.heap.size w w1) (k : Below w1.heap.size w1 w2) : Below w.heap.size w w2 := h.trans (k.mono h.size)
theorem nxAlloc {w w1 : World} (h : Below w.heap.size w w1) (o : Obj) : Below w.heap.size w (w1.alloc o) := nx h ((Below.refl _ _).alloc (Nat.le_refl _) o)

theorem drewB {w w1 : World} (h : Below w.heap.size w w1) (n : Nat) : Below w.heap.size w (w1.drewN n) := ⟨h.os, h.tape, h.output, h.size, h.block⟩

/-- Calls that hand back a value and leave what was there. -/
def Gives (v : Value) (w : World) (e : Ending) (w' : World) : Prop := e = .returned v ∧ Below w.heap.size w w'

end Go.Proofs.Ytkpganpojdboeaa

/-! Row -/
namespace Go.Proofs.Ytkpganpojdboeaa
open Go.RowKit

theorem info_int : (Try.prog.info? 3).map (fun i => (i.zero, i.size, i.bytes)) = some (some (.int .i64 0), 1, 8) := by kernel_rfl

/-- v is a slice of the integers xs, in a block from base on that the call has made. -/
def OwnI (base : Nat) (w : World) (v : Value) (xs : List Int) : Prop := w.ownsRow base 3 1 v xs.length (xs.map (Value.int .i64))

theorem ownsRow_keep {w w' : World} {base : Nat} {e : TypeId} {size : Nat} {v : Value} {n : Nat} {xs : List Value} (h : w.ownsRow base e size v n xs) (hb : Below w.heap.size w w') : w'.ownsRow base e size v n xs := by
  obtain ⟨h1, h2⟩ := h
  refine ⟨h1, ?_⟩
  rcases h2 with h2 | ⟨g, cap, cur, hv, hg, hh, r⟩
  · exact .inl h2
  · exact .inr ⟨g, cap, cur, hv, hg, (hb.block g (lt_of_block hh)).trans hh, r⟩

theorem OwnI.keep {base : Nat} {w w' : World} {v : Value} {xs : List Int} (h : OwnI base w v xs) (hb : Below w.heap.size w w') : OwnI base w' v xs := ownsRow_keep h hb

theorem OwnI.nil (base : Nat) (w : World) : OwnI base w (.slice none 0 0) [] := World.ownsRow_nil _ _ _ _

/-- What can be read of such a slice. -/
def CellsI (base : Nat) (w : World) (v : Value) (xs : List Int) : Prop :=
  (v = .slice none 0 0 ∧ xs = []) ∨ ∃ g cap : Nat, v = .slice (some ⟨g, 0, none⟩) xs.length cap ∧ base ≤ g ∧ g < w.heap.size ∧ xs.length ≤ cap ∧ cap ≤ maxLen ∧
    (∀ i, i < xs.length → w.cell? ⟨g, i, none⟩ = some (.int .i64 (xs.getD i 0))) ∧ ∀ i, w.frozen? ⟨g, i, none⟩ = false

theorem OwnI.cells {base : Nat} {w : World} {v : Value} {xs : List Int} (h : OwnI base w v xs) : CellsI base w v xs := by
  have h0 := h
  obtain ⟨h1, h2⟩ := h
  rcases h2 with ⟨hv, hn⟩ | ⟨g, cap, cur, hv, hg, hh, r1, r2, r3⟩
  · exact .inl ⟨hv, List.length_eq_zero_iff.1 hn⟩
  · subst hv
    refine .inr ⟨g, cap, rfl, hg, lt_of_block hh, r1, r2, fun i hi => ?_, fun i => World.ownsRow.frozenAt h0 i⟩
    have := World.ownsRow.cellAt h0 i (by omega)
    rw [this]
    simp [List.getElem?_eq_getElem hi]

/-! What an append of one integer to such a slice asks and leaves. -/
theorem new1 (w : World) (v : Value) (e : TypeId) : ∀ (j : Nat) (u : Value), [v][j]? = some u → (w.alloc (.cells #[v] e)).cell? ((⟨w.heap.size, 0, none⟩ : Addr).add j) = some u := by
  intro j u hj
  match j, hj with
  | 0, hj => simp at hj; subst hj; simp [Addr.add]
  | j + 1, hj => simp at hj
theorem one1 (m : Int) : ∀ u ∈ [Value.int .i64 m], u.oneCell' = true := by intro u hu; simp at hu; subst hu; rfl
theorem size_al {w w1 : World} (h : Below w.heap.size w w1) (o : Obj) : w.heap.size ≤ (w1.alloc o).heap.size := by have := h.size; simp; omega

theorem ownsRow_ge {w : World} {base : Nat} {e : TypeId} {size : Nat} {v : Value} {n : Nat} {xs : List Value} (h : w.ownsRow base e size v n xs) : ∀ k, v.ownBlock = some k → base ≤ k := by
  intro k hk
  rcases h.2 with ⟨hv, _⟩ | ⟨g, cap, cur, hv, hg, _⟩
  · subst hv; simp [Value.ownBlock] at hk
  · subst hv; simp [Value.ownBlock] at hk; omega

theorem OwnI.snoc {base : Nat} {w : World} {v : Value} {xs : List Int} {m : Int} (h : w.ownsRow base 3 1 v (xs.length + 1) (xs.map (Value.int .i64) ++ [Value.int .i64 m])) : OwnI base w v (xs ++ [m]) := by
  unfold OwnI; rw [List.length_append, List.map_append]; exact h

theorem below_app {w wr w1 : World} {base : Nat} {e e2 : TypeId} {size : Nat} {v u : Value} {n : Nat} {xs : List Value} (h : Below w.heap.size w wr) (hown : wr.ownsRow base e size v n xs) (hbase : w.heap.size ≤ base)
    (hg : (wr.alloc (.cells #[u] e2)).grownBy w1 v.ownBlock) : Below w.heap.size w w1 :=
  (nxAlloc h (.cells #[u] e2)).grown hg (size_al h _) (fun k hk => Nat.le_trans hbase (ownsRow_ge hown k hk))

/-- A call that hands back a slice of integers of its own. -/
def GivesInts (xs : List Int) (w : World) (e : Ending) (w' : World) : Prop :=
  ∃ v, OwnI w.heap.size w' v xs ∧ Below w.heap.size w w' ∧ e = .returned v

/-- An answer of a slice of the call's own and a bool. -/
def AnsI2 (xs : List Int) (ok : Bool) (w : World) (e : Ending) (w' : World) : Prop :=
  ∃ v, OwnI w.heap.size w' v xs ∧ Below w.heap.size w w' ∧ e = .returned (.tuple #[v, .bool ok])
def AnsIs (o : Option (List Int)) (w : World) (e : Ending) (w' : World) : Prop := AnsI2 (o.getD []) o.isSome w e w'

end Go.Proofs.Ytkpganpojdboeaa

/-! RowS -/
namespace Go.Proofs.Ytkpganpojdboeaa
open Go.RowKit

theorem info_str : (Try.prog.info? 9).map (fun i => (i.zero, i.size, i.bytes)) = some (some (.string ⟨#[]⟩), 1, 16) := by kernel_rfl

/-- v is a slice of the texts ss, in a block from base on that the call has made. -/
def OwnS (base : Nat) (w : World) (v : Value) (ss : List ByteArray) : Prop := w.ownsRow base 9 1 v ss.length (ss.map Value.string)

theorem OwnS.keep {base : Nat} {w w' : World} {v : Value} {ss : List ByteArray} (h : OwnS base w v ss) (hb : Below w.heap.size w w') : OwnS base w' v ss := ownsRow_keep h hb
theorem OwnS.nil (base : Nat) (w : World) : OwnS base w (.slice none 0 0) [] := World.ownsRow_nil _ _ _ _

theorem ownsRow_mono {w : World} {base base' : Nat} {e : TypeId} {size : Nat} {v : Value} {n : Nat} {xs : List Value} (h : w.ownsRow base e size v n xs) (hb : base' ≤ base) : w.ownsRow base' e size v n xs := by
  obtain ⟨h1, h2⟩ := h
  refine ⟨h1, ?_⟩
  rcases h2 with h2 | ⟨g, cap, cur, hv, hg, r⟩
  · exact .inl h2
  · exact .inr ⟨g, cap, cur, hv, Nat.le_trans hb hg, r⟩
theorem OwnS.mono {base base' : Nat} {w : World} {v : Value} {ss : List ByteArray} (h : OwnS base w v ss) (hb : base' ≤ base) : OwnS base' w v ss := ownsRow_mono h hb
theorem OwnI.mono {base base' : Nat} {w : World} {v : Value} {xs : List Int} (h : OwnI base w v xs) (hb : base' ≤ base) : OwnI base' w v xs := ownsRow_mono h hb

/-- What can be read of such a slice. -/
def CellsS (base : Nat) (w : World) (v : Value) (ss : List ByteArray) : Prop :=
  (v = .slice none 0 0 ∧ ss = []) ∨ ∃ g cap : Nat, v = .slice (some ⟨g, 0, none⟩) ss.length cap ∧ base ≤ g ∧ g < w.heap.size ∧ ss.length ≤ cap ∧ cap ≤ maxLen ∧
    (∀ i, i < ss.length → w.cell? ⟨g, i, none⟩ = some (.string (ss.getD i ⟨#[]⟩))) ∧ ∀ i, w.frozen? ⟨g, i, none⟩ = false

theorem OwnS.cells {base : Nat} {w : World} {v : Value} {ss : List ByteArray} (h : OwnS base w v ss) : CellsS base w v ss := by
  have h0 := h
  obtain ⟨h1, h2⟩ := h
  rcases h2 with ⟨hv, hn⟩ | ⟨g, cap, cur, hv, hg, hh, r1, r2, r3⟩
  · exact .inl ⟨hv, List.length_eq_zero_iff.1 hn⟩
  · subst hv
    refine .inr ⟨g, cap, rfl, hg, lt_of_block hh, r1, r2, fun i hi => ?_, fun i => World.ownsRow.frozenAt h0 i⟩
    have := World.ownsRow.cellAt h0 i (by omega)
    rw [this]
    simp [List.getElem?_eq_getElem hi]

theorem OwnS.shape {base : Nat} {w : World} {v : Value} {ss : List ByteArray} (h : OwnS base w v ss) (hn : 0 < ss.length) : ∃ g cap, v = .slice (some ⟨g, 0, none⟩) ss.length cap := by
  rcases h.2 with ⟨_, h2⟩ | ⟨g, cap, cur, hv, _⟩
  · omega
  · exact ⟨g, cap, hv⟩

/-- One text in a new block. -/
theorem OwnS.one (w : World) (s : ByteArray) : OwnS w.heap.size (w.alloc (.cells #[.string s] 9 (0, 0))) (.slice (some ⟨w.heap.size, 0, none⟩) 1 1) [s] := by
  refine ⟨rfl, .inr ⟨w.heap.size, 1, #[.string s], rfl, Nat.le_refl _, ?_, Nat.le_refl _, by unfold maxLen; omega, rfl, rfl⟩⟩
  show (w.heap.push _)[w.heap.size]? = _
  simp

theorem addr_add (g j : Nat) : (⟨g, 0, none⟩ : Addr).add j = ⟨g, j, none⟩ := by
  unfold Addr.add
  split
  · next h => rw [h]
  · simp

theorem OwnS.news {base : Nat} {w : World} {g cap n : Nat} {ss : List ByteArray} (h : OwnS base w (.slice (some ⟨g, 0, none⟩) n cap) ss) (hn : ss.length = n) :
    ∀ (j : Nat) (u : Value), (ss.map Value.string)[j]? = some u → w.cell? ((⟨g, 0, none⟩ : Addr).add j) = some u := by
  intro j u hj
  subst hn
  have hlt : j < ss.length := by
    rcases Nat.lt_or_ge j ss.length with h | h
    · exact h
    · rw [List.getElem?_eq_none (by simpa using h)] at hj; simp at hj
  have := World.ownsRow.cellAt h j (by omega)
  rw [addr_add, this, hj]
theorem oneS (ss : List ByteArray) : ∀ u ∈ ss.map Value.string, u.oneCell' = true := by
  intro u hu
  rw [List.mem_map] at hu
  obtain ⟨s, _, rfl⟩ := hu
  rfl
theorem OwnS.app {base : Nat} {w : World} {v : Value} {A B : List ByteArray} (h : w.ownsRow base 9 1 v (A.length + B.length) (A.map Value.string ++ B.map Value.string)) : OwnS base w v (A ++ B) := by
  unfold OwnS; rw [List.length_append, List.map_append]; exact h

theorem below_app0 {w wr w1 : World} {base : Nat} {e : TypeId} {size : Nat} {v : Value} {n : Nat} {xs : List Value} (h : Below w.heap.size w wr) (hown : wr.ownsRow base e size v n xs) (hbase : w.heap.size ≤ base)
    (hg : wr.grownBy w1 v.ownBlock) : Below w.heap.size w w1 :=
  h.grown hg h.size (fun k hk => Nat.le_trans hbase (ownsRow_ge hown k hk))

/-- A call that hands back a slice of texts of its own, not empty. -/
def GivesTexts (ss : List ByteArray) (w : World) (e : Ending) (w' : World) : Prop :=
  ∃ g cap : Nat, OwnS w.heap.size w' (.slice (some ⟨g, 0, none⟩) ss.length cap) ss ∧ Below w.heap.size w w' ∧ e = .returned (.slice (some ⟨g, 0, none⟩) ss.length cap)

/-- An answer of a slice of texts of the call's own and a bool. -/
def AnsS2 (ss : List ByteArray) (ok : Bool) (w : World) (e : Ending) (w' : World) : Prop :=
  ∃ v, OwnS w.heap.size w' v ss ∧ Below w.heap.size w w' ∧ e = .returned (.tuple #[v, .bool ok])
def AnsSs (o : Option (List ByteArray)) (w : World) (e : Ending) (w' : World) : Prop := AnsS2 (o.getD []) o.isSome w e w'
end Go.Proofs.Ytkpganpojdboeaa

/-! Quiet -/
namespace Go.Proofs.Ytkpganpojdboeaa
open Go.RowKit

theorem quiet_eq {P : Program} {f : FuncId} {args : Array Value} {w : World} {n : Nat} {v : Value} (h : Calls P f args (w.drewN n) fun e w' => e = .returned v ∧ w.drewN n = w') :
    Calls P f args (w.drewN n) fun e w'' => e = .returned v ∧ ∃ m, w'' = w.drewN m :=
  h.mono fun _ _ ⟨he, hm⟩ => ⟨he, n, hm.symm⟩

def Quietly (v : Value) (w : World) (e : Ending) (w' : World) : Prop := e = .returned v ∧ ∃ n, w' = w.drewN n
end Go.Proofs.Ytkpganpojdboeaa

/-! Tail -/
namespace Go.Proofs.Ytkpganpojdboeaa
open Go.RowKit

theorem CellsI.len {base : Nat} {w : World} {v : Value} {xs : List Int} (h : CellsI base w v xs) : (xs.length : Int) ≤ 9223372036854775807 := by
  rcases h with ⟨_, rfl⟩ | ⟨g, cap, _, _, _, h1, h2, _⟩
  · simp
  · unfold maxLen at h2; omega

theorem CellsI.drewN {base : Nat} {w : World} {v : Value} {xs : List Int} (h : CellsI base w v xs) (n : Nat) : CellsI base (w.drewN n) v xs := h

set_option maxHeartbeats 1000000 in
theorem eqIntS_any (b1 b2 : Nat) (v1 v2 : Value) (xs : List Int) (w : World) (h1 : CellsI b1 w v1 xs) (h2 : CellsI b2 w v2 xs) :
    Calls Try.prog 20 #[v1, v2] w (Quietly (.bool true) w) := by
  have hl := h1.len
  rcases h1 with ⟨rfl, rfl⟩ | ⟨g, cap, rfl, hb1, hg1, hc1, hm1, hx1, _⟩
  · rcases h2 with ⟨rfl, _⟩ | ⟨g, cap, rfl, hb1, hg1, hc1, hm1, hx1, _⟩
    all_goals
      go_enter Try.func20, Try.ntmps20
      go_wp2_with fail
      go_loopw [5] (fun i wr => i = .int .i64 0 ∧ wr = w) (fun _ _ => 0)
      case atStart => exact ⟨rfl, rfl⟩
      case round =>
        obtain ⟨rfl, rfl⟩ := hrel
        go_wp2_with fail
        go_ret
        exact ⟨rfl, 0, rfl⟩
  · rcases h2 with ⟨rfl, rfl⟩ | ⟨g2, cap2, rfl, hb2, hg2, hc2, hm2, hx2, _⟩
    · go_enter Try.func20, Try.ntmps20
      go_wp2_with fail
      go_loopw [5] (fun i wr => i = .int .i64 0 ∧ wr = w) (fun _ _ => 0)
      case atStart => exact ⟨rfl, rfl⟩
      case round =>
        obtain ⟨rfl, rfl⟩ := hrel
        go_wp2_with fail
        go_ret
        exact ⟨rfl, 0, rfl⟩
    · have HX1 := Lib.hid hx1
      have HX2 := Lib.hid hx2
      clear hx1 hx2
      go_enter Try.func20, Try.ntmps20
      go_wp2_with fail
      go_loopw [5] (fun i wr => ∃ k d : Nat, k ≤ xs.length ∧ i = .int .i64 k ∧ wr = w.drewN d) (fun i _ => xs.length - (intOf i).toNat)
      case atStart => exact ⟨0, 0, Nat.zero_le _, rfl, rfl⟩
      case round =>
        obtain ⟨k, d, hk, rfl, rfl⟩ := hrel
        by_cases hlt : k < xs.length
        · have hlt' : (k : Int) < (xs.length : Int) := by omega
          have c1 := HX1.out k hlt
          have c2 := HX2.out k hlt
          obtain ⟨x, hx⟩ : ∃ x, x = xs.getD k 0 := ⟨_, rfl⟩
          rw [← hx] at c1 c2
          clear hx
          go_wp2_with fail
          go_quiet (fail)
          go_wp2_with fail
          go_roundw
          case rel => exact ⟨k + 1, _, by omega, by go_num, rfl⟩
          case measure => simp [intOf]; omega
        · obtain rfl : k = xs.length := by omega
          go_wp2_with fail
          go_ret
          exact ⟨rfl, _, rfl⟩

/-- k, k + 1, .. : n numbers. -/
def marks (k : Int) (n : Nat) : List Int := (List.range n).map fun (i : Nat) => k + (i : Int)
theorem marks_length (k : Int) (n : Nat) : (marks k n).length = n := by simp [marks]
theorem marks_getD (k : Int) {n i : Nat} (h : i < n) : (marks k n).getD i 0 = k + i := by simp [marks, h]

set_option maxHeartbeats 1000000 in
theorem heldIntS_any (b1 : Nat) (v1 : Value) (n : Nat) (k : Int) (w : World) (hk0 : 0 ≤ k) (hk1 : k ≤ 1000000000) (hn9 : n ≤ 1000000000) (h1 : CellsI b1 w v1 (marks k n)) :
    Calls Try.prog 22 #[v1, .int .i64 k] w (Quietly (.int .i64 (k + n)) w) := by
  have hl := h1.len
  rcases h1 with ⟨rfl, hn⟩ | ⟨g, cap, rfl, hb1, hg1, hc1, hm1, hx1, _⟩
  · have hn0 : n = 0 := by have := congrArg List.length hn; simpa [marks_length] using this
    subst hn0
    clear hn
    go_enter Try.func22, Try.ntmps22
    go_wp2_with fail
    go_loopw [1, 5] (fun v i wr => v = .int .i64 k ∧ i = .int .i64 0 ∧ wr = w) (fun _ _ _ => 0)
    case atStart => exact ⟨rfl, rfl, rfl⟩
    case round =>
      obtain ⟨rfl, rfl, rfl⟩ := hrel
      go_wp2_with fail
      go_ret
      exact ⟨ret_int (by simp), 0, rfl⟩
  · rw [marks_length] at hx1 hc1 hl ⊢
    have HX1 := Lib.hid hx1
    clear hx1
    go_enter Try.func22, Try.ntmps22
    go_wp2_with fail
    go_loopw [1, 5] (fun v i wr => ∃ j d : Nat, j ≤ n ∧ i = .int .i64 j ∧ v = .int .i64 (k + j) ∧ wr = w.drewN d) (fun _ i _ => n - (intOf i).toNat)
    case atStart => exact ⟨0, 0, Nat.zero_le _, rfl, by simp, rfl⟩
    case round =>
      obtain ⟨j, d, hj, rfl, rfl, rfl⟩ := hrel
      by_cases hlt : j < n
      · have hlt' : (j : Int) < (n : Int) := by omega
        have c1 := HX1.out j hlt
        rw [marks_getD k hlt] at c1
        go_wp2_with fail
        go_roundw
        case rel => exact ⟨j + 1, _, by omega, by go_num, by go_num, rfl⟩
        case measure => simp [intOf]; omega
      · obtain rfl : j = n := by omega
        go_wp2_with fail
        go_ret
        exact ⟨rfl, _, rfl⟩
theorem marks_set (k : Int) (xs : List Int) (j : Nat) (h : j < xs.length) : (marks k j ++ xs.drop j).set j (k + j) = marks k (j + 1) ++ xs.drop (j + 1) := by
  have hm := marks_length k j
  have e1 : marks k (j + 1) = marks k j ++ [k + j] := by simp [marks, List.range_succ]
  rw [List.set_append_right _ _ (by omega), hm, Nat.sub_self, e1, List.append_assoc]
  congr 1
  rw [List.drop_eq_getElem_cons h]
  rfl

theorem OwnI.set {base : Nat} {w : World} {g cap : Nat} {xs : List Int} {n : Nat} (hn : xs.length = n) (h : OwnI base w (.slice (some ⟨g, 0, none⟩) n cap) xs) (j : Nat) (m : Int) :
    OwnI base (w.setCell ⟨g, j, none⟩ (.int .i64 m)) (.slice (some ⟨g, 0, none⟩) n cap) (xs.set j m) := by
  unfold OwnI at *
  subst hn
  rw [List.length_set, List.map_set]
  exact (World.ownsRow.stored h j _).1

/-- A call that hands back a number, and leaves the slice v with other numbers. -/
def Marked (base : Nat) (r : Int) (v : Value) (xs : List Int) (w : World) (e : Ending) (w' : World) : Prop := e = .returned (.int .i64 r) ∧ OwnI base w' v xs ∧ Below base w w'

set_option maxHeartbeats 1000000 in
theorem markIntS_any (base : Nat) (v : Value) (xs : List Int) (n : Nat) (hn : xs.length = n) (k : Int) (w : World) (hk0 : 0 ≤ k) (hk1 : k ≤ 1000000000) (hn9 : n ≤ 1000000000) (h : OwnI base w v xs) :
    Calls Try.prog 21 #[v, .int .i64 k] w (Marked base (k + n) v (marks k n) w) := by
  have hb0 := Below.refl base w
  rcases h.cells with ⟨rfl, rfl⟩ | ⟨g, cap, rfl, hb1, hg1, hc1, hm1, hx1, hf1⟩
  · obtain rfl : n = 0 := hn.symm
    have H := Lib.hid h
    clear h hn
    go_enter Try.func21, Try.ntmps21
    go_wp2_with fail
    go_loopw [1, 5] (fun v i wr => v = .int .i64 k ∧ i = .int .i64 0 ∧ wr = w) (fun _ _ _ => 0)
    case atStart => exact ⟨rfl, rfl, rfl⟩
    case round =>
      obtain ⟨rfl, rfl, rfl⟩ := hrel
      go_wp2_with fail
      go_ret
      exact ⟨ret_int (by simp), H.out, hb0⟩
  · rw [hn] at hc1 h ⊢
    clear hx1 hf1
    have H := Lib.hid h
    have HN := Lib.hid hn
    clear h hn
    go_enter Try.func21, Try.ntmps21
    go_wp2_with fail
    go_loopw [1, 5] (fun v i wr => ∃ j : Nat, j ≤ n ∧ i = .int .i64 j ∧ v = .int .i64 (k + j) ∧ Hid (OwnI base wr (.slice (some ⟨g, 0, none⟩) n cap) (marks k j ++ xs.drop j)) ∧ Below base w wr) (fun _ i _ => n - (intOf i).toNat)
    case atStart => exact ⟨0, Nat.zero_le _, rfl, by simp, by simpa [marks] using H, hb0⟩
    case round =>
      obtain ⟨j, hj, rfl, rfl, hown, hbw⟩ := hrel
      have hlen : (marks k j ++ xs.drop j).length = n := by have := HN.out; rw [List.length_append, marks_length, List.length_drop]; omega
      by_cases hlt : j < n
      · have hlt' : (j : Int) < (n : Int) := by omega
        have hset := OwnI.set hlen hown.out j (k + j)
        rw [marks_set k xs j (by rw [HN.out]; exact hlt)] at hset
        have hcells := hown.out.cells
        have hfz : wr.frozen? ⟨g, j, none⟩ = false := World.ownsRow.frozenAt (by have := hown.out; unfold OwnI at this; rw [hlen] at this; exact this) j
        obtain ⟨x, hcell⟩ : ∃ x, wr.cell? ⟨g, j, none⟩ = some x := by
          have h1 := hown.out
          unfold OwnI at h1
          rw [hlen] at h1
          have := World.ownsRow.cellAt h1 j (by omega)
          rw [this]
          exact ⟨_, List.getElem?_eq_getElem (by rw [List.length_map, hlen]; exact hlt)⟩
        have hbw' : Below base w (wr.setCell ⟨g, j, none⟩ (.int .i64 (k + j))) := hbw.setCell (by exact hb1) _
        have HSET := Lib.hid hset
        clear hset hcells
        go_wp2_with fail
        go_roundw
        case rel => exact ⟨j + 1, by omega, by go_num, by go_num, HSET, hbw'⟩
        case measure => simp [intOf]; omega
      · obtain rfl : j = n := by omega
        have hend : Hid (OwnI base wr (.slice (some ⟨g, 0, none⟩) j cap) (marks k j)) := by
          have h1 := hown.out
          rw [List.drop_of_length_le (by rw [HN.out]; exact Nat.le_refl _), List.append_nil] at h1
          exact h1
        go_wp2_with fail
        go_ret
        exact ⟨rfl, hend.out, hbw⟩

end Go.Proofs.Ytkpganpojdboeaa

/-! Pure -/
namespace Go.Proofs.Ytkpganpojdboeaa

/-- The byte at an index of a text (0 behind its end). -/
def byteAt (s : ByteArray) (a : Int) : Int := if h : a.toNat < s.size then ((s[a.toNat]'h).toNat : Int) else 0

theorem byteAt_eq (s : ByteArray) (a : Int) (h : a.toNat < s.size) : byteAt s a = ((s[a.toNat]'h).toNat : Int) := by unfold byteAt; rw [dif_pos h]

/-- The index behind the tree at an index, or -1 (k: the depth that is left). -/
def endI : Nat → ByteArray → Int → Int
  | 0, _, _ => -1
  | k + 1, s, a =>
    if a < s.size then
      if byteAt s a = 46 then a + 1
      else if byteAt s a ≠ 40 then -1
      else if endI k s (a + 1) < 0 then -1
      else if endI k s (endI k s (a + 1)) < 0 then -1
      else if (s.size : Int) ≤ endI k s (endI k s (a + 1)) then -1
      else if byteAt s (endI k s (endI k s (a + 1))) ≠ 41 then -1
      else endI k s (endI k s (a + 1)) + 1
    else -1

theorem endI_le (k : Nat) : ∀ (s : ByteArray) (a : Int), 0 ≤ a → -1 ≤ endI k s a ∧ endI k s a ≤ s.size := by
  induction k with
  | zero => intro s a _; simp [endI]
  | succ k ih =>
    intro s a ha
    have h1 := ih s (a + 1) (by omega)
    have h2 := fun h => ih s (endI k s (a + 1)) h
    rw [endI]
    repeat' split
    all_goals first | omega | (have := h2 (by omega); omega)

/-- How many of the first k bytes are carets' beginnings. -/
def cnt (s : ByteArray) : Nat → Int
  | 0 => 0
  | k + 1 => cnt s k + if byteAt s k = 40 then 1 else 0

theorem cnt_le (s : ByteArray) (k : Nat) : 0 ≤ cnt s k ∧ cnt s k ≤ k := by
  induction k with
  | zero => simp [cnt]
  | succ k ih => rw [cnt]; split <;> omega

/-- The text is a tree, as the spec tells it. -/
def isTreeB (s : ByteArray) : Bool := decide ((s.size : Int) ≤ 33) && decide (cnt s s.size ≤ 8) && endI 61 s 0 == (s.size : Int)

theorem isTreeB_size {s : ByteArray} (h : isTreeB s = true) : s.size ≤ 33 := by
  unfold isTreeB at h; simp at h; omega

end Go.Proofs.Ytkpganpojdboeaa

/-! Tr -/
namespace Go.Proofs.Ytkpganpojdboeaa

inductive Tr where
  | lf
  | nd (l r : Tr)

namespace Tr
def text : Tr → List UInt8
  | lf => [46]
  | nd l r => 40 :: (l.text ++ (r.text ++ [41]))
def carets : Tr → Nat
  | lf => 0
  | nd l r => l.carets + r.carets + 1
def str (t : Tr) : ByteArray := ⟨t.text.toArray⟩
end Tr

theorem Tr.text_len (t : Tr) : t.text.length = 3 * t.carets + 1 := by
  induction t with
  | lf => rfl
  | nd l r ihl ihr => simp [Tr.text, Tr.carets, ihl, ihr]; omega

theorem Tr.str_list (t : Tr) : t.str.data.toList = t.text := by simp [Tr.str]
theorem Tr.str_size (t : Tr) : t.str.size = 3 * t.carets + 1 := by
  rw [← Tr.text_len]; show t.str.data.size = _; simp [Tr.str]
theorem ba_ext {a b : ByteArray} (h : a.data.toList = b.data.toList) : a = b := by
  cases a; cases b; simpa using h

/-- Reading a tree at the beginning of a text. -/
def parseN : Nat → List UInt8 → Option (Tr × List UInt8)
  | 0, _ => none
  | _ + 1, [] => none
  | k + 1, c :: r =>
    if c = 46 then some (.lf, r)
    else if c = 40 then
      match parseN k r with
      | none => none
      | some (t1, r1) =>
        match parseN k r1 with
        | none => none
        | some (t2, r2) =>
          match r2 with
          | [] => none
          | d :: r3 => if d = 41 then some (.nd t1 t2, r3) else none
    else none

theorem parseN_sound (k : Nat) : ∀ (l : List UInt8) (t : Tr) (r : List UInt8), parseN k l = some (t, r) → l = t.text ++ r := by
  induction k with
  | zero => intro l t r h; simp [parseN] at h
  | succ k ih =>
    intro l t r h
    match l with
    | [] => simp [parseN] at h
    | c :: l' =>
      rw [parseN] at h
      split at h
      · next hc => simp at h; obtain ⟨rfl, rfl⟩ := h; simp [Tr.text, hc]
      · split at h
        · next hc =>
          split at h
          · simp at h
          · next t1 r1 h1 =>
            split at h
            · simp at h
            · next t2 r2 h2 =>
              split at h
              · simp at h
              · next d r3 =>
                split at h
                · next hd =>
                  simp at h
                  obtain ⟨rfl, rfl⟩ := h
                  rw [ih _ _ _ h1, ih _ _ _ h2, hc, hd]
                  simp [Tr.text]
                · simp at h
        · simp at h

theorem parseN_complete (t : Tr) : ∀ (k : Nat) (r : List UInt8), t.text.length ≤ k → parseN k (t.text ++ r) = some (t, r) := by
  induction t with
  | lf => intro k r h; cases k with | zero => simp [Tr.text] at h | succ k => simp [Tr.text, parseN]
  | nd a b iha ihb =>
    intro k r h
    cases k with
    | zero => simp [Tr.text] at h
    | succ k =>
      have h' : a.text.length + b.text.length + 2 ≤ k + 1 := by simp [Tr.text] at h; omega
      show parseN (k + 1) (40 :: (a.text ++ (b.text ++ [41])) ++ r) = _
      have e : (40 : UInt8) :: (a.text ++ (b.text ++ [41])) ++ r = 40 :: (a.text ++ (b.text ++ (41 :: r))) := by simp
      rw [e, parseN, if_neg (by decide), if_pos rfl, iha k _ (by omega)]
      show (match parseN k (b.text ++ (41 :: r)) with | none => none | some (t2, r2) => _) = _
      rw [ihb k _ (by omega)]
      simp

theorem Tr.text_inj {t u : Tr} {r q : List UInt8} (h : t.text ++ r = u.text ++ q) : t = u ∧ r = q := by
  have h1 := parseN_complete t (t.text.length + u.text.length) r (by omega)
  have h2 := parseN_complete u (t.text.length + u.text.length) q (by omega)
  rw [h, h2] at h1
  simp at h1
  exact ⟨h1.1.symm, h1.2.symm⟩

theorem parseN_len {k : Nat} {l : List UInt8} {t : Tr} {r : List UInt8} (h : parseN k l = some (t, r)) : r.length + 1 ≤ l.length := by
  have := parseN_sound k l t r h
  have := t.text_len
  subst l; simp; omega

end Go.Proofs.Ytkpganpojdboeaa

/-! TrOf -/
namespace Go.Proofs.Ytkpganpojdboeaa

theorem ext_end (s : ByteArray) (k : Nat) : (s.extract k s.size).data.toList = s.data.toList.drop k := by
  rw [Lib.extract_data]
  exact List.take_of_length_le (by rw [List.length_drop, ← Lib.size_eq]; exact Nat.le_refl _)

theorem byteAt_drop {s : ByteArray} {a : Nat} {c : UInt8} {r : List UInt8} (h : s.data.toList.drop a = c :: r) : a < s.size ∧ byteAt s a = c.toNat := by
  have hl : a < s.data.toList.length := by
    have := congrArg List.length h
    simp at this
    simp; omega
  have hz : a < s.size := by rw [Lib.size_eq]; exact hl
  refine ⟨hz, ?_⟩
  rw [byteAt_eq s a (by simpa using hz)]
  have hc : s.data.toList[a] = c := by
    rw [List.drop_eq_getElem_cons hl] at h
    injection h
  have : (s[((a : Int)).toNat]'(by simpa using hz)) = s.data.toList[a] := by simp; rfl
  rw [this, hc]

theorem drop_of_byteAt {s : ByteArray} {a : Nat} (h : a < s.size) : ∃ c r, s.data.toList.drop a = c :: r ∧ byteAt s a = (c.toNat : Int) ∧ s.data.toList.drop (a + 1) = r := by
  have hl : a < s.data.toList.length := by rw [← Lib.size_eq]; exact h
  have e := List.drop_eq_getElem_cons hl
  exact ⟨_, _, e, (byteAt_drop e).2, rfl⟩

theorem u8_eq {c : UInt8} {n : Nat} (hn : n < 256) (h : (c.toNat : Int) = (n : Int)) : c = UInt8.ofNat n := by
  have h : c.toNat = n := by omega
  subst h; simp

theorem drop_succ {l r : List UInt8} {a : Nat} {c : UInt8} (h : l.drop a = c :: r) : l.drop (a + 1) = r := by
  rw [← List.drop_drop, h]; rfl

theorem drop_add_of {l x y : List UInt8} {a : Nat} (h : l.drop a = x ++ y) : l.drop (a + x.length) = y := by
  rw [← List.drop_drop, h]; simp

theorem endI_complete (t : Tr) : ∀ (k : Nat) (s : ByteArray) (a : Nat) (r : List UInt8), t.carets < k → s.data.toList.drop a = t.text ++ r → endI k s a = a + t.text.length := by
  induction t with
  | lf =>
    intro k s a r hk h
    cases k with
    | zero => omega
    | succ k =>
      have hb := byteAt_drop (show s.data.toList.drop a = 46 :: r from h)
      rw [endI, if_pos (by omega), if_pos (by rw [hb.2]; rfl)]
      rfl
  | nd l rr ihl ihr =>
    intro k s a q hk h
    cases k with
    | zero => omega
    | succ k =>
      have hk' : l.carets < k ∧ rr.carets < k := by simp [Tr.carets] at hk; omega
      have h0 : s.data.toList.drop a = 40 :: (l.text ++ (rr.text ++ (41 :: q))) := by rw [h]; simp [Tr.text]
      have hb := byteAt_drop h0
      have h1 := drop_succ h0
      have e1 := ihl k s (a + 1) _ hk'.1 h1
      have h2 := drop_add_of h1
      have e2 := ihr k s (a + 1 + l.text.length) _ hk'.2 h2
      have h3 := drop_add_of h2
      have hb3 := byteAt_drop h3
      have c1 : endI k s ((a : Int) + 1) = ((a + 1 + l.text.length : Nat) : Int) := by
        have : ((a : Int) + 1) = ((a + 1 : Nat) : Int) := by omega
        rw [this, e1]; omega
      have c2 : endI k s ((a + 1 + l.text.length : Nat) : Int) = ((a + 1 + l.text.length + rr.text.length : Nat) : Int) := by
        rw [e2]; omega
      rw [endI, if_pos (by omega), if_neg (by rw [hb.2]; decide), if_neg (by rw [hb.2]; decide), c1, if_neg (by omega), c2, if_neg (by omega), if_neg (by omega), if_neg (by rw [hb3.2]; decide)]
      simp [Tr.text]; omega

theorem endI_sound (k : Nat) : ∀ (s : ByteArray) (a : Nat), 0 ≤ endI k s a → ∃ t : Tr, ∃ r, s.data.toList.drop a = t.text ++ r ∧ endI k s a = a + t.text.length := by
  induction k with
  | zero => intro s a h; simp [endI] at h
  | succ k ih =>
    intro s a h
    rw [endI] at h ⊢
    split at h
    · next hlt =>
      obtain ⟨c, r, hd, hb, hd1⟩ := drop_of_byteAt (s := s) (a := a) (by omega)
      split at h
      · next h46 =>
        rw [hb] at h46
        have := u8_eq (n := 46) (by omega) h46
        refine ⟨.lf, r, ?_, ?_⟩
        · rw [hd, this]; rfl
        · rw [if_pos hlt, if_pos (by rw [hb]; exact h46)]; rfl
      · next h46 =>
        split at h
        · omega
        · next h40 =>
          split at h
          · omega
          · next hl =>
            have cast1 : ((a : Int) + 1) = ((a + 1 : Nat) : Int) := by omega
            have hl' : 0 ≤ endI k s ((a + 1 : Nat) : Int) := by rw [← cast1]; omega
            obtain ⟨t1, r1, e1, f1⟩ := ih s (a + 1) hl'
            have g1 : endI k s ((a : Int) + 1) = ((a + 1 + t1.text.length : Nat) : Int) := by rw [cast1, f1]; omega
            split at h
            · omega
            · next hr =>
              rw [g1] at hr
              obtain ⟨t2, r2, e2, f2⟩ := ih s (a + 1 + t1.text.length) (by omega)
              have g2 : endI k s (endI k s ((a : Int) + 1)) = ((a + 1 + t1.text.length + t2.text.length : Nat) : Int) := by rw [g1, f2]; omega
              split at h
              · omega
              · next hz =>
                split at h
                · omega
                · next h41 =>
                  rw [g2] at hz h41
                  obtain ⟨d, q, e3, b3, _⟩ := drop_of_byteAt (s := s) (a := a + 1 + t1.text.length + t2.text.length) (by omega)
                  have hd41 := u8_eq (n := 41) (by omega) (show ((d.toNat : Int)) = ((41 : Nat) : Int) by rw [← b3]; simpa using h41)
                  have hc40 := u8_eq (n := 40) (by omega) (show ((c.toNat : Int)) = ((40 : Nat) : Int) by rw [← hb]; simpa using h40)
                  refine ⟨.nd t1 t2, q, ?_, ?_⟩
                  · have x2 := drop_add_of e1
                    rw [e2] at x2
                    have x3 := drop_add_of e2
                    rw [e3] at x3
                    rw [hd, hc40]
                    have : r = t1.text ++ (t2.text ++ (41 :: q)) := by
                      rw [← hd1, e1, ← x2, ← x3, hd41]; rfl
                    rw [this]; simp [Tr.text]
                  · rw [if_pos hlt, if_neg h46, if_neg h40, if_neg hl, if_neg (by omega), if_neg (by omega), if_neg (by rw [g2]; exact h41), g2]
                    simp [Tr.text]; omega
    · omega

theorem text_count (t : Tr) : t.text.count 40 = t.carets := by
  induction t with
  | lf => rfl
  | nd l r ihl ihr => simp [Tr.text, Tr.carets, List.count_append, ihl, ihr]

theorem cnt_count (s : ByteArray) (k : Nat) (hk : k ≤ s.size) : cnt s k = ((s.data.toList.take k).count 40 : Nat) := by
  induction k with
  | zero => simp [cnt]
  | succ k ih =>
    obtain ⟨c, r, hd, hb, _⟩ := drop_of_byteAt (s := s) (a := k) (by omega)
    have hl : k < s.data.toList.length := by rw [← Lib.size_eq]; omega
    have hc : s.data.toList[k] = c := by
      rw [List.drop_eq_getElem_cons hl] at hd
      injection hd
    rw [cnt, ih (by omega), hb, List.take_succ_eq_append_getElem hl, hc, List.count_append]
    by_cases h : c = 40
    · subst h; simp
    · have h' : ¬ ((c.toNat : Int) = 40) := fun e => h (u8_eq (n := 40) (by omega) e)
      rw [if_neg h']
      simp [h]

theorem cnt_str (t : Tr) : cnt t.str t.str.size = t.carets := by
  rw [cnt_count _ _ (Nat.le_refl _), ← text_count, ← Tr.str_list, List.take_of_length_le]
  rw [Lib.size_eq]; exact Nat.le_refl _

/-- The tree of a text, if it is one. -/
def treeOf (s : ByteArray) : Option Tr :=
  match parseN (s.size + 1) s.data.toList with
  | some (t, []) => if t.carets ≤ 8 then some t else none
  | _ => none

theorem str_of_list {s : ByteArray} {t : Tr} (h : s.data.toList = t.text) : s = t.str := ba_ext (by rw [h, Tr.str_list])

theorem treeOf_some {s : ByteArray} {t : Tr} (h : treeOf s = some t) : s = t.str ∧ t.carets ≤ 8 := by
  unfold treeOf at h
  split at h
  · next u hp =>
    split at h
    · next hc =>
      injection h with h
      subst h
      have := parseN_sound _ _ _ _ hp
      exact ⟨str_of_list (by simpa using this), hc⟩
    · simp at h
  · simp at h

theorem parse_str (t : Tr) (k : Nat) (h : t.text.length ≤ k) : parseN k t.str.data.toList = some (t, []) := by
  have := parseN_complete t k [] h
  rwa [List.append_nil, ← Tr.str_list] at this

theorem treeOf_str (t : Tr) (h : t.carets ≤ 8) : treeOf t.str = some t := by
  unfold treeOf
  rw [parse_str t _ (by have := t.str_size; have := t.text_len; omega)]
  simp [h]

theorem endI_str (t : Tr) (h : t.carets ≤ 8) : endI 61 t.str 0 = t.str.size := by
  have := endI_complete t 61 t.str 0 [] (by omega) (by rw [Tr.str_list]; simp)
  rw [Tr.str_size, ← Tr.text_len]
  simpa using this

theorem isTreeB_str (t : Tr) (h : t.carets ≤ 8) : isTreeB t.str = true := by
  unfold isTreeB
  rw [cnt_str, endI_str t h, Tr.str_size]
  simp; omega

theorem treeOf_of_isTreeB {s : ByteArray} (h : isTreeB s = true) : ∃ t : Tr, s = t.str ∧ t.carets ≤ 8 := by
  unfold isTreeB at h
  simp at h
  obtain ⟨⟨h1, h2⟩, h3⟩ := h
  obtain ⟨t, r, e, f⟩ := endI_sound 61 s 0 (by rw [show ((0 : Nat) : Int) = 0 from rfl, h3]; omega)
  have hz : s.size = t.text.length := by
    rw [show ((0 : Nat) : Int) = 0 from rfl] at f
    omega
  have hr : r = [] := by
    have := congrArg List.length e
    simp only [List.drop_zero, List.length_append, ← Lib.size_eq] at this
    exact List.length_eq_zero_iff.1 (by omega)
  have hs : s = t.str := str_of_list (by rw [hr] at e; simpa using e)
  refine ⟨t, hs, ?_⟩
  rw [hs, cnt_str] at h2
  omega

theorem isTreeB_eq (s : ByteArray) : isTreeB s = (treeOf s).isSome := by
  cases h : treeOf s with
  | some t =>
    obtain ⟨rfl, hc⟩ := treeOf_some h
    exact isTreeB_str t hc
  | none =>
    cases hb : isTreeB s with
    | false => rfl
    | true =>
      obtain ⟨t, rfl, hc⟩ := treeOf_of_isTreeB hb
      rw [treeOf_str t hc] at h
      simp at h

end Go.Proofs.Ytkpganpojdboeaa

/-! TrFn -/
namespace Go.Proofs.Ytkpganpojdboeaa
namespace Tr
def mir : Tr → Tr
  | lf => lf
  | nd l r => nd r.mir l.mir
def join : Tr → Tr → Tr
  | lf, b => b
  | nd l r, lf => nd l r
  | nd l r, nd p q => nd (join l p) (join r q)
def com : Tr → Tr → Tr
  | lf, _ => lf
  | nd _ _, lf => lf
  | nd l r, nd p q => nd (com l p) (com r q)
def part : Tr → Tr → Bool
  | lf, _ => true
  | nd _ _, lf => false
  | nd l r, nd p q => part l p && part r q
def isLf : Tr → Bool
  | lf => true
  | nd _ _ => false
end Tr

theorem mir_carets (t : Tr) : t.mir.carets = t.carets := by
  induction t with
  | lf => rfl
  | nd l r ihl ihr => simp [Tr.mir, Tr.carets, ihl, ihr]; omega

theorem join_carets (a : Tr) : ∀ b : Tr, (a.join b).carets ≤ a.carets + b.carets := by
  induction a with
  | lf => intro b; simp [Tr.join]
  | nd l r ihl ihr =>
    intro b
    cases b with
    | lf => simp [Tr.join]
    | nd p q => have := ihl p; have := ihr q; simp [Tr.join, Tr.carets]; omega

theorem com_carets (a : Tr) : ∀ b : Tr, (a.com b).carets ≤ a.carets := by
  induction a with
  | lf => intro b; simp [Tr.com]
  | nd l r ihl ihr =>
    intro b
    cases b with
    | lf => simp [Tr.com, Tr.carets]
    | nd p q => have := ihl p; have := ihr q; simp [Tr.com, Tr.carets]; omega

theorem com_eq_part (a : Tr) : ∀ b : Tr, a.com b = a ↔ a.part b = true := by
  induction a with
  | lf => intro b; simp [Tr.com, Tr.part]
  | nd l r ihl ihr =>
    intro b
    cases b with
    | lf => simp [Tr.com, Tr.part]
    | nd p q => simp [Tr.com, Tr.part, ihl, ihr]

end Go.Proofs.Ytkpganpojdboeaa

/-! Dots -/
namespace Go.Proofs.Ytkpganpojdboeaa

/-- The index of the leaf n in a text that begins at 'off', or -1. -/
def posFrom : List UInt8 → Nat → Int → Int
  | [], _, _ => -1
  | c :: r, off, n => if c = 46 then (if n = 0 then off else posFrom r (off + 1) (n - 1)) else posFrom r (off + 1) n

theorem posFrom_range : ∀ (l : List UInt8) (off : Nat) (n : Int), posFrom l off n = -1 ∨ (off ≤ posFrom l off n ∧ posFrom l off n < off + l.length) := by
  intro l
  induction l with
  | nil => intro off n; exact .inl rfl
  | cons c r ih =>
    intro off n
    rw [posFrom]
    have h1 := ih (off + 1) n
    have h2 := ih (off + 1) (n - 1)
    simp only [List.length_cons]
    repeat' split
    all_goals omega

theorem posFrom_neg : ∀ (l : List UInt8) (off : Nat) (n : Int), n < 0 → posFrom l off n = -1 := by
  intro l
  induction l with
  | nil => intro off n _; rfl
  | cons c r ih =>
    intro off n h
    rw [posFrom, ih _ _ h, ih _ (n - 1) (by omega)]
    have h0 : ¬ n = 0 := by omega
    simp [h0]

theorem posFrom_big : ∀ (l : List UInt8) (off : Nat) (n : Int), (l.count 46 : Int) ≤ n → posFrom l off n = -1 := by
  intro l
  induction l with
  | nil => intro off n _; rfl
  | cons c r ih =>
    intro off n h
    rw [posFrom]
    rw [List.count_cons] at h
    split
    · next hc => rw [if_neg (by simp [hc] at h; omega)]; exact ih _ _ (by simp [hc] at h; omega)
    · next hc => exact ih _ _ (by simp [hc] at h; omega)

theorem posFrom_in : ∀ (l : List UInt8) (off : Nat) (n : Int), 0 ≤ n → n < (l.count 46 : Int) → off ≤ posFrom l off n := by
  intro l
  induction l with
  | nil => intro off n h k; simp at k; omega
  | cons c r ih =>
    intro off n h k
    rw [posFrom]
    rw [List.count_cons] at k
    split
    · next hc =>
      split
      · omega
      · have := ih (off + 1) (n - 1) (by omega) (by simp [hc] at k; omega); omega
    · next hc => have := ih (off + 1) n h (by simp [hc] at k; omega); omega

theorem text_dots (t : Tr) : t.text.count 46 = t.carets + 1 := by
  induction t with
  | lf => rfl
  | nd l r ihl ihr => simp [Tr.text, Tr.carets, List.count_append, ihl, ihr]; omega

/-- The text of a tree with another text in place of a leaf. -/
def graftS (s : ByteArray) (n : Int) (o : ByteArray) : ByteArray :=
  s.extract 0 (posFrom s.data.toList 0 n).toNat ++ o ++ s.extract ((posFrom s.data.toList 0 n).toNat + 1) s.size

theorem pos_str (t : Tr) (n : Int) : (0 ≤ n ∧ n ≤ t.carets ∧ 0 ≤ posFrom t.str.data.toList 0 n ∧ posFrom t.str.data.toList 0 n < t.str.size) ∨ ((n < 0 ∨ t.carets < n) ∧ posFrom t.str.data.toList 0 n = -1) := by
  rw [Tr.str_list]
  have hr := posFrom_range t.text 0 n
  have hz := t.str_size
  have hl := t.text_len
  have hd := text_dots t
  by_cases h1 : n < 0
  · exact .inr ⟨.inl h1, posFrom_neg _ _ _ h1⟩
  · by_cases h2 : (t.carets : Int) < n
    · exact .inr ⟨.inr h2, posFrom_big _ _ _ (by rw [hd]; omega)⟩
    · have := posFrom_in t.text 0 n (by omega) (by rw [hd]; omega)
      exact .inl (by omega)

theorem graft_size (t : Tr) (n : Int) (o : ByteArray) (h : 0 ≤ posFrom t.str.data.toList 0 n) (k : posFrom t.str.data.toList 0 n < t.str.size) : (graftS t.str n o).size = t.str.size - 1 + o.size := by
  unfold graftS
  simp only [ByteArray.size_append, ByteArray.size_extract]
  omega

end Go.Proofs.Ytkpganpojdboeaa

/-! ExpoP -/
namespace Go.Proofs.Ytkpganpojdboeaa

/-- Does a text begin with an exposed caret? -/
def expB (l : List UInt8) : Bool := l.take 4 == [40, 46, 46, 41]

/-- The left leaves of the exposed carets of a text, n leaves being in front of it. -/
def exL : List UInt8 → Int → List Int
  | [], _ => []
  | c :: r, n => (if expB (c :: r) then [n] else []) ++ exL r (if c = 46 then n + 1 else n)

theorem exL_length : ∀ (l : List UInt8) (n : Int), (exL l n).length ≤ l.length := by
  intro l
  induction l with
  | nil => intro n; simp [exL]
  | cons c r ih => intro n; have := ih (if c = 46 then n + 1 else n); rw [exL]; simp only [List.length_append, List.length_cons]; split <;> simp <;> omega

/-- What the spec's scan, which looks one byte back, has still to tell at index k. -/
def pend (l : List UInt8) (k : Nat) (n : Int) : List Int := if 0 < k ∧ expB (l.drop (k - 1)) = true then [n] else []

theorem expB_cons {c : UInt8} {r : List UInt8} (h : expB (c :: r) = true) : c = 40 ∧ 3 ≤ r.length := by
  unfold expB at h
  simp only [beq_iff_eq] at h
  have h1 := congrArg List.length h
  have h2 := congrArg List.head? h
  simp at h1 h2
  exact ⟨h2, by omega⟩

theorem exL_step {l r : List UInt8} {k : Nat} {c : UInt8} {n : Int} (h : l.drop k = c :: r) :
    exL (l.drop k) n = pend l (k + 1) (if c = 46 then n + 1 else n) ++ exL (l.drop (k + 1)) (if c = 46 then n + 1 else n) := by
  have hr : l.drop (k + 1) = r := drop_succ h
  rw [hr, h, exL]
  congr 1
  unfold pend
  rw [Nat.add_sub_cancel, h]
  cases hb : expB (c :: r) with
  | false => simp
  | true =>
    have := (expB_cons hb).1
    subst this
    simp

theorem expB_extract (s : ByteArray) (k : Nat) (h : 0 < k) : expB (s.data.toList.drop (k - 1)) = ((s.extract (k - 1) (k + 3)).toList == [40, 46, 46, 41]) := by
  unfold expB
  rw [Lib.extract_toList]
  have : k + 3 - (k - 1) = 4 := by omega
  rw [this]

theorem expB_here (s : ByteArray) (k : Nat) : expB (s.data.toList.drop k) = ((s.data.toList.drop k).take 4 == [40, 46, 46, 41]) := rfl

theorem expB_drop {l : List UInt8} {k : Nat} (h : expB (l.drop k) = true) : k + 4 ≤ l.length := by
  cases hd : l.drop k with
  | nil => rw [hd] at h; simp [expB] at h
  | cons c r =>
    rw [hd] at h
    have := (expB_cons h).2
    have := congrArg List.length hd
    simp at this
    omega

theorem pend_zero (l : List UInt8) (n : Int) : pend l 0 n = [] := by simp [pend]

end Go.Proofs.Ytkpganpojdboeaa

/-! DropP -/
namespace Go.Proofs.Ytkpganpojdboeaa

theorem posFrom_shift : ∀ (l : List UInt8) (off : Nat) (q : Int), posFrom l off q = if posFrom l 0 q = -1 then -1 else posFrom l 0 q + off := by
  intro l
  induction l with
  | nil => intro off q; rfl
  | cons c r ih =>
    intro off q
    have h1 := ih (off + 1) (q - 1)
    have h2 := ih (0 + 1) (q - 1)
    have h3 := ih (off + 1) q
    have h4 := ih (0 + 1) q
    have r1 := posFrom_range r 0 (q - 1)
    have r2 := posFrom_range r 0 q
    rw [posFrom, posFrom, h1, h2, h3, h4]
    repeat' split
    all_goals omega

/-- The leaf q is the left one of an exposed caret. -/
def dropB (l : List UInt8) (q : Int) : Bool := decide (1 ≤ posFrom l 0 q) && expB (l.drop ((posFrom l 0 q).toNat - 1))

theorem expB_two {c : UInt8} {r : List UInt8} (h : expB (c :: r) = true) : ∃ r', r = 46 :: r' := by
  unfold expB at h
  simp only [beq_iff_eq] at h
  match r with
  | [] => simp at h
  | d :: r' =>
    simp at h
    exact ⟨r', by rw [h.2.1]⟩

theorem mem_exL : ∀ (l : List UInt8) (n m : Int), n ∈ exL l m ↔ dropB l (n - m) = true := by
  intro l
  induction l with
  | nil => intro n m; simp [exL, dropB, posFrom]
  | cons c r ih =>
    intro n m
    have ih0 := ih n m
    have ih1 := ih n (m + 1)
    have e1 : n - (m + 1) = n - m - 1 := by omega
    rw [e1] at ih1
    rw [exL, List.mem_append]
    by_cases hc : c = 46
    · have hx : expB (c :: r) = false := by
        cases h : expB (c :: r) with
        | false => rfl
        | true => have := (expB_cons h).1; rw [hc] at this; exact absurd this (by decide)
      rw [hx, if_pos hc, ih1]
      simp only [Bool.false_eq_true, if_false, List.not_mem_nil, false_or]
      unfold dropB
      rw [posFrom, if_pos hc]
      by_cases hz : n - m = 0
      · rw [if_pos hz, posFrom_neg r 0 (n - m - 1) (by omega)]
        simp
      · rw [if_neg hz, posFrom_shift r (0 + 1)]
        have hr := posFrom_range r 0 (n - m - 1)
        by_cases h1 : posFrom r 0 (n - m - 1) = -1
        · rw [if_pos h1, h1]; simp
        · rw [if_neg h1]
          by_cases h0 : posFrom r 0 (n - m - 1) = 0
          · rw [h0]
            simp [hx]
          · have h2 : 1 ≤ posFrom r 0 (n - m - 1) := by omega
            obtain ⟨p, hp⟩ : ∃ p : Nat, posFrom r 0 (n - m - 1) = (p : Int) + 1 := ⟨(posFrom r 0 (n - m - 1)).toNat - 1, by omega⟩
            rw [hp]
            have t1 : ((p : Int) + 1 + ((0 + 1 : Nat) : Int)).toNat - 1 = p + 1 := by omega
            have t2 : ((p : Int) + 1).toNat - 1 = p := by omega
            rw [t1, t2, List.drop_succ_cons]
            have d1 : decide (1 ≤ (p : Int) + 1) = true := decide_eq_true (by omega)
            have d2 : decide (1 ≤ (p : Int) + 1 + ((0 + 1 : Nat) : Int)) = true := decide_eq_true (by omega)
            rw [d1, d2]
    · rw [if_neg hc, ih0]
      unfold dropB
      rw [posFrom, if_neg hc, posFrom_shift r (0 + 1)]
      have hr := posFrom_range r 0 (n - m)
      have hzero : expB (c :: r) = true → posFrom r 0 (n - m) = 0 → n = m := by
        intro h h'
        obtain ⟨r', rfl⟩ := expB_two h
        rw [posFrom, if_pos rfl] at h'
        by_cases hz : n - m = 0
        · omega
        · rw [if_neg hz, posFrom_shift r' (0 + 1)] at h'
          have := posFrom_range r' 0 (n - m - 1)
          split at h' <;> omega
      have hzero' : expB (c :: r) = true → n = m → posFrom r 0 (n - m) = 0 := by
        intro h h'
        obtain ⟨r', rfl⟩ := expB_two h
        rw [posFrom, if_pos rfl, if_pos (by omega)]; rfl
      by_cases h1 : posFrom r 0 (n - m) = -1
      · rw [if_pos h1, h1]
        simp only [show decide ((1 : Int) ≤ -1) = false from rfl, Bool.false_and, Bool.false_eq_true, or_false, iff_false]
        intro h
        split at h
        · next he =>
          have := hzero' he (by simpa using h)
          omega
        · simp at h
      · rw [if_neg h1]
        by_cases h0 : posFrom r 0 (n - m) = 0
        · rw [h0]
          simp only [show decide ((1 : Int) ≤ 0) = false from rfl, Bool.false_and, Bool.false_eq_true, or_false]
          have t1 : ((0 : Int) + ((0 + 1 : Nat) : Int)).toNat - 1 = 0 := by omega
          rw [t1, List.drop_zero]
          have d2 : decide (1 ≤ (0 : Int) + ((0 + 1 : Nat) : Int)) = true := decide_eq_true (by omega)
          rw [d2]
          cases he : expB (c :: r) with
          | false => simp
          | true => simp; exact hzero he h0
        · obtain ⟨p, hp⟩ : ∃ p : Nat, posFrom r 0 (n - m) = (p : Int) + 1 := ⟨(posFrom r 0 (n - m)).toNat - 1, by omega⟩
          rw [hp]
          have t1 : ((p : Int) + 1 + ((0 + 1 : Nat) : Int)).toNat - 1 = p + 1 := by omega
          have t2 : ((p : Int) + 1).toNat - 1 = p := by omega
          rw [t1, t2, List.drop_succ_cons]
          have d1 : decide (1 ≤ (p : Int) + 1) = true := decide_eq_true (by omega)
          have d2 : decide (1 ≤ (p : Int) + 1 + ((0 + 1 : Nat) : Int)) = true := decide_eq_true (by omega)
          rw [d1, d2]
          constructor
          · rintro (h | h)
            · split at h
              · next he =>
                have := hzero' he (by simpa using h)
                omega
              · simp at h
            · exact h
          · exact .inr

/-- The text of a tree with a leaf in place of the exposed caret that begins at index q. -/
def dropS (s : ByteArray) (q : Nat) : ByteArray := s.extract 0 q ++ ⟨#[46]⟩ ++ s.extract (q + 4) s.size

/-- Of a text, the answer of DropExposed. -/
def dropO (s : ByteArray) (n : Int) : Option ByteArray :=
  if dropB s.data.toList n = true then some (dropS s ((posFrom s.data.toList 0 n).toNat - 1)) else none

theorem dropB_true {s : ByteArray} {n : Int} (h : dropB s.data.toList n = true) : ∃ q : Nat, posFrom s.data.toList 0 n = (q : Int) + 1 ∧ q + 4 ≤ s.size ∧ expB (s.data.toList.drop q) = true ∧ 0 ≤ n := by
  unfold dropB at h
  simp only [Bool.and_eq_true, decide_eq_true_eq] at h
  obtain ⟨h1, h2⟩ := h
  refine ⟨(posFrom s.data.toList 0 n).toNat - 1, by omega, ?_, h2, ?_⟩
  · have := expB_drop h2; rw [← Lib.size_eq] at this; exact this
  · rcases Int.lt_or_le n 0 with hn | hn
    · rw [posFrom_neg _ _ _ hn] at h1; omega
    · exact hn
end Go.Proofs.Ytkpganpojdboeaa

/-! PrT -/
namespace Go.Proofs.Ytkpganpojdboeaa
namespace Tr
def leaves (t : Tr) : Nat := t.carets + 1
/-- The left leaves of the exposed carets, n leaves being in front. -/
def exps : Tr → Int → List Int
  | lf, _ => []
  | nd l r, n => (if l.isLf && r.isLf then [n] else []) ++ (l.exps n ++ r.exps (n + l.leaves))
/-- The tree with a leaf in place of the exposed caret with the left leaf n. -/
def dropAt : Tr → Int → Tr
  | lf, _ => lf
  | nd l r, n => if l.isLf && r.isLf then lf else if n < l.leaves then nd (l.dropAt n) r else nd l (r.dropAt (n - l.leaves))
/-- The tree with u in place of the leaf n. -/
def graft : Tr → Int → Tr → Tr
  | lf, _, u => u
  | nd l r, n, u => if n < l.leaves then nd (l.graft n u) r else nd l (r.graft (n - l.leaves) u)
end Tr

theorem leaves_nd (l r : Tr) : (Tr.nd l r).leaves = l.leaves + r.leaves := by simp [Tr.leaves, Tr.carets]; omega
theorem leaves_pos (t : Tr) : 1 ≤ t.leaves := by simp [Tr.leaves]
theorem isLf_iff (t : Tr) : t.isLf = true ↔ t = .lf := by cases t <;> simp [Tr.isLf]
theorem both_lf {l r : Tr} (h : (l.isLf && r.isLf) = true) : l = .lf ∧ r = .lf := by
  simp only [Bool.and_eq_true, isLf_iff] at h; exact h

theorem expB_len {l : List UInt8} (h : l.length < 4) : expB l = false := by
  unfold expB
  rw [beq_eq_false_iff_ne]
  intro e
  have := congrArg List.length e
  simp at this
  omega

theorem text_head (t : Tr) : (t = .lf ∧ t.text = [46]) ∨ ∃ r, t.text = 40 :: r := by
  cases t with
  | lf => exact .inl ⟨rfl, rfl⟩
  | nd l r => exact .inr ⟨_, rfl⟩

theorem expB_nd (l r : Tr) (q : List UInt8) : expB (40 :: (l.text ++ (r.text ++ (41 :: q)))) = (l.isLf && r.isLf) := by
  cases l with
  | lf =>
    cases r with
    | lf => rfl
    | nd a b => simp [expB, Tr.text, Tr.isLf]
  | nd a b => simp [expB, Tr.text, Tr.isLf]

theorem exL_text (t : Tr) : ∀ (q : List UInt8) (m : Int), exL (t.text ++ q) m = t.exps m ++ exL q (m + t.leaves) := by
  induction t with
  | lf => intro q m; simp [Tr.text, exL, Tr.exps, expB, Tr.leaves, Tr.carets]
  | nd l r ihl ihr =>
    intro q m
    have e : (Tr.nd l r).text ++ q = 40 :: (l.text ++ (r.text ++ (41 :: q))) := by simp [Tr.text]
    rw [e, exL, expB_nd, if_neg (show ¬ (40 : UInt8) = 46 by decide), ihl, ihr, exL, if_neg (show ¬ (41 : UInt8) = 46 by decide)]
    have h41 : expB (41 :: q) = false := by
      cases h : expB (41 :: q) with
      | false => rfl
      | true => exact absurd (expB_cons h).1 (by decide)
    rw [h41]
    have e2 : m + (l.leaves : Int) + (r.leaves : Int) = m + ((Tr.nd l r).leaves : Int) := by rw [leaves_nd]; omega
    rw [e2]
    simp [Tr.exps]

theorem exps_text (t : Tr) (m : Int) : exL t.text m = t.exps m := by
  have := exL_text t [] m
  simpa [exL] using this

theorem exps_range (t : Tr) : ∀ (n m : Int), m ∈ t.exps n → n ≤ m ∧ m + 1 < n + t.leaves := by
  induction t with
  | lf => intro n m h; simp [Tr.exps] at h
  | nd l r ihl ihr =>
    intro n m h
    have h1 := leaves_pos l
    have h2 := leaves_pos r
    rw [Tr.exps, List.mem_append, List.mem_append] at h
    rw [leaves_nd]
    rcases h with h | h | h
    · split at h
      · simp at h; omega
      · simp at h
    · have := ihl _ _ h; omega
    · have := ihr _ _ h; omega

theorem exps_shift (t : Tr) : ∀ (n d : Int), t.exps (n + d) = (t.exps n).map (· + d) := by
  induction t with
  | lf => intro n d; rfl
  | nd l r ihl ihr =>
    intro n d
    have e : n + d + (l.leaves : Int) = n + (l.leaves : Int) + d := by omega
    rw [Tr.exps, Tr.exps, ihl n d, e, ihr, List.map_append, List.map_append]
    split <;> simp

theorem exps_shift_mem (t : Tr) (n m : Int) : m ∈ t.exps n ↔ m - n ∈ t.exps 0 := by
  have := exps_shift t 0 n
  rw [Int.zero_add] at this
  rw [this, List.mem_map]
  constructor
  · rintro ⟨a, ha, rfl⟩; have : a + n - n = a := by omega
    rw [this]; exact ha
  · intro h; exact ⟨m - n, h, by omega⟩

theorem exps_length (t : Tr) : ∀ n, (t.exps n).length ≤ t.carets := by
  induction t with
  | lf => intro n; simp [Tr.exps]
  | nd l r ihl ihr =>
    intro n
    have h1 := ihl n
    have h2 := ihr (n + l.leaves)
    rw [Tr.exps]
    simp only [List.length_append, Tr.carets]
    split <;> simp <;> omega

/-- An exposed caret in a text: what is in front of it and behind it. -/
theorem exps_split (t : Tr) : ∀ n : Int, n ∈ t.exps 0 → ∃ x y : List UInt8, t.text = x ++ (40 :: 46 :: 46 :: 41 :: y) ∧ ((x.count 46 : Nat) : Int) = n ∧ (t.dropAt n).text = x ++ (46 :: y) := by
  induction t with
  | lf => intro n h; simp [Tr.exps] at h
  | nd l r ihl ihr =>
    intro n h
    rw [Tr.exps, List.mem_append, List.mem_append] at h
    cases hb : l.isLf && r.isLf with
    | true =>
      obtain ⟨rfl, rfl⟩ := both_lf hb
      simp [Tr.exps, Tr.isLf] at h
      subst h
      exact ⟨[], [], rfl, rfl, rfl⟩
    | false =>
      rw [hb] at h
      rcases h with h | h | h
      · simp at h
      · have hr := exps_range l _ _ h
        obtain ⟨x, y, e1, e2, e3⟩ := ihl n h
        refine ⟨40 :: x, y ++ (r.text ++ [41]), ?_, ?_, ?_⟩
        · simp [Tr.text, e1]
        · simp [e2]
        · rw [Tr.dropAt, hb, if_neg (by decide), if_pos (by omega)]
          simp [Tr.text, e3]
      · have hr := exps_range r _ _ h
        rw [Int.zero_add] at h hr
        obtain ⟨x, y, e1, e2, e3⟩ := ihr (n - l.leaves) ((exps_shift_mem r _ _).1 h)
        refine ⟨40 :: (l.text ++ x), y ++ [41], ?_, ?_, ?_⟩
        · simp [Tr.text, e1]
        · have := text_dots l
          simp only [List.count_cons, List.count_append]
          simp [Tr.leaves] at *
          omega
        · rw [Tr.dropAt, hb, if_neg (by decide), if_neg (by omega)]
          simp [Tr.text, e3]

/-- A leaf in a text. -/
theorem leaf_split (t : Tr) : ∀ n : Int, 0 ≤ n → n < t.leaves → ∃ x y : List UInt8, t.text = x ++ (46 :: y) ∧ ((x.count 46 : Nat) : Int) = n ∧ ∀ u : Tr, (t.graft n u).text = x ++ (u.text ++ y) := by
  induction t with
  | lf =>
    intro n h k
    simp [Tr.leaves, Tr.carets] at k
    obtain rfl : n = 0 := by omega
    exact ⟨[], [], rfl, rfl, fun u => by simp [Tr.graft]⟩
  | nd l r ihl ihr =>
    intro n h k
    rw [leaves_nd] at k
    by_cases hl : n < l.leaves
    · obtain ⟨x, y, e1, e2, e3⟩ := ihl n h hl
      refine ⟨40 :: x, y ++ (r.text ++ [41]), ?_, ?_, fun u => ?_⟩
      · simp [Tr.text, e1]
      · simp [e2]
      · rw [Tr.graft, if_pos hl]; simp [Tr.text, e3]
    · obtain ⟨x, y, e1, e2, e3⟩ := ihr (n - l.leaves) (by omega) (by omega)
      refine ⟨40 :: (l.text ++ x), y ++ [41], ?_, ?_, fun u => ?_⟩
      · simp [Tr.text, e1]
      · have := text_dots l
        simp only [List.count_cons, List.count_append]
        simp [Tr.leaves] at *
        omega
      · rw [Tr.graft, if_neg hl]; simp [Tr.text, e3]

theorem posFrom_count : ∀ (x y : List UInt8) (off : Nat), posFrom (x ++ 46 :: y) off (x.count 46 : Nat) = ((off + x.length : Nat) : Int) := by
  intro x
  induction x with
  | nil => intro y off; simp [posFrom]
  | cons c r ih =>
    intro y off
    rw [List.cons_append, posFrom]
    by_cases hc : c = 46
    · subst hc
      have hcount : ((List.count 46 (46 :: r) : Nat) : Int) = (r.count 46 : Nat) + 1 := by simp
      rw [if_pos rfl, hcount, if_neg (by omega), Int.add_sub_cancel, ih]
      simp; omega
    · have hcount : List.count 46 (c :: r) = r.count 46 := by rw [List.count_cons]; simp [hc]
      rw [if_neg hc, hcount, ih]
      simp; omega

theorem dropS_list (s : ByteArray) (q : Nat) : (dropS s q).data.toList = s.data.toList.take q ++ (46 :: s.data.toList.drop (q + 4)) := by
  unfold dropS
  simp only [ByteArray.data_append, Array.toList_append]
  rw [ext_end, Lib.extract_data]
  simp

theorem drop_str (t : Tr) (n : Int) (h : n ∈ t.exps 0) : 1 ≤ posFrom t.str.data.toList 0 n ∧ dropS t.str ((posFrom t.str.data.toList 0 n).toNat - 1) = (t.dropAt n).str := by
  obtain ⟨x, y, e1, e2, e3⟩ := exps_split t n h
  have e1' : t.text = (x ++ [40]) ++ 46 :: (46 :: 41 :: y) := by simp [e1]
  have hp : posFrom t.str.data.toList 0 n = ((x.length + 1 : Nat) : Int) := by
    have := posFrom_count (x ++ [40]) (46 :: 41 :: y) 0
    rw [← e1'] at this
    rw [Tr.str_list, ← e2]
    simpa using this
  rw [hp]
  refine ⟨by omega, ba_ext ?_⟩
  rw [dropS_list, Tr.str_list, Tr.str_list, e3, e1]
  have : ((x.length + 1 : Nat) : Int).toNat - 1 = x.length := by omega
  rw [this]
  have e4 : x ++ 40 :: 46 :: 46 :: 41 :: y = (x ++ [40, 46, 46, 41]) ++ y := by simp
  rw [List.take_left, e4, List.drop_left' (by simp)]

theorem dropB_str (t : Tr) (n : Int) : dropB t.str.data.toList n = true ↔ n ∈ t.exps 0 := by
  rw [← exps_text, mem_exL, Tr.str_list]; simp

theorem graft_str (t u : Tr) (n : Int) (h : 0 ≤ n) (k : n < t.leaves) : graftS t.str n u.str = (t.graft n u).str := by
  obtain ⟨x, y, e1, e2, e3⟩ := leaf_split t n h k
  have hp : posFrom t.str.data.toList 0 n = ((x.length : Nat) : Int) := by
    have := posFrom_count x y 0
    rw [← e1] at this
    rw [Tr.str_list, ← e2]
    simpa using this
  refine ba_ext ?_
  unfold graftS
  rw [hp]
  simp only [ByteArray.data_append, Array.toList_append]
  rw [ext_end, Lib.extract_data]
  simp only [Tr.str_list, e3, e1]
  have e4 : x ++ 46 :: y = (x ++ [46]) ++ y := by simp
  simp only [Int.toNat_natCast, Nat.sub_zero, List.drop_zero, List.take_left]
  rw [e4, List.drop_left' (by simp)]
  simp

theorem dropAt_carets (t : Tr) : ∀ n : Int, n ∈ t.exps 0 → (t.dropAt n).carets + 1 = t.carets := by
  intro n h
  obtain ⟨x, y, e1, e2, e3⟩ := exps_split t n h
  have h1 := t.text_len
  have h2 := (t.dropAt n).text_len
  have := congrArg List.length e1
  have := congrArg List.length e3
  simp at *
  omega

theorem graft_carets (t u : Tr) (n : Int) (h : 0 ≤ n) (k : n < t.leaves) : (t.graft n u).carets = t.carets + u.carets := by
  obtain ⟨x, y, e1, e2, e3⟩ := leaf_split t n h k
  have e3 := e3 u
  have h1 := t.text_len
  have h2 := (t.graft n u).text_len
  have h3 := u.text_len
  have := congrArg List.length e1
  have := congrArg List.length e3
  simp at *
  omega
end Go.Proofs.Ytkpganpojdboeaa

/-! PrP -/
namespace Go.Proofs.Ytkpganpojdboeaa

/-- A pair of trees. -/
abbrev Pr := Tr × Tr

/-- The left leaves with which both trees have exposed carets. -/
def both (p : Pr) : List Int := (p.1.exps 0).filter fun n => (p.2.exps 0).contains n

/-- Both carets dropped. -/
def dropP (p : Pr) (n : Int) : Pr := (p.1.dropAt n, p.2.dropAt n)

/-- Which of so many a step takes: the first choice modulo their number, or the first one. -/
def pickI (cs : List Int) (k : Nat) : Nat := match cs with
  | [] => 0
  | c :: _ => (c % k).toNat

/-- The reduced pair by choices (fuel: the number of steps that are left at most). -/
def redF : Nat → Pr → List Int → Pr
  | 0, p, _ => p
  | k + 1, p, cs => match both p with
    | [] => p
    | n :: ns => redF k (dropP p ((n :: ns).getD (pickI cs (ns.length + 1)) 0)) cs.tail
def redBy (p : Pr) (cs : List Int) : Pr := redF p.1.carets p cs
def red (p : Pr) : Pr := redBy p []

theorem mem_both {p : Pr} {n : Int} : n ∈ both p ↔ n ∈ p.1.exps 0 ∧ n ∈ p.2.exps 0 := by
  simp [both]

theorem both_length (p : Pr) : (both p).length ≤ p.1.carets :=
  Nat.le_trans (List.length_filter_le _ _) (exps_length _ _)

theorem both_empty {p : Pr} (h : p.1.carets = 0) : both p = [] := by
  have := both_length p
  exact List.length_eq_zero_iff.1 (by omega)

theorem pickI_lt (cs : List Int) (k : Nat) (h : 0 < k) : pickI cs k < k := by
  unfold pickI
  split
  · exact h
  · next c _ =>
    have h1 := Int.emod_lt_of_pos c (show (0 : Int) < k by omega)
    have h2 := Int.emod_nonneg c (show (k : Int) ≠ 0 by omega)
    omega

theorem pick_mem {p : Pr} {n : Int} {ns : List Int} (h : both p = n :: ns) (cs : List Int) : (n :: ns).getD (pickI cs (ns.length + 1)) 0 ∈ both p := by
  rw [h]
  have := pickI_lt cs (ns.length + 1) (by omega)
  rw [List.getD_eq_getElem?_getD, List.getElem?_eq_getElem (by simpa using this)]
  exact List.getElem_mem _

theorem dropP_carets {p : Pr} {n : Int} (h : n ∈ both p) : (dropP p n).1.carets + 1 = p.1.carets ∧ (dropP p n).2.carets + 1 = p.2.carets :=
  ⟨dropAt_carets _ _ (mem_both.1 h).1, dropAt_carets _ _ (mem_both.1 h).2⟩

/-- One step. -/
theorem redBy_step {p : Pr} {n : Int} {ns : List Int} (h : both p = n :: ns) (cs : List Int) :
    redBy p cs = redBy (dropP p ((n :: ns).getD (pickI cs (ns.length + 1)) 0)) cs.tail := by
  have hc := (dropP_carets (pick_mem h cs)).1
  unfold redBy
  obtain ⟨k, hk⟩ : ∃ k, p.1.carets = k + 1 := ⟨p.1.carets - 1, by omega⟩
  rw [hk, redF, h]
  have : (dropP p ((n :: ns).getD (pickI cs (ns.length + 1)) 0)).1.carets = k := by omega
  rw [this]
theorem redBy_end {p : Pr} (h : both p = []) (cs : List Int) : redBy p cs = p := by
  unfold redBy
  cases hk : p.1.carets with
  | zero => rfl
  | succ k => rw [redF, h]

theorem redF_carets (k : Nat) : ∀ (p : Pr) (cs : List Int), (redF k p cs).1.carets ≤ p.1.carets ∧ (redF k p cs).2.carets ≤ p.2.carets ∧ (redF k p cs).1.carets + p.2.carets = (redF k p cs).2.carets + p.1.carets := by
  induction k with
  | zero => intro p cs; simp [redF]; omega
  | succ k ih =>
    intro p cs
    rw [redF]
    split
    · refine ⟨Nat.le_refl _, Nat.le_refl _, by omega⟩
    · next n ns h =>
      have h1 := dropP_carets (pick_mem h cs)
      have h2 := ih (dropP p ((n :: ns).getD (pickI cs (ns.length + 1)) 0)) cs.tail
      omega
theorem redBy_carets (p : Pr) (cs : List Int) : (redBy p cs).1.carets ≤ p.1.carets ∧ (redBy p cs).2.carets ≤ p.2.carets ∧ (redBy p cs).1.carets + p.2.carets = (redBy p cs).2.carets + p.1.carets := redF_carets _ p cs

theorem redF_both (k : Nat) : ∀ (p : Pr) (cs : List Int), p.1.carets ≤ k → both (redF k p cs) = [] := by
  induction k with
  | zero => intro p cs h; rw [redF]; exact both_empty (by omega)
  | succ k ih =>
    intro p cs hk
    rw [redF]
    split
    · next h => exact h
    · next n ns h =>
      have h1 := dropP_carets (pick_mem h cs)
      exact ih _ _ (by omega)
theorem red_both (p : Pr) (cs : List Int) : both (redBy p cs) = [] := redF_both _ p cs (Nat.le_refl _)

/-- A pair is what is left of it just if it is reduced. -/
theorem red_self (p : Pr) : red p = p ↔ both p = [] := by
  constructor
  · intro h; rw [← h]; exact red_both p []
  · exact fun h => redBy_end h []

namespace Tr
/-- What a greater tree has at the leaves of one that is part of it. -/
def subs : Tr → Tr → List Tr
  | lf, g => [g]
  | nd l r, nd p q => l.subs p ++ r.subs q
  | nd _ _, lf => []
/-- A tree with others in place of its leaves, and those that are left. -/
def fillR : Tr → List Tr → Tr × List Tr
  | lf, [] => (lf, [])
  | lf, u :: us => (u, us)
  | nd l r, us => (nd (l.fillR us).1 (r.fillR (l.fillR us).2).1, (r.fillR (l.fillR us).2).2)
def fill (t : Tr) (us : List Tr) : Tr := (t.fillR us).1
end Tr

theorem below_length (a : Tr) : ∀ b : Tr, (a.subs (a.join b)).length = a.leaves := by
  induction a with
  | lf => intro b; rfl
  | nd l r ihl ihr =>
    intro b
    cases b with
    | lf =>
      have h1 := ihl .lf
      have h2 := ihr .lf
      rw [leaves_nd]
      have j : ∀ t : Tr, t.join .lf = t := fun t => by cases t <;> rfl
      rw [j] at h1 h2
      show ((Tr.nd l r).subs (.nd l r)).length = _
      simp [Tr.subs, h1, h2]
    | nd p q =>
      rw [leaves_nd]
      simp [Tr.join, Tr.subs, ihl p, ihr q]

theorem join_comm (a : Tr) : ∀ b : Tr, a.join b = b.join a := by
  induction a with
  | lf => intro b; cases b <;> rfl
  | nd l r ihl ihr =>
    intro b
    cases b with
    | lf => rfl
    | nd p q => simp [Tr.join, ihl p, ihr q]

/-- a is part of g, whose texts below a are told. -/
def sumC (us : List Tr) : Nat := (us.map Tr.carets).sum

theorem sumC_cons (u : Tr) (us : List Tr) : sumC (u :: us) = u.carets + sumC us := by simp [sumC]
theorem sumC_append (us vs : List Tr) : sumC (us ++ vs) = sumC us + sumC vs := by simp [sumC]

theorem below_carets (a : Tr) : ∀ g : Tr, a.part g = true → a.carets + sumC (a.subs g) = g.carets ∧ (a.subs g).length = a.leaves := by
  induction a with
  | lf => intro g _; simp [Tr.subs, sumC, Tr.carets, Tr.leaves]
  | nd l r ihl ihr =>
    intro g h
    cases g with
    | lf => simp [Tr.part] at h
    | nd p q =>
      simp [Tr.part] at h
      have h1 := ihl p h.1
      have h2 := ihr q h.2
      rw [leaves_nd]
      simp only [Tr.subs, sumC_append, Tr.carets, List.length_append]
      omega

theorem part_refl (a : Tr) : a.part a = true := by
  induction a with
  | lf => rfl
  | nd l r ihl ihr => simp [Tr.part, ihl, ihr]

theorem part_join (a : Tr) : ∀ b : Tr, a.part (a.join b) = true := by
  induction a with
  | lf => intro b; rfl
  | nd l r ihl ihr =>
    intro b
    cases b with
    | lf => show (Tr.nd l r).part (.nd l r) = true; exact part_refl _
    | nd p q => simp [Tr.join, Tr.part, ihl p, ihr q]
theorem part_join' (a b : Tr) : b.part (a.join b) = true := by rw [join_comm]; exact part_join b a

theorem fillR_carets (t : Tr) : ∀ us : List Tr, t.leaves ≤ us.length → (t.fillR us).1.carets + sumC (t.fillR us).2 = t.carets + sumC us ∧ (t.fillR us).2.length + t.leaves = us.length := by
  induction t with
  | lf =>
    intro us h
    cases us with
    | nil => simp [Tr.leaves] at h
    | cons u us => simp [Tr.fillR, sumC_cons, Tr.carets, Tr.leaves]
  | nd l r ihl ihr =>
    intro us h
    rw [leaves_nd] at *
    have h1 := ihl us (by omega)
    have h2 := ihr (l.fillR us).2 (by omega)
    simp only [Tr.fillR, Tr.carets]
    omega

theorem fill_carets (t : Tr) (us : List Tr) (h : us.length = t.leaves) : (t.fill us).carets = t.carets + sumC us := by
  have h1 := fillR_carets t us (by omega)
  have : (t.fillR us).2 = [] := List.length_eq_zero_iff.1 (by omega)
  rw [this] at h1
  have h2 := h1.1
  show (t.fillR us).1.carets = _
  simp [sumC] at h2 ⊢
  exact h2

/-- The text of a tree with texts in place of its leaves: the texts that are left. -/
def fillL : List UInt8 → List ByteArray → List UInt8
  | [], _ => []
  | c :: r, us => if c = 46 then (us.getD 0 ⟨#[]⟩).data.toList ++ fillL r us.tail else c :: fillL r us

theorem fillL_text (t : Tr) : ∀ (us : List Tr) (q : List UInt8), t.leaves ≤ us.length → fillL (t.text ++ q) (us.map Tr.str) = (t.fillR us).1.text ++ fillL q ((t.fillR us).2.map Tr.str) := by
  induction t with
  | lf =>
    intro us q h
    cases us with
    | nil => simp [Tr.leaves] at h
    | cons u us => simp [Tr.fillR, Tr.text, fillL, Tr.str_list]
  | nd l r ihl ihr =>
    intro us q h
    rw [leaves_nd] at h
    have e : (Tr.nd l r).text ++ q = 40 :: (l.text ++ (r.text ++ (41 :: q))) := by simp [Tr.text]
    have h1 := fillR_carets l us (by omega)
    rw [e, fillL, if_neg (by decide), ihl us _ (by omega), ihr _ _ (by omega), fillL, if_neg (by decide)]
    simp [Tr.fillR, Tr.text]

theorem fill_text (t : Tr) (us : List Tr) (h : us.length = t.leaves) : fillL t.text (us.map Tr.str) = (t.fill us).text := by
  have := fillL_text t us [] (by omega)
  show _ = (t.fillR us).1.text
  simpa [fillL] using this

/-- The product, before it is reduced. -/
def rawP (p q : Pr) : Pr := (p.1.fill (p.2.subs (p.2.join q.1)), q.2.fill (q.1.subs (p.2.join q.1)))
/-- The product. -/
def mulP (p q : Pr) : Pr := red (rawP p q)
def invP (p : Pr) : Pr := (p.2, p.1)
/-- A pair: as many leaves. -/
def okP (p : Pr) : Prop := p.1.carets = p.2.carets

theorem rawP_carets {p q : Pr} (hp : okP p) (hq : okP q) : (rawP p q).1.carets = (p.2.join q.1).carets ∧ (rawP p q).2.carets = (p.2.join q.1).carets := by
  unfold okP at *
  have h1 := below_carets p.2 _ (part_join p.2 q.1)
  have h2 := below_carets q.1 _ (part_join' p.2 q.1)
  have f1 := fill_carets p.1 (p.2.subs (p.2.join q.1)) (by rw [h1.2]; simp [Tr.leaves, hp])
  have f2 := fill_carets q.2 (q.1.subs (p.2.join q.1)) (by rw [h2.2]; simp [Tr.leaves, hq])
  show (p.1.fill _).carets = _ ∧ (q.2.fill _).carets = _
  omega
theorem rawP_ok {p q : Pr} (hp : okP p) (hq : okP q) : okP (rawP p q) := by
  have := rawP_carets hp hq; unfold okP; omega
theorem red_ok {p : Pr} (hp : okP p) (cs : List Int) : okP (redBy p cs) := by
  have := redBy_carets p cs; unfold okP at *; omega
theorem mulP_ok {p q : Pr} (hp : okP p) (hq : okP q) : okP (mulP p q) := red_ok (rawP_ok hp hq) []
theorem mulP_carets {p q : Pr} (hp : okP p) (hq : okP q) : (mulP p q).1.carets ≤ p.2.carets + q.1.carets := by
  have h1 := rawP_carets hp hq
  have h2 := redBy_carets (rawP p q) []
  have h3 := join_carets p.2 q.1
  show (redBy _ _).1.carets ≤ _
  omega
end Go.Proofs.Ytkpganpojdboeaa

/-! PairOf -/
namespace Go.Proofs.Ytkpganpojdboeaa

/-- The pair of two texts, if they are one. -/
def pairOf (a b : ByteArray) : Option Pr :=
  match treeOf a, treeOf b with
  | some t, some u => if t.carets = u.carets then some (t, u) else none
  | _, _ => none

theorem pairOf_some {a b : ByteArray} {p : Pr} (h : pairOf a b = some p) : a = p.1.str ∧ b = p.2.str ∧ okP p ∧ p.1.carets ≤ 8 ∧ p.2.carets ≤ 8 := by
  unfold pairOf at h
  split at h
  · next t u ht hu =>
    split at h
    · next hc =>
      injection h with h
      subst h
      obtain ⟨rfl, h1⟩ := treeOf_some ht
      obtain ⟨rfl, h2⟩ := treeOf_some hu
      exact ⟨rfl, rfl, hc, h1, h2⟩
    · simp at h
  · simp at h

theorem pairOf_str {p : Pr} (h : okP p) (k : p.1.carets ≤ 8) : pairOf p.1.str p.2.str = some p := by
  unfold pairOf
  rw [treeOf_str p.1 k, treeOf_str p.2 (by unfold okP at h; omega)]
  simp [show p.1.carets = p.2.carets from h]

/-- The texts are no pair: why. -/
theorem pairOf_none {a b : ByteArray} (h : pairOf a b = none) : treeOf a = none ∨ (∃ t : Tr, a = t.str ∧ t.carets ≤ 8 ∧ treeOf b = none) ∨ ∃ t u : Tr, a = t.str ∧ b = u.str ∧ t.carets ≤ 8 ∧ u.carets ≤ 8 ∧ ¬ t.carets = u.carets := by
  cases ha : treeOf a with
  | none => exact .inl rfl
  | some t =>
    obtain ⟨rfl, h1⟩ := treeOf_some ha
    cases hb : treeOf b with
    | none => exact .inr (.inl ⟨t, rfl, h1, rfl⟩)
    | some u =>
      obtain ⟨rfl, h2⟩ := treeOf_some hb
      refine .inr (.inr ⟨t, u, rfl, rfl, h1, h2, ?_⟩)
      intro e
      unfold pairOf at h
      rw [ha, hb] at h
      simp [e] at h
end Go.Proofs.Ytkpganpojdboeaa

/-! Cut -/
namespace Go.Proofs.Ytkpganpojdboeaa
open Go.RowKit


theorem hasPrefix_one (s : ByteArray) (c : UInt8) (w : World) (hs : s.size ≤ 9223372036854775806) :
    Calls Try.prog 154 #[.string s, .string ⟨#[c]⟩] w fun e w' => e = .returned (.bool (s.data.toList.head? == some c)) ∧ w = w' := by
  by_cases h : 1 ≤ s.size
  all_goals
    go_enter Try.func154, Try.ntmps154
    go_wp2
    go_ret
  · refine ⟨ret_bool ?_, rfl⟩
    rw [Lib.extract_toList]
    cases hl : s.data.toList <;> simp
  · refine ⟨ret_bool ?_, rfl⟩
    have : s.data.toList.length = 0 := by rw [← Lib.size_eq]; omega
    rw [List.length_eq_zero_iff.1 this]
    rfl

def CutOk (s : ByteArray) (r : List UInt8) (w : World) (e : Ending) (w' : World) : Prop :=
  ∃ s' : ByteArray, s'.data.toList = r ∧ s'.size < s.size ∧ e = .returned (.tuple #[.string s', .bool true]) ∧ w = w'

theorem stringsliteCut_yes (s : ByteArray) (c : UInt8) (r : List UInt8) (w : World) (hs : s.size ≤ 9223372036854775806) (h : s.data.toList = c :: r) :
    Calls Try.prog 145 #[.string s, .string ⟨#[c]⟩] w (CutOk s r w) := by
  have hz : 1 ≤ s.size := by rw [Lib.size_eq, h]; simp
  have hb : (s.data.toList.head? == some c) = true := by simp [h]
  have H := Lib.hid h
  clear h
  go_enter Try.func145, Try.ntmps145
  go_wp2_with (go_at_call 154; refine (hasPrefix_one s c _ hs).mono ?_; rintro e w' ⟨rfl, rfl⟩)
  go_ret2
  refine ⟨_, ?_, ?_, rfl, rfl⟩
  · rw [Lib.extract_data, H.out, List.take_of_length_le]
    · rfl
    · rw [Lib.size_eq, H.out]; simp
  · rw [Lib.size_eq, Lib.extract_data, Lib.size_eq, H.out]; simp

theorem stringsliteCut_no (s : ByteArray) (c : UInt8) (w : World) (hs : s.size ≤ 9223372036854775806) (h : (s.data.toList.head? == some c) = false) :
    Calls Try.prog 145 #[.string s, .string ⟨#[c]⟩] w fun e w' => e = .returned (.tuple #[.string s, .bool false]) ∧ w = w' := by
  go_enter Try.func145, Try.ntmps145
  go_wp2_with (go_at_call 154; refine (hasPrefix_one s c _ hs).mono ?_; rintro e w' ⟨rfl, rfl⟩)
  go_ret2
  exact ⟨rfl, rfl⟩

theorem cut_yes (s : ByteArray) (c : UInt8) (r : List UInt8) (w : World) (hs : s.size ≤ 9223372036854775806) (h : s.data.toList = c :: r) :
    Calls Try.prog 124 #[.string s, .string ⟨#[c]⟩] w (CutOk s r w) := by
  have H := Lib.hid h
  clear h
  go_enter Try.func124, Try.ntmps124
  go_wp2_with (go_at_call 145; refine (stringsliteCut_yes s c r _ hs H.out).mono ?_; rintro e w' ⟨s', h1, h2, rfl, rfl⟩; have H1 := Lib.hid h1; clear h1)
  go_ret2
  exact ⟨_, H1.out, h2, rfl, rfl⟩

theorem cut_no (s : ByteArray) (c : UInt8) (w : World) (hs : s.size ≤ 9223372036854775806) (h : (s.data.toList.head? == some c) = false) :
    Calls Try.prog 124 #[.string s, .string ⟨#[c]⟩] w fun e w' => e = .returned (.tuple #[.string s, .bool false]) ∧ w = w' := by
  go_enter Try.func124, Try.ntmps124
  go_wp2_with (go_at_call 145; refine (stringsliteCut_no s c _ hs h).mono ?_; rintro e w' ⟨rfl, rfl⟩)
  go_ret2
  exact ⟨rfl, rfl⟩
end Go.Proofs.Ytkpganpojdboeaa

/-! Node -/
namespace Go.Proofs.Ytkpganpojdboeaa
open Go.RowKit

/-- Block b is a node of the tree, and so on down. -/
def NodeAt (w : World) : Tr → Nat → Prop
  | .lf, b => w.heap[b]? = some (.cells #[.pointer none, .pointer none] 68 (0, 0))
  | .nd l r, b => ∃ bl br, w.heap[b]? = some (.cells #[.pointer (some ⟨bl, 0, none⟩), .pointer (some ⟨br, 0, none⟩)] 68 (0, 0)) ∧ NodeAt w l bl ∧ NodeAt w r br

theorem NodeAt.lt {w : World} {t : Tr} {b : Nat} (h : NodeAt w t b) : b < w.heap.size := by
  cases t with
  | lf => exact lt_of_block h
  | nd l r => obtain ⟨_, _, h, _⟩ := h; exact lt_of_block h

theorem NodeAt.keep {w w' : World} (hb : Below w.heap.size w w') : ∀ {t : Tr} {b : Nat}, NodeAt w t b → NodeAt w' t b := by
  intro t
  induction t with
  | lf => intro b h; exact (hb.block b h.lt).trans h
  | nd l r ihl ihr =>
    intro b h
    have hl := h.lt
    obtain ⟨bl, br, h, h1, h2⟩ := h
    exact ⟨bl, br, (hb.block b hl).trans h, ihl h1, ihr h2⟩

theorem two_left {w : World} {b : Nat} {u v : Value} {t : TypeId} (h : w.heap[b]? = some (.cells #[u, v] t (0, 0))) : w.cell? ⟨b, 0, none⟩ = some u := by simp [World.cell?, h]
theorem two_right {w : World} {b : Nat} {u v : Value} {t : TypeId} (h : w.heap[b]? = some (.cells #[u, v] t (0, 0))) : w.cell? ⟨b, 1, none⟩ = some v := by simp [World.cell?, h]

theorem heap_alloc_at (w : World) (o : Obj) : (w.alloc o).heap[w.heap.size]? = some o := by
  show (w.heap.push o)[w.heap.size]? = _
  simp

theorem node_new {w1 w2 : World} {l r : Tr} {b1 b2 : Nat} (h1 : NodeAt w1 l b1) (hb : Below w1.heap.size w1 w2) (h2 : NodeAt w2 r b2) :
    NodeAt (w2.alloc (.cells #[.pointer (some ⟨b1, 0, none⟩), .pointer (some ⟨b2, 0, none⟩)] 68 (0, 0))) (.nd l r) w2.heap.size := by
  have hb3 : Below w2.heap.size w2 (w2.alloc (.cells #[.pointer (some ⟨b1, 0, none⟩), .pointer (some ⟨b2, 0, none⟩)] 68 (0, 0))) := (Below.refl _ _).alloc (Nat.le_refl _) _
  exact ⟨b1, b2, heap_alloc_at _ _, (h1.keep hb).keep hb3, h2.keep hb3⟩

/-- What readPlace leaves where there is a tree. -/
def PlaceOk (t : Tr) (r : List UInt8) (s : ByteArray) (w : World) (e : Ending) (w' : World) : Prop :=
  ∃ (b : Nat) (s' : ByteArray), s'.data.toList = r ∧ s'.size < s.size ∧ NodeAt w' t b ∧ Below w.heap.size w w' ∧ e = .returned (.tuple #[.pointer (some ⟨b, 0, none⟩), .string s'])
def PlaceNo (w : World) (e : Ending) (w' : World) : Prop :=
  Below w.heap.size w w' ∧ e = .returned (.tuple #[.pointer none, .string ⟨#[]⟩])
def PlacePost (o : Option (Tr × List UInt8)) (s : ByteArray) (w : World) (e : Ending) (w' : World) : Prop :=
  match o with
  | some (t, r) => PlaceOk t r s w e w'
  | none => PlaceNo w e w'

end Go.Proofs.Ytkpganpojdboeaa

/-! PairK -/
namespace Go.Proofs.Ytkpganpojdboeaa
open Go.RowKit

theorem two_cells {w : World} {g : Nat} {u v : Value} {t : TypeId} (h : w.heap[g]? = some (.cells #[u, v] t (0, 0))) : w.cell? ⟨g, 0, none⟩ = some u ∧ w.cell? ⟨g, 1, none⟩ = some v := by
  simp [World.cell?, h]
theorem two_facts {w : World} {g : Nat} {u v : Value} {t : TypeId} (h : w.heap[g]? = some (.cells #[u, v] t (0, 0))) : w.cell? ⟨g, 0, none⟩ = some u ∧ w.cell? ⟨g, 1, none⟩ = some v ∧ g < w.heap.size :=
  ⟨(two_cells h).1, (two_cells h).2, lt_of_block h⟩
theorem keep_two {w w' : World} {g : Nat} {u v : Value} (hb : Below w.heap.size w w') (hg : g < w.heap.size) (h : w.cell? ⟨g, 0, none⟩ = some u ∧ w.cell? ⟨g, 1, none⟩ = some v) : w'.cell? ⟨g, 0, none⟩ = some u ∧ w'.cell? ⟨g, 1, none⟩ = some v :=
  ⟨(hb.cell (p := ⟨g, 0, none⟩) hg).trans h.1, (hb.cell (p := ⟨g, 1, none⟩) hg).trans h.2⟩


theorem two_frozen {w : World} {g : Nat} {u v : Value} {t : TypeId} (h : w.heap[g]? = some (.cells #[u, v] t (0, 0))) : w.frozen? ⟨g, 0, none⟩ = false ∧ w.frozen? ⟨g, 1, none⟩ = false := by
  simp [World.frozen?, h]
theorem set_first {w : World} {g : Nat} {u v u' : Value} {t : TypeId} (h : w.heap[g]? = some (.cells #[u, v] t (0, 0))) : (w.setCell ⟨g, 0, none⟩ u').heap[g]? = some (.cells #[u', v] t (0, 0)) := Joins.block_setCell h u'
theorem set_second {w : World} {g : Nat} {u v v' : Value} {t : TypeId} (h : w.heap[g]? = some (.cells #[u, v] t (0, 0))) : (w.setCell ⟨g, 1, none⟩ v').heap[g]? = some (.cells #[u, v'] t (0, 0)) := Joins.block_setCell h v'
theorem set_two {w : World} {g : Nat} {u v : Value} (u' v' : Value) {t : TypeId} (h : w.heap[g]? = some (.cells #[u, v] t (0, 0))) : ((w.setCell ⟨g, 0, none⟩ u').setCell ⟨g, 1, none⟩ v').heap[g]? = some (.cells #[u', v'] t (0, 0)) := set_second (set_first h)
theorem heap_keep {w w' : World} {g : Nat} {o : Obj} (hb : Below w.heap.size w w') (h : w.heap[g]? = some o) : w'.heap[g]? = some o := (hb.block g (lt_of_block h)).trans h


def pS1 (o : Option Pr) : ByteArray := match o with
  | some p => p.1.str
  | none => ⟨#[]⟩
def pS2 (o : Option Pr) : ByteArray := match o with
  | some p => p.2.str
  | none => ⟨#[]⟩
/-- An answer of a pair and a bool. -/
def ansPr (o : Option Pr) : Value := .tuple #[.agg #[.string (pS1 o), .string (pS2 o)], .bool o.isSome]
end Go.Proofs.Ytkpganpojdboeaa

/-! Ps0 -/
namespace Go.Proofs.Ytkpganpojdboeaa
open Go.RowKit

/-- v is a slice of n structs of type e, of c texts each: L, one after the other. -/
def OwnX (e : TypeId) (c base : Nat) (w : World) (v : Value) (n : Nat) (L : List ByteArray) : Prop := w.ownsRow base e c v n (L.map (Value.string))
theorem OwnX.keep {e : TypeId} {c base : Nat} {w w' : World} {v : Value} {n : Nat} {L : List ByteArray} (h : OwnX e c base w v n L) (hb : Below w.heap.size w w') : OwnX e c base w' v n L := ownsRow_keep h hb
theorem OwnX.mono {e : TypeId} {c base base' : Nat} {w : World} {v : Value} {n : Nat} {L : List ByteArray} (h : OwnX e c base w v n L) (hb : base' ≤ base) : OwnX e c base' w v n L := ownsRow_mono h hb
theorem OwnX.nil (e : TypeId) (c base : Nat) (w : World) : OwnX e c base w (.slice none 0 0) 0 [] := World.ownsRow_nil _ _ _ _
theorem OwnX.len {e : TypeId} {c base : Nat} {w : World} {v : Value} {n : Nat} {L : List ByteArray} (h : OwnX e c base w v n L) : L.length = n * c := by
  have := h.1; simpa using this
/-- What can be read of such a slice. -/
def CellsX (c base : Nat) (w : World) (v : Value) (n : Nat) (L : List ByteArray) : Prop :=
  (v = .slice none 0 0 ∧ n = 0) ∨ ∃ g cap : Nat, v = .slice (some ⟨g, 0, none⟩) n cap ∧ base ≤ g ∧ g < w.heap.size ∧ n ≤ cap ∧ cap ≤ maxLen ∧
    (∀ i, i < n * c → w.cell? ⟨g, i, none⟩ = some (.string (L.getD i ⟨#[]⟩))) ∧ ∀ i, w.frozen? ⟨g, i, none⟩ = false
theorem OwnX.cells {e : TypeId} {c base : Nat} {w : World} {v : Value} {n : Nat} {L : List ByteArray} (h : OwnX e c base w v n L) : CellsX c base w v n L := by
  have h0 := h
  have hl := h.len
  obtain ⟨h1, h2⟩ := h
  rcases h2 with ⟨hv, hn⟩ | ⟨g, cap, cur, hv, hg, hh, r1, r2, r3⟩
  · exact .inl ⟨hv, hn⟩
  · subst hv
    refine .inr ⟨g, cap, rfl, hg, lt_of_block hh, r1, r2, fun i hi => ?_, fun i => World.ownsRow.frozenAt h0 i⟩
    have := World.ownsRow.cellAt h0 i (by omega)
    rw [this]
    have hi' : i < L.length := by omega
    simp [hi']
theorem CellsX.keep {c base : Nat} {w w' : World} {v : Value} {n : Nat} {L : List ByteArray} (h : CellsX c base w v n L) (hb : Below w.heap.size w w') : CellsX c base w' v n L := by
  rcases h with h | ⟨g, cap, hv, h1, h2, h3, h4, h5, h6⟩
  · exact .inl h
  · refine .inr ⟨g, cap, hv, h1, Nat.lt_of_lt_of_le h2 hb.size, h3, h4, fun i hi => (hb.cell (p := ⟨g, i, none⟩) h2).trans (h5 i hi), fun i => (hb.frozen (p := ⟨g, i, none⟩) h2).trans (h6 i)⟩
/-- The texts of pairs, one after the other. -/
def flatQ : List Pr → List ByteArray
  | [] => []
  | x :: l => x.1.str :: x.2.str :: flatQ l
theorem flatQ_length (l : List Pr) : (flatQ l).length = l.length * 2 := by
  induction l with
  | nil => rfl
  | cons x l ih => simp [flatQ, ih]; omega
theorem flatQ_append (l m : List Pr) : flatQ (l ++ m) = flatQ l ++ flatQ m := by
  induction l with
  | nil => rfl
  | cons x l ih => simp [flatQ, ih]
theorem flatQ_get (l : List Pr) : ∀ k, k < l.length → (flatQ l).getD (k * 2) ⟨#[]⟩ = (l.getD k (.lf, .lf)).1.str ∧ (flatQ l).getD (k * 2 + 1) ⟨#[]⟩ = (l.getD k (.lf, .lf)).2.str := by
  induction l with
  | nil => intro k hk; simp at hk
  | cons x l ih =>
    intro k hk
    match k with
    | 0 => exact ⟨rfl, rfl⟩
    | k + 1 =>
      have := ih k (by simpa using hk)
      rw [show (k + 1) * 2 = k * 2 + 2 by omega]
      exact this
/-- v is a slice of pairs that the call has made. -/
def OwnQ (base : Nat) (w : World) (v : Value) (xs : List Pr) : Prop := OwnX 25 2 base w v xs.length (flatQ xs)
theorem OwnQ.keep {base : Nat} {w w' : World} {v : Value} {xs : List Pr} (h : OwnQ base w v xs) (hb : Below w.heap.size w w') : OwnQ base w' v xs := OwnX.keep h hb
theorem OwnQ.mono {base base' : Nat} {w : World} {v : Value} {xs : List Pr} (h : OwnQ base w v xs) (hb : base' ≤ base) : OwnQ base' w v xs := OwnX.mono h hb
theorem OwnQ.cells {base : Nat} {w : World} {v : Value} {xs : List Pr} (h : OwnQ base w v xs) : CellsX 2 base w v xs.length (flatQ xs) := OwnX.cells h
def AnsQ2 (xs : List Pr) (ok : Bool) (w : World) (e : Ending) (w' : World) : Prop :=
  ∃ v, OwnQ w.heap.size w' v xs ∧ Below w.heap.size w w' ∧ e = .returned (.tuple #[v, .bool ok])
def AnsQs (o : Option (List Pr)) (w : World) (e : Ending) (w' : World) : Prop := AnsQ2 (o.getD []) o.isSome w e w'
/-- A call that hands back a slice of pairs of its own. -/
def GivesQ (xs : List Pr) (w : World) (e : Ending) (w' : World) : Prop :=
  ∃ v, OwnQ w.heap.size w' v xs ∧ Below w.heap.size w w' ∧ e = .returned v
theorem info_pr : (Try.prog.info? 25).map (fun i => (i.zero, i.size, i.bytes)) = some (some (.agg #[.string ⟨#[]⟩, .string ⟨#[]⟩]), 2, 32) := by kernel_rfl
/-- What an append of one struct asks. -/
theorem newsQ (w : World) (cs : Array Value) (e : TypeId) : ∀ (j : Nat) (u : Value), cs.toList[j]? = some u → (w.alloc (.cells cs e)).cell? ((⟨w.heap.size, 0, none⟩ : Addr).add j) = some u := by
  intro j u hj
  have hb : (w.alloc (.cells cs e)).heap[w.heap.size]? = some (.cells cs e (0, 0)) := by show (w.heap.push _)[w.heap.size]? = _; simp
  rw [addr_add]
  simp only [World.cell?, hb]
  simpa using hj
theorem OwnQ.snoc {base : Nat} {w : World} {v : Value} {xs : List Pr} {a b : Tr} (h : w.ownsRow base 25 2 v (xs.length + 1) ((flatQ xs).map (Value.string) ++ [Value.string a.str, Value.string b.str])) : OwnQ base w v (xs ++ [(a, b)]) := by
  unfold OwnQ OwnX
  rw [List.length_append, flatQ_append, List.map_append]
  exact h
end Go.Proofs.Ytkpganpojdboeaa

/-! Mark -/
namespace Go.Proofs.Ytkpganpojdboeaa
open Go.RowKit

/-- One byte as a text. -/
def oneB (c : Int) : ByteArray := strOfNums [c]
theorem oneB_size (c : Int) : (oneB c).size = 1 := rfl

/-- 'string([]byte{c})'. -/
theorem conv_one (w : World) (c : Int) : (convert 105 9 (.slice (some ⟨w.heap.size, 0, none⟩) 1 1)).run Try.prog (w.alloc (.cells #[.int .u8 c] 5)) = .ok (.string (oneB c)) (w.alloc (.cells #[.int .u8 c] 5)) := by
  refine run_convert_bytes_arg _ 105 5 Try.underlying105 Try.underlying5 w.heap.size 0 1 1 [c] rfl ?_ 9 Try.underlying9
  intro i hi
  obtain rfl : i = 0 := by omega
  have : (w.alloc (.cells #[.int .u8 c] 5)).heap[w.heap.size]? = some (.cells #[.int .u8 c] 5) := by
    show (w.heap.push _)[w.heap.size]? = _
    simp
  exact cell_of_one this

/-- The digits of a number ahead of a text. -/
def digs (j : Nat) (acc : ByteArray) : ByteArray := if 0 < j then digs (j / 10) (oneB (48 + (j : Int) % 10) ++ acc) else acc
termination_by j
decreasing_by omega

def markT (k : Nat) : ByteArray := ⟨#[109]⟩ ++ digs k ⟨#[]⟩

set_option maxRecDepth 100000 in
set_option maxHeartbeats 1000000 in
theorem markText_any (k : Nat) (w : World) (hk : 0 < k) (hk2 : k ≤ 2000000000) :
    Calls Try.prog 69 #[.int .i64 k] w (Gives (.string (markT k)) w) := by
  have hconv := conv_one
  go_enter Try.func69, Try.ntmps69
  go_wp2_with fail
  go_loopw [0, 3] (fun i t wr => ∃ (j : Nat) (acc : ByteArray), i = .int .i64 j ∧ t = .string acc ∧ acc.size + j ≤ k ∧ Below w.heap.size w wr ∧ Hid (digs k ⟨#[]⟩ = digs j acc)) (fun i _ _ => (intOf i).toNat)
  case atStart => exact ⟨k, ⟨#[]⟩, rfl, rfl, by simp [ByteArray.size], Below.refl _ _, rfl⟩
  case round =>
    obtain ⟨j, acc, rfl, rfl, hz, hbw, he⟩ := hrel
    by_cases hlt : (0 : Int) < j
    · have he' := he.out
      rw [digs.eq_def j, if_pos (by omega)] at he'
      have HE := Lib.hid he'
      have hob := oneB_size (48 + (j : Int) % 10)
      clear he he'
      go_wp2_with fail
      go_roundw
      case rel => exact ⟨j / 10, _, by go_num, rfl, by rw [ByteArray.size_append, hob]; omega, nxAlloc hbw _, HE⟩
      case measure => simp [intOf]; omega
    · obtain rfl : j = 0 := by omega
      have he' := he.out
      rw [digs.eq_def 0, if_neg (by omega)] at he'
      have HE := Lib.hid he'
      clear he he'
      go_wp2_with fail
      go_ret
      exact ⟨ret_str (by unfold markT; rw [HE.out]), hbw⟩
end Go.Proofs.Ytkpganpojdboeaa

/-! Place -/
namespace Go.Proofs.Ytkpganpojdboeaa
open Go.RowKit

theorem head_of {l : List UInt8} {c : UInt8} (h : (l.head? == some c) = true) : ∃ r, l = c :: r := by
  cases l with
  | nil => simp at h
  | cons a r => simp at h; exact ⟨r, by rw [h]⟩

set_option maxHeartbeats 1000000 in
theorem place_any (k : Nat) : ∀ (s : ByteArray) (w : World), s.size < k → s.size ≤ 9223372036854775806 →
    Calls Try.prog 95 #[.string s] w (PlacePost (parseN k s.data.toList) s w) := by
  induction k with
  | zero => intro s w h; omega
  | succ k ih =>
    intro s w hk hs
    have ih_no : ∀ (s : ByteArray) (w : World), s.size < k → s.size ≤ 9223372036854775806 → parseN k s.data.toList = none → Calls Try.prog 95 #[.string s] w (PlaceNo w) := by
      intro s w h1 h2 h3
      have := ih s w h1 h2
      rw [h3] at this
      exact this
    have ih_yes : ∀ (s : ByteArray) (w : World) (t : Tr) (r : List UInt8), s.size < k → s.size ≤ 9223372036854775806 → parseN k s.data.toList = some (t, r) → Calls Try.prog 95 #[.string s] w (PlaceOk t r s w) := by
      intro s w t r h1 h2 h3
      have := ih s w h1 h2
      rw [h3] at this
      exact this
    clear ih
    cases h46 : (s.data.toList.head? == some 46) with
    | true =>
      obtain ⟨r, hr⟩ := head_of h46
      have HP : parseN (k + 1) s.data.toList = some (.lf, r) := by rw [hr, parseN, if_pos rfl]
      rw [HP]
      show Calls _ _ _ _ (PlaceOk .lf r s w)
      have HR := Lib.hid hr
      clear hr HP h46
      go_enter Try.func95, Try.ntmps95
      go_wp2_with (go_at_call 124; refine (cut_yes s _ r _ hs HR.out).mono ?_; rintro e w' ⟨s', h1, h2, rfl, rfl⟩; have H1 := Lib.hid h1; clear h1)
      go_ret2
      exact ⟨_, _, H1.out, h2, heap_alloc_at _ _, (Below.refl _ _).alloc (Nat.le_refl _) _, rfl⟩
    | false =>
      cases h40 : (s.data.toList.head? == some 40) with
      | false =>
        have HP : parseN (k + 1) s.data.toList = none := by
          cases hl : s.data.toList with
          | nil => rfl
          | cons c r =>
            rw [hl] at h46 h40
            have h1 : ¬ c = 46 := by simpa using h46
            have h2 : ¬ c = 40 := by simpa using h40
            rw [parseN, if_neg h1, if_neg h2]
        rw [HP]
        show Calls _ _ _ _ (PlaceNo w)
        go_enter Try.func95, Try.ntmps95
        go_wp2_with fail
        refine (cut_no s 46 _ hs h46).mono ?_; rintro e w' ⟨rfl, rfl⟩
        go_wp2_with fail
        refine (cut_no s 40 _ hs h40).mono ?_; rintro e w' ⟨rfl, rfl⟩
        go_wp2_with fail
        go_ret2
        exact ⟨Below.refl _ _, rfl⟩
      | true =>
        obtain ⟨r, hr⟩ := head_of h40
        have HR := Lib.hid hr
        have hz : s.size = r.length + 1 := by rw [Lib.size_eq, hr]; rfl
        have HZ := Lib.hid hz
        clear h40 hz
        cases hp1 : parseN k r with
        | none =>
          have HP : parseN (k + 1) s.data.toList = none := by rw [hr, parseN, if_neg (by decide), if_pos rfl, hp1]
          rw [HP]
          show Calls _ _ _ _ (PlaceNo w)
          have H1 := Lib.hid hp1
          clear HP hr hp1
          go_enter Try.func95, Try.ntmps95
          go_wp2_with fail
          refine (cut_no s 46 _ hs h46).mono ?_; rintro e w' ⟨rfl, rfl⟩
          go_wp2_with fail
          refine (cut_yes s 40 r _ hs HR.out).mono ?_; rintro e w' ⟨s1, hs1, hz1, rfl, rfl⟩; have HS1 := Lib.hid hs1; clear hs1
          go_wp2_with fail
          refine (ih_no s1 _ (by omega) (by omega) (by rw [HS1.out]; exact H1.out)).mono ?_; rintro e w1 ⟨hb1, rfl⟩
          go_wp2_with fail
          go_ret2
          exact ⟨hb1, rfl⟩
        | some p1 =>
          obtain ⟨t1, r1⟩ := p1
          have hl1 := parseN_len hp1
          cases hp2 : parseN k r1 with
          | none =>
            have HP : parseN (k + 1) s.data.toList = none := by rw [hr, parseN, if_neg (by decide), if_pos rfl, hp1]; show (match parseN k r1 with | none => none | some (t2, r2) => _) = _; rw [hp2]
            rw [HP]
            show Calls _ _ _ _ (PlaceNo w)
            have H1 := Lib.hid hp1
            have H2 := Lib.hid hp2
            clear HP hr hp1 hp2
            go_enter Try.func95, Try.ntmps95
            go_wp2_with fail
            refine (cut_no s 46 _ hs h46).mono ?_; rintro e w' ⟨rfl, rfl⟩
            go_wp2_with fail
            refine (cut_yes s 40 r _ hs HR.out).mono ?_; rintro e w' ⟨s1, hs1, hz1, rfl, rfl⟩; have HS1 := Lib.hid hs1; clear hs1
            go_wp2_with fail
            refine (ih_yes s1 _ _ _ (by omega) (by omega) (by rw [HS1.out]; exact H1.out)).mono ?_; rintro e w1 ⟨b1, s2, hs2, hz2, hn1, hb1, rfl⟩; have HS2 := Lib.hid hs2; clear hs2
            go_wp2_with fail
            refine (ih_no s2 _ (by omega) (by omega) (by rw [HS2.out]; exact H2.out)).mono ?_; rintro e w2 ⟨hb2, rfl⟩
            go_wp2_with fail
            go_ret2
            exact ⟨hb1.trans (hb2.mono hb1.size), rfl⟩
          | some p2 =>
            obtain ⟨t2, r2⟩ := p2
            have hl2 := parseN_len hp2
            cases h41 : (r2.head? == some 41) with
            | false =>
              have HP : parseN (k + 1) s.data.toList = none := by
                rw [hr, parseN, if_neg (by decide), if_pos rfl, hp1]
                show (match parseN k r1 with | none => none | some (t2, r2) => _) = _
                rw [hp2]
                cases r2 with
                | nil => rfl
                | cons c r3 =>
                  have h1 : ¬ c = 41 := by simpa using h41
                  simp [h1]
              rw [HP]
              show Calls _ _ _ _ (PlaceNo w)
              have H1 := Lib.hid hp1
              have H2 := Lib.hid hp2
              have H3 := Lib.hid h41
              clear HP hr hp1 hp2 h41
              go_enter Try.func95, Try.ntmps95
              go_wp2_with fail
              refine (cut_no s 46 _ hs h46).mono ?_; rintro e w' ⟨rfl, rfl⟩
              go_wp2_with fail
              refine (cut_yes s 40 r _ hs HR.out).mono ?_; rintro e w' ⟨s1, hs1, hz1, rfl, rfl⟩; have HS1 := Lib.hid hs1; clear hs1
              go_wp2_with fail
              refine (ih_yes s1 _ _ _ (by omega) (by omega) (by rw [HS1.out]; exact H1.out)).mono ?_; rintro e w1 ⟨b1, s2, hs2, hz2, hn1, hb1, rfl⟩; have HS2 := Lib.hid hs2; clear hs2
              go_wp2_with fail
              refine (ih_yes s2 _ _ _ (by omega) (by omega) (by rw [HS2.out]; exact H2.out)).mono ?_; rintro e w2 ⟨b2, s3, hs3, hz3, hn2, hb2, rfl⟩; have HS3 := Lib.hid hs3; clear hs3
              go_wp2_with fail
              refine (cut_no s3 41 _ (by omega) (by rw [HS3.out]; exact H3.out)).mono ?_; rintro e w' ⟨rfl, rfl⟩
              go_wp2_with fail
              go_ret2
              exact ⟨hb1.trans (hb2.mono hb1.size), rfl⟩
            | true =>
              obtain ⟨r3, hr3⟩ := head_of h41
              have HP : parseN (k + 1) s.data.toList = some (.nd t1 t2, r3) := by
                rw [hr, parseN, if_neg (by decide), if_pos rfl, hp1]
                show (match parseN k r1 with | none => none | some (t2, r2) => _) = _
                rw [hp2, hr3]
                simp
              rw [HP]
              show Calls _ _ _ _ (PlaceOk (.nd t1 t2) r3 s w)
              have H1 := Lib.hid hp1
              have H2 := Lib.hid hp2
              have H3 := Lib.hid hr3
              clear HP hr hp1 hp2 h41 hr3
              go_enter Try.func95, Try.ntmps95
              go_wp2_with fail
              refine (cut_no s 46 _ hs h46).mono ?_; rintro e w' ⟨rfl, rfl⟩
              go_wp2_with fail
              refine (cut_yes s 40 r _ hs HR.out).mono ?_; rintro e w' ⟨s1, hs1, hz1, rfl, rfl⟩; have HS1 := Lib.hid hs1; clear hs1
              go_wp2_with fail
              refine (ih_yes s1 _ _ _ (by omega) (by omega) (by rw [HS1.out]; exact H1.out)).mono ?_; rintro e w1 ⟨b1, s2, hs2, hz2, hn1, hb1, rfl⟩; have HS2 := Lib.hid hs2; clear hs2
              go_wp2_with fail
              refine (ih_yes s2 _ _ _ (by omega) (by omega) (by rw [HS2.out]; exact H2.out)).mono ?_; rintro e w2 ⟨b2, s3, hs3, hz3, hn2, hb2, rfl⟩; have HS3 := Lib.hid hs3; clear hs3
              go_wp2_with fail
              refine (cut_yes s3 41 r3 _ (by omega) (by rw [HS3.out]; exact H3.out)).mono ?_; rintro e w' ⟨s4, hs4, hz4, rfl, rfl⟩; have HS4 := Lib.hid hs4; clear hs4
              go_wp2_with fail
              go_ret2
              have hb3 : Below w2.heap.size w2 (w2.alloc (.cells #[.pointer (some ⟨b1, 0, none⟩), .pointer (some ⟨b2, 0, none⟩)] 68 (0, 0))) := (Below.refl _ _).alloc (Nat.le_refl _) _
              exact ⟨_, _, HS4.out, by omega, ⟨b1, b2, heap_alloc_at _ _, (hn1.keep hb2).keep hb3, hn2.keep hb3⟩, (hb1.trans (hb2.mono hb1.size)).trans (hb3.mono (Nat.le_trans hb1.size hb2.size)), rfl⟩
end Go.Proofs.Ytkpganpojdboeaa

/-! Read -/
namespace Go.Proofs.Ytkpganpojdboeaa
open Go.RowKit

def ReadOk (t : Tr) (w : World) (e : Ending) (w' : World) : Prop :=
  ∃ b : Nat, NodeAt w' t b ∧ Below w.heap.size w w' ∧ e = .returned (.tuple #[.pointer (some ⟨b, 0, none⟩), .bool true])
def ReadNo (w : World) (e : Ending) (w' : World) : Prop :=
  Below w.heap.size w w' ∧ e = .returned (.tuple #[.pointer none, .bool false])

theorem treeOf_of_parse {s : ByteArray} {t : Tr} (h : parseN (s.size + 1) s.data.toList = some (t, [])) (hz : s.size ≤ 25) : treeOf s = some t := by
  have e := str_of_list (show s.data.toList = t.text by simpa using parseN_sound _ _ _ _ h)
  subst e
  exact treeOf_str t (by rw [Tr.str_size] at hz; omega)

theorem read_yes (t : Tr) (w : World) (h : t.carets ≤ 8) :
    Calls Try.prog 115 #[.string t.str] w (ReadOk t w) := by
  have hz := t.str_size
  have hp := place_any (t.str.size + 1) t.str
  rw [parse_str t _ (by have := t.text_len; omega)] at hp
  have hp' : ∀ w, Calls Try.prog 95 #[.string t.str] w (PlaceOk t [] t.str w) := fun w => hp w (by omega) (by omega)
  have hz' : t.str.size ≤ 25 := by omega
  clear hz hp
  go_enter Try.func115, Try.ntmps115
  go_wp2_with fail
  refine (hp' _).mono ?_; rintro e w1 ⟨b1, s1, hs1, hz1, hn1, hb1, rfl⟩; have e1 : s1.toList.isEmpty = true := by rw [Lib.toList_data, hs1]; rfl
  have e2 : s1.toList = [] := by rw [Lib.toList_data, hs1]
  clear hs1
  go_wp2_with fail
  go_ret2
  exact ⟨b1, hn1, hb1, rfl⟩

theorem read_no (s : ByteArray) (w : World) (hs : s.size ≤ 9223372036854775806) (h : treeOf s = none) :
    Calls Try.prog 115 #[.string s] w (ReadNo w) := by
  by_cases hz : (s.size : Int) ≤ 25
  · have hp := place_any (s.size + 1) s
    cases hq : parseN (s.size + 1) s.data.toList with
    | none =>
      rw [hq] at hp
      have hp' : ∀ w, Calls Try.prog 95 #[.string s] w (PlaceNo w) := fun w => hp w (by omega) hs
      clear hp h hq
      go_enter Try.func115, Try.ntmps115
      go_wp2_with fail
      refine (hp' _).mono ?_; rintro e w1 ⟨hb1, rfl⟩
      go_wp2_with fail
      go_ret2
      exact ⟨hb1, rfl⟩
    | some p =>
      obtain ⟨t, r⟩ := p
      rw [hq] at hp
      have hp' : ∀ w, Calls Try.prog 95 #[.string s] w (PlaceOk t r s w) := fun w => hp w (by omega) hs
      cases r with
      | nil => rw [treeOf_of_parse hq (by omega)] at h; simp at h
      | cons c r =>
        clear hp h hq
        go_enter Try.func115, Try.ntmps115
        go_wp2_with fail
        refine (hp' _).mono ?_; rintro e w1 ⟨b1, s1, hs1, hz1, hn1, hb1, rfl⟩; have e1 : s1.toList.isEmpty = false := by rw [Lib.toList_data, hs1]; rfl
        clear hs1
        go_wp2_with fail
        go_ret2
        exact ⟨hb1, rfl⟩
  · clear h
    go_enter Try.func115, Try.ntmps115
    go_wp2_with fail
    go_ret2
    exact ⟨Below.refl _ _, rfl⟩

theorem implIsTree_yes (t : Tr) (w : World) (h : t.carets ≤ 8) :
    Calls Try.prog 82 #[.string t.str] w fun e w' => Below w.heap.size w w' ∧ e = .returned (.bool true) := by
  go_enter Try.func82, Try.ntmps82
  go_wp2_with fail
  refine (read_yes t _ h).mono ?_; rintro e w1 ⟨b1, hn1, hb1, rfl⟩
  go_wp2_with fail
  go_ret
  exact ⟨hb1, rfl⟩

theorem implIsTree_no (s : ByteArray) (w : World) (hs : s.size ≤ 9223372036854775806) (h : treeOf s = none) :
    Calls Try.prog 82 #[.string s] w fun e w' => Below w.heap.size w w' ∧ e = .returned (.bool false) := by
  have H := Lib.hid h
  clear h
  go_enter Try.func82, Try.ntmps82
  go_wp2_with fail
  refine (read_no s _ hs H.out).mono ?_; rintro e w1 ⟨hb1, rfl⟩
  go_wp2_with fail
  go_ret
  exact ⟨hb1, rfl⟩

end Go.Proofs.Ytkpganpojdboeaa

/-! End -/
namespace Go.Proofs.Ytkpganpojdboeaa
open Go.RowKit


set_option maxHeartbeats 400000 in
theorem end_any (k : Nat) : ∀ (s : ByteArray) (a d : Int) (w : World), s.size ≤ 9223372036854775806 → 0 ≤ d → d + k = 61 → 0 ≤ a →
    Calls Try.prog 94 #[.string s, .int .i64 a, .int .i64 d] w fun e w' => e = .returned (.int .i64 (endI k s a)) ∧ w = w' := by
  induction k with
  | zero =>
    intro s a d w hs hd0 hd ha
    by_cases h : a < s.size
    all_goals
      go_enter Try.func94, Try.ntmps94
      go_wp2_with fail
      go_ret
      exact ⟨rfl, rfl⟩
  | succ k ih =>
    intro s a d w hs hd0 hd ha
    have b1 := endI_le k s (a + 1) (by omega)
    have b2 := fun h => endI_le k s (endI k s (a + 1)) h
    by_cases h : a < s.size
    · go_enter Try.func94, Try.ntmps94
      go_wp2_with (go_at_call 94; refine (ih s _ _ _ hs (by omega) (by omega) (by omega)).mono ?_; rintro e w' ⟨rfl, rfl⟩)
      all_goals
        go_ret
        refine ⟨ret_int ?_, rfl⟩
        go_light
        clear ih b2
        have e1 := byteAt_eq s a (by omega)
        have e2 := byteAt_eq s (endI k s (endI k s (a + 1)))
        simp only [beq_iff_eq, beq_eq_false_iff_ne, ne_eq, bne_iff_ne, bne_eq_false_iff_eq] at *
        rw [endI]
        repeat' split
        all_goals first | omega | (have := e2 (by omega); omega)
    · go_enter Try.func94, Try.ntmps94
      go_wp2_with fail
      go_ret
      exact ⟨ret_int (by rw [endI, if_neg (by omega)]), rfl⟩
end Go.Proofs.Ytkpganpojdboeaa

/-! Carets -/
namespace Go.Proofs.Ytkpganpojdboeaa
open Go.RowKit

set_option maxHeartbeats 400000 in
theorem carets_any (s : ByteArray) (w : World) (hs : s.size ≤ 9223372036854775806) :
    Calls Try.prog 61 #[.string s] w fun e w' => e = .returned (.int .i64 (cnt s s.size)) ∧ w = w' := by
  go_enter Try.func61, Try.ntmps61
  go_wp2
  go_loop [3, 4] (fun n i => ∃ k : Nat, k ≤ s.size ∧ i = .int .i64 k ∧ n = .int .i64 (cnt s k)) (fun _ i => s.size - (intOf i).toNat)
  case atStart => exact ⟨0, Nat.zero_le _, rfl, rfl⟩
  case round =>
    obtain ⟨k, hk, rfl, rfl⟩ := hrel
    have hc := cnt_le s k
    by_cases hlt : k < s.size
    · have e1 : Hid (byteAt s k = ((s[k]'hlt).toNat : Int)) := byteAt_eq s k hlt
      go_wp2
      all_goals
        go_round
        case rel => exact ⟨k + 1, by omega, by go_num, by rw [cnt, e1.out]; first | rw [if_pos (by simpa using ‹(_ == (40:Int)) = true›)] | (rw [if_neg (by simpa using ‹(_ == (40:Int)) = false›)]; go_num)⟩
        case measure => simp [intOf]; omega
    · obtain rfl : k = s.size := by omega
      go_wp2
      go_ret
      exact ⟨rfl, rfl⟩
set_option maxHeartbeats 400000 in
theorem trIs_any (s : ByteArray) (w : World) (hs : s.size ≤ 9223372036854775806) :
    Calls Try.prog 80 #[.string s] w fun e w' => e = .returned (.bool (isTreeB s)) ∧ w = w' := by
  have hc := cnt_le s s.size
  have he := endI_le 61 s 0 (by omega)
  by_cases a : (s.size : Int) ≤ 33 <;> by_cases b : cnt s s.size ≤ 8
  all_goals
    go_enter Try.func80, Try.ntmps80
    go_wp2_with (first | (go_at_call 61; refine (carets_any s _ hs).mono ?_; rintro e w' ⟨rfl, rfl⟩) | (go_at_call 94; refine (end_any 61 s _ _ _ hs (by omega) (by omega) (by omega)).mono ?_; rintro e w' ⟨rfl, rfl⟩))
    go_ret
    exact ⟨ret_bool (by unfold isTreeB; rw [Bool.eq_iff_iff]; simp; try omega), rfl⟩

end Go.Proofs.Ytkpganpojdboeaa

/-! SpecTr -/
namespace Go.Proofs.Ytkpganpojdboeaa
open Go.RowKit

theorem isLf_eq (t : Tr) : (t.str.toList == [46]) = t.isLf := by
  rw [Lib.toList_data, Tr.str_list]
  cases t <;> simp [Tr.text, Tr.isLf]

theorem str_lf : Tr.lf.str = ⟨#[46]⟩ := rfl
theorem str_nd (l r : Tr) : (Tr.nd l r).str = ⟨#[40]⟩ ++ l.str ++ r.str ++ ⟨#[41]⟩ := by
  apply ba_ext
  simp [Tr.str, Tr.text]

theorem trLeaf_any (t : Tr) (w : World) :
    Calls Try.prog 58 #[.string t.str] w fun e w' => e = .returned (.bool t.isLf) ∧ w = w' := by
  go_enter Try.func58, Try.ntmps58
  go_wp2_with fail
  go_ret
  exact ⟨ret_bool (isLf_eq t), rfl⟩

theorem trOf_any (l r : Tr) (w : World) (h : l.carets + r.carets ≤ 3000000) :
    Calls Try.prog 56 #[.string l.str, .string r.str] w fun e w' => e = .returned (.string (Tr.nd l r).str) ∧ w = w' := by
  have h1 := l.str_size
  have h2 := r.str_size
  go_enter Try.func56, Try.ntmps56
  go_wp2_with fail
  go_ret
  exact ⟨by rw [str_nd]; rfl, rfl⟩

theorem ret_str2 {a b c d : ByteArray} (h : a = c) (k : b = d) : Ending.returned (.tuple #[.string a, .string b]) = .returned (.tuple #[.string c, .string d]) := by rw [h, k]

theorem side_left (l r : Tr) (e : Nat) (he : e = 3 * l.carets + 2) : (Tr.nd l r).str.extract 1 e = l.str := by
  apply ba_ext
  rw [Lib.extract_data, Tr.str_list, Tr.str_list]
  have : e - 1 = l.text.length := by rw [l.text_len]; omega
  rw [this]
  simp [Tr.text]

theorem side_right (l r : Tr) (e f : Nat) (he : e = 3 * l.carets + 2) (hf : f = 3 * l.carets + 3 * r.carets + 3) : (Tr.nd l r).str.extract e f = r.str := by
  apply ba_ext
  rw [Lib.extract_data, Tr.str_list, Tr.str_list]
  have h1 : e = l.text.length + 1 := by rw [l.text_len]; omega
  have h2 : f - e = r.text.length := by rw [r.text_len]; omega
  rw [h2, h1]
  show ((40 :: (l.text ++ (r.text ++ [41]))).drop (l.text.length + 1)).take _ = _
  rw [List.drop_succ_cons, List.drop_left, List.take_left]

theorem trSides_any (l r : Tr) (w : World) (h : l.carets + r.carets ≤ 60) :
    Calls Try.prog 60 #[.string (Tr.nd l r).str] w fun e w' => e = .returned (.tuple #[.string l.str, .string r.str]) ∧ Below w.heap.size w w' := by
  have h1 := (Tr.nd l r).str_size
  simp only [Tr.carets] at h1
  have he := endI_complete l 61 (Tr.nd l r).str 1 (r.text ++ [41]) (by omega) (by rw [Tr.str_list]; rfl)
  have hl := l.text_len
  have he' : endI 61 (Tr.nd l r).str 1 = (3 * l.carets + 2 : Nat) := by
    have : ((1 : Nat) : Int) = 1 := rfl
    rw [this] at he; rw [he]; omega
  have HE := Lib.hid he'
  clear he he' hl
  go_enter Try.func60, Try.ntmps60
  go_wp2_with fail
  refine (end_any 61 (Tr.nd l r).str _ _ _ (by omega) (by omega) (by omega) (by omega)).mono ?_; rintro e w' ⟨rfl, rfl⟩
  rw [HE.out]
  go_wp2_with fail
  go_region
  all_goals (try go_wp2_with fail)
  all_goals go_ret2
  exact ⟨ret_str2 (side_left l r _ (by omega)) (side_right l r _ _ (by omega) (by omega)), (Below.refl _ _).drew⟩
end Go.Proofs.Ytkpganpojdboeaa

/-! SpecMir -/
namespace Go.Proofs.Ytkpganpojdboeaa
open Go.RowKit

set_option maxHeartbeats 400000 in
theorem trJoin_any (a : Tr) : ∀ (b : Tr) (w : World), a.carets ≤ 60 → b.carets ≤ 60 →
    Calls Try.prog 101 #[.string a.str, .string b.str] w (Gives (.string (a.join b).str) w) := by
  induction a with
  | lf =>
    intro b w ha hb
    go_enter Try.func101, Try.ntmps101
    go_wp2_with fail
    refine (trLeaf_any .lf _).mono ?_; rintro e w1 ⟨rfl, rfl⟩
    simp only [Tr.isLf]
    go_wp2_with fail
    go_ret
    exact ⟨rfl, Below.refl _ _⟩
  | nd l r ihl ihr =>
    intro b w ha hb
    have h' : l.carets + r.carets + 1 ≤ 60 := ha
    cases b with
    | lf =>
      go_enter Try.func101, Try.ntmps101
      go_wp2_with fail
      refine (trLeaf_any (.nd l r) _).mono ?_; rintro e w1 ⟨rfl, rfl⟩
      simp only [Tr.isLf]
      go_wp2_with fail
      refine (trLeaf_any .lf _).mono ?_; rintro e w1 ⟨rfl, rfl⟩
      simp only [Tr.isLf]
      go_wp2_with fail
      go_ret
      exact ⟨rfl, Below.refl _ _⟩
    | nd p q =>
      have h2 : p.carets + q.carets + 1 ≤ 60 := hb
      have ml := join_carets l p
      have mr := join_carets r q
      go_enter Try.func101, Try.ntmps101
      go_wp2_with fail
      refine (trLeaf_any (.nd l r) _).mono ?_; rintro e w1 ⟨rfl, rfl⟩
      simp only [Tr.isLf]
      go_wp2_with fail
      refine (trLeaf_any (.nd p q) _).mono ?_; rintro e w1 ⟨rfl, rfl⟩
      simp only [Tr.isLf]
      go_wp2_with fail
      refine (trSides_any l r _ (by omega)).mono ?_; rintro e w1 ⟨rfl, hb1⟩
      go_wp2_with fail
      refine (trSides_any p q _ (by omega)).mono ?_; rintro e w2 ⟨rfl, hb2⟩
      go_wp2_with fail
      refine (ihl p _ (by omega) (by omega)).mono ?_; rintro e w3 ⟨rfl, hb3⟩
      go_wp2_with fail
      refine (ihr q _ (by omega) (by omega)).mono ?_; rintro e w4 ⟨rfl, hb4⟩
      go_wp2_with fail
      refine (trOf_any (l.join p) (r.join q) _ (by omega)).mono ?_; rintro e w5 ⟨rfl, rfl⟩
      go_wp2_with fail
      go_ret
      exact ⟨rfl, nx (nx (nx hb1 hb2) hb3) hb4⟩

end Go.Proofs.Ytkpganpojdboeaa

/-! Ans -/
namespace Go.Proofs.Ytkpganpojdboeaa
open Go.RowKit

def trS : Option Tr → ByteArray
  | some t => t.str
  | none => ⟨#[]⟩
def trB : Option Tr → Bool
  | some _ => true
  | none => false
/-- An answer of a text and a bool. -/
def ansV (o : Option Tr) : Value := .tuple #[.string (trS o), .bool (trB o)]
/-- A tree, if it has no more carets than allowed. -/
def lim (t : Tr) : Option Tr := if t.carets ≤ 8 then some t else none

theorem trIs_yes (t : Tr) (w : World) (h : t.carets ≤ 8) : Calls Try.prog 80 #[.string t.str] w fun e w' => e = .returned (.bool true) ∧ w = w' := by
  have := trIs_any t.str w (by have := t.str_size; omega)
  rwa [isTreeB_str t h] at this
theorem trIs_no (s : ByteArray) (w : World) (hs : s.size ≤ 9223372036854775806) (h : treeOf s = none) : Calls Try.prog 80 #[.string s] w fun e w' => e = .returned (.bool false) ∧ w = w' := by
  have := trIs_any s w hs
  rwa [isTreeB_eq, h] at this
theorem carets_str (t : Tr) (w : World) (h : t.carets ≤ 1000) : Calls Try.prog 61 #[.string t.str] w fun e w' => e = .returned (.int .i64 t.carets) ∧ w = w' := by
  have := carets_any t.str w (by have := t.str_size; omega)
  rwa [cnt_str] at this

theorem limit_yes (t : Tr) (w : World) (h : t.carets ≤ 8) : Calls Try.prog 84 #[.string t.str] w fun e w' => e = .returned (.tuple #[.string t.str, .bool true]) ∧ w = w' := by
  have hz := t.str_size
  have hz' : t.str.size ≤ 25 := by omega
  clear hz
  go_enter Try.func84, Try.ntmps84
  go_wp2_with fail
  go_ret2
  exact ⟨rfl, rfl⟩
theorem limit_no (t : Tr) (w : World) (h : 8 < t.carets) : Calls Try.prog 84 #[.string t.str] w fun e w' => e = .returned (.tuple #[.string ⟨#[]⟩, .bool false]) ∧ w = w' := by
  have hz := t.str_size
  have hz' : 25 < t.str.size := by omega
  clear hz
  go_enter Try.func84, Try.ntmps84
  go_wp2_with fail
  go_ret2
  exact ⟨rfl, rfl⟩
theorem limit_any (t : Tr) (w : World) : Calls Try.prog 84 #[.string t.str] w fun e w' => e = .returned (ansV (lim t)) ∧ w = w' := by
  by_cases h : t.carets ≤ 8
  · have := limit_yes t w h
    rw [show ansV (lim t) = .tuple #[.string t.str, .bool true] by simp [lim, h, ansV, trS, trB]]
    exact this
  · have := limit_no t w (by omega)
    rw [show ansV (lim t) = .tuple #[.string ⟨#[]⟩, .bool false] by simp [lim, h, ansV, trS, trB]]
    exact this

def TreesOk (t u : Tr) (w : World) (e : Ending) (w' : World) : Prop :=
  ∃ b c : Nat, NodeAt w' t b ∧ NodeAt w' u c ∧ Below w.heap.size w w' ∧ e = .returned (.tuple #[.pointer (some ⟨b, 0, none⟩), .pointer (some ⟨c, 0, none⟩), .bool true])
def TreesNo (w : World) (e : Ending) (w' : World) : Prop :=
  Below w.heap.size w w' ∧ e = .returned (.tuple #[.pointer none, .pointer none, .bool false])

end Go.Proofs.Ytkpganpojdboeaa

/-! Count -/
namespace Go.Proofs.Ytkpganpojdboeaa
open Go.RowKit

set_option maxHeartbeats 1000000 in
set_option maxRecDepth 100000 in
theorem count_any (s : ByteArray) (w : World) :
    Calls Try.prog 116 #[.string s, .string ⟨#[40]⟩] w fun e w' => e = .returned (.int .i64 (Lib.countByte s.data.toList 40 : Nat)) ∧ w = w' := by
  go_enter Try.func116, Try.ntmps116
  go_wp2
  rw [run_callFunc_extern Try.func139 (by kernel_rfl) (by kernel_rfl) (by kernel_rfl) (e := Extern.BytealgCount.count) (by kernel_rfl), Lib.run_countString]
  simp only [Result.andThen]
  rw [Oper.upon_value]
  go_wp2
  go_ret
  exact ⟨rfl, rfl⟩

theorem countCarets_any (t : Tr) (w : World) (_h : t.carets ≤ 1000) :
    Calls Try.prog 83 #[.string t.str] w (Gives (.int .i64 t.carets) w) := by
  have e : Hid (Lib.countByte t.str.data.toList 40 = t.carets) := by rw [show Hid _ = _ from rfl, Tr.str_list, ← text_count]; rfl
  go_enter Try.func83, Try.ntmps83
  go_wp2_with fail
  refine (count_any t.str _).mono ?_; rintro _ w1 ⟨rfl, rfl⟩
  rw [e.out]
  go_wp2_with fail
  go_ret
  exact ⟨rfl, Below.refl _ _⟩
end Go.Proofs.Ytkpganpojdboeaa

/-! Pair -/
namespace Go.Proofs.Ytkpganpojdboeaa
open Go.RowKit

/-- A pair of texts as a value. -/
abbrev pv (a b : ByteArray) : Value := .agg #[.string a, .string b]

theorem toPair_any (a b : ByteArray) (w : World) :
    Calls Try.prog 15 #[.agg #[.string a, .string b]] w (Gives (.agg #[.string a, .string b]) w) := by
  go_enter Try.func15, Try.ntmps15
  go_wp2
  refine bodyPost_ret (v := .agg #[.string a, .string b]) (by simp [results, Try.results15, go_sem]) rfl ⟨rfl, ?_⟩
  exact nxAlloc (nxAlloc (nxAlloc (Below.refl _ _) _) _) _

theorem szPair_any (a b : ByteArray) (w : World) (ha : a.size ≤ 9223372036854775807) (hb : b.size ≤ 9223372036854775807) (n : Int) (h0 : 0 ≤ n) (h1 : n ≤ 1048576) :
    Calls Try.prog 13 #[.agg #[.string a, .string b], .int .i64 n] w (Gives (.int .i64 (if (a.size : Int) + b.size ≤ n then n - a.size - b.size else -1)) w) := by
  by_cases h2 : n - a.size < 0
  · rw [if_neg (by omega)]
    go_enter Try.func13, Try.ntmps13
    go_wp2
    go_ret
    exact ⟨rfl, (Below.refl _ _).alloc (Nat.le_refl _) _⟩
  · by_cases h3 : n - a.size - b.size < 0
    · rw [if_neg (by omega)]
      go_enter Try.func13, Try.ntmps13
      go_wp2
      go_ret
      exact ⟨rfl, (Below.refl _ _).alloc (Nat.le_refl _) _⟩
    · rw [if_pos (by omega)]
      go_enter Try.func13, Try.ntmps13
      go_wp2
      go_ret
      exact ⟨rfl, (Below.refl _ _).alloc (Nat.le_refl _) _⟩

theorem eqPair_same (a b : ByteArray) (w : World) :
    Calls Try.prog 17 #[.agg #[.string a, .string b], .agg #[.string a, .string b]] w (Gives (.bool true) w) := by
  go_enter Try.func17, Try.ntmps17
  go_wp2
  go_ret
  exact ⟨rfl, ((Below.refl _ _).alloc (Nat.le_refl _) _).alloc (by simp) _⟩

theorem pairOf_isSome (a b : ByteArray) (t u : Tr) (ha : treeOf a = some t) (hb : treeOf b = some u) : (pairOf a b).isSome = ((t.carets : Int) == (u.carets : Int)) := by
  unfold pairOf
  rw [ha, hb, Bool.eq_iff_iff, beq_iff_eq]
  by_cases h : t.carets = u.carets
  · simp [h]
  · simp only [h, if_false]; simp; omega

set_option maxRecDepth 100000 in
set_option maxHeartbeats 1000000 in
theorem prGood_any (a b : ByteArray) (w : World) (ha : a.size ≤ 9223372036854775806) (hb : b.size ≤ 9223372036854775806) :
    Calls Try.prog 43 #[.agg #[.string a, .string b]] w (Gives (.bool (pairOf a b).isSome) w) := by
  cases h : treeOf a with
  | none =>
    have e : (pairOf a b).isSome = false := by unfold pairOf; rw [h]; rfl
    rw [e]
    have T := fun w => trIs_no a w ha h
    clear h e
    go_enter Try.func43, Try.ntmps43
    go_wp2_with fail
    go_quiet ((go_at_call 80; with_reducible exact quiet_eq (T _)))
    go_wp2_with fail
    go_ret
    exact ⟨rfl, drewB (nxAlloc (Below.refl _ _) _) _⟩
  | some t =>
    cases k : treeOf b with
    | none =>
      have e : (pairOf a b).isSome = false := by unfold pairOf; rw [h, k]; rfl
      rw [e]
      obtain ⟨rfl, hc⟩ := treeOf_some h
      have T := fun w => trIs_yes t w hc
      have U := fun w => trIs_no b w hb k
      clear h k e
      go_enter Try.func43, Try.ntmps43
      go_wp2_with fail
      go_quiet ((go_at_call 80; first | (with_reducible exact quiet_eq (T _)) | (with_reducible exact quiet_eq (U _))))
      go_wp2_with fail
      go_ret
      exact ⟨rfl, drewB (nxAlloc (Below.refl _ _) _) _⟩
    | some u =>
      rw [pairOf_isSome a b t u h k]
      obtain ⟨rfl, hc⟩ := treeOf_some h
      obtain ⟨rfl, hd⟩ := treeOf_some k
      have T := fun w => trIs_yes t w hc
      have U := fun w => trIs_yes u w hd
      have C := fun w => carets_str t w (by omega)
      have D := fun w => carets_str u w (by omega)
      clear h k
      go_enter Try.func43, Try.ntmps43
      go_wp2_with fail
      go_quiet ((first | (go_at_call 80; first | (with_reducible exact quiet_eq (T _)) | (with_reducible exact quiet_eq (U _))) | (go_at_call 61; first | (with_reducible exact quiet_eq (C _)) | (with_reducible exact quiet_eq (D _)))))
      go_wp2_with fail
      go_ret
      exact ⟨rfl, drewB (nxAlloc (Below.refl _ _) _) _⟩
end Go.Proofs.Ytkpganpojdboeaa

/-! TailS -/
namespace Go.Proofs.Ytkpganpojdboeaa
open Go.RowKit

theorem CellsS.len {base : Nat} {w : World} {v : Value} {ss : List ByteArray} (h : CellsS base w v ss) : (ss.length : Int) ≤ 9223372036854775807 := by
  rcases h with ⟨_, rfl⟩ | ⟨g, cap, _, _, _, h1, h2, _⟩
  · simp
  · unfold maxLen at h2; omega

/-- The marks from k on: n texts. -/
def marksS (k n : Nat) : List ByteArray := (List.range n).map fun i => markT (k + i)
theorem marksS_length (k n : Nat) : (marksS k n).length = n := by simp [marksS]
theorem marksS_getD (k : Nat) {n i : Nat} (h : i < n) : (marksS k n).getD i ⟨#[]⟩ = markT (k + i) := by simp [marksS, h]

theorem CellsS.keep {base : Nat} {w w' : World} {v : Value} {ss : List ByteArray} (h : CellsS base w v ss) (hb : Below w.heap.size w w') : CellsS base w' v ss := by
  rcases h with h | ⟨g, cap, h1, h2, h3, h4, h5, h6, h7⟩
  · exact .inl h
  · exact .inr ⟨g, cap, h1, h2, Nat.lt_of_lt_of_le h3 hb.size, h4, h5, fun i hi => (hb.cell (p := ⟨g, i, none⟩) h3).trans (h6 i hi), fun i => (hb.frozen (p := ⟨g, i, none⟩) h3).trans (h7 i)⟩

theorem marksS_set (k : Nat) (xs : List ByteArray) (j : Nat) (h : j < xs.length) : (marksS k j ++ xs.drop j).set j (markT (k + j)) = marksS k (j + 1) ++ xs.drop (j + 1) := by
  have hm := marksS_length k j
  have e1 : marksS k (j + 1) = marksS k j ++ [markT (k + j)] := by simp [marksS, List.range_succ]
  rw [List.set_append_right _ _ (by omega), hm, Nat.sub_self, e1, List.append_assoc]
  congr 1
  rw [List.drop_eq_getElem_cons h]
  rfl

theorem OwnS.set {base : Nat} {w : World} {g cap : Nat} {xs : List ByteArray} {n : Nat} (hn : xs.length = n) (h : OwnS base w (.slice (some ⟨g, 0, none⟩) n cap) xs) (j : Nat) (m : ByteArray) :
    OwnS base (w.setCell ⟨g, j, none⟩ (.string m)) (.slice (some ⟨g, 0, none⟩) n cap) (xs.set j m) := by
  unfold OwnS at *
  subst hn
  rw [List.length_set, List.map_set]
  exact (World.ownsRow.stored h j _).1

/-- A call that hands back a number, and leaves the slice v with other texts. -/
def MarkedS (base : Nat) (r : Int) (v : Value) (xs : List ByteArray) (w : World) (e : Ending) (w' : World) : Prop := e = .returned (.int .i64 r) ∧ OwnS base w' v xs ∧ Below base w w'

end Go.Proofs.Ytkpganpojdboeaa

/-! RegT -/
namespace Go.Proofs.Ytkpganpojdboeaa
open Go.RowKit

section
variable {P : Program} {ops : Array Oper} {md : Region.Mode} {C : World → Prop}

/-- Whatever order is drawn for the first n operations. -/
def headQ (P : Program) (md : Region.Mode) (ops : Array Oper) (C : World → Prop) (n : Nat) (L : Array Bool → Act → Prop) : Nat → Array Bool → Act → Prop
  | 0, listed, a => L listed a
  | f + 1, listed, a => Region.ready md ops listed ≠ [] ∧ ∀ i ∈ Region.ready md ops listed, i < n ∧ qOp P ops C i (headQ P md ops C n L f (listed.setIfInBounds i true)) a

theorem any_of_headQ {n g : Nat} {L : Array Bool → Act → Prop} {Q' : Exit → Act → World → Prop} (hL : ∀ listed a w, C w → L listed a → wpAny P md ops Q' g listed a w) :
    ∀ (f : Nat) (listed : Array Bool) (a : Act) (w : World), C w → headQ P md ops C n L f listed a → wpAny P md ops Q' (f + g) listed a w
  | 0, listed, a, w, hw, h => by rw [Nat.zero_add]; exact hL _ _ _ hw h
  | f + 1, listed, a, w, hw, h => by
    rw [Nat.add_right_comm]
    exact ⟨fun h0 => absurd h0 h.1, fun i hi => wpOp_of_qOp hw (fun a' w' hw' h' => any_of_headQ hL f _ a' w' hw' h') (h.2 i hi).2⟩

theorem headQ_first {n i : Nat} {oi : Oper} {v : Value} {L : Array Bool → Act → Prop} (hi : ops[i]? = some oi) (hsel : ∀ (j : Nat) (o : Oper) cs b, ops[j]? = some o → o.op ≠ .select cs b)
    (hs : Region.sinkB md ops n = true) (hc : Region.chainB md ops n = true) (hn : n < ops.size) (hin : i < n)
    (hdone : ∀ listed a, L listed a → ∀ j ∈ Region.ready md ops listed, n ≤ j) :
    ∀ (f : Nat) (listed : Array Bool) (a : Act), HeadInv md ops n listed →
      (∀ j oj, ops[j]? = some oj → j ≠ i → listed.getD j true = false → (∀ e ∈ oj.after, Region.binds md e = true → e.on ≠ i) → oi.apart ops oj = true) →
      i ∈ Region.ready md ops listed → YieldsIn P ops C oi v a →
      headQ P md ops C n L f (listed.setIfInBounds i true) (a.put oi.dst v) → headQ P md ops C n L (f + 1) listed a := by
  intro f
  induction f with
  | zero =>
    intro listed a inv _ hr hy H
    have hun := (mem_ready.1 hr).1
    refine ⟨(List.ne_nil_of_mem hr), fun j hj => ?_⟩
    have hjn : j < n := Nat.lt_of_not_le fun h => tail_waits hs hc hn inv _ i rfl hin hun j h hj
    refine ⟨hjn, ?_⟩
    by_cases hji : j = i
    · subst hji; exact hy.qOp hi H
    · have := hdone _ _ H j (ready_mono hj hji)
      omega
  | succ f ih =>
    intro listed a inv hfree hr hy H
    have hun := (mem_ready.1 hr).1
    refine ⟨(List.ne_nil_of_mem hr), fun j hj => ?_⟩
    have hjn : j < n := Nat.lt_of_not_le fun h => tail_waits hs hc hn inv _ i rfl hin hun j h hj
    refine ⟨hjn, ?_⟩
    by_cases hji : j = i
    · subst hji; exact hy.qOp hi H
    · have k1 := (H.2 j (ready_mono hj hji)).2
      obtain ⟨hjun, oj, hoj, hall⟩ := mem_ready.1 hj
      have hnot : ∀ e ∈ oj.after, Region.binds md e = true → e.on ≠ i := by
        intro e he hb heq
        have k2 := hall e he hb
        rw [heq, getD_both hun] at k2
        cases k2
      have k3 := qOp_put hoj (hfree j oj hoj hji hjun hnot) (fun cs b => hsel i oi cs b hi) (fun cs b => hsel j oj cs b hoj) hy k1
      refine qOp_mono (fun a' k4 => ih (listed.setIfInBounds j true) a' (inv.set hj hjn) ?_ (ready_mono hr (Ne.symm hji)) k4.1 ?_) k3
      · intro k ok hk hki hunk hno
        refine hfree k ok hk hki ?_ hno
        by_cases hjk : j = k
        · subst hjk; exact hjun
        · rw [getD_set_ne true hjk] at hunk; exact hunk
      · rw [Array.setIfInBounds_comm _ _ hji]
        exact k4.2

theorem headQ_lex {n g : Nat} {Lq : Act → Prop} (hsel : Region.noSelect ops = true) (hs : Region.sinkB md ops n = true) (hc : Region.chainB md ops n = true) (hn : n < ops.size) :
    ∀ (l : List Oper) (k : Nat) (listed : Array Bool) (a : Act), (∀ j, j < l.length → l[j]? = ops[k + j]?) → k + l.length = n → HeadInv md ops n listed →
    Region.lexHead md ops g l.length k listed = true → wpQuiet P ops C Lq l a →
    headQ P md ops C n (fun listed' a' => Region.seqB md ops g n listed' = true ∧ Lq a') l.length listed a
  | [], k, listed, a, _, hk, _, hB, h => by
    obtain rfl : k = n := by simpa using hk
    exact ⟨by simpa [Region.lexHead] using hB, h⟩
  | o :: l, k, listed, a, hl, hk, inv, hB, h => by
    have h0 : ops[k]? = some o := by simpa using (hl 0 (by simp)).symm
    simp only [List.length_cons, Region.lexHead, Bool.and_eq_true] at hB
    obtain ⟨⟨hr, hf⟩, hB'⟩ := hB
    have hkn : k < n := by simp only [List.length_cons] at hk; omega
    have hr' : k ∈ Region.ready md ops listed := by simpa using hr
    have hst : qOp P ops C k (wpQuiet P ops C Lq l) a := by unfold qOp; simp only [h0]; exact h
    obtain ⟨v, hy, hK⟩ := yieldsIn_of_qOp h0 hst
    refine headQ_first h0 (Region.noSelect_spec hsel) hs hc hn hkn (fun listed' a' hL => seqB_ready hL.1) l.length listed a inv (Region.free_spec h0 hf) hr' hy ?_
    refine headQ_lex hsel hs hc hn l (k + 1) _ _ (fun j hj => ?_) (by simp only [List.length_cons] at hk; omega) (inv.set hr' hkn) hB' hK
    have := hl (j + 1) (by simp; omega)
    simpa [Nat.add_assoc, Nat.add_comm 1 j] using this

/-- The first n operations are quiet in the class; the rest is walked in each of its worlds. -/
theorem wp_region_headQ {id : Nat} {Q : Exit → Act → World → Prop} {a : Act} {w : World} {l : List Oper} (n : Nat) (hm : P.follows .mixedOrders = true) (hB : Region.lexTailB .any l.toArray n = true) (hC : C w.drew)
    (h : wpQuiet P l.toArray C (fun a' => ∀ w', C w' → wpList P l.toArray Q (l.drop n) a' w') (l.take n) a) : (Code.region id l.toArray true).wp P Q a w := by
  simp only [Region.lexTailB, Bool.and_eq_true, decide_eq_true_eq] at hB
  obtain ⟨⟨⟨⟨hsel, hn⟩, hs⟩, hc⟩, hlex⟩ := hB
  have hn' : n < l.length := by simpa using hn
  have htl : (l.take n).length = n := by simp; omega
  have hdl : (l.drop n).length = l.toArray.size - n := by simp
  have inv0 : HeadInv .any l.toArray n (Array.replicate l.toArray.size false) := by
    refine ⟨by simp, fun j oj _ hl => ?_, fun t _ ht => getD_in (by simpa using ht) (getD_replicate_false _ _)⟩
    rw [getD_replicate_false] at hl; cases hl
  have H := headQ_lex (md := .any) (C := C) (g := l.toArray.size - n) hsel hs hc hn (l.take n) 0 _ a (fun j hj => by
    have hj' : j < n := by rw [htl] at hj; exact hj
    simp [hj']) (by simpa using htl) inv0 (by rw [htl]; exact hlex) h
  refine wp_region_any hm ?_
  have := any_of_headQ (Q' := Q) (g := l.toArray.size - n) (fun listed a' w' hw' hL => by
    have := wpAny_of_seq (md := .any) (Q' := Q) (l.drop n) n listed a' w' (fun j => by simp [List.getElem?_drop]) (by rw [hdl]; exact hL.1) (hL.2 w' hw')
    rwa [hdl] at this) _ _ _ _ hC H
  rw [htl, show n + (l.toArray.size - n) = l.toArray.size by omega] at this
  exact this
end

/-- The worlds that leave what was there. -/
def Cls (w w' : World) : Prop := Below w.heap.size w w'
theorem Cls.cell {w w' : World} (h : Cls w w') {g i : Nat} {v : Value} (hg : g < w.heap.size) (hc : w.cell? ⟨g, i, none⟩ = some v) : w'.cell? ⟨g, i, none⟩ = some v := (Below.cell h (p := ⟨g, i, none⟩) hg).trans hc
theorem Cls.call {P : Program} {f : FuncId} {args : Array Value} {w w' : World} {v : Value} (h : Cls w w') (k : Calls P f args w' (Gives v w')) : Calls P f args w' fun e w'' => e = .returned v ∧ Cls w w'' :=
  k.mono fun _ _ ⟨he, hb⟩ => ⟨he, nx h hb⟩

theorem wp_region_cls {P : Program} {id : Nat} {Q : Exit → Act → World → Prop} {a : Act} {w : World} {l : List Oper} (hm : P.follows .mixedOrders = true) (hB : Region.lexB .any l.toArray = true)
    (h : wpQuiet P l.toArray (Cls w) (fun a' => ∀ w', Cls w w' → Q .normal a' w') l a) : (Code.region id l.toArray true).wp P Q a w :=
  wp_region_quiet (C := Cls w) hm hB ((Below.refl _ _).drew) (by simpa using h)

theorem wp_region_clsT {P : Program} {id : Nat} {Q : Exit → Act → World → Prop} {a : Act} {w : World} {l : List Oper} (n : Nat) (hm : P.follows .mixedOrders = true) (hB : Region.lexTailB .any l.toArray n = true)
    (h : wpQuiet P l.toArray (Cls w) (fun a' => ∀ w', Cls w w' → wpList P l.toArray Q (l.drop n) a' w') (l.take n) a) : (Code.region id l.toArray true).wp P Q a w :=
  wp_region_headQ n hm hB ((Below.refl _ _).drew) h
end Go.Proofs.Ytkpganpojdboeaa

/-! Ps1 -/
namespace Go.Proofs.Ytkpganpojdboeaa
open Go.RowKit

set_option maxHeartbeats 2000000 in
theorem eqPairS_any (b1 b2 : Nat) (v1 v2 : Value) (xs : List Pr) (w : World) (h1 : CellsX 2 b1 w v1 xs.length (flatQ xs)) (h2 : CellsX 2 b2 w v2 xs.length (flatQ xs)) :
    Calls Try.prog 33 #[v1, v2] w (Gives (.bool true) w) := by
  rcases h1 with ⟨rfl, hn⟩ | ⟨g, cap, rfl, hb1, hg1, hc1, hm1, hx1, _⟩
  · rcases h2 with ⟨rfl, _⟩ | ⟨g, cap, rfl, hb1, hg1, hc1, hm1, hx1, _⟩
    all_goals
      simp only [hn] at *
      go_enter Try.func33, Try.ntmps33
      go_wp2_with fail
      go_loopw [5] (fun i wr => i = .int .i64 0 ∧ wr = w) (fun _ _ => 0)
      case atStart => exact ⟨rfl, rfl⟩
      case round =>
        obtain ⟨rfl, rfl⟩ := hrel
        go_wp2_with fail
        go_ret
        exact ⟨rfl, Below.refl _ _⟩
  · rcases h2 with ⟨rfl, hn⟩ | ⟨g2, cap2, rfl, hb2, hg2, hc2, hm2, hx2, _⟩
    · simp only [hn] at *
      go_enter Try.func33, Try.ntmps33
      go_wp2_with fail
      go_loopw [5] (fun i wr => i = .int .i64 0 ∧ wr = w) (fun _ _ => 0)
      case atStart => exact ⟨rfl, rfl⟩
      case round =>
        obtain ⟨rfl, rfl⟩ := hrel
        go_wp2_with fail
        go_ret
        exact ⟨rfl, Below.refl _ _⟩
    · have HX1 := Lib.hid hx1
      have HX2 := Lib.hid hx2
      unfold maxLen at hm1 hm2
      clear hx1 hx2
      go_enter Try.func33, Try.ntmps33
      go_wp2_with fail
      go_loopw [5] (fun i wr => ∃ k : Nat, k ≤ xs.length ∧ i = .int .i64 k ∧ Below w.heap.size w wr) (fun i _ => xs.length - (intOf i).toNat)
      case atStart => exact ⟨0, Nat.zero_le _, rfl, Below.refl _ _⟩
      case round =>
        obtain ⟨k, hk, rfl, hbw⟩ := hrel
        by_cases hlt : k < xs.length
        · have hlt' : (k : Int) < (xs.length : Int) := by omega
          have c1 := (hbw.cell (p := ⟨g, k * 2, none⟩) hg1).trans (HX1.out (k * 2) (by omega))
          have c2 := (hbw.cell (p := ⟨g, k * 2 + 1, none⟩) hg1).trans (HX1.out (k * 2 + 1) (by omega))
          have c3 := (hbw.cell (p := ⟨g2, k * 2, none⟩) hg2).trans (HX2.out (k * 2) (by omega))
          have c4 := (hbw.cell (p := ⟨g2, k * 2 + 1, none⟩) hg2).trans (HX2.out (k * 2 + 1) (by omega))
          rw [(flatQ_get xs k hlt).1] at c1 c3
          rw [(flatQ_get xs k hlt).2] at c2 c4
          generalize (xs.getD k (.lf, .lf)).1.str = x at *
          generalize (xs.getD k (.lf, .lf)).2.str = y at *
          have hgr : g < wr.heap.size := Nat.lt_of_lt_of_le hg1 hbw.size
          have hgr2 : g2 < wr.heap.size := Nat.lt_of_lt_of_le hg2 hbw.size
          have hE := fun w => eqPair_same x y w
          go_wp2_with fail
          refine wp_region_cls (by kernel_rfl) (by kernel_rfl) ?_
          repeat (
            refine wpQuiet_step (fun K hK => ?_)
            go_simp
            first
              | (refine hK _ ?_; clear hK K)
              | (refine ⟨_, fun _ _ => rfl, hK _ ?_⟩; clear hK K)
              | (apply Exists.intro
                 refine ⟨fun w' hw' => ?_, hK _ ?_⟩
                 · first
                     | (go_at_call 17; exact hw'.call (hE _))
                     | (rw [hw'.cell hgr c1]; dsimp only [Result.andThen]; rw [hw'.cell hgr c2]; exact ⟨rfl, rfl⟩)
                     | (rw [hw'.cell hgr2 c3]; dsimp only [Result.andThen]; rw [hw'.cell hgr2 c4]; exact ⟨rfl, rfl⟩)
                 clear hK K))
          refine wpQuiet_nil ?_
          intro w' hw'
          have hbw2 := nx hbw hw'
          go_wp2_with fail
          go_roundw
          case rel => exact ⟨k + 1, by omega, by go_num, hbw2⟩
          case measure => simp [intOf]; omega
        · obtain rfl : k = xs.length := by omega
          go_wp2_with fail
          go_ret
          exact ⟨rfl, hbw⟩


set_option maxHeartbeats 2000000 in
theorem heldPairS_any (b1 : Nat) (v1 : Value) (n k : Nat) (w : World) (hk0 : 0 < k) (hk1 : k ≤ 1000000000) (hn9 : n ≤ 100000000) (h1 : CellsX 2 b1 w v1 n (marksS k (n * 2))) :
    Calls Try.prog 35 #[v1, .int .i64 k] w (Gives (.int .i64 ((k + n * 2 : Nat) : Int)) w) := by
  rcases h1 with ⟨rfl, hn⟩ | ⟨g, cap, rfl, hb1, hg1, hc1, hm1, hx1, _⟩
  · subst hn
    go_enter Try.func35, Try.ntmps35
    go_wp2_with fail
    go_loopw [1, 5] (fun v i wr => v = .int .i64 k ∧ i = .int .i64 0 ∧ wr = w) (fun _ _ _ => 0)
    case atStart => exact ⟨rfl, rfl, rfl⟩
    case round =>
      obtain ⟨rfl, rfl, rfl⟩ := hrel
      go_wp2_with fail
      go_ret
      exact ⟨ret_int (by simp), Below.refl _ _⟩
  · have HX1 := Lib.hid hx1
    unfold maxLen at hm1
    clear hx1
    go_enter Try.func35, Try.ntmps35
    go_wp2_with fail
    go_loopw [1, 5] (fun v i wr => ∃ j : Nat, j ≤ n ∧ i = .int .i64 j ∧ v = .int .i64 ((k + j * 2 : Nat) : Int) ∧ Below w.heap.size w wr) (fun _ i _ => n - (intOf i).toNat)
    case atStart => exact ⟨0, Nat.zero_le _, rfl, by simp, Below.refl _ _⟩
    case round =>
      obtain ⟨j, hj, rfl, rfl, hbw⟩ := hrel
      by_cases hlt : j < n
      · have hlt' : (j : Int) < (n : Int) := by omega
        have c1 := (hbw.cell (p := ⟨g, j * 2, none⟩) hg1).trans (HX1.out (j * 2) (by omega))
        have c2 := (hbw.cell (p := ⟨g, j * 2 + 1, none⟩) hg1).trans (HX1.out (j * 2 + 1) (by omega))
        rw [marksS_getD k (by omega)] at c1 c2
        have hm1 := fun w => markText_any (k + j * 2) w (by omega) (by omega)
        have hm2 := fun w => markText_any (k + (j * 2 + 1)) w (by omega) (by omega)
        generalize markT (k + j * 2) = T1 at *
        generalize markT (k + (j * 2 + 1)) = T2 at *
        have hgr : g < wr.heap.size := Nat.lt_of_lt_of_le hg1 hbw.size
        go_wp2_with fail
        refine wp_region_cls (by kernel_rfl) (by kernel_rfl) ?_
        repeat (
          refine wpQuiet_step (fun K hK => ?_)
          go_simp
          first
            | (refine hK _ ?_; clear hK K)
            | (refine ⟨_, fun _ _ => rfl, hK _ ?_⟩; clear hK K)
            | (apply Exists.intro
               refine ⟨fun w' hw' => ?_, hK _ ?_⟩
               · first
                   | (rw [hw'.cell hgr c1]; exact ⟨rfl, rfl⟩)
                   | (go_at_call 69; exact hw'.call (hm1 _))
               clear hK K))
        refine wpQuiet_nil ?_
        intro w' hw'
        have hbw1 := nx hbw hw'
        have hgr1 : g < w'.heap.size := Nat.lt_of_lt_of_le hgr (Below.size hw')
        have c3 := (Below.cell (p := ⟨g, j * 2 + 1, none⟩) hw' hgr).trans c2
        have em : IntKind.i64.wrap (((k + j * 2 : Nat) : Int) + 1) = ((k + (j * 2 + 1) : Nat) : Int) := by rw [IntKind.wrap_i64]; omega
        have e3 : ((k + (j * 2 + 1) : Nat) : Int) = ((k + j * 2 : Nat) : Int) + 1 := by omega
        have e4 : ((k + (j * 2 + 1) : Nat) : Int) = (k : Int) + (j : Int) * 2 + 1 := by omega
        have hm3 := hm2
        have hm4 := hm2
        rw [e3] at hm3
        rw [e4] at hm4
        clear e3 e4
        clear c1 c2 hgr hw'
        generalize w' = w2 at *
        go_wp2_with fail
        refine wp_region_cls (by kernel_rfl) (by kernel_rfl) ?_
        repeat (
          refine wpQuiet_step (fun K hK => ?_)
          go_simp
          first
            | (refine hK _ ?_; clear hK K)
            | (refine ⟨_, fun _ _ => rfl, hK _ ?_⟩; clear hK K)
            | (apply Exists.intro
               refine ⟨fun w' hw' => ?_, hK _ ?_⟩
               · first
                   | (rw [hw'.cell hgr1 c3]; exact ⟨rfl, rfl⟩)
                   | (go_at_call 69; first | (with_reducible exact hw'.call (hm2 _)) | (with_reducible exact hw'.call (hm3 _)) | (with_reducible exact hw'.call (hm4 _)))
               clear hK K))
        refine wpQuiet_nil ?_
        intro w' hw'
        have hbw2 := nx hbw1 hw'
        go_wp2_with fail
        go_roundw
        case rel => exact ⟨j + 1, by omega, by go_num, by go_num, hbw2⟩
        case measure => simp [intOf]; omega
      · obtain rfl : j = n := by omega
        go_wp2_with fail
        go_ret
        exact ⟨rfl, hbw⟩


theorem OwnX.set {e : TypeId} {c base : Nat} {w : World} {g cap n : Nat} {L : List ByteArray} (h : OwnX e c base w (.slice (some ⟨g, 0, none⟩) n cap) n L) (j : Nat) (m : ByteArray) :
    OwnX e c base (w.setCell ⟨g, j, none⟩ (.string m)) (.slice (some ⟨g, 0, none⟩) n cap) n (L.set j m) := by
  unfold OwnX at *
  rw [List.map_set]
  exact (World.ownsRow.stored h j _).1
/-- A call that hands back a number, and leaves the slice v with other texts. -/
def MarkedQ (base : Nat) (r : Int) (v : Value) (n : Nat) (L : List ByteArray) (w : World) (e : Ending) (w' : World) : Prop := e = .returned (.int .i64 r) ∧ OwnX 25 2 base w' v n L ∧ Below base w w'
theorem OwnX.cell {e : TypeId} {c base : Nat} {w : World} {g cap n : Nat} {L : List ByteArray} (h : OwnX e c base w (.slice (some ⟨g, 0, none⟩) n cap) n L) (j : Nat) (hj : j < n * c) : (∃ x, w.cell? ⟨g, j, none⟩ = some x) ∧ w.frozen? ⟨g, j, none⟩ = false := by
  have hl := h.len
  refine ⟨⟨_, (World.ownsRow.cellAt h j hj).trans (List.getElem?_eq_getElem (by rw [List.length_map]; omega))⟩, World.ownsRow.frozenAt h j⟩

set_option maxHeartbeats 2000000 in
theorem markPairS_any (base : Nat) (v : Value) (xs : List Pr) (k : Nat) (w : World) (hk0 : 0 < k) (hk1 : k ≤ 1000000000) (hn9 : xs.length ≤ 100000000) (hbase : base ≤ w.heap.size) (h : OwnQ base w v xs) :
    Calls Try.prog 34 #[v, .int .i64 k] w (MarkedQ base ((k + xs.length * 2 : Nat) : Int) v xs.length (marksS k (xs.length * 2)) w) := by
  have hb0 := Below.refl base w
  have hL := flatQ_length xs
  unfold OwnQ at h
  generalize flatQ xs = L at *
  generalize xs.length = n at *
  rcases h.cells with ⟨rfl, rfl⟩ | ⟨g, cap, rfl, hb1, hg1, hc1, hm1, hx1, hf1⟩
  · have H := Lib.hid h
    have HL := Lib.hid hL
    clear h hL
    go_enter Try.func34, Try.ntmps34
    go_wp2_with fail
    go_loopw [1, 5] (fun v i wr => v = .int .i64 k ∧ i = .int .i64 0 ∧ wr = w) (fun _ _ _ => 0)
    case atStart => exact ⟨rfl, rfl, rfl⟩
    case round =>
      obtain ⟨rfl, rfl, rfl⟩ := hrel
      go_wp2_with fail
      go_ret
      refine ⟨ret_int (by simp), ?_, hb0⟩
      have hl : L = [] := List.length_eq_zero_iff.1 (by have := HL.out; omega)
      have := H.out
      rw [hl] at this
      exact this
  · unfold maxLen at hm1
    clear hx1 hf1 hg1
    have HL := Lib.hid hL
    have H := Lib.hid h
    clear h hL
    go_enter Try.func34, Try.ntmps34
    go_wp2_with fail
    go_loopw [1, 5] (fun v i wr => ∃ j : Nat, j ≤ n ∧ i = .int .i64 j ∧ v = .int .i64 ((k + j * 2 : Nat) : Int) ∧ Hid (OwnX 25 2 base wr (.slice (some ⟨g, 0, none⟩) n cap) n (marksS k (j * 2) ++ L.drop (j * 2))) ∧ Below base w wr) (fun _ i _ => n - (intOf i).toNat)
    case atStart => exact ⟨0, Nat.zero_le _, rfl, by simp, by show OwnX _ _ _ _ _ _ _; simpa [marksS] using H.out, hb0⟩
    case round =>
      obtain ⟨j, hj, rfl, rfl, hown, hbw⟩ := hrel
      by_cases hlt : j < n
      · have hlt' : (j : Int) < (n : Int) := by omega
        have hmt1 := fun w => markText_any (k + j * 2) w (by omega) (by omega)
        have hmt2 := fun w => markText_any (k + (j * 2 + 1)) w (by omega) (by omega)
        have hll := HL.out
        have s1 := marksS_set k L (j * 2) (by omega)
        have s2 := marksS_set k L (j * 2 + 1) (by omega)
        have S1 := Lib.hid s1
        have S2 := Lib.hid s2
        have HSZ := hbw.size
        have em : IntKind.i64.wrap (((k + j * 2 : Nat) : Int) + 1) = ((k + (j * 2 + 1) : Nat) : Int) := by rw [IntKind.wrap_i64]; omega
        clear s1 s2 hll
        go_wp2_with fail
        refine (hmt1 _).mono ?_; rintro e w1 ⟨rfl, hbm⟩
        have hown1 := OwnX.keep hown.out hbm
        obtain ⟨⟨x1, d1⟩, f1⟩ := OwnX.cell hown1 (j * 2) (by omega)
        have hset := OwnX.set hown1 (j * 2) (markT (k + j * 2))
        rw [S1.out] at hset
        have hbw1 : Below base w (w1.setCell ⟨g, j * 2, none⟩ (.string (markT (k + j * 2)))) := (hbw.trans (hbm.mono (by omega))).setCell (by exact hb1) _
        have hsz1 := hbw1.size
        clear hown1 hown
        go_wp2_with fail
        clear d1 f1
        generalize w1.setCell ⟨g, j * 2, none⟩ (.string (markT (k + j * 2))) = w2 at *
        refine (hmt2 _).mono ?_; rintro e w3 ⟨rfl, hbm3⟩
        have hown3 := OwnX.keep hset hbm3
        obtain ⟨⟨x2, d2⟩, f2⟩ := OwnX.cell hown3 (j * 2 + 1) (by omega)
        have hset2 := OwnX.set hown3 (j * 2 + 1) (markT (k + (j * 2 + 1)))
        rw [S2.out] at hset2
        have hbw2 : Below base w (w3.setCell ⟨g, j * 2 + 1, none⟩ (.string (markT (k + (j * 2 + 1))))) := (hbw1.trans (hbm3.mono (by omega))).setCell (by exact hb1) _
        have HSET := Lib.hid hset2
        clear hown3 hset hset2
        go_wp2_with fail
        go_roundw
        case rel => exact ⟨j + 1, by omega, by go_num, by go_num, (by rw [show (j + 1) * 2 = j * 2 + 1 + 1 by omega]; exact HSET), hbw2⟩
        case measure => simp [intOf]; omega
      · obtain rfl : j = n := by omega
        have hend : Hid (OwnX 25 2 base wr (.slice (some ⟨g, 0, none⟩) j cap) j (marksS k (j * 2))) := by
          have h1 := hown.out
          rw [List.drop_of_length_le (by rw [HL.out]; exact Nat.le_refl _), List.append_nil] at h1
          exact h1
        go_wp2_with fail
        go_ret
        exact ⟨rfl, hend.out, hbw⟩
end Go.Proofs.Ytkpganpojdboeaa

/-! CountP -/
namespace Go.Proofs.Ytkpganpojdboeaa

/-- p choose k, step by step. -/
def chM (p : Nat) : Nat → Nat
  | 0 => 1
  | k + 1 => chM p k * (p - k) / (k + 1)

/-- How many lists of t trees have c carets together. -/
def listsN (t c : Nat) : Nat := chM (2 * c + t) c * t / (2 * c + t)

/-- How many trees have k carets. -/
def catN : Nat → Nat
  | 0 => 1
  | k + 1 => catN k * 2 * (2 * k + 1) / (k + 2)

theorem chM_le (p : Nat) (hp : p ≤ 40) : ∀ k, k ≤ 8 → chM p k ≤ 40 ^ k := by
  intro k
  induction k with
  | zero => intro _; simp [chM]
  | succ k ih =>
    intro h
    have h1 := ih (by omega)
    rw [chM, Nat.pow_succ]
    refine Nat.le_trans (Nat.div_le_self _ _) ?_
    exact Nat.mul_le_mul h1 (by omega)

theorem chM_bd (p k : Nat) (hp : p ≤ 40) (hk : k ≤ 8) : chM p k ≤ 6553600000000 := by
  have h1 := chM_le p hp k hk
  have h2 : 40 ^ k ≤ 40 ^ 8 := Nat.pow_le_pow_right (by omega) hk
  have h3 : (40 : Nat) ^ 8 = 6553600000000 := by decide
  omega

theorem catN_bd : ∀ k, k ≤ 8 → catN k ≤ 1430 := by decide
theorem lists_cat : ∀ k, k ≤ 8 → listsN 1 k = catN k := by decide

end Go.Proofs.Ytkpganpojdboeaa
